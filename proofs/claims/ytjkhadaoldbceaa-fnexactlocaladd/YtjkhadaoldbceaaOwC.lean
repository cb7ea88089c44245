
/- Checks and services as elements that own parts. -/
import Derived.Test.YtjkhadaoldbceaaOwG
import Derived.Test.YtjkhadaoldbceaaMkS
namespace Go.Proofs.Ytjkhadaoldbceaa
open Go.RowKit

def ownC (N : Nat → Prop) (w : World) (G : Nat → Value) (s : DChk) : Prop := OwS N w (G 0) s.name ∧ G 1 = .int .i64 s.ttl ∧ G 2 = .int .i64 s.most ∧ G 3 = .int .i64 s.st ∧ G 4 = .int .i64 s.age ∧ G 5 = .int .i64 s.fails
theorem keepsC : Keeps ownC := fun _ _ _ _ _ _ h t d => ⟨h.1.keep t d, h.2⟩
theorem okd_iff {S : Nat → Prop} {w : World} {v : Value} {cs : List DChk} : OKD S w v cs ↔ OW 43 6 ownC S w v cs := Iff.rfl
def ownV (N : Nat → Prop) (w : World) (G : Nat → Value) (s : DSvc) : Prop := ∃ A B : Nat → Prop, OwS A w (G 0) s.name ∧ OKD B w (G 1) s.checks ∧ (∀ b, A b → ¬ B b) ∧ (∀ b, A b → N b) ∧ ∀ b, B b → N b
theorem keepsV : Keeps ownV := fun _ _ _ _ _ _ ⟨A, B, h1, h2, h3, h4, h5⟩ t d => ⟨A, B, h1.keep t (fun b hb => d b (h4 b hb)), h2.keep t (fun b hb => d b (h5 b hb)), h3, h4, h5⟩
def altN (A B : Nat → Nat → Prop) (a : Nat) : Nat → Prop := if a % 2 = 0 then A (a / 2) else B (a / 2)
theorem altN_even (A B : Nat → Nat → Prop) (i : Nat) : altN A B (2 * i) = A i := by
  unfold altN
  rw [if_pos (by omega), show 2 * i / 2 = i by omega]
theorem altN_odd (A B : Nat → Nat → Prop) (i : Nat) : altN A B (2 * i + 1) = B i := by
  unfold altN
  rw [if_neg (by omega), show (2 * i + 1) / 2 = i by omega]
theorem osd_of {S : Nat → Prop} {w : World} {v : Value} {ss : List DSvc} (h : OW 54 2 ownV S w v ss) : OSD S w v ss := by
  rcases h with h | ⟨g, cap, F, N, hv, hl, hm, hg, hB, hN, hS, hF⟩
  · exact .inl h
  · have hc : ∀ i : Nat, ∃ A B : Nat → Prop, (∀ s, ss[i]? = some s → OwS A w (F i 0) s.name ∧ OKD B w (F i 1) s.checks) ∧ (∀ b, A b → ¬ B b) ∧ (∀ b, A b → N i b) ∧ ∀ b, B b → N i b := fun i => by
      cases hs : ss[i]? with
      | none => exact ⟨fun _ => False, fun _ => False, fun s h => (by cases h), fun _ h => h.elim, fun _ h => h.elim, fun _ h => h.elim⟩
      | some s =>
        obtain ⟨A, B, h1, h2, h3, h4, h5⟩ := hF i s hs
        exact ⟨A, B, fun s' h => (by cases h; exact ⟨h1, h2⟩), h3, h4, h5⟩
    obtain ⟨A, hA⟩ := Classical.axiomOfChoice hc
    obtain ⟨B, hB2⟩ := Classical.axiomOfChoice hA
    have hin : ∀ a b, altN A B a b → N (a / 2) b := fun a b h => by
      rcases (show a = 2 * (a / 2) ∨ a = 2 * (a / 2) + 1 by omega) with e | e
      · rw [e, altN_even] at h
        exact (hB2 (a / 2)).2.2.1 b h
      · rw [e, altN_odd] at h
        exact (hB2 (a / 2)).2.2.2 b h
    refine .inr ⟨g, cap, F, altN A B, hv, hl, hm, hg, hB, fun a c b hac ha hc => ?_, fun a b hb => hS _ b (hin a b hb), fun i s hs => ?_⟩
    · by_cases e : a / 2 = c / 2
      · rcases (show a = 2 * (a / 2) ∨ a = 2 * (a / 2) + 1 by omega) with pa | pa
        · have pc : c = 2 * (a / 2) + 1 := by omega
          rw [pa, altN_even] at ha
          rw [pc, altN_odd] at hc
          exact (hB2 (a / 2)).2.1 b ha hc
        · have pc : c = 2 * (a / 2) := by omega
          rw [pa, altN_odd] at ha
          rw [pc, altN_even] at hc
          exact (hB2 (a / 2)).2.1 b hc ha
      · exact hN _ _ b e (hin a b ha) (hin c b hc)
    · have h1 := (hB2 i).1 s hs
      exact ⟨by rw [altN_even]; exact h1.1, by rw [altN_odd]; exact h1.2⟩
theorem ow_osd {S : Nat → Prop} {w : World} {v : Value} {ss : List DSvc} (h : OSD S w v ss) : OW 54 2 ownV S w v ss := by
  rcases h with h | ⟨g, cap, F, M, hv, hl, hm, hg, hB, hN, hS, hF⟩
  · exact .inl h
  · refine .inr ⟨g, cap, F, fun i b => M (2 * i) b ∨ M (2 * i + 1) b, hv, hl, hm, hg, hB, fun i j b hij hi hj => ?_, fun i b hb => ?_, fun i s hs => ?_⟩
    · rcases hi with hi | hi <;> rcases hj with hj | hj
      · exact hN _ _ b (by omega) hi hj
      · exact hN _ _ b (by omega) hi hj
      · exact hN _ _ b (by omega) hi hj
      · exact hN _ _ b (by omega) hi hj
    · rcases hb with hb | hb <;> exact hS _ b hb
    · obtain ⟨h1, h2⟩ := hF i s hs
      exact ⟨M (2 * i), M (2 * i + 1), h1, h2, fun b h1 h2 => hN _ _ b (by omega) h1 h2, fun b h => .inl h, fun b h => .inr h⟩
theorem osd_iff {S : Nat → Prop} {w : World} {v : Value} {ss : List DSvc} : OSD S w v ss ↔ OW 54 2 ownV S w v ss := ⟨ow_osd, osd_of⟩

end Go.Proofs.Ytjkhadaoldbceaa
