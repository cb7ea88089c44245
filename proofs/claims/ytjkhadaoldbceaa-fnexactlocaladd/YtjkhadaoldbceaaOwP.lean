
/- Elements of a row that is owned: looked at, and put anew. It holds over every program. -/
import Derived.Test.YtjkhadaoldbceaaOwG
namespace Go.Proofs.Ytjkhadaoldbceaa
open Go.RowKit

/-- Row i is G. -/
def updR {β : Type} (F : Nat → β) (i : Nat) (G : β) : Nat → β := fun a => if a = i then G else F a
theorem updR_at {β : Type} (F : Nat → β) (i : Nat) (G : β) : updR F i G i = G := if_pos rfl
theorem updR_ne {β : Type} (F : Nat → β) (i : Nat) (G : β) {a : Nat} (h : a ≠ i) : updR F i G a = F a := if_neg h
/-- The elements lie in block g. -/
structure OWB {α : Type} (T K : Nat) (own : (Nat → Prop) → World → (Nat → Value) → α → Prop) (S : Nat → Prop) (w : World) (g cap : Nat) (xs : List α) (F : Nat → Nat → Value) (N : Nat → Nat → Prop) : Prop where
  le : xs.length ≤ cap
  mx : cap ≤ maxLen
  at_ : S g
  blk : Blk w g T K cap xs.length F
  dis : ∀ i j b, i ≠ j → N i b → ¬ N j b
  rng : ∀ i b, N i b → S b ∧ b ≠ g
  own : ∀ (i : Nat) x, xs[i]? = some x → own (N i) w (F i) x
section
variable {α : Type} {T K : Nat} {own : (Nat → Prop) → World → (Nat → Value) → α → Prop} {S : Nat → Prop} {w w' : World} {g cap : Nat} {xs : List α} {F : Nat → Nat → Value} {N : Nat → Nat → Prop}
theorem OW.cases {v : Value} (h : OW T K own S w v xs) : (∃ (a : Option Addr) (c : Nat), v = .slice a 0 c ∧ (a = none ∧ c = 0) ∧ xs = []) ∨ ∃ g cap F N, v = .slice (some ⟨g, 0, none⟩) xs.length cap ∧ OWB T K own S w g cap xs F N := by
  rcases h with h | ⟨g, cap, F, N, hv, hl, hm, hg, hB, hN, hS, hF⟩
  · exact .inl h
  · exact .inr ⟨g, cap, F, N, hv, hl, hm, hg, hB, hN, hS, hF⟩
theorem OWB.ow (h : OWB T K own S w g cap xs F N) : OW T K own S w (.slice (some ⟨g, 0, none⟩) xs.length cap) xs := .inr ⟨g, cap, F, N, rfl, h.le, h.mx, h.at_, h.blk, h.dis, h.rng, h.own⟩
theorem OWB.cell (h : OWB T K own S w g cap xs F N) (i j : Nat) (hi : i < xs.length) (hj : j < K) : w.cell? ⟨g, i * K + j, none⟩ = some (F i j) := by
  obtain ⟨cur, h1, _, h3⟩ := h.blk
  rw [cell_of_row w g _ cur _ (0, 0) h1]
  exact h3 i hi j hj
theorem OWB.mono {R : Nat → Prop} (h : OWB T K own S w g cap xs F N) (k : ∀ b, S b → R b) : OWB T K own R w g cap xs F N := ⟨h.le, h.mx, k g h.at_, h.blk, h.dis, fun i b hb => ⟨k b (h.rng i b hb).1, (h.rng i b hb).2⟩, h.own⟩
theorem OWB.keep {R : Nat → Prop} (hk : Keeps own) (h : OWB T K own S w g cap xs F N) (t : Trn R w w') (d : ∀ b, S b → ¬ R b) : OWB T K own S w' g cap xs F N :=
  ⟨h.le, h.mx, h.at_, blk_kept h.blk (t.block g (blk_lt h.blk) (d g h.at_)), h.dis, h.rng, fun i x hx => hk _ _ _ _ _ _ (h.own i x hx) t (fun b hb => d b (h.rng i b hb).1)⟩
theorem OWB.ext (hk : Keeps own) (h : OWB T K own S w g cap xs F N) (e : Ext w w') : OWB T K own S w' g cap xs F N := h.keep hk (R := fun _ => False) (Trn.ext e) (fun _ _ h => h)
/-- Element i put anew: its cells, and what it owns, out of what it owned and of R. -/
theorem OWB.put {i : Nat} {G : Nat → Value} {M R : Nat → Prop} {x : α} (hk : Keeps own) (h : OWB T K own S w g cap xs F N) (hi : i < xs.length) (hb : Blk w' g T K cap xs.length (updR F i G)) (ho : own M w' G x) (hM : ∀ b, M b → b ≠ g ∧ (N i b ∨ R b)) (hR : ∀ b, R b → ¬ S b) (t : Trn (fun b => b = g ∨ N i b) w w') :
    OWB T K own (fun b => S b ∨ R b) w' g cap (xs.set i x) (updR F i G) (updR N i M) := by
  refine ⟨by rw [List.length_set]; exact h.le, h.mx, .inl h.at_, by rw [List.length_set]; exact hb, fun a c b hac ha hc => ?_, fun a b hb => ?_, fun a y hy => ?_⟩
  · by_cases e1 : a = i
    · subst e1
      rw [updR_at] at ha
      rw [updR_ne _ _ _ (Ne.symm hac)] at hc
      rcases (hM b ha).2 with k | k
      · exact h.dis a c b hac k hc
      · exact hR b k (h.rng c b hc).1
    · rw [updR_ne _ _ _ e1] at ha
      by_cases e2 : c = i
      · subst e2
        rw [updR_at] at hc
        rcases (hM b hc).2 with k | k
        · exact h.dis a c b hac ha k
        · exact hR b k (h.rng a b ha).1
      · rw [updR_ne _ _ _ e2] at hc
        exact h.dis a c b hac ha hc
  · by_cases e1 : a = i
    · subst e1
      rw [updR_at] at hb
      rcases hM b hb with ⟨k1, k2 | k2⟩
      · exact ⟨.inl (h.rng a b k2).1, k1⟩
      · exact ⟨.inr k2, k1⟩
    · rw [updR_ne _ _ _ e1] at hb
      exact ⟨.inl (h.rng a b hb).1, (h.rng a b hb).2⟩
  · by_cases e1 : a = i
    · subst e1
      rw [List.getElem?_set_self hi] at hy
      cases hy
      rw [updR_at, updR_at]
      exact ho
    · rw [List.getElem?_set_ne (Ne.symm e1)] at hy
      rw [updR_ne _ _ _ e1, updR_ne _ _ _ e1]
      exact hk _ _ _ _ _ _ (h.own a y hy) t (fun b hb e => by
        rcases e with e | e
        · exact (h.rng a b hb).2 e
        · exact h.dis a i b e1 hb e)
theorem blk_congr {n : Nat} {F G : Nat → Nat → Value} (h : Blk w g T K cap n F) (e : ∀ a, a < n → ∀ c, c < K → F a c = G a c) : Blk w g T K cap n G := by
  obtain ⟨cur, h1, h2, h3⟩ := h
  exact ⟨cur, h1, h2, fun a ha c hc => by rw [← e a ha c hc]; exact h3 a ha c hc⟩
end

end Go.Proofs.Ytjkhadaoldbceaa
