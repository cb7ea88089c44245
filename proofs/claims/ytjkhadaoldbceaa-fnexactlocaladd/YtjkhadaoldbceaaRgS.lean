
/- A region that draws its order, walked by segments: what only reads is taken in the order of the text, over a class of worlds; where one call alone may come up it is met by its contract, whatever it answers. It holds over every program. -/
import Derived.Deep.RegionHeld3
import Derived.BigQuiet
import Derived.Test.YtjkhadaoldbceaaQB
namespace Go.Proofs.Ytjkhadaoldbceaa
open Go.RowKit

section
variable {P : Program} {ops : Array Oper} {Q : Exit → Act → World → Prop} {md : Region.Mode} {S : World → Prop}

/-- An operation that yields a value, or dies: no call, no store. -/
def plainOp (o : Oper) : Bool := match o.op with
  | .move _ | .assign _ | .pick _ _ _ | .load _ _ | .build _ _ | .binOp _ _ _ _ _ | .unOp _ _ _ | .convert _ _ _ | .fieldAddr _ _ _ | .field _ _ _ | .indexAddr _ _ _ | .index _ _ _ | .extract _ _ | .slice _ _ _ _ _ | .makeInterface _ _ => true
  | .call c => match c.callee with
    | .builtin .len => true
    | _ => false
  | _ => false

theorem run_v {s : Sem Value} {w w' : World} {n : Next} (h : (do let x ← s; pure (Next.value x) : Sem Next).run P w = .ok n w') : ∃ v, n = .value v := by
  rw [Sem.run_bind] at h
  generalize s.run P w = r at h
  cases r with
  | ok x w1 => simp only [Result.andThen_ok, Sem.run_pure] at h; injection h with h1 h2; exact ⟨x, h1.symm⟩
  | halt x w1 => simp only [Result.andThen_halt] at h; cases h

theorem plain_value {o : Oper} (hp : plainOp o = true) {ρ : Operand → Value} {w w' : World} {n : Next} (h : (execOp ρ o).run P w = .ok n w') : ∃ v, n = .value v := by
  unfold plainOp at hp
  unfold execOp at h
  split at hp
  all_goals (try (cases hp; done))
  all_goals (rename_i e)
  case h_1 => simp only [e] at h; exact run_v (s := pure _) h
  case h_2 => simp only [e] at h; exact run_v (s := pure _) h
  case h_3 c a b =>
    simp only [e] at h
    rw [Sem.run_bind] at h
    generalize (asBool (ρ c)).run P w = r at h
    cases r with
    | ok x w1 => simp only [Result.andThen_ok] at h; split at h <;> (simp only [Sem.run_pure] at h; injection h with h1 h2; exact ⟨_, h1.symm⟩)
    | halt x w1 => simp only [Result.andThen_halt] at h; cases h
  case h_6 => simp only [e] at h; rw [Sem.run_bind] at h; exact run_v (s := do _; _) (by rw [Sem.run_bind]; exact h)
  case h_16 c =>
    split at hp
    · rename_i e2
      simp only [e] at h
      unfold resolve at h
      simp only [e2] at h
      exact run_v h
    · cases hp
  all_goals (simp only [e] at h; exact run_v h)

theorem yieldsIf_of_quiet {o : Oper} {a : Act} {v : Value} (hp : plainOp o = true) (hw : Region.wanted o (yielded ops a.tmps) = true) (h : ∀ w, S w → o.quietAt P a S w v) : YieldsIf P ops S o v a :=
  .inl ⟨hw, fun w hS => by
    have h1 := h w hS
    unfold Oper.quietAt at h1
    generalize hr : (execOp a.eval o).run P w = r at h1
    cases r with
    | ok n w' =>
      obtain ⟨u, rfl⟩ := plain_value hp hr
      simp only [Oper.quietUpon] at h1
      obtain ⟨rfl, rfl⟩ := h1
      rfl
    | halt x w' => exact h1.elim⟩

/-- The operations from number k on, so many, may be taken one behind the other. -/
def segFrom (md : Region.Mode) (ops : Array Oper) : List Oper → Nat → Array Bool → Bool
  | [], _, _ => true
  | o :: l, k, listed => (Region.ready md ops listed).contains k && Region.free md ops listed k && plainOp o && segFrom md ops l (k + 1) (listed.setIfInBounds k true)
def segList : Nat → Nat → Array Bool → Array Bool
  | 0, _, l => l
  | n + 1, k, l => segList n (k + 1) (l.setIfInBounds k true)

theorem wpAnyH_segL (hs : Region.noSelect ops = true) (hQ : ∀ c (a : Act) (d : Option Tmp) (v : Value) (w : World), Q (.panic c) (a.put d v) w → Q (.panic c) a w) :
    ∀ (l : List Oper) (k fuel : Nat) (listed : Array Bool) (a : Act) (w : World), (∀ j, j < l.length → l[j]? = ops[k + j]?) → segFrom md ops l k listed = true → S w →
      wpQuiet P ops S (fun a' => wpAnyH P md ops Q S fuel (segList l.length k listed) a' w) l a → wpAnyH P md ops Q S (fuel + l.length) listed a w
  | [], _, _, _, _, _, _, _, _, h => h
  | o :: l, k, fuel, listed, a, w, hl, hB, hS, h => by
    have h0 : ops[k]? = some o := by simpa using (hl 0 (by simp)).symm
    simp only [segFrom, Bool.and_eq_true] at hB
    obtain ⟨⟨⟨hr, hf⟩, hp⟩, hB'⟩ := hB
    have hl' : ∀ j, j < l.length → l[j]? = ops[k + 1 + j]? := fun j hj => by
      have := hl (j + 1) (by simp; omega)
      simpa [Nat.add_assoc, Nat.add_comm 1 j] using this
    have hy : ∃ v, YieldsIf P ops S o v a ∧ wpQuiet P ops S (fun a' => wpAnyH P md ops Q S fuel (segList (l.length + 1) k listed) a' w) l (a.put o.dst v) := by
      unfold wpQuiet at h
      split at h
      · rename_i hw
        obtain ⟨v, h1, h2⟩ := h
        exact ⟨v, yieldsIf_of_quiet hp hw h1, h2⟩
      · rename_i hw
        exact ⟨undef, .inr ⟨by simpa using hw, rfl⟩, h⟩
    obtain ⟨v, hy, hK⟩ := hy
    exact wpAnyH_first h0 (Region.noSelect_spec hs) (fun c a w => hQ c a _ _ w) (fuel + l.length) listed a w (Region.free_spec h0 hf) (by simpa using hr) hy hS
      (wpAnyH_segL hs hQ l (k + 1) fuel _ _ w hl' hB' hS hK)

/-- A segment: n operations from number k on. -/
theorem wpAnyH_seg (k n fuel : Nat) {F : Nat} {listed : Array Bool} {a : Act} {w : World} (hF : F = fuel + n) (hs : Region.noSelect ops = true)
    (hn : ((ops.toList.drop k).take n).length = n) (hB : segFrom md ops ((ops.toList.drop k).take n) k listed = true)
    (hQ : ∀ c (a : Act) (d : Option Tmp) (v : Value) (w : World), Q (.panic c) (a.put d v) w → Q (.panic c) a w) (hS : S w)
    (h : wpQuiet P ops S (fun a' => wpAnyH P md ops Q S fuel (segList n k listed) a' w) ((ops.toList.drop k).take n) a) : wpAnyH P md ops Q S F listed a w := by
  subst hF
  have h1 := wpAnyH_segL (P := P) (Q := Q) (S := S) hs hQ ((ops.toList.drop k).take n) k fuel listed a w (fun j hj => by
    rw [hn] at hj
    rw [List.getElem?_take_of_lt hj, List.getElem?_drop]
    simp) hB hS (by rw [hn]; exact h)
  rw [hn] at h1
  exact h1

/-- One operation alone may come up. -/
theorem wpAnyH_one (i fuel : Nat) {F : Nat} {listed : Array Bool} {a : Act} {w : World} {o : Oper} (hF : F = fuel + 1) (hr : Region.ready md ops listed = [i]) (ho : ops[i]? = some o)
    (h : ∀ K' : Act → World → Prop, Shut (∀ a w, S w → (S w → wpAnyH P md ops Q S fuel (listed.setIfInBounds i true) a w) → K' a w) → if Region.wanted o (yielded ops a.tmps) = true then Oper.wp P o a w K' Q else K' (a.put o.dst undef) w) :
    wpAnyH P md ops Q S F listed a w := by
  subst hF
  exact wpAnyH_ready hr (by simp) (AllReadyH.cons ho h AllReadyH.nil)
/-- An operation that its guard strikes: number i, whose slot is t. -/
theorem wpAnyH_struck (i t fuel : Nat) {F : Nat} {listed : Array Bool} {a : Act} {w : World} (hF : F = fuel + 1) (ho : (ops[i]?).map (fun o => o.dst) = some (some t)) (hs : Region.noSelect ops = true)
    (hf : Region.free md ops listed i = true) (hr : (Region.ready md ops listed).contains i = true)
    (hQ : ∀ c (a : Act) (d : Option Tmp) (v : Value) (w : World), Q (.panic c) (a.put d v) w → Q (.panic c) a w) (hw : (ops[i]?).map (fun o => Region.wanted o (yielded ops a.tmps)) = some false) (hS : S w)
    (h : wpAnyH P md ops Q S fuel (listed.setIfInBounds i true) (a.put (some t) undef) w) : wpAnyH P md ops Q S F listed a w := by
  subst hF
  obtain ⟨o, h1, h2⟩ := Option.map_eq_some_iff.1 ho
  obtain ⟨o', h3, h4⟩ := Option.map_eq_some_iff.1 hw
  rw [h1] at h3
  cases h3
  exact wpAnyH_take h1 hs hf hr (fun c a w => hQ c a _ _ w) (.inr ⟨h4, rfl⟩) hS (by rw [h2]; exact h)
theorem wpAnyH_end {F : Nat} {listed : Array Bool} {a : Act} {w : World} (hr : Region.ready md ops listed = []) (h : Q .normal a w) : wpAnyH P md ops Q S F listed a w := wpAnyH_done hr h F

theorem wpAnyH_endN {F : Nat} {listed : Array Bool} {a : Act} {w : World} (hr : Region.ready md ops listed = []) (h : Q .normal a w) : wpAnyH P md ops (NoPanic Q) S F listed a w := wpAnyH_done hr (NoPanic.normal h) F
/-- A region, by segments. -/
theorem wp_region_seg {id : Nat} {a : Act} {w : World} (hm : P.follows .mixedOrders = true) (hS : S w.drew)
    (h : S w.drew → wpAnyH P .any ops (NoPanic Q) S ops.size (Array.replicate ops.size false) a w.drew) : (Code.region id ops true).wp P Q a w :=
  wp_region_noPanic (wp_region_held_drew hm hS h)

/-- The class of the worlds that grew out of one. -/
def inBW (u : World) (w : World) : Prop := ∃ p : BW u, w = p.u
theorem inBW_of {u w : World} (h : Below u.heap.size u w) : ∃ p : BW u, w = p.u := ⟨⟨w, h⟩, rfl⟩
theorem inBW_drew (u : World) : ∃ p : BW u, u.drew = p.u := ⟨⟨_, below_drew1 u⟩, rfl⟩

end

/-- A world that grew out of w, but for blocks of S. -/
structure TW (S : Nat → Prop) (w : World) where
  u : World
  os : u.os = w.os
  size : w.heap.size ≤ u.heap.size
  block : ∀ k, k < w.heap.size → ¬ S k → u.heap[k]? = w.heap[k]?
theorem tw_ne (S : Nat → Prop) (w : World) : Nonempty (TW S w) := ⟨⟨w, rfl, Nat.le_refl _, fun _ _ _ => rfl⟩⟩
theorem tw_drew (S : Nat → Prop) (w : World) : ∃ p : TW S w, w.drew = p.u := ⟨⟨w.drew, rfl, Nat.le_refl _, fun _ _ _ => rfl⟩, rfl⟩
theorem tw_cell {S : Nat → Prop} {w : World} {g i : Nat} {v : Value} (h : w.cell? ⟨g, i, none⟩ = some v) (hn : ¬ S g) (p : TW S w) : p.u.cell? ⟨g, i, none⟩ = some v := by
  have hl : g < w.heap.size := World.block_lt_of_cell? w ⟨g, i, none⟩ h
  have h1 := p.block g hl hn
  simp only [World.cell?] at h ⊢
  rw [h1]
  exact h

end Go.Proofs.Ytjkhadaoldbceaa
