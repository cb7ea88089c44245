/- A server falls: words for the program's Fall. -/
import Derived.Test.YtplgnohncdfgcamFb
import Derived.Test.YtplgnohncdfgcamNdC0
namespace Go.Proofs.Ytplgnohncdfgcam
open Go.RowKit

/-- What a Fall leaves: the server that fell, or nothing. -/
def FaPost (M : DNode) (s : Int) (w : World) (e : Ending) (w' : World) : Prop := ∃ v', e = .returned v' ∧ ((NodeP M s ∧ FalN w.heap.size w' v' M s.toNat) ∨ (¬ NodeP M s ∧ v' = zeroV)) ∧ Below w.heap.size w w'
theorem nodeP_n {M : DNode} {s : Int} (h : NodeP M s) : (1 ≤ s ∧ s ≤ 5) ∧ 0 ≤ M.id ∧ M.id < s := by
  have := h.1
  unfold NHeadP at this
  omega
theorem IG.shape {base : Nat} {w : World} {v : Value} {ss : List DItem} {F : Nat → Nat → Value} (h : IG base w v ss F) : ∃ a c, v = .slice a ss.length c := by
  rcases h.blk with ⟨rfl, rfl⟩ | ⟨g, cap, rfl, _⟩
  · exact ⟨none, 0, rfl⟩
  · exact ⟨_, _, rfl⟩
theorem IG.mono {base base' : Nat} {w : World} {v : Value} {ss : List DItem} {F : Nat → Nat → Value} (h : IG base w v ss F) (hb : base' ≤ base) : IG base' w v ss F := by
  refine ⟨⟨h.row.1, ?_⟩, fun i s hs => ?_, h.own, h.dis⟩
  · rcases h.row.2 with h2 | ⟨g, cap, cur, hv, hg, r⟩
    · exact .inl h2
    · exact .inr ⟨g, cap, cur, hv, Nat.le_trans hb hg, r⟩
  · obtain ⟨e0, e1, e2, e3, e4, e5, e6⟩ := h.cel i s hs
    exact ⟨e0, e1, e2, e3, ow_base e4 hb, ow_base e5 hb, e6⟩
theorem IG.set {base x j : Nat} {w : World} {u v : Value} {ss : List DItem} {F : Nat → Nat → Value} (h : IG base w v ss F) (hx : x < base) : IG base (w.setCell ⟨x, j, none⟩ u) v ss F :=
  h.same (fun b hb _ => Below.heap_setCell _ _ _ _ (show b ≠ x by omega))
theorem ovl_repB {w : World} {g n : Nat} (h : w.heap[g]? = some (.cells (List.replicate n (Value.bool false)).toArray 4 (0, 0))) : OVL fB 4 w g (List.replicate n false) := by
  unfold OVL
  rw [h]
  simp [fB]
theorem ovl_repI {w : World} {g n : Nat} (h : w.heap[g]? = some (.cells (List.replicate n (Value.int .i64 0)).toArray 3 (0, 0))) : OVL fI 3 w g (List.replicate n 0) := by
  unfold OVL
  rw [h]
  simp [fI]
theorem tBy {p : Prop} (h : p) : tB p = true := tB_iff.2 h
theorem tBn {p : Prop} (h : ¬ p) : tB p = false := by
  cases e : tB p
  · rfl
  · exact absurd (tB_iff.1 e) h

end Go.Proofs.Ytplgnohncdfgcam
