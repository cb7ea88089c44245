/- The program's Bury. -/
import Derived.Test.YtipjeddfkajdeaaMi4
namespace Go.Proofs.Ytipjeddfkajdeaa
open Go.RowKit

set_option maxRecDepth 20000 in
set_option maxHeartbeats 2000000 in
theorem iBuryV (v : Value) (T : DTab) (id : Int) (w : World) (h : VTab w v T) (hn : T.mems.length ≤ 1048576) :
    Calls Try.prog 14 #[v, .int .i64 id] w fun e w' => ∃ tv, e = .returned (.tuple #[.agg #[.int .i64 (turnD T id 1 2).1.self, tv], .bool (turnD T id 1 2).2]) ∧ OwMem w' w.heap.size tv (turnD T id 1 2).1.mems ∧ Below w.heap.size w w' := by
  have HT : Hid (VTab w v T) := h
  have HN : Hid (T.mems.length ≤ 1048576) := hn
  obtain ⟨tv, rfl, h⟩ := h
  obtain ⟨a, cap, rfl⟩ := h.shape
  obtain ⟨R, hR⟩ : ∃ R, R = turnD T id 1 2 := ⟨_, rfl⟩
  rw [← hR]
  have HR : Hid (R = turnD T id 1 2) := hR
  obtain ⟨n, hnn⟩ : ∃ n, n = T.mems.length := ⟨_, rfl⟩
  rw [← hnn] at HT ⊢
  clear h hR hnn hn
  go_enter Try.func14, Try.ntmps14
  go_wp2_with fail
  have PR := al2_1 w (.cells #[.int .i64 T.self, .slice a n cap] 28 (0, 0)) (.cells #[.int .i64 0, .slice none 0 0] 28 (0, 0))
  have BW : Below w.heap.size w ((w.alloc (.cells #[.int .i64 T.self, .slice a n cap] 28 (0, 0))).alloc (.cells #[.int .i64 0, .slice none 0 0] 28 (0, 0))) := ((Below.refl _ w).alloc (Nat.le_refl _) _).alloc (by simp) _
  generalize (w.alloc (.cells #[.int .i64 T.self, .slice a n cap] 28 (0, 0))).alloc (.cells #[.int .i64 0, .slice none 0 0] 28 (0, 0)) = W at PR BW ⊢
  refine (doubtV _ T id 1 2 rfl W (HT.out.ext (ext_below BW)) HN.out).mono ?_
  rintro e w1 ⟨tv, rfl, o1, b1⟩
  rw [← HR.out] at o1 ⊢
  have sR := (Array.getElem?_eq_some_iff.1 PR).1
  have B1 := BW.trans (b1.mono BW.size)
  have PR1 := below_blk b1 sR PR
  obtain ⟨ra, rc, rfl⟩ := o1.v.shape
  obtain ⟨r0, f0⟩ := at_block PR1 0 _ rfl
  obtain ⟨r1, f1⟩ := at_block PR1 1 _ rfl
  have nR : (Value.slice ra R.1.mems.length rc).ownBlock = none ∨ (Value.slice ra R.1.mems.length rc).ownBlock ≠ some (w.heap.size + 1) := by
    cases hv : (Value.slice ra R.1.mems.length rc).ownBlock with
    | none => exact .inl rfl
    | some k => exact .inr (by have := (o1.lt k hv).1; simp; omega)
  have O1 : Hid (OwMem w1 W.heap.size (.slice ra R.1.mems.length rc) R.1.mems) := o1
  have hsw : w.heap.size ≤ W.heap.size := BW.size
  obtain ⟨m, hm⟩ : ∃ m, m = R.1.mems.length := ⟨_, rfl⟩
  rw [← hm] at O1 nR ⊢
  clear o1 b1 BW PR
  go_wp2
  refine bodyPost_ret (v := .tuple #[.agg #[.int .i64 R.1.self, .slice ra m rc], .bool R.2]) (by simp [results, Try.results14, go_sem, *]) rfl ?_
  exact ⟨_, rfl, OwMem.base ((O1.out.keep (set_grown _ _ _ _) nR).keep (set_grown _ _ _ _) nR) hsw, (B1.setCell (by simp) _).setCell (by simp) _⟩

end Go.Proofs.Ytipjeddfkajdeaa
