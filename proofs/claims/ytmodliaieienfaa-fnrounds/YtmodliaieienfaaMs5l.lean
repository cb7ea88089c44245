
/- The specification's Leave. -/
import Derived.Test.YtmodliaieienfaaMs3
import Derived.Test.YtmodliaieienfaaMd2
namespace Go.Proofs.Ytmodliaieienfaa
open Go.RowKit

set_option maxRecDepth 20000 in
set_option maxHeartbeats 4000000 in
theorem sLeaveV (v : Value) (T : DTab) (w : World) (h : VTab w v T) (hn : T.mems.length ≤ 1048576) :
    Calls Try.prog 42 #[v] w fun e w' => ∃ tv, e = .returned (.tuple #[.agg #[.int .i64 (leaveD T).1.self, tv], .bool (leaveD T).2]) ∧ OwMem w' w.heap.size tv (leaveD T).1.mems ∧ Below w.heap.size w w' := by
  have hE : ∀ w : World, ∀ o, Ext w (w.alloc o) := fun w o => World.grownBy_alloc _ _ _
  have HT : Hid (VTab w v T) := h
  have HN : Hid (T.mems.length ≤ 1048576) := hn
  obtain ⟨tv, rfl, h⟩ := h
  obtain ⟨a, cap, rfl⟩ := h.shape
  obtain ⟨R, hR⟩ : ∃ R, R = leaveD T := ⟨_, rfl⟩
  rw [← hR]
  have HR : Hid (R = leaveD T) := hR
  obtain ⟨n, hnn⟩ : ∃ n, n = T.mems.length := ⟨_, rfl⟩
  have HNN : Hid (n = T.mems.length) := hnn
  rw [← hnn] at HT ⊢
  clear h hR hnn hn
  go_enter Try.func42, Try.ntmps42
  go_wp2_with fail
  have PA := al2_0 w (.cells #[.int .i64 T.self, .slice a n cap] 28 (0, 0)) (.cells #[.int .i64 0, .slice none 0 0] 28 (0, 0))
  have PR := al2_1 w (.cells #[.int .i64 T.self, .slice a n cap] 28 (0, 0)) (.cells #[.int .i64 0, .slice none 0 0] 28 (0, 0))
  have BW : Below w.heap.size w ((w.alloc (.cells #[.int .i64 T.self, .slice a n cap] 28 (0, 0))).alloc (.cells #[.int .i64 0, .slice none 0 0] 28 (0, 0))) := ((Below.refl _ w).alloc (Nat.le_refl _) _).alloc (by simp) _
  generalize (w.alloc (.cells #[.int .i64 T.self, .slice a n cap] 28 (0, 0))).alloc (.cells #[.int .i64 0, .slice none 0 0] 28 (0, 0)) = W at PA PR BW ⊢
  refine (sTableOkV _ T W (HT.out.ext (ext_below BW)) HN.out).mono ?_
  rintro e w1 ⟨rfl, b1⟩
  have B1 := BW.trans (b1.mono BW.size)
  have PA1 := below_blk b1 (Array.getElem?_eq_some_iff.1 PA).1 PA
  have PR1 := below_blk b1 (Array.getElem?_eq_some_iff.1 PR).1 PR
  clear PA PR BW b1
  obtain ⟨q0, q1⟩ := two_cells PA1
  cases t0 : tB (TabP T)
  · have HK : Hid (R = (⟨0, []⟩, false)) := by show _ = _; rw [HR.out]; exact leaveD_no (fun h' => by rw [tB_true h'] at t0; cases t0)
    obtain ⟨r0, f0⟩ := at_block PR1 0 _ rfl
    obtain ⟨r1, f1⟩ := at_block PR1 1 _ rfl
    clear t0
    go_wp2
    refine bodyPost_ret (v := .tuple #[.agg #[.int .i64 0, .slice none 0 0], .bool false]) (by simp [results, Try.results42, go_sem, *]) rfl ?_
    rw [HK.out]
    exact ⟨_, rfl, OwMem.nil _ _, (B1.setCell (by simp) _).setCell (by simp) _⟩
  have hp : TabP T := tB_iff.1 t0
  have HTP : Hid (TabP T) := hp
  have h0 : 0 < T.mems.length := by
    obtain ⟨i, t, ht, _⟩ := hp.2.2
    have := (List.getElem?_eq_some_iff.1 ht).1
    omega
  clear t0 hp
  go_wp2_with fail
  refine (sOwnTV _ T w1 (HT.out.ext (ext_below B1)) HN.out).mono ?_
  rintro e w2 ⟨tv2, rfl, o2, b2⟩
  obtain ⟨g, c2, rfl, hg, hc, hcm⟩ := o2.at h0
  rw [← HNN.out] at o2 hc ⊢
  unfold maxLen at hcm
  have B2 := B1.trans (b2.mono B1.size)
  have PA2 := below_blk b2 (Array.getElem?_eq_some_iff.1 PA1).1 PA1
  have PR2 := below_blk b2 (Array.getElem?_eq_some_iff.1 PR1).1 PR1
  have sR := (Array.getElem?_eq_some_iff.1 PR1).1
  have hgR : w.heap.size + 1 < g := by omega
  have O2 : Hid (OwMem w2 w1.heap.size (.slice (some ⟨g, 0, none⟩) n c2) T.mems) := o2
  have s2 := b2.size
  clear PA1 PR1 b2 q0 q1 o2
  obtain ⟨q0, q1⟩ := two_cells PA2
  have HVX : Hid (VTab w2 (.agg #[.int .i64 T.self, .slice (some ⟨g, 0, none⟩) n c2]) T) := ⟨_, rfl, O2.out.v⟩
  have hgx : g < w2.heap.size := (O2.out.lt g (by simp [Value.ownBlock])).2
  have sA := (Array.getElem?_eq_some_iff.1 PA2).1
  have kA := ext_blk (hE w2 (.cells #[.int .i64 T.self, .slice (some ⟨g, 0, none⟩) n c2] 28 (0, 0))) PA2
  obtain ⟨qa, _⟩ := two_cells kA
  go_wp2_with fail
  have X2 := hE w2 (.cells #[.int .i64 T.self, .slice (some ⟨g, 0, none⟩) n c2] 28 (0, 0))
  have PX2 := heap_alloc_new w2 (.cells #[.int .i64 T.self, .slice (some ⟨g, 0, none⟩) n c2] 28 (0, 0))
  clear kA qa
  generalize hW2 : w2.alloc (.cells #[.int .i64 T.self, .slice (some ⟨g, 0, none⟩) n c2] 28 (0, 0)) = W2 at X2 PX2 ⊢
  clear hW2
  refine (sFindV _ T T.self W2 (HVX.out.ext X2) HN.out).mono ?_
  rintro e w3 ⟨rfl, b3⟩
  have X3 : Ext w2 w3 := X2.tr (ext_below b3)
  have PX3 := below_blk b3 (Array.getElem?_eq_some_iff.1 PX2).1 PX2
  have B3 : Below w.heap.size w w3 := B2.trans ((ext_bel X3).mono B2.size)
  have PR3 := ext_blk X3 PR2
  have O3 : Hid (OwMem w3 w1.heap.size (.slice (some ⟨g, 0, none⟩) n c2) T.mems) := O2.out.ext X3
  clear b3 X2 PX2 PA2 PR2 q0 q1 X3 HVX O2 B2
  obtain ⟨x0, y0⟩ := at_block PX3 0 _ rfl
  obtain ⟨x1, y1⟩ := at_block PX3 1 _ rfl
  obtain ⟨r0, f0⟩ := at_block PR3 0 _ rfl
  obtain ⟨r1, f1⟩ := at_block PR3 1 _ rfl
  have hs1 : w.heap.size ≤ w1.heap.size := by omega
  have nR : ∀ x, (Value.slice (some ⟨g, 0, none⟩) n x).ownBlock = none ∨ (Value.slice (some ⟨g, 0, none⟩) n x).ownBlock ≠ some (w.heap.size + 1) := fun x => .inr (by simp [Value.ownBlock]; omega)
  obtain ⟨i, t, ht, hpl, _, _⟩ := own_place HTP.out
  have hin : i < n := by have := (List.getElem?_eq_some_iff.1 ht).1; have := HNN.out; omega
  have hin' : (i : Int) < (n : Int) := by omega
  have HK := leaveD_some HTP.out hpl ht
  rw [← HR.out] at HK
  have HKK : Hid (R = if t.st = 3 then (T, false) else (⟨T.self, T.mems.set i ⟨t.id, 3, t.life⟩⟩, true)) := HK
  obtain ⟨c0, c1, c2', k0, k1, k2⟩ := O3.out.cells HNN.out ht
  rw [hpl]
  clear hpl HK
  by_cases e1 : t.st = 3
  · have HK : Hid (R = (T, false)) := by show _ = _; rw [HKK.out, if_pos e1]
    have e1' : (t.st == 3) = true := by simpa using e1
    clear e1
    go_wp2
    refine bodyPost_ret (v := .tuple #[.agg #[.int .i64 T.self, .slice (some ⟨g, 0, none⟩) n c2], .bool false]) (by simp [results, Try.results42, go_sem, *]) rfl ?_
    rw [HK.out]
    exact ⟨_, rfl, OwMem.base ((O3.out.keep (set_grown _ _ _ _) (nR _)).keep (set_grown _ _ _ _) (nR _)) hs1, (B3.setCell (by simp) _).setCell (by simp) _⟩
  · have HK : Hid (R = (⟨T.self, T.mems.set i ⟨t.id, 3, t.life⟩⟩, true)) := by show _ = _; rw [HKK.out, if_neg e1]
    have e1' : (t.st == 3) = false := by simpa using e1
    have O4 : Hid (OwMem (w3.setCell ⟨g, i * 3 + 1, none⟩ (.int .i64 3)) w1.heap.size (.slice (some ⟨g, 0, none⟩) n c2) (T.mems.set i ⟨t.id, 3, t.life⟩)) := O3.out.put1 HNN.out ht 3
    clear e1
    go_wp2
    refine bodyPost_ret (v := .tuple #[.agg #[.int .i64 T.self, .slice (some ⟨g, 0, none⟩) n c2], .bool true]) (by simp [results, Try.results42, go_sem, *]) rfl ?_
    rw [HK.out]
    exact ⟨_, rfl, OwMem.base ((O4.out.keep (set_grown _ _ _ _) (nR _)).keep (set_grown _ _ _ _) (nR _)) hs1, ((B3.setCell (by show w.heap.size ≤ g; omega) _).setCell (by simp) _).setCell (by simp) _⟩

end Go.Proofs.Ytmodliaieienfaa
