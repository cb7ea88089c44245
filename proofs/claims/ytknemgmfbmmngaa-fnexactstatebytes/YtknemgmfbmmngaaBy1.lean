/- States as bytes: the program's putRow, putTomb, putSession, putLast. -/
import Derived.Test.YtknemgmfbmmngaaBy0
namespace Go.Proofs.Ytknemgmfbmmngaa
open Go.RowKit

theorem drewA_size (W : World) (o : Obj) : (W.alloc o).drew.heap.size = W.heap.size + 1 := by show (W.alloc o).heap.size = _; simp
theorem drewAN_size (W : World) (o : Obj) : ((W.alloc o).drewN 1).heap.size = W.heap.size + 1 := by show (W.alloc o).heap.size = _; simp
theorem below_of_ext {w w' : World} (e : Ext w w') : Below w.heap.size w w' := ⟨e.os, e.tape, e.output, e.size, fun k hk => e.block k hk (by simp)⟩
theorem Ext.blk {w w' : World} (e : Ext w w') {g : Nat} {o : Obj} (h : w.heap[g]? = some o) : w'.heap[g]? = some o := (e.block g (Array.getElem?_eq_some_iff.1 h).1 (by simp)).trans h
theorem cells2 {w w' : World} {g : Nat} {v0 v1 : Value} {t : TypeId} (h : w.heap[g]? = some (.cells #[v0, v1] t (0, 0))) (b : Below w.heap.size w w') :
    w'.heap[g]? = some (.cells #[v0, v1] t (0, 0)) ∧ w'.cell? ⟨g, 0, none⟩ = some v0 ∧ w'.cell? ⟨g, 1, none⟩ = some v1 := by
  have h' := below_blk b (Array.getElem?_eq_some_iff.1 h).1 h
  exact ⟨h', (at_block h' 0 _ rfl).1, (at_block h' 1 _ rfl).1⟩

/-- putNums of two numbers that lie in the block g. -/
theorem putN2 (v : Value) (xs zs : List Int) (p q : Int) (g : Nat) (w : World) (h : RV w v xs) (hn : xs.length ≤ 1000000) (hz : numsL xs [p, q] = zs) (hg : w.heap[g]? = some (.cells #[.int .i64 p, .int .i64 q] 3 (0, 0))) :
    Calls Try.prog 24 #[v, .slice (some ⟨g, 0, none⟩) 2 2] w (PutPost w zs) := by
  rw [← hz]
  exact iPutN v xs g 2 [p, q] _ h hn rfl (by decide) (by decide) (nums_cells hg)
theorem putN1 (v : Value) (xs zs : List Int) (p : Int) (g : Nat) (w : World) (h : RV w v xs) (hn : xs.length ≤ 1000000) (hz : numsL xs [p] = zs) (hg : w.heap[g]? = some (.cells #[.int .i64 p] 3 (0, 0))) :
    Calls Try.prog 24 #[v, .slice (some ⟨g, 0, none⟩) 1 1] w (PutPost w zs) := by
  rw [← hz]
  exact iPutN v xs g 1 [p] _ h hn rfl (by decide) (by decide) (nums_cells hg)
theorem putTZ (v u : Value) (xs ys zs : List Int) (w : World) (h : RV w v xs) (k : RV w u ys) (hn : xs.length ≤ 1000000) (hm : ys.length ≤ 20) (hz : textL xs ys = zs) :
    Calls Try.prog 62 #[v, u] w (PutPost w zs) := by
  rw [← hz]
  exact iPutTV v u xs ys w h k (by omega) (by omega)

set_option maxRecDepth 20000 in
set_option maxHeartbeats 4000000 in
theorem putRowV (v kv vv : Value) (xs : List Int) (r : DRow) (w : World) (h : RV w v xs) (hk : RV w kv r.key) (hv : RV w vv r.val) (hn : xs.length ≤ 900000) (hkl : r.key.length ≤ 20) (hvl : r.val.length ≤ 20) :
    Calls Try.prog 26 #[v, .agg #[kv, vv, .int .i64 r.turned, .int .i64 r.holder]] w (PutPost w (b9row xs r)) := by
  have hE : ∀ w : World, ∀ o, Ext w (w.alloc o) := fun w o => World.grownBy_alloc _ _ _
  have l2 := textL_le xs r.key
  have l3 := textL_le (textL xs r.key) r.val
  obtain ⟨x1, hx1⟩ : ∃ x, x = textL xs r.key := ⟨_, rfl⟩
  obtain ⟨x2, hx2⟩ : ∃ x, x = textL x1 r.val := ⟨_, rfl⟩
  obtain ⟨x3, hx3⟩ : ∃ x, x = numsL x2 [r.turned, r.holder] := ⟨_, rfl⟩
  have HL : Hid (b9row xs r = x3) := by unfold Hid; rw [hx3, hx2, hx1]; rfl
  rw [← hx1] at l2 l3
  rw [← hx2] at l3
  go_enter Try.func26, Try.ntmps26
  go_wp2_with fail
  have P0 := heap_alloc_new w (.cells #[kv, vv, .int .i64 r.turned, .int .i64 r.holder] 57 (0, 0))
  have X0 := hE w (.cells #[kv, vv, .int .i64 r.turned, .int .i64 r.holder] 57 (0, 0))
  have B0 : Below w.heap.size w (w.alloc (.cells #[kv, vv, .int .i64 r.turned, .int .i64 r.holder] 57 (0, 0))) := (Below.refl _ w).alloc (Nat.le_refl _) _
  generalize w.alloc (.cells #[kv, vv, .int .i64 r.turned, .int .i64 r.holder] 57 (0, 0)) = W at P0 X0 B0 ⊢
  have hs0 : w.heap.size < W.heap.size := (Array.getElem?_eq_some_iff.1 P0).1
  have HT1 : Hid (∀ V, Ext W V → Calls Try.prog 62 #[v, kv] V (PutPost V x1)) := fun V e => putTZ v kv xs r.key x1 V ((h.ext X0).ext e) ((hk.ext X0).ext e) (by omega) hkl hx1.symm
  have HT2 : Hid (∀ V u, Ext W V → RV V u x1 → Calls Try.prog 62 #[u, vv] V (PutPost V x2)) := fun V u e hu => putTZ u vv x1 r.val x2 V hu ((hv.ext X0).ext e) (by omega) hvl hx2.symm
  have HT3 : Hid (∀ V u g, RV V u x2 → V.heap[g]? = some (.cells #[.int .i64 r.turned, .int .i64 r.holder] 3 (0, 0)) → Calls Try.prog 24 #[u, .slice (some ⟨g, 0, none⟩) 2 2] V (PutPost V x3)) := fun V u g hu hg => putN2 u x2 x3 r.turned r.holder g V hu (by omega) hx3.symm hg
  have HP : Hid (W.heap[w.heap.size]? = some (.cells #[kv, vv, .int .i64 r.turned, .int .i64 r.holder] 57 (0, 0))) := P0
  clear hx1 hx2 hx3 h hk hv l2 l3 hn hkl hvl
  obtain ⟨Q0, c0, c1, c2, c3⟩ := cells4 P0 (Below.refl _ W)
  clear Q0 P0
  have XD : Hid (Ext W W.drew) := ext_drewN _ 1
  have XA : Hid (∀ o, Ext W (W.alloc o).drew) := fun o => (hE _ _).tr (ext_drewN _ 1)
  have HW : Hid (∀ o, (W.alloc o).drew.heap[W.heap.size]? = some o) := fun o => heap_alloc_new W o
  go_region_held3 (fun w' => w'.cell? ⟨w.heap.size, 0, none⟩ = some kv ∧ w'.cell? ⟨w.heap.size, 1, none⟩ = some vv ∧ w'.cell? ⟨w.heap.size, 2, none⟩ = some (.int .i64 r.turned) ∧ w'.cell? ⟨w.heap.size, 3, none⟩ = some (.int .i64 r.holder)) (first | (simp [*]; done) | go_keep)
    (first
      | (go_at_call 24; refine (HT3.out _ v2 _ ?_ ?_).mono ?_; (first | exact r2.out | exact r2.out.ext (hE _ _)); (first | exact heap_alloc_new _ _ | exact QN1.out | exact QN2.out); rintro e w3 ⟨v3, rfl, r3, o3, b3⟩; have X3 : Hid (Ext W w3) := X2.out.tr (by first | exact ext_below b3 | exact (hE _ _).tr (ext_below b3)); have O3 : Hid (Ow w3 w.heap.size v3 x3) := ow_base o3 (by have := X2.out.size; first | omega | (simp; omega)); clear o3; obtain ⟨_, c0, c1, c2, c3⟩ := cells4 (X3.out.blk HP.out) (Below.refl _ _))
      | (go_at_call 62; refine (HT2.out _ v1 ?_ ?_).mono ?_; (first | exact X1.out | exact X1.out.tr (hE _ _)); (first | exact r1.out | exact r1.out.ext (hE _ _)); rintro e w2 ⟨v2, rfl, r2', o2, b2⟩; have X2 : Hid (Ext W w2) := X1.out.tr (by first | exact ext_below b2 | exact (hE _ _).tr (ext_below b2)); have r2 : Hid (RV w2 v2 x2) := r2'; clear r2'; obtain ⟨_, c0, c1, c2, c3⟩ := cells4 (X2.out.blk HP.out) (Below.refl _ _); (first | (have QN2 : Hid (w2.heap[W.heap.size]? = some (.cells #[.int .i64 r.turned, .int .i64 r.holder] 3 (0, 0))) := (ext_below b2).blk QN1.out) | (have QN2 : Hid (w2.heap[w1.heap.size]? = some (.cells #[.int .i64 r.turned, .int .i64 r.holder] 3 (0, 0))) := (ext_below b2).blk (heap_alloc_new w1 _)) | skip))
      | (go_at_call 62; refine (HT1.out _ ?_).mono ?_; (first | exact XD.out | exact XA.out _); rintro e w1 ⟨v1, rfl, r1', o1, b1⟩; have X1 : Hid (Ext W w1) := Ext.tr (by first | exact XD.out | exact XA.out _) (ext_below b1); have r1 : Hid (RV w1 v1 x1) := r1'; clear r1'; obtain ⟨_, c0, c1, c2, c3⟩ := cells4 (X1.out.blk HP.out) (Below.refl _ _); (first | (have QN1 : Hid (w1.heap[W.heap.size]? = some (.cells #[.int .i64 r.turned, .int .i64 r.holder] 3 (0, 0))) := (ext_below b1).blk (HW.out _)) | skip)))
  all_goals
    go_wp2
    go_ret
    refine ⟨_, rfl, ?_, ?_, below_of_ext (X0.tr X3.out)⟩
    · rw [HL.out]; exact r3
    · rw [HL.out]; exact O3.out

set_option maxRecDepth 20000 in
set_option maxHeartbeats 4000000 in
theorem putTombV (v kv : Value) (xs : List Int) (r : DTomb) (w : World) (h : RV w v xs) (hk : RV w kv r.key) (hn : xs.length ≤ 900000) (hkl : r.key.length ≤ 20) :
    Calls Try.prog 28 #[v, .agg #[kv, .int .i64 r.index]] w (PutPost w (b9tomb xs r)) := by
  have hE : ∀ w : World, ∀ o, Ext w (w.alloc o) := fun w o => World.grownBy_alloc _ _ _
  have l2 := textL_le xs r.key
  obtain ⟨x2, hx2⟩ : ∃ x, x = textL xs r.key := ⟨_, rfl⟩
  obtain ⟨x3, hx3⟩ : ∃ x, x = numsL x2 [r.index] := ⟨_, rfl⟩
  have HL : Hid (b9tomb xs r = x3) := by unfold Hid; rw [hx3, hx2]; rfl
  rw [← hx2] at l2
  go_enter Try.func28, Try.ntmps28
  go_wp2_with fail
  have P0 := heap_alloc_new w (.cells #[kv, .int .i64 r.index] 61 (0, 0))
  have X0 := hE w (.cells #[kv, .int .i64 r.index] 61 (0, 0))
  generalize w.alloc (.cells #[kv, .int .i64 r.index] 61 (0, 0)) = W at P0 X0 ⊢
  have hs0 : w.heap.size < W.heap.size := (Array.getElem?_eq_some_iff.1 P0).1
  have HT1 : Hid (∀ V, Ext W V → Calls Try.prog 62 #[v, kv] V (PutPost V x2)) := fun V e => putTZ v kv xs r.key x2 V ((h.ext X0).ext e) ((hk.ext X0).ext e) (by omega) hkl hx2.symm
  have HT3 : Hid (∀ V u g, RV V u x2 → V.heap[g]? = some (.cells #[.int .i64 r.index] 3 (0, 0)) → Calls Try.prog 24 #[u, .slice (some ⟨g, 0, none⟩) 1 1] V (PutPost V x3)) := fun V u g hu hg => putN1 u x2 x3 r.index g V hu (by omega) hx3.symm hg
  have HP : Hid (W.heap[w.heap.size]? = some (.cells #[kv, .int .i64 r.index] 61 (0, 0))) := P0
  clear hx2 hx3 h hk l2 hn hkl
  obtain ⟨Q0, c0, c1⟩ := cells2 P0 (Below.refl _ W)
  clear Q0 P0
  have XD : Hid (Ext W W.drew) := ext_drewN _ 1
  have XA : Hid (∀ o, Ext W (W.alloc o).drew) := fun o => (hE _ _).tr (ext_drewN _ 1)
  have HW : Hid (∀ o, (W.alloc o).drew.heap[W.heap.size]? = some o) := fun o => heap_alloc_new W o
  go_region_held3 (fun w' => w'.cell? ⟨w.heap.size, 0, none⟩ = some kv ∧ w'.cell? ⟨w.heap.size, 1, none⟩ = some (.int .i64 r.index)) (first | (simp [*]; done) | go_keep)
    (first
      | (go_at_call 24; refine (HT3.out _ v2 _ ?_ ?_).mono ?_; (first | exact r2.out | exact r2.out.ext (hE _ _)); (first | exact heap_alloc_new _ _ | exact QN2.out); rintro e w3 ⟨v3, rfl, r3, o3, b3⟩; have X3 : Hid (Ext W w3) := X2.out.tr (by first | exact ext_below b3 | exact (hE _ _).tr (ext_below b3)); have O3 : Hid (Ow w3 w.heap.size v3 x3) := ow_base o3 (by have := X2.out.size; first | omega | (simp; omega)); clear o3; obtain ⟨_, c0, c1⟩ := cells2 (X3.out.blk HP.out) (Below.refl _ _))
      | (go_at_call 62; refine (HT1.out _ ?_).mono ?_; (first | exact XD.out | exact XA.out _); rintro e w2 ⟨v2, rfl, r2', o2, b2⟩; have X2 : Hid (Ext W w2) := Ext.tr (by first | exact XD.out | exact XA.out _) (ext_below b2); have r2 : Hid (RV w2 v2 x2) := r2'; clear r2'; obtain ⟨_, c0, c1⟩ := cells2 (X2.out.blk HP.out) (Below.refl _ _); (first | (have QN2 : Hid (w2.heap[W.heap.size]? = some (.cells #[.int .i64 r.index] 3 (0, 0))) := (ext_below b2).blk (HW.out _)) | skip)))
  all_goals
    go_wp2
    go_ret
    refine ⟨_, rfl, ?_, ?_, below_of_ext (X0.tr X3.out)⟩
    · rw [HL.out]; exact r3
    · rw [HL.out]; exact O3.out

set_option maxRecDepth 20000 in
set_option maxHeartbeats 4000000 in
theorem putSessV (v : Value) (xs : List Int) (r : DSess) (w : World) (h : RV w v xs) (hn : xs.length ≤ 900000) :
    Calls Try.prog 30 #[v, .agg #[.int .i64 r.id, .bool r.del]] w (PutPost w (b9sess xs r)) := by
  have hE : ∀ w : World, ∀ o, Ext w (w.alloc o) := fun w o => World.grownBy_alloc _ _ _
  obtain ⟨x3, hx3⟩ : ∃ x, x = numsL xs [r.id, yesI r.del] := ⟨_, rfl⟩
  have HL : Hid (b9sess xs r = x3) := by unfold Hid; rw [hx3]; rfl
  obtain ⟨yi, hyi⟩ : ∃ y, y = yesI r.del := ⟨_, rfl⟩
  rw [← hyi] at hx3
  go_enter Try.func30, Try.ntmps30
  go_wp2_with fail
  have P0 := heap_alloc_new w (.cells #[.int .i64 r.id, .bool r.del] 65 (0, 0))
  have X0 := hE w (.cells #[.int .i64 r.id, .bool r.del] 65 (0, 0))
  generalize w.alloc (.cells #[.int .i64 r.id, .bool r.del] 65 (0, 0)) = W at P0 X0 ⊢
  have hs0 : w.heap.size < W.heap.size := (Array.getElem?_eq_some_iff.1 P0).1
  have HT1 : Hid (∀ V, Calls Try.prog 63 #[.bool r.del] V fun e w' => e = .returned (.int .i64 yi) ∧ w' = V) := fun V => by rw [hyi]; exact yesNumV r.del V
  have HT3 : Hid (∀ V g, Ext W V → V.heap[g]? = some (.cells #[.int .i64 r.id, .int .i64 yi] 3 (0, 0)) → Calls Try.prog 24 #[v, .slice (some ⟨g, 0, none⟩) 2 2] V (PutPost V x3)) := fun V g e hg => putN2 v xs x3 r.id yi g V ((h.ext X0).ext e) (by omega) hx3.symm hg
  have HP : Hid (W.heap[w.heap.size]? = some (.cells #[.int .i64 r.id, .bool r.del] 65 (0, 0))) := P0
  clear hx3 h hn hyi
  obtain ⟨Q0, c0, c1⟩ := cells2 P0 (Below.refl _ W)
  clear Q0 P0
  have XA : Hid (∀ o, Ext W (W.drew.alloc o)) := fun o => Ext.tr (ext_drewN W 1) (hE _ _)
  have XB : Hid (∀ o, Ext W (W.alloc o).drew) := fun o => (hE _ _).tr (ext_drewN _ 1)
  go_region_held3 (fun w' => w'.cell? ⟨w.heap.size, 0, none⟩ = some (.int .i64 r.id) ∧ w'.cell? ⟨w.heap.size, 1, none⟩ = some (.bool r.del)) (first | (simp [*]; done) | go_keep)
    (first
      | (go_at_call 24; refine (HT3.out _ _ ?_ ?_).mono ?_; (first | exact XA.out _ | exact XB.out _); (first | exact heap_alloc_new _ _); rintro e w3 ⟨v3, rfl, r3, o3, b3⟩; have X3 : Hid (Ext W w3) := Ext.tr (by first | exact XA.out _ | exact XB.out _) (ext_below b3); have O3 : Hid (Ow w3 w.heap.size v3 x3) := ow_base o3 (by first | omega | (simp; omega) | (show w.heap.size ≤ (W.alloc _).heap.size; simp; omega)); clear o3; obtain ⟨_, c0, c1⟩ := cells2 (X3.out.blk HP.out) (Below.refl _ _))
      | (go_at_call 63; refine (HT1.out _).mono ?_; rintro e w2 ⟨rfl, rfl⟩))
  all_goals
    go_wp2
    go_ret
    refine ⟨_, rfl, ?_, ?_, below_of_ext (X0.tr X3.out)⟩
    · rw [HL.out]; exact r3
    · rw [HL.out]; exact O3.out

set_option maxRecDepth 20000 in
set_option maxHeartbeats 4000000 in
theorem putLastV (v : Value) (xs : List Int) (r : DLast) (w : World) (h : RV w v xs) (hn : xs.length ≤ 900000) :
    Calls Try.prog 32 #[v, .agg #[.int .i64 r.client, .int .i64 r.req, .int .i64 r.code, .int .i64 r.index]] w (PutPost w (b9last xs r)) := by
  have hE : ∀ w : World, ∀ o, Ext w (w.alloc o) := fun w o => World.grownBy_alloc _ _ _
  go_enter Try.func32, Try.ntmps32
  go_wp2_with fail
  refine (iPutN _ xs _ 4 [r.client, r.req, r.code, r.index] _ (h.ext ((hE _ _).tr (hE _ _))) (by omega) rfl (by decide) (by decide) (nums_cells (new_at _ (by simp)))).mono ?_
  rintro e w1 ⟨v1, rfl, r1, o1, b1⟩
  have B1 : Below w.heap.size w w1 := (((Below.refl _ w).alloc (Nat.le_refl _) _).alloc (by simp) _).trans (b1.mono (by simp; omega))
  go_wp2
  go_ret
  exact ⟨_, rfl, r1, ow_base o1 (by simp; omega), B1⟩

end Go.Proofs.Ytknemgmfbmmngaa
