/- States as bytes: the program's putList. -/
import Derived.Test.YtknemgmfbmmngaaBy1
namespace Go.Proofs.Ytknemgmfbmmngaa
open Go.RowKit

set_option maxRecDepth 20000 in
set_option maxHeartbeats 4000000 in
theorem putListRowV (v lv : Value) (xs : List Int) (rs : List DRow) (w : World) (h : RV w v xs) (hl : VRows w lv rs) (hn : xs.length ≤ 10000) (hc : rs.length ≤ 20) (hw : ∀ (i : Nat) (r : DRow), rs[i]? = some r → r.key.length ≤ 20 ∧ r.val.length ≤ 20) :
    Calls Try.prog 25 #[v, lv, .func (.func 26) #[] #[]] w (PutPost w (b9list b9row xs rs)) := by
  have hE : ∀ w : World, ∀ o, Ext w (w.alloc o) := fun w o => World.grownBy_alloc _ _ _
  obtain ⟨C, ⟨a, cap, rfl, h1, h2, h3⟩, hC⟩ := hl
  have HC : Hid (∀ i r, rs[i]? = some r → RV w (C i 0) r.key ∧ RV w (C i 1) r.val ∧ C i 2 = .int .i64 r.turned ∧ C i 3 = .int .i64 r.holder) := hC
  obtain ⟨n, hnn⟩ : ∃ n, n = rs.length := ⟨_, rfl⟩
  rw [← hnn] at h1 h3 hc ⊢
  have HN : Hid (n = rs.length) := hnn
  have H3 : Hid (0 < n → ∃ b o, a = some ⟨b, o, none⟩ ∧ b < w.heap.size ∧ ∀ i, i < n → ∀ j, j < 4 → w.cell? ⟨b, o + i * 4 + j, none⟩ = some (C i j)) := h3
  clear h3 hC hnn
  have hml2 : (n : Int) ≤ 1048576 := by omega
  have HW : Hid (∀ (i : Nat) (r : DRow), rs[i]? = some r → r.key.length ≤ 20 ∧ r.val.length ≤ 20) := hw
  clear hw
  obtain ⟨x0, hx0⟩ : ∃ x, x = numsL xs [(n : Int)] := ⟨_, rfl⟩
  have l0 : x0.length ≤ xs.length + 5 := by rw [hx0]; exact putL_le xs (n : Int)
  have HL : Hid (b9list b9row xs rs = rs.foldl b9row x0) := by unfold Hid b9list; rw [hx0, HN.out]; rfl
  have HX : Hid (numsL xs [(n : Int)] = x0) := hx0.symm
  clear hx0
  go_enter Try.func25, Try.ntmps25
  go_wp2_with fail
  refine (putN1 _ xs x0 (n : Int) _ _ (h.ext (hE _ _)) (by omega) HX.out (heap_alloc_new _ _)).mono ?_
  rintro e w1 ⟨v1, rfl, r1, o1, b1⟩
  have B1 : Below w.heap.size w w1 := ((Below.refl _ w).alloc (Nat.le_refl _) _).trans (b1.mono (by simp))
  have O1 : Ow w1 w.heap.size v1 x0 := ow_base o1 (by simp)
  clear b1 o1 h
  go_wp2
  go_loopw [0, 16] (fun bv i wr => ∃ k : Nat, k ≤ n ∧ i = .int .i64 k ∧ ∃ zs, Hid (zs = (rs.take k).foldl b9row x0) ∧ zs.length ≤ 20000 + 60 * k ∧ RV wr bv zs ∧ Ow wr w.heap.size bv zs ∧ Below w.heap.size w wr) (fun _ i _ => n - (intOf i).toNat)
  case atStart => exact ⟨0, Nat.zero_le _, rfl, x0, by show _ = _; simp, by omega, r1, O1, B1⟩
  case round =>
    obtain ⟨k, hk, rfl, zs, hzs, hzl, rz, oz, bz⟩ := hrel
    clear B1 O1 r1
    by_cases hlt : k < n
    · obtain ⟨b, o, rfl, hbl, hc⟩ := H3.out (by omega)
      obtain ⟨s, hs⟩ : ∃ s, rs[k]? = some s := ⟨_, List.getElem?_eq_getElem (by have := HN.out; omega)⟩
      obtain ⟨e0, e1, e2, e3⟩ := HC.out k s hs
      have X := ext_below bz
      have d0 := World.grownBy.cell X (hc k hlt 0 (by omega)) (by simp)
      rw [Nat.add_zero] at d0
      have cr0 := e0.ext X
      obtain ⟨ca0, cp0, cx0, _, _, _⟩ := e0
      rw [cx0] at cr0 d0
      have d1 := World.grownBy.cell X (hc k hlt 1 (by omega)) (by simp)
      have cr1 := e1.ext X
      obtain ⟨ca1, cp1, cx1, _, _, _⟩ := e1
      rw [cx1] at cr1 d1
      have d2 := World.grownBy.cell X (hc k hlt 2 (by omega)) (by simp)
      rw [e2] at d2
      have d3 := World.grownBy.cell X (hc k hlt 3 (by omega)) (by simp)
      rw [e3] at d3
      have hlt' : (k : Int) < (n : Int) := by omega
      have HNX : Hid ((rs.take (k + 1)).foldl b9row x0 = b9row zs s) := by show _ = _; rw [fold_next b9row x0 rs k s hs, ← hzs.out]
      have hle := b9row_le zs s
      obtain ⟨z', hz'⟩ : ∃ z', z' = b9row zs s := ⟨_, rfl⟩
      rw [← hz'] at hle
      have HZ' : Hid (b9row zs s = z') := hz'.symm
      clear hc hz'
      go_wp2_with fail
      refine (putRowV _ _ _ zs s _ (rz.ext (hE _ _)) (cr0.ext (hE _ _)) (cr1.ext (hE _ _)) (by omega) (HW.out k s hs).1 (HW.out k s hs).2).mono ?_
      rw [HZ'.out]
      rintro e w2 ⟨v2, rfl, r2, o2, b2⟩
      have B2 : Below w.heap.size w w2 := (bz.alloc bz.size _).trans (b2.mono (by have := bz.size; simp; omega))
      go_wp2
      go_roundw
      case rel => exact ⟨k + 1, by omega, by go_num, z', by show _ = _; rw [HNX.out, HZ'.out], by omega, r2, ow_base o2 (by have := bz.size; simp; omega), B2⟩
      case measure => simp [intOf]; omega
    · have hkn : k = n := by omega
      subst hkn
      have HR : Hid (b9list b9row xs rs = zs) := by
        show _ = _
        rw [HL.out, hzs.out, List.take_of_length_le (by have := HN.out; omega)]
      go_wp2
      go_ret
      refine ⟨_, rfl, ?_, ?_, bz⟩
      · rw [HR.out]; exact rz
      · rw [HR.out]; exact oz

set_option maxRecDepth 20000 in
set_option maxHeartbeats 4000000 in
theorem putListTombV (v lv : Value) (xs : List Int) (rs : List DTomb) (w : World) (h : RV w v xs) (hl : VTombs w lv rs) (hn : xs.length ≤ 10000) (hc : rs.length ≤ 10) (hw : ∀ (i : Nat) (r : DTomb), rs[i]? = some r → r.key.length ≤ 20) :
    Calls Try.prog 27 #[v, lv, .func (.func 28) #[] #[]] w (PutPost w (b9list b9tomb xs rs)) := by
  have hE : ∀ w : World, ∀ o, Ext w (w.alloc o) := fun w o => World.grownBy_alloc _ _ _
  obtain ⟨C, ⟨a, cap, rfl, h1, h2, h3⟩, hC⟩ := hl
  have HC : Hid (∀ i r, rs[i]? = some r → RV w (C i 0) r.key ∧ C i 1 = .int .i64 r.index) := hC
  obtain ⟨n, hnn⟩ : ∃ n, n = rs.length := ⟨_, rfl⟩
  rw [← hnn] at h1 h3 hc ⊢
  have HN : Hid (n = rs.length) := hnn
  have H3 : Hid (0 < n → ∃ b o, a = some ⟨b, o, none⟩ ∧ b < w.heap.size ∧ ∀ i, i < n → ∀ j, j < 2 → w.cell? ⟨b, o + i * 2 + j, none⟩ = some (C i j)) := h3
  clear h3 hC hnn
  have hml2 : (n : Int) ≤ 1048576 := by omega
  have HW : Hid (∀ (i : Nat) (r : DTomb), rs[i]? = some r → r.key.length ≤ 20) := hw
  clear hw
  obtain ⟨x0, hx0⟩ : ∃ x, x = numsL xs [(n : Int)] := ⟨_, rfl⟩
  have l0 : x0.length ≤ xs.length + 5 := by rw [hx0]; exact putL_le xs (n : Int)
  have HL : Hid (b9list b9tomb xs rs = rs.foldl b9tomb x0) := by unfold Hid b9list; rw [hx0, HN.out]; rfl
  have HX : Hid (numsL xs [(n : Int)] = x0) := hx0.symm
  clear hx0
  go_enter Try.func27, Try.ntmps27
  go_wp2_with fail
  refine (putN1 _ xs x0 (n : Int) _ _ (h.ext (hE _ _)) (by omega) HX.out (heap_alloc_new _ _)).mono ?_
  rintro e w1 ⟨v1, rfl, r1, o1, b1⟩
  have B1 : Below w.heap.size w w1 := ((Below.refl _ w).alloc (Nat.le_refl _) _).trans (b1.mono (by simp))
  have O1 : Ow w1 w.heap.size v1 x0 := ow_base o1 (by simp)
  clear b1 o1 h
  go_wp2
  go_loopw [0, 16] (fun bv i wr => ∃ k : Nat, k ≤ n ∧ i = .int .i64 k ∧ ∃ zs, Hid (zs = (rs.take k).foldl b9tomb x0) ∧ zs.length ≤ 20000 + 30 * k ∧ RV wr bv zs ∧ Ow wr w.heap.size bv zs ∧ Below w.heap.size w wr) (fun _ i _ => n - (intOf i).toNat)
  case atStart => exact ⟨0, Nat.zero_le _, rfl, x0, by show _ = _; simp, by omega, r1, O1, B1⟩
  case round =>
    obtain ⟨k, hk, rfl, zs, hzs, hzl, rz, oz, bz⟩ := hrel
    clear B1 O1 r1
    by_cases hlt : k < n
    · obtain ⟨b, o, rfl, hbl, hc⟩ := H3.out (by omega)
      obtain ⟨s, hs⟩ : ∃ s, rs[k]? = some s := ⟨_, List.getElem?_eq_getElem (by have := HN.out; omega)⟩
      obtain ⟨e0, e1⟩ := HC.out k s hs
      have X := ext_below bz
      have d0 := World.grownBy.cell X (hc k hlt 0 (by omega)) (by simp)
      rw [Nat.add_zero] at d0
      have cr0 := e0.ext X
      obtain ⟨ca0, cp0, cx0, _, _, _⟩ := e0
      rw [cx0] at cr0 d0
      have d1 := World.grownBy.cell X (hc k hlt 1 (by omega)) (by simp)
      rw [e1] at d1
      have hlt' : (k : Int) < (n : Int) := by omega
      have HNX : Hid ((rs.take (k + 1)).foldl b9tomb x0 = b9tomb zs s) := by show _ = _; rw [fold_next b9tomb x0 rs k s hs, ← hzs.out]
      have hle := b9tomb_le zs s
      obtain ⟨z', hz'⟩ : ∃ z', z' = b9tomb zs s := ⟨_, rfl⟩
      rw [← hz'] at hle
      have HZ' : Hid (b9tomb zs s = z') := hz'.symm
      clear hc hz'
      go_wp2_with fail
      refine (putTombV _ _ zs s _ (rz.ext (hE _ _)) (cr0.ext (hE _ _)) (by omega) (HW.out k s hs)).mono ?_
      rw [HZ'.out]
      rintro e w2 ⟨v2, rfl, r2, o2, b2⟩
      have B2 : Below w.heap.size w w2 := (bz.alloc bz.size _).trans (b2.mono (by have := bz.size; simp; omega))
      go_wp2
      go_roundw
      case rel => exact ⟨k + 1, by omega, by go_num, z', by show _ = _; rw [HNX.out, HZ'.out], by omega, r2, ow_base o2 (by have := bz.size; simp; omega), B2⟩
      case measure => simp [intOf]; omega
    · have hkn : k = n := by omega
      subst hkn
      have HR : Hid (b9list b9tomb xs rs = zs) := by
        show _ = _
        rw [HL.out, hzs.out, List.take_of_length_le (by have := HN.out; omega)]
      go_wp2
      go_ret
      refine ⟨_, rfl, ?_, ?_, bz⟩
      · rw [HR.out]; exact rz
      · rw [HR.out]; exact oz

set_option maxRecDepth 20000 in
set_option maxHeartbeats 4000000 in
theorem putListSessionV (v lv : Value) (xs : List Int) (rs : List DSess) (w : World) (h : RV w v xs) (hl : VSess w lv rs) (hn : xs.length ≤ 10000) (hc : rs.length ≤ 8) :
    Calls Try.prog 29 #[v, lv, .func (.func 30) #[] #[]] w (PutPost w (b9list b9sess xs rs)) := by
  have hE : ∀ w : World, ∀ o, Ext w (w.alloc o) := fun w o => World.grownBy_alloc _ _ _
  obtain ⟨C, ⟨a, cap, rfl, h1, h2, h3⟩, hC⟩ := hl
  have HC : Hid (∀ i r, rs[i]? = some r → C i 0 = .int .i64 r.id ∧ C i 1 = .bool r.del) := hC
  obtain ⟨n, hnn⟩ : ∃ n, n = rs.length := ⟨_, rfl⟩
  rw [← hnn] at h1 h3 hc ⊢
  have HN : Hid (n = rs.length) := hnn
  have H3 : Hid (0 < n → ∃ b o, a = some ⟨b, o, none⟩ ∧ b < w.heap.size ∧ ∀ i, i < n → ∀ j, j < 2 → w.cell? ⟨b, o + i * 2 + j, none⟩ = some (C i j)) := h3
  clear h3 hC hnn
  have hml2 : (n : Int) ≤ 1048576 := by omega
  obtain ⟨x0, hx0⟩ : ∃ x, x = numsL xs [(n : Int)] := ⟨_, rfl⟩
  have l0 : x0.length ≤ xs.length + 5 := by rw [hx0]; exact putL_le xs (n : Int)
  have HL : Hid (b9list b9sess xs rs = rs.foldl b9sess x0) := by unfold Hid b9list; rw [hx0, HN.out]; rfl
  have HX : Hid (numsL xs [(n : Int)] = x0) := hx0.symm
  clear hx0
  go_enter Try.func29, Try.ntmps29
  go_wp2_with fail
  refine (putN1 _ xs x0 (n : Int) _ _ (h.ext (hE _ _)) (by omega) HX.out (heap_alloc_new _ _)).mono ?_
  rintro e w1 ⟨v1, rfl, r1, o1, b1⟩
  have B1 : Below w.heap.size w w1 := ((Below.refl _ w).alloc (Nat.le_refl _) _).trans (b1.mono (by simp))
  have O1 : Ow w1 w.heap.size v1 x0 := ow_base o1 (by simp)
  clear b1 o1 h
  go_wp2
  go_loopw [0, 16] (fun bv i wr => ∃ k : Nat, k ≤ n ∧ i = .int .i64 k ∧ ∃ zs, Hid (zs = (rs.take k).foldl b9sess x0) ∧ zs.length ≤ 20000 + 10 * k ∧ RV wr bv zs ∧ Ow wr w.heap.size bv zs ∧ Below w.heap.size w wr) (fun _ i _ => n - (intOf i).toNat)
  case atStart => exact ⟨0, Nat.zero_le _, rfl, x0, by show _ = _; simp, by omega, r1, O1, B1⟩
  case round =>
    obtain ⟨k, hk, rfl, zs, hzs, hzl, rz, oz, bz⟩ := hrel
    clear B1 O1 r1
    by_cases hlt : k < n
    · obtain ⟨b, o, rfl, hbl, hc⟩ := H3.out (by omega)
      obtain ⟨s, hs⟩ : ∃ s, rs[k]? = some s := ⟨_, List.getElem?_eq_getElem (by have := HN.out; omega)⟩
      obtain ⟨e0, e1⟩ := HC.out k s hs
      have X := ext_below bz
      have d0 := World.grownBy.cell X (hc k hlt 0 (by omega)) (by simp)
      rw [Nat.add_zero, e0] at d0
      have d1 := World.grownBy.cell X (hc k hlt 1 (by omega)) (by simp)
      rw [e1] at d1
      have hlt' : (k : Int) < (n : Int) := by omega
      have HNX : Hid ((rs.take (k + 1)).foldl b9sess x0 = b9sess zs s) := by show _ = _; rw [fold_next b9sess x0 rs k s hs, ← hzs.out]
      have hle := b9sess_le zs s
      obtain ⟨z', hz'⟩ : ∃ z', z' = b9sess zs s := ⟨_, rfl⟩
      rw [← hz'] at hle
      have HZ' : Hid (b9sess zs s = z') := hz'.symm
      clear hc hz'
      go_wp2_with fail
      refine (putSessV _  zs s _ (rz.ext (hE _ _))  (by omega)).mono ?_
      rw [HZ'.out]
      rintro e w2 ⟨v2, rfl, r2, o2, b2⟩
      have B2 : Below w.heap.size w w2 := (bz.alloc bz.size _).trans (b2.mono (by have := bz.size; simp; omega))
      go_wp2
      go_roundw
      case rel => exact ⟨k + 1, by omega, by go_num, z', by show _ = _; rw [HNX.out, HZ'.out], by omega, r2, ow_base o2 (by have := bz.size; simp; omega), B2⟩
      case measure => simp [intOf]; omega
    · have hkn : k = n := by omega
      subst hkn
      have HR : Hid (b9list b9sess xs rs = zs) := by
        show _ = _
        rw [HL.out, hzs.out, List.take_of_length_le (by have := HN.out; omega)]
      go_wp2
      go_ret
      refine ⟨_, rfl, ?_, ?_, bz⟩
      · rw [HR.out]; exact rz
      · rw [HR.out]; exact oz

set_option maxRecDepth 20000 in
set_option maxHeartbeats 4000000 in
theorem putListLastV (v lv : Value) (xs : List Int) (rs : List DLast) (w : World) (h : RV w v xs) (hl : VLasts w lv rs) (hn : xs.length ≤ 10000) (hc : rs.length ≤ 4) :
    Calls Try.prog 31 #[v, lv, .func (.func 32) #[] #[]] w (PutPost w (b9list b9last xs rs)) := by
  have hE : ∀ w : World, ∀ o, Ext w (w.alloc o) := fun w o => World.grownBy_alloc _ _ _
  obtain ⟨C, ⟨a, cap, rfl, h1, h2, h3⟩, hC⟩ := hl
  have HC : Hid (∀ i r, rs[i]? = some r → C i 0 = .int .i64 r.client ∧ C i 1 = .int .i64 r.req ∧ C i 2 = .int .i64 r.code ∧ C i 3 = .int .i64 r.index) := hC
  obtain ⟨n, hnn⟩ : ∃ n, n = rs.length := ⟨_, rfl⟩
  rw [← hnn] at h1 h3 hc ⊢
  have HN : Hid (n = rs.length) := hnn
  have H3 : Hid (0 < n → ∃ b o, a = some ⟨b, o, none⟩ ∧ b < w.heap.size ∧ ∀ i, i < n → ∀ j, j < 4 → w.cell? ⟨b, o + i * 4 + j, none⟩ = some (C i j)) := h3
  clear h3 hC hnn
  have hml2 : (n : Int) ≤ 1048576 := by omega
  obtain ⟨x0, hx0⟩ : ∃ x, x = numsL xs [(n : Int)] := ⟨_, rfl⟩
  have l0 : x0.length ≤ xs.length + 5 := by rw [hx0]; exact putL_le xs (n : Int)
  have HL : Hid (b9list b9last xs rs = rs.foldl b9last x0) := by unfold Hid b9list; rw [hx0, HN.out]; rfl
  have HX : Hid (numsL xs [(n : Int)] = x0) := hx0.symm
  clear hx0
  go_enter Try.func31, Try.ntmps31
  go_wp2_with fail
  refine (putN1 _ xs x0 (n : Int) _ _ (h.ext (hE _ _)) (by omega) HX.out (heap_alloc_new _ _)).mono ?_
  rintro e w1 ⟨v1, rfl, r1, o1, b1⟩
  have B1 : Below w.heap.size w w1 := ((Below.refl _ w).alloc (Nat.le_refl _) _).trans (b1.mono (by simp))
  have O1 : Ow w1 w.heap.size v1 x0 := ow_base o1 (by simp)
  clear b1 o1 h
  go_wp2
  go_loopw [0, 16] (fun bv i wr => ∃ k : Nat, k ≤ n ∧ i = .int .i64 k ∧ ∃ zs, Hid (zs = (rs.take k).foldl b9last x0) ∧ zs.length ≤ 20000 + 20 * k ∧ RV wr bv zs ∧ Ow wr w.heap.size bv zs ∧ Below w.heap.size w wr) (fun _ i _ => n - (intOf i).toNat)
  case atStart => exact ⟨0, Nat.zero_le _, rfl, x0, by show _ = _; simp, by omega, r1, O1, B1⟩
  case round =>
    obtain ⟨k, hk, rfl, zs, hzs, hzl, rz, oz, bz⟩ := hrel
    clear B1 O1 r1
    by_cases hlt : k < n
    · obtain ⟨b, o, rfl, hbl, hc⟩ := H3.out (by omega)
      obtain ⟨s, hs⟩ : ∃ s, rs[k]? = some s := ⟨_, List.getElem?_eq_getElem (by have := HN.out; omega)⟩
      obtain ⟨e0, e1, e2, e3⟩ := HC.out k s hs
      have X := ext_below bz
      have d0 := World.grownBy.cell X (hc k hlt 0 (by omega)) (by simp)
      rw [Nat.add_zero, e0] at d0
      have d1 := World.grownBy.cell X (hc k hlt 1 (by omega)) (by simp)
      rw [e1] at d1
      have d2 := World.grownBy.cell X (hc k hlt 2 (by omega)) (by simp)
      rw [e2] at d2
      have d3 := World.grownBy.cell X (hc k hlt 3 (by omega)) (by simp)
      rw [e3] at d3
      have hlt' : (k : Int) < (n : Int) := by omega
      have HNX : Hid ((rs.take (k + 1)).foldl b9last x0 = b9last zs s) := by show _ = _; rw [fold_next b9last x0 rs k s hs, ← hzs.out]
      have hle := b9last_le zs s
      obtain ⟨z', hz'⟩ : ∃ z', z' = b9last zs s := ⟨_, rfl⟩
      rw [← hz'] at hle
      have HZ' : Hid (b9last zs s = z') := hz'.symm
      clear hc hz'
      go_wp2_with fail
      refine (putLastV _  zs s _ (rz.ext (hE _ _))  (by omega)).mono ?_
      rw [HZ'.out]
      rintro e w2 ⟨v2, rfl, r2, o2, b2⟩
      have B2 : Below w.heap.size w w2 := (bz.alloc bz.size _).trans (b2.mono (by have := bz.size; simp; omega))
      go_wp2
      go_roundw
      case rel => exact ⟨k + 1, by omega, by go_num, z', by show _ = _; rw [HNX.out, HZ'.out], by omega, r2, ow_base o2 (by have := bz.size; simp; omega), B2⟩
      case measure => simp [intOf]; omega
    · have hkn : k = n := by omega
      subst hkn
      have HR : Hid (b9list b9last xs rs = zs) := by
        show _ = _
        rw [HL.out, hzs.out, List.take_of_length_le (by have := HN.out; omega)]
      go_wp2
      go_ret
      refine ⟨_, rfl, ?_, ?_, bz⟩
      · rw [HR.out]; exact rz
      · rw [HR.out]; exact oz

end Go.Proofs.Ytknemgmfbmmngaa
