/- The specification's TreeNext. -/
import Derived.Test.YtdeogmkcomdbjaaTl1
import Derived.Test.YtdeogmkcomdbjaaTn0
import Derived.Test.YtdeogmkcomdbjaaConv
import Derived.BigQuiet
namespace Go.Proofs.Ytdeogmkcomdbjaa
open Go.RowKit

set_option maxRecDepth 20000 in
set_option maxHeartbeats 1000000 in
theorem sTreeNextV_of (HL : ∀ (d : Nat) (t : DTree d), L6Says t) {d : Nat} (t : DTree d) (v u : Value) (key : List Int) (w : World) (ht : VTree w t v) (hu : RV w u key) (hsz : szT t ≤ 1048576) :
    Calls Try.prog 24 #[v, u] w fun e w' => ∃ gv, e = .returned (.tuple #[gv, .bool (nextTD t key).2]) ∧ Ow w' w.heap.size gv (nextTD t key).1 ∧ Below w.heap.size w w' := by
  have hE : ∀ w : World, ∀ o, Ext w (w.alloc o) := fun w o => World.grownBy_alloc _ _ _
  have HLL : Hid (∀ (d : Nat) (t : DTree d), L6Says t) := HL
  clear HL
  obtain ⟨ob, hob⟩ : ∃ ob, ob = tB (okT t) := ⟨_, rfl⟩
  obtain ⟨R, hR⟩ : ∃ R, R = nextTD t key := ⟨_, rfl⟩
  rw [← hR]
  have HOB := hideL hob
  have HRR : Hid (R = if ob then nextK (keysT t []) key else ([], false)) := by show _ = _; rw [hR, hob]; unfold nextTD; rfl
  clear hob hR
  have HT : Hid (VTree w t v) := ht
  have HZ : Hid (szT t ≤ 1048576) := hsz
  obtain ⟨ua, uc, rfl, hur, _, _⟩ := hu
  have HUR : Hid (Rd w ua key.length key) := hur
  generalize key.length = un at HUR ⊢
  obtain ⟨e1, e2, e3, hv, xv, k1, k2, k3, rfl⟩ := VTree.agg ht
  clear ht hsz hur
  go_enter Try.func24, Try.ntmps24
  go_wp2_with fail
  generalize hW : w.alloc _ = W
  have P0 : W.heap[w.heap.size]? = some (.cells #[.slice e1 e2 e3, .bool hv, .int .i64 xv, .slice k1 k2 k3] 30 (0, 0)) := by rw [← hW]; exact heap_alloc_new w _
  have XW : Ext w W := by rw [← hW]; exact hE _ _
  clear hW
  refine (sTreeOkV_of HLL.out t _ W (VTree.ext XW _ _ HT.out) HZ.out).mono ?_
  rintro e9 w1 ⟨rfl, b1⟩
  have P1 := ext_blk (ext_below b1) P0
  have X1 : Ext w w1 := XW.tr (ext_below b1)
  obtain ⟨q0, _⟩ := at_block P1 0 _ rfl
  obtain ⟨q1, _⟩ := at_block P1 1 _ rfl
  obtain ⟨q2, _⟩ := at_block P1 2 _ rfl
  obtain ⟨q3, _⟩ := at_block P1 3 _ rfl
  clear P0 P1 XW b1
  rw [← HOB.out]
  cases ob
  · have HK : Hid (R = ([], false)) := HRR.out
    go_wp2
    go_ret2
    exact ⟨_, by rw [HK.out]; rfl, by rw [HK.out]; exact World.ownsRow_nil _ _ _ _, ext_bel X1⟩
  have HK : Hid (R = nextK (keysT t []) key) := HRR.out
  go_wp2_with fail
  refine (l6keys_any d t _ _ _ [] [] w1 (VTree.ext X1 _ _ HT.out) ⟨none, 0, rfl, Rd.nil _ _, Nat.le_refl _, Nat.zero_le _⟩ ⟨none, 0, rfl, Rd.nil _ _, Nat.le_refl _, Nat.zero_le _⟩ (by have := HZ.out; simp only [List.length_nil]; omega) (by simp)).mono ?_
  rintro e9 w2 ⟨lv, F, rfl, t2, b2⟩
  rw [keysP_nil] at t2
  have X2 : Ext w w2 := X1.tr (ext_below b2)
  have HT2 := hideL (t2.low X1.size)
  have HX2 := hideL X2
  obtain ⟨LS, hLS⟩ : ∃ LS, LS = keysT t [] := ⟨_, rfl⟩
  rw [← hLS] at HT2 HK
  have HLS := hideL hLS
  have HLN : Hid (LS.length ≤ 1048577) := by
    show _ ≤ _
    rw [hLS]
    have h1 := keys_len d t []
    have h2 := cntK_le d t
    have h3 : szTD d t ≤ 1048576 := HZ.out
    have h4 : (keysT t []).length = cntKD d t := h1
    omega
  obtain ⟨ln, hln⟩ : ∃ ln, ln = LS.length := ⟨_, rfl⟩
  have HN := hideL hln
  obtain ⟨la, lc, hlv, hcell⟩ : ∃ la lc, lv = .slice la ln lc ∧ ∀ (j : Nat) (f : Value), F[j]? = some f → ∃ b, la = some ⟨b, 0, none⟩ ∧ w2.cell? ⟨b, j, none⟩ = some f := by
    have hr := HT2.out.row
    rcases hr.2 with ⟨hv0, h0⟩ | ⟨g, cap, cur, hv0, _⟩
    · refine ⟨none, 0, by rw [hv0, hln, ← HT2.out.len, h0], fun j f hf => ?_⟩
      have := (List.getElem?_eq_some_iff.1 hf).1
      omega
    · refine ⟨some ⟨g, 0, none⟩, cap, by rw [hv0, hln, ← HT2.out.len], fun j f hf => ⟨g, rfl, ?_⟩⟩
      rw [hv0] at hr
      have hj := (List.getElem?_eq_some_iff.1 hf).1
      rw [World.ownsRow.cellAt hr j (by omega)]
      exact hf
  subst hlv
  have HCE := hideL hcell
  have hl1 : (ln : Int) ≤ 1048577 := by have := HLN.out; omega
  clear t2 b2 X2 X1 hLS hln hcell q0 q1 q2 q3
  go_wp2
  go_loopw [7] (fun iv wr => ∃ k q : Nat, k ≤ ln ∧ iv = .int .i64 k ∧ wr = w2.drewN q ∧ Hid (∀ j y, j < k → LS[j]? = some y → ltK key y = false)) (fun iv _ => ln - (intOf iv).toNat)
  case atStart => exact ⟨0, 0, Nat.zero_le _, rfl, rfl, fun j y hj => absurd hj (by omega)⟩
  case round =>
    obtain ⟨k, q, hk, rfl, rfl, hall⟩ := hrel
    by_cases hlt : k < ln
    · obtain ⟨y, hy⟩ : ∃ y, LS[k]? = some y := ⟨_, List.getElem?_eq_getElem (by have := HN.out; omega)⟩
      obtain ⟨f, hf⟩ : ∃ f, F[k]? = some f := ⟨_, List.getElem?_eq_getElem (by have := HN.out; have := HT2.out.len; omega)⟩
      obtain ⟨b, rfl, ck⟩ := HCE.out k f hf
      obtain ⟨of, fa, fc, rfl⟩ := HT2.out.tx k f y hf hy
      have hrg : ∀ z ∈ y, 0 ≤ z ∧ z ≤ 255 := keys_rng (ah := []) HT.out (fun _ h => by cases h) (by rw [← HLS.out]; exact List.mem_of_getElem? hy)
      obtain ⟨fa', fc', hfe, frd, _, _⟩ := of.rv hrg
      simp only [Value.slice.injEq] at hfe
      obtain ⟨rfl, _, rfl⟩ := hfe
      have hcv := fun q => convR (w := w2.drewN q) (frd.grown (ext_drewN w2 q)) fc
      have hcu := fun q => convR (w := w2.drewN q) ((HUR.out.grown HX2.out).grown (ext_drewN w2 q)) uc
      have HOF := hideL of
      generalize y.length = yn at ck hcv HOF ⊢
      have hlt' : (k : Int) < (ln : Int) := by omega
      have HY := hideL hy
      clear hf of hrg frd hy
      obtain ⟨A, hA⟩ : ∃ A, Op.bytesLess (strOfNums y).toList (strOfNums key).toList = A := ⟨_, rfl⟩
      obtain ⟨B, hB⟩ : ∃ B, ((strOfNums y).toList == (strOfNums key).toList) = B := ⟨_, rfl⟩
      have HID : Hid (ltK key y = !(A || B)) := by show _ = _; rw [← hA, ← hB]; exact (bl_tri _ _).symm
      have HA : Hid (ltK key y = false → ∀ j z, j < k + 1 → LS[j]? = some z → ltK key z = false) := fun hid j z hj hz => by
        by_cases e : j = k
        · subst e
          rw [HY.out] at hz
          cases hz
          exact hid
        · exact hall.out j z (by omega) hz
      have HB : Hid (ltK key y = true → R = (y, true)) := fun hid => by rw [HK.out, nextK, find_at HY.out hid hall.out]
      clear hall
      cases A
      · cases B
        · have HKK : Hid (R = (y, true)) := HB.out HID.out
          go_wp2
          go_quiet (fail)
          go_wp2
          go_ret2
          exact ⟨_, by rw [HKK.out]; rfl, by rw [HKK.out]; exact HOF.out.ext (ext_drewN _ _), below_drewN (ext_bel HX2.out) _⟩
        · have HA2 := hideL (HA.out HID.out)
          go_wp2
          go_quiet (fail)
          go_wp2
          go_roundw
          case rel => exact ⟨k + 1, _, by omega, by go_num, rfl, HA2⟩
          case measure => simp [intOf]; omega
      · have HA2 := hideL (HA.out HID.out)
        go_wp2
        go_quiet (fail)
        go_wp2
        go_roundw
        case rel => exact ⟨k + 1, _, by omega, by go_num, rfl, HA2⟩
        case measure => simp [intOf]; omega
    · have hkn : k = ln := by omega
      subst hkn
      have HKK : Hid (R = ([], false)) := by show _ = _; rw [HK.out, nextK, find_none (fun j y hj => hall.out j y (by have := (List.getElem?_eq_some_iff.1 hj).1; have := HN.out; omega) hj)]
      go_wp2
      go_ret2
      exact ⟨_, by rw [HKK.out]; rfl, by rw [HKK.out]; exact World.ownsRow_nil _ _ _ _, below_drewN (ext_bel HX2.out) _⟩

end Go.Proofs.Ytdeogmkcomdbjaa
