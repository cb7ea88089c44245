/- The specification's TreeLongest. -/
import Derived.Test.YtdeogmkcomdbjaaTl1
import Derived.Test.YtdeogmkcomdbjaaTq1
import Derived.BigQuiet
namespace Go.Proofs.Ytdeogmkcomdbjaa
open Go.RowKit

set_option maxRecDepth 20000 in
set_option maxHeartbeats 1000000 in
theorem sTreeLongestV_of (HL : ∀ (d : Nat) (t : DTree d), L6Says t) {d : Nat} (t : DTree d) (v u : Value) (key : List Int) (w : World) (ht : VTree w t v) (hu : RV w u key) (hsz : szT t ≤ 1048576) (hkl : key.length ≤ 1048576) :
    Calls Try.prog 21 #[v, u] w fun e w' => ∃ gv, e = .returned (.tuple #[gv, .bool (longTD t key).2]) ∧ Ow w' w.heap.size gv (longTD t key).1 ∧ Below w.heap.size w w' := by
  have hE : ∀ w : World, ∀ o, Ext w (w.alloc o) := fun w o => World.grownBy_alloc _ _ _
  have HLL : Hid (∀ (d : Nat) (t : DTree d), L6Says t) := HL
  clear HL
  obtain ⟨ob, hob⟩ : ∃ ob, ob = tB (okT t) := ⟨_, rfl⟩
  obtain ⟨R, hR⟩ : ∃ R, R = longTD t key := ⟨_, rfl⟩
  rw [← hR]
  have HOB := hideL hob
  have HRR : Hid (R = if ob then longK (keysT t []) key else ([], false)) := by show _ = _; rw [hR, hob]; unfold longTD; rfl
  clear hob hR
  have HT : Hid (VTree w t v) := ht
  have HZ : Hid (szT t ≤ 1048576) := hsz
  have HUV : Hid (RV w u key) := hu
  have HKL : Hid (key.length ≤ 2097152) := Nat.le_trans hkl (by omega)
  obtain ⟨ua, uc, rfl, _, _, _⟩ := hu
  clear hkl
  obtain ⟨un, hun⟩ : ∃ un, un = key.length := ⟨_, rfl⟩
  rw [← hun] at HUV ⊢
  clear hun
  obtain ⟨e1, e2, e3, hv, xv, k1, k2, k3, rfl⟩ := VTree.agg ht
  clear ht hsz
  go_enter Try.func21, Try.ntmps21
  go_wp2_with fail
  generalize hW : w.alloc _ = W
  have P0 : W.heap[w.heap.size]? = some (.cells #[.slice e1 e2 e3, .bool hv, .int .i64 xv, .slice k1 k2 k3] 30 (0, 0)) := by rw [← hW]; exact heap_alloc_new w _
  have XW : Ext w W := by rw [← hW]; exact hE _ _
  clear hW
  refine (sTreeOkV_of HLL.out t _ W (VTree.ext XW _ _ HT.out) HZ.out).mono ?_
  rintro e9 w1 ⟨rfl, b1⟩
  have P1 := ext_blk (ext_below b1) P0
  have X1 : Ext w w1 := XW.tr (ext_below b1)
  obtain ⟨q0, _⟩ := at_block P1 0 _ rfl
  obtain ⟨q1, _⟩ := at_block P1 1 _ rfl
  obtain ⟨q2, _⟩ := at_block P1 2 _ rfl
  obtain ⟨q3, _⟩ := at_block P1 3 _ rfl
  clear P0 P1 XW b1
  rw [← HOB.out]
  cases ob
  · have HK : Hid (R = ([], false)) := HRR.out
    go_wp2
    go_ret2
    exact ⟨_, by rw [HK.out]; rfl, by rw [HK.out]; exact World.ownsRow_nil _ _ _ _, ext_bel X1⟩
  have HK : Hid (R = longK (keysT t []) key) := HRR.out
  go_wp2_with fail
  refine (l6keys_any d t _ _ _ [] [] w1 (VTree.ext X1 _ _ HT.out) ⟨none, 0, rfl, Rd.nil _ _, Nat.le_refl _, Nat.zero_le _⟩ ⟨none, 0, rfl, Rd.nil _ _, Nat.le_refl _, Nat.zero_le _⟩ (by have := HZ.out; simp only [List.length_nil]; omega) (by simp)).mono ?_
  rintro e9 w2 ⟨lv, F, rfl, t2, b2⟩
  rw [keysP_nil] at t2
  have X2 : Ext w w2 := X1.tr (ext_below b2)
  have HT2 := hideL (t2.low X1.size)
  have HX2 := hideL X2
  obtain ⟨LS, hLS⟩ : ∃ LS, LS = keysT t [] := ⟨_, rfl⟩
  rw [← hLS] at HT2 HK
  have HLS := hideL hLS
  have HLN : Hid (LS.length ≤ 1048577) := by
    show _ ≤ _
    rw [hLS]
    have h1 := keys_len d t []
    have h2 := cntK_le d t
    have h3 : szTD d t ≤ 1048576 := HZ.out
    have h4 : (keysT t []).length = cntKD d t := h1
    omega
  obtain ⟨ln, hln⟩ : ∃ ln, ln = LS.length := ⟨_, rfl⟩
  have HN := hideL hln
  obtain ⟨la, lc, hlv, hcell⟩ : ∃ la lc, lv = .slice la ln lc ∧ ∀ (j : Nat) (f : Value), F[j]? = some f → ∃ b, la = some ⟨b, 0, none⟩ ∧ w2.cell? ⟨b, j, none⟩ = some f := by
    have hr := HT2.out.row
    rcases hr.2 with ⟨hv0, h0⟩ | ⟨g, cap, cur, hv0, _⟩
    · refine ⟨none, 0, by rw [hv0, hln, ← HT2.out.len, h0], fun j f hf => ?_⟩
      have := (List.getElem?_eq_some_iff.1 hf).1
      omega
    · refine ⟨some ⟨g, 0, none⟩, cap, by rw [hv0, hln, ← HT2.out.len], fun j f hf => ⟨g, rfl, ?_⟩⟩
      rw [hv0] at hr
      have hj := (List.getElem?_eq_some_iff.1 hf).1
      rw [World.ownsRow.cellAt hr j (by omega)]
      exact hf
  subst hlv
  have HCE := hideL hcell
  have hl1 : (ln : Int) ≤ 1048577 := by have := HLN.out; omega
  clear t2 b2 X2 X1 hLS hln hcell q0 q1 q2 q3
  have HRG : Hid (∀ y ∈ LS, ∀ z ∈ y, 0 ≤ z ∧ z ≤ 255) := fun y hy => keys_rng (ah := []) HT.out (fun _ h => by cases h) (by rw [← HLS.out]; exact hy)
  have HLX : Hid (∀ y ∈ LS, y.length ≤ 1048576) := fun y hy => keys_lenX d t [] 1048576 (by have h2 : szTD d t ≤ 1048576 := HZ.out; simp only [List.length_nil]; omega) y (by rw [HLS.out] at hy; exact hy)
  have HASC : Hid (LS.Pairwise (fun x y => ltK x y = true)) := by show LS.Pairwise _; rw [HLS.out]; exact keys_asc d t _ [] HT.out (tB_iff.1 HOB.out.symm).2.1
  have HCX : Hid (∀ (j : Nat) (y : List Int), LS[j]? = some y → ∃ b fa fc, la = some ⟨b, 0, none⟩ ∧ w2.cell? ⟨b, j, none⟩ = some (.slice fa y.length fc) ∧ Ow w2 w.heap.size (.slice fa y.length fc) y) := fun j y hy => by
    obtain ⟨f, hf⟩ : ∃ f, F[j]? = some f := ⟨_, List.getElem?_eq_getElem (by have := HT2.out.len; have := (List.getElem?_eq_some_iff.1 hy).1; omega)⟩
    obtain ⟨b, hb, hc⟩ := HCE.out j f hf
    obtain ⟨ho, fa, fc, rfl⟩ := HT2.out.tx j f y hf hy
    exact ⟨b, fa, fc, hb, hc, ho⟩
  go_wp2
  go_loopw [7, 8] (fun bv iv wr => ∃ k q : Nat, k ≤ ln ∧ iv = .int .i64 k ∧ wr = w2.drewN q ∧ ((Hid (lastP (LS.take k) key = none) ∧ bv = .int .i64 (-1)) ∨ ∃ (j : Nat) (x : List Int), j < k ∧ Hid (LS[j]? = some x) ∧ Hid (lastP (LS.take k) key = some x) ∧ bv = .int .i64 j)) (fun _ iv _ => ln - (intOf iv).toNat)
  case atStart => exact ⟨0, 0, Nat.zero_le _, rfl, rfl, .inl ⟨by show _ = _; simp [lastP], rfl⟩⟩
  case round =>
    obtain ⟨k, q, hk, rfl, rfl, hbest⟩ := hrel
    by_cases hlt : k < ln
    · obtain ⟨y, hy⟩ : ∃ y, LS[k]? = some y := ⟨_, List.getElem?_eq_getElem (by have := HN.out; omega)⟩
      obtain ⟨b, fa, fc, rfl, ck, of⟩ := HCX.out k y hy
      have hym := List.mem_of_getElem? hy
      have hyl := HLX.out y hym
      have HRY : Hid (RV w2 (.slice fa y.length fc) y) := of.rv (HRG.out y hym)
      have HST := hideL (last_step (text := key) hy)
      obtain ⟨hb, hhb⟩ : ∃ hb, hb = hasB key y := ⟨_, rfl⟩
      have HHB := hideL hhb
      have HHC : Hid (∀ n, Calls Try.prog 39 #[.slice ua un uc, .slice fa y.length fc] (w2.drewN (q + n)) fun e w' => e = .returned (.bool hb) ∧ ∃ m, w' = w2.drewN (q + m)) := fun n => by
        rw [hhb]
        refine (sHasV _ _ key y (w2.drewN (q + n)) ((HUV.out.ext HX2.out).ext (ext_drewN _ _)) (HRY.out.ext (ext_drewN _ _)) HKL.out (by omega)).mono ?_
        rintro e w' ⟨he, m, hm⟩
        exact ⟨he, n + m, by rw [hm, World.drewN_drewN, Nat.add_assoc]⟩
      have HY := hideL hy
      obtain ⟨yn, hyn⟩ : ∃ yn, yn = y.length := ⟨_, rfl⟩
      rw [← hyn] at HHC ck hyl
      have HYN := hideL hyn
      have hlt' : (k : Int) < (ln : Int) := by omega
      clear hy of hym hhb hyn
      cases hb
      · have HS2 : Hid (lastP (LS.take (k + 1)) key = lastP (LS.take k) key) := by show _ = _; rw [HST.out, ← HHB.out]; rfl
        have HBE : Hid ((Hid (lastP (LS.take (k + 1)) key = none) ∧ u7 = .int .i64 (-1)) ∨ ∃ (j : Nat) (x : List Int), j < k + 1 ∧ Hid (LS[j]? = some x) ∧ Hid (lastP (LS.take (k + 1)) key = some x) ∧ u7 = .int .i64 j) := by
          rcases hbest with ⟨h1, h2⟩ | ⟨j, x, h1, h2, h3, h4⟩
          · exact .inl ⟨HS2.out.trans h1.out, h2⟩
          · exact .inr ⟨j, x, by omega, h2, HS2.out.trans h3.out, h4⟩
        clear hbest
        go_wp2
        go_quiet ((go_at_call 39; exact HHC.out _))
        go_wp2
        go_roundw
        case rel => exact ⟨k + 1, _, by omega, by go_num, rfl, HBE.out⟩
        case measure => simp [intOf]; omega
      · have HS2 : Hid (lastP (LS.take (k + 1)) key = some y) := by show _ = _; rw [HST.out, ← HHB.out]; rfl
        rcases hbest with ⟨h1, rfl⟩ | ⟨j, x, h1, h2, h3, rfl⟩
        · go_wp2
          go_quiet ((go_at_call 39; exact HHC.out _))
          go_wp2
          go_roundw
          case rel => exact ⟨k + 1, _, by omega, by go_num, rfl, .inr ⟨k, y, by omega, HY, HS2, rfl⟩⟩
          case measure => simp [intOf]; omega
        · obtain ⟨b', fa', fc', hbb, cj, _⟩ := HCX.out j x h2.out
          simp only [Option.some.injEq, Addr.mk.injEq, and_true] at hbb
          subst hbb
          have hxl := HLX.out x (List.mem_of_getElem? h2.out)
          have hjl : j < ln := by omega
          have hjl' : (j : Int) < (ln : Int) := by omega
          have hgt : x.length < yn := by
            rw [HYN.out]
            have ha := HASC.out
            rw [List.pairwise_iff_getElem] at ha
            obtain ⟨g1, e1⟩ := List.getElem?_eq_some_iff.1 h2.out
            obtain ⟨g2, e2⟩ := List.getElem?_eq_some_iff.1 HY.out
            have h5 := ha j k g1 g2 h1
            rw [e1, e2] at h5
            exact pre_len (last_has h3.out).1 HHB.out.symm h5
          obtain ⟨xn, hxn⟩ : ∃ xn, xn = x.length := ⟨_, rfl⟩
          rw [← hxn] at hgt cj hxl
          have hgt' : decide ((yn : Int) > (xn : Int)) = true := decide_eq_true (by omega)
          have hj0 : decide ((j : Int) < 0) = false := decide_eq_false (by omega)
          clear hxn
          go_wp2
          go_quiet ((go_at_call 39; exact HHC.out _))
          go_wp2
          go_roundw
          case rel => exact ⟨k + 1, _, by omega, by go_num, rfl, .inr ⟨k, y, by omega, HY, HS2, rfl⟩⟩
          case measure => simp [intOf]; omega
    · have hkn : k = ln := by omega
      subst hkn
      have HLA := hideL (last_all (text := key) HN.out)
      rcases hbest with ⟨h1, rfl⟩ | ⟨j, x, h1, h2, h3, rfl⟩
      · have HKK : Hid (R = ([], false)) := by show _ = _; rw [HK.out, longK, ← HLA.out, h1.out]; rfl
        go_wp2
        go_ret2
        exact ⟨_, by rw [HKK.out]; rfl, by rw [HKK.out]; exact World.ownsRow_nil _ _ _ _, below_drewN (ext_bel HX2.out) _⟩
      · have HKK : Hid (R = (x, true)) := by show _ = _; rw [HK.out, longK, ← HLA.out, h3.out]; rfl
        obtain ⟨b', fa', fc', rfl, cj, oj⟩ := HCX.out j x h2.out
        have HOJ := hideL oj
        have hjl' : (j : Int) < (k : Int) := by omega
        generalize x.length = xn at cj HOJ
        have hj0 : decide ((j : Int) < 0) = false := decide_eq_false (by omega)
        clear oj
        go_wp2
        go_ret2
        exact ⟨_, by rw [HKK.out]; rfl, by rw [HKK.out]; exact HOJ.out.ext (ext_drewN _ _), below_drewN (ext_bel HX2.out) _⟩

end Go.Proofs.Ytdeogmkcomdbjaa
