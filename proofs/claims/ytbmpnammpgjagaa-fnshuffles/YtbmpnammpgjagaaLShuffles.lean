/- FnShuffles: the walk of the law itself. -/
import Derived.Test.YtbmpnammpgjagaaSd0
import Derived.Test.YtbmpnammpgjagaaPx2
import Derived.BigQuiet
namespace Go.Proofs.Ytbmpnammpgjagaa
open Go.RowKit

/-- How often v is among the first k of one, less of the other. -/
def dif (xs ys : List Int) (v : Int) (k : Nat) : Int := ((xs.take k).count v : Int) - ((ys.take k).count v : Int)
theorem count_next {xs : List Int} {k : Nat} {x v : Int} (hx : xs[k]? = some x) : (xs.take (k + 1)).count v = (xs.take k).count v + if x = v then 1 else 0 := by
  rw [List.take_add_one, hx, List.count_append]
  by_cases e : x = v
  · subst e; simp
  · simp [e]
theorem dif_next {xs ys : List Int} {k : Nat} {x y v : Int} (hx : xs[k]? = some x) (hy : ys[k]? = some y) : dif xs ys v (k + 1) = dif xs ys v k + (if x = v then 1 else 0) - (if y = v then 1 else 0) := by
  unfold dif
  rw [count_next hx, count_next hy]
  split <;> split <;> omega
theorem dif_all {xs ys : List Int} {v : Int} (h : ys.Perm xs) (k : Nat) (hk : k = xs.length) : dif xs ys v k = 0 := by
  unfold dif
  rw [List.take_of_length_le (by omega), List.take_of_length_le (by rw [h.length_eq]; omega), h.count_eq]
  omega
theorem dif_bd (xs ys : List Int) (v : Int) (k : Nat) : -(k : Int) ≤ dif xs ys v k ∧ dif xs ys v k ≤ k := by
  unfold dif
  have h1 := List.count_le_length (a := v) (l := xs.take k)
  have h2 := List.count_le_length (a := v) (l := ys.take k)
  rw [List.length_take] at h1 h2
  omega

set_option maxRecDepth 20000 in
set_option maxHeartbeats 4000000 in
theorem law_FnShuffles (a : Option Addr) (n cap : Nat) (xs : List Int) (w : World) (hr : Rd w a n xs) (hnc : n ≤ cap) (hm : cap ≤ maxLen) :
    Calls Try.prog 3 #[.slice a n cap] w fun e w' => e = .returned (.bool true) ∧ Below w.heap.size w w' := by
  have HR : Hid (Rd w a n xs) := hr
  have HMM : Hid (n ≤ maxLen) := Nat.le_trans hnc hm
  clear hr hnc hm
  go_enter Try.func3, Try.ntmps3
  go_wp2_with fail
  refine (drawShuf a n cap xs w HR.out HMM.out).mono ?_
  rintro e w1 ⟨lv, ls, s, rfl, hl, hl13, hsi, b1⟩
  obtain ⟨la, lc, hlv⟩ := vl_shape hl
  obtain ⟨m, hmm⟩ : ∃ m, m = ls.length := ⟨_, rfl⟩
  have HM : Hid (m = ls.length) := hmm
  rw [← hmm] at hl13 hlv
  subst hlv
  have HL : Hid (VL fI w1 (.slice la m lc) ls) := hl
  have HB1 : Hid (Below w.heap.size w w1) := b1
  clear hl b1 hmm
  obtain ⟨R, hR⟩ : ∃ R, R = shufD ls s := ⟨_, rfl⟩
  have HSI : Hid (IsInt s) := hsi
  go_wp2_with fail
  refine (iShuffleV _ ls s w1 HL.out hsi.1 hsi.2).mono ?_
  rintro e w2 ⟨xv, rfl, o2, b2⟩
  rw [← hR] at o2 ⊢
  have HL2 : Hid (VL fI w2 (.slice la m lc) ls) := HL.out.ext (ext_below b2)
  have HX2 : Hid (VL fI w2 xv R.1) := o2.vl
  obtain ⟨xa, xc, hxv⟩ := o2.shape
  subst hxv
  have HB2 : Hid (Below w.heap.size w w2) := HB1.out.trans (b2.mono HB1.out.size)
  clear o2 b2 HL HB1 hsi
  by_cases hbad : ls.length > 12 ∨ s < 0 ∨ 2147483647 < s
  · have HK : Hid (R = ([], 0)) := by show _ = _; rw [hR]; exact if_pos hbad
    have h0 : R.1.length = 0 := by rw [HK.out]; rfl
    rw [h0]
    have hmix : mixF 1 = 16818 := by decide
    rw [← HM.out] at hbad
    clear hR h0
    by_cases g1 : m > 12
    · have d1 : decide ((m : Int) > 12) = true := decide_eq_true (by omega)
      clear hbad
      go_wp2_with (go_at_call 6; refine (iMixV _ _ (by omega) (by omega)).mono ?_; rintro e w3 ⟨rfl, hw⟩; have hw' := hw.symm; clear hw; subst hw'; rw [hmix])
      go_ret
      exact ⟨rfl, HB2.out⟩
    have d1 : decide ((m : Int) > 12) = false := decide_eq_false (by omega)
    by_cases g2 : s < 0
    · clear hbad
      go_wp2_with (go_at_call 6; refine (iMixV _ _ (by omega) (by omega)).mono ?_; rintro e w3 ⟨rfl, hw⟩; have hw' := hw.symm; clear hw; subst hw'; rw [hmix])
      go_ret
      exact ⟨rfl, HB2.out⟩
    · have g3 : 2147483647 < s := by omega
      clear hbad
      go_wp2_with (go_at_call 6; refine (iMixV _ _ (by omega) (by omega)).mono ?_; rintro e w3 ⟨rfl, hw⟩; have hw' := hw.symm; clear hw; subst hw'; rw [hmix])
      go_ret
      exact ⟨rfl, HB2.out⟩
  have HRR : Hid (R = shufL ls s) := by show _ = _; rw [hR]; exact if_neg hbad
  have hrl : R.1.length = m := by rw [HRR.out, shufL_len, HM.out]
  have HP : Hid (R.1.Perm ls) := by
    unfold Hid
    rw [HRR.out]
    exact shufN_perm _ _ _ (by have := HM.out; omega)
  rw [← HM.out] at hbad
  have d1 : decide ((m : Int) > 12) = false := decide_eq_false (by omega)
  have d2 : ¬ s < 0 := by omega
  have d3 : ¬ 2147483647 < s := by omega
  have hm12 : m ≤ 12 := by omega
  rw [hrl] at HX2 ⊢
  have hne : ((m : Int) != (m : Int)) = false := by simp
  obtain ⟨rs, hrs⟩ : ∃ rs, rs = R.1 := ⟨_, rfl⟩
  rw [← hrs] at HX2 HP hrl
  have HRL : Hid (rs.length = m) := hrl
  clear hR hbad hrl hrs HRR
  go_wp2
  go_loopw [7] (fun i wr => ∃ k q : Nat, k ≤ m ∧ i = .int .i64 k ∧ wr = w2.drewN q) (fun i _ => m - (intOf i).toNat)
  case atStart => exact ⟨0, 0, Nat.zero_le _, rfl, rfl⟩
  case round =>
    obtain ⟨k, q, hk, rfl, rfl⟩ := hrel
    by_cases hlt : k < m
    · obtain ⟨v, hv⟩ : ∃ v, ls[k]? = some v := ⟨_, List.getElem?_eq_getElem (by have := HM.out; omega)⟩
      obtain ⟨lb, lo, ela, hlc⟩ : ∃ b o, la = some ⟨b, o, none⟩ ∧ ∀ (i : Nat) (x : Int), ls[i]? = some x → w2.cell? ⟨b, o + i, none⟩ = some (.int .i64 x) := by
        obtain ⟨a', cap', e, h1, h2, h3⟩ := HL2.out
        simp only [Value.slice.injEq] at e
        obtain ⟨rfl, rfl, rfl⟩ := e
        obtain ⟨b, o, ha, _, hc⟩ := h3 (by omega)
        exact ⟨b, o, ha, hc⟩
      obtain ⟨rb, ro, era, hrc⟩ : ∃ b o, xa = some ⟨b, o, none⟩ ∧ ∀ (i : Nat) (x : Int), rs[i]? = some x → w2.cell? ⟨b, o + i, none⟩ = some (.int .i64 x) := by
        obtain ⟨a', cap', e, h1, h2, h3⟩ := HX2.out
        simp only [Value.slice.injEq] at e
        obtain ⟨rfl, e2, rfl⟩ := e
        obtain ⟨b, o, ha, _, hc⟩ := h3 (by omega)
        exact ⟨b, o, ha, hc⟩
      subst ela era
      have HLC : Hid (∀ (i : Nat) (x : Int), ls[i]? = some x → w2.cell? ⟨lb, lo + i, none⟩ = some (.int .i64 x)) := hlc
      have HRC : Hid (∀ (i : Nat) (x : Int), rs[i]? = some x → w2.cell? ⟨rb, ro + i, none⟩ = some (.int .i64 x)) := hrc
      have ck := hlc k v hv
      have hlt' : (k : Int) < (m : Int) := by omega
      have HV : Hid (ls[k]? = some v) := hv
      clear hlc hrc hv
      go_wp2
      go_loopw [8, 9] (fun nv i wr => ∃ k' q' : Nat, k' ≤ m ∧ i = .int .i64 k' ∧ wr = w2.drewN q' ∧ nv = .int .i64 (dif ls rs v k')) (fun _ i _ => m - (intOf i).toNat)
      case atStart => exact ⟨0, q, Nat.zero_le _, rfl, rfl, rfl⟩
      case round =>
        obtain ⟨k', q', hk', rfl, rfl, rfl⟩ := hrel
        by_cases hlt2 : k' < m
        · obtain ⟨x, hx⟩ : ∃ x, ls[k']? = some x := ⟨_, List.getElem?_eq_getElem (by have := HM.out; omega)⟩
          obtain ⟨y, hy⟩ : ∃ y, rs[k']? = some y := ⟨_, List.getElem?_eq_getElem (by have := HRL.out; omega)⟩
          have cx := HLC.out k' x hx
          have cy := HRC.out k' y hy
          have hlt2' : (k' : Int) < (m : Int) := by omega
          have HD : Hid (dif ls rs v (k' + 1) = dif ls rs v k' + (if x = v then 1 else 0) - (if y = v then 1 else 0)) := dif_next hx hy
          have hbd := dif_bd ls rs v k'
          obtain ⟨dk, hdk⟩ : ∃ dk, dk = dif ls rs v k' := ⟨_, rfl⟩
          rw [← hdk] at HD hbd ⊢
          obtain ⟨hb0, hb1⟩ := hbd
          have hb2 : -12 ≤ dk := by omega
          have hb3 : dk ≤ 12 := by omega
          clear hx hy hdk hb0 hb1
          by_cases e1 : x = v
          · have e1' : (x == v) = true := by simpa using e1
            by_cases e2 : y = v
            · have e2' : (y == v) = true := by simpa using e2
              have HE : Hid (dif ls rs v (k' + 1) = dk + 1 - 1) := by show _ = _; rw [HD.out, if_pos e1, if_pos e2]
              clear e1 e2 HD
              go_wp2_with fail
              go_quiet (fail)
              go_wp2_with fail
              go_quiet (fail)
              go_wp2
              go_roundw
              case rel => exact ⟨k' + 1, _, by omega, by go_num, by first | rfl | (rw [World.drewN_drewN, World.drewN_drewN]) | exact World.drewN_drewN _ _ _, congrArg (Value.int .i64) (by have := HE.out; omega)⟩
              case measure => simp [intOf]; omega
            · have e2' : (y == v) = false := by simpa using e2
              have HE : Hid (dif ls rs v (k' + 1) = dk + 1) := by show _ = _; rw [HD.out, if_pos e1, if_neg e2]; omega
              clear e1 e2 HD
              go_wp2_with fail
              go_quiet (fail)
              go_wp2_with fail
              go_quiet (fail)
              go_wp2
              go_roundw
              case rel => exact ⟨k' + 1, _, by omega, by go_num, by first | rfl | (rw [World.drewN_drewN, World.drewN_drewN]) | exact World.drewN_drewN _ _ _, congrArg (Value.int .i64) (by have := HE.out; omega)⟩
              case measure => simp [intOf]; omega
          · have e1' : (x == v) = false := by simpa using e1
            by_cases e2 : y = v
            · have e2' : (y == v) = true := by simpa using e2
              have HE : Hid (dif ls rs v (k' + 1) = dk - 1) := by show _ = _; rw [HD.out, if_neg e1, if_pos e2]; omega
              clear e1 e2 HD
              go_wp2_with fail
              go_quiet (fail)
              go_wp2_with fail
              go_quiet (fail)
              go_wp2
              go_roundw
              case rel => exact ⟨k' + 1, _, by omega, by go_num, by first | rfl | (rw [World.drewN_drewN, World.drewN_drewN]) | exact World.drewN_drewN _ _ _, congrArg (Value.int .i64) (by have := HE.out; omega)⟩
              case measure => simp [intOf]; omega
            · have e2' : (y == v) = false := by simpa using e2
              have HE : Hid (dif ls rs v (k' + 1) = dk) := by show _ = _; rw [HD.out, if_neg e1, if_neg e2]; omega
              clear e1 e2 HD
              go_wp2_with fail
              go_quiet (fail)
              go_wp2_with fail
              go_quiet (fail)
              go_wp2
              go_roundw
              case rel => exact ⟨k' + 1, _, by omega, by go_num, by first | rfl | (rw [World.drewN_drewN, World.drewN_drewN]) | exact World.drewN_drewN _ _ _, congrArg (Value.int .i64) (by have := HE.out; omega)⟩
              case measure => simp [intOf]; omega
        · have hkk : k' = m := by omega
          subst hkk
          have h0 : dif ls rs v k' = 0 := dif_all HP.out k' HM.out
          rw [h0]
          go_wp2
          go_roundw
          case rel => exact ⟨k + 1, q', by omega, by go_num, rfl⟩
          case measure => simp [intOf]; omega
    · have hkm : k = m := by omega
      subst hkm
      go_wp2
      go_ret
      exact ⟨rfl, below_drewN HB2.out _⟩

end Go.Proofs.Ytbmpnammpgjagaa
