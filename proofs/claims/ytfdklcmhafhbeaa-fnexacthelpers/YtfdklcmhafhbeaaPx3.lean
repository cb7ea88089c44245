/- The library's Index and Contains at numbers; the program's orderOk. -/
import Derived.Test.YtfdklcmhafhbeaaPr3
import Derived.Test.YtfdklcmhafhbeaaWi
namespace Go.Proofs.Ytfdklcmhafhbeaa
open Go.RowKit

set_option maxHeartbeats 2000000 in
theorem indexIV (v : Value) (xs : List Int) (y : Int) (w : World) (h : VL fI w v xs) :
    Calls Try.prog 73 #[v, .int .i64 y] w fun e w' => (∃ r : Int, e = .returned (.int .i64 r) ∧ decide (r ≥ 0) = decide (y ∈ xs)) ∧ w' = w := by
  obtain ⟨a, cap, rfl, h1, h2, h3⟩ := h
  obtain ⟨n, hnn⟩ : ∃ n, n = xs.length := ⟨_, rfl⟩
  rw [← hnn] at h1 h3 ⊢
  have HN : Hid (n = xs.length) := hnn
  clear hnn
  unfold maxLen at h2
  have H3 : Hid (0 < n → ∃ b o, a = some ⟨b, o, none⟩ ∧ b < w.heap.size ∧ ∀ (i : Nat) (x : Int), xs[i]? = some x → w.cell? ⟨b, o + i, none⟩ = some (fI x)) := h3
  clear h3
  obtain ⟨ob, hob⟩ : ∃ ob, ob = decide (y ∈ xs) := ⟨_, rfl⟩
  have HO : Hid (ob = decide (y ∈ xs)) := hob
  rw [← hob]
  clear hob
  go_enter Try.func73, Try.ntmps73
  go_wp2
  go_loopw [8] (fun i wr => ∃ k : Nat, k ≤ n ∧ i = .int .i64 k ∧ wr = w ∧ Hid (∀ (j : Nat) z, j < k → xs[j]? = some z → y ≠ z)) (fun i _ => n - (intOf i).toNat)
  case atStart => exact ⟨0, Nat.zero_le _, rfl, rfl, fun j y hj => absurd hj (by omega)⟩
  case round =>
    obtain ⟨k, hk, rfl, rfl, hall⟩ := hrel
    by_cases hlt : k < n
    · obtain ⟨b, o, rfl, hbl, hc⟩ := H3.out (by omega)
      obtain ⟨x, hx⟩ : ∃ x, xs[k]? = some x := ⟨_, List.getElem?_eq_getElem (by have := HN.out; omega)⟩
      have hck : wr.cell? ⟨b, o + k, none⟩ = some (.int .i64 x) := hc k x hx
      have hlt' : (k : Int) < (n : Int) := by omega
      have HS : Hid (xs[k]? = some x) := hx
      clear hc hx
      cases K1 : (y == x)
      case true =>
        have HF : Hid (ob = true) := HO.out.trans (decide_eq_true (by rw [eq_of_beq K1]; exact List.mem_of_getElem? HS.out))
        go_wp2
        go_ret
        exact ⟨⟨k, rfl, by rw [HF.out]; simp⟩, rfl⟩
      case false =>
        have HA : Hid (∀ (j : Nat) z, j < k + 1 → xs[j]? = some z → y ≠ z) := fun j z hj hz => by
          by_cases e : j = k
          · subst e
            rw [HS.out] at hz
            cases hz
            exact fun e => by rw [e] at K1; simp at K1
          · exact hall.out j z (by omega) hz
        clear hall
        go_wp2
        go_roundw
        case rel => exact ⟨k + 1, by omega, by go_num, trivial, HA⟩
        case measure => simp [intOf]; omega
    · have hkn : k = n := by omega
      subst hkn
      have HF : Hid (ob = false) := HO.out.trans (decide_eq_false (fun hm => by
        obtain ⟨j, hj, e⟩ := List.mem_iff_getElem.1 hm
        exact hall.out j y (by have := HN.out; omega) (by rw [List.getElem?_eq_getElem hj, e]) rfl))
      go_wp2
      go_ret
      exact ⟨⟨-1, rfl, by rw [HF.out]; rfl⟩, rfl⟩

set_option maxHeartbeats 1000000 in
theorem containsIV (v : Value) (xs : List Int) (y : Int) (w : World) (h : VL fI w v xs) :
    Calls Try.prog 67 #[v, .int .i64 y] w fun e w' => e = .returned (.bool (decide (y ∈ xs))) ∧ w' = w := by
  go_enter Try.func67, Try.ntmps67
  go_wp2_with fail
  refine (indexIV v xs y w h).mono ?_
  rintro e w2 ⟨⟨r, rfl, hr⟩, rfl⟩
  have HR : Hid (decide (r ≥ 0) = decide (y ∈ xs)) := hr
  clear hr
  go_wp2
  go_ret
  exact ⟨by rw [← HR.out]; rfl, rfl⟩

/-- A list's beginning reads as such. -/
theorem vl_take {w : World} {b o cap n : Nat} {xs : List Int} (h : VL fI w (.slice (some ⟨b, o, none⟩) n cap) xs) (k : Nat) (hk : k ≤ n) : VL fI w (.slice (some ⟨b, o, none⟩) k cap) (xs.take k) := by
  obtain ⟨a', cap', e, h1, h2, h3⟩ := h
  simp only [Value.slice.injEq] at e
  obtain ⟨rfl, rfl, rfl⟩ := e
  refine ⟨_, _, by rw [List.length_take, Nat.min_eq_left hk], by rw [List.length_take]; omega, h2, fun h0 => ?_⟩
  rw [List.length_take] at h0
  obtain ⟨b', o', e', hb, hc⟩ := h3 (by omega)
  refine ⟨b', o', e', hb, fun i x hx => hc i x ?_⟩
  rw [List.getElem?_take] at hx
  split at hx
  · exact hx
  · cases hx

/-- The order may be there. -/
def OrdB (xs : List Int) : Prop := xs.length ≤ 12 ∧ ∀ i, i < xs.length → OrdAt xs i
theorem ordAt_iff {xs : List Int} {k : Nat} {x : Int} (hx : xs[k]? = some x) : OrdAt xs k ↔ (inB x 0 11 = true ∧ x ∉ xs.take k) := by
  unfold OrdAt inB
  constructor
  · intro h
    obtain ⟨h0, h1, h2⟩ := h x hx
    refine ⟨by rw [decide_eq_true h0, decide_eq_true (show x ≤ 11 by omega)]; rfl, fun hm => ?_⟩
    obtain ⟨j, hj, e⟩ := List.mem_iff_getElem.1 hm
    rw [List.length_take] at hj
    have hg : xs[j]? = some x := by
      rw [List.getElem_take] at e
      rw [List.getElem?_eq_getElem (by omega), e]
    exact h2 j x (by omega) hg rfl
  · rintro ⟨h0, h1⟩ z hz
    rw [hx] at hz
    cases hz
    rw [Bool.and_eq_true, decide_eq_true_eq, decide_eq_true_eq] at h0
    refine ⟨h0.1, by omega, fun j y hj hy e => h1 ?_⟩
    rw [← e]
    exact List.mem_of_getElem? (i := j) (by rw [List.getElem?_take, if_pos hj]; exact hy)

set_option maxRecDepth 20000 in
set_option maxHeartbeats 2000000 in
theorem orderOkV (v : Value) (xs : List Int) (w : World) (h : VL fI w v xs) :
    Calls Try.prog 52 #[v] w fun e w' => e = .returned (.bool (tB (OrdB xs))) ∧ w' = w := by
  obtain ⟨a, cap, rfl⟩ := vl_shape h
  obtain ⟨n, hnn⟩ : ∃ n, n = xs.length := ⟨_, rfl⟩
  have hml : n ≤ 9223372036854775807 := by
    obtain ⟨a', cap', e, h1, h2, _⟩ := h
    unfold maxLen at h2
    omega
  have hcp : n ≤ cap := by
    obtain ⟨a', cap', e, h1, h2, _⟩ := h
    simp only [Value.slice.injEq] at e
    omega
  have hcl : cap ≤ 9223372036854775807 := by
    obtain ⟨a', cap', e, h1, h2, _⟩ := h
    unfold maxLen at h2
    simp only [Value.slice.injEq] at e
    omega
  have HV : Hid (VL fI w (.slice a n cap) xs) := by rw [hnn]; exact h
  have HN : Hid (n = xs.length) := hnn
  obtain ⟨R, hR⟩ : ∃ R, R = tB (OrdB xs) := ⟨_, rfl⟩
  rw [← hR]
  rw [← hnn] at ⊢
  have HNO : Hid (¬ OrdB xs → R = false) := fun h => by rw [hR]; exact tB_false h
  have HYE : Hid (OrdB xs → R = true) := fun h => by rw [hR]; exact tB_true h
  clear hR h hnn
  by_cases g1 : n > 12
  · have HK : Hid (R = false) := HNO.out (fun h => by have := HN.out; have := h.1; omega)
    have d1 : decide ((n : Int) > 12) = true := decide_eq_true (by omega)
    go_enter Try.func52, Try.ntmps52
    go_wp2
    go_ret
    exact ⟨by rw [HK.out]; rfl, rfl⟩
  have d1 : decide ((n : Int) > 12) = false := decide_eq_false (by omega)
  go_enter Try.func52, Try.ntmps52
  go_wp2
  go_loopw [10] (fun i wr => ∃ k : Nat, k ≤ n ∧ i = .int .i64 k ∧ wr = w ∧ Hid (∀ j, j < k → OrdAt xs j)) (fun i _ => n - (intOf i).toNat)
  case atStart => exact ⟨0, Nat.zero_le _, rfl, rfl, fun j hj => absurd hj (by omega)⟩
  case round =>
    obtain ⟨k, hk, rfl, rfl, hall⟩ := hrel
    by_cases hlt : k < n
    · obtain ⟨x, hx⟩ : ∃ x, xs[k]? = some x := ⟨_, List.getElem?_eq_getElem (by have := HN.out; omega)⟩
      obtain ⟨b, o, rfl, hc⟩ := HV.out.get hx
      have ck := hc k x hx
      have hlt' : (k : Int) < (n : Int) := by omega
      have HS : Hid (xs[k]? = some x) := hx
      have HT : Hid (VL fI wr (.slice (some ⟨b, o, none⟩) k cap) (xs.take k)) := vl_take HV.out k (by omega)
      clear hc hx
      cases K1 : inB x 0 11
      · have HF : Hid (R = false) := HNO.out (fun h => by have := ((ordAt_iff HS.out).1 (h.2 k (by have := HN.out; omega))).1; rw [K1] at this; cases this)
        go_wp2_with (go_at_call 40; refine (withinV _ _ _ _).mono ?_; rintro e w1 ⟨rfl, rfl⟩; rw [K1])
        go_ret
        exact ⟨by rw [HF.out]; rfl, rfl⟩
      cases K2 : decide (x ∈ xs.take k)
      · have HA : Hid (∀ j, j < k + 1 → OrdAt xs j) := fun j hj => by
          by_cases e : j = k
          · subst e
            exact (ordAt_iff HS.out).2 ⟨K1, of_decide_eq_false K2⟩
          · exact hall.out j (by omega)
        clear hall
        go_wp2_with (first | (go_at_call 40; refine (withinV _ _ _ _).mono ?_; rintro e w1 ⟨rfl, rfl⟩; rw [K1]) | (go_at_call 67; refine (containsIV _ _ _ _ HT.out).mono ?_; rintro e w1 ⟨rfl, rfl⟩; rw [K2]))
        go_roundw
        case rel => exact ⟨k + 1, by omega, by go_num, trivial, HA⟩
        case measure => simp [intOf]; omega
      · have HF : Hid (R = false) := HNO.out (fun h => ((ordAt_iff HS.out).1 (h.2 k (by have := HN.out; omega))).2 (of_decide_eq_true K2))
        go_wp2_with (first | (go_at_call 40; refine (withinV _ _ _ _).mono ?_; rintro e w1 ⟨rfl, rfl⟩; rw [K1]) | (go_at_call 67; refine (containsIV _ _ _ _ HT.out).mono ?_; rintro e w1 ⟨rfl, rfl⟩; rw [K2]))
        go_ret
        exact ⟨by rw [HF.out]; rfl, rfl⟩
    · have hkn : k = n := by omega
      subst hkn
      have HF : Hid (R = true) := HYE.out ⟨by have := HN.out; omega, fun i hi => hall.out i (by have := HN.out; omega)⟩
      go_wp2
      go_ret
      exact ⟨by rw [HF.out]; rfl, rfl⟩

end Go.Proofs.Ytfdklcmhafhbeaa
