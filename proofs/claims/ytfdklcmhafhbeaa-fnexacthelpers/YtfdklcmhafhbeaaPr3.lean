/- What a prober may be: plain; the specification's ProberOk. -/
import Derived.Test.YtfdklcmhafhbeaaPr0
import Derived.Test.YtfdklcmhafhbeaaSum0
import Derived.BigQuiet
namespace Go.Proofs.Ytfdklcmhafhbeaa
open Go.RowKit

/-- The order's number at i may be there. -/
def OrdAt (xs : List Int) (i : Nat) : Prop := ∀ x, xs[i]? = some x → 0 ≤ x ∧ x < 12 ∧ ∀ (k : Nat) y, k < i → xs[k]? = some y → y ≠ x
/-- It may be a prober. -/
def ProP (P : DPro) : Prop := P.order.length ≤ 12 ∧ (0 ≤ P.next ∧ P.next ≤ P.order.length) ∧ (0 ≤ P.seed ∧ P.seed ≤ 2147483647) ∧ (0 ≤ P.state ∧ P.state ≤ 2) ∧ (0 ≤ P.wait ∧ P.wait ≤ 4) ∧ (0 ≤ P.who ∧ P.who < 12) ∧ (∀ i, i < P.order.length → OrdAt P.order i) ∧ (P.state ≠ 0 ∨ (P.who = 0 ∧ P.wait = 0))

theorem cells6 {w : World} {g : Nat} {v0 v1 v2 v3 v4 v5 : Value} {t : TypeId} (h : w.heap[g]? = some (.cells #[v0, v1, v2, v3, v4, v5] t (0, 0))) : w.cell? ⟨g, 0, none⟩ = some v0 ∧ w.cell? ⟨g, 1, none⟩ = some v1 ∧ w.cell? ⟨g, 2, none⟩ = some v2 ∧ w.cell? ⟨g, 3, none⟩ = some v3 ∧ w.cell? ⟨g, 4, none⟩ = some v4 ∧ w.cell? ⟨g, 5, none⟩ = some v5 := ⟨(at_block h 0 _ rfl).1, (at_block h 1 _ rfl).1, (at_block h 2 _ rfl).1, (at_block h 3 _ rfl).1, (at_block h 4 _ rfl).1, (at_block h 5 _ rfl).1⟩
theorem VL.get {w : World} {a : Option Addr} {n cap : Nat} {xs : List Int} (h : VL fI w (.slice a n cap) xs) {i : Nat} {x : Int} (hx : xs[i]? = some x) : ∃ b o, a = some ⟨b, o, none⟩ ∧ ∀ (i : Nat) (x : Int), xs[i]? = some x → w.cell? ⟨b, o + i, none⟩ = some (.int .i64 x) := by
  obtain ⟨a', cap', e, h1, h2, h3⟩ := h
  simp only [Value.slice.injEq] at e
  obtain ⟨rfl, rfl, rfl⟩ := e
  obtain ⟨b, o, ha, _, hc⟩ := h3 (by have := (List.getElem?_eq_some_iff.1 hx).1; omega)
  exact ⟨b, o, ha, hc⟩

set_option maxRecDepth 20000 in
set_option maxHeartbeats 4000000 in
theorem sProberOkV (v : Value) (P : DPro) (w : World) (h : VPro w v P) (hn : P.order.length ≤ 1048576) :
    Calls Try.prog 26 #[v] w fun e w' => e = .returned (.bool (tB (ProP P))) ∧ Below w.heap.size w w' := by
  have hB : ∀ w : World, ∀ o, Below w.heap.size w (w.alloc o) := fun w o => (Below.refl _ w).alloc (Nat.le_refl _) _
  obtain ⟨ov, rfl, ho⟩ := h
  obtain ⟨a, cap, rfl⟩ := vl_shape ho
  obtain ⟨n, hnn⟩ : ∃ n, n = P.order.length := ⟨_, rfl⟩
  have HV : Hid (VL fI w (.slice a n cap) P.order) := by rw [hnn]; exact ho
  have HN : Hid (n = P.order.length) := hnn
  obtain ⟨R, hR⟩ : ∃ R, R = tB (ProP P) := ⟨_, rfl⟩
  rw [← hR]
  rw [← hnn] at hn ⊢
  have HNO : Hid (¬ ProP P → R = false) := fun h => by rw [hR]; exact tB_false h
  have HYE : Hid (ProP P → R = true) := fun h => by rw [hR]; exact tB_true h
  clear ho hnn hR
  have hml : (n : Int) ≤ 1048576 := by omega
  obtain ⟨os, nx, sd, st, wh, wt⟩ := P
  simp only [ProP] at HNO HYE
  simp only at HV HN ⊢
  go_enter Try.func26, Try.ntmps26
  by_cases t1 : n > 12
  · have HK : Hid (R = false) := HNO.out (fun h => by have := HN.out; omega)
    have d1 : decide ((n : Int) > 12) = true := decide_eq_true (by omega)
    go_wp2
    go_ret
    exact ⟨by rw [HK.out]; rfl, hB _ _⟩
  have d1 : decide ((n : Int) > 12) = false := decide_eq_false (by omega)
  by_cases t2 : nx < 0
  · have HK : Hid (R = false) := HNO.out (fun h => by have := HN.out; omega)
    skip
    go_wp2
    go_ret
    exact ⟨by rw [HK.out]; rfl, hB _ _⟩
  by_cases t3 : (n : Int) < nx
  · have HK : Hid (R = false) := HNO.out (fun h => by have := HN.out; omega)
    skip
    go_wp2
    go_ret
    exact ⟨by rw [HK.out]; rfl, hB _ _⟩
  by_cases t4 : sd < 0
  · have HK : Hid (R = false) := HNO.out (fun h => by have := HN.out; omega)
    skip
    go_wp2
    go_ret
    exact ⟨by rw [HK.out]; rfl, hB _ _⟩
  by_cases t5 : 2147483647 < sd
  · have HK : Hid (R = false) := HNO.out (fun h => by have := HN.out; omega)
    skip
    go_wp2
    go_ret
    exact ⟨by rw [HK.out]; rfl, hB _ _⟩
  by_cases t6 : st < 0
  · have HK : Hid (R = false) := HNO.out (fun h => by have := HN.out; omega)
    skip
    go_wp2
    go_ret
    exact ⟨by rw [HK.out]; rfl, hB _ _⟩
  by_cases t7 : 2 < st
  · have HK : Hid (R = false) := HNO.out (fun h => by have := HN.out; omega)
    skip
    go_wp2
    go_ret
    exact ⟨by rw [HK.out]; rfl, hB _ _⟩
  by_cases t8 : wt < 0
  · have HK : Hid (R = false) := HNO.out (fun h => by have := HN.out; omega)
    skip
    go_wp2
    go_ret
    exact ⟨by rw [HK.out]; rfl, hB _ _⟩
  by_cases t9 : 4 < wt
  · have HK : Hid (R = false) := HNO.out (fun h => by have := HN.out; omega)
    skip
    go_wp2
    go_ret
    exact ⟨by rw [HK.out]; rfl, hB _ _⟩
  by_cases t10 : wh < 0
  · have HK : Hid (R = false) := HNO.out (fun h => by have := HN.out; omega)
    skip
    go_wp2
    go_ret
    exact ⟨by rw [HK.out]; rfl, hB _ _⟩
  by_cases t11 : 12 ≤ wh
  · have HK : Hid (R = false) := HNO.out (fun h => by have := HN.out; omega)
    skip
    go_wp2
    go_ret
    exact ⟨by rw [HK.out]; rfl, hB _ _⟩
  have HOK : Hid (n ≤ 12 ∧ (0 ≤ nx ∧ nx ≤ n) ∧ (0 ≤ sd ∧ sd ≤ 2147483647) ∧ (0 ≤ st ∧ st ≤ 2) ∧ (0 ≤ wt ∧ wt ≤ 4) ∧ (0 ≤ wh ∧ wh < 12)) := by refine ⟨?_, ⟨?_, ?_⟩, ⟨?_, ?_⟩, ⟨?_, ?_⟩, ⟨?_, ?_⟩, ⟨?_, ?_⟩⟩ <;> omega
  go_wp2
  generalize hW : w.alloc _ = W
  have PW : W.heap[w.heap.size]? = some (.cells #[.slice a n cap, .int .i64 nx, .int .i64 sd, .int .i64 st, .int .i64 wh, .int .i64 wt] 30 (0, 0)) := by rw [← hW]; exact heap_alloc_new w _
  have HBW : Hid (Below w.heap.size w W) := by rw [← hW]; exact hB _ _
  have HVW : Hid (VL fI W (.slice a n cap) os) := by rw [← hW]; exact HV.out.ext (World.grownBy_alloc _ _ _)
  clear hW t1 t2 t3 t4 t5 t6 t7 t8 t9 t10 t11 d1
  obtain ⟨p0, p1, p2, p3, p4, p5⟩ := cells6 PW
  clear PW
  go_loopw [3] (fun i wr => ∃ k q : Nat, k ≤ n ∧ i = .int .i64 k ∧ wr = W.drewN q ∧ Hid (∀ j, j < k → OrdAt os j)) (fun i _ => n - (intOf i).toNat)
  case atStart => exact ⟨0, 0, Nat.zero_le _, rfl, rfl, fun j hj => absurd hj (by omega)⟩
  case round =>
    obtain ⟨k, q, hk, rfl, rfl, hall⟩ := hrel
    by_cases hlt : k < n
    · obtain ⟨x, hx⟩ : ∃ x, os[k]? = some x := ⟨_, List.getElem?_eq_getElem (by have := HN.out; omega)⟩
      obtain ⟨b, o, rfl, hc⟩ := HVW.out.get hx
      have HCC : Hid (∀ (i : Nat) (x : Int), os[i]? = some x → W.cell? ⟨b, o + i, none⟩ = some (.int .i64 x)) := hc
      have ck := hc k x hx
      have hlt' : (k : Int) < (n : Int) := by omega
      clear hc
      by_cases x1 : x < 0
      · have HK : Hid (R = false) := HNO.out (fun h => by have := (h.2.2.2.2.2.2.1 k (by have := HN.out; omega) x hx).1; omega)
        go_wp2
        go_ret
        exact ⟨by rw [HK.out]; rfl, below_drewN HBW.out _⟩
      by_cases x2 : 12 ≤ x
      · have HK : Hid (R = false) := HNO.out (fun h => by have := (h.2.2.2.2.2.2.1 k (by have := HN.out; omega) x hx).2.1; omega)
        go_wp2
        go_ret
        exact ⟨by rw [HK.out]; rfl, below_drewN HBW.out _⟩
      have HXX : Hid (0 ≤ x ∧ x < 12) := ⟨by omega, by omega⟩
      have HX : Hid (os[k]? = some x) := hx
      clear hx
      go_wp2
      go_loopw [4] (fun i wr => ∃ k' q' : Nat, k' ≤ k ∧ i = .int .i64 k' ∧ wr = W.drewN q' ∧ Hid (∀ (j : Nat) y, j < k' → os[j]? = some y → y ≠ x)) (fun i _ => k - (intOf i).toNat)
      case atStart => exact ⟨0, q, Nat.zero_le _, rfl, rfl, fun j y hj => absurd hj (by omega)⟩
      case round =>
        obtain ⟨k', q', hk', rfl, rfl, hin⟩ := hrel
        by_cases hlt2 : k' < k
        · obtain ⟨y, hy⟩ : ∃ y, os[k']? = some y := ⟨_, List.getElem?_eq_getElem (by have := HN.out; omega)⟩
          have cy := HCC.out k' y hy
          have hlt2' : (k' : Int) < (k : Int) := by omega
          have hlt3 : k' < n := by omega
          have hlt4 : (k' : Int) < (n : Int) := by omega
          by_cases e : y = x
          · have HK : Hid (R = false) := HNO.out (fun h => (h.2.2.2.2.2.2.1 k (by have := HN.out; omega) x HX.out).2.2 k' y hlt2 hy e)
            have e' : (y == x) = true := by simpa using e
            clear e
            go_wp2_with fail
            go_quiet (fail)
            go_wp2
            go_ret
            exact ⟨by rw [HK.out]; rfl, below_drewN (below_drewN HBW.out _) _⟩
          · have e' : (y == x) = false := by simpa using e
            have HIN : Hid (∀ (j : Nat) y, j < k' + 1 → os[j]? = some y → y ≠ x) := fun j z hj hz => by
              by_cases ej : j = k'
              · subst ej
                rw [hy] at hz
                cases hz
                exact e
              · exact hin.out j z (by omega) hz
            clear e
            go_wp2_with fail
            go_quiet (fail)
            go_wp2
            go_roundw
            case rel => exact ⟨k' + 1, _, by omega, by go_num, by first | rfl | exact World.drewN_drewN _ _ _, HIN⟩
            case measure => simp [intOf]; omega
        · have hkk : k' = k := by omega
          subst hkk
          have HA : Hid (∀ j, j < k' + 1 → OrdAt os j) := fun j hj => by
            by_cases ej : j = k'
            · subst ej
              intro z hz
              rw [HX.out] at hz
              cases hz
              exact ⟨HXX.out.1, HXX.out.2, fun i y hi hy => hin.out i y hi hy⟩
            · exact hall.out j (by omega)
          go_wp2
          go_roundw
          case rel => exact ⟨k' + 1, _, by omega, by go_num, rfl, HA⟩
          case measure => simp [intOf]; omega
    · have hkn : n = k := by omega
      subst hkn
      have HALL : Hid (∀ i, i < os.length → OrdAt os i) := fun i hi => hall.out i (by have := HN.out; omega)
      have HYN : Hid ((st ≠ 0 ∨ (wh = 0 ∧ wt = 0)) → R = true) := fun h => HYE.out (by have := HOK.out; have := HN.out; refine ⟨by omega, by omega, by omega, by omega, by omega, by omega, HALL.out, h⟩)
      have HNN : Hid (¬ (st ≠ 0 ∨ (wh = 0 ∧ wt = 0)) → R = false) := fun h => HNO.out (fun h' => h h'.2.2.2.2.2.2.2)
      by_cases s0 : st = 0
      · have s1 : (st != 0) = false := by simpa using s0
        by_cases w0 : wh = 0
        · have w1 : (wh == 0) = true := by simpa using w0
          by_cases u0 : wt = 0
          · have v1 : (wt == 0) = true := by simpa using u0
            have HK : Hid (R = true) := HYN.out (.inr ⟨w0, u0⟩)
            clear s0 w0 u0
            go_wp2
            go_ret
            exact ⟨by rw [HK.out]; rfl, below_drewN HBW.out _⟩
          · have v1 : (wt == 0) = false := by simpa using u0
            have HK : Hid (R = false) := HNN.out (fun h => by omega)
            clear s0 w0 u0
            go_wp2
            go_ret
            exact ⟨by rw [HK.out]; rfl, below_drewN HBW.out _⟩
        · have w1 : (wh == 0) = false := by simpa using w0
          have HK : Hid (R = false) := HNN.out (fun h => by omega)
          clear s0 w0
          go_wp2
          go_ret
          exact ⟨by rw [HK.out]; rfl, below_drewN HBW.out _⟩
      · have s1 : (st != 0) = true := by simpa using s0
        have HK : Hid (R = true) := HYN.out (.inl s0)
        clear s0
        go_wp2
        go_ret
        exact ⟨by rw [HK.out]; rfl, below_drewN HBW.out _⟩

end Go.Proofs.Ytfdklcmhafhbeaa
