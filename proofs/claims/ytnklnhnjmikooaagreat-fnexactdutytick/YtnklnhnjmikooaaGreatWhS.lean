
/- The contracts of the specification's l7ahead, l7find and WheelOk. -/
import Derived.Test.YtnklnhnjmikooaaGreatWh0
import Derived.Test.YtnklnhnjmikooaaGreatInf
import Derived.Test.YtnklnhnjmikooaaGreatSum0
import Derived.Test.YtnklnhnjmikooaaGreatQB
namespace Go.Proofs.YtnklnhnjmikooaaGreat
open Go.RowKit

theorem ahead_lt {a b : DTim} (h : a.due < b.due) : aheadB a b = true := by simp [aheadB, h]
theorem ahead_gt {a b : DTim} (h : b.due < a.due) : aheadB a b = false := by simp [aheadB]; omega
theorem ahead_eq {a b : DTim} (h : a.due = b.due) : aheadB a b = decide (a.id < b.id) := by simp [aheadB, h]

set_option maxHeartbeats 1000000 in
theorem saheadV (a b : DTim) (w : World) : Calls Tryz.prog 93 #[.agg #[.int .i64 a.id, .int .i64 a.due], .agg #[.int .i64 b.id, .int .i64 b.due]] w fun e w' => e = .returned (.bool (aheadB a b)) ∧ Below w.heap.size w w' := by
  have HB : Hid (∀ o o', Below w.heap.size w ((w.alloc o).alloc o')) := fun o o' => ((Below.refl _ w).alloc (Nat.le_refl _) _).alloc (by simp) _
  rcases Int.lt_trichotomy a.due b.due with h | h | h
  · have HK : Hid (aheadB a b = true) := ahead_lt h
    go_enter Tryz.func93, Tryz.ntmps93
    go_wp2
    go_ret
    exact ⟨by rw [HK.out]; rfl, HB.out _ _⟩
  · have HK : Hid (aheadB a b = decide (a.id < b.id)) := ahead_eq h
    have h1 : decide (a.due < b.due) = false := by simp; omega
    have h2 : decide (a.due = b.due) = true := by simpa using h
    have h3 : ¬ a.due < b.due := by omega
    have h4 : (a.due == b.due) = true := by simpa using h
    clear h
    go_enter Tryz.func93, Tryz.ntmps93
    go_wp2
    go_ret
    exact ⟨by rw [HK.out]; rfl, HB.out _ _⟩
  · have HK : Hid (aheadB a b = false) := ahead_gt h
    have h1 : decide (a.due < b.due) = false := by simp; omega
    have h2 : decide (a.due = b.due) = false := by simp; omega
    have h3 : ¬ a.due < b.due := by omega
    have h4 : (a.due == b.due) = false := by simp; omega
    go_enter Tryz.func93, Tryz.ntmps93
    go_wp2
    go_ret
    exact ⟨by rw [HK.out]; rfl, HB.out _ _⟩

set_option maxHeartbeats 1000000 in
theorem sfindV (v : Value) (ts : List DTim) (id : Int) (w : World) (h : VTims w v ts) : Calls Tryz.prog 71 #[v, .int .i64 id] w fun e w' => e = .returned (.int .i64 (placeT ts id)) ∧ w' = w := by
  obtain ⟨C, ⟨a, cap, rfl, h1, h2, h3⟩, hC⟩ := h
  have HC : Hid (∀ (i : Nat) (r : DTim), ts[i]? = some r → C i 0 = Value.int IntKind.i64 r.id ∧ C i 1 = Value.int IntKind.i64 r.due) := hC
  clear hC
  obtain ⟨n, hn⟩ : ∃ n, n = ts.length := ⟨_, rfl⟩
  rw [← hn] at h1 h3 ⊢
  have HN : Hid (n = ts.length) := hn
  clear hn
  unfold maxLen at h2
  have H3 : Hid (0 < n → ∃ b o, a = some ⟨b, o, none⟩ ∧ b < w.heap.size ∧ ∀ i, i < n → ∀ j, j < 2 → w.cell? ⟨b, o + i * 2 + j, none⟩ = some (C i j)) := h3
  clear h3
  obtain ⟨r, hr⟩ : ∃ r, r = placeT ts id := ⟨_, rfl⟩
  rw [← hr]
  have HR : Hid (r = placeT ts id) := hr
  clear hr
  go_enter Tryz.func71, Tryz.ntmps71
  go_wp2
  go_loop [5] (fun i => ∃ k : Nat, k ≤ n ∧ i = .int .i64 k ∧ Hid (∀ (j : Nat) (u : DTim), j < k → ts[j]? = some u → u.id ≠ id)) (fun i => n - (intOf i).toNat)
  case atStart => exact ⟨0, Nat.zero_le _, rfl, fun j u hj => absurd hj (by omega)⟩
  case round =>
    obtain ⟨k, hk, rfl, hall⟩ := hrel
    by_cases hlt : k < n
    · obtain ⟨b, o, rfl, hbl, hc⟩ := H3.out (by omega)
      obtain ⟨s, hs⟩ : ∃ s, ts[k]? = some s := ⟨_, List.getElem?_eq_getElem (by have := HN.out; omega)⟩
      obtain ⟨e0, e1⟩ := HC.out k s hs
      have c0 := hc k hlt 0 (by omega)
      rw [e0, Nat.add_zero] at c0
      have hlt' : (k : Int) < (n : Int) := by omega
      clear hc e0 e1
      by_cases he : s.id = id
      · have HK : Hid (r = (k : Int)) := by rw [HR.out]; exact placeT_some hs he hall.out
        have he' : (s.id == id) = true := by simpa using he
        have he2 : decide (s.id = id) = true := by simpa using he
        clear hs hall he
        go_wp2
        go_ret
        exact ⟨by rw [HK.out]; rfl, rfl⟩
      · have HA : Hid (∀ (j : Nat) (u : DTim), j < k + 1 → ts[j]? = some u → u.id ≠ id) := fun j u hj hu => by
          by_cases e : j = k
          · subst e
            rw [hs] at hu
            cases hu
            exact he
          · exact hall.out j u (by omega) hu
        have he' : (s.id == id) = false := by simpa using he
        have he2 : decide (s.id = id) = false := by simpa using he
        clear hs hall
        go_wp2
        go_round
        case rel => exact ⟨k + 1, by omega, by go_num, HA⟩
        case measure => simp [intOf]; omega
    · have hkn : k = n := by omega
      subst hkn
      have HK : Hid (r = -1) := by
        rw [HR.out]
        exact placeT_none fun i t ht => hall.out i t (by have := (List.getElem?_eq_some_iff.1 ht).1; have := HN.out; omega) ht
      clear hall
      go_wp2
      go_ret
      exact ⟨by rw [HK.out]; rfl, rfl⟩

theorem VTims.take {w : World} {a : Option Addr} {n cap k : Nat} {ts : List DTim} (h : VTims w (.slice a n cap) ts) (hk : k ≤ n) : VTims w (.slice a k cap) (ts.take k) := by
  obtain ⟨C, ⟨a', cap', e, h1, h2, h3⟩, hC⟩ := h
  simp only [Value.slice.injEq] at e
  obtain ⟨rfl, rfl, rfl⟩ := e
  have hl : (ts.take k).length = k := by simp; omega
  refine ⟨C, ⟨a, cap, by rw [hl], by omega, h2, fun hn => ?_⟩, fun i r hr => ?_⟩
  · obtain ⟨b, o, ha, hb, hc⟩ := h3 (by omega)
    exact ⟨b, o, ha, hb, fun i hi => hc i (by omega)⟩
  · rw [List.getElem?_take] at hr
    split at hr
    · exact hC i r hr
    · cases hr

end Go.Proofs.YtnklnhnjmikooaaGreat
