/- Lists of numbers held against one another. -/
import Derived.Test.YtfdklcmhafhbeaaLiU
namespace Go.Proofs.Ytfdklcmhafhbeaa
open Go.RowKit

set_option maxHeartbeats 2000000 in
theorem eqL_I (v u : Value) (xs : List Int) (w : World) (h : VL fI w v xs) (k : VL fI w u xs) (hn : xs.length ≤ 1048576) :
    Calls Try.prog 19 #[v, u] w fun e w' => e = .returned (.bool true) ∧ ∃ q, w' = w.drewN q := by
  obtain ⟨a, cap, rfl, h1, h2, h3⟩ := h
  obtain ⟨a', cap', rfl, h1', h2', h3'⟩ := k
  obtain ⟨n, hnn⟩ : ∃ n, n = xs.length := ⟨_, rfl⟩
  rw [← hnn] at h1 h3 h1' h3' hn ⊢
  have HN : Hid (n = xs.length) := hnn
  clear hnn
  have H3 : Hid (0 < n → ∃ b o, a = some ⟨b, o, none⟩ ∧ b < w.heap.size ∧ ∀ (i : Nat) (x : Int), xs[i]? = some x → w.cell? ⟨b, o + i, none⟩ = some (fI x)) := h3
  have H3' : Hid (0 < n → ∃ b o, a' = some ⟨b, o, none⟩ ∧ b < w.heap.size ∧ ∀ (i : Nat) (x : Int), xs[i]? = some x → w.cell? ⟨b, o + i, none⟩ = some (fI x)) := h3'
  clear h3 h3'
  go_enter Try.func19, Try.ntmps19
  go_wp2
  go_loopw [5] (fun i wr => ∃ k q : Nat, k ≤ n ∧ i = .int .i64 k ∧ wr = w.drewN q) (fun i _ => n - (intOf i).toNat)
  case atStart => exact ⟨0, 0, Nat.zero_le _, rfl, rfl⟩
  case round =>
    obtain ⟨k, q, hk, rfl, rfl⟩ := hrel
    by_cases hlt : k < n
    · obtain ⟨b1, o1, rfl, hbl1, hc1⟩ := H3.out (by omega)
      obtain ⟨b2, o2, rfl, hbl2, hc2⟩ := H3'.out (by omega)
      obtain ⟨x, hx⟩ : ∃ x, xs[k]? = some x := ⟨_, List.getElem?_eq_getElem (by have := HN.out; omega)⟩
      have hck1 : w.cell? ⟨b1, o1 + k, none⟩ = some (.int .i64 x) := hc1 k x hx
      have hck2 : w.cell? ⟨b2, o2 + k, none⟩ = some (.int .i64 x) := hc2 k x hx
      have hlt' : (k : Int) < (n : Int) := by omega
      clear hc1 hc2
      go_wp2
      go_quiet (fail)
      go_wp2
      go_roundw
      case rel => exact ⟨k + 1, q + nq, by omega, by go_num, rfl⟩
      case measure => simp [intOf]; omega
    · have hkn : k = n := by omega
      subst hkn
      go_wp2
      go_ret
      exact ⟨rfl, _, rfl⟩

end Go.Proofs.Ytfdklcmhafhbeaa
