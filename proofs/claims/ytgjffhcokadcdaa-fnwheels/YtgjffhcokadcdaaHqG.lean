/- A byte of the code; wheels held against one another. -/
import Derived.Test.YtgjffhcokadcdaaWhS
import Derived.Laws.StructEq
namespace Go.Proofs.Ytgjffhcokadcdaa
open Go.RowKit

set_option maxHeartbeats 2000000 in
theorem atC (a : Option Addr) (n cap : Nat) (xs : List Int) (w : World) (hr : Rd w a n xs) (hm : n ≤ maxLen) : Calls Try.prog 12 #[.slice a n cap, .int .i64 2] w fun e w' => ∃ x : Int, 0 ≤ x ∧ x ≤ 255 ∧ e = .returned (.int .i64 x) ∧ w' = w := by
  have hml : n ≤ 9223372036854775807 := by unfold maxLen at hm; omega
  by_cases h0 : n = 0
  · subst h0
    go_enter Try.func12, Try.ntmps12
    go_wp2
    go_ret
    exact ⟨0, by omega, by omega, rfl, rfl⟩
  · obtain ⟨b, o, rfl, hbl, hc⟩ := hr.pos (by omega)
    have hz : ¬ (n : Int) = 0 := by omega
    have hz2 : ((n : Int) == 0) = false := by simp; omega
    have hn0 : (0 : Int) < n := by omega
    have h1 : 0 ≤ (2 : Int) % n ∧ (2 : Int) % n < n := ⟨Int.emod_nonneg _ (by omega), Int.emod_lt_of_pos _ hn0⟩
    obtain ⟨j, hj⟩ := Int.eq_ofNat_of_zero_le h1.1
    have hjn : j < n := by omega
    have ck := hc j hjn
    have hx := hr.rng (xs.getD j 0) (by
      have hl := hr.len
      rw [List.getD_eq_getElem?_getD, List.getElem?_eq_getElem (by omega)]
      exact List.getElem_mem _)
    generalize xs.getD j 0 = y at ck hx
    obtain ⟨hx0, hx1⟩ := hx
    have hjn' : (j : Int) < n := by omega
    have hj2 : (2 : Int).tmod n = (j : Int) := by rw [Int.tmod_eq_emod_of_nonneg (by omega)]; exact hj
    clear hc
    go_enter Try.func12, Try.ntmps12
    go_wp2
    go_ret
    exact ⟨y, hx0, hx1, by first | rfl | simp, rfl⟩

set_option maxHeartbeats 2000000 in
theorem sameV (v u : Value) (D : DWheel) (w : World) (h : VWheel w v D) (k : VWheel w u D) (hn : D.tms.length ≤ 1048576) :
    Calls Try.prog 8 #[v, u] w fun e w' => e = .returned (.bool true) ∧ Below w.heap.size w w' := by
  obtain ⟨tv, rfl, C, ⟨a, cap, rfl, h1, h2, h3⟩, hC⟩ := h
  obtain ⟨uv, rfl, E, ⟨a', cap', rfl, h1', h2', h3'⟩, hE⟩ := k
  have HC : Hid (∀ i r, D.tms[i]? = some r → C i 0 = .int .i64 r.id ∧ C i 1 = .int .i64 r.due) := hC
  have HD : Hid (∀ i r, D.tms[i]? = some r → E i 0 = .int .i64 r.id ∧ E i 1 = .int .i64 r.due) := hE
  clear hC hE
  obtain ⟨n, hnn⟩ : ∃ n, n = D.tms.length := ⟨_, rfl⟩
  rw [← hnn] at h1 h3 h1' h3' hn ⊢
  have HN : Hid (n = D.tms.length) := hnn
  clear hnn
  have H3 : Hid (0 < n → ∃ b o, a = some ⟨b, o, none⟩ ∧ b < w.heap.size ∧ ∀ i, i < n → ∀ j, j < 2 → w.cell? ⟨b, o + i * 2 + j, none⟩ = some (C i j)) := h3
  have H3' : Hid (0 < n → ∃ b o, a' = some ⟨b, o, none⟩ ∧ b < w.heap.size ∧ ∀ i, i < n → ∀ j, j < 2 → w.cell? ⟨b, o + i * 2 + j, none⟩ = some (E i j)) := h3'
  clear h3 h3'
  have hml2 : (n : Int) ≤ 1048576 := by omega
  go_enter Try.func8, Try.ntmps8
  go_wp2
  generalize hW : World.alloc (World.alloc w _) _ = W
  have HW : Hid (Below w.heap.size w W) := by rw [← hW]; exact ((Below.refl _ w).alloc (Nat.le_refl _) _).alloc (by simp) _
  have HP : Hid (W.heap[w.heap.size]? = some (.cells #[.int .i64 D.now, .slice a n cap] 25 (0, 0)) ∧ W.heap[w.heap.size + 1]? = some (.cells #[.int .i64 D.now, .slice a' n cap'] 25 (0, 0))) := by
    rw [← hW]
    refine ⟨by rw [Below.heap_alloc _ _ _ (by simp)]; exact heap_alloc_new w _, ?_⟩
    simpa using heap_alloc_new (World.alloc w (.cells #[.int .i64 D.now, .slice a n cap] 25)) (.cells #[.int .i64 D.now, .slice a' n cap'] 25)
  clear hW
  go_loopw [5] (fun i wr => ∃ k q : Nat, k ≤ n ∧ i = .int .i64 k ∧ wr = W.drewN q) (fun i _ => n - (intOf i).toNat)
  case atStart => exact ⟨0, 0, Nat.zero_le _, rfl, rfl⟩
  case round =>
    obtain ⟨k, q, hk, rfl, rfl⟩ := hrel
    have y1 : W.cell? ⟨w.heap.size, 1, none⟩ = some (.slice a n cap) := (at_block HP.out.1 1 _ rfl).1
    have y2 : W.cell? ⟨w.heap.size + 1, 1, none⟩ = some (.slice a' n cap') := (at_block HP.out.2 1 _ rfl).1
    by_cases hlt : k < n
    · obtain ⟨b, o, rfl, hbl, hc⟩ := H3.out (by omega)
      obtain ⟨b', o', rfl, hbl', hc'⟩ := H3'.out (by omega)
      obtain ⟨s, hs⟩ : ∃ s, D.tms[k]? = some s := ⟨_, List.getElem?_eq_getElem (by have := HN.out; omega)⟩
      have X : Ext w W := ext_below HW.out
      have c0 := World.grownBy.cell X (hc k hlt 0 (by omega)) (by simp)
      have c1 := World.grownBy.cell X (hc k hlt 1 (by omega)) (by simp)
      have d0 := World.grownBy.cell X (hc' k hlt 0 (by omega)) (by simp)
      have d1 := World.grownBy.cell X (hc' k hlt 1 (by omega)) (by simp)
      rw [(HC.out k s hs).1, Nat.add_zero] at c0
      rw [(HC.out k s hs).2] at c1
      rw [(HD.out k s hs).1, Nat.add_zero] at d0
      rw [(HD.out k s hs).2] at d1
      have hlt' : (k : Int) < (n : Int) := by omega
      clear hc hc' hs X
      go_wp2_with fail
      go_quiet (fail)
      go_wp2
      go_roundw
      case rel => exact ⟨k + 1, _, by omega, by go_num, by first | rfl | exact World.drewN_drewN _ _ _⟩
      case measure => simp [intOf]; omega
    · go_wp2
      go_ret
      exact ⟨rfl, below_drewN HW.out q⟩

end Go.Proofs.Ytgjffhcokadcdaa
