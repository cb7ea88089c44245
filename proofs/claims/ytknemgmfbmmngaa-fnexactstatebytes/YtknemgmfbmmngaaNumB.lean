/- The contract of the program's numBytes: an array of five bytes, and how many of them are the number's. -/
import Derived.Test.YtknemgmfbmmngaaInf
import Derived.Test.YtknemgmfbmmngaaBytes
namespace Go.Proofs.Ytknemgmfbmmngaa
open Go.RowKit

theorem or128 (n : Int) : bits .or .u8 (n % 128 % 256) 128 = n % 128 + 128 := by
  rw [show n % 128 % 256 = n % 128 by omega]
  exact u8_or128_right _ (by omega) (by omega)
theorem or128' (n : Int) : bits .or .u8 (n % 128) 128 = n % 128 + 128 := u8_or128_right _ (by omega) (by omega)

/-- What numBytes answers of q: five bytes, how many of them count. -/
def NbPost (q : Int) (w : World) (e : Ending) (w' : World) : Prop :=
  ∃ d0 d1 d2 d3 d4 : Int, e = .returned (.tuple #[.agg #[.int .u8 d0, .int .u8 d1, .int .u8 d2, .int .u8 d3, .int .u8 d4], .int .i64 (numL q).length]) ∧
    [d0, d1, d2, d3, d4].take (numL q).length = numL q ∧ (∀ x ∈ [d0, d1, d2, d3, d4], 0 ≤ x ∧ x ≤ 255) ∧ Below w.heap.size w w'

theorem five_rng {d0 d1 d2 d3 d4 : Int} (h0 : 0 ≤ d0 ∧ d0 ≤ 255) (h1 : 0 ≤ d1 ∧ d1 ≤ 255) (h2 : 0 ≤ d2 ∧ d2 ≤ 255) (h3 : 0 ≤ d3 ∧ d3 ≤ 255) (h4 : 0 ≤ d4 ∧ d4 ≤ 255) : ∀ x ∈ [d0, d1, d2, d3, d4], 0 ≤ x ∧ x ≤ 255 := by
  intro x hx
  simp only [List.mem_cons, List.not_mem_nil, or_false] at hx
  rcases hx with rfl | rfl | rfl | rfl | rfl <;> assumption

theorem numL_1 (q : Int) (h0 : 0 ≤ q) (h1 : q ≤ 127) : numL q = [q] := by
  unfold numL
  rw [if_pos ⟨by omega, by omega⟩]
  rw [encF, if_neg (by omega)]

set_option maxHeartbeats 1000000 in
theorem nb_1 (q : Int) (w : World) (hq0 : 0 ≤ q) (hq1 : q ≤ 127) : Calls Try.prog 74 #[.int .i64 q] w (NbPost q w) := by
  have HL : Hid (numL q = [q]) := numL_1 q hq0 hq1
  have h1 : ¬ q < 0 := by omega
  have h2 : ¬ 2147483647 < q := by omega
  have e1 := i64_and127
  have e2 := or128
  have e3 := or128'
  go_enter Try.func74, Try.ntmps74
  go_wp2
  refine wp_loop_rounds 1 ?_
  rw [rounds_succ]
  go_wp2
  refine bodyPost_ret (v := .tuple #[.agg #[.int .u8 (q), .int .u8 (0), .int .u8 (0), .int .u8 (0), .int .u8 (0)], .int .i64 1]) (by simp [results, Try.results74, go_sem]) rfl ?_
  refine ⟨q, 0, 0, 0, 0, ?_, ?_, ?_, ?_⟩
  · rw [HL.out]; rfl
  · rw [HL.out]; rfl
  · exact five_rng (by omega) (by omega) (by omega) (by omega) (by omega)
  · exact ((Below.refl _ _).alloc (Nat.le_refl _) _).alloc (by simp) _

theorem numL_2 (q : Int) (h0 : 128 ≤ q) (h1 : q ≤ 16383) : numL q = [q % 128 + 128, q / 128] := by
  unfold numL
  rw [if_pos ⟨by omega, by omega⟩]
  rw [encF, if_pos (by omega)]
  rw [encF, if_neg (by omega)]

set_option maxHeartbeats 1000000 in
theorem nb_2 (q : Int) (w : World) (hq0 : 128 ≤ q) (hq1 : q ≤ 16383) : Calls Try.prog 74 #[.int .i64 q] w (NbPost q w) := by
  have HL : Hid (numL q = [q % 128 + 128, q / 128]) := numL_2 q hq0 hq1
  have h1 : ¬ q < 0 := by omega
  have h2 : ¬ 2147483647 < q := by omega
  have e1 := i64_and127
  have e2 := or128
  have e3 := or128'
  go_enter Try.func74, Try.ntmps74
  go_wp2
  refine wp_loop_rounds 2 ?_
  rw [rounds_succ]
  go_wp2
  rw [rounds_succ]
  go_wp2
  refine bodyPost_ret (v := .tuple #[.agg #[.int .u8 (q % 128 + 128), .int .u8 (q / 128), .int .u8 (0), .int .u8 (0), .int .u8 (0)], .int .i64 2]) (by simp [results, Try.results74, go_sem]) rfl ?_
  refine ⟨q % 128 + 128, q / 128, 0, 0, 0, ?_, ?_, ?_, ?_⟩
  · rw [HL.out]; rfl
  · rw [HL.out]; rfl
  · exact five_rng (by omega) (by omega) (by omega) (by omega) (by omega)
  · exact ((Below.refl _ _).alloc (Nat.le_refl _) _).alloc (by simp) _

theorem numL_3 (q : Int) (h0 : 16384 ≤ q) (h1 : q ≤ 2097151) : numL q = [q % 128 + 128, (q / 128) % 128 + 128, q / 128 / 128] := by
  unfold numL
  rw [if_pos ⟨by omega, by omega⟩]
  rw [encF, if_pos (by omega)]
  rw [encF, if_pos (by omega)]
  rw [encF, if_neg (by omega)]

set_option maxHeartbeats 1000000 in
theorem nb_3 (q : Int) (w : World) (hq0 : 16384 ≤ q) (hq1 : q ≤ 2097151) : Calls Try.prog 74 #[.int .i64 q] w (NbPost q w) := by
  have HL : Hid (numL q = [q % 128 + 128, (q / 128) % 128 + 128, q / 128 / 128]) := numL_3 q hq0 hq1
  have h1 : ¬ q < 0 := by omega
  have h2 : ¬ 2147483647 < q := by omega
  have e1 := i64_and127
  have e2 := or128
  have e3 := or128'
  go_enter Try.func74, Try.ntmps74
  go_wp2
  refine wp_loop_rounds 3 ?_
  rw [rounds_succ]
  go_wp2
  rw [rounds_succ]
  go_wp2
  rw [rounds_succ]
  go_wp2
  refine bodyPost_ret (v := .tuple #[.agg #[.int .u8 (q % 128 + 128), .int .u8 ((q / 128) % 128 + 128), .int .u8 (q / 128 / 128), .int .u8 (0), .int .u8 (0)], .int .i64 3]) (by simp [results, Try.results74, go_sem]) rfl ?_
  refine ⟨q % 128 + 128, (q / 128) % 128 + 128, q / 128 / 128, 0, 0, ?_, ?_, ?_, ?_⟩
  · rw [HL.out]; rfl
  · rw [HL.out]; rfl
  · exact five_rng (by omega) (by omega) (by omega) (by omega) (by omega)
  · exact ((Below.refl _ _).alloc (Nat.le_refl _) _).alloc (by simp) _

theorem numL_4 (q : Int) (h0 : 2097152 ≤ q) (h1 : q ≤ 268435455) : numL q = [q % 128 + 128, (q / 128) % 128 + 128, (q / 128 / 128) % 128 + 128, q / 128 / 128 / 128] := by
  unfold numL
  rw [if_pos ⟨by omega, by omega⟩]
  rw [encF, if_pos (by omega)]
  rw [encF, if_pos (by omega)]
  rw [encF, if_pos (by omega)]
  rw [encF, if_neg (by omega)]

set_option maxHeartbeats 1000000 in
theorem nb_4 (q : Int) (w : World) (hq0 : 2097152 ≤ q) (hq1 : q ≤ 268435455) : Calls Try.prog 74 #[.int .i64 q] w (NbPost q w) := by
  have HL : Hid (numL q = [q % 128 + 128, (q / 128) % 128 + 128, (q / 128 / 128) % 128 + 128, q / 128 / 128 / 128]) := numL_4 q hq0 hq1
  have h1 : ¬ q < 0 := by omega
  have h2 : ¬ 2147483647 < q := by omega
  have e1 := i64_and127
  have e2 := or128
  have e3 := or128'
  go_enter Try.func74, Try.ntmps74
  go_wp2
  refine wp_loop_rounds 4 ?_
  rw [rounds_succ]
  go_wp2
  rw [rounds_succ]
  go_wp2
  rw [rounds_succ]
  go_wp2
  rw [rounds_succ]
  go_wp2
  refine bodyPost_ret (v := .tuple #[.agg #[.int .u8 (q % 128 + 128), .int .u8 ((q / 128) % 128 + 128), .int .u8 ((q / 128 / 128) % 128 + 128), .int .u8 (q / 128 / 128 / 128), .int .u8 (0)], .int .i64 4]) (by simp [results, Try.results74, go_sem]) rfl ?_
  refine ⟨q % 128 + 128, (q / 128) % 128 + 128, (q / 128 / 128) % 128 + 128, q / 128 / 128 / 128, 0, ?_, ?_, ?_, ?_⟩
  · rw [HL.out]; rfl
  · rw [HL.out]; rfl
  · exact five_rng (by omega) (by omega) (by omega) (by omega) (by omega)
  · exact ((Below.refl _ _).alloc (Nat.le_refl _) _).alloc (by simp) _

theorem numL_5 (q : Int) (h0 : 268435456 ≤ q) (h1 : q ≤ 2147483647) : numL q = [q % 128 + 128, (q / 128) % 128 + 128, (q / 128 / 128) % 128 + 128, (q / 128 / 128 / 128) % 128 + 128, q / 128 / 128 / 128 / 128] := by
  unfold numL
  rw [if_pos ⟨by omega, by omega⟩]
  rw [encF, if_pos (by omega)]
  rw [encF, if_pos (by omega)]
  rw [encF, if_pos (by omega)]
  rw [encF, if_pos (by omega)]
  rw [encF]

set_option maxHeartbeats 1000000 in
theorem nb_5 (q : Int) (w : World) (hq0 : 268435456 ≤ q) (hq1 : q ≤ 2147483647) : Calls Try.prog 74 #[.int .i64 q] w (NbPost q w) := by
  have HL : Hid (numL q = [q % 128 + 128, (q / 128) % 128 + 128, (q / 128 / 128) % 128 + 128, (q / 128 / 128 / 128) % 128 + 128, q / 128 / 128 / 128 / 128]) := numL_5 q hq0 hq1
  have h1 : ¬ q < 0 := by omega
  have h2 : ¬ 2147483647 < q := by omega
  have e1 := i64_and127
  have e2 := or128
  have e3 := or128'
  go_enter Try.func74, Try.ntmps74
  go_wp2
  refine wp_loop_rounds 5 ?_
  rw [rounds_succ]
  go_wp2
  rw [rounds_succ]
  go_wp2
  rw [rounds_succ]
  go_wp2
  rw [rounds_succ]
  go_wp2
  rw [rounds_succ]
  go_wp2
  refine bodyPost_ret (v := .tuple #[.agg #[.int .u8 (q % 128 + 128), .int .u8 ((q / 128) % 128 + 128), .int .u8 ((q / 128 / 128) % 128 + 128), .int .u8 ((q / 128 / 128 / 128) % 128 + 128), .int .u8 (q / 128 / 128 / 128 / 128)], .int .i64 5]) (by simp [results, Try.results74, go_sem]) rfl ?_
  refine ⟨q % 128 + 128, (q / 128) % 128 + 128, (q / 128 / 128) % 128 + 128, (q / 128 / 128 / 128) % 128 + 128, q / 128 / 128 / 128 / 128, ?_, ?_, ?_, ?_⟩
  · rw [HL.out]; rfl
  · rw [HL.out]; rfl
  · exact five_rng (by omega) (by omega) (by omega) (by omega) (by omega)
  · exact ((Below.refl _ _).alloc (Nat.le_refl _) _).alloc (by simp) _


set_option maxHeartbeats 1000000 in
theorem nb_no (q : Int) (w : World) (hq : q < 0 ∨ 2147483647 < q) : Calls Try.prog 74 #[.int .i64 q] w (NbPost q w) := by
  have HL : Hid (numL q = []) := by unfold Hid numL; rw [if_neg (by omega)]
  rcases hq with hq | hq
  · go_enter Try.func74, Try.ntmps74
    go_wp2
    refine bodyPost_ret (v := .tuple #[.agg #[.int .u8 0, .int .u8 0, .int .u8 0, .int .u8 0, .int .u8 0], .int .i64 0]) (by simp [results, Try.results74, go_sem]) rfl ?_
    refine ⟨0, 0, 0, 0, 0, by rw [HL.out]; rfl, by rw [HL.out]; rfl, five_rng (by omega) (by omega) (by omega) (by omega) (by omega), ?_⟩
    exact ((Below.refl _ _).alloc (Nat.le_refl _) _).alloc (by simp) _
  · have h1 : ¬ q < 0 := by omega
    go_enter Try.func74, Try.ntmps74
    go_wp2
    refine bodyPost_ret (v := .tuple #[.agg #[.int .u8 0, .int .u8 0, .int .u8 0, .int .u8 0, .int .u8 0], .int .i64 0]) (by simp [results, Try.results74, go_sem]) rfl ?_
    refine ⟨0, 0, 0, 0, 0, by rw [HL.out]; rfl, by rw [HL.out]; rfl, five_rng (by omega) (by omega) (by omega) (by omega) (by omega), ?_⟩
    exact ((Below.refl _ _).alloc (Nat.le_refl _) _).alloc (by simp) _

theorem nb (q : Int) (w : World) : Calls Try.prog 74 #[.int .i64 q] w (NbPost q w) := by
  by_cases h0 : q < 0 ∨ 2147483647 < q
  · exact nb_no q w h0
  by_cases h1 : q ≤ 127
  · exact nb_1 q w (by omega) h1
  by_cases h2 : q ≤ 16383
  · exact nb_2 q w (by omega) h2
  by_cases h3 : q ≤ 2097151
  · exact nb_3 q w (by omega) h3
  by_cases h4 : q ≤ 268435455
  · exact nb_4 q w (by omega) h4
  exact nb_5 q w (by omega) (by omega)

end Go.Proofs.Ytknemgmfbmmngaa
