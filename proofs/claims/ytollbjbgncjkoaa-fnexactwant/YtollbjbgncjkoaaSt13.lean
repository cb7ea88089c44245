
/- The texts of statuses: StatusText of both sides. -/
import Derived.Test.YtollbjbgncjkoaaOm
import Derived.Test.YtollbjbgncjkoaaInf
import Derived.Test.YtollbjbgncjkoaaOp0
import Derived.Lib.SlBytesConst
namespace Go.Proofs.Ytollbjbgncjkoaa
open Go.RowKit

/-- The text of a status; none of another number. -/
def stL (q : Int) : List Int := if q = 0 then [112, 97, 115, 115, 105, 110, 103] else if q = 1 then [119, 97, 114, 110, 105, 110, 103] else if q = 2 then [99, 114, 105, 116, 105, 99, 97, 108] else []
theorem stL_rng (q : Int) : ∀ x ∈ stL q, 0 ≤ x ∧ x ≤ 255 := by
  unfold stL
  split
  · decide
  · split
    · decide
    · split
      · decide
      · intro x hx; cases hx
theorem stL_len (q : Int) : (stL q).length ≤ 8 := by
  unfold stL
  split
  · decide
  · split
    · decide
    · split
      · decide
      · decide
theorem stL_no (q : Int) (h : q < 0 ∨ 2 < q) : stL q = [] := by
  unfold stL
  rw [if_neg (by omega), if_neg (by omega), if_neg (by omega)]

theorem hideS {p : Prop} (h : p) : Hid p := h
theorem convT (s : ByteArray) (w : World) : (convert 9 22 (.string s)).run Try.prog w = .ok (.slice (some ⟨w.heap.size, 0, none⟩) s.size (grownCap w s.size 0 5)) (Lib.bytesWorld w 5 s) :=
  Lib.run_convert_string_bytes w 9 22 5 s Try.underlying9 Try.underlying22 Try.underlying5

set_option maxHeartbeats 1000000 in
theorem sStat0 (w : World) : Calls Try.prog 34 #[.int .i64 0] w fun e w' => ∃ v, e = .returned v ∧ OwM w' w.heap.size v [112, 97, 115, 115, 105, 110, 103] ∧ Below w.heap.size w w' := by
  have hc := fun w => convT ⟨#[112, 97, 115, 115, 105, 110, 103]⟩ w
  have HM := fun w => m_conv w ⟨#[112, 97, 115, 115, 105, 110, 103]⟩ [112, 97, 115, 115, 105, 110, 103] (by rw [Array.toList_map]; rfl) (by decide)
  have HF : Hid (∀ w1, w1 = w.alloc (.cells #[.string ⟨#[112, 97, 115, 115, 105, 110, 103]⟩, .string ⟨#[119, 97, 114, 110, 105, 110, 103]⟩, .string ⟨#[99, 114, 105, 116, 105, 99, 97, 108]⟩] 9) → OwM (Lib.bytesWorld w1 5 ⟨#[112, 97, 115, 115, 105, 110, 103]⟩) w.heap.size (.slice (some ⟨w.heap.size + 1, 0, none⟩) 7 (grownCap w1 7 0 5)) [112, 97, 115, 115, 105, 110, 103] ∧ Below w.heap.size w (Lib.bytesWorld w1 5 ⟨#[112, 97, 115, 115, 105, 110, 103]⟩)) := fun w1 hw => by
    have b1 : Below w.heap.size w w1 := by rw [hw]; exact (Below.refl _ w).alloc (Nat.le_refl _) _
    have hs : w1.heap.size = w.heap.size + 1 := by rw [hw]; simp
    have h1 := (HM w1).1
    rw [hs] at h1
    exact ⟨h1.base (by omega), b1.trans ((HM w1).2.mono b1.size)⟩
  clear HM
  go_enter Try.func34, Try.ntmps34
  go_wp2
  go_ret
  exact ⟨_, rfl, HF.out _ rfl⟩

set_option maxHeartbeats 1000000 in
theorem sStat1 (w : World) : Calls Try.prog 34 #[.int .i64 1] w fun e w' => ∃ v, e = .returned v ∧ OwM w' w.heap.size v [119, 97, 114, 110, 105, 110, 103] ∧ Below w.heap.size w w' := by
  have hc := fun w => convT ⟨#[119, 97, 114, 110, 105, 110, 103]⟩ w
  have HM := fun w => m_conv w ⟨#[119, 97, 114, 110, 105, 110, 103]⟩ [119, 97, 114, 110, 105, 110, 103] (by rw [Array.toList_map]; rfl) (by decide)
  have HF : Hid (∀ w1, w1 = w.alloc (.cells #[.string ⟨#[112, 97, 115, 115, 105, 110, 103]⟩, .string ⟨#[119, 97, 114, 110, 105, 110, 103]⟩, .string ⟨#[99, 114, 105, 116, 105, 99, 97, 108]⟩] 9) → OwM (Lib.bytesWorld w1 5 ⟨#[119, 97, 114, 110, 105, 110, 103]⟩) w.heap.size (.slice (some ⟨w.heap.size + 1, 0, none⟩) 7 (grownCap w1 7 0 5)) [119, 97, 114, 110, 105, 110, 103] ∧ Below w.heap.size w (Lib.bytesWorld w1 5 ⟨#[119, 97, 114, 110, 105, 110, 103]⟩)) := fun w1 hw => by
    have b1 : Below w.heap.size w w1 := by rw [hw]; exact (Below.refl _ w).alloc (Nat.le_refl _) _
    have hs : w1.heap.size = w.heap.size + 1 := by rw [hw]; simp
    have h1 := (HM w1).1
    rw [hs] at h1
    exact ⟨h1.base (by omega), b1.trans ((HM w1).2.mono b1.size)⟩
  clear HM
  go_enter Try.func34, Try.ntmps34
  go_wp2
  go_ret
  exact ⟨_, rfl, HF.out _ rfl⟩

set_option maxHeartbeats 1000000 in
theorem sStat2 (w : World) : Calls Try.prog 34 #[.int .i64 2] w fun e w' => ∃ v, e = .returned v ∧ OwM w' w.heap.size v [99, 114, 105, 116, 105, 99, 97, 108] ∧ Below w.heap.size w w' := by
  have hc := fun w => convT ⟨#[99, 114, 105, 116, 105, 99, 97, 108]⟩ w
  have HM := fun w => m_conv w ⟨#[99, 114, 105, 116, 105, 99, 97, 108]⟩ [99, 114, 105, 116, 105, 99, 97, 108] (by rw [Array.toList_map]; rfl) (by decide)
  have HF : Hid (∀ w1, w1 = w.alloc (.cells #[.string ⟨#[112, 97, 115, 115, 105, 110, 103]⟩, .string ⟨#[119, 97, 114, 110, 105, 110, 103]⟩, .string ⟨#[99, 114, 105, 116, 105, 99, 97, 108]⟩] 9) → OwM (Lib.bytesWorld w1 5 ⟨#[99, 114, 105, 116, 105, 99, 97, 108]⟩) w.heap.size (.slice (some ⟨w.heap.size + 1, 0, none⟩) 8 (grownCap w1 8 0 5)) [99, 114, 105, 116, 105, 99, 97, 108] ∧ Below w.heap.size w (Lib.bytesWorld w1 5 ⟨#[99, 114, 105, 116, 105, 99, 97, 108]⟩)) := fun w1 hw => by
    have b1 : Below w.heap.size w w1 := by rw [hw]; exact (Below.refl _ w).alloc (Nat.le_refl _) _
    have hs : w1.heap.size = w.heap.size + 1 := by rw [hw]; simp
    have h1 := (HM w1).1
    rw [hs] at h1
    exact ⟨h1.base (by omega), b1.trans ((HM w1).2.mono b1.size)⟩
  clear HM
  go_enter Try.func34, Try.ntmps34
  go_wp2
  go_ret
  exact ⟨_, rfl, HF.out _ rfl⟩

set_option maxHeartbeats 1000000 in
theorem iHealth0 (w : World) : Calls Try.prog 41 #[.int .i64 0] w fun e w' => ∃ v, e = .returned v ∧ OwM w' w.heap.size v [112, 97, 115, 115, 105, 110, 103] ∧ Below w.heap.size w w' := by
  have HF : Hid (OwM (w.alloc (.cells #[.int .u8 112, .int .u8 97, .int .u8 115, .int .u8 115, .int .u8 105, .int .u8 110, .int .u8 103] 5 (7, 7 + 1))) w.heap.size (.slice (some ⟨w.heap.size, 0, none⟩) 7 7) [112, 97, 115, 115, 105, 110, 103]) := .inr ⟨w.heap.size, 7, #[.int .u8 112, .int .u8 97, .int .u8 115, .int .u8 115, .int .u8 105, .int .u8 110, .int .u8 103], (7, 7 + 1), rfl, Nat.le_refl _, heap_alloc_new _ _, .inr (Nat.le_refl _), by decide, by decide, rfl, rfl⟩
  have kc := fun (w : World) (C : Array Value) (n c : Nat) => Lib.run_convert_bytes_const (P := Try.prog) w 22 5 C n c Try.underlying22 Try.underlying5
  go_enter Try.func41, Try.ntmps41
  go_wp2
  go_ret
  exact ⟨_, rfl, HF.out, (Below.refl _ w).alloc (Nat.le_refl _) _⟩

set_option maxHeartbeats 1000000 in
theorem iHealth1 (w : World) : Calls Try.prog 41 #[.int .i64 1] w fun e w' => ∃ v, e = .returned v ∧ OwM w' w.heap.size v [119, 97, 114, 110, 105, 110, 103] ∧ Below w.heap.size w w' := by
  have HF : Hid (OwM (w.alloc (.cells #[.int .u8 119, .int .u8 97, .int .u8 114, .int .u8 110, .int .u8 105, .int .u8 110, .int .u8 103] 5 (7, 7 + 1))) w.heap.size (.slice (some ⟨w.heap.size, 0, none⟩) 7 7) [119, 97, 114, 110, 105, 110, 103]) := .inr ⟨w.heap.size, 7, #[.int .u8 119, .int .u8 97, .int .u8 114, .int .u8 110, .int .u8 105, .int .u8 110, .int .u8 103], (7, 7 + 1), rfl, Nat.le_refl _, heap_alloc_new _ _, .inr (Nat.le_refl _), by decide, by decide, rfl, rfl⟩
  have kc := fun (w : World) (C : Array Value) (n c : Nat) => Lib.run_convert_bytes_const (P := Try.prog) w 22 5 C n c Try.underlying22 Try.underlying5
  go_enter Try.func41, Try.ntmps41
  go_wp2
  go_ret
  exact ⟨_, rfl, HF.out, (Below.refl _ w).alloc (Nat.le_refl _) _⟩

set_option maxHeartbeats 1000000 in
theorem iHealth2 (w : World) : Calls Try.prog 41 #[.int .i64 2] w fun e w' => ∃ v, e = .returned v ∧ OwM w' w.heap.size v [99, 114, 105, 116, 105, 99, 97, 108] ∧ Below w.heap.size w w' := by
  have HF : Hid (OwM (w.alloc (.cells #[.int .u8 99, .int .u8 114, .int .u8 105, .int .u8 116, .int .u8 105, .int .u8 99, .int .u8 97, .int .u8 108] 5 (8, 8 + 1))) w.heap.size (.slice (some ⟨w.heap.size, 0, none⟩) 8 8) [99, 114, 105, 116, 105, 99, 97, 108]) := .inr ⟨w.heap.size, 8, #[.int .u8 99, .int .u8 114, .int .u8 105, .int .u8 116, .int .u8 105, .int .u8 99, .int .u8 97, .int .u8 108], (8, 8 + 1), rfl, Nat.le_refl _, heap_alloc_new _ _, .inr (Nat.le_refl _), by decide, by decide, rfl, rfl⟩
  have kc := fun (w : World) (C : Array Value) (n c : Nat) => Lib.run_convert_bytes_const (P := Try.prog) w 22 5 C n c Try.underlying22 Try.underlying5
  go_enter Try.func41, Try.ntmps41
  go_wp2
  go_ret
  exact ⟨_, rfl, HF.out, (Below.refl _ w).alloc (Nat.le_refl _) _⟩

set_option maxHeartbeats 1000000 in
theorem sStatusTextV (q : Int) (w : World) : Calls Try.prog 34 #[.int .i64 q] w fun e w' => ∃ v, e = .returned v ∧ OwM w' w.heap.size v (stL q) ∧ Below w.heap.size w w' := by
  by_cases h0 : q < 0
  · have HL := hideS (stL_no q (.inl h0))
    go_enter Try.func34, Try.ntmps34
    go_wp2
    go_ret
    exact ⟨_, rfl, .inl ⟨rfl, HL.out⟩, Below.refl _ _⟩
  · by_cases h1 : 2 < q
    · have HL := hideS (stL_no q (.inr h1))
      go_enter Try.func34, Try.ntmps34
      go_wp2
      go_ret
      exact ⟨_, rfl, .inl ⟨rfl, HL.out⟩, Below.refl _ _⟩
    · have h : q = 0 ∨ q = 1 ∨ q = 2 := by omega
      rcases h with rfl | rfl | rfl
      · exact sStat0 w
      · exact sStat1 w
      · exact sStat2 w

set_option maxHeartbeats 1000000 in
theorem iHealthV (q : Int) (w : World) : Calls Try.prog 41 #[.int .i64 q] w fun e w' => ∃ v, e = .returned v ∧ OwM w' w.heap.size v (stL q) ∧ Below w.heap.size w w' := by
  by_cases h : q = 0 ∨ q = 1 ∨ q = 2
  · rcases h with rfl | rfl | rfl
    · exact iHealth0 w
    · exact iHealth1 w
    · exact iHealth2 w
  · have HL := hideS (stL_no q (by omega))
    have e0 : (q == 0) = false := by simp; omega
    have e1 : (q == 1) = false := by simp; omega
    have e2 : (q == 2) = false := by simp; omega
    clear h
    go_enter Try.func41, Try.ntmps41
    go_wp2
    go_ret
    exact ⟨_, rfl, .inl ⟨rfl, HL.out⟩, Below.refl _ _⟩

set_option maxHeartbeats 1000000 in
theorem iStatusTextV (q : Int) (w : World) : Calls Try.prog 21 #[.int .i64 q] w fun e w' => ∃ v, e = .returned v ∧ OwM w' w.heap.size v (stL q) ∧ Below w.heap.size w w' := by
  go_enter Try.func21, Try.ntmps21
  go_wp2_with fail
  refine (iHealthV q w).mono ?_
  rintro e w1 ⟨v, rfl, o, b⟩
  go_wp2
  go_ret
  exact ⟨_, rfl, o, b⟩

end Go.Proofs.Ytollbjbgncjkoaa
