/- The contracts of OpName, the specification's and the program's. -/
import Derived.Test.YtpdkbkimkidecaaOf8
namespace Go.Proofs.Ytpdkbkimkidecaa
open Go.RowKit

/-- The name of a kind, none of a number that is no kind. -/
def opNameL (q : Int) : List Int := if 0 ≤ q ∧ q ≤ 7 then nameL q.toNat else []
theorem opNameL_rng (q : Int) : ∀ x ∈ opNameL q, 0 ≤ x ∧ x ≤ 255 := by
  unfold opNameL
  split
  · exact nameL_rng _
  · intro x hx; cases hx
theorem opNameL_len (q : Int) : (opNameL q).length ≤ 4 := by
  unfold opNameL
  split
  · exact nameL_len _
  · simp

theorem convS (k : Nat) (w : World) : (convert 9 22 (.string (nameS k))).run Try.prog w = .ok (.slice (some ⟨w.heap.size, 0, none⟩) (nameS k).size (grownCap w (nameS k).size 0 5)) (Lib.bytesWorld w 5 (nameS k)) :=
  Lib.run_convert_string_bytes w 9 22 5 (nameS k) Try.underlying9 Try.underlying22 Try.underlying5

set_option maxHeartbeats 1000000 in
theorem sOpNameV (q : Int) (w : World) : Calls Try.prog 4 #[.int .i64 q] w fun e w' => ∃ v, e = .returned v ∧ OwM w' w.heap.size v (opNameL q) ∧ Below w.heap.size w w' := by
  by_cases h0 : 0 ≤ q
  · by_cases h1 : q ≤ 7
    · obtain ⟨k, rfl⟩ := Int.eq_ofNat_of_zero_le h0
      have hk : k < 8 := by omega
      have HL : Hid (opNameL (k : Int) = nameL k) := by
        show opNameL (k : Int) = nameL k
        unfold opNameL
        rw [if_pos ⟨h0, h1⟩, Int.toNat_natCast]
      have hlt : ¬ (k : Int) < 0 := by omega
      have hgt : ¬ (7 : Int) < (k : Int) := by omega
      clear h0 h1
      go_enter Try.func4, Try.ntmps4
      go_wp2_with fail
      refine (l8nameV k hk w).mono ?_
      rintro e w1 ⟨rfl, b1⟩
      have hc := convS k w1
      obtain ⟨M, b2⟩ := m_conv w1 (nameS k) (nameL k) (nameS_cells k hk) (by have := nameS_size k hk; omega)
      obtain ⟨W, hW⟩ : ∃ W, W = Lib.bytesWorld w1 5 (nameS k) := ⟨_, rfl⟩
      rw [← hW] at hc M b2
      clear hW
      go_wp2
      go_ret
      exact ⟨_, rfl, by rw [HL.out]; exact M.base b1.size, b1.trans (b2.mono b1.size)⟩
    · have HL : Hid (opNameL q = []) := by
        show opNameL q = []
        unfold opNameL
        rw [if_neg (by omega)]
      have hlt : ¬ q < 0 := by omega
      have hgt : (7 : Int) < q := by omega
      go_enter Try.func4, Try.ntmps4
      go_wp2
      go_ret
      exact ⟨_, rfl, .inl ⟨rfl, HL.out⟩, Below.refl _ _⟩
  · have HL : Hid (opNameL q = []) := by
      show opNameL q = []
      unfold opNameL
      rw [if_neg (by omega)]
    have hlt : q < 0 := by omega
    go_enter Try.func4, Try.ntmps4
    go_wp2
    go_ret
    exact ⟨_, rfl, .inl ⟨rfl, HL.out⟩, Below.refl _ _⟩

/-- What the table has at place k. -/
theorem forms_name (k : Nat) (hk : k < 8) {w : World} {g : Nat} (h : Forms w g) : w.cell? ⟨g + 3, k * 2, none⟩ = some (.string (nameS k)) := by
  obtain ⟨t, ht⟩ := h.row
  rcases lt8 hk with rfl | rfl | rfl | rfl | rfl | rfl | rfl | rfl <;> exact (at_block ht _ _ rfl).1

set_option maxHeartbeats 1000000 in
theorem iOpNameV (q : Int) (w : World) : Calls Try.prog 5 #[.int .i64 q] w fun e w' => ∃ v, e = .returned v ∧ OwM w' w.heap.size v (opNameL q) ∧ Below w.heap.size w w' := by
  by_cases h01 : 0 ≤ q ∧ q ≤ 7
  · obtain ⟨h0, h1⟩ := h01
    obtain ⟨k, rfl⟩ := Int.eq_ofNat_of_zero_le h0
    have hk : k < 8 := by omega
    have HL : Hid (opNameL (k : Int) = nameL k) := by
      show opNameL (k : Int) = nameL k
      unfold opNameL
      rw [if_pos ⟨h0, h1⟩, Int.toNat_natCast]
    have HI : inB (k : Int) 0 7 = true := by simp [inB]; omega
    clear h0 h1
    go_enter Try.func5, Try.ntmps5
    go_wp2_with fail
    refine (withinV _ 0 7 w).mono ?_
    rintro e _ ⟨rfl, rfl⟩
    rw [HI]
    clear HI
    go_wp2_with fail
    refine (opFormsV _).mono ?_
    rintro e w1 ⟨rfl, F, b1⟩
    have hn := forms_name k hk F
    have hk8 : (k : Int) < 8 := by omega
    have hc := convS k w1
    obtain ⟨M, b2⟩ := m_conv w1 (nameS k) (nameL k) (nameS_cells k hk) (by have := nameS_size k hk; omega)
    obtain ⟨W, hW⟩ : ∃ W, W = Lib.bytesWorld w1 5 (nameS k) := ⟨_, rfl⟩
    rw [← hW] at hc M b2
    clear hW
    go_wp2
    go_ret
    exact ⟨_, rfl, by rw [HL.out]; exact M.base b1.size, b1.trans (b2.mono b1.size)⟩
  · have HL : Hid (opNameL q = []) := by
      show opNameL q = []
      unfold opNameL
      rw [if_neg h01]
    have HI : inB q 0 7 = false := by
      cases h : inB q 0 7
      · rfl
      · simp [inB] at h
        exact absurd h h01
    go_enter Try.func5, Try.ntmps5
    go_wp2_with fail
    refine (withinV _ 0 7 w).mono ?_
    rintro e _ ⟨rfl, rfl⟩
    rw [HI]
    clear HI h01
    go_wp2
    go_ret
    exact ⟨_, rfl, .inl ⟨rfl, HL.out⟩, Below.refl _ _⟩

end Go.Proofs.Ytpdkbkimkidecaa
