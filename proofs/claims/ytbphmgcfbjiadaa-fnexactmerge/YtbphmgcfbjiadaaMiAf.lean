/- The program's method after. -/
import Derived.Test.YtbphmgcfbjiadaaHd0
namespace Go.Proofs.Ytbphmgcfbjiadaa
open Go.RowKit

set_option maxHeartbeats 2000000 in
theorem afterV (t s : DMem) (w : World) (hs : memB s = true) :
    Calls Try.prog 36 #[.agg #[.int .i64 t.id, .int .i64 t.st, .int .i64 t.life], .agg #[.int .i64 s.id, .int .i64 s.st, .int .i64 s.life]] w fun e w' => e = .returned (.agg #[.int .i64 (afterD t s).id, .int .i64 (afterD t s).st, .int .i64 (afterD t s).life]) ∧ Below w.heap.size w w' := by
  have hB3 : ∀ o o' o'', Below w.heap.size w (((w.alloc o).alloc o').alloc o'') := fun o o' o'' => (((Below.refl _ w).alloc (Nat.le_refl _) _).alloc (by simp) _).alloc (by simp; omega) _
  have hl := memB_iff.1 hs
  have hl0 : 0 ≤ s.life := hl.2.2.2.2.1
  have hl1 : s.life ≤ 1000 := hl.2.2.2.2.2
  have HA : Hid (afterD t s = if s.life = 1000 then s else if t.st = 3 then ⟨t.id, t.st, s.life⟩ else if s.st ≠ 0 then ⟨t.id, t.st, s.life + 1⟩ else s) := rfl
  generalize afterD t s = R at HA ⊢
  obtain ⟨ti, ts, tl⟩ := t
  obtain ⟨si, ss, sl⟩ := s
  clear hs hl
  simp only at HA hl0 hl1 ⊢
  go_enter Try.func36, Try.ntmps36
  by_cases e1 : sl = 1000
  · have HR : Hid (R = ⟨si, ss, sl⟩) := by show _ = _; rw [HA.out, if_pos e1]
    have e1' : (sl == 1000) = true := by simpa using e1
    clear HA e1
    go_wp2
    refine bodyPost_ret (v := .agg #[.int .i64 si, .int .i64 ss, .int .i64 sl]) (by simp [results, Try.results36, go_sem]) rfl ?_
    rw [HR.out]
    exact ⟨rfl, hB3 _ _ _⟩
  have e1' : (sl == 1000) = false := by simpa using e1
  by_cases e2 : ts = 3
  · have HR : Hid (R = ⟨ti, ts, sl⟩) := by show _ = _; rw [HA.out, if_neg e1, if_pos e2]
    have e2' : (ts == 3) = true := by simpa using e2
    clear HA e1 e2
    go_wp2
    refine bodyPost_ret (v := .agg #[.int .i64 ti, .int .i64 ts, .int .i64 sl]) (by simp [results, Try.results36, go_sem]) rfl ?_
    rw [HR.out]
    exact ⟨rfl, hB3 _ _ _⟩
  have e2' : (ts == 3) = false := by simpa using e2
  by_cases e3 : ss = 0
  · have HR : Hid (R = ⟨si, ss, sl⟩) := by show _ = _; rw [HA.out, if_neg e1, if_neg e2, if_neg (fun h => h e3)]
    have e3' : (ss != 0) = false := by simpa using e3
    clear HA e1 e2 e3
    go_wp2
    refine bodyPost_ret (v := .agg #[.int .i64 si, .int .i64 ss, .int .i64 sl]) (by simp [results, Try.results36, go_sem]) rfl ?_
    rw [HR.out]
    exact ⟨rfl, hB3 _ _ _⟩
  · have HR : Hid (R = ⟨ti, ts, sl + 1⟩) := by show _ = _; rw [HA.out, if_neg e1, if_neg e2, if_pos e3]
    have e3' : (ss != 0) = true := by simpa using e3
    clear HA e1 e2 e3
    go_wp2
    refine bodyPost_ret (v := .agg #[.int .i64 ti, .int .i64 ts, .int .i64 (sl + 1)]) (by simp [results, Try.results36, go_sem]) rfl ?_
    rw [HR.out]
    exact ⟨rfl, hB3 _ _ _⟩

end Go.Proofs.Ytbphmgcfbjiadaa
