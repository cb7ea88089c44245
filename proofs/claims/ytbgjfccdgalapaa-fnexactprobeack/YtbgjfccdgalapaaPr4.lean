/- The specification's ProberNew and l11ack. -/
import Derived.Test.YtbgjfccdgalapaaPr4a
namespace Go.Proofs.Ytbgjfccdgalapaa
open Go.RowKit

set_option maxHeartbeats 1000000 in
theorem sProberNewV (s : Int) (w : World) (_h1 : -9223372036854775808 ≤ s) (_h2 : s ≤ 9223372036854775807) :
    Calls Try.prog 21 #[.int .i64 s] w fun e w' => ∃ tv, e = .returned (.tuple #[.agg #[tv, .int .i64 (newPD s).1.next, .int .i64 (newPD s).1.seed, .int .i64 (newPD s).1.state, .int .i64 (newPD s).1.who, .int .i64 (newPD s).1.wait], .bool (newPD s).2]) ∧ OwI w' w.heap.size tv (newPD s).1.order ∧ Below w.heap.size w w' := by
  have hB : ∀ w : World, ∀ o, Below w.heap.size w (w.alloc o) := fun w o => (Below.refl _ w).alloc (Nat.le_refl _) _
  obtain ⟨R, hR⟩ : ∃ R, R = newPD s := ⟨_, rfl⟩
  rw [← hR]
  by_cases h : s < 0 ∨ 2147483647 < s
  · have HK : Hid (R = (zeroPro, false)) := by show _ = _; rw [hR]; exact if_pos h
    clear hR
    rcases h with h | h
    · go_enter Try.func21, Try.ntmps21
      go_wp2
      refine bodyPost_ret (v := .tuple #[.agg #[.slice none 0 0, .int .i64 0, .int .i64 0, .int .i64 0, .int .i64 0, .int .i64 0], .bool false]) (by simp [results, Try.results21, go_sem]) rfl ?_
      rw [HK.out]
      exact ⟨_, rfl, OwI.nil _ _, by first | exact hB _ _ | exact pro_below (hB _ _) (Nat.le_refl _) _ _ _ _ _ _⟩
    · have h0 : ¬ s < 0 := by omega
      go_enter Try.func21, Try.ntmps21
      go_wp2
      refine bodyPost_ret (v := .tuple #[.agg #[.slice none 0 0, .int .i64 0, .int .i64 0, .int .i64 0, .int .i64 0, .int .i64 0], .bool false]) (by simp [results, Try.results21, go_sem]) rfl ?_
      rw [HK.out]
      exact ⟨_, rfl, OwI.nil _ _, by first | exact hB _ _ | exact pro_below (hB _ _) (Nat.le_refl _) _ _ _ _ _ _⟩
  · have HK : Hid (R = (⟨[], 0, s, 0, 0, 0⟩, true)) := by show _ = _; rw [hR]; exact if_neg h
    have h0 : ¬ s < 0 := by omega
    have h1 : ¬ 2147483647 < s := by omega
    clear hR h
    go_enter Try.func21, Try.ntmps21
    go_wp2
    refine bodyPost_ret (v := .tuple #[.agg #[.slice none 0 0, .int .i64 0, .int .i64 s, .int .i64 0, .int .i64 0, .int .i64 0], .bool true]) (by simp [results, Try.results21, go_sem]) rfl ?_
    rw [HK.out]
    exact ⟨_, rfl, OwI.nil _ _, by first | exact hB _ _ | exact pro_below (hB _ _) (Nat.le_refl _) _ _ _ _ _ _⟩

set_option maxHeartbeats 2000000 in
theorem sAck (gt base : Nat) (P : DPro) (tv : Value) (id : Int) (w : World) (h : ProB gt base P tv w) :
    Calls Try.prog 34 #[.pointer (some ⟨gt, 0, none⟩), .int .i64 id] w fun e w' => e = .returned (.bool (ackD P id).2) ∧ ProB gt base (ackD P id).1 tv w' ∧ w.grownBy w' (some gt) := by
  obtain ⟨PB, PO⟩ := h
  have HPB : Hid (ProB gt base P tv w) := ⟨PB, PO⟩
  obtain ⟨R, hR⟩ : ∃ R, R = ackD P id := ⟨_, rfl⟩
  rw [← hR]
  obtain ⟨os, nx, sd, st, wh, wt⟩ := P
  simp only [ackD] at hR
  have nb : tv.ownBlock = none ∨ tv.ownBlock ≠ some gt := by
    right
    intro e
    rcases PO.2 with ⟨hv, _⟩ | ⟨k, c, cur, hv, _, hg, _⟩
    · rw [hv] at e; cases e
    · rw [hv] at e
      simp only [Value.ownBlock, Option.some.injEq] at e
      subst e
      rw [PB] at hg
      simp only [Option.some.injEq, Obj.cells.injEq] at hg
      exact absurd hg.2.1 (by decide)
  have HSET : Hid (ProB gt base ⟨os, nx, sd, 0, 0, 0⟩ tv (((w.setCell ⟨gt, 3, none⟩ (.int .i64 0)).setCell ⟨gt, 4, none⟩ (.int .i64 0)).setCell ⟨gt, 5, none⟩ (.int .i64 0)) ∧ w.grownBy (((w.setCell ⟨gt, 3, none⟩ (.int .i64 0)).setCell ⟨gt, 4, none⟩ (.int .i64 0)).setCell ⟨gt, 5, none⟩ (.int .i64 0)) (some gt)) := ⟨⟨set_block (set_block (set_block PB 3 _) 4 _) 5 _, ((PO.keep (set_grown _ _ _ _) nb).keep (set_grown _ _ _ _) nb).keep (set_grown _ _ _ _) nb⟩, ((set_grown _ _ _ _).trans (set_grown _ _ _ _)).trans (set_grown _ _ _ _)⟩
  obtain ⟨p0, p1, p2, p3, p4, p5⟩ := cells6 PB
  have f3 := (at_block PB 3 _ rfl).2
  have f4 := (at_block PB 4 _ rfl).2
  have f5 := (at_block PB 5 _ rfl).2
  clear PB PO nb
  by_cases e1 : st = 0
  · have e1' : (st == 0) = true := by simpa using e1
    have HK : Hid (R = (⟨os, nx, sd, st, wh, wt⟩, false)) := by show _ = _; rw [hR, if_pos (.inl e1)]
    clear hR e1
    go_enter Try.func34, Try.ntmps34
    go_wp2
    go_ret
    rw [HK.out]
    exact ⟨rfl, HPB.out, grown_same _ _⟩
  have e1' : (st == 0) = false := by simpa using e1
  by_cases e2 : wh = id
  · have e2' : (wh != id) = false := by simpa using e2
    have HK : Hid (R = (⟨os, nx, sd, 0, 0, 0⟩, true)) := by show _ = _; rw [hR]; exact if_neg (fun h => h.elim e1 (fun h' => h' e2))
    clear hR e1 e2
    go_enter Try.func34, Try.ntmps34
    go_wp2
    go_ret
    rw [HK.out]
    exact ⟨rfl, HSET.out⟩
  · have e2' : (wh != id) = true := by simpa using e2
    have HK : Hid (R = (⟨os, nx, sd, st, wh, wt⟩, false)) := by show _ = _; rw [hR, if_pos (.inr e2)]
    clear hR e1 e2
    go_enter Try.func34, Try.ntmps34
    go_wp2
    go_ret
    rw [HK.out]
    exact ⟨rfl, HPB.out, grown_same _ _⟩

end Go.Proofs.Ytbgjfccdgalapaa
