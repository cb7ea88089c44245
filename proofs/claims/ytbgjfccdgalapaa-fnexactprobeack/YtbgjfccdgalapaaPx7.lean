/- The program's ProbeAck. -/
import Derived.Test.YtbgjfccdgalapaaPx4
import Derived.Test.YtbgjfccdgalapaaPx6
namespace Go.Proofs.Ytbgjfccdgalapaa
open Go.RowKit

set_option maxRecDepth 20000 in
set_option maxHeartbeats 2000000 in
theorem iProbeAckV (v : Value) (P : DPro) (id : Int) (w : World) (h : VPro w v P) (hn : P.order.length ≤ 1048576) :
    Calls Try.prog 26 #[v, .int .i64 id] w fun e w' => ∃ tv, e = .returned (.tuple #[.agg #[tv, .int .i64 (ackPD P id).1.next, .int .i64 (ackPD P id).1.seed, .int .i64 (ackPD P id).1.state, .int .i64 (ackPD P id).1.who, .int .i64 (ackPD P id).1.wait], .bool (ackPD P id).2]) ∧ OwI w' w.heap.size tv (ackPD P id).1.order ∧ Below w.heap.size w w' := by
  have hE : ∀ w : World, ∀ o, Ext w (w.alloc o) := fun w o => World.grownBy_alloc _ _ _
  have HT : Hid (VPro w v P) := h
  have HN : Hid (P.order.length ≤ 1048576) := hn
  obtain ⟨ov, rfl, ho⟩ := h
  obtain ⟨a, cap, rfl⟩ := vl_shape ho
  obtain ⟨R, hR⟩ : ∃ R, R = ackPD P id := ⟨_, rfl⟩
  rw [← hR]
  have HR : Hid (R = ackPD P id) := hR
  obtain ⟨n, hnn⟩ : ∃ n, n = P.order.length := ⟨_, rfl⟩
  have HNN : Hid (n = P.order.length) := hnn
  rw [← hnn] at HT ⊢
  clear ho hR hnn hn
  go_enter Try.func26, Try.ntmps26
  go_wp2_with fail
  generalize hW : World.alloc (World.alloc w _) _ = W
  have XW : Ext w W := by rw [← hW]; exact (hE _ _).tr (hE _ _)
  have P0 : W.heap[w.heap.size]? = some (.cells #[.slice a n cap, .int .i64 P.next, .int .i64 P.seed, .int .i64 P.state, .int .i64 P.who, .int .i64 P.wait] 35 (0, 0)) := by rw [← hW, Below.heap_alloc _ _ _ (by simp)]; exact heap_alloc_new w _
  have P1 : W.heap[w.heap.size + 1]? = some (.cells #[.slice none 0 0, .int .i64 0, .int .i64 0, .int .i64 0, .int .i64 0, .int .i64 0] 35 (0, 0)) := by rw [← hW]; simpa using heap_alloc_new (World.alloc w _) (.cells #[.slice none 0 0, .int .i64 0, .int .i64 0, .int .i64 0, .int .i64 0, .int .i64 0] 35 (0, 0))
  clear hW
  refine (iProberOkV _ P W (HT.out.ext XW) HN.out).mono ?_
  rintro e w1 ⟨rfl, b1⟩
  have X1 : Ext w w1 := XW.tr (ext_below b1)
  have Q0 := ext_blk (ext_below b1) P0
  have Q1 := ext_blk (ext_below b1) P1
  clear P0 P1 b1 XW
  obtain ⟨p0, p1, p2, p3, p4, p5⟩ := cells6 Q0
  cases t0 : tB (ProP P)
  · have HK : Hid (R = (zeroPro, false)) := by show _ = _; rw [HR.out]; exact ackPD_no (fun h' => by rw [tB_true h'] at t0; cases t0)
    obtain ⟨r0, f0⟩ := at_block Q1 0 _ rfl
    obtain ⟨r1, f1⟩ := at_block Q1 1 _ rfl
    obtain ⟨r2, f2⟩ := at_block Q1 2 _ rfl
    obtain ⟨r3, f3⟩ := at_block Q1 3 _ rfl
    obtain ⟨r4, f4⟩ := at_block Q1 4 _ rfl
    obtain ⟨r5, f5⟩ := at_block Q1 5 _ rfl
    clear t0
    go_wp2
    refine bodyPost_ret (v := .tuple #[.agg #[.slice none 0 0, .int .i64 0, .int .i64 0, .int .i64 0, .int .i64 0, .int .i64 0], .bool false]) (by simp [results, Try.results26, go_sem, *]) rfl ?_
    rw [HK.out]
    exact ⟨_, rfl, OwI.nil _ _, pro_below (ext_bel X1) (Nat.le_succ _) _ _ _ _ _ _⟩
  have HPP : Hid (ProP P) := tB_iff.1 t0
  have HK : Hid (R = ackD P id) := by show _ = _; rw [HR.out]; exact ackPD_yes HPP.out
  clear t0
  go_wp2_with fail
  refine (copyPV _ P w1 (HT.out.ext X1) HN.out).mono ?_
  rintro e w2 ⟨tv2, rfl, o2, b2⟩
  obtain ⟨a2, c2, hv2⟩ := o2.shape
  rw [← HNN.out] at hv2
  subst hv2
  have X2 : Ext w w2 := X1.tr (ext_below b2)
  have Q2 := ext_blk (ext_below b2) Q1
  have s2 := b2.size
  have sQ := (Array.getElem?_eq_some_iff.1 Q1).1
  have HO2 : Hid (OwI w2 w1.heap.size (.slice a2 n c2) P.order) := o2
  have s1 := X1.size
  have QA := ext_blk (ext_below b2) Q0
  clear p0 p1 p2 p3 p4 p5 Q0 Q1 b2 o2
  obtain ⟨os, nx, sd, st, wh, wt⟩ := P
  simp only at HO2 HNN QA ⊢
  go_upto_region 4 with fail
  generalize hU : w2.alloc _ = U
  have XU : Ext w2 U := by rw [← hU]; exact hE _ _
  have PU : ProB w2.heap.size w1.heap.size ⟨os, nx, sd, st, wh, wt⟩ (.slice a2 n c2) U := by rw [← hU]; exact ⟨heap_alloc_new w2 _, HO2.out.ext (hE _ _)⟩
  have QU := ext_blk XU QA
  have Q3 := ext_blk XU Q2
  clear hU QA Q2
  have q3 := (at_block QU 3 _ rfl).1
  have q4 := (at_block QU 4 _ rfl).1
  clear QU
  obtain ⟨r0, f0⟩ := at_block Q3 0 _ rfl
  obtain ⟨r1, f1⟩ := at_block Q3 1 _ rfl
  obtain ⟨r2, f2⟩ := at_block Q3 2 _ rfl
  obtain ⟨r3, f3⟩ := at_block Q3 3 _ rfl
  obtain ⟨r4, f4⟩ := at_block Q3 4 _ rfl
  obtain ⟨r5, f5⟩ := at_block Q3 5 _ rfl
  have NB : (Value.slice a2 n c2).ownBlock = none ∨ (Value.slice a2 n c2).ownBlock ≠ some (w.heap.size + 1) := by
    cases hv : (Value.slice a2 n c2).ownBlock with
    | none => exact .inl rfl
    | some k => exact .inr (by have := (PU.2.lt k hv).1; simp; omega)
  have HBU : Hid (Below w.heap.size w U) := ext_bel (X2.tr XU)
  have HOU : Hid (OwI U w1.heap.size (.slice a2 n c2) os) := PU.2
  by_cases hno : st = 0 ∨ wh ≠ id
  · have HKN : Hid (R = (⟨os, nx, sd, st, wh, wt⟩, false)) := by show _ = _; rw [HK.out]; exact if_pos hno
    obtain ⟨p0, p1, p2, p3, p4, p5⟩ := cells6 PU.1
    clear PU XU Q3 X2 X1
    by_cases e1 : st = 0
    · have e1' : (st == 0) = true := by simpa using e1
      clear hno e1
      go_wp2
      refine bodyPost_ret (v := .tuple #[.agg #[.slice a2 n c2, .int .i64 nx, .int .i64 sd, .int .i64 st, .int .i64 wh, .int .i64 wt], .bool false]) (by simp [results, Try.results26, go_sem, *]) rfl ?_
      rw [HKN.out]
      exact ⟨_, rfl, (pro_own HOU.out NB _ _ _ _ _ _).base s1, pro_below HBU.out (Nat.le_succ _) _ _ _ _ _ _⟩
    · have e1' : (st == 0) = false := by simpa using e1
      have e2' : (wh != id) = true := by
        rcases hno with h | h
        · exact absurd h e1
        · simpa using h
      clear hno e1
      go_wp2
      refine bodyPost_ret (v := .tuple #[.agg #[.slice a2 n c2, .int .i64 nx, .int .i64 sd, .int .i64 st, .int .i64 wh, .int .i64 wt], .bool false]) (by simp [results, Try.results26, go_sem, *]) rfl ?_
      rw [HKN.out]
      exact ⟨_, rfl, (pro_own HOU.out NB _ _ _ _ _ _).base s1, pro_below HBU.out (Nat.le_succ _) _ _ _ _ _ _⟩
  · have HKN : Hid (R = (⟨os, nx, sd, 0, 0, 0⟩, true)) := by show _ = _; rw [HK.out]; exact if_neg hno
    have e1' : (st == 0) = false := by simpa using (fun h => hno (.inl h))
    have e2' : (wh != id) = false := by
      by_cases h : wh = id
      · simp [h]
      · exact absurd (.inr h) hno
    clear hno r0 r1 r2 r3 r4 r5 f0 f1 f2 f3 f4 f5
    go_upto_region 6 with fail
    go_wp2_with fail
    refine (restV w2.heap.size w1.heap.size ⟨os, nx, sd, st, wh, wt⟩ _ U PU).mono ?_
    rintro e w3 ⟨rfl, PB3, g3⟩
    have Q4 : w3.heap[w.heap.size + 1]? = some (.cells #[.slice none 0 0, .int .i64 0, .int .i64 0, .int .i64 0, .int .i64 0, .int .i64 0] 35 (0, 0)) := (g3.block _ (Array.getElem?_eq_some_iff.1 Q3).1 (by simp; omega)).trans Q3
    have HB3 : Hid (Below w.heap.size w w3) := HBU.out.grown g3 HBU.out.size (fun k hk => by cases hk; exact X2.size)
    have HO3 : Hid (OwI w3 w1.heap.size (.slice a2 n c2) os) := PB3.2
    obtain ⟨p0, p1, p2, p3, p4, p5⟩ := cells6 PB3.1
    obtain ⟨r0, f0⟩ := at_block Q4 0 _ rfl
    obtain ⟨r1, f1⟩ := at_block Q4 1 _ rfl
    obtain ⟨r2, f2⟩ := at_block Q4 2 _ rfl
    obtain ⟨r3, f3⟩ := at_block Q4 3 _ rfl
    obtain ⟨r4, f4⟩ := at_block Q4 4 _ rfl
    obtain ⟨r5, f5⟩ := at_block Q4 5 _ rfl
    clear PU XU Q3 Q4 X2 X1 PB3 g3 q3 q4
    go_wp2
    refine bodyPost_ret (v := .tuple #[.agg #[.slice a2 n c2, .int .i64 nx, .int .i64 sd, .int .i64 0, .int .i64 0, .int .i64 0], .bool true]) (by simp [results, Try.results26, go_sem, *]) rfl ?_
    rw [HKN.out]
    exact ⟨_, rfl, (pro_own HO3.out NB _ _ _ _ _ _).base s1, pro_below HB3.out (Nat.le_succ _) _ _ _ _ _ _⟩

end Go.Proofs.Ytbgjfccdgalapaa
