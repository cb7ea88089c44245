/- The specification's ProbeAck. -/
import Derived.Test.YtbgjfccdgalapaaPr4
namespace Go.Proofs.Ytbgjfccdgalapaa
open Go.RowKit

set_option maxRecDepth 20000 in
set_option maxHeartbeats 2000000 in
theorem sProbeAckV (v : Value) (P : DPro) (id : Int) (w : World) (h : VPro w v P) (hn : P.order.length ≤ 1048576) :
    Calls Try.prog 25 #[v, .int .i64 id] w fun e w' => ∃ tv, e = .returned (.tuple #[.agg #[tv, .int .i64 (ackPD P id).1.next, .int .i64 (ackPD P id).1.seed, .int .i64 (ackPD P id).1.state, .int .i64 (ackPD P id).1.who, .int .i64 (ackPD P id).1.wait], .bool (ackPD P id).2]) ∧ OwI w' w.heap.size tv (ackPD P id).1.order ∧ Below w.heap.size w w' := by
  have hE : ∀ w : World, ∀ o, Ext w (w.alloc o) := fun w o => World.grownBy_alloc _ _ _
  have HT : Hid (VPro w v P) := h
  have HN : Hid (P.order.length ≤ 1048576) := hn
  obtain ⟨ov, rfl, ho⟩ := h
  obtain ⟨a, cap, rfl⟩ := vl_shape ho
  obtain ⟨R, hR⟩ : ∃ R, R = ackPD P id := ⟨_, rfl⟩
  rw [← hR]
  have HR : Hid (R = ackPD P id) := hR
  obtain ⟨n, hnn⟩ : ∃ n, n = P.order.length := ⟨_, rfl⟩
  have HNN : Hid (n = P.order.length) := hnn
  rw [← hnn] at HT ⊢
  clear ho hR hnn hn
  go_enter Try.func25, Try.ntmps25
  go_wp2_with fail
  generalize hW : World.alloc (World.alloc w _) _ = W
  have XW : Ext w W := by rw [← hW]; exact (hE _ _).tr (hE _ _)
  have P0 : W.heap[w.heap.size]? = some (.cells #[.slice a n cap, .int .i64 P.next, .int .i64 P.seed, .int .i64 P.state, .int .i64 P.who, .int .i64 P.wait] 35 (0, 0)) := by rw [← hW, Below.heap_alloc _ _ _ (by simp)]; exact heap_alloc_new w _
  have P1 : W.heap[w.heap.size + 1]? = some (.cells #[.slice none 0 0, .int .i64 0, .int .i64 0, .int .i64 0, .int .i64 0, .int .i64 0] 35 (0, 0)) := by rw [← hW]; simpa using heap_alloc_new (World.alloc w _) (.cells #[.slice none 0 0, .int .i64 0, .int .i64 0, .int .i64 0, .int .i64 0, .int .i64 0] 35 (0, 0))
  clear hW
  refine (sProberOkV _ P W (HT.out.ext XW) HN.out).mono ?_
  rintro e w1 ⟨rfl, b1⟩
  have X1 : Ext w w1 := XW.tr (ext_below b1)
  have Q0 := ext_blk (ext_below b1) P0
  have Q1 := ext_blk (ext_below b1) P1
  clear P0 P1 b1 XW
  obtain ⟨p0, p1, p2, p3, p4, p5⟩ := cells6 Q0
  cases t0 : tB (ProP P)
  · have HK : Hid (R = (zeroPro, false)) := by show _ = _; rw [HR.out]; exact ackPD_no (fun h' => by rw [tB_true h'] at t0; cases t0)
    obtain ⟨r0, f0⟩ := at_block Q1 0 _ rfl
    obtain ⟨r1, f1⟩ := at_block Q1 1 _ rfl
    obtain ⟨r2, f2⟩ := at_block Q1 2 _ rfl
    obtain ⟨r3, f3⟩ := at_block Q1 3 _ rfl
    obtain ⟨r4, f4⟩ := at_block Q1 4 _ rfl
    obtain ⟨r5, f5⟩ := at_block Q1 5 _ rfl
    clear t0
    go_wp2
    refine bodyPost_ret (v := .tuple #[.agg #[.slice none 0 0, .int .i64 0, .int .i64 0, .int .i64 0, .int .i64 0, .int .i64 0], .bool false]) (by simp [results, Try.results25, go_sem, *]) rfl ?_
    rw [HK.out]
    exact ⟨_, rfl, OwI.nil _ _, pro_below (ext_bel X1) (Nat.le_succ _) _ _ _ _ _ _⟩
  have HPP : Hid (ProP P) := tB_iff.1 t0
  have HK : Hid (R = ackD P id) := by show _ = _; rw [HR.out]; exact ackPD_yes HPP.out
  clear t0
  go_wp2_with fail
  refine (sOwnPV _ P w1 (HT.out.ext X1) HN.out).mono ?_
  rintro e w2 ⟨tv2, rfl, o2, b2⟩
  obtain ⟨a2, c2, hv2⟩ := o2.shape
  rw [← HNN.out] at hv2
  subst hv2
  have X2 : Ext w w2 := X1.tr (ext_below b2)
  have Q2 := ext_blk (ext_below b2) Q1
  have s2 := b2.size
  have sQ := (Array.getElem?_eq_some_iff.1 Q1).1
  have HO2 : Hid (OwI w2 w1.heap.size (.slice a2 n c2) P.order) := o2
  have s1 := X1.size
  clear p0 p1 p2 p3 p4 p5 Q0 Q1 b2 o2
  go_wp2_with fail
  generalize hU : w2.alloc _ = U
  have XU : Ext w2 U := by rw [← hU]; exact hE _ _
  have PU : ProB w2.heap.size w1.heap.size P (.slice a2 n c2) U := by rw [← hU]; exact ⟨heap_alloc_new w2 _, HO2.out.ext (hE _ _)⟩
  clear hU
  refine (sAck w2.heap.size w1.heap.size P _ id U PU).mono ?_
  rintro e w3 ⟨rfl, PB3, g3⟩
  rw [← HK.out] at PB3 ⊢
  have Q3 : w3.heap[w.heap.size + 1]? = some (.cells #[.slice none 0 0, .int .i64 0, .int .i64 0, .int .i64 0, .int .i64 0, .int .i64 0] 35 (0, 0)) := (g3.block _ (Nat.lt_of_lt_of_le (Array.getElem?_eq_some_iff.1 Q2).1 XU.size) (by simp; omega)).trans (ext_blk XU Q2)
  have HB3 : Hid (Below w.heap.size w w3) := (ext_bel (X2.tr XU)).grown g3 (Nat.le_trans X2.size XU.size) (fun k hk => by cases hk; exact Nat.le_trans s1 s2)
  have HO3 : Hid (OwI w3 w1.heap.size (.slice a2 n c2) R.1.order) := PB3.2
  have NB : (Value.slice a2 n c2).ownBlock = none ∨ (Value.slice a2 n c2).ownBlock ≠ some (w.heap.size + 1) := by
    cases hv : (Value.slice a2 n c2).ownBlock with
    | none => exact .inl rfl
    | some k => exact .inr (by have := (PB3.2.lt k hv).1; simp; omega)
  obtain ⟨p0, p1, p2, p3, p4, p5⟩ := cells6 PB3.1
  obtain ⟨r0, f0⟩ := at_block Q3 0 _ rfl
  obtain ⟨r1, f1⟩ := at_block Q3 1 _ rfl
  obtain ⟨r2, f2⟩ := at_block Q3 2 _ rfl
  obtain ⟨r3, f3⟩ := at_block Q3 3 _ rfl
  obtain ⟨r4, f4⟩ := at_block Q3 4 _ rfl
  obtain ⟨r5, f5⟩ := at_block Q3 5 _ rfl
  obtain ⟨⟨ro, rn, rs, rt, rw', ra⟩, rb⟩ := R
  simp only at p1 p2 p3 p4 p5 HO3 ⊢
  clear PB3 PU XU g3 Q2 Q3 X2 X1
  go_wp2
  refine bodyPost_ret (v := .tuple #[.agg #[.slice a2 n c2, .int .i64 rn, .int .i64 rs, .int .i64 rt, .int .i64 rw', .int .i64 ra], .bool rb]) (by simp [results, Try.results25, go_sem, *]) rfl ?_
  exact ⟨_, rfl, (pro_own HO3.out NB _ _ _ _ _ _).base s1, pro_below HB3.out (Nat.le_succ _) _ _ _ _ _ _⟩

end Go.Proofs.Ytbgjfccdgalapaa
