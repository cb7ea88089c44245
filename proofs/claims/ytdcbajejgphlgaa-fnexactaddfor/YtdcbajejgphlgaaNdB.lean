/- Servers: sized, copied. -/
import Derived.Test.YtdcbajejgphlgaaNdB0
import Derived.Test.YtdcbajejgphlgaaNdA
namespace Go.Proofs.Ytdcbajejgphlgaa
open Go.RowKit

set_option maxHeartbeats 2000000 in
theorem szN (v : Value) (M : DNode) (l : Int) (w : World) (h : VNode w v M) (hl0 : 0 ≤ l) (hl : l ≤ 1048576) :
    Calls Try.prog 4 #[v, .int .i64 l] w (SzPost l (zN M) w) := by
  obtain ⟨lv, bv, nv, mv, rfl, hi, hb, hn, hm⟩ := h
  have hE : ∀ w : World, ∀ o, Ext w (w.alloc o) := fun w o => World.grownBy_alloc _ _ _
  have hB : ∀ w : World, ∀ o, Below w.heap.size w (w.alloc o) := fun w o => (Below.refl _ w).alloc (Nat.le_refl _) _
  have HZ : Hid (zN M = (M.log.length + sI M.log) + M.votes.length + M.next.length + M.mat.length) := rfl
  obtain ⟨s1, hs1⟩ : ∃ s, s = M.log.length + sI M.log := ⟨_, rfl⟩
  obtain ⟨s2, hs2⟩ : ∃ s, s = M.votes.length := ⟨_, rfl⟩
  obtain ⟨s3, hs3⟩ : ∃ s, s = M.next.length := ⟨_, rfl⟩
  obtain ⟨s4, hs4⟩ : ∃ s, s = M.mat.length := ⟨_, rfl⟩
  have HS1 : Hid (s1 = M.log.length + sI M.log) := hs1
  have HS2 : Hid (s2 = M.votes.length) := hs2
  have HS3 : Hid (s3 = M.next.length) := hs3
  have HS4 : Hid (s4 = M.mat.length) := hs4
  have HZ2 : Hid (zN M = s1 + s2 + s3 + s4) := by rw [hs1, hs2, hs3, hs4]; exact HZ.out
  clear hs1 hs2 hs3 hs4
  go_enter Try.func4, Try.ntmps4
  go_wp2_with fail
  have hbx := heap_alloc_new w (.cells #[.int .i64 M.id, .int .i64 M.term, .int .i64 M.vote, lv, .int .i64 M.commit, .int .i64 M.role, .int .i64 M.lead, .int .i64 M.wait, bv, nv, mv] 26 (0, 0))
  refine (szS_I _ M.log l _ (hi.ext (hE _ _)) hl0 hl).mono ?_
  rintro e w1 ⟨r1, rfl, hr, b1⟩
  have B1 := (hB w _).trans (b1.mono (by simp))
  have p1 := below_blk b1 (by simp) hbx
  obtain ⟨p8, y8⟩ := at_block p1 8 _ rfl
  rw [← HS1.out] at hr
  clear b1
  rcases hr with ⟨h1, rfl⟩ | ⟨h1, h2⟩
  · go_wp2
    go_ret
    exact ⟨-1, rfl, .inl ⟨by have := HZ2.out; omega, rfl⟩, B1⟩
  have hr0 : 0 ≤ r1 := by omega
  have hr1 : r1 ≤ 1048576 := by omega
  have R1 : Hid (r1 = l - s1) := h2
  clear h1 h2
  go_wp2_with fail
  refine (szL_B _ M.votes r1 _ (hb.ext (ext_below B1)) hr0 hr1).mono ?_
  rintro e w2 ⟨r2, rfl, hr, b2⟩
  have B2 := B1.trans (b2.mono B1.size)
  have p2 := below_blk b2 (by have := B1.size; exact (Array.getElem?_eq_some_iff.1 p1).1) p1
  obtain ⟨p9, y9⟩ := at_block p2 9 _ rfl
  rw [← HS2.out] at hr
  clear b2 p8 y8 p1 B1
  rcases hr with ⟨h1, rfl⟩ | ⟨h1, h2⟩
  · go_wp2
    go_ret
    exact ⟨-1, rfl, .inl ⟨by have := HZ2.out; have := R1.out; omega, rfl⟩, B2⟩
  have hr20 : 0 ≤ r2 := by omega
  have hr21 : r2 ≤ 1048576 := by omega
  have R2 : Hid (r2 = l - s1 - s2) := by have := R1.out; show r2 = _; omega
  clear h1 h2 hr0 hr1
  go_wp2_with fail
  refine (szL_I _ M.next r2 _ (hn.ext (ext_below B2)) hr20 hr21).mono ?_
  rintro e w3 ⟨r3, rfl, hr, b3⟩
  have B3 := B2.trans (b3.mono B2.size)
  have p3 := below_blk b3 (by have := B2.size; exact (Array.getElem?_eq_some_iff.1 p2).1) p2
  obtain ⟨p10, y10⟩ := at_block p3 10 _ rfl
  rw [← HS3.out] at hr
  clear b3 p9 y9 p2 B2
  rcases hr with ⟨h1, rfl⟩ | ⟨h1, h2⟩
  · go_wp2
    go_ret
    exact ⟨-1, rfl, .inl ⟨by have := HZ2.out; have := R2.out; omega, rfl⟩, B3⟩
  have hr30 : 0 ≤ r3 := by omega
  have hr31 : r3 ≤ 1048576 := by omega
  have R3 : Hid (r3 = l - s1 - s2 - s3) := by have := R2.out; show r3 = _; omega
  clear h1 h2 hr20 hr21
  go_wp2_with fail
  refine (szL_I _ M.mat r3 _ (hm.ext (ext_below B3)) hr30 hr31).mono ?_
  rintro e w4 ⟨r4, rfl, hr, b4⟩
  have B4 := B3.trans (b4.mono B3.size)
  rw [← HS4.out] at hr
  clear b4 p10 y10 p3 B3
  rcases hr with ⟨h1, rfl⟩ | ⟨h1, h2⟩
  · go_wp2
    go_ret
    exact ⟨-1, rfl, .inl ⟨by have := HZ2.out; have := R3.out; omega, rfl⟩, B4⟩
  have hr40 : 0 ≤ r4 := by omega
  have R4 : Hid ((0 : Int) ≤ l - (zN M : Nat) ∧ r4 = l - (zN M : Nat)) := by have := HZ2.out; have := R3.out; constructor <;> omega
  clear h1 h2 hr30 hr31
  go_wp2
  go_ret
  exact ⟨r4, rfl, .inr R4.out, B4⟩

set_option maxHeartbeats 4000000 in
theorem toN (v : Value) (M : DNode) (w : World) (h : VNode w v M) (hl : LenN M 1048576) :
    Calls Try.prog 6 #[v] w fun e w' => ∃ v', e = .returned v' ∧ VNode w' v' M ∧ Below w.heap.size w w' := by
  obtain ⟨lv, bv, nv, mv, rfl, hi, hb, hn, hm⟩ := h
  have hE : ∀ w : World, ∀ o, Ext w (w.alloc o) := fun w o => World.grownBy_alloc _ _ _
  have hrng : Hid (∀ (i : Nat) (s : DItem), M.log[i]? = some s → (∀ x ∈ s.cmd.op.key, 0 ≤ x ∧ x ≤ 255) ∧ (∀ x ∈ s.cmd.op.val, 0 ≤ x ∧ x ≤ 255)) := by
    obtain ⟨C, _, hC⟩ := hi
    intro i s hs
    obtain ⟨_, _, _, _, r4, r5, _⟩ := hC i s hs
    exact ⟨rv_rng r4, rv_rng r5⟩
  go_enter Try.func6, Try.ntmps6
  go_wp2_with fail
  refine (toS_I _ M.log _ (hi.ext (((hE _ _).tr (hE _ _)).tr (hE _ _))) hl.1 hl.2.1).mono ?_
  rintro e w1 ⟨F, rfl, hF, hO, b1⟩
  have hs1 : w.heap.size + 3 ≤ w1.heap.size := by have := b1.size; simp at this; omega
  have PA := below_blk b1 (by simp; omega) (h3_0 w _ _ _)
  have RA := below_blk b1 (by simp) (h3_1 w _ _ _)
  have TA := below_blk b1 (by simp) (h3_2 w _ _ _)
  have BA : Below w.heap.size w w1 := ((((Below.refl _ w).alloc (Nat.le_refl _) _).alloc (by simp) _).alloc (by simp; omega) _).trans (b1.mono (by simp; omega))
  have oI : OI w1 (w.heap.size + 1 + 1 + 1) M.log := by
    have e3 : (((w.alloc (.cells #[.int .i64 M.id, .int .i64 M.term, .int .i64 M.vote, lv, .int .i64 M.commit, .int .i64 M.role, .int .i64 M.lead, .int .i64 M.wait, bv, nv, mv] 26 (0, 0))).alloc (.cells #[.int .i64 0, .int .i64 0, .int .i64 0, .slice none 0 0, .int .i64 0, .int .i64 0, .int .i64 0, .int .i64 0, .slice none 0 0, .slice none 0 0, .slice none 0 0] 34 (0, 0))).alloc (.cells #[.int .i64 M.id, .int .i64 M.term, .int .i64 M.vote, .slice none 0 0, .int .i64 0, .int .i64 0, .int .i64 0, .int .i64 0, .slice none 0 0, .slice none 0 0, .slice none 0 0] 34 (0, 0))).heap.size = w.heap.size + 1 + 1 + 1 := by simp
    rw [e3] at hF hO
    exact ⟨F, hF, hO⟩
  clear b1 hF hO
  obtain ⟨q3, h3⟩ := at_block TA 3 _ rfl
  obtain ⟨q4, h4⟩ := at_block TA 4 _ rfl
  obtain ⟨q5, h5⟩ := at_block TA 5 _ rfl
  obtain ⟨q6, h6⟩ := at_block TA 6 _ rfl
  obtain ⟨q7, h7⟩ := at_block TA 7 _ rfl
  have pp4 := (at_block PA 4 _ rfl).1
  have pp5 := (at_block PA 5 _ rfl).1
  have pp6 := (at_block PA 6 _ rfl).1
  have pp7 := (at_block PA 7 _ rfl).1
  have pp8 := (at_block PA 8 _ rfl).1
  go_wp2_with fail
  have TB0 : (((((w1.setCell ⟨w.heap.size + 1 + 1, 3, none⟩ (.slice (some ⟨w.heap.size + 1 + 1 + 1, 0, none⟩) M.log.length M.log.length)).setCell ⟨w.heap.size + 1 + 1, 4, none⟩ (.int .i64 M.commit)).setCell ⟨w.heap.size + 1 + 1, 5, none⟩ (.int .i64 M.role)).setCell ⟨w.heap.size + 1 + 1, 6, none⟩ (.int .i64 M.lead)).setCell ⟨w.heap.size + 1 + 1, 7, none⟩ (.int .i64 M.wait)).heap[w.heap.size + 1 + 1]? = some (.cells #[.int .i64 M.id, .int .i64 M.term, .int .i64 M.vote, .slice (some ⟨w.heap.size + 1 + 1 + 1, 0, none⟩) M.log.length M.log.length, .int .i64 M.commit, .int .i64 M.role, .int .i64 M.lead, .int .i64 M.wait, .slice none 0 0, .slice none 0 0, .slice none 0 0] 34 (0, 0)) := (set_block (set_block (set_block (set_block (set_block TA 3 (.slice (some ⟨w.heap.size + 1 + 1 + 1, 0, none⟩) M.log.length M.log.length)) 4 (.int .i64 M.commit)) 5 (.int .i64 M.role)) 6 (.int .i64 M.lead)) 7 (.int .i64 M.wait))
  have PB0 := (set_other (w.heap.size + 1 + 1) 7 (.int .i64 M.wait) (by omega) (set_other (w.heap.size + 1 + 1) 6 (.int .i64 M.lead) (by omega) (set_other (w.heap.size + 1 + 1) 5 (.int .i64 M.role) (by omega) (set_other (w.heap.size + 1 + 1) 4 (.int .i64 M.commit) (by omega) (set_other (w.heap.size + 1 + 1) 3 (.slice (some ⟨w.heap.size + 1 + 1 + 1, 0, none⟩) M.log.length M.log.length) (by omega) PA)))))
  have RB0 := (set_other (w.heap.size + 1 + 1) 7 (.int .i64 M.wait) (by omega) (set_other (w.heap.size + 1 + 1) 6 (.int .i64 M.lead) (by omega) (set_other (w.heap.size + 1 + 1) 5 (.int .i64 M.role) (by omega) (set_other (w.heap.size + 1 + 1) 4 (.int .i64 M.commit) (by omega) (set_other (w.heap.size + 1 + 1) 3 (.slice (some ⟨w.heap.size + 1 + 1 + 1, 0, none⟩) M.log.length M.log.length) (by omega) RA)))))
  have BB0 : Below w.heap.size w (((((w1.setCell ⟨w.heap.size + 1 + 1, 3, none⟩ (.slice (some ⟨w.heap.size + 1 + 1 + 1, 0, none⟩) M.log.length M.log.length)).setCell ⟨w.heap.size + 1 + 1, 4, none⟩ (.int .i64 M.commit)).setCell ⟨w.heap.size + 1 + 1, 5, none⟩ (.int .i64 M.role)).setCell ⟨w.heap.size + 1 + 1, 6, none⟩ (.int .i64 M.lead)).setCell ⟨w.heap.size + 1 + 1, 7, none⟩ (.int .i64 M.wait)) := (((((BA.setCell (by simp; omega) _).setCell (by simp; omega) _).setCell (by simp; omega) _).setCell (by simp; omega) _).setCell (by simp; omega) _)
  have zB : w.heap.size + 3 ≤ (((((w1.setCell ⟨w.heap.size + 1 + 1, 3, none⟩ (.slice (some ⟨w.heap.size + 1 + 1 + 1, 0, none⟩) M.log.length M.log.length)).setCell ⟨w.heap.size + 1 + 1, 4, none⟩ (.int .i64 M.commit)).setCell ⟨w.heap.size + 1 + 1, 5, none⟩ (.int .i64 M.role)).setCell ⟨w.heap.size + 1 + 1, 6, none⟩ (.int .i64 M.lead)).setCell ⟨w.heap.size + 1 + 1, 7, none⟩ (.int .i64 M.wait)).heap.size := by simp; omega
  have oI0 := (((((oI.set (x := w.heap.size + 1 + 1) (j := 3) (u := .slice (some ⟨w.heap.size + 1 + 1 + 1, 0, none⟩) M.log.length M.log.length) (by omega)).set (x := w.heap.size + 1 + 1) (j := 4) (u := .int .i64 M.commit) (by omega)).set (x := w.heap.size + 1 + 1) (j := 5) (u := .int .i64 M.role) (by omega)).set (x := w.heap.size + 1 + 1) (j := 6) (u := .int .i64 M.lead) (by omega)).set (x := w.heap.size + 1 + 1) (j := 7) (u := .int .i64 M.wait) (by omega))
  generalize (((((w1.setCell ⟨w.heap.size + 1 + 1, 3, none⟩ (.slice (some ⟨w.heap.size + 1 + 1 + 1, 0, none⟩) M.log.length M.log.length)).setCell ⟨w.heap.size + 1 + 1, 4, none⟩ (.int .i64 M.commit)).setCell ⟨w.heap.size + 1 + 1, 5, none⟩ (.int .i64 M.role)).setCell ⟨w.heap.size + 1 + 1, 6, none⟩ (.int .i64 M.lead)).setCell ⟨w.heap.size + 1 + 1, 7, none⟩ (.int .i64 M.wait)) = WB at TB0 PB0 RB0 BB0 zB oI0 ⊢
  clear q3 h3 q4 h4 q5 h5 q6 h6 q7 h7 pp4 pp5 pp6 pp7 pp8 PA RA TA BA oI
  refine (toL_B _ M.votes WB (hb.ext (ext_below BB0)) hl.2.2.1).mono ?_
  rintro e w2 ⟨rfl, oB, bB⟩
  have PB := below_blk bB (by omega) PB0
  have RB := below_blk bB (by omega) RB0
  have TB := below_blk bB (by omega) TB0
  have BB := BB0.trans (bB.mono BB0.size)
  have yB := bB.size
  have oI := oI0.ext (ext_below bB)
  generalize WB.heap.size = gB at zB yB oB ⊢
  clear bB PB0 RB0 TB0 BB0 oI0
  obtain ⟨q8, h8⟩ := at_block TB 8 _ rfl
  have pp9 := (at_block PB 9 _ rfl).1
  go_wp2_with fail
  have TC0 : (w2.setCell ⟨w.heap.size + 1 + 1, 8, none⟩ (.slice (some ⟨gB, 0, none⟩) M.votes.length M.votes.length)).heap[w.heap.size + 1 + 1]? = some (.cells #[.int .i64 M.id, .int .i64 M.term, .int .i64 M.vote, .slice (some ⟨w.heap.size + 1 + 1 + 1, 0, none⟩) M.log.length M.log.length, .int .i64 M.commit, .int .i64 M.role, .int .i64 M.lead, .int .i64 M.wait, .slice (some ⟨gB, 0, none⟩) M.votes.length M.votes.length, .slice none 0 0, .slice none 0 0] 34 (0, 0)) := (set_block TB 8 (.slice (some ⟨gB, 0, none⟩) M.votes.length M.votes.length))
  have PC0 := (set_other (w.heap.size + 1 + 1) 8 (.slice (some ⟨gB, 0, none⟩) M.votes.length M.votes.length) (by omega) PB)
  have RC0 := (set_other (w.heap.size + 1 + 1) 8 (.slice (some ⟨gB, 0, none⟩) M.votes.length M.votes.length) (by omega) RB)
  have BC0 : Below w.heap.size w (w2.setCell ⟨w.heap.size + 1 + 1, 8, none⟩ (.slice (some ⟨gB, 0, none⟩) M.votes.length M.votes.length)) := (BB.setCell (by simp; omega) _)
  have zC : w.heap.size + 3 ≤ (w2.setCell ⟨w.heap.size + 1 + 1, 8, none⟩ (.slice (some ⟨gB, 0, none⟩) M.votes.length M.votes.length)).heap.size := by simp; omega
  have oI0 := (oI.set (x := w.heap.size + 1 + 1) (j := 8) (u := .slice (some ⟨gB, 0, none⟩) M.votes.length M.votes.length) (by omega))
  have oB0 := (oB.set (x := w.heap.size + 1 + 1) (j := 8) (u := .slice (some ⟨gB, 0, none⟩) M.votes.length M.votes.length) (by omega))
  generalize (w2.setCell ⟨w.heap.size + 1 + 1, 8, none⟩ (.slice (some ⟨gB, 0, none⟩) M.votes.length M.votes.length)) = WC at TC0 PC0 RC0 BC0 zC oI0 oB0 ⊢
  clear q8 h8 pp9 PB RB TB BB oI oB
  refine (toL_I _ M.next WC (hn.ext (ext_below BC0)) hl.2.2.2.1).mono ?_
  rintro e w3 ⟨rfl, oC, bC⟩
  have PC := below_blk bC (by omega) PC0
  have RC := below_blk bC (by omega) RC0
  have TC := below_blk bC (by omega) TC0
  have BC := BC0.trans (bC.mono BC0.size)
  have yC := bC.size
  have oI := oI0.ext (ext_below bC)
  have oB := oB0.ext (ext_below bC)
  generalize WC.heap.size = gC at zC yC oC ⊢
  clear bC PC0 RC0 TC0 BC0 oI0 oB0
  obtain ⟨q9, h9⟩ := at_block TC 9 _ rfl
  have pp10 := (at_block PC 10 _ rfl).1
  go_wp2_with fail
  have TD0 : (w3.setCell ⟨w.heap.size + 1 + 1, 9, none⟩ (.slice (some ⟨gC, 0, none⟩) M.next.length M.next.length)).heap[w.heap.size + 1 + 1]? = some (.cells #[.int .i64 M.id, .int .i64 M.term, .int .i64 M.vote, .slice (some ⟨w.heap.size + 1 + 1 + 1, 0, none⟩) M.log.length M.log.length, .int .i64 M.commit, .int .i64 M.role, .int .i64 M.lead, .int .i64 M.wait, .slice (some ⟨gB, 0, none⟩) M.votes.length M.votes.length, .slice (some ⟨gC, 0, none⟩) M.next.length M.next.length, .slice none 0 0] 34 (0, 0)) := (set_block TC 9 (.slice (some ⟨gC, 0, none⟩) M.next.length M.next.length))
  have PD0 := (set_other (w.heap.size + 1 + 1) 9 (.slice (some ⟨gC, 0, none⟩) M.next.length M.next.length) (by omega) PC)
  have RD0 := (set_other (w.heap.size + 1 + 1) 9 (.slice (some ⟨gC, 0, none⟩) M.next.length M.next.length) (by omega) RC)
  have BD0 : Below w.heap.size w (w3.setCell ⟨w.heap.size + 1 + 1, 9, none⟩ (.slice (some ⟨gC, 0, none⟩) M.next.length M.next.length)) := (BC.setCell (by simp; omega) _)
  have zD : w.heap.size + 3 ≤ (w3.setCell ⟨w.heap.size + 1 + 1, 9, none⟩ (.slice (some ⟨gC, 0, none⟩) M.next.length M.next.length)).heap.size := by simp; omega
  have oI0 := (oI.set (x := w.heap.size + 1 + 1) (j := 9) (u := .slice (some ⟨gC, 0, none⟩) M.next.length M.next.length) (by omega))
  have oB0 := (oB.set (x := w.heap.size + 1 + 1) (j := 9) (u := .slice (some ⟨gC, 0, none⟩) M.next.length M.next.length) (by omega))
  have oC0 := (oC.set (x := w.heap.size + 1 + 1) (j := 9) (u := .slice (some ⟨gC, 0, none⟩) M.next.length M.next.length) (by omega))
  generalize (w3.setCell ⟨w.heap.size + 1 + 1, 9, none⟩ (.slice (some ⟨gC, 0, none⟩) M.next.length M.next.length)) = WD at TD0 PD0 RD0 BD0 zD oI0 oB0 oC0 ⊢
  clear q9 h9 pp10 PC RC TC BC oI oB oC
  refine (toL_I _ M.mat WD (hm.ext (ext_below BD0)) hl.2.2.2.2).mono ?_
  rintro e w4 ⟨rfl, oD, bD⟩
  have PD := below_blk bD (by omega) PD0
  have RD := below_blk bD (by omega) RD0
  have TD := below_blk bD (by omega) TD0
  have BD := BD0.trans (bD.mono BD0.size)
  have yD := bD.size
  have oI := oI0.ext (ext_below bD)
  have oB := oB0.ext (ext_below bD)
  have oC := oC0.ext (ext_below bD)
  generalize WD.heap.size = gD at zD yD oD ⊢
  clear bD PD0 RD0 TD0 BD0 oI0 oB0 oC0
  obtain ⟨q0, h0⟩ := at_block TD 0 _ rfl
  obtain ⟨q1, h1⟩ := at_block TD 1 _ rfl
  obtain ⟨q2, h2⟩ := at_block TD 2 _ rfl
  obtain ⟨q3, h3⟩ := at_block TD 3 _ rfl
  obtain ⟨q4, h4⟩ := at_block TD 4 _ rfl
  obtain ⟨q5, h5⟩ := at_block TD 5 _ rfl
  obtain ⟨q6, h6⟩ := at_block TD 6 _ rfl
  obtain ⟨q7, h7⟩ := at_block TD 7 _ rfl
  obtain ⟨q8, h8⟩ := at_block TD 8 _ rfl
  obtain ⟨q9, h9⟩ := at_block TD 9 _ rfl
  obtain ⟨q10, h10⟩ := at_block TD 10 _ rfl
  obtain ⟨r0, y0⟩ := at_block RD 0 _ rfl
  obtain ⟨r1, y1⟩ := at_block RD 1 _ rfl
  obtain ⟨r2, y2⟩ := at_block RD 2 _ rfl
  obtain ⟨r3, y3⟩ := at_block RD 3 _ rfl
  obtain ⟨r4, y4⟩ := at_block RD 4 _ rfl
  obtain ⟨r5, y5⟩ := at_block RD 5 _ rfl
  obtain ⟨r6, y6⟩ := at_block RD 6 _ rfl
  obtain ⟨r7, y7⟩ := at_block RD 7 _ rfl
  obtain ⟨r8, y8⟩ := at_block RD 8 _ rfl
  obtain ⟨r9, y9⟩ := at_block RD 9 _ rfl
  obtain ⟨r10, y10⟩ := at_block RD 10 _ rfl
  go_wp2
  refine bodyPost_ret (v := .agg #[.int .i64 M.id, .int .i64 M.term, .int .i64 M.vote, .slice (some ⟨w.heap.size + 1 + 1 + 1, 0, none⟩) M.log.length M.log.length, .int .i64 M.commit, .int .i64 M.role, .int .i64 M.lead, .int .i64 M.wait, .slice (some ⟨gB, 0, none⟩) M.votes.length M.votes.length, .slice (some ⟨gC, 0, none⟩) M.next.length M.next.length, .slice (some ⟨gD, 0, none⟩) M.mat.length M.mat.length]) (by simp [results, Try.results6, go_sem, r0, r1, r2, r3, r4, r5, r6, r7, r8, r9, r10]) rfl ?_
  refine ⟨_, rfl, ⟨_, _, _, _, rfl, OI.v ?_ hl.1 hrng.out, OVL.v (t := 4) ?_ hl.2.2.1, OVL.v (t := 3) ?_ hl.2.2.2.1, OVL.v (t := 3) ?_ hl.2.2.2.2⟩, ?_⟩
  · repeat (refine OI.set ?_ (by omega))
    exact oI
  · repeat (refine OVL.set ?_ (by omega))
    exact oB
  · repeat (refine OVL.set ?_ (by omega))
    exact oC
  · repeat (refine OVL.set ?_ (by omega))
    exact oD
  · repeat (refine below_set ?_ (by omega))
    exact BD

end Go.Proofs.Ytdcbajejgphlgaa
