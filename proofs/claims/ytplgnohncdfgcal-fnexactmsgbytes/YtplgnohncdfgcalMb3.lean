/- Messages as bytes: the program's MsgBytes. -/
import Derived.Test.YtplgnohncdfgcalMb2
import Derived.Test.YtplgnohncdfgcalMsI
namespace Go.Proofs.Ytplgnohncdfgcal
open Go.RowKit

theorem drewN_alloc_size (W : World) (o : Obj) : ((W.alloc o).drewN 1).heap.size = W.heap.size + 1 := by show (W.alloc o).heap.size = _; simp
theorem drew_alloc_size (W : World) (o : Obj) : (W.alloc o).drew.heap.size = W.heap.size + 1 := by show (W.alloc o).heap.size = _; simp

set_option maxRecDepth 20000 in
set_option maxHeartbeats 4000000 in
theorem iBodyAdd (v iv : Value) (xs : List Int) (p pt c : Int) (ss : List DItem) (w : World) (h : RV w v xs) (hn : xs.length ≤ 900) (hvi : VItems w iv ss) (h4 : ss.length ≤ 4) (hw : ∀ (i : Nat) d, ss[i]? = some d → ItW d) :
    Calls Try.prog 76 #[v, .iface 165 (.agg #[.int .i64 p, .int .i64 pt, iv, .int .i64 c])] w (PutPost w (ss.foldl itL (numsL xs [p, pt, c, ss.length]))) := by
  have hE : ∀ w : World, ∀ o, Ext w (w.alloc o) := fun w o => World.grownBy_alloc _ _ _
  have hta := ta22
  have hta0 := ta20
  have hta1 := ta21
  have hvi0 := hvi
  obtain ⟨C, ⟨ia, ic, rfl, hl1, hl2, hcell⟩, hC⟩ := hvi
  unfold maxLen at hl2
  have HV : Hid (VItems w (.slice ia ss.length ic) ss) := hvi0
  have HW : Hid (∀ (i : Nat) d, ss[i]? = some d → ItW d) := hw
  clear hcell hC hw hvi0
  obtain ⟨n, hnn⟩ : ∃ n, n = ss.length := ⟨_, rfl⟩
  rw [← hnn] at h4 hl1 HV ⊢
  have HN : Hid (n = ss.length) := hnn
  clear hnn
  obtain ⟨x1, hx1⟩ : ∃ x, x = numsL xs [p, pt, c, (n : Int)] := ⟨_, rfl⟩
  have l1 : x1.length ≤ xs.length + 20 := by
    rw [hx1]
    have a1 := putL_le xs p
    have a2 := putL_le (xs ++ numL p) pt
    have a3 := putL_le (xs ++ numL p ++ numL pt) c
    have a4 := putL_le (xs ++ numL p ++ numL pt ++ numL c) (n : Int)
    show (xs ++ numL p ++ numL pt ++ numL c ++ numL (n : Int)).length ≤ _
    omega
  have H1 : Hid (numsL xs [p, pt, c, (n : Int)] = x1) := hx1.symm
  rw [← hx1]
  clear hx1
  go_enter Try.func76, Try.ntmps76
  go_wp2_with fail
  have P0 := heap_alloc_new w (.cells #[.int .i64 p, .int .i64 pt, .slice ia n ic, .int .i64 c] 165 (0, 0))
  have X0 := hE w (.cells #[.int .i64 p, .int .i64 pt, .slice ia n ic, .int .i64 c] 165 (0, 0))
  have B0 : Below w.heap.size w (w.alloc (.cells #[.int .i64 p, .int .i64 pt, .slice ia n ic, .int .i64 c] 165 (0, 0))) := (Below.refl _ w).alloc (Nat.le_refl _) _
  generalize w.alloc (.cells #[.int .i64 p, .int .i64 pt, .slice ia n ic, .int .i64 c] 165 (0, 0)) = W at P0 X0 B0 ⊢
  have hs0 : w.heap.size < W.heap.size := (Array.getElem?_eq_some_iff.1 P0).1
  obtain ⟨Q0, c0, c1, c2, c3⟩ := cells4 P0 (Below.refl _ W)
  have K : ∀ o, (W.alloc o).drew.heap[w.heap.size]? = some (.cells #[.int .i64 p, .int .i64 pt, .slice ia n ic, .int .i64 c] 165 (0, 0)) := fun o => (Below.heap_alloc W _ _ (by omega)).trans P0
  have k0 : ∀ o, (W.alloc o).drew.cell? ⟨w.heap.size, 0, none⟩ = some (.int .i64 p) := fun o => (at_block (K o) 0 _ rfl).1
  have k1 : ∀ o, (W.alloc o).drew.cell? ⟨w.heap.size, 1, none⟩ = some (.int .i64 pt) := fun o => (at_block (K o) 1 _ rfl).1
  have k2 : ∀ o, (W.alloc o).drew.cell? ⟨w.heap.size, 2, none⟩ = some (.slice ia n ic) := fun o => (at_block (K o) 2 _ rfl).1
  have k3 : ∀ o, (W.alloc o).drew.cell? ⟨w.heap.size, 3, none⟩ = some (.int .i64 c) := fun o => (at_block (K o) 3 _ rfl).1
  have HK : Hid (∀ o, (W.alloc o).drew.heap[w.heap.size]? = some (.cells #[.int .i64 p, .int .i64 pt, .slice ia n ic, .int .i64 c] 165 (0, 0))) := K
  clear K
  go_region_held3 (fun w' => w'.cell? ⟨w.heap.size, 0, none⟩ = some (.int .i64 p) ∧ w'.cell? ⟨w.heap.size, 1, none⟩ = some (.int .i64 pt) ∧ w'.cell? ⟨w.heap.size, 2, none⟩ = some (.slice ia n ic) ∧ w'.cell? ⟨w.heap.size, 3, none⟩ = some (.int .i64 c)) (simp [*])
    (first
      | (go_at_call 118; refine (iItems _ _ x1 ss _ r1 (HV.out.ext (((X0.tr (hE _ _)).tr (ext_drewN _ 1)).tr (ext_below b1))) (by omega) (by have := HN.out; omega) HW.out W.heap.size (ow_base o1 (by (first | rw [drew_alloc_size] | rw [drewN_alloc_size]); omega)) (by omega)).mono ?_; rintro e w2 ⟨v2, rfl, r2, o2, b2⟩; obtain ⟨Q2, c0', c1', c2', c3'⟩ := cells4 Q1 b2)
      | (go_at_call 75; refine (iPutN _ xs _ 4 [p, pt, c, (n : Int)] _ (((h.ext X0).ext (hE _ _)).ext (ext_drewN _ 1)) (by omega) rfl (by decide) (by decide) (nums_cells (W := (W.alloc _).drew) (new_at (w := W) _ rfl))).mono ?_; rw [H1.out]; rintro e w1 ⟨v1, rfl, r1, o1, b1⟩; have hsb1 := b1.size; (first | rw [drew_alloc_size] at hsb1 | rw [drewN_alloc_size] at hsb1); obtain ⟨Q1, c0', c1', c2', c3'⟩ := cells4 (HK.out _) b1))
  all_goals
    go_wp2
    go_ret
    have B1 : Below w.heap.size w w1 := (below_drewN (B0.alloc (by omega) _) 1).trans (b1.mono (by show w.heap.size ≤ (W.alloc _).heap.size; simp; omega))
    exact ⟨_, rfl, r2, ow_base o2 (by omega), B1.trans (b2.mono B1.size)⟩

/-- What MsgBytes answers: the bytes, or none. -/
def mbL (M : DMsg) (h : Decidable (MsgP M) := Classical.propDecidable (MsgP M)) : List Int := @ite _ (MsgP M) h (bytesL M) []
def MbPost (M : DMsg) (w : World) (e : Ending) (w' : World) : Prop := ∃ v', e = .returned (.tuple #[v', .bool (tB (MsgP M))]) ∧ RV w' v' (mbL M) ∧ Ow w' w.heap.size v' (mbL M) ∧ Below w.heap.size w w'
theorem mbL_yes {M : DMsg} (h : MsgP M) : mbL M = bytesL M := by unfold mbL; exact if_pos h
theorem mbL_no {M : DMsg} (h : ¬ MsgP M) : mbL M = [] := by unfold mbL; exact if_neg h
theorem tB_yes {p : Prop} (h : p) : tB p = true := tB_iff.2 h
theorem tB_no {p : Prop} (h : ¬ p) : tB p = false := by
  cases e : tB p
  · rfl
  · exact absurd (tB_iff.1 e) h

set_option maxRecDepth 20000 in
set_option maxHeartbeats 4000000 in
theorem iMB_Ask (v : Value) (M : DMsg) (w : World) (h : VMsg w v M) (hp : MsgP M) (hk : M.kind = 0) :
    Calls Try.prog 28 #[v] w (MbPost M w) := by
  have hE : ∀ w : World, ∀ o, Ext w (w.alloc o) := fun w o => World.grownBy_alloc _ _ _
  have HP : Hid (MsgP M) := hp
  have HI : Hid (M.items.length ≤ 4 ∧ ∀ (i : Nat) d, M.items[i]? = some d → ItW d) := (msg_w hp).2
  have HM : Hid (VMsg w v M) := h
  obtain ⟨iv, rfl, hvi⟩ := h
  have HV : Hid (VItems w iv M.items) := hvi
  obtain ⟨C, ⟨ia, ic, rfl, hl1, hl2, _⟩, _⟩ := hvi
  clear hp
  have hlen : M.items.length ≤ 4 := HI.out.1
  unfold maxLen at hl2
  obtain ⟨y4, hy4⟩ : ∃ y, y = numsL [] [0, M.from_, M.to, M.term] := ⟨_, rfl⟩
  have m4 : y4.length ≤ 20 := by rw [hy4]; exact headL_le 0 M
  obtain ⟨z, hz⟩ : ∃ z, z = numsL y4 [M.prev, M.prevTerm] := ⟨_, rfl⟩
  have HL : Hid (mbL M = z) := by
    unfold Hid
    rw [mbL_yes HP.out, hz, hy4]
    unfold bytesL
    rw [hk]
    rfl
  have G4 : Hid (numsL [] [0, M.from_, M.to, M.term] = y4) := hy4.symm
  have GZ : Hid (numsL y4 [M.prev, M.prevTerm] = z) := hz.symm
  have HK : Hid (M.kind = 0) := hk
  clear hy4 hz
  rw [hk]
  clear hk
  go_enter Try.func28, Try.ntmps28
  go_wp2_with fail
  have P0 := heap_alloc_new w (.cells #[.int .i64 0, .int .i64 M.from_, .int .i64 M.to, .int .i64 M.term, .int .i64 M.prev, .int .i64 M.prevTerm, .slice ia M.items.length ic, .int .i64 M.commit, .bool M.yes] 68 (0, 0))
  have X0 := hE w (.cells #[.int .i64 0, .int .i64 M.from_, .int .i64 M.to, .int .i64 M.term, .int .i64 M.prev, .int .i64 M.prevTerm, .slice ia M.items.length ic, .int .i64 M.commit, .bool M.yes] 68 (0, 0))
  have B0 : Below w.heap.size w (w.alloc (.cells #[.int .i64 0, .int .i64 M.from_, .int .i64 M.to, .int .i64 M.term, .int .i64 M.prev, .int .i64 M.prevTerm, .slice ia M.items.length ic, .int .i64 M.commit, .bool M.yes] 68 (0, 0))) := (Below.refl _ w).alloc (Nat.le_refl _) _
  generalize w.alloc (.cells #[.int .i64 0, .int .i64 M.from_, .int .i64 M.to, .int .i64 M.term, .int .i64 M.prev, .int .i64 M.prevTerm, .slice ia M.items.length ic, .int .i64 M.commit, .bool M.yes] 68 (0, 0)) = W at P0 X0 B0 ⊢
  have s0 := B0.size
  refine (iMsgOkP _ M _ (by have hm := HM.out.ext X0; rw [HK.out] at hm; exact hm)).mono ?_
  rintro e w1 ⟨rfl, b1⟩
  rw [tB_yes HP.out]
  obtain ⟨Q1, c0, c1, c2, c3, c4, c5, c6, c7, c8⟩ := cellsB9 P0 b1
  have s1 := b1.size
  have B1 := B0.trans (b1.mono s0)
  clear b1 P0
  go_wp2_with fail
  refine (iPutN _ [] _ 4 [0, M.from_, M.to, M.term] _ (rv_nil _) (by simp) rfl (by decide) (by decide) (nums_cells (new_at _ rfl))).mono ?_
  rw [G4.out]
  rintro e w4 ⟨v4, rfl, r4, o4, b4⟩
  have hsb : w1.heap.size + 1 ≤ w4.heap.size := by have := b4.size; simpa using this
  have hg1 := (Array.getElem?_eq_some_iff.1 Q1).1
  have QB1 : (w1.alloc (.cells #[.int .i64 0, .int .i64 M.from_, .int .i64 M.to, .int .i64 M.term] 3 (0, 0))).heap[w.heap.size]? = some (.cells #[.int .i64 0, .int .i64 M.from_, .int .i64 M.to, .int .i64 M.term, .int .i64 M.prev, .int .i64 M.prevTerm, .slice ia M.items.length ic, .int .i64 M.commit, .bool M.yes] 68 (0, 0)) := (Below.heap_alloc w1 _ _ hg1).trans Q1
  obtain ⟨Q4, f0, f1, f2, f3, f4, f5, f6, f7, f8⟩ := cellsB9 QB1 b4
  have B4 : Below w.heap.size w w4 := (B1.alloc B1.size _).trans (b4.mono (by have := B1.size; simp; omega))
  have s4 := B4.size
  clear b4 QB1
  go_wp2_with (go_at_call 70; refine (bodyAsk M _ ⟨_, _, rfl⟩ _).mono ?_; rintro e w5 ⟨rfl, b5⟩; have B5 := B4.trans (b5.mono s4); have XX := ext_below B5; have r4 := r4.ext (ext_below b5))
  refine (iBodyAsk _ y4 M.prev M.prevTerm _ r4 (by omega)).mono ?_
  rw [GZ.out]
  rintro e w6 ⟨v6, rfl, r6, o6, b6⟩
  go_wp2
  go_ret2
  refine ⟨v6, ?_, ?_, ?_, ?_⟩
  · rw [tB_yes HP.out]; rfl
  · rw [HL.out]; exact r6
  · rw [HL.out]; exact ow_base o6 B5.size
  · exact B5.trans (b6.mono B5.size)

set_option maxRecDepth 20000 in
set_option maxHeartbeats 4000000 in
theorem iMB_Vote (v : Value) (M : DMsg) (w : World) (h : VMsg w v M) (hp : MsgP M) (hk : M.kind = 1) :
    Calls Try.prog 28 #[v] w (MbPost M w) := by
  have hE : ∀ w : World, ∀ o, Ext w (w.alloc o) := fun w o => World.grownBy_alloc _ _ _
  have HP : Hid (MsgP M) := hp
  have HI : Hid (M.items.length ≤ 4 ∧ ∀ (i : Nat) d, M.items[i]? = some d → ItW d) := (msg_w hp).2
  have HM : Hid (VMsg w v M) := h
  obtain ⟨iv, rfl, hvi⟩ := h
  have HV : Hid (VItems w iv M.items) := hvi
  obtain ⟨C, ⟨ia, ic, rfl, hl1, hl2, _⟩, _⟩ := hvi
  clear hp
  have hlen : M.items.length ≤ 4 := HI.out.1
  unfold maxLen at hl2
  obtain ⟨y4, hy4⟩ : ∃ y, y = numsL [] [1, M.from_, M.to, M.term] := ⟨_, rfl⟩
  have m4 : y4.length ≤ 20 := by rw [hy4]; exact headL_le 1 M
  obtain ⟨z, hz⟩ : ∃ z, z = numsL y4 [yesI M.yes] := ⟨_, rfl⟩
  have HL : Hid (mbL M = z) := by
    unfold Hid
    rw [mbL_yes HP.out, hz, hy4]
    unfold bytesL
    rw [hk]
    rfl
  have G4 : Hid (numsL [] [1, M.from_, M.to, M.term] = y4) := hy4.symm
  have GZ : Hid (numsL y4 [yesI M.yes] = z) := hz.symm
  have HK : Hid (M.kind = 1) := hk
  clear hy4 hz
  rw [hk]
  clear hk
  go_enter Try.func28, Try.ntmps28
  go_wp2_with fail
  have P0 := heap_alloc_new w (.cells #[.int .i64 1, .int .i64 M.from_, .int .i64 M.to, .int .i64 M.term, .int .i64 M.prev, .int .i64 M.prevTerm, .slice ia M.items.length ic, .int .i64 M.commit, .bool M.yes] 68 (0, 0))
  have X0 := hE w (.cells #[.int .i64 1, .int .i64 M.from_, .int .i64 M.to, .int .i64 M.term, .int .i64 M.prev, .int .i64 M.prevTerm, .slice ia M.items.length ic, .int .i64 M.commit, .bool M.yes] 68 (0, 0))
  have B0 : Below w.heap.size w (w.alloc (.cells #[.int .i64 1, .int .i64 M.from_, .int .i64 M.to, .int .i64 M.term, .int .i64 M.prev, .int .i64 M.prevTerm, .slice ia M.items.length ic, .int .i64 M.commit, .bool M.yes] 68 (0, 0))) := (Below.refl _ w).alloc (Nat.le_refl _) _
  generalize w.alloc (.cells #[.int .i64 1, .int .i64 M.from_, .int .i64 M.to, .int .i64 M.term, .int .i64 M.prev, .int .i64 M.prevTerm, .slice ia M.items.length ic, .int .i64 M.commit, .bool M.yes] 68 (0, 0)) = W at P0 X0 B0 ⊢
  have s0 := B0.size
  refine (iMsgOkP _ M _ (by have hm := HM.out.ext X0; rw [HK.out] at hm; exact hm)).mono ?_
  rintro e w1 ⟨rfl, b1⟩
  rw [tB_yes HP.out]
  obtain ⟨Q1, c0, c1, c2, c3, c4, c5, c6, c7, c8⟩ := cellsB9 P0 b1
  have s1 := b1.size
  have B1 := B0.trans (b1.mono s0)
  clear b1 P0
  go_wp2_with fail
  refine (iPutN _ [] _ 4 [1, M.from_, M.to, M.term] _ (rv_nil _) (by simp) rfl (by decide) (by decide) (nums_cells (new_at _ rfl))).mono ?_
  rw [G4.out]
  rintro e w4 ⟨v4, rfl, r4, o4, b4⟩
  have hsb : w1.heap.size + 1 ≤ w4.heap.size := by have := b4.size; simpa using this
  have hg1 := (Array.getElem?_eq_some_iff.1 Q1).1
  have QB1 : (w1.alloc (.cells #[.int .i64 1, .int .i64 M.from_, .int .i64 M.to, .int .i64 M.term] 3 (0, 0))).heap[w.heap.size]? = some (.cells #[.int .i64 1, .int .i64 M.from_, .int .i64 M.to, .int .i64 M.term, .int .i64 M.prev, .int .i64 M.prevTerm, .slice ia M.items.length ic, .int .i64 M.commit, .bool M.yes] 68 (0, 0)) := (Below.heap_alloc w1 _ _ hg1).trans Q1
  obtain ⟨Q4, f0, f1, f2, f3, f4, f5, f6, f7, f8⟩ := cellsB9 QB1 b4
  have B4 : Below w.heap.size w w4 := (B1.alloc B1.size _).trans (b4.mono (by have := B1.size; simp; omega))
  have s4 := B4.size
  clear b4 QB1
  go_wp2_with (go_at_call 70; refine (bodyVote M _ ⟨_, _, rfl⟩ _).mono ?_; rintro e w5 ⟨rfl, b5⟩; have B5 := B4.trans (b5.mono s4); have XX := ext_below B5; have r4 := r4.ext (ext_below b5))
  refine (iBodyVote _ y4 M.yes _ r4 (by omega)).mono ?_
  rw [GZ.out]
  rintro e w6 ⟨v6, rfl, r6, o6, b6⟩
  go_wp2
  go_ret2
  refine ⟨v6, ?_, ?_, ?_, ?_⟩
  · rw [tB_yes HP.out]; rfl
  · rw [HL.out]; exact r6
  · rw [HL.out]; exact ow_base o6 B5.size
  · exact B5.trans (b6.mono B5.size)

set_option maxRecDepth 20000 in
set_option maxHeartbeats 4000000 in
theorem iMB_Add (v : Value) (M : DMsg) (w : World) (h : VMsg w v M) (hp : MsgP M) (hk : M.kind = 2) :
    Calls Try.prog 28 #[v] w (MbPost M w) := by
  have hE : ∀ w : World, ∀ o, Ext w (w.alloc o) := fun w o => World.grownBy_alloc _ _ _
  have HP : Hid (MsgP M) := hp
  have HI : Hid (M.items.length ≤ 4 ∧ ∀ (i : Nat) d, M.items[i]? = some d → ItW d) := (msg_w hp).2
  have HM : Hid (VMsg w v M) := h
  obtain ⟨iv, rfl, hvi⟩ := h
  have HV : Hid (VItems w iv M.items) := hvi
  obtain ⟨C, ⟨ia, ic, rfl, hl1, hl2, _⟩, _⟩ := hvi
  clear hp
  have hlen : M.items.length ≤ 4 := HI.out.1
  unfold maxLen at hl2
  obtain ⟨y4, hy4⟩ : ∃ y, y = numsL [] [2, M.from_, M.to, M.term] := ⟨_, rfl⟩
  have m4 : y4.length ≤ 20 := by rw [hy4]; exact headL_le 2 M
  obtain ⟨z, hz⟩ : ∃ z, z = M.items.foldl itL (numsL y4 [M.prev, M.prevTerm, M.commit, (M.items.length : Int)]) := ⟨_, rfl⟩
  have HL : Hid (mbL M = z) := by
    unfold Hid
    rw [mbL_yes HP.out, hz, hy4]
    unfold bytesL
    rw [hk]
    rfl
  have G4 : Hid (numsL [] [2, M.from_, M.to, M.term] = y4) := hy4.symm
  have GZ : Hid (M.items.foldl itL (numsL y4 [M.prev, M.prevTerm, M.commit, (M.items.length : Int)]) = z) := hz.symm
  have HK : Hid (M.kind = 2) := hk
  clear hy4 hz
  rw [hk]
  clear hk
  go_enter Try.func28, Try.ntmps28
  go_wp2_with fail
  have P0 := heap_alloc_new w (.cells #[.int .i64 2, .int .i64 M.from_, .int .i64 M.to, .int .i64 M.term, .int .i64 M.prev, .int .i64 M.prevTerm, .slice ia M.items.length ic, .int .i64 M.commit, .bool M.yes] 68 (0, 0))
  have X0 := hE w (.cells #[.int .i64 2, .int .i64 M.from_, .int .i64 M.to, .int .i64 M.term, .int .i64 M.prev, .int .i64 M.prevTerm, .slice ia M.items.length ic, .int .i64 M.commit, .bool M.yes] 68 (0, 0))
  have B0 : Below w.heap.size w (w.alloc (.cells #[.int .i64 2, .int .i64 M.from_, .int .i64 M.to, .int .i64 M.term, .int .i64 M.prev, .int .i64 M.prevTerm, .slice ia M.items.length ic, .int .i64 M.commit, .bool M.yes] 68 (0, 0))) := (Below.refl _ w).alloc (Nat.le_refl _) _
  generalize w.alloc (.cells #[.int .i64 2, .int .i64 M.from_, .int .i64 M.to, .int .i64 M.term, .int .i64 M.prev, .int .i64 M.prevTerm, .slice ia M.items.length ic, .int .i64 M.commit, .bool M.yes] 68 (0, 0)) = W at P0 X0 B0 ⊢
  have s0 := B0.size
  refine (iMsgOkP _ M _ (by have hm := HM.out.ext X0; rw [HK.out] at hm; exact hm)).mono ?_
  rintro e w1 ⟨rfl, b1⟩
  rw [tB_yes HP.out]
  obtain ⟨Q1, c0, c1, c2, c3, c4, c5, c6, c7, c8⟩ := cellsB9 P0 b1
  have s1 := b1.size
  have B1 := B0.trans (b1.mono s0)
  clear b1 P0
  go_wp2_with fail
  refine (iPutN _ [] _ 4 [2, M.from_, M.to, M.term] _ (rv_nil _) (by simp) rfl (by decide) (by decide) (nums_cells (new_at _ rfl))).mono ?_
  rw [G4.out]
  rintro e w4 ⟨v4, rfl, r4, o4, b4⟩
  have hsb : w1.heap.size + 1 ≤ w4.heap.size := by have := b4.size; simpa using this
  have hg1 := (Array.getElem?_eq_some_iff.1 Q1).1
  have QB1 : (w1.alloc (.cells #[.int .i64 2, .int .i64 M.from_, .int .i64 M.to, .int .i64 M.term] 3 (0, 0))).heap[w.heap.size]? = some (.cells #[.int .i64 2, .int .i64 M.from_, .int .i64 M.to, .int .i64 M.term, .int .i64 M.prev, .int .i64 M.prevTerm, .slice ia M.items.length ic, .int .i64 M.commit, .bool M.yes] 68 (0, 0)) := (Below.heap_alloc w1 _ _ hg1).trans Q1
  obtain ⟨Q4, f0, f1, f2, f3, f4, f5, f6, f7, f8⟩ := cellsB9 QB1 b4
  have B4 : Below w.heap.size w w4 := (B1.alloc B1.size _).trans (b4.mono (by have := B1.size; simp; omega))
  have s4 := B4.size
  clear b4 QB1
  go_wp2_with (go_at_call 70; refine (bodyAdd M _ ⟨_, _, rfl⟩ _).mono ?_; rintro e w5 ⟨rfl, b5⟩; have B5 := B4.trans (b5.mono s4); have XX := ext_below B5; have r4 := r4.ext (ext_below b5))
  refine (iBodyAdd _ _ y4 M.prev M.prevTerm M.commit M.items _ r4 (by omega) (HV.out.ext XX) HI.out.1 HI.out.2).mono ?_
  rw [GZ.out]
  rintro e w6 ⟨v6, rfl, r6, o6, b6⟩
  go_wp2
  go_ret2
  refine ⟨v6, ?_, ?_, ?_, ?_⟩
  · rw [tB_yes HP.out]; rfl
  · rw [HL.out]; exact r6
  · rw [HL.out]; exact ow_base o6 B5.size
  · exact B5.trans (b6.mono B5.size)

set_option maxRecDepth 20000 in
set_option maxHeartbeats 4000000 in
theorem iMB_Ack (v : Value) (M : DMsg) (w : World) (h : VMsg w v M) (hp : MsgP M) (hk : M.kind = 3) :
    Calls Try.prog 28 #[v] w (MbPost M w) := by
  have hE : ∀ w : World, ∀ o, Ext w (w.alloc o) := fun w o => World.grownBy_alloc _ _ _
  have HP : Hid (MsgP M) := hp
  have HI : Hid (M.items.length ≤ 4 ∧ ∀ (i : Nat) d, M.items[i]? = some d → ItW d) := (msg_w hp).2
  have HM : Hid (VMsg w v M) := h
  obtain ⟨iv, rfl, hvi⟩ := h
  have HV : Hid (VItems w iv M.items) := hvi
  obtain ⟨C, ⟨ia, ic, rfl, hl1, hl2, _⟩, _⟩ := hvi
  clear hp
  have hlen : M.items.length ≤ 4 := HI.out.1
  unfold maxLen at hl2
  obtain ⟨y4, hy4⟩ : ∃ y, y = numsL [] [3, M.from_, M.to, M.term] := ⟨_, rfl⟩
  have m4 : y4.length ≤ 20 := by rw [hy4]; exact headL_le 3 M
  obtain ⟨z, hz⟩ : ∃ z, z = numsL y4 [M.prev, yesI M.yes] := ⟨_, rfl⟩
  have HL : Hid (mbL M = z) := by
    unfold Hid
    rw [mbL_yes HP.out, hz, hy4]
    unfold bytesL
    rw [hk]
    rfl
  have G4 : Hid (numsL [] [3, M.from_, M.to, M.term] = y4) := hy4.symm
  have GZ : Hid (numsL y4 [M.prev, yesI M.yes] = z) := hz.symm
  have HK : Hid (M.kind = 3) := hk
  clear hy4 hz
  rw [hk]
  clear hk
  go_enter Try.func28, Try.ntmps28
  go_wp2_with fail
  have P0 := heap_alloc_new w (.cells #[.int .i64 3, .int .i64 M.from_, .int .i64 M.to, .int .i64 M.term, .int .i64 M.prev, .int .i64 M.prevTerm, .slice ia M.items.length ic, .int .i64 M.commit, .bool M.yes] 68 (0, 0))
  have X0 := hE w (.cells #[.int .i64 3, .int .i64 M.from_, .int .i64 M.to, .int .i64 M.term, .int .i64 M.prev, .int .i64 M.prevTerm, .slice ia M.items.length ic, .int .i64 M.commit, .bool M.yes] 68 (0, 0))
  have B0 : Below w.heap.size w (w.alloc (.cells #[.int .i64 3, .int .i64 M.from_, .int .i64 M.to, .int .i64 M.term, .int .i64 M.prev, .int .i64 M.prevTerm, .slice ia M.items.length ic, .int .i64 M.commit, .bool M.yes] 68 (0, 0))) := (Below.refl _ w).alloc (Nat.le_refl _) _
  generalize w.alloc (.cells #[.int .i64 3, .int .i64 M.from_, .int .i64 M.to, .int .i64 M.term, .int .i64 M.prev, .int .i64 M.prevTerm, .slice ia M.items.length ic, .int .i64 M.commit, .bool M.yes] 68 (0, 0)) = W at P0 X0 B0 ⊢
  have s0 := B0.size
  refine (iMsgOkP _ M _ (by have hm := HM.out.ext X0; rw [HK.out] at hm; exact hm)).mono ?_
  rintro e w1 ⟨rfl, b1⟩
  rw [tB_yes HP.out]
  obtain ⟨Q1, c0, c1, c2, c3, c4, c5, c6, c7, c8⟩ := cellsB9 P0 b1
  have s1 := b1.size
  have B1 := B0.trans (b1.mono s0)
  clear b1 P0
  go_wp2_with fail
  refine (iPutN _ [] _ 4 [3, M.from_, M.to, M.term] _ (rv_nil _) (by simp) rfl (by decide) (by decide) (nums_cells (new_at _ rfl))).mono ?_
  rw [G4.out]
  rintro e w4 ⟨v4, rfl, r4, o4, b4⟩
  have hsb : w1.heap.size + 1 ≤ w4.heap.size := by have := b4.size; simpa using this
  have hg1 := (Array.getElem?_eq_some_iff.1 Q1).1
  have QB1 : (w1.alloc (.cells #[.int .i64 3, .int .i64 M.from_, .int .i64 M.to, .int .i64 M.term] 3 (0, 0))).heap[w.heap.size]? = some (.cells #[.int .i64 3, .int .i64 M.from_, .int .i64 M.to, .int .i64 M.term, .int .i64 M.prev, .int .i64 M.prevTerm, .slice ia M.items.length ic, .int .i64 M.commit, .bool M.yes] 68 (0, 0)) := (Below.heap_alloc w1 _ _ hg1).trans Q1
  obtain ⟨Q4, f0, f1, f2, f3, f4, f5, f6, f7, f8⟩ := cellsB9 QB1 b4
  have B4 : Below w.heap.size w w4 := (B1.alloc B1.size _).trans (b4.mono (by have := B1.size; simp; omega))
  have s4 := B4.size
  clear b4 QB1
  go_wp2_with (go_at_call 70; refine (bodyAck M _ ⟨_, _, rfl⟩ _).mono ?_; rintro e w5 ⟨rfl, b5⟩; have B5 := B4.trans (b5.mono s4); have XX := ext_below B5; have r4 := r4.ext (ext_below b5))
  refine (iBodyAck _ y4 M.prev M.yes _ r4 (by omega)).mono ?_
  rw [GZ.out]
  rintro e w6 ⟨v6, rfl, r6, o6, b6⟩
  go_wp2
  go_ret2
  refine ⟨v6, ?_, ?_, ?_, ?_⟩
  · rw [tB_yes HP.out]; rfl
  · rw [HL.out]; exact r6
  · rw [HL.out]; exact ow_base o6 B5.size
  · exact B5.trans (b6.mono B5.size)

set_option maxRecDepth 20000 in
set_option maxHeartbeats 4000000 in
theorem iMB_no (v : Value) (M : DMsg) (w : World) (h : VMsg w v M) (hp : ¬ MsgP M) :
    Calls Try.prog 28 #[v] w (MbPost M w) := by
  have hE : ∀ w : World, ∀ o, Ext w (w.alloc o) := fun w o => World.grownBy_alloc _ _ _
  have hB : ∀ w : World, ∀ o, Below w.heap.size w (w.alloc o) := fun w o => (Below.refl _ w).alloc (Nat.le_refl _) _
  have HP : Hid (tB (MsgP M) = false) := tB_no hp
  have HL : Hid (mbL M = []) := mbL_no hp
  have HM : Hid (VMsg w v M) := h
  obtain ⟨iv, rfl, hvi⟩ := h
  clear hp
  go_enter Try.func28, Try.ntmps28
  go_wp2_with fail
  refine (iMsgOkP _ M _ (HM.out.ext (hE _ _))).mono ?_
  rintro e w1 ⟨rfl, b1⟩
  rw [HP.out]
  go_wp2
  go_ret2
  refine ⟨.slice none 0 0, ?_, ?_, ?_, ?_⟩
  · rw [HP.out]; rfl
  · rw [HL.out]; exact rv_nil _
  · rw [HL.out]; exact World.ownsRow_nil _ _ _ _
  · exact (hB w _).trans (b1.mono (by simp))

theorem iMsgBytesP (v : Value) (M : DMsg) (w : World) (h : VMsg w v M) : Calls Try.prog 28 #[v] w (MbPost M w) := by
  by_cases hp : MsgP M
  · have hk := (msg_w hp).1
    by_cases h0 : M.kind = 0
    · exact iMB_Ask v M w h hp h0
    by_cases h1 : M.kind = 1
    · exact iMB_Vote v M w h hp h1
    by_cases h2 : M.kind = 2
    · exact iMB_Add v M w h hp h2
    exact iMB_Ack v M w h hp (by omega)
  · exact iMB_no v M w h hp

end Go.Proofs.Ytplgnohncdfgcal
