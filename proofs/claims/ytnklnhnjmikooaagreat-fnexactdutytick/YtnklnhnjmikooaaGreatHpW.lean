
/- The contract of the program's WheelSet. -/
import Derived.Test.YtnklnhnjmikooaaGreatHpJ
namespace Go.Proofs.YtnklnhnjmikooaaGreat
open Go.RowKit

/-- The timers with one more, in its place. -/
def insT (ts : List DTim) (t : DTim) : List DTim := ts.takeWhile (fun u => aheadB u t) ++ t :: ts.dropWhile (fun u => aheadB u t)
/-- It can't be set. -/
def badS (D : DWheel) (id after : Int) : Bool := decide (id < 0) || decide (2147483647 < id) || decide (after < 1) || decide (1000000 < after) || (decide (placeT D.tms id < 0) && decide (40 ≤ D.tms.length))
/-- The timers without this one. -/
def lessT (ts : List DTim) (id : Int) : List DTim := if placeT ts id < 0 then ts else ts.eraseIdx (placeT ts id).toNat
/-- The wheel with this timer set, and whether it could be. -/
def setD (c : Bool) (D : DWheel) (id after : Int) : DWheel × Bool := if c then (if badS D id after then (D, false) else (⟨D.now, insT (lessT D.tms id) ⟨id, D.now + after⟩⟩, true)) else (⟨0, []⟩, false)

theorem hideQ {p : Prop} (h : p) : Hid p := h
theorem insT_perm (ts : List DTim) (t : DTim) : (insT ts t).Perm (ts ++ [t]) := by
  unfold insT
  have h1 := List.perm_middle (a := t) (l₁ := ts.takeWhile (fun u => aheadB u t)) (l₂ := ts.dropWhile (fun u => aheadB u t))
  rw [List.takeWhile_append_dropWhile] at h1
  exact h1.trans (List.perm_append_comm (l₁ := [t]) (l₂ := ts))
theorem while_k {ts : List DTim} {t : DTim} (hs : SortT ts) (hg : GoodT ts) (ht : 0 ≤ t.id ∧ t.id ≤ 2147483647) : (∀ x ∈ ts.takeWhile (fun u => aheadB u t), kT x < kT t) ∧ ∀ x ∈ ts.dropWhile (fun u => aheadB u t), kT t ≤ kT x := by
  induction ts with
  | nil => exact ⟨fun x hx => by simp at hx, fun x hx => by simp at hx⟩
  | cons u us ih =>
    have hu := hg u (by simp)
    have ih := ih (List.pairwise_cons.1 hs).2 (fun x hx => hg x (by simp [hx]))
    cases ha : aheadB u t with
    | true =>
      rw [List.takeWhile_cons, List.dropWhile_cons, ha]
      simp only [if_true]
      rw [ahead_k hu ht] at ha
      refine ⟨fun x hx => ?_, ih.2⟩
      rcases List.mem_cons.1 hx with rfl | hx
      · exact of_decide_eq_true ha
      · exact ih.1 x hx
    | false =>
      rw [List.takeWhile_cons, List.dropWhile_cons, ha]
      rw [ahead_k hu ht] at ha
      have ha := of_decide_eq_false ha
      refine ⟨fun x hx => by simp at hx, fun x hx => ?_⟩
      have hx : x ∈ u :: us := by simpa using hx
      rcases List.mem_cons.1 hx with rfl | hx
      · omega
      · have := (List.pairwise_cons.1 hs).1 x hx
        omega
theorem insT_sort {ts : List DTim} {t : DTim} (hs : SortT ts) (hg : GoodT ts) (ht : 0 ≤ t.id ∧ t.id ≤ 2147483647) : SortT (insT ts t) := by
  obtain ⟨h1, h2⟩ := while_k hs hg ht
  unfold insT SortT
  refine List.pairwise_append.2 ⟨List.Pairwise.sublist (List.takeWhile_sublist _) hs, List.pairwise_cons.2 ⟨h2, List.Pairwise.sublist (List.dropWhile_sublist _) hs⟩, fun x hx y hy => ?_⟩
  have hx := h1 x hx
  rcases List.mem_cons.1 hy with rfl | hy
  · omega
  · have := h2 y hy
    omega
theorem lessT_perm {ts ts' : List DTim} {id : Int} {b : Bool} (h : StopP ts id b ts') : ts'.Perm (lessT ts id) := by
  unfold lessT
  rcases h with ⟨_, h1, rfl⟩ | ⟨_, i, t, h1, h2, _, h4⟩
  · rw [h1, if_pos (by omega)]
  · rw [h1, if_neg (by omega), Int.toNat_natCast]
    exact perm_erase h2 h4
theorem lessT_sort {ts : List DTim} (id : Int) (h : SortT ts) : SortT (lessT ts id) := by
  unfold lessT
  split
  · exact h
  · exact h.erase _
theorem lessT_sub {ts : List DTim} (id : Int) : ∀ x ∈ lessT ts id, x ∈ ts := fun x hx => by
  unfold lessT at hx
  split at hx
  · exact hx
  · exact List.mem_of_mem_eraseIdx hx
theorem set_end {D : DWheel} {id after : Int} {b : Bool} {ts' tk : List DTim} (hD : WheelP D) (hs : StopP D.tms id b ts') (hbad : badS D id after = false) (hk : SortT tk) (hp : tk.Perm (ts' ++ [⟨id, D.now + after⟩])) : setD true D id after = (⟨D.now, tk⟩, true) := by
  have g := wheel_good hD
  have hid : 0 ≤ id ∧ id ≤ 2147483647 := by simp [badS] at hbad; omega
  have gl : GoodT (lessT D.tms id) := fun x hx => g x (lessT_sub id x hx)
  have hp2 : tk.Perm (insT (lessT D.tms id) ⟨id, D.now + after⟩) := (hp.trans (List.Perm.append_right _ (lessT_perm hs))).trans (insT_perm _ _).symm
  have gt : GoodT tk := fun x hx => by
    have := (hp2.trans (insT_perm _ _)).mem_iff.1 hx
    rcases List.mem_append.1 this with h | h
    · exact gl x h
    · have : x = ⟨id, D.now + after⟩ := by simpa using h
      subst this
      exact hid
  have e : tk = insT (lessT D.tms id) ⟨id, D.now + after⟩ := sort_uniq hk (insT_sort (lessT_sort id (wheel_sort hD)) gl hid) gt hp2
  unfold setD
  rw [if_pos rfl, hbad, e]
  exact rfl

set_option maxRecDepth 20000 in
set_option maxHeartbeats 8000000 in
theorem iSetV (v : Value) (D : DWheel) (id after : Int) (w : World) (h : VWheel w v D) (hl : D.tms.length ≤ 1048576) : Calls Tryz.prog 114 #[v, .int .i64 id, .int .i64 after] w (ResW (setD (tB (WheelP D)) D id after) w) := by
  have HV0 : Hid (VWheel w v D) := h
  obtain ⟨tv, rfl, h⟩ := h
  obtain ⟨ta, tc', rfl⟩ := h.shape
  obtain ⟨n, hn⟩ : ∃ n, n = D.tms.length := ⟨_, rfl⟩
  have HN : Hid (n = D.tms.length) := hn
  rw [← hn] at HV0 ⊢
  clear h hn
  cases hok : tB (WheelP D) with
  | false =>
    have HOK : Hid (tB (WheelP D) = false) := hok
    clear hok
    go_enter Tryz.func114, Tryz.ntmps114
    go_wp2_with fail
    generalize hW : World.alloc (World.alloc w _) _ = W
    have BW : Below w.heap.size w W := by rw [← hW]; exact ((Below.refl _ w).alloc (Nat.le_refl _) _).alloc (by simp) _
    have PR : W.heap[w.heap.size + 1]? = some (.cells #[.int .i64 0, .slice none 0 0] 37 (0, 0)) := by rw [← hW]; simpa using heap_alloc_new (World.alloc w (.cells #[.int .i64 D.now, .slice ta n tc'] 37)) (.cells #[.int .i64 0, .slice none 0 0] 37)
    clear hW
    refine (iWheelOkV _ D W (HV0.out.ext (ext_below BW))).mono ?_
    rintro e w1 ⟨rfl, b1⟩
    rw [HOK.out]
    have PR1 := below_blk b1 (Array.getElem?_eq_some_iff.1 PR).1 PR
    have HB1 : Hid (Below w.heap.size w w1) := BW.trans (b1.mono BW.size)
    obtain ⟨z0, y0⟩ := at_block PR1 0 _ rfl
    obtain ⟨z1, y1⟩ := at_block PR1 1 _ rfl
    clear b1 PR PR1 BW
    go_wp2
    refine bodyPost_ret (v := .tuple #[.agg #[.int .i64 0, .slice none 0 0], .bool false]) (by simp [results, Tryz.results114, go_sem, *]) rfl ?_
    refine ⟨_, rfl, World.ownsRow_nil _ _ _ _, ?_⟩
    first | exact HB1.out | exact HB1.out.setCell (by simp) _ | exact (HB1.out.setCell (by simp) _).setCell (by simp) _
  | true =>
    have HOK : Hid (tB (WheelP D) = true) := hok
    have HD : Hid (WheelP D) := tB_iff.1 hok
    have HL : Hid (D.tms.length ≤ 1048576) := hl
    have hnow := HD.out.1
    obtain ⟨hnow0, hnow1⟩ := hnow
    have hn40 : n ≤ 40 := by have := HD.out.2.1; have := HN.out; omega
    clear hok
    go_enter Tryz.func114, Tryz.ntmps114
    go_wp2_with fail
    generalize hW : World.alloc (World.alloc w _) _ = W
    have BW : Below w.heap.size w W := by rw [← hW]; exact ((Below.refl _ w).alloc (Nat.le_refl _) _).alloc (by simp) _
    have PB : W.heap[w.heap.size]? = some (.cells #[.int .i64 D.now, .slice ta n tc'] 37 (0, 0)) := by rw [← hW, Below.heap_alloc _ _ _ (by simp)]; exact heap_alloc_new w _
    have PR : W.heap[w.heap.size + 1]? = some (.cells #[.int .i64 0, .slice none 0 0] 37 (0, 0)) := by rw [← hW]; simpa using heap_alloc_new (World.alloc w (.cells #[.int .i64 D.now, .slice ta n tc'] 37)) (.cells #[.int .i64 0, .slice none 0 0] 37)
    clear hW
    refine (iWheelOkV _ D W (HV0.out.ext (ext_below BW))).mono ?_
    rintro e w1 ⟨rfl, b1⟩
    rw [HOK.out]
    have hbl := (Array.getElem?_eq_some_iff.1 PB).1
    have hrl := (Array.getElem?_eq_some_iff.1 PR).1
    have PB1 := below_blk b1 hbl PB
    have PR1 := below_blk b1 hrl PR
    have hrl1 := (Array.getElem?_eq_some_iff.1 PR1).1
    have HB1 : Hid (Below w.heap.size w w1) := BW.trans (b1.mono BW.size)
    obtain ⟨z0, y0⟩ := at_block PB1 0 _ rfl
    obtain ⟨z1, y1⟩ := at_block PB1 1 _ rfl
    clear b1 PR PB BW hbl hrl
    go_wp2_with fail
    refine (alarmsOfV _ D w1 (HV0.out.ext (ext_below HB1.out)) HL.out).mono ?_
    rintro e w2 ⟨b, a, cap, rfl, p2, b2⟩
    have HP2 : Hid (HP w2 w1.heap.size b a cap D.tms) := p2
    have HB2 : Hid (Below w1.heap.size w1 w2) := b2
    have PB2 := below_blk b2 (by omega) PB1
    clear p2 b2 z0 y0 z1 y1
    obtain ⟨z0, y0⟩ := at_block PB2 0 _ rfl
    by_cases i1 : inB id 0 2147483647 = true
    case neg =>
      have i1 : inB id 0 2147483647 = false := by simpa using i1
      have i2 : inB after 1 1000000 = inB after 1 1000000 := rfl
      have HBAD : Hid (badS D id after = true) := by
        show _ = _
        simp only [badS, Bool.or_eq_true, decide_eq_true_eq]
        simp only [inB, Bool.and_eq_false_iff, decide_eq_false_iff_not] at i1
        omega
      clear i2
      go_wp2_with (go_at_call 53; refine (withinV _ _ _ _).mono ?_; rintro e w7 ⟨rfl, rfl⟩; rw [i1])
      refine (wheelV b w1.heap.size cap a D.tms D.now _ HP2.out (wheel_good HD.out) (by have := HD.out.2.1; omega) (wheel_heap HD.out) (wheel_due HD.out)).mono ?_
      rintro e w9 ⟨v9, tk, rfl, o9, hs9, hp9, t9⟩
      have HB9 : Hid (Below w1.heap.size w1 w9) := HB2.out.trans (t9.below HB2.out.size HP2.out.low (fun k hk => (HP2.out.blk.2 k hk).1))
      have PR9 := below_blk HB9.out hrl1 PR1
      have HEQ : Hid (setD true D id after = (⟨D.now, tk⟩, false)) := (by unfold setD; rw [if_pos rfl, if_pos HBAD.out, sort_uniq hs9 (wheel_sort HD.out) ((wheel_good HD.out).perm hp9) hp9]; exact rfl)
      obtain ⟨va, vc, rfl⟩ := o9.v.shape
      have HO9 : Hid (OwT w9 w.heap.size (.slice va tk.length vc) tk) := o9.base (by have := HB1.out.size; have := HB2.out.size; omega)
      have HNV : Hid ((Value.slice va tk.length vc).ownBlock = none ∨ (Value.slice va tk.length vc).ownBlock ≠ some (w.heap.size + 1)) := by
        right
        intro e
        have h1 := (World.ownsRow.lt o9 _ e).1
        have := HB2.out.size
        omega
      obtain ⟨x0, f0⟩ := at_block PR9 0 _ rfl
      obtain ⟨x1, f1⟩ := at_block PR9 1 _ rfl
      have HBF : Hid (Below w.heap.size w w9) := HB1.out.trans (HB9.out.mono HB1.out.size)
      clear o9 hs9 hp9 t9 PR9 z0 y0
      go_wp2
      refine bodyPost_ret (v := .tuple #[.agg #[.int .i64 D.now, .slice va tk.length vc], .bool false]) (by simp [results, Tryz.results114, go_sem, *]) rfl ?_
      rw [HEQ.out]
      exact ⟨_, rfl, (HO9.out.kept (set_grown _ _ _ _) HNV.out).kept (set_grown _ _ _ _) HNV.out, (HBF.out.setCell (by simp) _).setCell (by simp) _⟩
    by_cases i2 : inB after 1 1000000 = true
    case neg =>
      have i2 : inB after 1 1000000 = false := by simpa using i2
      have HBAD : Hid (badS D id after = true) := by
        show _ = _
        simp only [badS, Bool.or_eq_true, decide_eq_true_eq]
        simp only [inB, Bool.and_eq_false_iff, decide_eq_false_iff_not] at i2
        omega
      go_wp2_with (go_at_call 53; refine (withinV _ _ _ _).mono ?_; rintro e w7 ⟨rfl, rfl⟩; first | rw [i1] | rw [i2])
      refine (wheelV b w1.heap.size cap a D.tms D.now _ HP2.out (wheel_good HD.out) (by have := HD.out.2.1; omega) (wheel_heap HD.out) (wheel_due HD.out)).mono ?_
      rintro e w9 ⟨v9, tk, rfl, o9, hs9, hp9, t9⟩
      have HB9 : Hid (Below w1.heap.size w1 w9) := HB2.out.trans (t9.below HB2.out.size HP2.out.low (fun k hk => (HP2.out.blk.2 k hk).1))
      have PR9 := below_blk HB9.out hrl1 PR1
      have HEQ : Hid (setD true D id after = (⟨D.now, tk⟩, false)) := (by unfold setD; rw [if_pos rfl, if_pos HBAD.out, sort_uniq hs9 (wheel_sort HD.out) ((wheel_good HD.out).perm hp9) hp9]; exact rfl)
      obtain ⟨va, vc, rfl⟩ := o9.v.shape
      have HO9 : Hid (OwT w9 w.heap.size (.slice va tk.length vc) tk) := o9.base (by have := HB1.out.size; have := HB2.out.size; omega)
      have HNV : Hid ((Value.slice va tk.length vc).ownBlock = none ∨ (Value.slice va tk.length vc).ownBlock ≠ some (w.heap.size + 1)) := by
        right
        intro e
        have h1 := (World.ownsRow.lt o9 _ e).1
        have := HB2.out.size
        omega
      obtain ⟨x0, f0⟩ := at_block PR9 0 _ rfl
      obtain ⟨x1, f1⟩ := at_block PR9 1 _ rfl
      have HBF : Hid (Below w.heap.size w w9) := HB1.out.trans (HB9.out.mono HB1.out.size)
      clear o9 hs9 hp9 t9 PR9 z0 y0
      go_wp2
      refine bodyPost_ret (v := .tuple #[.agg #[.int .i64 D.now, .slice va tk.length vc], .bool false]) (by simp [results, Tryz.results114, go_sem, *]) rfl ?_
      rw [HEQ.out]
      exact ⟨_, rfl, (HO9.out.kept (set_grown _ _ _ _) HNV.out).kept (set_grown _ _ _ _) HNV.out, (HBF.out.setCell (by simp) _).setCell (by simp) _⟩
    have hid : 0 ≤ id ∧ id ≤ 2147483647 := by simpa [inB] using i1
    have haf : 1 ≤ after ∧ after ≤ 1000000 := by simpa [inB] using i2
    obtain ⟨hid0, hid1⟩ := hid
    obtain ⟨haf0, haf1⟩ := haf
    go_wp2_with (go_at_call 53; refine (withinV _ _ _ _).mono ?_; rintro e w7 ⟨rfl, rfl⟩; first | rw [i1] | rw [i2])
    refine (stopV b w1.heap.size cap a D.tms id _ HP2.out (wheel_good HD.out) (by have := HD.out.2.1; omega) (wheel_heap HD.out)).mono ?_
    rintro e w3 ⟨q, ts', rfl, hs, hh, p3, t3⟩
    have HB3 : Hid (Below w1.heap.size w1 w3) := HB2.out.trans (t3.below HB2.out.size HP2.out.low (fun k hk => (HP2.out.blk.2 k hk).1))
    have HB23 := hideQ (Nat.le_trans HB2.out.size t3.size)
    have HP3 : Hid (HP w3 w1.heap.size b a cap ts') := p3
    have HSP : Hid (StopP D.tms id q ts') := hs
    have HH : Hid (HeapL ts'.length ts') := hh
    have HSUB : Hid (∀ x ∈ ts', x ∈ D.tms) := fun x hx => by
      rcases HSP.out with ⟨_, _, e⟩ | ⟨_, i, t, _, _, _, hp⟩
      · rw [e] at hx; exact hx
      · exact hp.mem_iff.1 (by simp [hx])
    have HLE : Hid (ts'.length ≤ 90) := by
      have h40 := HD.out.2.1
      show _ ≤ _
      rcases HSP.out with ⟨_, _, e⟩ | ⟨_, i, t, _, _, _, hp⟩
      · rw [e]; omega
      · have := hp.length_eq
        simp at this
        omega
    have HGN : Hid (GoodT (ts' ++ [⟨id, D.now + after⟩])) := fun x hx => by
      rcases List.mem_append.1 hx with h | h
      · exact wheel_good HD.out x (HSUB.out x h)
      · have : x = ⟨id, D.now + after⟩ := by simpa using h
        subst this
        exact ⟨hid0, hid1⟩
    have HDN : Hid (∀ x ∈ ts' ++ [⟨id, D.now + after⟩], x.due ≤ 2000000) := fun x hx => by
      rcases List.mem_append.1 hx with h | h
      · exact wheel_due HD.out x (HSUB.out x h)
      · have : x = ⟨id, D.now + after⟩ := by simpa using h
        subst this
        show D.now + after ≤ 2000000
        omega
    have HQF : Hid (q = false → placeT D.tms id = -1 ∧ ts' = D.tms) := fun hq => by
      rcases HSP.out with ⟨_, h1, h2⟩ | ⟨h0, _⟩
      · exact ⟨h1, h2⟩
      · rw [hq] at h0; cases h0
    have HQT : Hid (q = true → ¬ placeT D.tms id < 0) := fun hq => by
      rcases HSP.out with ⟨h0, _⟩ | ⟨_, i, t, h1, _⟩
      · rw [hq] at h0; cases h0
      · omega
    have PB3 := below_blk HB3.out (by omega) PB1
    clear hs hh p3 t3 z0 y0 PB2
    obtain ⟨z0, y0⟩ := at_block PB3 0 _ rfl
    obtain ⟨z1, y1⟩ := at_block PB3 1 _ rfl
    cases q
    case false =>
      by_cases h40 : n = 40
      · have HBAD : Hid (badS D id after = true) := by
          show _ = _
          simp only [badS, Bool.or_eq_true, Bool.and_eq_true, decide_eq_true_eq]
          have := (HQF.out rfl).1
          have := HN.out
          omega
        have hb40 : ((n : Int) == 40) = true := by simp; omega
        have HTS : Hid (ts' = D.tms) := (HQF.out rfl).2
        subst h40
        go_wp2_with fail
        refine (wheelV b w1.heap.size cap a ts' D.now w3 HP3.out (fun x hx => wheel_good HD.out x (HSUB.out x hx)) (by have := HLE.out; omega) HH.out (fun x hx => wheel_due HD.out x (HSUB.out x hx))).mono ?_
        rintro e w9 ⟨v9, tk, rfl, o9, hs9, hp9, t9⟩
        have HB9 : Hid (Below w1.heap.size w1 w9) := HB3.out.trans (t9.below HB3.out.size HP3.out.low (fun k hk => (HP3.out.blk.2 k hk).1))
        have PR9 := below_blk HB9.out hrl1 PR1
        have HEQ : Hid (setD true D id after = (⟨D.now, tk⟩, false)) := (by rw [HTS.out] at hp9; unfold setD; rw [if_pos rfl, if_pos HBAD.out, sort_uniq hs9 (wheel_sort HD.out) ((wheel_good HD.out).perm hp9) hp9]; exact rfl)
        obtain ⟨va, vc, rfl⟩ := o9.v.shape
        have HO9 : Hid (OwT w9 w.heap.size (.slice va tk.length vc) tk) := o9.base (by have := HB1.out.size; have := HB3.out.size; omega)
        have HNV : Hid ((Value.slice va tk.length vc).ownBlock = none ∨ (Value.slice va tk.length vc).ownBlock ≠ some (w.heap.size + 1)) := by
          right
          intro e
          have h1 := (World.ownsRow.lt o9 _ e).1
          have := HB3.out.size
          omega
        obtain ⟨x0, f0⟩ := at_block PR9 0 _ rfl
        obtain ⟨x1, f1⟩ := at_block PR9 1 _ rfl
        have HBF : Hid (Below w.heap.size w w9) := HB1.out.trans (HB9.out.mono HB1.out.size)
        clear o9 hs9 hp9 t9 PR9 z0 y0
        go_wp2
        refine bodyPost_ret (v := .tuple #[.agg #[.int .i64 D.now, .slice va tk.length vc], .bool false]) (by simp [results, Tryz.results114, go_sem, *]) rfl ?_
        rw [HEQ.out]
        exact ⟨_, rfl, (HO9.out.kept (set_grown _ _ _ _) HNV.out).kept (set_grown _ _ _ _) HNV.out, (HBF.out.setCell (by simp) _).setCell (by simp) _⟩
      · have HBADN : Hid (badS D id after = false) := by
          show _ = _
          have := HN.out
          simp only [badS, Bool.or_eq_false_iff, Bool.and_eq_false_iff, decide_eq_false_iff_not]
          omega
        have hb40 : ((n : Int) == 40) = false := by simp; omega
        have hb41 : decide ((n : Int) = 40) = false := by simp; omega
        go_wp2_with fail
        refine (pushV b w1.heap.size cap a ts' ⟨id, D.now + after⟩ w3 HP3.out HGN.out HLE.out HB23.out HH.out).mono ?_
        rintro e w4 ⟨g4, cap4, ts4, rfl, hpm4, hh4, p4, b4⟩
        have HB4 : Hid (Below w1.heap.size w1 w4) := HB3.out.trans b4
        have HP4 : Hid (HP w4 w1.heap.size b (some ⟨g4, 0, none⟩) cap4 ts4) := p4
        have HPM4 : Hid (ts4.Perm (ts' ++ [⟨id, D.now + after⟩])) := hpm4
        have HH4 : Hid (HeapL ts4.length ts4) := hh4
        have HL4 : Hid (ts4.length ≤ 100) := by have := hpm4.length_eq; have := HLE.out; show _ ≤ _; simp at *; omega
        have PB4 := below_blk HB4.out (by omega) PB1
        clear z0 y0 hpm4 hh4 p4 b4
        obtain ⟨z0, y0⟩ := at_block PB4 0 _ rfl
        go_wp2_with fail
        refine (wheelV b w1.heap.size cap4 (some ⟨g4, 0, none⟩) ts4 D.now w4 HP4.out (HGN.out.perm HPM4.out) HL4.out HH4.out (fun x hx => HDN.out x (HPM4.out.mem_iff.1 hx))).mono ?_
        rintro e w9 ⟨v9, tk, rfl, o9, hs9, hp9, t9⟩
        have HB9 : Hid (Below w1.heap.size w1 w9) := HB4.out.trans (t9.below HB4.out.size HP4.out.low (fun k hk => (HP4.out.blk.2 k hk).1))
        have PR9 := below_blk HB9.out hrl1 PR1
        have HEQ : Hid (setD true D id after = (⟨D.now, tk⟩, true)) := (set_end HD.out HSP.out HBADN.out hs9 (hp9.trans HPM4.out))
        obtain ⟨va, vc, rfl⟩ := o9.v.shape
        have HO9 : Hid (OwT w9 w.heap.size (.slice va tk.length vc) tk) := o9.base (by have := HB1.out.size; have := HB4.out.size; omega)
        have HNV : Hid ((Value.slice va tk.length vc).ownBlock = none ∨ (Value.slice va tk.length vc).ownBlock ≠ some (w.heap.size + 1)) := by
          right
          intro e
          have h1 := (World.ownsRow.lt o9 _ e).1
          have := HB4.out.size
          omega
        obtain ⟨x0, f0⟩ := at_block PR9 0 _ rfl
        obtain ⟨x1, f1⟩ := at_block PR9 1 _ rfl
        have HBF : Hid (Below w.heap.size w w9) := HB1.out.trans (HB9.out.mono HB1.out.size)
        clear o9 hs9 hp9 t9 PR9 z0 y0
        go_wp2
        refine bodyPost_ret (v := .tuple #[.agg #[.int .i64 D.now, .slice va tk.length vc], .bool true]) (by simp [results, Tryz.results114, go_sem, *]) rfl ?_
        rw [HEQ.out]
        exact ⟨_, rfl, (HO9.out.kept (set_grown _ _ _ _) HNV.out).kept (set_grown _ _ _ _) HNV.out, (HBF.out.setCell (by simp) _).setCell (by simp) _⟩
    case true =>
      have HBADN : Hid (badS D id after = false) := by
        show _ = _
        have := HQT.out rfl
        simp only [badS, Bool.or_eq_false_iff, Bool.and_eq_false_iff, decide_eq_false_iff_not]
        omega
      go_wp2_with fail
      refine (pushV b w1.heap.size cap a ts' ⟨id, D.now + after⟩ w3 HP3.out HGN.out HLE.out HB23.out HH.out).mono ?_
      rintro e w4 ⟨g4, cap4, ts4, rfl, hpm4, hh4, p4, b4⟩
      have HB4 : Hid (Below w1.heap.size w1 w4) := HB3.out.trans b4
      have HP4 : Hid (HP w4 w1.heap.size b (some ⟨g4, 0, none⟩) cap4 ts4) := p4
      have HPM4 : Hid (ts4.Perm (ts' ++ [⟨id, D.now + after⟩])) := hpm4
      have HH4 : Hid (HeapL ts4.length ts4) := hh4
      have HL4 : Hid (ts4.length ≤ 100) := by have := hpm4.length_eq; have := HLE.out; show _ ≤ _; simp at *; omega
      have PB4 := below_blk HB4.out (by omega) PB1
      clear z0 y0 hpm4 hh4 p4 b4
      obtain ⟨z0, y0⟩ := at_block PB4 0 _ rfl
      go_wp2_with fail
      refine (wheelV b w1.heap.size cap4 (some ⟨g4, 0, none⟩) ts4 D.now w4 HP4.out (HGN.out.perm HPM4.out) HL4.out HH4.out (fun x hx => HDN.out x (HPM4.out.mem_iff.1 hx))).mono ?_
      rintro e w9 ⟨v9, tk, rfl, o9, hs9, hp9, t9⟩
      have HB9 : Hid (Below w1.heap.size w1 w9) := HB4.out.trans (t9.below HB4.out.size HP4.out.low (fun k hk => (HP4.out.blk.2 k hk).1))
      have PR9 := below_blk HB9.out hrl1 PR1
      have HEQ : Hid (setD true D id after = (⟨D.now, tk⟩, true)) := (set_end HD.out HSP.out HBADN.out hs9 (hp9.trans HPM4.out))
      obtain ⟨va, vc, rfl⟩ := o9.v.shape
      have HO9 : Hid (OwT w9 w.heap.size (.slice va tk.length vc) tk) := o9.base (by have := HB1.out.size; have := HB4.out.size; omega)
      have HNV : Hid ((Value.slice va tk.length vc).ownBlock = none ∨ (Value.slice va tk.length vc).ownBlock ≠ some (w.heap.size + 1)) := by
        right
        intro e
        have h1 := (World.ownsRow.lt o9 _ e).1
        have := HB4.out.size
        omega
      obtain ⟨x0, f0⟩ := at_block PR9 0 _ rfl
      obtain ⟨x1, f1⟩ := at_block PR9 1 _ rfl
      have HBF : Hid (Below w.heap.size w w9) := HB1.out.trans (HB9.out.mono HB1.out.size)
      clear o9 hs9 hp9 t9 PR9 z0 y0
      go_wp2
      refine bodyPost_ret (v := .tuple #[.agg #[.int .i64 D.now, .slice va tk.length vc], .bool true]) (by simp [results, Tryz.results114, go_sem, *]) rfl ?_
      rw [HEQ.out]
      exact ⟨_, rfl, (HO9.out.kept (set_grown _ _ _ _) HNV.out).kept (set_grown _ _ _ _) HNV.out, (HBF.out.setCell (by simp) _).setCell (by simp) _⟩

end Go.Proofs.YtnklnhnjmikooaaGreat
