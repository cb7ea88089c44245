
/- The contract of the program's WheelStop. -/
import Derived.Test.YtnklnhnjmikooaaGreatHpH
import Derived.Test.YtnklnhnjmikooaaGreatWhT
import Derived.Test.YtnklnhnjmikooaaGreatWhI
namespace Go.Proofs.YtnklnhnjmikooaaGreat
open Go.RowKit

theorem OwT.base {w : World} {b b' : Nat} {v : Value} {ts : List DTim} (o : OwT w b v ts) (hb : b' ≤ b) : OwT w b' v ts := by
  obtain ⟨hl, hh⟩ := o
  refine ⟨hl, ?_⟩
  rcases hh with hh | ⟨k, c, cur, hv, hb', hr⟩
  · exact .inl hh
  · exact .inr ⟨k, c, cur, hv, Nat.le_trans hb hb', hr⟩

set_option maxHeartbeats 4000000 in
theorem wheelV (h base cap : Nat) (a : Option Addr) (ts : List DTim) (now : Int) (w : World) (p : HP w base h a cap ts) (gd : GoodT ts) (hm : ts.length ≤ 100) (hh : HeapL ts.length ts) (hall : ∀ t ∈ ts, t.due ≤ 2000000) :
    Calls Tryz.prog 112 #[.pointer (some ⟨h, 0, none⟩), .int .i64 now] w fun e w' => ∃ v tk, e = .returned (.agg #[.int .i64 now, v]) ∧ OwT w' w.heap.size v tk ∧ SortT tk ∧ tk.Perm ts ∧ Two w w' h (Value.slice a ts.length cap).ownBlock := by
  have HPP : Hid (HP w base h a cap ts) := p
  have GD : Hid (GoodT ts) := gd
  have HH : Hid (HeapL ts.length ts) := hh
  have HA : Hid (∀ t ∈ ts, t.due ≤ 2000000) := hall
  have HM : Hid (ts.length ≤ 100) := hm
  have hhw : h < w.heap.size := p.blk.1
  have HOB : Hid (∀ k, (Value.slice a ts.length cap).ownBlock = some k → k < w.heap.size) := fun k hk => (p.blk.2 k hk).2
  obtain ⟨ob, hob⟩ : ∃ ob, ob = (Value.slice a ts.length cap).ownBlock := ⟨_, rfl⟩
  rw [← hob] at HOB ⊢
  have HOE : Hid (ob = (Value.slice a ts.length cap).ownBlock) := hob
  clear p gd hh hall hm hob
  go_enter Tryz.func112, Tryz.ntmps112
  go_wp2_with fail
  generalize hW : w.alloc _ = W
  have BW : Below w.heap.size w W := by rw [← hW]; exact (Below.refl _ w).alloc (Nat.le_refl _) _
  have PW : W.heap[w.heap.size]? = some (.cells #[.int .i64 0, .slice none 0 0] 37 (0, 0)) := by rw [← hW]; exact heap_alloc_new w _
  clear hW
  refine (takeV h base cap a ts 2000000 W (HPP.out.below BW) GD.out HM.out HH.out).mono ?_
  rintro e w1 ⟨v, tk, cur, rfl, o1, ht, hc, p1, t1⟩
  rw [← HOE.out] at t1
  have hcur : cur = [] := by
    cases cur with
    | nil => rfl
    | cons y ys =>
      have h1 := hc y (by simp)
      have h2 := HA.out y (ht.perm.mem_iff.1 (by simp))
      omega
  subst hcur
  have HPM : Hid (tk.Perm ts) := by have := ht.perm; rw [List.append_nil] at this; exact this
  have HS : Hid (SortT tk) := ht.sort
  have HSW : Hid (w.heap.size < W.heap.size) := (Array.getElem?_eq_some_iff.1 PW).1
  have PW1 : w1.heap[w.heap.size]? = some (.cells #[.int .i64 0, .slice none 0 0] 37 (0, 0)) := by
    rw [t1.block w.heap.size HSW.out (by omega) (fun e => by have := HOB.out _ e.symm; omega)]
    exact PW
  obtain ⟨z0, y0⟩ := at_block PW1 0 _ rfl
  obtain ⟨z1, y1⟩ := at_block PW1 1 _ rfl
  obtain ⟨va, vc, rfl⟩ := o1.v.shape
  have HO1 : Hid (OwT w1 W.heap.size (.slice va tk.length vc) tk) := o1
  have HT1 : Hid (Two W w1 h ob) := t1
  have HBW : Hid (Below w.heap.size w W) := BW
  clear o1 t1 ht hc p1 PW PW1 BW
  go_wp2
  refine bodyPost_ret (v := .agg #[.int .i64 now, .slice va tk.length vc]) (by simp [results, Tryz.results112, go_sem, *]) rfl ?_
  refine ⟨_, tk, rfl, ?_, HS.out, HPM.out, ?_⟩
  · have hne : (Value.slice va tk.length vc).ownBlock = none ∨ (Value.slice va tk.length vc).ownBlock ≠ some w.heap.size := by
      right
      intro e
      have := (World.ownsRow.lt HO1.out _ e).1
      have := HSW.out
      omega
    exact ((HO1.out.base (Nat.le_of_lt HSW.out)).kept (set_grown _ _ _ _) hne).kept (set_grown _ _ _ _) hne
  · refine ⟨HT1.out.os.trans HBW.out.os, HT1.out.tape.trans HBW.out.tape, HT1.out.output.trans HBW.out.output, ?_, fun k hk h1 h2 => ?_⟩
    · have := HBW.out.size
      have := HT1.out.size
      simp
      omega
    · rw [Below.heap_setCell _ _ _ _ (by simp; omega), Below.heap_setCell _ _ _ _ (by simp; omega), HT1.out.block k (by have := HSW.out; omega) h1 h2, HBW.out.block k hk]

/-- What stopping comes to. -/
def StopP (ts : List DTim) (id : Int) (b : Bool) (ts' : List DTim) : Prop := (b = false ∧ placeT ts id = -1 ∧ ts' = ts) ∨ (b = true ∧ ∃ (i : Nat) (t : DTim), placeT ts id = (i : Int) ∧ ts[i]? = some t ∧ t.id = id ∧ (t :: ts').Perm ts)

set_option maxHeartbeats 4000000 in
theorem stopV (h base cap : Nat) (a : Option Addr) (ts : List DTim) (id : Int) (w : World) (p : HP w base h a cap ts) (gd : GoodT ts) (hm : ts.length ≤ 100) (hh : HeapL ts.length ts) :
    Calls Tryz.prog 117 #[.pointer (some ⟨h, 0, none⟩), .int .i64 id] w fun e w' => ∃ b ts', e = .returned (.bool b) ∧ StopP ts id b ts' ∧ HeapL ts'.length ts' ∧ HP w' base h a cap ts' ∧ Two w w' h (Value.slice a ts.length cap).ownBlock := by
  have HPP : Hid (HP w base h a cap ts) := p
  have GD : Hid (GoodT ts) := gd
  have HH : Hid (HeapL ts.length ts) := hh
  have HM : Hid (ts.length ≤ 100) := hm
  have hbx := p.cell.1
  have HVT : Hid (VTims w (.slice a ts.length cap) ts) := p.row.v
  clear p gd hh hm
  go_enter Tryz.func117, Tryz.ntmps117
  go_wp2_with fail
  refine (placeV _ ts id w HVT.out).mono ?_
  rintro e w1 ⟨rfl, b1⟩
  have HP1 : Hid (HP w1 base h a cap ts) := HPP.out.below b1
  have HB1 : Hid (Below w.heap.size w w1) := b1
  clear b1 hbx
  rcases placeT_cases ts id with ⟨hp, _⟩ | ⟨i, t, ht, hid, _, hp⟩
  · have HPL : Hid (placeT ts id = -1) := hp
    rw [hp]
    clear hp
    go_wp2
    go_ret
    exact ⟨false, ts, rfl, .inl ⟨rfl, HPL.out, rfl⟩, HH.out, HP1.out, two_below HB1.out _ _⟩
  · have hi := (List.getElem?_eq_some_iff.1 ht).1
    obtain ⟨g, ha⟩ := HPP.out.pos (by omega)
    subst ha
    have HPL : Hid (placeT ts id = (i : Int) ∧ ts[i]? = some t ∧ t.id = id) := ⟨hp, ht, hid⟩
    rw [hp]
    clear hp ht hid hi
    go_wp2_with fail
    refine (removeV h g cap base i ts t w1 HP1.out GD.out HM.out HPL.out.2.1 HH.out).mono ?_
    rintro e w2 ⟨ts', rfl, o2, p2, t2⟩
    go_wp2
    go_ret
    exact ⟨true, ts', rfl, .inr ⟨rfl, i, t, HPL.out.1, HPL.out.2.1, HPL.out.2.2, o2.perm⟩, o2.heap, p2, (two_below HB1.out _ _).trans t2⟩

theorem wheel_good {D : DWheel} (h : WheelP D) : GoodT D.tms := fun t ht => by
  obtain ⟨i, hi⟩ := List.getElem?_of_mem ht
  exact (h.2.2 i (List.getElem?_eq_some_iff.1 hi).1 t hi).1
theorem wheel_kk {D : DWheel} (h : WheelP D) : ∀ j i, i < j → j < D.tms.length → kk D.tms i < kk D.tms j := by
  intro j
  induction j with
  | zero => intro i hi; omega
  | succ j ih =>
    intro i hi hj
    obtain ⟨t, ht⟩ : ∃ t, D.tms[j + 1]? = some t := ⟨_, List.getElem?_eq_getElem hj⟩
    obtain ⟨p, hp⟩ : ∃ p, D.tms[j]? = some p := ⟨_, List.getElem?_eq_getElem (by omega)⟩
    have ha := (h.2.2 (j + 1) hj t ht).2.2.1 p (by omega) (by simpa using hp)
    have g := wheel_good h
    rw [ahead_k (g.get hp) (g.get ht)] at ha
    have ha := of_decide_eq_true ha
    rw [← kk_eq hp, ← kk_eq ht] at ha
    by_cases e : i = j
    · subst e; exact ha
    · have := ih i (by omega) (by omega)
      omega
theorem wheel_sort {D : DWheel} (h : WheelP D) : SortT D.tms := by
  unfold SortT
  rw [List.pairwise_iff_getElem]
  intro i j hi hj hij
  have := wheel_kk h j i hij hj
  rw [kk_eq (List.getElem?_eq_getElem hi), kk_eq (List.getElem?_eq_getElem hj)] at this
  omega
theorem wheel_heap {D : DWheel} (h : WheelP D) : HeapL D.tms.length D.tms := fun c hc0 hc => by
  have := wheel_kk h c ((c - 1) / 2) (by omega) hc
  omega
theorem wheel_due {D : DWheel} (h : WheelP D) : ∀ t ∈ D.tms, t.due ≤ 2000000 := fun t ht => by
  obtain ⟨i, hi⟩ := List.getElem?_of_mem ht
  exact (h.2.2 i (List.getElem?_eq_some_iff.1 hi).1 t hi).2.1.2

end Go.Proofs.YtnklnhnjmikooaaGreat

namespace Go.Proofs.YtnklnhnjmikooaaGreat
open Go.RowKit

/-- The wheel without this timer, and whether there was one. -/
def stopD (c : Bool) (D : DWheel) (id : Int) : DWheel × Bool := if c then (if placeT D.tms id < 0 then (D, false) else (⟨D.now, D.tms.eraseIdx (placeT D.tms id).toNat⟩, true)) else (⟨0, []⟩, false)
/-- A wheel and a bool, in memory of its own. -/
def ResW (R : DWheel × Bool) (w : World) (e : Ending) (w' : World) : Prop := ∃ tv, e = .returned (.tuple #[.agg #[.int .i64 R.1.now, tv], .bool R.2]) ∧ OwT w' w.heap.size tv R.1.tms ∧ Below w.heap.size w w'

theorem perm_erase {ts ts' : List DTim} {i : Nat} {t : DTim} (ht : ts[i]? = some t) (p : (t :: ts').Perm ts) : ts'.Perm (ts.eraseIdx i) := by
  obtain ⟨hl, rfl⟩ := List.getElem?_eq_some_iff.1 ht
  have h1 : ts = ts.take i ++ ts[i] :: ts.drop (i + 1) := by rw [List.getElem_cons_drop]; exact (List.take_append_drop i ts).symm
  have h2 : (ts[i] :: ts').Perm (ts[i] :: (ts.take i ++ ts.drop (i + 1))) := p.trans (by
    have h3 := List.perm_middle (a := ts[i]) (l₁ := ts.take i) (l₂ := ts.drop (i + 1))
    rw [← h1] at h3
    exact h3)
  rw [List.eraseIdx_eq_take_drop_succ]
  exact h2.cons_inv
theorem SortT.erase {ts : List DTim} (h : SortT ts) (i : Nat) : SortT (ts.eraseIdx i) := List.Pairwise.sublist (List.eraseIdx_sublist ts i) h
/-- What is told in the end, in order. -/
theorem stop_end {D : DWheel} {id : Int} {b : Bool} {ts' tk : List DTim} (hD : WheelP D) (hs : StopP D.tms id b ts') (hk : SortT tk) (hp : tk.Perm ts') : stopD true D id = (⟨D.now, tk⟩, b) := by
  have g := wheel_good hD
  rcases hs with ⟨rfl, h1, rfl⟩ | ⟨rfl, i, t, h1, h2, h3, h4⟩
  · have : tk = D.tms := sort_uniq hk (wheel_sort hD) (g.perm hp) hp
    subst this
    unfold stopD
    rw [if_pos rfl, h1, if_pos (by omega)]
  · have hp' := hp.trans (perm_erase h2 h4)
    have : tk = D.tms.eraseIdx i := sort_uniq hk ((wheel_sort hD).erase i) (fun x hx => g x (List.mem_of_mem_eraseIdx (hp'.mem_iff.1 hx))) hp'
    subst this
    unfold stopD
    rw [if_pos rfl, h1, if_neg (by omega)]
    simp

set_option maxHeartbeats 4000000 in
theorem iStopV (v : Value) (D : DWheel) (id : Int) (w : World) (h : VWheel w v D) (hl : D.tms.length ≤ 1048576) : Calls Tryz.prog 107 #[v, .int .i64 id] w (ResW (stopD (tB (WheelP D)) D id) w) := by
  have HV0 : Hid (VWheel w v D) := h
  obtain ⟨tv, rfl, h⟩ := h
  obtain ⟨ta, tc', rfl⟩ := h.shape
  obtain ⟨n, hn⟩ : ∃ n, n = D.tms.length := ⟨_, rfl⟩
  rw [← hn] at HV0 ⊢
  clear h hn
  cases hok : tB (WheelP D) with
  | false =>
    have HOK : Hid (tB (WheelP D) = false) := hok
    clear hok
    go_enter Tryz.func107, Tryz.ntmps107
    go_wp2_with fail
    generalize hW : World.alloc (World.alloc w _) _ = W
    have BW : Below w.heap.size w W := by rw [← hW]; exact ((Below.refl _ w).alloc (Nat.le_refl _) _).alloc (by simp) _
    have PR : W.heap[w.heap.size + 1]? = some (.cells #[.int .i64 0, .slice none 0 0] 37 (0, 0)) := by rw [← hW]; simpa using heap_alloc_new (World.alloc w (.cells #[.int .i64 D.now, .slice ta n tc'] 37)) (.cells #[.int .i64 0, .slice none 0 0] 37)
    clear hW
    refine (iWheelOkV _ D W (HV0.out.ext (ext_below BW))).mono ?_
    rintro e w1 ⟨rfl, b1⟩
    rw [HOK.out]
    have PR1 := below_blk b1 (Array.getElem?_eq_some_iff.1 PR).1 PR
    have HB1 : Hid (Below w.heap.size w w1) := BW.trans (b1.mono BW.size)
    obtain ⟨z0, y0⟩ := at_block PR1 0 _ rfl
    obtain ⟨z1, y1⟩ := at_block PR1 1 _ rfl
    clear b1 PR PR1 BW
    go_wp2
    refine bodyPost_ret (v := .tuple #[.agg #[.int .i64 0, .slice none 0 0], .bool false]) (by simp [results, Tryz.results107, go_sem, *]) rfl ?_
    refine ⟨_, rfl, World.ownsRow_nil _ _ _ _, ?_⟩
    first | exact HB1.out | exact HB1.out.setCell (by simp) _ | exact (HB1.out.setCell (by simp) _).setCell (by simp) _
  | true =>
    have HOK : Hid (tB (WheelP D) = true) := hok
    have HD : Hid (WheelP D) := tB_iff.1 hok
    have HL : Hid (D.tms.length ≤ 1048576) := hl
    clear hok
    go_enter Tryz.func107, Tryz.ntmps107
    go_wp2_with fail
    generalize hW : World.alloc (World.alloc w _) _ = W
    have BW : Below w.heap.size w W := by rw [← hW]; exact ((Below.refl _ w).alloc (Nat.le_refl _) _).alloc (by simp) _
    have PB : W.heap[w.heap.size]? = some (.cells #[.int .i64 D.now, .slice ta n tc'] 37 (0, 0)) := by rw [← hW, Below.heap_alloc _ _ _ (by simp)]; exact heap_alloc_new w _
    have PR : W.heap[w.heap.size + 1]? = some (.cells #[.int .i64 0, .slice none 0 0] 37 (0, 0)) := by rw [← hW]; simpa using heap_alloc_new (World.alloc w (.cells #[.int .i64 D.now, .slice ta n tc'] 37)) (.cells #[.int .i64 0, .slice none 0 0] 37)
    clear hW
    refine (iWheelOkV _ D W (HV0.out.ext (ext_below BW))).mono ?_
    rintro e w1 ⟨rfl, b1⟩
    rw [HOK.out]
    have hbl := (Array.getElem?_eq_some_iff.1 PB).1
    have hrl := (Array.getElem?_eq_some_iff.1 PR).1
    have PB1 := below_blk b1 hbl PB
    have PR1 := below_blk b1 hrl PR
    have hrl1 := (Array.getElem?_eq_some_iff.1 PR1).1
    have HB1 : Hid (Below w.heap.size w w1) := BW.trans (b1.mono BW.size)
    obtain ⟨z0, y0⟩ := at_block PB1 0 _ rfl
    obtain ⟨z1, y1⟩ := at_block PB1 1 _ rfl
    clear b1 PR PB BW hbl hrl
    go_wp2_with fail
    refine (alarmsOfV _ D w1 (HV0.out.ext (ext_below HB1.out)) HL.out).mono ?_
    rintro e w2 ⟨b, a, cap, rfl, p2, b2⟩
    have HP2 : Hid (HP w2 w1.heap.size b a cap D.tms) := p2
    have HB2 : Hid (Below w1.heap.size w1 w2) := b2
    clear p2 b2 z0 y0 z1 y1
    go_wp2_with fail
    refine (stopV b w1.heap.size cap a D.tms id w2 HP2.out (wheel_good HD.out) (by have := HD.out.2.1; omega) (wheel_heap HD.out)).mono ?_
    rintro e w3 ⟨q, ts', rfl, hs, hh, p3, t3⟩
    have HB3 : Hid (Below w1.heap.size w1 w3) := HB2.out.trans (t3.below HB2.out.size HP2.out.low (fun k hk => (HP2.out.blk.2 k hk).1))
    have HP3 : Hid (HP w3 w1.heap.size b a cap ts') := p3
    have HS : Hid (StopP D.tms id q ts') := hs
    have HH : Hid (HeapL ts'.length ts') := hh
    have HSUB : Hid (∀ x ∈ ts', x ∈ D.tms) := fun x hx => by
      rcases HS.out with ⟨_, _, e⟩ | ⟨_, i, t, _, _, _, hp⟩
      · rw [e] at hx; exact hx
      · exact hp.mem_iff.1 (by simp [hx])
    have HLE : Hid (ts'.length ≤ 100) := by
      have h40 := HD.out.2.1
      show _ ≤ _
      rcases HS.out with ⟨_, _, e⟩ | ⟨_, i, t, _, _, _, hp⟩
      · rw [e]; omega
      · have := hp.length_eq
        simp at this
        omega
    have PB3 := below_blk HB3.out (by omega) PB1
    have PR3 := below_blk HB3.out hrl1 PR1
    obtain ⟨z0, y0⟩ := at_block PB3 0 _ rfl
    clear p3 t3 hs hh
    go_wp2_with fail
    refine (wheelV b w1.heap.size cap a ts' D.now w3 HP3.out (fun x hx => wheel_good HD.out x (HSUB.out x hx)) HLE.out HH.out (fun x hx => wheel_due HD.out x (HSUB.out x hx))).mono ?_
    rintro e w4 ⟨v4, tk, rfl, o4, hs4, hp4, t4⟩
    have HB4 : Hid (Below w1.heap.size w1 w4) := HB3.out.trans (t4.below HB3.out.size HP3.out.low (fun k hk => (HP3.out.blk.2 k hk).1))
    have PR4 := below_blk HB4.out hrl1 PR1
    have HEQ : Hid (stopD true D id = (⟨D.now, tk⟩, q)) := stop_end HD.out HS.out hs4 hp4
    obtain ⟨va, vc, rfl⟩ := o4.v.shape
    have HO4 : Hid (OwT w4 w.heap.size (.slice va tk.length vc) tk) := o4.base (by have := HB1.out.size; have := HB3.out.size; omega)
    have HNV : Hid ((Value.slice va tk.length vc).ownBlock = none ∨ (Value.slice va tk.length vc).ownBlock ≠ some (w.heap.size + 1)) := by
      right
      intro e
      have h1 := (World.ownsRow.lt o4 _ e).1
      have := HB3.out.size
      omega
    obtain ⟨x0, f0⟩ := at_block PR4 0 _ rfl
    obtain ⟨x1, f1⟩ := at_block PR4 1 _ rfl
    have HBF : Hid (Below w.heap.size w w4) := HB1.out.trans (HB4.out.mono HB1.out.size)
    clear o4 hs4 hp4 t4 z0 y0 PB1 PR1 PB3 PR3 PR4
    go_wp2
    refine bodyPost_ret (v := .tuple #[.agg #[.int .i64 D.now, .slice va tk.length vc], .bool q]) (by simp [results, Tryz.results107, go_sem, *]) rfl ?_
    rw [HEQ.out]
    refine ⟨_, rfl, (HO4.out.kept (set_grown _ _ _ _) HNV.out).kept (set_grown _ _ _ _) HNV.out, (HBF.out.setCell (by simp) _).setCell (by simp) _⟩

end Go.Proofs.YtnklnhnjmikooaaGreat

