
/- The contracts of wheel and stop, and what a wheel that may be says of its timers. -/
import Derived.Test.YtnklnhnjmikooaaGreatHpH
import Derived.Test.YtnklnhnjmikooaaGreatWhT
import Derived.Test.YtnklnhnjmikooaaGreatWhI
namespace Go.Proofs.YtnklnhnjmikooaaGreat
open Go.RowKit

theorem OwT.base {w : World} {b b' : Nat} {v : Value} {ts : List DTim} (o : OwT w b v ts) (hb : b' ≤ b) : OwT w b' v ts := by
  obtain ⟨hl, hh⟩ := o
  refine ⟨hl, ?_⟩
  rcases hh with hh | ⟨k, c, cur, hv, hb', hr⟩
  · exact .inl hh
  · exact .inr ⟨k, c, cur, hv, Nat.le_trans hb hb', hr⟩

set_option maxHeartbeats 4000000 in
theorem wheelV (h base cap : Nat) (a : Option Addr) (ts : List DTim) (now : Int) (w : World) (p : HP w base h a cap ts) (gd : GoodT ts) (hm : ts.length ≤ 100) (hh : HeapL ts.length ts) (hall : ∀ t ∈ ts, t.due ≤ 2000000) :
    Calls Tryz.prog 112 #[.pointer (some ⟨h, 0, none⟩), .int .i64 now] w fun e w' => ∃ v tk, e = .returned (.agg #[.int .i64 now, v]) ∧ OwT w' w.heap.size v tk ∧ SortT tk ∧ tk.Perm ts ∧ Two w w' h (Value.slice a ts.length cap).ownBlock := by
  have HPP : Hid (HP w base h a cap ts) := p
  have GD : Hid (GoodT ts) := gd
  have HH : Hid (HeapL ts.length ts) := hh
  have HA : Hid (∀ t ∈ ts, t.due ≤ 2000000) := hall
  have HM : Hid (ts.length ≤ 100) := hm
  have hhw : h < w.heap.size := p.blk.1
  have HOB : Hid (∀ k, (Value.slice a ts.length cap).ownBlock = some k → k < w.heap.size) := fun k hk => (p.blk.2 k hk).2
  obtain ⟨ob, hob⟩ : ∃ ob, ob = (Value.slice a ts.length cap).ownBlock := ⟨_, rfl⟩
  rw [← hob] at HOB ⊢
  have HOE : Hid (ob = (Value.slice a ts.length cap).ownBlock) := hob
  clear p gd hh hall hm hob
  go_enter Tryz.func112, Tryz.ntmps112
  go_wp2_with fail
  generalize hW : w.alloc _ = W
  have BW : Below w.heap.size w W := by rw [← hW]; exact (Below.refl _ w).alloc (Nat.le_refl _) _
  have PW : W.heap[w.heap.size]? = some (.cells #[.int .i64 0, .slice none 0 0] 37 (0, 0)) := by rw [← hW]; exact heap_alloc_new w _
  clear hW
  refine (takeV h base cap a ts 2000000 W (HPP.out.below BW) GD.out HM.out HH.out).mono ?_
  rintro e w1 ⟨v, tk, cur, rfl, o1, ht, hc, p1, t1⟩
  rw [← HOE.out] at t1
  have hcur : cur = [] := by
    cases cur with
    | nil => rfl
    | cons y ys =>
      have h1 := hc y (by simp)
      have h2 := HA.out y (ht.perm.mem_iff.1 (by simp))
      omega
  subst hcur
  have HPM : Hid (tk.Perm ts) := by have := ht.perm; rw [List.append_nil] at this; exact this
  have HS : Hid (SortT tk) := ht.sort
  have HSW : Hid (w.heap.size < W.heap.size) := (Array.getElem?_eq_some_iff.1 PW).1
  have PW1 : w1.heap[w.heap.size]? = some (.cells #[.int .i64 0, .slice none 0 0] 37 (0, 0)) := by
    rw [t1.block w.heap.size HSW.out (by omega) (fun e => by have := HOB.out _ e.symm; omega)]
    exact PW
  obtain ⟨z0, y0⟩ := at_block PW1 0 _ rfl
  obtain ⟨z1, y1⟩ := at_block PW1 1 _ rfl
  obtain ⟨va, vc, rfl⟩ := o1.v.shape
  have HO1 : Hid (OwT w1 W.heap.size (.slice va tk.length vc) tk) := o1
  have HT1 : Hid (Two W w1 h ob) := t1
  have HBW : Hid (Below w.heap.size w W) := BW
  clear o1 t1 ht hc p1 PW PW1 BW
  go_wp2
  refine bodyPost_ret (v := .agg #[.int .i64 now, .slice va tk.length vc]) (by simp [results, Tryz.results112, go_sem, *]) rfl ?_
  refine ⟨_, tk, rfl, ?_, HS.out, HPM.out, ?_⟩
  · have hne : (Value.slice va tk.length vc).ownBlock = none ∨ (Value.slice va tk.length vc).ownBlock ≠ some w.heap.size := by
      right
      intro e
      have := (World.ownsRow.lt HO1.out _ e).1
      have := HSW.out
      omega
    exact ((HO1.out.base (Nat.le_of_lt HSW.out)).kept (set_grown _ _ _ _) hne).kept (set_grown _ _ _ _) hne
  · refine ⟨HT1.out.os.trans HBW.out.os, HT1.out.tape.trans HBW.out.tape, HT1.out.output.trans HBW.out.output, ?_, fun k hk h1 h2 => ?_⟩
    · have := HBW.out.size
      have := HT1.out.size
      simp
      omega
    · rw [Below.heap_setCell _ _ _ _ (by simp; omega), Below.heap_setCell _ _ _ _ (by simp; omega), HT1.out.block k (by have := HSW.out; omega) h1 h2, HBW.out.block k hk]

/-- What stopping comes to. -/
def StopP (ts : List DTim) (id : Int) (b : Bool) (ts' : List DTim) : Prop := (b = false ∧ placeT ts id = -1 ∧ ts' = ts) ∨ (b = true ∧ ∃ (i : Nat) (t : DTim), placeT ts id = (i : Int) ∧ ts[i]? = some t ∧ t.id = id ∧ (t :: ts').Perm ts)

set_option maxHeartbeats 4000000 in
theorem stopV (h base cap : Nat) (a : Option Addr) (ts : List DTim) (id : Int) (w : World) (p : HP w base h a cap ts) (gd : GoodT ts) (hm : ts.length ≤ 100) (hh : HeapL ts.length ts) :
    Calls Tryz.prog 117 #[.pointer (some ⟨h, 0, none⟩), .int .i64 id] w fun e w' => ∃ b ts', e = .returned (.bool b) ∧ StopP ts id b ts' ∧ HeapL ts'.length ts' ∧ HP w' base h a cap ts' ∧ Two w w' h (Value.slice a ts.length cap).ownBlock := by
  have HPP : Hid (HP w base h a cap ts) := p
  have GD : Hid (GoodT ts) := gd
  have HH : Hid (HeapL ts.length ts) := hh
  have HM : Hid (ts.length ≤ 100) := hm
  have hbx := p.cell.1
  have HVT : Hid (VTims w (.slice a ts.length cap) ts) := p.row.v
  clear p gd hh hm
  go_enter Tryz.func117, Tryz.ntmps117
  go_wp2_with fail
  refine (placeV _ ts id w HVT.out).mono ?_
  rintro e w1 ⟨rfl, b1⟩
  have HP1 : Hid (HP w1 base h a cap ts) := HPP.out.below b1
  have HB1 : Hid (Below w.heap.size w w1) := b1
  clear b1 hbx
  rcases placeT_cases ts id with ⟨hp, _⟩ | ⟨i, t, ht, hid, _, hp⟩
  · have HPL : Hid (placeT ts id = -1) := hp
    rw [hp]
    clear hp
    go_wp2
    go_ret
    exact ⟨false, ts, rfl, .inl ⟨rfl, HPL.out, rfl⟩, HH.out, HP1.out, two_below HB1.out _ _⟩
  · have hi := (List.getElem?_eq_some_iff.1 ht).1
    obtain ⟨g, ha⟩ := HPP.out.pos (by omega)
    subst ha
    have HPL : Hid (placeT ts id = (i : Int) ∧ ts[i]? = some t ∧ t.id = id) := ⟨hp, ht, hid⟩
    rw [hp]
    clear hp ht hid hi
    go_wp2_with fail
    refine (removeV h g cap base i ts t w1 HP1.out GD.out HM.out HPL.out.2.1 HH.out).mono ?_
    rintro e w2 ⟨ts', rfl, o2, p2, t2⟩
    go_wp2
    go_ret
    exact ⟨true, ts', rfl, .inr ⟨rfl, i, t, HPL.out.1, HPL.out.2.1, HPL.out.2.2, o2.perm⟩, o2.heap, p2, (two_below HB1.out _ _).trans t2⟩

theorem wheel_good {D : DWheel} (h : WheelP D) : GoodT D.tms := fun t ht => by
  obtain ⟨i, hi⟩ := List.getElem?_of_mem ht
  exact (h.2.2 i (List.getElem?_eq_some_iff.1 hi).1 t hi).1
theorem wheel_kk {D : DWheel} (h : WheelP D) : ∀ j i, i < j → j < D.tms.length → kk D.tms i < kk D.tms j := by
  intro j
  induction j with
  | zero => intro i hi; omega
  | succ j ih =>
    intro i hi hj
    obtain ⟨t, ht⟩ : ∃ t, D.tms[j + 1]? = some t := ⟨_, List.getElem?_eq_getElem hj⟩
    obtain ⟨p, hp⟩ : ∃ p, D.tms[j]? = some p := ⟨_, List.getElem?_eq_getElem (by omega)⟩
    have ha := (h.2.2 (j + 1) hj t ht).2.2.1 p (by omega) (by simpa using hp)
    have g := wheel_good h
    rw [ahead_k (g.get hp) (g.get ht)] at ha
    have ha := of_decide_eq_true ha
    rw [← kk_eq hp, ← kk_eq ht] at ha
    by_cases e : i = j
    · subst e; exact ha
    · have := ih i (by omega) (by omega)
      omega
theorem wheel_sort {D : DWheel} (h : WheelP D) : SortT D.tms := by
  unfold SortT
  rw [List.pairwise_iff_getElem]
  intro i j hi hj hij
  have := wheel_kk h j i hij hj
  rw [kk_eq (List.getElem?_eq_getElem hi), kk_eq (List.getElem?_eq_getElem hj)] at this
  omega
theorem wheel_heap {D : DWheel} (h : WheelP D) : HeapL D.tms.length D.tms := fun c hc0 hc => by
  have := wheel_kk h c ((c - 1) / 2) (by omega) hc
  omega
theorem wheel_due {D : DWheel} (h : WheelP D) : ∀ t ∈ D.tms, t.due ≤ 2000000 := fun t ht => by
  obtain ⟨i, hi⟩ := List.getElem?_of_mem ht
  exact (h.2.2 i (List.getElem?_eq_some_iff.1 hi).1 t hi).2.1.2

end Go.Proofs.YtnklnhnjmikooaaGreat
