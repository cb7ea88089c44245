
/- The exact statement of DutyNew: the walk of the law itself. -/
import Derived.Test.YtgafnajnndbofaaDy4
import Derived.Test.YtgafnajnndbofaaDy5
namespace Go.Proofs.Ytgafnajnndbofaa
open Go.RowKit

theorem newDu_len (c : Bool) (ttl : Int) : (newDu c ttl).1.wh.tms.length ≤ 1048576 := by
  cases c <;> simp [newDu]
theorem hideN {p : Prop} (h : p) : Hid p := h
/-- Rows keep where another row turned. -/
theorem OwT.keep {w w' : World} {base : Nat} {v : Value} {ts : List DTim} {x : Option Nat} (h : OwT w base v ts) (g : w.grownBy w' x) (hn : v.ownBlock = none ∨ v.ownBlock ≠ x) : OwT w' base v ts := h.kept g hn

/-- What is carried: the specification's answer, the program's answer. -/
structure LN (w W : World) (R : DDuty) (sv gv : Value) (s g sb base : Nat) (G : List DTim) : Prop where
  low : Below w.heap.size w W
  s : W.heap[s]? = some (.cells #[.int .i64 R.ttl, .int .i64 R.wh.now, sv] 33 (0, 0))
  sO : OwT W sb sv R.wh.tms
  sl : ∀ k, sv.ownBlock = some k → k < base
  g : W.heap[g]? = some (.cells #[.int .i64 R.ttl, .int .i64 R.wh.now, gv] 33 (0, 0))
  gO : OwT W base gv G
  bl : w.heap.size ≤ base
variable {w W W' : World} {R : DDuty} {sv gv : Value} {s g sb base : Nat} {G G' : List DTim}
theorem LN.grow (h : LN w W R sv gv s g sb base G) (b : Below W.heap.size W W') : LN w W' R sv gv s g sb base G :=
  ⟨h.low.trans (b.mono h.low.size), below_blk b (Array.getElem?_eq_some_iff.1 h.s).1 h.s, h.sO.kept (ext_below b) (by cases hv : sv.ownBlock <;> simp), h.sl, below_blk b (Array.getElem?_eq_some_iff.1 h.g).1 h.g, h.gO.kept (ext_below b) (by cases hv : gv.ownBlock <;> simp), h.bl⟩
theorem LN.turn (h : LN w W R sv gv s g sb base G) (hg : W.grownBy W' gv.ownBlock) (hG : OwT W' base gv G') : LN w W' R sv gv s g sb base G' :=
  ⟨h.low.grown hg h.low.size (fun k hk => Nat.le_trans h.bl (World.ownsRow.lt h.gO k hk).1), (hg.block _ (Array.getElem?_eq_some_iff.1 h.s).1 (ne_row h.gO h.s (by decide))).trans h.s, h.sO.keep hg (by
    cases hv : sv.ownBlock with
    | none => exact .inl rfl
    | some k =>
      right
      intro e
      have h1 := h.sl k hv
      have h2 := (World.ownsRow.lt h.gO k e.symm).1
      omega), h.sl, (hg.block _ (Array.getElem?_eq_some_iff.1 h.g).1 (ne_row h.gO h.g (by decide))).trans h.g, hG, h.bl⟩

set_option maxRecDepth 20000 in
set_option maxHeartbeats 4000000 in
theorem law_DutyNew (s : Int) (w : World) (_s1 : -9223372036854775808 ≤ s) (_s2 : s ≤ 9223372036854775807) :
    Calls Try.prog 4 #[.int .i64 s] w fun e w' => e = .returned (.bool true) ∧ Below w.heap.size w w' := by
  have hE : ∀ w : World, ∀ o, Ext w (w.alloc o) := fun w o => World.grownBy_alloc _ _ _
  have hB : ∀ w : World, ∀ o, Below w.heap.size w (w.alloc o) := fun w o => (Below.refl _ w).alloc (Nat.le_refl _) _
  obtain ⟨⟨R, rb⟩, hR⟩ : ∃ R, R = newDu (tB (DutyP ⟨s, ⟨0, []⟩⟩)) s := ⟨_, rfl⟩
  have HR : Hid ((R, rb) = newDu (tB (DutyP ⟨s, ⟨0, []⟩⟩)) s) := hR
  have HML : Hid (R.wh.tms.length ≤ 1048576) := by have := newDu_len (tB (DutyP ⟨s, ⟨0, []⟩⟩)) s; rw [← hR] at this; exact this
  clear hR
  obtain ⟨m, hm⟩ : ∃ m, m = R.wh.tms.length := ⟨_, rfl⟩
  have HMR : Hid (m = R.wh.tms.length) := hm
  have hml : m ≤ 1048576 := by rw [hm]; exact HML.out
  clear hm
  go_enter Try.func4, Try.ntmps4
  go_wp2_with fail
  refine (sDutyNewV s w).mono ?_
  rintro e w1 ⟨sv, rfl, o1, b1⟩
  rw [← HR.out] at o1 ⊢
  obtain ⟨sa, sc, hsv⟩ : ∃ a c, sv = .slice a R.wh.tms.length c := o1.v.shape
  rw [← HMR.out] at hsv
  subst hsv
  have HO1 : Hid (OwT w1 w.heap.size (.slice sa m sc) R.wh.tms) := o1
  clear o1
  go_wp2_with fail
  generalize hU : w1.alloc _ = U1
  have SU : U1.heap[w1.heap.size]? = some (.cells #[.int .i64 R.ttl, .int .i64 R.wh.now, .slice sa m sc] 33 (0, 0)) := by rw [← hU]; exact heap_alloc_new w1 _
  have XU : Ext w1 U1 := by rw [← hU]; exact hE _ _
  clear hU
  refine (iDutyNewV s U1).mono ?_
  rintro e w2 ⟨gv, rfl, o2, b2⟩
  rw [← HR.out] at o2 ⊢
  obtain ⟨ga, gc, hgv⟩ : ∃ a c, gv = .slice a R.wh.tms.length c := o2.v.shape
  rw [← HMR.out] at hgv
  subst hgv
  have HF : Hid (∀ W, W = w2.alloc (.cells #[.int .i64 R.ttl, .int .i64 R.wh.now, .slice ga m gc] 33 (0, 0)) → LN w W R (.slice sa m sc) (.slice ga m gc) w1.heap.size w2.heap.size w.heap.size U1.heap.size R.wh.tms) := fun W hW => by
    subst hW
    have XX := (XU.tr (ext_below b2)).tr (hE w2 (.cells #[.int .i64 R.ttl, .int .i64 R.wh.now, .slice ga m gc] 33 (0, 0)))
    have s1 := b1.size
    have s2 := XU.size
    exact ⟨b1.trans ((ext_bel XX).mono b1.size), ext_blk ((ext_below b2).tr (hE w2 _)) SU, (HO1.out.kept XX (by cases hv : (Value.slice sa m sc).ownBlock <;> simp)), fun k hk => Nat.lt_of_lt_of_le (World.ownsRow.lt HO1.out k hk).2 s2, heap_alloc_new w2 _, o2.alloc _, Nat.le_trans s1 s2⟩
  clear o2 b2 SU XU b1 HO1
  go_upto_region 3 with fail
  generalize hU : w2.alloc _ = W0
  have L0 := HF.out W0 hU.symm
  have HL0 := hideN L0
  clear hU HF
  generalize w1.heap.size = bs at *
  generalize w2.heap.size = bg at *
  generalize U1.heap.size = ub at *
  obtain ⟨s0, s1, s2⟩ := bx3 L0.s
  obtain ⟨y0, y1, y2⟩ := bx3 L0.g
  clear L0
  go_wp2_with fail
  refine (eqD _ _ R W0 ⟨_, rfl, HL0.out.gO.v⟩ ⟨_, rfl, HL0.out.sO.v⟩ HML.out).mono ?_
  rintro e W1 ⟨rfl, c1⟩
  have HL1 := hideN (HL0.out.grow c1)
  clear s0 s1 s2 y0 y1 y2 c1 HL0
  obtain ⟨y0, y1, y2⟩ := bx3 HL1.out.g
  go_wp2_with fail
  refine (markDu ub R.ttl R.wh.now _ R.wh.tms 1 _ HL1.out.gO HML.out (by omega) (by omega)).mono ?_
  rintro e W2 ⟨rfl, o3, g3⟩
  rw [← HMR.out] at o3 ⊢
  have HL2 := hideN (HL1.out.turn g3 o3)
  clear o3 g3 y0 y1 y2 HL1
  obtain ⟨y0, y1, y2⟩ := bx3 HL2.out.g
  go_wp2_with fail
  refine (heldDu ub R.ttl R.wh.now _ m 1 _ HL2.out.gO hml (by omega) (by omega)).mono ?_
  rintro e W3 ⟨rfl, c3⟩
  have HL3 := hideN (HL2.out.grow c3)
  have hm0 : ¬ ((1 : Int) + 2 * (m : Int) < 0) := by omega
  clear y0 y1 y2 c3 HL2
  go_wp2_with fail
  refine (iDutyNewV s W3).mono ?_
  rintro e W4 ⟨hv4, rfl, o4, b4⟩
  rw [← HR.out] at o4 ⊢
  obtain ⟨ha, hc, hhv⟩ : ∃ a c, hv4 = .slice a R.wh.tms.length c := o4.v.shape
  rw [← HMR.out] at hhv
  subst hhv
  have HH : Hid (∀ W, W = W4.alloc (.cells #[.int .i64 R.ttl, .int .i64 R.wh.now, .slice ha m hc] 33 (0, 0)) → LN w W R (.slice sa m sc) (.slice ga m gc) bs bg w.heap.size ub (mkT 1 m) ∧ W.heap[W4.heap.size]? = some (.cells #[.int .i64 R.ttl, .int .i64 R.wh.now, .slice ha m hc] 33 (0, 0)) ∧ VTims W (.slice ha m hc) R.wh.tms) := fun W hW => by
    subst hW
    exact ⟨(HL3.out.grow b4).grow (hB _ _), heap_alloc_new _ _, o4.v.ext (hE _ _)⟩
  clear b4 o4
  go_upto_region 14 with fail
  generalize hU : W4.alloc _ = W5
  obtain ⟨L5, Q5, T5⟩ := HH.out W5 hU.symm
  have HL5 := hideN L5
  have HT5 : Hid (VTims W5 (.slice ha m hc) R.wh.tms) := T5
  clear hU HH L5 T5 HL3
  generalize W4.heap.size = bh at *
  obtain ⟨t0, t1, t2⟩ := bx3 Q5
  obtain ⟨s0, s1, s2⟩ := bx3 HL5.out.s
  go_wp2_with fail
  refine (eqD _ _ R W5 ⟨_, rfl, HT5.out⟩ ⟨_, rfl, HL5.out.sO.v⟩ HML.out).mono ?_
  rintro e W6 ⟨rfl, c6⟩
  have HL6 := hideN (HL5.out.grow c6)
  clear t0 t1 t2 s0 s1 s2 c6 Q5 HT5 HL5
  obtain ⟨y0, y1, y2⟩ := bx3 HL6.out.g
  go_wp2_with fail
  refine (heldDu ub R.ttl R.wh.now _ m 1 _ HL6.out.gO hml (by omega) (by omega)).mono ?_
  rintro e W7 ⟨rfl, c7⟩
  go_wp2
  go_ret
  exact ⟨rfl, (HL6.out.grow c7).low⟩

end Go.Proofs.Ytgafnajnndbofaa
