/- The exact statement of OpText: the walk of the law itself. -/
import Derived.Test.YtfhebefepgnmnaaDoorOc8
import Derived.Test.YtfhebefepgnmnaaDoorOmK
import Derived.Test.YtfhebefepgnmnaaDoorVal
import Derived.Deep.RegionHeld3
namespace Go.Proofs.YtfhebefepgnmnaaDoor
open Go.RowKit

theorem opTL_rng {d : DOp} (hr : rngOp d) : ∀ x ∈ opTL d, 0 ≤ x ∧ x ≤ 255 := by
  cases hB : opB d
  · rw [opTL_no hB]
    intro x hx; cases hx
  · obtain ⟨k, n, hk, ek, en, _⟩ := op_cases hB
    rw [opTL_yes hB ek]
    intro x hx
    rcases List.mem_append.1 hx with hx | hx
    · exact nameL_rng _ x hx
    · have h1 := hr.1
      have h2 := quoteL_rng hr.2
      have h3 := decL_rng d.n.toNat
      have h32 : (0 : Int) ≤ 32 ∧ (32 : Int) ≤ 255 := by omega
      rcases lt8 hk with rfl | rfl | rfl | rfl | rfl | rfl | rfl | rfl
      · simp [restL] at hx
      all_goals
        simp only [restL, List.cons_append, List.append_assoc, List.mem_cons, List.mem_append] at hx
        first
          | (rcases hx with rfl | hx <;> first | exact h32 | exact h1 x hx | exact h3 x hx)
          | (rcases hx with rfl | hx | rfl | hx | rfl | hx <;> first | exact h32 | exact h1 x hx | exact h2 x hx | exact h3 x hx)
          | (rcases hx with rfl | hx | rfl | hx <;> first | exact h32 | exact h1 x hx | exact h2 x hx | exact h3 x hx)
theorem opTL_len {d : DOp} : (opTL d).length ≤ 200 := by
  cases hB : opB d
  · rw [opTL_no hB]
    simp
  · obtain ⟨k, n, hk, ek, en, hn, h1, h2, _⟩ := op_cases hB
    rw [opTL_yes hB ek]
    have h3 := nameL_len k
    have h4 := quoteL_len d.val
    have h5 := decL_len d.n.toNat (by omega)
    rcases lt8 hk with rfl | rfl | rfl | rfl | rfl | rfl | rfl | rfl
    all_goals
      simp only [restL, List.length_append, List.length_cons, List.length_nil]
      omega

theorem oop_shape8 {w : World} {base : Nat} {v : Value} {d : DOp} (h : OOp w base v d) (hr : rngOp d) : ∃ ka kc va vc, v = .agg #[.int .i64 d.kind, .slice ka d.key.length kc, .slice va d.val.length vc, .int .i64 d.n] ∧ VOp w v d := by
  have h' := h.v hr
  obtain ⟨kv, vv, rfl, ok, ov, _⟩ := h
  obtain ⟨ka, kc, rfl, _, _, _⟩ := Ow.rv ok hr.1
  obtain ⟨va, vc, rfl, _, _, _⟩ := Ow.rv ov hr.2
  exact ⟨ka, kc, va, vc, rfl, h'⟩

theorem apart_at {B : Nat} {a b : Option Nat} (ha : ∀ j, a = some j → j < B) (hb : ∀ j, b = some j → B ≤ j) : (b = none ∨ b ≠ a) ∧ (a = none ∨ a ≠ b) := by
  cases a with
  | none => exact ⟨by cases b <;> simp, .inl rfl⟩
  | some i =>
    cases b with
    | none => exact ⟨.inl rfl, .inr (by simp)⟩
    | some j =>
      have h1 := ha i rfl
      have h2 := hb j rfl
      exact ⟨.inr (by simp; omega), .inr (by simp; omega)⟩

/-- The box of an operation. -/
def BxO (w : World) (g : Nat) (t : TypeId) (d : DOp) (kv vv : Value) : Prop := w.heap[g]? = some (.cells #[.int .i64 d.kind, kv, vv, .int .i64 d.n] t (0, 0))
theorem BxO.cells {w : World} {g : Nat} {t : TypeId} {d : DOp} {kv vv : Value} (h : BxO w g t d kv vv) : w.cell? ⟨g, 0, none⟩ = some (.int .i64 d.kind) ∧ w.cell? ⟨g, 1, none⟩ = some kv ∧ w.cell? ⟨g, 2, none⟩ = some vv ∧ w.cell? ⟨g, 3, none⟩ = some (.int .i64 d.n) :=
  ⟨(at_block h 0 _ rfl).1, (at_block h 1 _ rfl).1, (at_block h 2 _ rfl).1, (at_block h 3 _ rfl).1⟩
theorem BxO.ext {w w' : World} {g : Nat} {t : TypeId} {d : DOp} {kv vv : Value} (h : BxO w g t d kv vv) (x : Ext w w') : BxO w' g t d kv vv := (x.block _ (Array.getElem?_eq_some_iff.1 h).1 (by simp)).trans h
theorem BxO.row {w w' : World} {g : Nat} {t : TypeId} {d : DOp} {kv vv : Value} {B : Nat} {v : Value} {xs : List Int} (h : BxO w g t d kv vv) (x : w.grownBy w' v.ownBlock) (o : OwM w B v xs) (hg : g < B) : BxO w' g t d kv vv :=
  (x.block _ (Array.getElem?_eq_some_iff.1 h).1 (fun e => by have := (o.lt _ e.symm).1; omega)).trans h

set_option maxHeartbeats 8000000 in
theorem law_OpText (v : Value) (d : DOp) (w : World) (h : VOp w v d) (hr : rngOp d) (_hi : intOp d) (hp : PowTab w.heap.size w) :
    Calls Tryd.prog 3 #[v] w fun e w' => e = .returned (.bool true) ∧ Below w.heap.size w w' := by
  have hE : ∀ w : World, ∀ o, Ext w (w.alloc o) := fun w o => World.grownBy_alloc _ _ _
  have hyr := opTL_rng hr
  have hyl := @opTL_len d
  obtain ⟨ys, hys⟩ : ∃ ys, ys = opTL d := ⟨_, rfl⟩
  have HY : Hid (ys = opTL d) := hys
  rw [← hys] at hyr hyl
  clear hys
  have hyl2 : ys.length ≤ 2097152 := by omega
  obtain ⟨ob, hob⟩ : ∃ ob, ob = opB d := ⟨_, rfl⟩
  have HB : Hid (ob = opB d) := hob
  clear hob
  have HP : Hid (∀ W, Below w.heap.size w W → PowTab W.heap.size W) := fun W b => Lib.tabBelow_of_tabIs (hp W b)
  clear hp
  have h0 := h
  obtain ⟨kv, vv, rfl, rk, rv⟩ := h
  have H0 : Hid (VOp w (.agg #[.int .i64 d.kind, kv, vv, .int .i64 d.n]) d) := h0
  clear h0 rk rv
  obtain ⟨V, hV⟩ : ∃ V, V = w.alloc (.cells #[.int .i64 d.kind, kv, vv, .int .i64 d.n] 24) := ⟨_, rfl⟩
  have q : BxO V w.heap.size 24 d kv vv := by rw [hV]; exact heap_alloc_new w _
  have bV : Below w.heap.size w V := by rw [hV]; exact (Below.refl _ w).alloc (Nat.le_refl _) _
  have sV : Hid (w.heap.size < V.heap.size) := (Array.getElem?_eq_some_iff.1 q).1
  have HW : Hid (∀ W, Below V.heap.size V W → Below w.heap.size w W) := fun W b => bV.trans (b.mono bV.size)
  have HQ : Hid (∀ W, Below V.heap.size V W → BxO W w.heap.size 24 d kv vv) := fun W b => q.ext (ext_below b)
  have HV := Lib.hid hV
  clear hV
  go_enter Tryd.func3, Tryd.ntmps3
  go_upto_region 1 with fail
  rw [← HV.out]
  clear HV
  obtain ⟨c0, c1, c2, c3⟩ := q.cells
  clear q
  go_wp2_with fail
  refine (szO _ d 1048576 _ (H0.out.ext (ext_below bV)) (by omega) (by omega)).mono ?_
  rintro e w1 ⟨r, rfl, hrr, b1⟩
  have B1 : Below V.heap.size V w1 := b1
  rcases hrr with ⟨h1, rfl⟩ | ⟨h1, h2⟩
  · go_wp2
    go_ret
    exact ⟨rfl, HW.out _ B1⟩
  · have hk : d.key.length ≤ 1048576 := by omega
    have hv : d.val.length ≤ 1048576 := by omega
    have hr0 : 0 ≤ r := by omega
    clear h1 h2 b1 c0 c1 c2 c3
    obtain ⟨c0, c1, c2, c3⟩ := (HQ.out w1 B1).cells
    go_wp2_with fail
    refine (toO _ d w1 (H0.out.ext (ext_below (HW.out _ B1))) hr hk hv).mono ?_
    rintro e w2 ⟨v2, rfl, o2, b2⟩
    have B2 := B1.trans (b2.mono B1.size)
    clear c0 c1 c2 c3
    go_wp2_with fail
    refine (sOpTextV v2 d w2 (o2.v hr)).mono ?_
    rintro e w3 ⟨t3, rfl, o3, b3⟩
    rw [← HY.out] at o3
    rw [← HB.out]
    have B3 := B2.trans (b3.mono B2.size)
    obtain ⟨c0, c1, c2, c3⟩ := (HQ.out w3 B3).cells
    clear b2 o2
    go_wp2_with fail
    refine (toO _ d w3 (H0.out.ext (ext_below (HW.out _ B3))) hr hk hv).mono ?_
    rintro e w4 ⟨v4, rfl, o4, b4⟩
    have B4 := B3.trans (b4.mono B3.size)
    obtain ⟨ka, kc, va, vc, rfl, V4⟩ := oop_shape8 o4 hr
    have HL4 : Hid ((∀ j, (Value.slice ka d.key.length kc).ownBlock = some j → w3.heap.size ≤ j ∧ j < w4.heap.size) ∧ (∀ j, (Value.slice va d.val.length vc).ownBlock = some j → w3.heap.size ≤ j ∧ j < w4.heap.size)) := by
      obtain ⟨kv8, vv8, e8, ok8, ov8, _⟩ := o4
      simp only [Value.agg.injEq, Array.mk.injEq, List.cons.injEq, true_and, and_true] at e8
      obtain ⟨rfl, rfl⟩ := e8
      exact ⟨ok8.lt, ov8.lt⟩
    have HL3 : Hid (∀ j, t3.ownBlock = some j → j < w3.heap.size) := fun j hj => (o3.lt j hj).2
    clear c0 c1 c2 c3
    obtain ⟨U, hU⟩ : ∃ U, U = w4.alloc (.cells #[.int .i64 d.kind, .slice ka d.key.length kc, .slice va d.val.length vc, .int .i64 d.n] 28) := ⟨_, rfl⟩
    have qU : BxO U w4.heap.size 28 d (.slice ka d.key.length kc) (.slice va d.val.length vc) := by rw [hU]; exact heap_alloc_new w4 _
    have XU : Ext w4 U := by rw [hU]; exact hE w4 _
    have BU : Below V.heap.size V U := by rw [hU]; exact B4.alloc B4.size _
    have HU := Lib.hid hU
    clear hU
    go_upto_region 7 with fail
    rw [← HU.out]
    clear HU
    obtain ⟨c0, c1, c2, c3⟩ := qU.cells
    go_wp2_with fail
    refine (iOpTextV _ d U (V4.ext XU) (HP.out U (HW.out U BU))).mono ?_
    rintro e w5 ⟨t5, rfl, o5, b5⟩
    rw [← HY.out] at o5
    rw [← HB.out]
    have B5 := BU.trans (b5.mono BU.size)
    have q5 := qU.ext (ext_below b5)
    have o4' : OOp w5 w3.heap.size _ d := (o4.ext XU).ext (ext_below b5)
    have o3' : OwM w5 w2.heap.size t3 ys := (((o3.ext (ext_below b4)).ext XU).ext (ext_below b5))
    have hsU : Hid (w4.heap.size < U.heap.size) := (Array.getElem?_eq_some_iff.1 qU).1
    clear c0 c1 c2 c3 qU
    go_wp2_with fail
    refine (eqV_yes t5 t3 ys w5 (o5.rv hyr) (o3'.rv hyr) hyl2).mono ?_
    rintro e w6 ⟨rfl, n6, rfl⟩
    have B6 := below_drewN B5 n6
    have X6 : Ext w5 (w5.drewN n6) := ext_drewN w5 n6
    have q6 := q5.ext X6
    have r6 := HQ.out _ B6
    obtain ⟨W6, hW6⟩ : ∃ W, W = w5.drewN n6 := ⟨_, rfl⟩
    rw [← hW6] at B6 X6 q6 r6
    have HQ6 : Hid (BxO W6 w4.heap.size 28 d (.slice ka d.key.length kc) (.slice va d.val.length vc)) := q6
    have HR6 : Hid (BxO W6 w.heap.size 24 d kv vv) := r6
    obtain ⟨c0, c1, c2, c3⟩ := q6.cells
    obtain ⟨p0, p1, p2, p3⟩ := r6.cells
    have HW6 := Lib.hid hW6
    clear hW6 q6 r6
    have X7 : Ext W6 W6.drew := ext_drewN W6 1
    have HV6 : Hid (VOp W6 (.agg #[.int .i64 d.kind, .slice ka d.key.length kc, .slice va d.val.length vc, .int .i64 d.n]) d) := ((V4.ext XU).ext (ext_below b5)).ext X6
    go_upto_region 10 with fail
    rw [← HW6.out]
    clear HW6
    go_region_held3 (fun w' => w'.cell? ⟨w4.heap.size, 0, none⟩ = some (.int .i64 d.kind) ∧ w'.cell? ⟨w4.heap.size, 1, none⟩ = some (.slice ka d.key.length kc) ∧ w'.cell? ⟨w4.heap.size, 2, none⟩ = some (.slice va d.val.length vc) ∧ w'.cell? ⟨w4.heap.size, 3, none⟩ = some (.int .i64 d.n) ∧ w'.cell? ⟨w.heap.size, 0, none⟩ = some (.int .i64 d.kind) ∧ w'.cell? ⟨w.heap.size, 1, none⟩ = some kv ∧ w'.cell? ⟨w.heap.size, 2, none⟩ = some vv ∧ w'.cell? ⟨w.heap.size, 3, none⟩ = some (.int .i64 d.n)) (simp [*])
      (first
      | (go_at_call 9; refine (eqO _ _ d _ ?_ ?_ (by omega) (by omega)).mono ?_; exact (HV6.out.ext X7).ext (ext_below b7); exact o7.v hr; rintro e w8 ⟨rfl, b8⟩; obtain ⟨e0, e1, e2, e3⟩ := ((HQ6.out.ext X7).ext (ext_below b7)).ext (ext_below b8) |>.cells; obtain ⟨f0, f1, f2, f3⟩ := ((HR6.out.ext X7).ext (ext_below b7)).ext (ext_below b8) |>.cells)
      | (go_at_call 6; refine (toO _ d _ ?_ hr hk hv).mono ?_; exact (H0.out.ext (ext_below (HW.out _ B6))).ext X7; rintro e w7 ⟨v7, rfl, o7, b7⟩; obtain ⟨a0, a1, a2, a3⟩ := ((HQ6.out.ext X7).ext (ext_below b7)).cells; obtain ⟨d0, d1, d2, d3⟩ := ((HR6.out.ext X7).ext (ext_below b7)).cells))
    all_goals
      have X8 : Ext W6 w8 := (X7.tr (ext_below b7)).tr (ext_below b8)
      have B8 : Below V.heap.size V w8 := ((below_drewN B6 1).trans (b7.mono B6.size)).trans (b8.mono (Nat.le_trans B6.size b7.size))
      have o4'' := (o4'.ext X6).ext X8
      have o3'' := (o3'.ext X6).ext X8
      have o5'' := (o5.ext X6).ext X8
      have q8 := HQ6.out.ext X8
      clear a0 a1 a2 a3 d0 d1 d2 d3 f0 f1 f2 f3
      go_wp2_with fail
      refine (markOpV w3.heap.size _ d 1 w8 o4'' hr hk hv (by omega) (by omega)).mono ?_
      rintro e w9 ⟨rfl, kv9, vv9, y1, y2, ev, ok9, ov9, x9, g9, g9'⟩
      simp only [Value.agg.injEq, Array.mk.injEq, List.cons.injEq, true_and, and_true] at ev
      obtain ⟨rfl, rfl⟩ := ev
      have hz1 : ¬ (1 + (d.key.length : Int) + (d.val.length : Int)) < 0 := by omega
      have ok9' := ok9.ext x9
      have ov9' := ov9.m.ext x9
      have ap : (Value.slice va d.val.length vc).ownBlock = none ∨ (Value.slice va d.val.length vc).ownBlock ≠ (Value.slice ka d.key.length kc).ownBlock := by
        obtain ⟨kv8, vv8, e8, _, _, hne⟩ := o4''
        simp only [Value.agg.injEq, Array.mk.injEq, List.cons.injEq, true_and, and_true] at e8
        obtain ⟨rfl, rfl⟩ := e8
        exact own_swap hne
      have ov9'' : OwM y2 w3.heap.size (.slice va d.val.length vc) d.val := ov9'.kept g9 ap
      have C9 : Below V.heap.size V w9 := by
        have c1 : Below V.heap.size V y1 := ⟨x9.os.trans B8.os, x9.tape.trans B8.tape, x9.output.trans B8.output, Nat.le_trans B8.size x9.size, fun j hj => (x9.block j (Nat.lt_of_lt_of_le hj B8.size) (by simp)).trans (B8.block j hj)⟩
        have c2 : Below V.heap.size V y2 := m_below c1 B3.size ok9'.m c1.size g9
        exact m_below c2 B3.size ov9'' c2.size g9'
      have s5 : w4.heap.size ≤ U.heap.size := Nat.le_of_lt hsU.out
      have L5 : ∀ j, t5.ownBlock = some j → w4.heap.size ≤ j := fun j hj => Nat.le_trans s5 (o5.lt j hj).1
      have k5 : Ow w9 U.heap.size t5 ys := ((o5''.ext x9).kept g9 (apart_at (fun j hj => (HL4.out.1 j hj).2) L5).1).kept g9' (apart_at (fun j hj => (HL4.out.2 j hj).2) L5).1
      have k3 : OwM w9 w2.heap.size t3 ys := ((o3''.ext x9).kept g9 (apart_at HL3.out (fun j hj => (HL4.out.1 j hj).1)).2).kept g9' (apart_at HL3.out (fun j hj => (HL4.out.2 j hj).1)).2
      have L3 : Hid (∀ j, t3.ownBlock = some j → j < U.heap.size) := fun j hj => Nat.lt_of_lt_of_le (HL3.out j hj) (Nat.le_trans b4.size s5)
      have S5 : Hid (V.heap.size ≤ U.heap.size) := BU.size
      clear ok9 ov9 ok9' ov9' ov9'' x9 g9 g9' o4'' o3'' o5'' q8 X8 B8 X7 L5 s5 e0 e1 e2 e3
      go_wp2_with fail
      refine (eqV_yes t5 t3 ys w9 (k5.rv hyr) (k3.rv hyr) hyl2).mono ?_
      rintro e w10 ⟨rfl, n10, rfl⟩
      have C10 := below_drewN C9 n10
      go_wp2_with fail
      refine (markV U.heap.size t5 ys 1 _ (k5.ext (ext_drewN w9 n10)) hyl2 (by omega) (by omega)).mono ?_
      rintro e w11 ⟨rfl, o11, g11⟩
      have C11 : Below V.heap.size V w11 := below_mark C10 S5.out (k5.ext (ext_drewN w9 n10)) C10.size g11
      have m3 : OwM w11 w2.heap.size t3 ys := (k3.ext (ext_drewN w9 n10)).kept g11 (apart_at L3.out (fun j hj => (k5.lt j hj).1)).2
      have hpos2 : ¬ (1 + (ys.length : Int)) < 0 := by omega
      go_wp2_with fail
      refine (heldV t5 ys.length 1 w11 (o11.rv (marks_rng _ _)) hyl2 (by omega) (by omega)).mono ?_
      rintro e w12 ⟨rfl, e12⟩
      have e13 := e12.symm
      clear e12
      subst e13
      obtain ⟨c0', c1', c2', c3'⟩ := (HQ.out w11 C11).cells
      go_wp2_with fail
      refine (toO _ d w11 (H0.out.ext (ext_below (HW.out _ C11))) hr hk hv).mono ?_
      rintro e w13 ⟨v13, rfl, o13, b13⟩
      have C13 := C11.trans (b13.mono C11.size)
      clear c0' c1' c2' c3'
      go_wp2_with fail
      refine (iOpTextV v13 d w13 (o13.v hr) (HP.out w13 (HW.out w13 C13))).mono ?_
      rintro e w14 ⟨t14, rfl, o14, b14⟩
      rw [← HY.out] at o14
      rw [← HB.out]
      have C14 := C13.trans (b14.mono C13.size)
      have x14 : Ext w11 w14 := (ext_below b13).tr (ext_below b14)
      go_wp2_with fail
      refine (eqV_yes t14 t3 ys w14 (o14.rv hyr) ((m3.ext x14).rv hyr) hyl2).mono ?_
      rintro e w15 ⟨rfl, n15, rfl⟩
      go_wp2_with fail
      refine (heldV t5 ys.length 1 _ (((o11.ext x14).ext (ext_drewN w14 n15)).rv (marks_rng _ _)) hyl2 (by omega) (by omega)).mono ?_
      rintro e w16 ⟨rfl, e16⟩
      have e17 := e16.symm
      clear e16
      subst e17
      go_wp2
      go_ret
      exact ⟨rfl, HW.out _ (below_drewN C14 n15)⟩


end Go.Proofs.YtfhebefepgnmnaaDoor
