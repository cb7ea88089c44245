/- What is carried while whom to ask next is looked for. -/
import Derived.Test.YtfdklcmhafhbeaaIt1
import Derived.Test.YtfdklcmhafhbeaaPx2
namespace Go.Proofs.Ytfdklcmhafhbeaa
open Go.RowKit

/-- A row of numbers stays where what turns is no row. -/
theorem OwI.off {W W' : World} {base : Nat} {v : Value} {xs : List Int} {row : Option Nat} (h : OwI W base v xs) (hg : W.grownBy W' row) (hr : ∀ r, row = some r → ∃ o : Obj, W.heap[r]? = some o ∧ o.isCells = false) : OwI W' base v xs := by
  refine h.keep hg ?_
  rcases h.2 with ⟨hv, _⟩ | ⟨k, c, cur, hv, _, hk, _⟩
  · left; rw [hv]; rfl
  · right
    rw [hv]
    intro e
    obtain ⟨o, ho, hc⟩ := hr k e.symm
    rw [hk] at ho
    cases ho
    cases hc
theorem blk_off {W W' : World} {row : Option Nat} {b : Nat} {cs : Array Value} {t : TypeId} (h : W.heap[b]? = some (.cells cs t (0, 0))) (hg : W.grownBy W' row) (hr : ∀ r, row = some r → ∃ o : Obj, W.heap[r]? = some o ∧ o.isCells = false) : W'.heap[b]? = some (.cells cs t (0, 0)) := by
  refine (hg.block b (Array.getElem?_eq_some_iff.1 h).1 ?_).trans h
  intro e
  obtain ⟨o, ho, hc⟩ := hr b e.symm
  rw [h] at ho
  cases ho
  cases hc
structure NxM (w : World) (gt base b2 r : Nat) (ov : Value) (ls : List Int) (Ds : List Nat) (Q : DPro) (qv rv : Value) (W : World) : Prop where
  st : NxSt w gt base Q qv W
  res : W.heap[r]? = some (.cells #[rv] 3 (0, 0))
  oth : OwI W b2 ov ls
  mrk : ∀ D ∈ Ds, W.heap[D]? = some (.deferred (some []))
  nq : qv.ownBlock = none ∨ qv.ownBlock ≠ some r
  no : ov.ownBlock = none ∨ ov.ownBlock ≠ some r
  sz : base ≤ W.heap.size
  br : base ≤ r
variable {w W W' : World} {gt base b2 r : Nat} {ov qv rv : Value} {ls : List Int} {Ds : List Nat} {Q : DPro}
theorem NxM.row (h : NxM w gt base b2 r ov ls Ds Q qv rv W) {row : Option Nat} {B : Nat} (hg : W.grownBy W' row) (hr : ∀ x, row = some x → B ≤ x ∧ ∃ o : Obj, W.heap[x]? = some o ∧ o.isCells = false) (hB : base ≤ B) (hD : ∀ D ∈ Ds, D < B) : NxM w gt base b2 r ov ls Ds Q qv rv W' := by
  have hc : ∀ x, row = some x → ∃ o : Obj, W.heap[x]? = some o ∧ o.isCells = false := fun x e => (hr x e).2
  refine ⟨⟨blk_off h.st.box hg hc, h.st.own.off hg hc, h.st.low.grown hg h.sz (fun k hk => Nat.le_trans hB (hr k hk).1)⟩, blk_off h.res hg hc, h.oth.off hg hc, fun D hDm => ?_, h.nq, h.no, Nat.le_trans h.sz hg.size, h.br⟩
  refine (hg.block D (Array.getElem?_eq_some_iff.1 (h.mrk D hDm)).1 ?_).trans (h.mrk D hDm)
  intro e
  have := (hr D e.symm).1
  have := hD D hDm
  omega
theorem NxM.ext (h : NxM w gt base b2 r ov ls Ds Q qv rv W) (e : Ext W W') : NxM w gt base b2 r ov ls Ds Q qv rv W' :=
  ⟨h.st.ext h.sz e, ext_blk e h.res, h.oth.ext e, fun D hD => ext_blk e (h.mrk D hD), h.nq, h.no, Nat.le_trans h.sz e.size, h.br⟩
theorem NxM.less (h : NxM w gt base b2 r ov ls Ds Q qv rv W) {Es : List Nat} (hE : ∀ D ∈ Es, D ∈ Ds) : NxM w gt base b2 r ov ls Es Q qv rv W := ⟨h.st, h.res, h.oth, fun D hD => h.mrk D (hE D hD), h.nq, h.no, h.sz, h.br⟩
theorem NxM.gr (h : NxM w gt base b2 r ov ls Ds Q qv rv W) : r ≠ gt := by
  intro e
  have h1 := h.res
  rw [e, h.st.box] at h1
  simp only [Option.some.injEq, Obj.cells.injEq] at h1
  exact absurd h1.2.1 (by decide)
/-- The box turned: another place. -/
theorem NxM.go (h : NxM w gt base b2 r ov ls Ds Q qv rv W) (hb : base ≤ gt) (hg : W.grownBy W' (some gt)) {k : Int} (hx : W'.heap[gt]? = some (.cells #[qv, .int .i64 k, .int .i64 Q.seed, .int .i64 Q.state, .int .i64 Q.who, .int .i64 Q.wait] 30 (0, 0))) : NxM w gt base b2 r ov ls Ds ⟨Q.order, k, Q.seed, Q.state, Q.who, Q.wait⟩ qv rv W' := by
  refine ⟨⟨hx, h.st.own.keep hg (pro_ne h.st.own h.st.box), h.st.low.grown hg h.sz (fun k hk => by cases hk; exact hb)⟩, (hg.block r (Array.getElem?_eq_some_iff.1 h.res).1 (by simpa using h.gr)).trans h.res, h.oth.keep hg (pro_ne h.oth h.st.box), fun D hD => ?_, h.nq, h.no, Nat.le_trans h.sz hg.size, h.br⟩
  refine (hg.block D (Array.getElem?_eq_some_iff.1 (h.mrk D hD)).1 ?_).trans (h.mrk D hD)
  intro e
  simp only [Option.some.injEq] at e
  have h1 := h.mrk D hD
  rw [e, h.st.box] at h1
  cases h1
theorem NxM.setNext (h : NxM w gt base b2 r ov ls Ds Q qv rv W) (hb : base ≤ gt) (k : Int) : NxM w gt base b2 r ov ls Ds ⟨Q.order, k, Q.seed, Q.state, Q.who, Q.wait⟩ qv rv (W.setCell ⟨gt, 1, none⟩ (.int .i64 k)) := h.go hb (set_grown _ _ _ _) (set_block h.st.box 1 _)
theorem NxM.setRes (h : NxM w gt base b2 r ov ls Ds Q qv rv W) (v : Value) : NxM w gt base b2 r ov ls Ds Q qv v (W.setCell ⟨r, 0, none⟩ v) := by
  have hg := set_grown W r 0 v
  refine ⟨⟨set_other _ _ _ (Ne.symm h.gr) h.st.box, h.st.own.keep hg h.nq, h.st.low.setCell h.br _⟩, set_block h.res 0 v, h.oth.keep hg h.no, fun D hD => ?_, h.nq, h.no, Nat.le_trans h.sz hg.size, h.br⟩
  refine (hg.block D (Array.getElem?_eq_some_iff.1 (h.mrk D hD)).1 ?_).trans (h.mrk D hD)
  intro e
  simp only [Option.some.injEq] at e
  have h1 := h.mrk D hD
  rw [e, h.res] at h1
  cases h1
/-- Another order, another seed. -/
theorem NxM.turn (h : NxM w gt base b2 r ov ls Ds Q qv rv W) (hb : base ≤ gt) {uv : Value} {ys : List Int} {b : Nat} (o : OwI W b uv ys) (hbb : base ≤ b) (hrb : r < b) (s : Int) : NxM w gt base b2 r ov ls Ds ⟨ys, Q.next, s, Q.state, Q.who, Q.wait⟩ uv rv ((W.setCell ⟨gt, 0, none⟩ uv).setCell ⟨gt, 2, none⟩ (.int .i64 s)) := by
  have hg : W.grownBy ((W.setCell ⟨gt, 0, none⟩ uv).setCell ⟨gt, 2, none⟩ (.int .i64 s)) (some gt) := (set_grown _ _ _ _).trans (set_grown _ _ _ _)
  refine ⟨h.st.turn hb (o.base hbb) s, (hg.block r (Array.getElem?_eq_some_iff.1 h.res).1 (by simpa using h.gr)).trans h.res, h.oth.keep hg (pro_ne h.oth h.st.box), fun D hD => ?_, ?_, h.no, Nat.le_trans h.sz hg.size, h.br⟩
  · refine (hg.block D (Array.getElem?_eq_some_iff.1 (h.mrk D hD)).1 ?_).trans (h.mrk D hD)
    intro e
    simp only [Option.some.injEq] at e
    have h1 := h.mrk D hD
    rw [e, h.st.box] at h1
    cases h1
  · cases hv : uv.ownBlock with
    | none => exact .inl rfl
    | some k => exact .inr (by have := (o.lt k hv).1; simp; omega)
/-- A mark is taken. -/
theorem NxM.take (h : NxM w gt base b2 r ov ls Ds Q qv rv W) {D : Nat} {ds : Option (List Deferred)} (hk : W.heap[D]? = some (.deferred ds)) (hb : base ≤ D) (hD : ∀ E ∈ Ds, E < D) (o : Option (List Deferred)) : NxM w gt base b2 r ov ls Ds Q qv rv (W.putObj D (.deferred o)) :=
  h.row (B := D) (grownBy_putObj' W D _) (fun x e => by cases e; exact ⟨Nat.le_refl _, _, hk, rfl⟩) hb hD

end Go.Proofs.Ytfdklcmhafhbeaa
