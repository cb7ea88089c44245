/- Whatever prober, table and number come in: Helpers answers as its model in the specification, every field and the list, writes into no argument, and its answer owns its memory. No condition. -/
import Derived.Test.YtfdklcmhafhbeaaTb1
import Derived.Deep.CutRange
import Derived.Test.YtfdklcmhafhbeaaLPr
import Derived.Test.YtfdklcmhafhbeaaMd
import Derived.Test.YtfdklcmhafhbeaaWi
import Derived.Test.YtfdklcmhafhbeaaInf
import Derived.Test.YtfdklcmhafhbeaaVal0
import Derived.Test.YtfdklcmhafhbeaaQB
import Derived.Test.YtfdklcmhafhbeaaElG
import Derived.Test.YtfdklcmhafhbeaaMdL
import Derived.Test.YtfdklcmhafhbeaaLiA
import Derived.Test.YtfdklcmhafhbeaaDl0
import Derived.Deep.RegionHeld3
import Derived.Test.YtfdklcmhafhbeaaPx3
import Derived.Test.YtfdklcmhafhbeaaPx0
import Derived.Test.YtfdklcmhafhbeaaIt2
import Derived.Test.YtfdklcmhafhbeaaPr8
import Derived.Test.YtfdklcmhafhbeaaPx6
import Derived.Test.YtfdklcmhafhbeaaHl1
import Derived.Test.YtfdklcmhafhbeaaPx2
import Derived.ProofKit
import Derived.OpenShut
import Derived.Lib.SmallJoins
import Derived.Test.YtfdklcmhafhbeaaSt0
import Derived.Deep.Slices
import Derived.Test.YtfdklcmhafhbeaaLiU
import Derived.Test.YtfdklcmhafhbeaaRows
import Derived.Test.YtfdklcmhafhbeaaPr0
import Derived.ChangeOld
import Derived.Carry
namespace Go.Proofs.Ytfdklcmhafhbeaa
open Go.RowKit

set_option maxHeartbeats 1000000 in
theorem markTab (base : Nat) (self : Int) (v : Value) (ts : List DMem) (k : Int) (w : World) (h : OwMem w base v ts) (hn : ts.length ≤ 1048576) (hk0 : 0 ≤ k) (hk1 : k ≤ 100000) :
    Calls Try.prog 15 #[.agg #[.int .i64 self, v], .int .i64 k] w fun e w' => e = .returned (.int .i64 (k + 3 * ts.length)) ∧ OwMem w' base v (mkMem k ts.length) ∧ w.grownBy w' v.ownBlock := by
  obtain ⟨a, c, rfl⟩ := h.v.shape
  have HO : Hid (OwMem w base (.slice a ts.length c) ts) := h
  have HN : Hid (ts.length ≤ 1048576) := hn
  obtain ⟨n, hnn⟩ : ∃ n, n = ts.length := ⟨_, rfl⟩
  rw [← hnn] at HO HN ⊢
  have HNN : Hid (n = ts.length) := hnn
  clear h hn hnn
  go_enter Try.func15, Try.ntmps15
  go_wp2_with fail
  refine (markMem base _ ts k _ (HO.out.ext (World.grownBy_alloc _ _ _)) (by rw [← HNN.out]; exact HN.out) hk0 (by omega)).mono ?_
  rintro e w1 ⟨rfl, o1, g1⟩
  rw [← HNN.out] at o1 ⊢
  go_wp2
  go_ret
  exact ⟨rfl, o1, (World.grownBy_alloc _ _ _).trans g1⟩


end Go.Proofs.Ytfdklcmhafhbeaa

namespace Go.Proofs.Ytfdklcmhafhbeaa
open Go.RowKit

theorem hideQ {p : Prop} (h : p) : Hid p := h
/-- What is carried through the walk of a law on tables: the argument's box, the specification's answer (of the world Ws), the program's argument and its answer. -/
structure LT (w Ws W : World) (D R : DTab) (av sv xv gv : Value) (s x g base : Nat) (G : List DMem) : Prop where
  low : Below w.heap.size w W
  sB : Below Ws.heap.size Ws W
  sV : VMem Ws sv R.mems
  a : W.heap[w.heap.size]? = some (.cells #[.int .i64 D.self, av] 27 (0, 0))
  s : W.heap[s]? = some (.cells #[.int .i64 R.self, sv] 36 (0, 0))
  x : W.heap[x]? = some (.cells #[.int .i64 D.self, xv] 36 (0, 0))
  g : W.heap[g]? = some (.cells #[.int .i64 R.self, gv] 36 (0, 0))
  gO : OwMem W base gv G
  bs : Ws.heap.size ≤ base
  ws : w.heap.size ≤ Ws.heap.size
variable {w Ws W W' : World} {D R : DTab} {av sv xv gv : Value} {s x g base : Nat} {G G' : List DMem}
theorem LT.grow (h : LT w Ws W D R av sv xv gv s x g base G) (b : Below W.heap.size W W') : LT w Ws W' D R av sv xv gv s x g base G :=
  ⟨h.low.trans (b.mono h.low.size), h.sB.trans (b.mono h.sB.size), h.sV, below_blk b (Array.getElem?_eq_some_iff.1 h.a).1 h.a, below_blk b (Array.getElem?_eq_some_iff.1 h.s).1 h.s, below_blk b (Array.getElem?_eq_some_iff.1 h.x).1 h.x, below_blk b (Array.getElem?_eq_some_iff.1 h.g).1 h.g, h.gO.ext (ext_below b), h.bs, h.ws⟩
/-- A block of another type is none of this row. -/
theorem ne_rowM {W : World} {base b : Nat} {v : Value} {ts : List DMem} {cs : Array Value} {t : TypeId} (o : OwMem W base v ts) (h : W.heap[b]? = some (.cells cs t (0, 0))) (ht : t ≠ 72) : some b ≠ v.ownBlock := by
  intro e
  rcases o.2 with ⟨hv, _⟩ | ⟨k, c, cur, hv, _, hg, _⟩
  · rw [hv] at e; cases e
  · rw [hv] at e
    simp only [Value.ownBlock, Option.some.injEq] at e
    subst e
    rw [h] at hg
    simp only [Option.some.injEq, Obj.cells.injEq] at hg
    exact ht hg.2.1
/-- A row of members, not older than the specification's answer, has turned: the program's answer, or another. -/
theorem LT.turn {row : Value} {rb : Nat} {T : List DMem} (h : LT w Ws W D R av sv xv gv s x g base G) (o : OwMem W rb row T) (hb : Ws.heap.size ≤ rb) (hg : W.grownBy W' row.ownBlock) (hG : OwMem W' base gv G') : LT w Ws W' D R av sv xv gv s x g base G' := by
  have kp : ∀ (b : Nat) (cs : Array Value) (t : TypeId), W.heap[b]? = some (.cells cs t (0, 0)) → t ≠ 72 → W'.heap[b]? = some (.cells cs t (0, 0)) := fun b cs t hbb ht => (hg.block b (Array.getElem?_eq_some_iff.1 hbb).1 (ne_rowM o hbb ht)).trans hbb
  have hr : ∀ k, row.ownBlock = some k → rb ≤ k := fun k hk => (o.lt k hk).1
  exact ⟨h.low.grown hg h.low.size (fun k hk => Nat.le_trans (Nat.le_trans h.ws hb) (hr k hk)), h.sB.grown hg h.sB.size (fun k hk => Nat.le_trans hb (hr k hk)), h.sV, kp _ _ _ h.a (by decide), kp _ _ _ h.s (by decide), kp _ _ _ h.x (by decide), kp _ _ _ h.g (by decide), hG, h.bs, h.ws⟩
theorem LT.sW (h : LT w Ws W D R av sv xv gv s x g base G) : VTab W (.agg #[.int .i64 R.self, sv]) R := ⟨sv, rfl, h.sV.ext (ext_below h.sB)⟩

theorem keptT {w w' : World} {g g' : Nat} {a0 a1 b0 b1 : Value} (h : (w.cell? ⟨g, 0, none⟩ = some a0 ∧ w.cell? ⟨g, 1, none⟩ = some a1) ∧ (w.cell? ⟨g', 0, none⟩ = some b0 ∧ w.cell? ⟨g', 1, none⟩ = some b1)) (hb : Below w.heap.size w w') :
    (w'.cell? ⟨g, 0, none⟩ = some a0 ∧ w'.cell? ⟨g, 1, none⟩ = some a1) ∧ (w'.cell? ⟨g', 0, none⟩ = some b0 ∧ w'.cell? ⟨g', 1, none⟩ = some b1) := by
  have hg : g < w.heap.size := World.block_lt_of_cell? w _ h.1.1
  have hg' : g' < w.heap.size := World.block_lt_of_cell? w _ h.2.1
  obtain ⟨⟨h0, h1⟩, h2, h3⟩ := h
  exact ⟨⟨(hb.cell (p := ⟨g, 0, none⟩) hg).trans h0, (hb.cell (p := ⟨g, 1, none⟩) hg).trans h1⟩, (hb.cell (p := ⟨g', 0, none⟩) hg').trans h2, (hb.cell (p := ⟨g', 1, none⟩) hg').trans h3⟩

end Go.Proofs.Ytfdklcmhafhbeaa

namespace Go.Proofs.Ytfdklcmhafhbeaa
open Go.RowKit

theorem ext_setP {w w' : World} (h : Ext w w') (b o : Nat) (v : Value) (hb : w.heap.size ≤ b) : Ext w (w'.setCell ⟨b, o, none⟩ v) := by
  have g := set_grown w' b o v
  exact ⟨g.os.trans h.os, g.tape.trans h.tape, g.output.trans h.output, Nat.le_trans h.size g.size, fun k hk _ => (g.block k (Nat.lt_of_lt_of_le hk h.size) (by simp; omega)).trans (h.block k hk (by simp))⟩
/-- A box with a prober's answer, and what it owns. -/
def BoxP (w1 : World) (R : DPro) (m : Nat) (bs : Nat) (sa : Option Addr) (sc : Nat) (W : World) : Prop :=
  W.heap[bs]? = some (.cells #[.slice sa m sc, .int .i64 R.next, .int .i64 R.seed, .int .i64 R.state, .int .i64 R.who, .int .i64 R.wait] 30 (0, 0)) ∧ Ext w1 W ∧ OwI W w1.heap.size (.slice sa m sc) R.order ∧ w1.heap.size ≤ bs
theorem boxp_new {w1 z : World} {R : DPro} {m sc base : Nat} {sa : Option Addr} (X : Ext w1 z) (o : OwI z base (.slice sa m sc) R.order) (hb : w1.heap.size ≤ base) : BoxP w1 R m z.heap.size sa sc (z.alloc (.cells #[.slice sa m sc, .int .i64 R.next, .int .i64 R.seed, .int .i64 R.state, .int .i64 R.who, .int .i64 R.wait] 30 (0, 0))) :=
  ⟨heap_alloc_new z _, X.tr (World.grownBy_alloc _ _ _), (o.base hb).ext (World.grownBy_alloc _ _ _), X.size⟩
theorem boxp_set {w1 z : World} {R : DPro} {m sc base bs : Nat} {sa : Option Addr} {c0 c1 c2 c3 c4 c5 : Value} (X : Ext w1 z) (o : OwI z base (.slice sa m sc) R.order) (hb : w1.heap.size ≤ base) (P : z.heap[bs]? = some (.cells #[c0, c1, c2, c3, c4, c5] 30 (0, 0))) (hs : w1.heap.size ≤ bs) : BoxP w1 R m bs sa sc ((((((z.setCell ⟨bs, 0, none⟩ (.slice sa m sc)).setCell ⟨bs, 1, none⟩ (.int .i64 R.next)).setCell ⟨bs, 2, none⟩ (.int .i64 R.seed)).setCell ⟨bs, 3, none⟩ (.int .i64 R.state)).setCell ⟨bs, 4, none⟩ (.int .i64 R.who)).setCell ⟨bs, 5, none⟩ (.int .i64 R.wait)) :=
  ⟨pro_set P _ _ _ _ _ _, ext_setP (ext_setP (ext_setP (ext_setP (ext_setP (ext_setP X _ _ _ hs) _ _ _ hs) _ _ _ hs) _ _ _ hs) _ _ _ hs) _ _ _ hs, OwI.base (pro_own o (.inr (Ne.symm (ne_rowN o P (by decide)))) _ _ _ _ _ _) hb, hs⟩
/-- What is carried beside the prober: the table's box, the program's other argument. -/
structure LU (w W : World) (O : DTab) (uv yv : Value) (y : Nat) : Prop where
  b : W.heap[w.heap.size + 1]? = some (.cells #[.int .i64 O.self, uv] 27 (0, 0))
  y : W.heap[y]? = some (.cells #[.int .i64 O.self, yv] 36 (0, 0))
variable {w W W' : World} {O : DTab} {uv yv : Value} {y : Nat}
theorem LU.grow (h : LU w W O uv yv y) (b : Below W.heap.size W W') : LU w W' O uv yv y := ⟨ext_blk (ext_below b) h.b, ext_blk (ext_below b) h.y⟩
theorem LU.turnI {row : Value} {rb : Nat} {T : List Int} (h : LU w W O uv yv y) (o : OwI W rb row T) (hg : W.grownBy W' row.ownBlock) : LU w W' O uv yv y := ⟨(hg.block _ (Array.getElem?_eq_some_iff.1 h.b).1 (ne_rowN o h.b (by decide))).trans h.b, (hg.block _ (Array.getElem?_eq_some_iff.1 h.y).1 (ne_rowN o h.y (by decide))).trans h.y⟩
theorem LU.turnM {row : Value} {rb : Nat} {T : List DMem} (h : LU w W O uv yv y) (o : OwMem W rb row T) (hg : W.grownBy W' row.ownBlock) : LU w W' O uv yv y := ⟨(hg.block _ (Array.getElem?_eq_some_iff.1 h.b).1 (ne_rowM o h.b (by decide))).trans h.b, (hg.block _ (Array.getElem?_eq_some_iff.1 h.y).1 (ne_rowM o h.y (by decide))).trans h.y⟩
/-- A row of members turned: the numbers are as they were. -/
theorem ow_ne {base rb : Nat} {v row : Value} {xs : List Int} {ts : List DMem} (o : OwI W base v xs) (p : OwMem W rb row ts) : v.ownBlock = none ∨ v.ownBlock ≠ row.ownBlock := by
  rcases o.2 with ⟨hv, _⟩ | ⟨k, c, cur, hv, _, hg, _⟩
  · left; rw [hv]; rfl
  · right
    rw [hv]
    show some k ≠ row.ownBlock
    exact ne_rowM p hg (by decide)
theorem LP.turnM {Ws : World} {D R : DPro} {av sv xv gv row : Value} {s x g base rb : Nat} {G : List Int} {T : List DMem} (h : LP w Ws W D R av sv xv gv s x g base G) (o : OwMem W rb row T) (hb : Ws.heap.size ≤ rb) (hg : W.grownBy W' row.ownBlock) : LP w Ws W' D R av sv xv gv s x g base G := by
  have kp : ∀ (b : Nat) (cs : Array Value) (t : TypeId), W.heap[b]? = some (.cells cs t (0, 0)) → t ≠ 72 → W'.heap[b]? = some (.cells cs t (0, 0)) := fun b cs t hbb ht => (hg.block b (Array.getElem?_eq_some_iff.1 hbb).1 (ne_rowM o hbb ht)).trans hbb
  have hr : ∀ k, row.ownBlock = some k → rb ≤ k := fun k hk => (o.lt k hk).1
  exact ⟨h.low.grown hg h.low.size (fun k hk => Nat.le_trans (Nat.le_trans h.ws hb) (hr k hk)), h.sB.grown hg h.sB.size (fun k hk => Nat.le_trans hb (hr k hk)), h.sV, kp _ _ _ h.a (by decide), kp _ _ _ h.s (by decide), kp _ _ _ h.x (by decide), kp _ _ _ h.g (by decide), h.gO.keep hg (ow_ne h.gO o), h.bs, h.ws⟩
theorem mem_keepI {base rb : Nat} {v row : Value} {xs : List Int} {ts : List DMem} (p : OwMem W base v ts) (o : OwI W rb row xs) (hg : W.grownBy W' row.ownBlock) : OwMem W' base v ts := p.keep hg (by
  rcases ow_ne o p with h | h
  · cases hv : v.ownBlock with
    | none => exact .inl rfl
    | some k => right; rw [h]; simp
  · exact .inr (Ne.symm h))

end Go.Proofs.Ytfdklcmhafhbeaa

namespace Go.Proofs.Ytfdklcmhafhbeaa
open Go.RowKit

set_option maxHeartbeats 1000000 in
theorem markTab2 (base : Nat) (self : Int) (v : Value) (ts : List DMem) (k : Int) (w : World) (h : OwMem w base v ts) (hn : ts.length ≤ 1048576) (hk0 : 0 ≤ k) (hk1 : k ≤ 100000000) :
    Calls Try.prog 15 #[.agg #[.int .i64 self, v], .int .i64 k] w fun e w' => e = .returned (.int .i64 (k + 3 * ts.length)) ∧ OwMem w' base v (mkMem k ts.length) ∧ w.grownBy w' v.ownBlock := by
  obtain ⟨a, c, rfl⟩ := h.v.shape
  have HO : Hid (OwMem w base (.slice a ts.length c) ts) := h
  have HN : Hid (ts.length ≤ 1048576) := hn
  obtain ⟨n, hnn⟩ : ∃ n, n = ts.length := ⟨_, rfl⟩
  rw [← hnn] at HO HN ⊢
  have HNN : Hid (n = ts.length) := hnn
  clear h hn hnn
  go_enter Try.func15, Try.ntmps15
  go_wp2_with fail
  refine (markMem base _ ts k _ (HO.out.ext (World.grownBy_alloc _ _ _)) (by rw [← HNN.out]; exact HN.out) hk0 (by omega)).mono ?_
  rintro e w1 ⟨rfl, o1, g1⟩
  rw [← HNN.out] at o1 ⊢
  go_wp2
  go_ret
  exact ⟨rfl, o1, (World.grownBy_alloc _ _ _).trans g1⟩


end Go.Proofs.Ytfdklcmhafhbeaa

namespace Go.Proofs.Ytfdklcmhafhbeaa
open Go.RowKit

theorem memB_in (m : DMem) : memB m = (inB m.id 0 11 && (inB m.st 0 3 && inB m.life 0 1000)) := by
  unfold memB inB
  rw [show decide (m.id < 12) = decide (m.id ≤ 11) by rw [decide_eq_decide]; omega]
  simp only [Bool.and_assoc]

set_option maxHeartbeats 2000000 in
theorem iMemberOkV (m : DMem) (w : World) :
    Calls Try.prog 54 #[.agg #[.int .i64 m.id, .int .i64 m.st, .int .i64 m.life]] w fun e w' => e = .returned (.bool (memB m)) ∧ Below w.heap.size w w' := by
  have hB : ∀ w : World, ∀ o, Below w.heap.size w (w.alloc o) := fun w o => (Below.refl _ w).alloc (Nat.le_refl _) _
  have HM : Hid (memB m = (inB m.id 0 11 && (inB m.st 0 3 && inB m.life 0 1000))) := memB_in m
  generalize memB m = mb at HM ⊢
  obtain ⟨i, s, l⟩ := m
  simp only at HM ⊢
  go_enter Try.func54, Try.ntmps54
  cases h1 : inB i 0 11
  · have HK : Hid (mb = false) := by show _ = _; rw [HM.out, h1]; rfl
    clear HM
    go_wp2_with (go_at_call 40; refine (withinV _ _ _ _).mono ?_; rintro e w1 ⟨rfl, rfl⟩; rw [h1])
    go_ret
    exact ⟨by rw [HK.out]; rfl, hB _ _⟩
  cases h2 : inB s 0 3
  · have HK : Hid (mb = false) := by show _ = _; rw [HM.out, h2]; simp
    clear HM
    go_wp2_with (go_at_call 40; refine (withinV _ _ _ _).mono ?_; rintro e w1 ⟨rfl, rfl⟩; first | rw [h1] | rw [h2])
    go_ret
    exact ⟨by rw [HK.out]; rfl, hB _ _⟩
  have HK : Hid (mb = inB l 0 1000) := by show _ = _; rw [HM.out, h1, h2]; simp
  obtain ⟨b3, h3⟩ : ∃ b3, inB l 0 1000 = b3 := ⟨_, rfl⟩
  rw [h3] at HK
  clear HM
  go_wp2_with (go_at_call 40; refine (withinV _ _ _ _).mono ?_; rintro e w1 ⟨rfl, rfl⟩; first | rw [h1] | rw [h2] | rw [h3])
  go_ret
  exact ⟨by rw [HK.out]; rfl, hB _ _⟩

set_option maxHeartbeats 2000000 in
theorem selfOkV (m : DMem) (w : World) :
    Calls Try.prog 56 #[.agg #[.int .i64 m.id, .int .i64 m.st, .int .i64 m.life]] w fun e w' => e = .returned (.bool (ownB m)) ∧ Below w.heap.size w w' := by
  have hB : ∀ w : World, ∀ o, Below w.heap.size w (w.alloc o) := fun w o => (Below.refl _ w).alloc (Nat.le_refl _) _
  have HO : Hid (ownB m = (decide (m.st = 0) || decide (m.st = 3) || decide (m.life = 1000))) := rfl
  generalize ownB m = ob at HO ⊢
  obtain ⟨ti, ts, tl⟩ := m
  simp only at HO ⊢
  go_enter Try.func56, Try.ntmps56
  by_cases e1 : ts = 0
  · have HR : Hid (ob = true) := by show _ = _; rw [HO.out, decide_eq_true e1]; simp
    subst e1
    go_wp2
    go_ret
    exact ⟨by rw [HR.out]; rfl, hB _ _⟩
  have e1' : (ts == 0) = false := by simpa using e1
  by_cases e2 : ts = 3
  · have HR : Hid (ob = true) := by show _ = _; rw [HO.out, decide_eq_true e2]; simp
    subst e2
    go_wp2
    go_ret
    exact ⟨by rw [HR.out]; rfl, hB _ _⟩
  have e2' : (ts == 3) = false := by simpa using e2
  have HR : Hid (ob = (tl == 1000)) := by show _ = _; rw [HO.out, decide_eq_false e1, decide_eq_false e2]; simp; rfl
  generalize hd : (tl == 1000) = d at HR
  clear e1 e2
  go_wp2
  go_ret
  exact ⟨by rw [HR.out]; rfl, hB _ _⟩

end Go.Proofs.Ytfdklcmhafhbeaa

namespace Go.Proofs.Ytfdklcmhafhbeaa
open Go.RowKit

/-- Their names ascend. -/
def AscM (ls : List DMem) : Prop := ∀ (i j : Nat) (a b : DMem), i < j → ls[i]? = some a → ls[j]? = some b → a.id < b.id
theorem ascM_of {ls : List DMem} (h : ∀ i, i < ls.length → MemAt ls i) : AscM ls := by
  have key : ∀ (d i : Nat) (a b : DMem), ls[i]? = some a → ls[i + 1 + d]? = some b → a.id < b.id := by
    intro d
    induction d with
    | zero =>
      intro i a b ha hb
      exact (h (i + 1) (List.getElem?_eq_some_iff.1 hb).1 b hb).2 a (by omega) (by simpa using ha)
    | succ d ih =>
      intro i a b ha hb
      have hlt := (List.getElem?_eq_some_iff.1 hb).1
      obtain ⟨c, hc⟩ : ∃ c, ls[i + 1 + d]? = some c := ⟨_, List.getElem?_eq_getElem (by omega)⟩
      have h1 := ih i a c ha hc
      have h2 := (h (i + 1 + (d + 1)) hlt b hb).2 c (by omega) (by rw [show i + 1 + (d + 1) - 1 = i + 1 + d by omega]; exact hc)
      omega
  intro i j a b hij ha hb
  exact key (j - i - 1) i a b ha (by rw [show i + 1 + (j - i - 1) = j by omega]; exact hb)
/-- How many stand ahead of the place for id. -/
def insK (ts : List DMem) (id : Int) : Nat := (ts.takeWhile fun t => decide (t.id < id)).length
theorem insK_at {ts : List DMem} {id : Int} {k : Nat} (h1 : ∀ (j : Nat) u, j < k → ts[j]? = some u → u.id < id) (h2 : k = ts.length ∨ ∃ u, ts[k]? = some u ∧ ¬ u.id < id) (hk : k ≤ ts.length) : insK ts id = k := by
  unfold insK
  induction ts generalizing k with
  | nil => simp at hk; simp [hk]
  | cons t ts ih =>
    match k with
    | 0 =>
      rcases h2 with h2 | ⟨u, hu, hn⟩
      · simp at h2
      · simp only [List.getElem?_cons_zero, Option.some.injEq] at hu
        subst hu
        rw [List.takeWhile_cons, if_neg (by simpa using hn)]
        rfl
    | k + 1 =>
      have h0 := h1 0 t (by omega) rfl
      rw [List.takeWhile_cons, if_pos (by simpa using h0), List.length_cons]
      rw [ih (k := k) (fun j u hj hu => h1 (j + 1) u (by omega) (by simpa using hu)) (by
        rcases h2 with h2 | ⟨u, hu, hn⟩
        · exact .inl (by simpa using h2)
        · exact .inr ⟨u, by simpa using hu, hn⟩) (by simpa using hk)]

end Go.Proofs.Ytfdklcmhafhbeaa

namespace Go.Proofs.Ytfdklcmhafhbeaa
open Go.RowKit

/-- As cmp.Compare answers. -/
def cmpI (x y : Int) : Int := if x < y then -1 else if y < x then 1 else 0

theorem isNaNV (x : Int) (w : World) : Calls Try.prog 74 #[.int .i64 x] w fun e w' => e = .returned (.bool false) ∧ w' = w := by
  go_enter Try.func74, Try.ntmps74
  go_wp2
  go_ret
  exact ⟨rfl, rfl⟩

theorem compareIV (x y : Int) (w : World) : Calls Try.prog 70 #[.int .i64 x, .int .i64 y] w fun e w' => e = .returned (.int .i64 (cmpI x y)) ∧ w' = w := by
  by_cases h1 : x < y
  · have HC : Hid (cmpI x y = -1) := if_pos h1
    go_enter Try.func70, Try.ntmps70
    go_wp2_with (go_at_call 74; refine (isNaNV _ _).mono ?_; rintro e w1 ⟨rfl, rfl⟩)
    go_ret
    exact ⟨by rw [HC.out]; rfl, rfl⟩
  · have d1 : decide (x < y) = false := decide_eq_false h1
    by_cases h2 : y < x
    · have HC : Hid (cmpI x y = 1) := (if_neg h1).trans (if_pos h2)
      go_enter Try.func70, Try.ntmps70
      go_wp2_with (go_at_call 74; refine (isNaNV _ _).mono ?_; rintro e w1 ⟨rfl, rfl⟩)
      go_ret
      exact ⟨by rw [HC.out]; rfl, rfl⟩
    · have d2 : decide (y < x) = false := decide_eq_false h2
      have HC : Hid (cmpI x y = 0) := (if_neg h1).trans (if_neg h2)
      go_enter Try.func70, Try.ntmps70
      go_wp2_with (go_at_call 74; refine (isNaNV _ _).mono ?_; rintro e w1 ⟨rfl, rfl⟩)
      go_ret
      exact ⟨by rw [HC.out]; rfl, rfl⟩

end Go.Proofs.Ytfdklcmhafhbeaa

namespace Go.Proofs.Ytfdklcmhafhbeaa
open Go.RowKit

/-- What findMember answers: where it is, or where it would have to be put. -/
def FndM (ls : List DMem) (id : Int) (w : World) (e : Ending) (w' : World) : Prop :=
  ∃ (t : Nat) (fb : Bool), e = .returned (.tuple #[.int .i64 t, .bool fb]) ∧ Below w.heap.size w w' ∧ (fb = true → placeM ls id = t) ∧ (fb = false → placeM ls id = -1 ∧ insK ls id = t)

theorem cmpMemV (c r co id : Int) (w : World) : Calls Try.prog 69 #[.agg #[.int .i64 c, .int .i64 r, .int .i64 co], .int .i64 id] w fun e w' => e = .returned (.int .i64 (cmpI c id)) ∧ Below w.heap.size w w' := by
  have hB : ∀ w : World, ∀ o, Below w.heap.size w (w.alloc o) := fun w o => (Below.refl _ w).alloc (Nat.le_refl _) _
  go_enter Try.func69, Try.ntmps69
  go_wp2_with (go_at_call 70; refine (compareIV _ _ _).mono ?_; rintro e w1 ⟨rfl, rfl⟩)
  go_ret
  exact ⟨rfl, hB _ _⟩

set_option maxHeartbeats 4000000 in
theorem bsearchM (v : Value) (ls : List DMem) (client : Int) (w : World) (h : VMem w v ls) (hn4 : ls.length ≤ 12) (hasc : AscM ls) :
    Calls Try.prog 68 #[v, .int .i64 client, .func (.func 69) #[] #[]] w fun e w' =>
      FndM ls client w e w' := by
  have hE : ∀ w : World, ∀ o, Ext w (w.alloc o) := fun w o => World.grownBy_alloc _ _ _
  obtain ⟨C, ⟨a, cap, rfl, h1, h2, h3⟩, hC⟩ := h
  have HC : Hid (∀ i r, ls[i]? = some r → C i 0 = .int .i64 r.id ∧ C i 1 = .int .i64 r.st ∧ C i 2 = .int .i64 r.life) := hC
  have HAS : Hid (AscM ls) := hasc
  obtain ⟨n, hnn⟩ : ∃ n, n = ls.length := ⟨_, rfl⟩
  rw [← hnn] at h1 h3 hn4 ⊢
  have HN : Hid (n = ls.length) := hnn
  clear hnn hC hasc
  unfold maxLen at h2
  have H3 : Hid (0 < n → ∃ b o, a = some ⟨b, o, none⟩ ∧ b < w.heap.size ∧ ∀ i, i < n → ∀ j, j < 3 → w.cell? ⟨b, o + i * 3 + j, none⟩ = some (C i j)) := h3
  clear h3
  go_enter Try.func68, Try.ntmps68
  go_wp2
  go_loopw [9, 10] (fun i j wr => ∃ p q : Nat, p ≤ q ∧ q ≤ n ∧ i = .int .i64 p ∧ j = .int .i64 q ∧ Below w.heap.size w wr ∧ Hid (∀ t s, t < p → ls[t]? = some s → s.id < client) ∧ Hid (∀ t s, q ≤ t → ls[t]? = some s → client ≤ s.id)) (fun i j _ => (intOf j).toNat - (intOf i).toNat)
  case atStart => exact ⟨0, n, Nat.zero_le _, Nat.le_refl _, rfl, rfl, Below.refl _ _, fun t s ht => absurd ht (by omega), fun t s ht hs => absurd (List.getElem?_eq_some_iff.1 hs).1 (by have := HN.out; omega)⟩
  case round =>
    obtain ⟨p, q, hpq, hqn, rfl, rfl, hb, hlo, hhi⟩ := hrel
    by_cases hlt : p < q
    · obtain ⟨b, o, rfl, hbl, hc⟩ := H3.out (by omega)
      obtain ⟨m, hm⟩ : ∃ m, m = (p + q) / 2 := ⟨_, rfl⟩
      have hm1 : m < n := by omega
      have hm2 : p ≤ m := by omega
      have hm3 : m < q := by omega
      obtain ⟨s, hs⟩ : ∃ s, ls[m]? = some s := ⟨_, List.getElem?_eq_getElem (by have := HN.out; omega)⟩
      obtain ⟨e0, e1, e2⟩ := HC.out m s hs
      have X := ext_below hb
      have c0 := World.grownBy.cell X (hc m hm1 0 (by omega)) (by simp)
      have c1 := World.grownBy.cell X (hc m hm1 1 (by omega)) (by simp)
      have c2 := World.grownBy.cell X (hc m hm1 2 (by omega)) (by simp)
      rw [e0, Nat.add_zero, hm] at c0
      rw [e1, hm] at c1
      rw [e2, hm] at c2
      have hlt' : (p : Int) < (q : Int) := by omega
      have HM : Hid (m = (p + q) / 2) := hm
      have HS : Hid (ls[m]? = some s) := hs
      clear hc hs hm e0 e1 e2
      by_cases hcl : s.id < client
      · have HCM : Hid (cmpI s.id client = -1) := if_pos hcl
        have HLO : Hid (∀ t s, t < m + 1 → ls[t]? = some s → s.id < client) := fun t s' ht hs' => by
          by_cases e : t = m
          · subst e
            rw [HS.out] at hs'
            cases hs'
            exact hcl
          · have := HAS.out t m s' s (by omega) hs' HS.out
            omega
        clear hlo hcl
        go_wp2_with (go_at_call 69; refine (cmpMemV _ _ _ _ _).mono ?_; rintro e w2 ⟨rfl, b2⟩; rw [HCM.out])
        go_roundw
        case rel => exact ⟨m + 1, q, by omega, hqn, by rw [HM.out]; go_num, rfl, hb.trans (b2.mono hb.size), HLO, hhi⟩
        case measure => simp [intOf]; omega
      · have HCM : Hid (0 ≤ cmpI s.id client) := by
          show 0 ≤ (if s.id < client then -1 else if client < s.id then 1 else 0)
          rw [if_neg hcl]
          split <;> omega
        have HHI : Hid (∀ t s, m ≤ t → ls[t]? = some s → client ≤ s.id) := fun t s' ht hs' => by
          by_cases e : t = m
          · subst e
            rw [HS.out] at hs'
            cases hs'
            omega
          · have := HAS.out m t s s' (by omega) HS.out hs'
            omega
        obtain ⟨cv, hcv⟩ : ∃ cv, cmpI s.id client = cv := ⟨_, rfl⟩
        have HCV : Hid (cmpI s.id client = cv) := hcv
        have dcv : decide (cv < 0) = false := decide_eq_false (by have := HCM.out; omega)
        clear hhi hcl hcv
        go_wp2_with (go_at_call 69; refine (cmpMemV _ _ _ _ _).mono ?_; rintro e w2 ⟨rfl, b2⟩; rw [HCV.out])
        go_roundw
        case rel => exact ⟨p, m, by omega, by omega, rfl, by rw [HM.out]; go_num, hb.trans (b2.mono hb.size), hlo, HHI⟩
        case measure => simp [intOf]; omega
    · obtain rfl : q = p := by omega
      clear hlt hpq
      by_cases hqn' : q < n
      · obtain ⟨b, o, rfl, hbl, hc⟩ := H3.out (by omega)
        obtain ⟨s, hs⟩ : ∃ s, ls[q]? = some s := ⟨_, List.getElem?_eq_getElem (by have := HN.out; omega)⟩
        obtain ⟨e0, e1, e2⟩ := HC.out q s hs
        have X := ext_below hb
        have c0 := World.grownBy.cell X (hc q hqn' 0 (by omega)) (by simp)
        have c1 := World.grownBy.cell X (hc q hqn' 1 (by omega)) (by simp)
        have c2 := World.grownBy.cell X (hc q hqn' 2 (by omega)) (by simp)
        rw [e0, Nat.add_zero] at c0
        rw [e1] at c1
        rw [e2] at c2
        have hlt' : (q : Int) < (n : Int) := by omega
        have HLO : Hid (∀ t s, t < q → ls[t]? = some s → s.id < client) := hlo
        have HHI : Hid (∀ t s, q ≤ t → ls[t]? = some s → client ≤ s.id) := hhi
        clear hc e0 e1 e2 hlo hhi
        by_cases hcl : s.id = client
        · have HF : Hid (placeM ls client = (q : Int)) := placeM_some hs hcl (fun i y hi hy => by have := HLO.out i y hi hy; omega)
          have HCM : Hid (cmpI s.id client = 0) := by
            show (if s.id < client then -1 else if client < s.id then 1 else 0) = (0 : Int)
            rw [if_neg (by omega), if_neg (by omega)]
          clear hcl hs
          go_wp2_with (go_at_call 69; refine (cmpMemV _ _ _ _ _).mono ?_; rintro e w2 ⟨rfl, b2⟩; rw [HCM.out])
          go_ret2
          exact ⟨q, true, rfl, hb.trans (b2.mono hb.size), fun _ => HF.out, (fun h => by cases h)⟩
        · have HF : Hid (placeM ls client = -1) := placeM_none (fun i y hy => (fun e => by
            by_cases h1 : i < q
            · have := HLO.out i y h1 hy; omega
            · by_cases h2 : i = q
              · subst h2
                rw [hs] at hy
                cases hy
                exact hcl e
              · have h3 := HAS.out q i s y (by omega) hs hy
                have h4 := HHI.out q s (Nat.le_refl _) hs
                omega))
          have HIK : Hid (insK ls client = q) := insK_at (fun j u hj hu => HLO.out j u hj hu) (.inr ⟨s, hs, by have := HHI.out q s (Nat.le_refl _) hs; omega⟩) (by have := HN.out; omega)
          obtain ⟨cv, hcv⟩ : ∃ cv, cmpI s.id client = cv := ⟨_, rfl⟩
          have HCV : Hid (cmpI s.id client = cv) := hcv
          have dcv : (cv == 0) = false := by
            have : cv ≠ 0 := by
              rw [← hcv]
              show (if s.id < client then -1 else if client < s.id then 1 else 0) ≠ (0 : Int)
              split
              · omega
              · rw [if_pos (by omega)]; omega
            simpa using this
          clear hcl hs hcv
          go_wp2_with (go_at_call 69; refine (cmpMemV _ _ _ _ _).mono ?_; rintro e w2 ⟨rfl, b2⟩; rw [HCV.out])
          go_ret2
          exact ⟨q, false, rfl, hb.trans (b2.mono hb.size), (fun h => by cases h), fun _ => ⟨HF.out, HIK.out⟩⟩
      · obtain rfl : q = n := by omega
        have HF : Hid (placeM ls client = -1) := placeM_none (fun i y hy => (fun e => by
          have := hlo.out i y (by have := (List.getElem?_eq_some_iff.1 hy).1; have := HN.out; omega) hy
          omega))
        have HIK : Hid (insK ls client = q) := insK_at (fun j u hj hu => hlo.out j u hj hu) (.inl HN.out) (by have := HN.out; omega)
        clear hlo hhi
        go_wp2
        go_ret2
        exact ⟨q, false, rfl, hb, (fun h => by cases h), fun _ => ⟨HF.out, HIK.out⟩⟩

theorem findMV (v : Value) (ls : List DMem) (id : Int) (w : World) (h : VMem w v ls) (hn4 : ls.length ≤ 12) (hasc : AscM ls) :
    Calls Try.prog 55 #[v, .int .i64 id] w fun e w' => FndM ls id w e w' := by
  go_enter Try.func55, Try.ntmps55
  go_wp2_with (go_at_call 68; refine (bsearchM v ls id w h hn4 hasc).mono ?_; rintro e w1 ⟨t, fb, rfl, b1, f1, f2⟩)
  go_ret2
  exact ⟨t, fb, rfl, b1, f1, f2⟩

end Go.Proofs.Ytfdklcmhafhbeaa

namespace Go.Proofs.Ytfdklcmhafhbeaa
open Go.RowKit

theorem cells2 {w : World} {g : Nat} {v0 v1 : Value} {t : TypeId} (h : w.heap[g]? = some (.cells #[v0, v1] t (0, 0))) : w.cell? ⟨g, 0, none⟩ = some v0 ∧ w.cell? ⟨g, 1, none⟩ = some v1 := ⟨(at_block h 0 _ rfl).1, (at_block h 1 _ rfl).1⟩
theorem cells3 {w : World} {g : Nat} {v0 v1 v2 : Value} {t : TypeId} (h : w.heap[g]? = some (.cells #[v0, v1, v2] t (0, 0))) : w.cell? ⟨g, 0, none⟩ = some v0 ∧ w.cell? ⟨g, 1, none⟩ = some v1 ∧ w.cell? ⟨g, 2, none⟩ = some v2 := ⟨(at_block h 0 _ rfl).1, (at_block h 1 _ rfl).1, (at_block h 2 _ rfl).1⟩

/-- The least name that may stand at k. -/
def LeastAt (ts : List DMem) (k : Nat) (L : Int) : Prop := (k = 0 ∧ L = 0) ∨ ∃ (k' : Nat) (p : DMem), k = k' + 1 ∧ ts[k']? = some p ∧ L = p.id + 1
theorem LeastAt.iff {ts : List DMem} {k : Nat} {L : Int} {s : DMem} (h : LeastAt ts k L) (hs : ts[k]? = some s) (hm : memB s = true) : MemAt ts k ↔ ¬ s.id < L := by
  have h0 : 0 ≤ s.id := by
    simp only [memB, Bool.and_eq_true, decide_eq_true_eq] at hm
    exact hm.1.1.1.1.1
  rcases h with ⟨rfl, rfl⟩ | ⟨k', p, rfl, hp, rfl⟩
  · exact ⟨fun _ => by omega, fun _ t ht => by rw [hs] at ht; cases ht; exact ⟨hm, fun p hp => absurd hp (by omega)⟩⟩
  · constructor
    · intro h
      have := (h s hs).2 p (by omega) (by rw [Nat.add_sub_cancel]; exact hp)
      omega
    · intro h t ht
      rw [hs] at ht
      cases ht
      refine ⟨hm, fun p' _ hp' => ?_⟩
      rw [Nat.add_sub_cancel, hp] at hp'
      cases hp'
      omega

set_option maxRecDepth 20000 in
set_option maxHeartbeats 8000000 in
theorem iTableOkV (v : Value) (T : DTab) (w : World) (h : VTab w v T) (hn : T.mems.length ≤ 1048576) :
    Calls Try.prog 33 #[v] w fun e w' => e = .returned (.bool (tB (TabP T))) ∧ Below w.heap.size w w' := by
  have hB : ∀ w : World, ∀ o, Below w.heap.size w (w.alloc o) := fun w o => (Below.refl _ w).alloc (Nat.le_refl _) _
  obtain ⟨tv, rfl, h⟩ := h
  obtain ⟨a, cap, rfl⟩ := h.shape
  obtain ⟨n, hnn⟩ : ∃ n, n = T.mems.length := ⟨_, rfl⟩
  have HV : Hid (VMem w (.slice a T.mems.length cap) T.mems) := h
  have HN : Hid (n = T.mems.length) := hnn
  rw [← hnn] at HV hn ⊢
  clear h hnn
  have hml2 : (n : Int) ≤ 1048576 := by omega
  go_enter Try.func33, Try.ntmps33
  by_cases g1 : (12 : Int) < n
  · have HK : Hid (tB (TabP T) = false) := tB_false (fun h => by have := h.1; have := HN.out; omega)
    have d1 : decide ((n : Int) > 12) = true := decide_eq_true g1
    go_wp2
    go_ret
    exact ⟨by rw [HK.out]; rfl, hB _ _⟩
  have d1 : decide ((n : Int) > 12) = false := decide_eq_false (by omega)
  have H12 : Hid (n ≤ 12) := by show n ≤ 12; omega
  go_wp2
  have P0 := heap_alloc_new w (.cells #[.int .i64 T.self, .slice a n cap] 36 (0, 0))
  have B0 := hB w (.cells #[.int .i64 T.self, .slice a n cap] 36 (0, 0))
  have HP0 : Hid ((w.alloc (.cells #[.int .i64 T.self, .slice a n cap] 36 (0, 0))).heap[w.heap.size]? = some (.cells #[.int .i64 T.self, .slice a n cap] 36 (0, 0))) := P0
  clear P0
  go_loopw [3, 15] (fun le i wr => ∃ (k : Nat) (L : Int), k ≤ n ∧ le = .int .i64 L ∧ i = .int .i64 k ∧ Hid (∀ j, j < k → MemAt T.mems j) ∧ Hid (LeastAt T.mems k L) ∧ Below w.heap.size w wr ∧ Hid (wr.heap[w.heap.size]? = some (.cells #[.int .i64 T.self, .slice a n cap] 36 (0, 0)))) (fun _ i _ => n - (intOf i).toNat)
  case atStart => exact ⟨0, 0, Nat.zero_le _, rfl, rfl, fun j hj => absurd hj (by omega), .inl ⟨rfl, rfl⟩, B0, HP0⟩
  case round =>
    obtain ⟨k, L, hk, rfl, rfl, hall, hle, hb, hbx⟩ := hrel
    clear B0 HP0 d1 g1
    by_cases hlt : k < n
    · obtain ⟨s, hs⟩ : ∃ s, T.mems[k]? = some s := ⟨_, List.getElem?_eq_getElem (by have := HN.out; omega)⟩
      obtain ⟨b, o, rfl, c0, c1, c2⟩ := HV.out.at (ext_below hb) hs
      have hlt' : (k : Int) < (n : Int) := by omega
      have HE : Hid (∀ W', Calls Try.prog 54 #[.agg #[.int .i64 s.id, .int .i64 s.st, .int .i64 s.life]] W' fun e w' => e = .returned (.bool (memB s)) ∧ Below W'.heap.size W' w') := fun W' => iMemberOkV s W'
      go_upto_region 7 with fail
      generalize hV : wr.alloc _ = V
      have HBV : Hid (Below w.heap.size w V) := by rw [← hV]; exact hb.alloc hb.size _
      have HBX : Hid (V.heap[w.heap.size]? = some (.cells #[.int .i64 T.self, .slice (some ⟨b, o, none⟩) n cap] 36 (0, 0))) := by rw [← hV]; exact below_blk (hB wr _) (Array.getElem?_eq_some_iff.1 hbx.out).1 hbx.out
      obtain ⟨y0, y1, y2⟩ : V.cell? ⟨wr.heap.size, 0, none⟩ = some (.int .i64 s.id) ∧ V.cell? ⟨wr.heap.size, 1, none⟩ = some (.int .i64 s.st) ∧ V.cell? ⟨wr.heap.size, 2, none⟩ = some (.int .i64 s.life) := by rw [← hV]; exact cells3 (heap_alloc_new wr _)
      clear hV c0 c1 c2
      cases hm : memB s
      · have HK : Hid (tB (TabP T) = false) := tB_false (fun h => by have := (h.2.1 k (by have := HN.out; omega) s hs).1; rw [hm] at this; cases this)
        rw [hm] at HE
        clear hm
        as_aux_lemma =>
          go_wp2_with (go_at_call 54; refine (HE.out _).mono ?_; rintro e w2 ⟨rfl, b2⟩; have z0 := World.grownBy.cell (ext_below b2) y0 (by simp))
          go_ret
          exact ⟨by rw [HK.out]; rfl, HBV.out.trans (b2.mono HBV.out.size)⟩
      · rw [hm] at HE
        have HI : Hid (MemAt T.mems k ↔ ¬ s.id < L) := hle.out.iff hs hm
        have hid : 0 ≤ s.id ∧ s.id < 12 := by
          simp only [memB, Bool.and_eq_true, decide_eq_true_eq] at hm
          exact ⟨hm.1.1.1.1.1, hm.1.1.1.1.2⟩
        obtain ⟨hid0, hid1⟩ := hid
        clear hm
        cases hc : decide (s.id < L)
        · have HA : Hid (∀ j, j < k + 1 → MemAt T.mems j) := fun j hj => by
            by_cases ej : j = k
            · subst ej
              exact HI.out.2 (of_decide_eq_false hc)
            · exact hall.out j (by omega)
          have HLE : Hid (LeastAt T.mems (k + 1) (s.id + 1)) := .inr ⟨k, s, rfl, hs, rfl⟩
          as_aux_lemma =>
            go_wp2_with (go_at_call 54; refine (HE.out _).mono ?_; rintro e w2 ⟨rfl, b2⟩; have z0 := World.grownBy.cell (ext_below b2) y0 (by simp))
            go_roundw
            case rel => exact ⟨k + 1, s.id + 1, by omega, by go_num, by go_num, HA, HLE, HBV.out.trans (b2.mono HBV.out.size), below_blk b2 (Array.getElem?_eq_some_iff.1 HBX.out).1 HBX.out⟩
            case measure => simp [intOf]; omega
        · have HK : Hid (tB (TabP T) = false) := tB_false (fun h => HI.out.1 (h.2.1 k (by have := HN.out; omega)) (of_decide_eq_true hc))
          as_aux_lemma =>
            go_wp2_with (go_at_call 54; refine (HE.out _).mono ?_; rintro e w2 ⟨rfl, b2⟩; have z0 := World.grownBy.cell (ext_below b2) y0 (by simp))
            go_ret
            exact ⟨by rw [HK.out]; rfl, HBV.out.trans (b2.mono HBV.out.size)⟩
    · have hkn : n = k := by omega
      subst hkn
      have HALL : Hid (T.mems.length ≤ 12 ∧ ∀ i, i < T.mems.length → MemAt T.mems i) := ⟨by have := HN.out; have := H12.out; omega, fun i hi => hall.out i (by have := HN.out; omega)⟩
      obtain ⟨q0, q1⟩ := cells2 hbx.out
      go_wp2_with fail
      refine (findMV _ T.mems T.self wr (HV.out.ext (ext_below hb)) HALL.out.1 (ascM_of HALL.out.2)).mono ?_
      rintro e w2 ⟨t, fb, rfl, b2, f1, f2⟩
      have HF1 : Hid (fb = true → placeM T.mems T.self = t) := f1
      have HF2 : Hid (fb = false → placeM T.mems T.self = -1 ∧ insK T.mems T.self = t) := f2
      have hb2 := hb.trans (b2.mono hb.size)
      have hbx2 := below_blk b2 (Array.getElem?_eq_some_iff.1 hbx.out).1 hbx.out
      clear q0 q1 f1 f2
      obtain ⟨q0, q1⟩ := cells2 hbx2
      cases fb
      · have HK : Hid (tB (TabP T) = false) := tB_false (fun h => by
          obtain ⟨i, t, ht, he, hf, _⟩ := h.2.2
          have := placeM_some ht he hf
          have := (HF2.out rfl).1
          omega)
        clear HF1 HF2
        go_wp2
        go_ret
        exact ⟨by rw [HK.out]; rfl, hb2⟩
      · rcases placeM_cases T.mems T.self with ⟨hp, hno⟩ | ⟨i, u, hu, he, hf, hp⟩
        · exact absurd (HF1.out rfl) (by omega)
        have hit : i = t := by have := HF1.out rfl; omega
        subst hit
        have hin : i < n := by have := (List.getElem?_eq_some_iff.1 hu).1; have := HN.out; omega
        have hin' : (i : Int) < (n : Int) := by omega
        obtain ⟨b, o, rfl, c0, c1, c2⟩ := HV.out.at (ext_below hb2) hu
        have HK : Hid (tB (TabP T) = ownB u) := by
          show _ = _
          cases ho : ownB u
          · refine tB_false (fun h => ?_)
            obtain ⟨i', t', ht', he', hf', ho'⟩ := h.2.2
            have e1 := placeM_some ht' he' hf'
            have : i' = i := by omega
            subst this
            rw [hu] at ht'
            cases ht'
            rw [ho] at ho'
            cases ho'
          · exact tB_true ⟨HALL.out.1, HALL.out.2, i, u, hu, he, hf, ho⟩
        have HS : Hid (∀ W', Calls Try.prog 56 #[.agg #[.int .i64 u.id, .int .i64 u.st, .int .i64 u.life]] W' fun e w' => e = .returned (.bool (ownB u)) ∧ Below W'.heap.size W' w') := fun W' => selfOkV u W'
        generalize ownB u = ob at HK HS
        clear hp hf he HF1 HF2
        go_wp2_with (go_at_call 56; refine (HS.out _).mono ?_; rintro e w3 ⟨rfl, b3⟩)
        go_ret
        exact ⟨by rw [HK.out]; rfl, hb2.trans (b3.mono hb2.size)⟩

end Go.Proofs.Ytfdklcmhafhbeaa

namespace Go.Proofs.Ytfdklcmhafhbeaa
open Go.RowKit

set_option maxRecDepth 20000 in
set_option maxHeartbeats 4000000 in
theorem iLiveV (v : Value) (T : DTab) (w : World) (h : VTab w v T) (hn : T.mems.length ≤ 1048576) :
    Calls Try.prog 58 #[v] w fun e w' => ∃ lv, e = .returned lv ∧ OwI w' w.heap.size lv (liveD T) ∧ Below w.heap.size w w' := by
  have hE : ∀ w : World, ∀ o, Ext w (w.alloc o) := fun w o => World.grownBy_alloc _ _ _
  have hB : ∀ w : World, ∀ o, Below w.heap.size w (w.alloc o) := fun w o => (Below.refl _ w).alloc (Nat.le_refl _) _
  have HT : Hid (VTab w v T) := h
  have HN : Hid (T.mems.length ≤ 1048576) := hn
  obtain ⟨tv, rfl, h⟩ := h
  obtain ⟨a, cap, rfl⟩ := h.shape
  obtain ⟨n, hnn⟩ : ∃ n, n = T.mems.length := ⟨_, rfl⟩
  have HNN : Hid (n = T.mems.length) := hnn
  rw [← hnn] at HT h ⊢
  have HV : Hid (VMem w (.slice a n cap) T.mems) := h
  have hml : (n : Int) ≤ 1048576 := by omega
  clear h hnn hn
  go_enter Try.func58, Try.ntmps58
  go_wp2_with fail
  refine (iTableOkV _ T _ (HT.out.ext (hE _ _)) HN.out).mono ?_
  rintro e w1 ⟨rfl, b1⟩
  have B1 := (hB w _).trans (b1.mono (by simp))
  have PA1 := below_blk b1 (by simp) (heap_alloc_new w _)
  clear b1
  obtain ⟨q0, q1⟩ := cells2 PA1
  cases t0 : tB (TabP T)
  · have HK : Hid (liveD T = []) := liveD_no (fun h' => by rw [tB_true h'] at t0; cases t0)
    clear t0
    go_wp2
    go_ret
    refine ⟨_, rfl, ?_, B1⟩
    rw [HK.out]
    exact World.ownsRow_nil _ _ _ _
  have HTP : Hid (TabP T) := tB_iff.1 t0
  clear t0
  have HPA : Hid (w1.heap[w.heap.size]? = some (.cells #[.int .i64 T.self, .slice a n cap] 36 (0, 0))) := PA1
  go_wp2
  go_loopw [3, 12] (fun lv i wr => ∃ k : Nat, k ≤ n ∧ i = .int .i64 k ∧ ∃ xs, Hid (xs = liveL (T.mems.take k)) ∧ xs.length ≤ k ∧ Hid (OwI wr w.heap.size lv xs) ∧ Below w.heap.size w wr ∧ Hid (wr.heap[w.heap.size]? = some (.cells #[.int .i64 T.self, .slice a n cap] 36 (0, 0)))) (fun _ i _ => n - (intOf i).toNat)
  case atStart => exact ⟨0, Nat.zero_le _, rfl, [], by show _ = _; simp [liveL], Nat.le_refl _, World.ownsRow_nil _ _ _ _, B1, HPA⟩
  case round =>
    obtain ⟨k, hk, rfl, xs, hxs, hxl, ho, hb, hbx⟩ := hrel
    clear q0 q1 PA1 B1 HPA
    obtain ⟨q0, q1⟩ := cells2 hbx.out
    obtain ⟨la, lc, rfl⟩ := ho.out.shape
    by_cases hlt : k < n
    · obtain ⟨s, hs⟩ : ∃ s, T.mems[k]? = some s := ⟨_, List.getElem?_eq_getElem (by have := HNN.out; omega)⟩
      obtain ⟨b, o, rfl, c0, c1, c2⟩ := HV.out.at (ext_below hb) hs
      have hlt' : (k : Int) < (n : Int) := by omega
      have HNX := liveL_next hs
      rw [← hxs.out] at HNX
      have hst : 0 ≤ s.st := by
        have := (HTP.out.2.1 k (by have := HNN.out; omega) s hs).1
        simp only [memB, Bool.and_eq_true, decide_eq_true_eq] at this
        exact this.1.1.1.2
      have HNX' : Hid (liveL (T.mems.take (k + 1)) = xs ++ (if s.st ≤ 1 then [s.id] else [])) := HNX
      clear HNX
      have sz := hb.size
      have hBV : ∀ ob, Below w.heap.size w (wr.alloc ob) := fun ob => hb.alloc hb.size _
      have hbxV : ∀ ob, (wr.alloc ob).heap[w.heap.size]? = some (.cells #[.int .i64 T.self, .slice (some ⟨b, o, none⟩) n cap] 36 (0, 0)) := fun ob => ext_blk (hE wr ob) hbx.out
      have HOV : Hid (∀ ob, OwI (wr.alloc ob) w.heap.size (.slice la xs.length lc) xs) := fun ob => ho.out.ext (hE _ _)
      have HST : Hid (0 ≤ s.st) := hst
      clear hst
      go_upto_region 7 with fail
      have y0 : (wr.alloc (.cells #[.int .i64 s.id, .int .i64 s.st, .int .i64 s.life] 72 (0, 0))).cell? ⟨wr.heap.size, 0, none⟩ = some (.int .i64 s.id) := (cells3 (heap_alloc_new wr _)).1
      have y1 : (wr.alloc (.cells #[.int .i64 s.id, .int .i64 s.st, .int .i64 s.life] 72 (0, 0))).cell? ⟨wr.heap.size, 1, none⟩ = some (.int .i64 s.st) := (cells3 (heap_alloc_new wr _)).2.1
      have BV := hBV (.cells #[.int .i64 s.id, .int .i64 s.st, .int .i64 s.life] 72 (0, 0))
      have BX := hbxV (.cells #[.int .i64 s.id, .int .i64 s.st, .int .i64 s.life] 72 (0, 0))
      have OV := HOV.out (.cells #[.int .i64 s.id, .int .i64 s.st, .int .i64 s.life] 72 (0, 0))
      generalize wr.alloc (.cells #[.int .i64 s.id, .int .i64 s.st, .int .i64 s.life] 72 (0, 0)) = V at y0 y1 BV BX OV ⊢
      have HBV : Hid (Below w.heap.size w V) := BV
      have HBX : Hid (V.heap[w.heap.size]? = some (.cells #[.int .i64 T.self, .slice (some ⟨b, o, none⟩) n cap] 36 (0, 0))) := BX
      have HOW : Hid (OwI V w.heap.size (.slice la xs.length lc) xs) := OV
      clear c0 c1 c2 hBV hbxV HOV BV BX OV q0 q1
      by_cases e1 : s.st ≤ 1
      case neg =>
        have HX : Hid (xs = liveL (T.mems.take (k + 1))) := by show _ = _; rw [HNX'.out, if_neg e1, List.append_nil]
        have d0 : (s.st == 0) = false := by have : s.st ≠ 0 := by omega
                                            simpa using this
        have d1 : (s.st == 1) = false := by have : s.st ≠ 1 := by omega
                                            simpa using this
        clear HNX' e1
        go_wp2
        go_roundw
        case rel => exact ⟨k + 1, by omega, by go_num, xs, HX, by omega, HOW, HBV.out, HBX⟩
        case measure => simp [intOf]; omega
      have HX : Hid (xs ++ [s.id] = liveL (T.mems.take (k + 1))) := by show _ = _; rw [HNX'.out, if_pos e1]
      have kc : ∀ z, (V.alloc (.cells #[.int .i64 z] 3 (0, 0))).cell? ⟨V.heap.size, 0, none⟩ = some (.int .i64 z) := fun z => (at_block (heap_alloc_new V _) 0 _ rfl).1
      have sV := HBV.out.size
      have HOA : Hid (OwI (V.alloc (.cells #[.int .i64 s.id] 3 (0, 0))) w.heap.size (.slice la xs.length lc) xs) := HOW.out.ext (hE _ _)
      have HFIN : Hid (∀ v' w', OwI w' w.heap.size v' (xs ++ [s.id]) → (V.alloc (.cells #[.int .i64 s.id] 3 (0, 0))).grownBy w' (Value.slice la xs.length lc).ownBlock → Below w.heap.size w w' ∧ w'.heap[w.heap.size]? = some (.cells #[.int .i64 T.self, .slice (some ⟨b, o, none⟩) n cap] 36 (0, 0))) := by
        intro v' w' o' g'
        have hA := ext_blk (hE V (.cells #[.int .i64 s.id] 3 (0, 0))) HBX.out
        refine ⟨(HBV.out.alloc HBV.out.size _).grown g' (by simp; omega) (fun j hj => (World.ownsRow.lt HOA.out j hj).1), (g'.block _ (Array.getElem?_eq_some_iff.1 hA).1 (fun e => ?_)).trans hA⟩
        rcases HOA.out.2 with ⟨hv, _⟩ | ⟨gg, cc, cur, hv, _, hg, _⟩
        · rw [hv] at e; cases e
        · rw [hv] at e
          simp only [Value.ownBlock, Option.some.injEq] at e
          subst e
          rw [hA] at hg
          cases hg
      have hst2 : s.st = 0 ∨ s.st = 1 := by have := HST.out; omega
      obtain ⟨d0, hd0⟩ : ∃ d0, (s.st == 0) = d0 := ⟨_, rfl⟩
      clear HNX' e1 ho
      cases d0
      · have hd1 : (s.st == 1) = true := by
          have : s.st ≠ 0 := by simpa using hd0
          have : s.st = 1 := by omega
          simpa using this
        clear hst2
        go_wp2_with (at_builtin; refine wpList_append_i1 _ rfl _ _ rfl w.heap.size (.slice la xs.length lc) xs rfl HOA.out V.heap.size s.id rfl (kc _) (by omega) (by simp; omega) ?_; intro v' w' o' g'; obtain ⟨bb, pp⟩ := HFIN.out v' w' o' g'; have oo : Hid (OwI w' w.heap.size v' (xs ++ [s.id])) := o')
        go_roundw
        case rel => exact ⟨k + 1, by omega, by go_num, _, HX, by simp; omega, oo, bb, pp⟩
        case measure => simp [intOf]; omega
      · clear hst2
        go_wp2_with (at_builtin; refine wpList_append_i1 _ rfl _ _ rfl w.heap.size (.slice la xs.length lc) xs rfl HOA.out V.heap.size s.id rfl (kc _) (by omega) (by simp; omega) ?_; intro v' w' o' g'; obtain ⟨bb, pp⟩ := HFIN.out v' w' o' g'; have oo : Hid (OwI w' w.heap.size v' (xs ++ [s.id])) := o')
        go_roundw
        case rel => exact ⟨k + 1, by omega, by go_num, _, HX, by simp; omega, oo, bb, pp⟩
        case measure => simp [intOf]; omega
    · have hkn : k = n := by omega
      subst hkn
      have HR : Hid (liveD T = xs) := by
        show _ = _
        rw [liveD_yes HTP.out, hxs.out, List.take_of_length_le (by have := HNN.out; omega)]
      go_wp2
      go_ret
      refine ⟨_, rfl, ?_, hb⟩
      rw [HR.out]
      exact ho.out

end Go.Proofs.Ytfdklcmhafhbeaa

namespace Go.Proofs.Ytfdklcmhafhbeaa
open Go.RowKit

set_option maxRecDepth 20000 in
set_option maxHeartbeats 2000000 in
theorem iOthersV (v : Value) (T : DTab) (w : World) (h : VTab w v T) (hn : T.mems.length ≤ 1048576) :
    Calls Try.prog 36 #[v] w fun e w' => ∃ v', e = .returned v' ∧ OwI w' w.heap.size v' (othersD T) ∧ Below w.heap.size w w' := by
  have hE : ∀ w : World, ∀ o, Ext w (w.alloc o) := fun w o => World.grownBy_alloc _ _ _
  have HT : Hid (VTab w v T) := h
  have HN : Hid (T.mems.length ≤ 1048576) := hn
  obtain ⟨tv, rfl, ht⟩ := h
  obtain ⟨a, cap, rfl⟩ := ht.shape
  obtain ⟨n, hnn⟩ : ∃ n, n = T.mems.length := ⟨_, rfl⟩
  rw [← hnn] at HT ⊢
  obtain ⟨R, hR⟩ : ∃ R, R = othersD T := ⟨_, rfl⟩
  have HR : Hid (R = exceptL (liveD T) T.self) := hR
  rw [← hR]
  clear ht hnn hn hR
  go_enter Try.func36, Try.ntmps36
  go_upto_region 1 with fail
  generalize hW : w.alloc _ = W
  have XW : Hid (Ext w W) := by rw [← hW]; exact hE _ _
  have P0 : W.heap[w.heap.size]? = some (.cells #[.int .i64 T.self, .slice a n cap] 36 (0, 0)) := by rw [← hW]; exact heap_alloc_new w _
  clear hW
  obtain ⟨c0, c1⟩ := two_cells P0
  have HP0 : Hid (W.heap[w.heap.size]? = some (.cells #[.int .i64 T.self, .slice a n cap] 36 (0, 0))) := P0
  clear P0
  go_region_held3 (fun w' => w'.cell? ⟨w.heap.size, 0, none⟩ = some (.int .i64 T.self) ∧ w'.cell? ⟨w.heap.size, 1, none⟩ = some (.slice a n cap)) (first | (simp [*]; done) | go_keep)
    (first
      | (have zz := HO1; clear zz; go_at_call 41; refine (withoutV _ (liveD T) T.self _ _ HO1.out (live_len HN.out)).mono ?_; rintro e w2 ⟨v2, rfl, o2, g2⟩; rw [← HR.out] at o2; obtain ⟨a2, e2, rfl⟩ := o2.shape; have HO2 : Hid (OwI w2 w.heap.size (.slice a2 R.length e2) R) := o2.base (by have := XW.out.size; exact this); have HB2 : Hid (Below w.heap.size w w2) := HB1.out.grown g2 HB1.out.size (fun k hk => Nat.le_trans XW.out.size (World.ownsRow.lt HO1.out k hk).1); obtain ⟨d0, d1⟩ := two_cells ((g2.block _ (Array.getElem?_eq_some_iff.1 HP1.out).1 (ne_rowN HO1.out HP1.out (by decide))).trans HP1.out); clear o2 g2)
      | (go_at_call 58; refine (iLiveV _ T _ (HT.out.ext (XW.out.tr (ext_drewN W 1))) HN.out).mono ?_; rintro e w1 ⟨v1, rfl, o1, b1⟩; obtain ⟨a1, e1, rfl⟩ := o1.shape; have HO1 : Hid (OwI w1 W.heap.size (.slice a1 (liveD T).length e1) (liveD T)) := o1; have XW1 : Hid (Ext W w1) := (ext_drewN W 1).tr (ext_below b1); have HB1 : Hid (Below w.heap.size w w1) := ext_bel (XW.out.tr XW1.out); have HP1 := hideR (ext_blk XW1.out HP0.out); obtain ⟨b0, b1'⟩ := two_cells HP1.out; clear o1 b1))
  all_goals
    go_wp2
    go_ret
    exact ⟨_, rfl, HO2.out, HB2.out⟩

end Go.Proofs.Ytfdklcmhafhbeaa

namespace Go.Proofs.Ytfdklcmhafhbeaa
open Go.RowKit

/-- The seven tests of ProberOk, one behind the other. -/
theorem proP_iff (P : DPro) : ProP P ↔ (OrdB P.order ∧ inB P.next 0 P.order.length = true ∧ inB P.seed 0 2147483647 = true ∧ inB P.state 0 2 = true ∧ inB P.who 0 11 = true ∧ inB P.wait 0 4 = true ∧ (P.state ≠ 0 ∨ (P.who = 0 ∧ P.wait = 0))) := by
  unfold ProP OrdB inB
  simp only [Bool.and_eq_true, decide_eq_true_eq]
  constructor
  · rintro ⟨h1, h2, h3, h4, h5, h6, h7, h8⟩
    exact ⟨⟨h1, h7⟩, h2, h3, h4, ⟨h6.1, by omega⟩, h5, h8⟩
  · rintro ⟨⟨h1, h7⟩, h2, h3, h4, h6, h5, h8⟩
    exact ⟨h1, h2, h3, h4, h5, ⟨h6.1, by omega⟩, h7, h8⟩

set_option maxRecDepth 20000 in
set_option maxHeartbeats 4000000 in
theorem iProberOkV (v : Value) (P : DPro) (w : World) (h : VPro w v P) (_hn : P.order.length ≤ 1048576) :
    Calls Try.prog 32 #[v] w fun e w' => e = .returned (.bool (tB (ProP P))) ∧ Below w.heap.size w w' := by
  have hB : ∀ w : World, ∀ o, Below w.heap.size w (w.alloc o) := fun w o => (Below.refl _ w).alloc (Nat.le_refl _) _
  have hE : ∀ w : World, ∀ o, Ext w (w.alloc o) := fun w o => World.grownBy_alloc _ _ _
  obtain ⟨ov, rfl, ho⟩ := h
  obtain ⟨a, cap, rfl⟩ := vl_shape ho
  obtain ⟨n, hnn⟩ : ∃ n, n = P.order.length := ⟨_, rfl⟩
  have HV : Hid (VL fI w (.slice a n cap) P.order) := by rw [hnn]; exact ho
  obtain ⟨R, hR⟩ : ∃ R, R = tB (ProP P) := ⟨_, rfl⟩
  rw [← hR]
  have HI := proP_iff P
  rw [← hnn] at HI ⊢
  have HNO : Hid (¬ ProP P → R = false) := fun h => by rw [hR]; exact tB_false h
  have HYE : Hid (ProP P → R = true) := fun h => by rw [hR]; exact tB_true h
  rw [HI] at HNO HYE
  have hml : (n : Int) ≤ 1048576 := by omega
  clear ho hnn hR HI _hn
  obtain ⟨os, nx, sd, st, wh, wt⟩ := P
  simp only at HNO HYE HV ⊢
  go_enter Try.func32, Try.ntmps32
  cases t0 : tB (OrdB os)
  · have HK : Hid (R = false) := HNO.out (fun h => by have := tB_true h.1; rw [t0] at this; cases this)
    clear HNO HYE
    go_wp2_with (go_at_call 52; refine (orderOkV _ os _ (HV.out.ext (hE _ _))).mono ?_; rintro e w1 ⟨rfl, rfl⟩; rw [t0])
    go_ret
    exact ⟨by rw [HK.out]; rfl, hB _ _⟩
  cases t1 : inB nx 0 n
  · have HK : Hid (R = false) := HNO.out (fun h => by have := h.2.1; rw [t1] at this; cases this)
    clear HNO HYE
    go_wp2_with (first | (go_at_call 52; refine (orderOkV _ os _ (HV.out.ext (hE _ _))).mono ?_; rintro e w1 ⟨rfl, rfl⟩; rw [t0]) | (go_at_call 40; refine (withinV _ _ _ _).mono ?_; rintro e w1 ⟨rfl, rfl⟩; rw [t1]))
    go_ret
    exact ⟨by rw [HK.out]; rfl, hB _ _⟩
  cases t2 : inB sd 0 2147483647
  · have HK : Hid (R = false) := HNO.out (fun h => by have := h.2.2.1; rw [t2] at this; cases this)
    clear HNO HYE
    go_wp2_with (first | (go_at_call 52; refine (orderOkV _ os _ (HV.out.ext (hE _ _))).mono ?_; rintro e w1 ⟨rfl, rfl⟩; rw [t0]) | (go_at_call 40; refine (withinV _ _ _ _).mono ?_; rintro e w1 ⟨rfl, rfl⟩; rw [t1]) | (go_at_call 53; refine (seedOkV _ _).mono ?_; rintro e w1 ⟨rfl, rfl⟩; rw [t2]))
    go_ret
    exact ⟨by rw [HK.out]; rfl, hB _ _⟩
  cases t3 : inB st 0 2
  · have HK : Hid (R = false) := HNO.out (fun h => by have := h.2.2.2.1; rw [t3] at this; cases this)
    clear HNO HYE
    go_wp2_with (first | (go_at_call 52; refine (orderOkV _ os _ (HV.out.ext (hE _ _))).mono ?_; rintro e w1 ⟨rfl, rfl⟩; rw [t0]) | (go_at_call 40; refine (withinV _ _ _ _).mono ?_; rintro e w1 ⟨rfl, rfl⟩; rw [t1]) | (go_at_call 53; refine (seedOkV _ _).mono ?_; rintro e w1 ⟨rfl, rfl⟩; rw [t2]) | (go_at_call 40; refine (withinV _ _ _ _).mono ?_; rintro e w1 ⟨rfl, rfl⟩; rw [t3]))
    go_ret
    exact ⟨by rw [HK.out]; rfl, hB _ _⟩
  cases t4 : inB wh 0 11
  · have HK : Hid (R = false) := HNO.out (fun h => by have := h.2.2.2.2.1; rw [t4] at this; cases this)
    clear HNO HYE
    go_wp2_with (first | (go_at_call 52; refine (orderOkV _ os _ (HV.out.ext (hE _ _))).mono ?_; rintro e w1 ⟨rfl, rfl⟩; rw [t0]) | (go_at_call 40; refine (withinV _ _ _ _).mono ?_; rintro e w1 ⟨rfl, rfl⟩; rw [t1]) | (go_at_call 53; refine (seedOkV _ _).mono ?_; rintro e w1 ⟨rfl, rfl⟩; rw [t2]) | (go_at_call 40; refine (withinV _ _ _ _).mono ?_; rintro e w1 ⟨rfl, rfl⟩; rw [t3]) | (go_at_call 40; refine (withinV _ _ _ _).mono ?_; rintro e w1 ⟨rfl, rfl⟩; rw [t4]))
    go_ret
    exact ⟨by rw [HK.out]; rfl, hB _ _⟩
  cases t5 : inB wt 0 4
  · have HK : Hid (R = false) := HNO.out (fun h => by have := h.2.2.2.2.2.1; rw [t5] at this; cases this)
    clear HNO HYE
    go_wp2_with (first | (go_at_call 52; refine (orderOkV _ os _ (HV.out.ext (hE _ _))).mono ?_; rintro e w1 ⟨rfl, rfl⟩; rw [t0]) | (go_at_call 40; refine (withinV _ _ _ _).mono ?_; rintro e w1 ⟨rfl, rfl⟩; rw [t1]) | (go_at_call 53; refine (seedOkV _ _).mono ?_; rintro e w1 ⟨rfl, rfl⟩; rw [t2]) | (go_at_call 40; refine (withinV _ _ _ _).mono ?_; rintro e w1 ⟨rfl, rfl⟩; rw [t3]) | (go_at_call 40; refine (withinV _ _ _ _).mono ?_; rintro e w1 ⟨rfl, rfl⟩; rw [t4]) | (go_at_call 40; refine (withinV _ _ _ _).mono ?_; rintro e w1 ⟨rfl, rfl⟩; rw [t5]))
    go_ret
    exact ⟨by rw [HK.out]; rfl, hB _ _⟩
  have HOB : Hid (OrdB os) := tB_iff.1 t0
  have HALL : Hid (st ≠ 0 ∨ (wh = 0 ∧ wt = 0) → R = true) := fun h => HYE.out ⟨HOB.out, t1, t2, t3, t4, t5, h⟩
  have HNOT : Hid (¬ (st ≠ 0 ∨ (wh = 0 ∧ wt = 0)) → R = false) := fun h => HNO.out (fun h' => h h'.2.2.2.2.2.2)
  clear HNO HYE
  by_cases e1 : st = 0
  · have e1' : (st != 0) = false := by simp [e1]
    by_cases e2 : wh = 0
    · have e2' : (wh == 0) = true := by simp [e2]
      by_cases e3 : wt = 0
      · have e3' : (wt == 0) = true := by simp [e3]
        have HK : Hid (R = true) := HALL.out (.inr ⟨e2, e3⟩)
        clear e1 e2 e3
        go_wp2_with (first | (go_at_call 52; refine (orderOkV _ os _ (HV.out.ext (hE _ _))).mono ?_; rintro e w1 ⟨rfl, rfl⟩; rw [t0]) | (go_at_call 40; refine (withinV _ _ _ _).mono ?_; rintro e w1 ⟨rfl, rfl⟩; rw [t1]) | (go_at_call 53; refine (seedOkV _ _).mono ?_; rintro e w1 ⟨rfl, rfl⟩; rw [t2]) | (go_at_call 40; refine (withinV _ _ _ _).mono ?_; rintro e w1 ⟨rfl, rfl⟩; rw [t3]) | (go_at_call 40; refine (withinV _ _ _ _).mono ?_; rintro e w1 ⟨rfl, rfl⟩; rw [t4]) | (go_at_call 40; refine (withinV _ _ _ _).mono ?_; rintro e w1 ⟨rfl, rfl⟩; rw [t5]))
        go_ret
        exact ⟨by rw [HK.out]; rfl, hB _ _⟩
      · have e3' : (wt == 0) = false := by simp [e3]
        have HK : Hid (R = false) := HNOT.out (fun h => h.elim (fun h => h e1) (fun h => e3 h.2))
        clear e1 e2 e3
        go_wp2_with (first | (go_at_call 52; refine (orderOkV _ os _ (HV.out.ext (hE _ _))).mono ?_; rintro e w1 ⟨rfl, rfl⟩; rw [t0]) | (go_at_call 40; refine (withinV _ _ _ _).mono ?_; rintro e w1 ⟨rfl, rfl⟩; rw [t1]) | (go_at_call 53; refine (seedOkV _ _).mono ?_; rintro e w1 ⟨rfl, rfl⟩; rw [t2]) | (go_at_call 40; refine (withinV _ _ _ _).mono ?_; rintro e w1 ⟨rfl, rfl⟩; rw [t3]) | (go_at_call 40; refine (withinV _ _ _ _).mono ?_; rintro e w1 ⟨rfl, rfl⟩; rw [t4]) | (go_at_call 40; refine (withinV _ _ _ _).mono ?_; rintro e w1 ⟨rfl, rfl⟩; rw [t5]))
        go_ret
        exact ⟨by rw [HK.out]; rfl, hB _ _⟩
    · have e2' : (wh == 0) = false := by simp [e2]
      have HK : Hid (R = false) := HNOT.out (fun h => h.elim (fun h => h e1) (fun h => e2 h.1))
      clear e1 e2
      go_wp2_with (first | (go_at_call 52; refine (orderOkV _ os _ (HV.out.ext (hE _ _))).mono ?_; rintro e w1 ⟨rfl, rfl⟩; rw [t0]) | (go_at_call 40; refine (withinV _ _ _ _).mono ?_; rintro e w1 ⟨rfl, rfl⟩; rw [t1]) | (go_at_call 53; refine (seedOkV _ _).mono ?_; rintro e w1 ⟨rfl, rfl⟩; rw [t2]) | (go_at_call 40; refine (withinV _ _ _ _).mono ?_; rintro e w1 ⟨rfl, rfl⟩; rw [t3]) | (go_at_call 40; refine (withinV _ _ _ _).mono ?_; rintro e w1 ⟨rfl, rfl⟩; rw [t4]) | (go_at_call 40; refine (withinV _ _ _ _).mono ?_; rintro e w1 ⟨rfl, rfl⟩; rw [t5]))
      go_ret
      exact ⟨by rw [HK.out]; rfl, hB _ _⟩
  · have e1' : (st != 0) = true := by simp [e1]
    have HK : Hid (R = true) := HALL.out (.inl e1)
    clear e1
    go_wp2_with (first | (go_at_call 52; refine (orderOkV _ os _ (HV.out.ext (hE _ _))).mono ?_; rintro e w1 ⟨rfl, rfl⟩; rw [t0]) | (go_at_call 40; refine (withinV _ _ _ _).mono ?_; rintro e w1 ⟨rfl, rfl⟩; rw [t1]) | (go_at_call 53; refine (seedOkV _ _).mono ?_; rintro e w1 ⟨rfl, rfl⟩; rw [t2]) | (go_at_call 40; refine (withinV _ _ _ _).mono ?_; rintro e w1 ⟨rfl, rfl⟩; rw [t3]) | (go_at_call 40; refine (withinV _ _ _ _).mono ?_; rintro e w1 ⟨rfl, rfl⟩; rw [t4]) | (go_at_call 40; refine (withinV _ _ _ _).mono ?_; rintro e w1 ⟨rfl, rfl⟩; rw [t5]))
    go_ret
    exact ⟨by rw [HK.out]; rfl, hB _ _⟩

end Go.Proofs.Ytfdklcmhafhbeaa

namespace Go.Proofs.Ytfdklcmhafhbeaa
open Go.RowKit

theorem others12 {T : DTab} (h : TabP T) : (othersD T).length ≤ 12 := Nat.le_trans (except_len _ _) (by rw [liveD_yes h]; exact Nat.le_trans (liveL_len _) h.1)
theorem others_nn {T : DTab} (h : TabP T) : ∀ x ∈ othersD T, 0 ≤ x := fun x hx => by
  have hx1 : x ∈ liveD T := (List.mem_filter.1 hx).1
  rw [liveD_yes h] at hx1
  unfold liveL at hx1
  obtain ⟨t, ht, rfl⟩ := List.mem_map.1 hx1
  obtain ⟨i, hi⟩ := List.getElem?_of_mem (List.mem_filter.1 ht).1
  have := h.2.1 i (List.getElem?_eq_some_iff.1 hi).1
  have hm := (this t hi).1
  unfold memB at hm
  simp only [Bool.and_eq_true, decide_eq_true_eq] at hm
  exact hm.1.1.1.1.1
theorem scanL_mem {l : List Int} : ∀ {os : List Int} {j : Nat} {x : Int} {k : Nat}, scanL l os j = some (x, k) → x ∈ l
  | [], _, _, _, h => by cases h
  | y :: os, j, x, k, h => by
    rw [scanL] at h
    split at h
    · rename_i hc
      simp only [Option.some.injEq, Prod.mk.injEq] at h
      rw [← h.1]
      simpa using hc
    · exact scanL_mem h
theorem nextL_who {l : List Int} : ∀ (m : Nat) (P : DPro), (nextL l m P).2 = -1 ∨ (nextL l m P).2 ∈ l
  | 0, _ => .inl rfl
  | m + 1, P => by
    cases h : goOn l P with
    | some p =>
      obtain ⟨x, k⟩ := p
      right
      rw [nextL, h]
      exact scanL_mem h
    | none =>
      rw [nextL, h]
      exact nextL_who m _

set_option maxHeartbeats 2000000 in
theorem askV (w0 : World) (gt base : Nat) (P : DPro) (tv : Value) (id : Int) (w : World) (h : NxSt w0 gt base P tv w) (hg : base ≤ gt) :
    Calls Try.prog 63 #[.pointer (some ⟨gt, 0, none⟩), .int .i64 id] w fun e w' => (id = -1 ∧ e = .returned (.tuple #[.int .i64 0, .int .i64 0]) ∧ w' = w) ∨ (id ≠ -1 ∧ e = .returned (.tuple #[.int .i64 1, .int .i64 id]) ∧ NxSt w0 gt base ⟨P.order, P.next, P.seed, 1, id, 0⟩ tv w') := by
  by_cases hid : id = -1
  · have h1 : (id == -1) = true := by simp [hid]
    have HID : Hid (id = -1) := hid
    clear hid
    go_enter Try.func63, Try.ntmps63
    go_wp2
    go_ret2
    exact .inl ⟨HID.out, rfl, rfl⟩
  · have h1 : (id == -1) = false := by simp [hid]
    have HID : Hid (id ≠ -1) := hid
    have HS : Hid (NxSt w0 gt base ⟨P.order, P.next, P.seed, 1, id, 0⟩ tv (((w.setCell ⟨gt, 3, none⟩ (.int .i64 1)).setCell ⟨gt, 4, none⟩ (.int .i64 id)).setCell ⟨gt, 5, none⟩ (.int .i64 0))) := ((h.set3 hg 1).set4 hg id).set5 hg 0
    obtain ⟨c3, f3⟩ := at_block h.box 3 _ rfl
    obtain ⟨c4, f4⟩ := at_block h.box 4 _ rfl
    obtain ⟨c5, f5⟩ := at_block h.box 5 _ rfl
    clear hid h
    go_enter Try.func63, Try.ntmps63
    go_wp2
    go_ret2
    exact .inr ⟨HID.out, rfl, HS.out⟩

theorem NxSt.drew {w W : World} {gt base : Nat} {P : DPro} {tv : Value} (h : NxSt w gt base P tv W) (hb : base ≤ W.heap.size) : NxSt w gt base P tv W.drew := h.ext hb (ext_drewN _ 1)

set_option maxRecDepth 20000 in
set_option maxHeartbeats 4000000 in
theorem iTickV (gt base b2 : Nat) (P : DPro) (pv ov : Value) (ls : List Int) (w : World) (hb : w.heap[gt]? = some (.cells #[pv, .int .i64 P.next, .int .i64 P.seed, .int .i64 P.state, .int .i64 P.who, .int .i64 P.wait] 30 (0, 0))) (ho : OwI w base pv P.order) (hP : ProW P) (hst0 : 0 ≤ P.state) (hst : P.state ≤ 2) (hw0 : 0 ≤ P.wait) (hw4 : P.wait ≤ 4) (hl : OwI w b2 ov ls) (hn : ls.length ≤ 12) (hls : ∀ x ∈ ls, 0 ≤ x) (hg : base ≤ gt) (hbs : base ≤ w.heap.size) :
    Calls Try.prog 45 #[.pointer (some ⟨gt, 0, none⟩), ov] w fun e w' => e = .returned (.tuple #[.int .i64 (tickPD ls P).2.1, .int .i64 (tickPD ls P).2.2]) ∧ ∃ qv, NxSt w gt base (tickPD ls P).1 qv w' := by
  have ST0 : NxSt w gt base P pv w := ⟨hb, ho, Below.refl _ _⟩
  have HNX := iNextV gt base b2 P pv ov ls w hb ho hP hl hn hg hbs
  obtain ⟨oa, oc, rfl⟩ := hl.shape
  obtain ⟨on, hon⟩ : ∃ on, on = ls.length := ⟨_, rfl⟩
  rw [← hon] at HNX ⊢
  obtain ⟨R, hR⟩ : ∃ R, R = tickPD ls P := ⟨_, rfl⟩
  rw [← hR]
  have HG : Hid (base ≤ gt) := hg
  have HBS : Hid (base ≤ w.heap.size) := hbs
  have HLS : Hid (∀ x ∈ ls, 0 ≤ x) := hls
  obtain ⟨p0, p1, p2, p3, p4, p5⟩ := cells6 hb
  clear hl hls hon ho hbs
  by_cases s0 : P.state = 0
  · have e0 : (P.state == 0) = true := by simpa using s0
    have HRR : Hid (R = if (nextL ls 2 P).2 < 0 then ((nextL ls 2 P).1, 0, 0) else (⟨(nextL ls 2 P).1.order, (nextL ls 2 P).1.next, (nextL ls 2 P).1.seed, 1, (nextL ls 2 P).2, 0⟩, 1, (nextL ls 2 P).2)) := by show _ = _; rw [hR, tickPD, if_pos s0]
    have HWH : Hid ((nextL ls 2 P).2 = -1 ∨ (nextL ls 2 P).2 ∈ ls) := nextL_who 2 P
    obtain ⟨X, hX⟩ : ∃ X, X = nextL ls 2 P := ⟨_, rfl⟩
    rw [← hX] at HRR HWH HNX
    have HN2 : Hid _ := HNX
    clear hR s0 hX HNX hb ST0
    go_enter Try.func45, Try.ntmps45
    go_wp2_with fail
    refine Calls.mono HN2.out ?_
    rintro e w1 ⟨rfl, qv, S1⟩
    have HS1 : Hid (NxSt w gt base X.1 qv w1) := S1
    clear S1 HN2
    go_wp2_with fail
    refine (askV w gt base X.1 qv X.2 w1 HS1.out HG.out).mono ?_
    rintro e w2 (⟨hid, rfl, rfl⟩ | ⟨hid, rfl, S2⟩)
    · have HK : Hid (R = (X.1, 0, 0)) := by show _ = _; rw [HRR.out, if_pos (by omega)]
      clear hid
      go_wp2
      go_ret2
      rw [HK.out]
      exact ⟨rfl, qv, HS1.out⟩
    · have HK : Hid (R = (⟨X.1.order, X.1.next, X.1.seed, 1, X.2, 0⟩, 1, X.2)) := by
        show _ = _
        rw [HRR.out, if_neg]
        rcases HWH.out with h | h
        · exact absurd h hid
        · have := HLS.out _ h; omega
      have HS2 : Hid (NxSt w gt base ⟨X.1.order, X.1.next, X.1.seed, 1, X.2, 0⟩ qv w2) := S2
      clear hid S2
      go_wp2
      go_ret2
      rw [HK.out]
      exact ⟨rfl, qv, HS2.out⟩
  have e0 : (P.state == 0) = false := by simpa using s0
  have SW := ST0.set5 hg (P.wait + 1)
  have HSW : Hid (NxSt w gt base ⟨P.order, P.next, P.seed, P.state, P.who, P.wait + 1⟩ pv (w.setCell ⟨gt, 5, none⟩ (.int .i64 (P.wait + 1)))) := SW
  obtain ⟨q3, f3⟩ := at_block SW.box 3 _ rfl
  obtain ⟨q4, f4⟩ := at_block SW.box 4 _ rfl
  obtain ⟨q5, f5⟩ := at_block SW.box 5 _ rfl
  have f5' := (at_block hb 5 _ rfl).2
  clear HNX
  by_cases s1 : P.state = 1
  · have e1 : (P.state == 1) = true := by simpa using s1
    have e2 : (P.state == 2) = false := by simp [s1]
    by_cases wt : P.wait + 1 < 2
    · have HK : Hid (R = (⟨P.order, P.next, P.seed, P.state, P.who, P.wait + 1⟩, 0, 0)) := by show _ = _; rw [hR, tickPD, if_neg s0, if_pos s1, if_pos wt]
      have d1 : decide (P.wait + 1 ≥ 2) = false := decide_eq_false (by omega)
      clear hR s0 s1 hb ST0 SW
      go_enter Try.func45, Try.ntmps45
      go_wp2
      go_ret2
      rw [HK.out]
      exact ⟨rfl, pv, HSW.out⟩
    · have HK : Hid (R = (⟨P.order, P.next, P.seed, 2, P.who, 0⟩, 2, P.who)) := by show _ = _; rw [hR, tickPD, if_neg s0, if_pos s1, if_neg wt]
      have d1 : decide (P.wait + 1 ≥ 2) = true := decide_eq_true (by omega)
      have HF : Hid (NxSt w gt base ⟨P.order, P.next, P.seed, 2, P.who, 0⟩ pv (((w.setCell ⟨gt, 5, none⟩ (.int .i64 (P.wait + 1))).setCell ⟨gt, 3, none⟩ (.int .i64 2)).setCell ⟨gt, 5, none⟩ (.int .i64 0))) := (SW.set3 hg 2).set5 hg 0
      obtain ⟨x4, _⟩ := at_block HF.out.box 4 _ rfl
      have HFS : Hid (base ≤ (((w.setCell ⟨gt, 5, none⟩ (.int .i64 (P.wait + 1))).setCell ⟨gt, 3, none⟩ (.int .i64 2)).setCell ⟨gt, 5, none⟩ (.int .i64 0)).heap.size) := Nat.le_trans HBS.out (Nat.le_trans (set_grown w gt 5 _).size (Nat.le_trans (set_grown _ gt 3 _).size (set_grown _ gt 5 _).size))
      clear hR s0 s1 hb ST0 SW
      go_enter Try.func45, Try.ntmps45
      go_wp2_with fail
      go_region
      all_goals
        go_wp2
        go_ret2
        rw [HK.out]
        exact ⟨rfl, pv, HF.out.drew HFS.out⟩
  have s2 : P.state = 2 := by omega
  have e1 : (P.state == 1) = false := by simpa using s1
  have e2 : (P.state == 2) = true := by simp [s2]
  by_cases wt : P.wait + 1 < 4
  · have HK : Hid (R = (⟨P.order, P.next, P.seed, P.state, P.who, P.wait + 1⟩, 0, 0)) := by show _ = _; rw [hR, tickPD, if_neg s0, if_neg s1, if_pos wt]
    have d1 : decide (P.wait + 1 ≥ 4) = false := decide_eq_false (by omega)
    clear hR s0 s1 s2 hb ST0 SW
    go_enter Try.func45, Try.ntmps45
    go_wp2
    go_ret2
    rw [HK.out]
    exact ⟨rfl, pv, HSW.out⟩
  · have HK : Hid (R = (⟨P.order, P.next, P.seed, 0, 0, 0⟩, 3, P.who)) := by show _ = _; rw [hR, tickPD, if_neg s0, if_neg s1, if_neg wt]
    have d1 : decide (P.wait + 1 ≥ 4) = true := decide_eq_true (by omega)
    have HPB : Hid (ProB gt base ⟨P.order, P.next, P.seed, P.state, P.who, P.wait + 1⟩ pv (w.setCell ⟨gt, 5, none⟩ (.int .i64 (P.wait + 1)))) := ⟨SW.box, SW.own⟩
    have HLOW : Hid (Below base w (w.setCell ⟨gt, 5, none⟩ (.int .i64 (P.wait + 1)))) := SW.low
    clear hR s0 s1 s2 hb ST0 SW
    go_enter Try.func45, Try.ntmps45
    go_wp2_with fail
    refine (restV gt base ⟨P.order, P.next, P.seed, P.state, P.who, P.wait + 1⟩ pv _ HPB.out).mono ?_
    rintro e w2 ⟨rfl, PB, g2⟩
    have HF : Hid (NxSt w gt base ⟨P.order, P.next, P.seed, 0, 0, 0⟩ pv w2) := ⟨PB.1, PB.2, HLOW.out.grown g2 (Nat.le_trans HBS.out (set_grown _ _ _ _).size) (fun k hk => by cases hk; exact HG.out)⟩
    clear PB g2 HPB
    go_wp2
    go_ret2
    rw [HK.out]
    exact ⟨rfl, pv, HF.out⟩

end Go.Proofs.Ytfdklcmhafhbeaa

namespace Go.Proofs.Ytfdklcmhafhbeaa
open Go.RowKit

section
variable {w X Y : World} {gt r base : Nat} {bx rx : Array Value} {ov : Value} {os : List Int}
theorem HlS.turn {b : Nat} {v : Value} {xs : List Int} (h : HlS w gt r base bx rx ov os X) (o : OwI X b v xs) (e : X.grownBy Y v.ownBlock) (hl : ∀ k, ov.ownBlock = some k → k < b) (hw : w.heap.size ≤ b) : HlS w gt r base bx rx ov os Y := by
  refine ⟨(e.block gt (Array.getElem?_eq_some_iff.1 h.1).1 (ne_rowN o h.1 (by decide))).trans h.1, (e.block r (Array.getElem?_eq_some_iff.1 h.2.1).1 (ne_rowN o h.2.1 (by decide))).trans h.2.1, h.2.2.1.keep e ?_, h.2.2.2.grown e h.2.2.2.size (fun k hk => Nat.le_trans hw (o.lt k hk).1)⟩
  cases hv : ov.ownBlock with
  | none => exact .inl rfl
  | some k =>
    right
    intro e'
    have h1 := hl k hv
    have h2 := (o.lt k (by rw [← e'])).1
    omega
theorem HlS.seed {c0 c1 c2 c3 c4 c5 : Value} (h : HlS w gt r base #[c0, c1, c2, c3, c4, c5] rx ov os X) (hne : r ≠ gt) (hw : w.heap.size ≤ gt) (v : Value) : HlS w gt r base #[c0, c1, v, c3, c4, c5] rx ov os (X.setCell ⟨gt, 2, none⟩ v) :=
  ⟨set_block h.1 2 v, set_other _ _ _ hne h.2.1, h.2.2.1.keep (set_grown _ _ _ _) (pro_ne h.2.2.1 h.1), h.2.2.2.setCell hw _⟩
end

set_option maxRecDepth 20000 in
set_option maxHeartbeats 4000000 in
theorem iHelpersV (v u : Value) (P : DPro) (T : DTab) (kk : Int) (w : World) (h : VPro w v P) (k : VTab w u T) (hn : P.order.length ≤ 1048576) (kn : T.mems.length ≤ 1048576) :
    Calls Try.prog 18 #[v, u, .int .i64 kk] w fun e w' => ∃ tv lv mid, e = .returned (.tuple #[.agg #[tv, .int .i64 (helpPD P T kk).1.next, .int .i64 (helpPD P T kk).1.seed, .int .i64 (helpPD P T kk).1.state, .int .i64 (helpPD P T kk).1.who, .int .i64 (helpPD P T kk).1.wait], lv]) ∧ OwI w' w.heap.size tv (helpPD P T kk).1.order ∧ OwI w' mid lv (helpPD P T kk).2 ∧ w.heap.size ≤ mid ∧ (∀ k, tv.ownBlock = some k → k < mid) ∧ Below w.heap.size w w' := by
  have hE : ∀ w : World, ∀ o, Ext w (w.alloc o) := fun w o => World.grownBy_alloc _ _ _
  have HT : Hid (VPro w v P) := h
  have HU : Hid (VTab w u T) := k
  have HN : Hid (P.order.length ≤ 1048576 ∧ T.mems.length ≤ 1048576) := ⟨hn, kn⟩
  obtain ⟨ov, rfl, ho⟩ := h
  obtain ⟨a, cap, rfl⟩ := vl_shape ho
  obtain ⟨mv, rfl, hm⟩ := k
  obtain ⟨ma, mc, rfl⟩ := hm.shape
  obtain ⟨R, hR⟩ : ∃ R, R = helpPD P T kk := ⟨_, rfl⟩
  rw [← hR]
  have HR : Hid (R = helpPD P T kk) := hR
  obtain ⟨n, hnn⟩ : ∃ n, n = P.order.length := ⟨_, rfl⟩
  have HNN : Hid (n = P.order.length) := hnn
  obtain ⟨mn, hmn⟩ : ∃ mn, mn = T.mems.length := ⟨_, rfl⟩
  rw [← hnn] at HT ⊢
  rw [← hmn] at HU ⊢
  clear ho hm hR hnn hmn hn kn
  go_enter Try.func18, Try.ntmps18
  go_wp2_with fail
  generalize hW : World.alloc (World.alloc (World.alloc w _) _) _ = W
  have XW : Ext w W := by rw [← hW]; exact ((hE _ _).tr (hE _ _)).tr (hE _ _)
  have P0 : W.heap[w.heap.size]? = some (.cells #[.slice a n cap, .int .i64 P.next, .int .i64 P.seed, .int .i64 P.state, .int .i64 P.who, .int .i64 P.wait] 30 (0, 0)) := by rw [← hW, Below.heap_alloc _ _ _ (by simp; omega), Below.heap_alloc _ _ _ (by simp)]; exact heap_alloc_new w _
  have P1 : W.heap[w.heap.size + 1]? = some (.cells #[.int .i64 T.self, .slice ma mn mc] 36 (0, 0)) := by rw [← hW, Below.heap_alloc _ _ _ (by simp)]; simpa using heap_alloc_new (World.alloc w _) (.cells #[.int .i64 T.self, .slice ma mn mc] 36 (0, 0))
  have P2 : W.heap[w.heap.size + 1 + 1]? = some (.cells #[.slice none 0 0, .int .i64 0, .int .i64 0, .int .i64 0, .int .i64 0, .int .i64 0] 30 (0, 0)) := by rw [← hW]; simpa using heap_alloc_new (World.alloc (World.alloc w _) _) (.cells #[.slice none 0 0, .int .i64 0, .int .i64 0, .int .i64 0, .int .i64 0, .int .i64 0] 30 (0, 0))
  clear hW
  refine (iProberOkV _ P W (HT.out.ext XW) HN.out.1).mono ?_
  rintro e w1 ⟨rfl, b1⟩
  have X1 : Ext w w1 := XW.tr (ext_below b1)
  have Q0 := ext_blk (ext_below b1) P0
  have Q1 := ext_blk (ext_below b1) P1
  have Q2 := ext_blk (ext_below b1) P2
  clear P0 P1 P2 b1 XW
  obtain ⟨p0, p1, p2, p3, p4, p5⟩ := cells6 Q0
  obtain ⟨u0, u1⟩ := two_cells Q1
  have HZ : Hid (∀ W', Ext w W' → W'.heap[w.heap.size + 1 + 1]? = some (.cells #[.slice none 0 0, .int .i64 0, .int .i64 0, .int .i64 0, .int .i64 0, .int .i64 0] 30 (0, 0)) → ¬ ((ProP P ∧ TabP T) ∧ (0 ≤ kk ∧ kk ≤ 3)) → R = (zeroPro, [])) := fun _ _ _ hno => by rw [HR.out]; exact helpPD_no hno
  cases t0 : tB (ProP P)
  · have HK : Hid (R = (zeroPro, [])) := HZ.out w1 X1 Q2 (fun h' => by rw [tB_true h'.1.1] at t0; cases t0)
    obtain ⟨r0, f0⟩ := at_block Q2 0 _ rfl
    obtain ⟨r1, f1⟩ := at_block Q2 1 _ rfl
    obtain ⟨r2, f2⟩ := at_block Q2 2 _ rfl
    obtain ⟨r3, f3⟩ := at_block Q2 3 _ rfl
    obtain ⟨r4, f4⟩ := at_block Q2 4 _ rfl
    obtain ⟨r5, f5⟩ := at_block Q2 5 _ rfl
    clear t0
    go_wp2
    refine bodyPost_ret (v := .tuple #[.agg #[.slice none 0 0, .int .i64 0, .int .i64 0, .int .i64 0, .int .i64 0, .int .i64 0], .slice none 0 0]) (by simp [results, Try.results18, go_sem, *]) rfl ?_
    rw [HK.out]
    exact ⟨_, _, w.heap.size, rfl, OwI.nil _ _, OwI.nil _ _, Nat.le_refl _, (fun k hk => by cases hk), pro_below (ext_bel X1) (by omega) _ _ _ _ _ _⟩
  have HPP : Hid (ProP P) := tB_iff.1 t0
  clear t0
  go_wp2_with fail
  refine (iTableOkV _ T w1 (HU.out.ext X1) HN.out.2).mono ?_
  rintro e w2 ⟨rfl, b2⟩
  have X2 : Ext w w2 := X1.tr (ext_below b2)
  have S0 := ext_blk (ext_below b2) Q0
  have S1 := ext_blk (ext_below b2) Q1
  have S2 := ext_blk (ext_below b2) Q2
  clear p0 p1 p2 p3 p4 p5 u0 u1 Q0 Q1 Q2 b2 X1
  obtain ⟨p0, p1, p2, p3, p4, p5⟩ := cells6 S0
  cases t0 : tB (TabP T)
  · have HK : Hid (R = (zeroPro, [])) := HZ.out w2 X2 S2 (fun h' => by rw [tB_true h'.1.2] at t0; cases t0)
    obtain ⟨r0, f0⟩ := at_block S2 0 _ rfl
    obtain ⟨r1, f1⟩ := at_block S2 1 _ rfl
    obtain ⟨r2, f2⟩ := at_block S2 2 _ rfl
    obtain ⟨r3, f3⟩ := at_block S2 3 _ rfl
    obtain ⟨r4, f4⟩ := at_block S2 4 _ rfl
    obtain ⟨r5, f5⟩ := at_block S2 5 _ rfl
    clear t0
    go_wp2
    refine bodyPost_ret (v := .tuple #[.agg #[.slice none 0 0, .int .i64 0, .int .i64 0, .int .i64 0, .int .i64 0, .int .i64 0], .slice none 0 0]) (by simp [results, Try.results18, go_sem, *]) rfl ?_
    rw [HK.out]
    exact ⟨_, _, w.heap.size, rfl, OwI.nil _ _, OwI.nil _ _, Nat.le_refl _, (fun k hk => by cases hk), pro_below (ext_bel X2) (by omega) _ _ _ _ _ _⟩
  by_cases hkk : ¬ (0 ≤ kk ∧ kk ≤ 3)
  · have hin : inB kk 0 3 = false := by
      unfold inB
      by_cases h0 : 0 ≤ kk
      · rw [decide_eq_false (p := kk ≤ 3) (by omega)]; simp
      · rw [decide_eq_false h0]; rfl
    have HK : Hid (R = (zeroPro, [])) := HZ.out w2 X2 S2 (fun h' => by have := h'.2; omega)
    obtain ⟨r0, f0⟩ := at_block S2 0 _ rfl
    obtain ⟨r1, f1⟩ := at_block S2 1 _ rfl
    obtain ⟨r2, f2⟩ := at_block S2 2 _ rfl
    obtain ⟨r3, f3⟩ := at_block S2 3 _ rfl
    obtain ⟨r4, f4⟩ := at_block S2 4 _ rfl
    obtain ⟨r5, f5⟩ := at_block S2 5 _ rfl
    clear t0
    go_wp2_with (go_at_call 40; refine (withinV _ _ _ _).mono ?_; rintro e wz ⟨rfl, hwz⟩; have hwy := hwz.symm; clear hwz; subst hwy; rw [hin])
    refine bodyPost_ret (v := .tuple #[.agg #[.slice none 0 0, .int .i64 0, .int .i64 0, .int .i64 0, .int .i64 0, .int .i64 0], .slice none 0 0]) (by simp [results, Try.results18, go_sem, *]) rfl ?_
    rw [HK.out]
    exact ⟨_, _, w.heap.size, rfl, OwI.nil _ _, OwI.nil _ _, Nat.le_refl _, (fun k hk => by cases hk), pro_below (ext_bel X2) (by omega) _ _ _ _ _ _⟩
  have hin : inB kk 0 3 = true := by unfold inB; rw [decide_eq_true (by omega), decide_eq_true (p := kk ≤ 3) (by omega)]; rfl
  have HK : Hid (R = (⟨P.order, P.next, (helpS T P).2, P.state, P.who, P.wait⟩, (helpS T P).1.take kk.toNat)) := by show _ = _; rw [HR.out]; exact helpPD_yes ⟨⟨HPP.out, tB_iff.1 t0⟩, by omega, by omega⟩
  have HTP : Hid (TabP T) := tB_iff.1 t0
  have hka : 0 ≤ kk := by omega
  have hkb : kk ≤ 3 := by omega
  clear t0 HZ
  go_wp2_with (go_at_call 40; refine (withinV _ _ _ _).mono ?_; rintro e wz ⟨rfl, hwz⟩; have hwy := hwz.symm; clear hwz; subst hwy; rw [hin])
  refine (copyPV _ P w2 (HT.out.ext X2) HN.out.1).mono ?_
  rintro e w3 ⟨tv3, rfl, o3, b3⟩
  obtain ⟨a3, c3, hv3⟩ := o3.shape
  rw [← HNN.out] at hv3
  subst hv3
  have X3 : Ext w w3 := X2.tr (ext_below b3)
  have T0 := ext_blk (ext_below b3) S0
  have T1 := ext_blk (ext_below b3) S1
  have T2 := ext_blk (ext_below b3) S2
  have s3 := b3.size
  have sT := (Array.getElem?_eq_some_iff.1 S2).1
  have HO3 : Hid (OwI w3 w2.heap.size (.slice a3 n c3) P.order) := o3
  have s2 := X2.size
  clear p0 p1 p2 p3 p4 p5 S0 S1 S2 b3 o3
  obtain ⟨u0, u1⟩ := two_cells T1
  have ku0 := fun o => World.grownBy.cell (World.grownBy_alloc w3 o none) u0 (by simp)
  have ku1 := fun o => World.grownBy.cell (World.grownBy_alloc w3 o none) u1 (by simp)
  go_wp2_with fail
  clear ku0 ku1
  generalize hU : w3.alloc _ = U
  have XU : Ext w3 U := by rw [← hU]; exact hE _ _
  have PU : U.heap[w3.heap.size]? = some (.cells #[.slice a3 n c3, .int .i64 P.next, .int .i64 P.seed, .int .i64 P.state, .int .i64 P.who, .int .i64 P.wait] 30 (0, 0)) := by rw [← hU]; exact heap_alloc_new w3 _
  clear hU
  have HXU : Hid (Ext w U) := X3.tr XU
  have hT0 := hideR (ext_blk XU T0)
  have hT1 := hideR (ext_blk XU T1)
  have HU0 : Hid (HlS w w3.heap.size (w.heap.size + 1 + 1) w2.heap.size #[.slice a3 n c3, .int .i64 P.next, .int .i64 P.seed, .int .i64 P.state, .int .i64 P.who, .int .i64 P.wait] #[.slice none 0 0, .int .i64 0, .int .i64 0, .int .i64 0, .int .i64 0, .int .i64 0] (.slice a3 n c3) P.order U) := ⟨PU, ext_blk XU T2, HO3.out.ext XU, ext_bel HXU.out⟩
  have HNE : Hid (w.heap.size + 1 + 1 ≠ w3.heap.size ∧ w.heap.size + 1 + 1 < w2.heap.size) := ⟨by omega, by omega⟩
  have HS2 : Hid (w.heap.size ≤ w2.heap.size) := s2
  have HS3 : Hid (w2.heap.size ≤ w3.heap.size ∧ w3.heap.size < U.heap.size) := ⟨s3, (Array.getElem?_eq_some_iff.1 PU).1⟩
  have HLU : Hid (∀ k, (Value.slice a3 n c3).ownBlock = some k → k < U.heap.size) := fun k hk => ((HO3.out.ext XU).lt k hk).2
  obtain ⟨z0, z1⟩ := two_cells hT1.out
  have zw := (at_block hT0.out 4 _ rfl).1
  clear T0 T1 T2 X3 X2 PU XU u0 u1
  go_upto_region 4 with fail
  go_region_held3 (fun w' => w'.cell? ⟨w.heap.size + 1, 0, none⟩ = some (.int .i64 T.self) ∧ w'.cell? ⟨w.heap.size + 1, 1, none⟩ = some (.slice ma mn mc) ∧ w'.cell? ⟨w.heap.size, 4, none⟩ = some (.int .i64 P.who)) (first | (simp [*]; done) | go_keep)
    (first
      | (have zz := HO1; clear zz; go_at_call 41; refine (withoutV _ (othersD T) P.who _ _ HO1.out (others_len HN.out.2)).mono ?_; rintro e y2 ⟨v2, rfl, o2, g2⟩; obtain ⟨va2, vc2, hv2⟩ := o2.shape; subst hv2; have HO2 : Hid (OwI y2 U.heap.size (.slice va2 (exceptL (othersD T) P.who).length vc2) (exceptL (othersD T) P.who)) := o2; have HSY : Hid (U.heap.size ≤ y2.heap.size) := Nat.le_trans XY1.out.size g2.size; have HU2 : Hid (HlS w w3.heap.size (w.heap.size + 1 + 1) w2.heap.size #[.slice a3 n c3, .int .i64 P.next, .int .i64 P.seed, .int .i64 P.state, .int .i64 P.who, .int .i64 P.wait] #[.slice none 0 0, .int .i64 0, .int .i64 0, .int .i64 0, .int .i64 0, .int .i64 0] (.slice a3 n c3) P.order y2) := HU1.out.turn HO1.out g2 HLU.out (Nat.le_trans HS2.out (Nat.le_trans HS3.out.1 (Nat.le_of_lt HS3.out.2))); obtain ⟨k0, k1⟩ := two_cells ((g2.block _ (Array.getElem?_eq_some_iff.1 HB1.out).1 (ne_rowN HO1.out HB1.out (by decide))).trans HB1.out); have k2 := (at_block ((g2.block _ (Array.getElem?_eq_some_iff.1 HB2.out).1 (ne_rowN HO1.out HB2.out (by decide))).trans HB2.out) 4 _ rfl).1; clear o2 g2)
      | (go_at_call 36; refine (iOthersV _ T _ (HU.out.ext (HXU.out.tr (ext_drewN U 1))) HN.out.2).mono ?_; rintro e y1 ⟨v1, rfl, o1, b1⟩; obtain ⟨va1, vc1, hv1⟩ := o1.shape; subst hv1; have HO1 : Hid (OwI y1 U.heap.size (.slice va1 (othersD T).length vc1) (othersD T)) := o1; have XY1 : Hid (Ext U y1) := (ext_drewN U 1).tr (ext_below b1); have HU1 : Hid (HlS w w3.heap.size (w.heap.size + 1 + 1) w2.heap.size #[.slice a3 n c3, .int .i64 P.next, .int .i64 P.seed, .int .i64 P.state, .int .i64 P.who, .int .i64 P.wait] #[.slice none 0 0, .int .i64 0, .int .i64 0, .int .i64 0, .int .i64 0, .int .i64 0] (.slice a3 n c3) P.order y1) := HU0.out.ext XY1.out; have HB1 := hideR (ext_blk XY1.out hT1.out); have HB2 := hideR (ext_blk XY1.out hT0.out); obtain ⟨k0, k1⟩ := two_cells HB1.out; have k2 := (at_block HB2.out 4 _ rfl).1; clear o1 b1))
  all_goals
    clear z0 z1 zw k0 k1 k2
    have HEL : Hid ((exceptL (othersD T) P.who).length ≤ 12) := Nat.le_trans (except_len _ _) (others12 HTP.out)
    have HHS : Hid (shufD (exceptL (othersD T) P.who) P.seed = helpS T P) := shufD_ok HEL.out HPP.out.2.2.1.1 HPP.out.2.2.1.2
    have HHL : Hid ((helpS T P).1.length ≤ 12) := by show _ ≤ _; rw [← HHS.out, shufD_ok HEL.out HPP.out.2.2.1.1 HPP.out.2.2.1.2, shufL_len]; exact HEL.out
    obtain ⟨m0, m1, m2, m3, m4, m5⟩ := cells6 HU2.out.1
    go_wp2_with fail
    refine (iShuffleV _ (exceptL (othersD T) P.who) P.seed y2 HO2.out.vl (by have := HPP.out.2.2.1.1; omega) (by have := HPP.out.2.2.1.2; omega)).mono ?_
    rintro e y3 ⟨sv, rfl, o3, b3⟩
    rw [HHS.out] at o3 ⊢
    have HU3 : Hid (HlS w w3.heap.size (w.heap.size + 1 + 1) w2.heap.size #[.slice a3 n c3, .int .i64 P.next, .int .i64 P.seed, .int .i64 P.state, .int .i64 P.who, .int .i64 P.wait] #[.slice none 0 0, .int .i64 0, .int .i64 0, .int .i64 0, .int .i64 0, .int .i64 0] (.slice a3 n c3) P.order y3) := HU2.out.ext (ext_below b3)
    have HY2 : Hid (U.heap.size ≤ y2.heap.size) := HSY.out
    obtain ⟨q2, f2⟩ := at_block HU3.out.1 2 _ rfl
    obtain ⟨sa, sc, hsv⟩ := o3.shape
    obtain ⟨sn, hsn⟩ : ∃ sn, sn = (helpS T P).1.length := ⟨_, rfl⟩
    have HSN : Hid (sn = (helpS T P).1.length) := hsn
    rw [← hsn] at hsv
    subst hsv
    have hs12 : sn ≤ 12 := by have := HHL.out; omega
    have HW4 : Hid (∀ V, V = y3.setCell ⟨w3.heap.size, 2, none⟩ (.int .i64 (helpS T P).2) → (HlS w w3.heap.size (w.heap.size + 1 + 1) w2.heap.size #[.slice a3 n c3, .int .i64 P.next, .int .i64 (helpS T P).2, .int .i64 P.state, .int .i64 P.who, .int .i64 P.wait] #[.slice none 0 0, .int .i64 0, .int .i64 0, .int .i64 0, .int .i64 0, .int .i64 0] (.slice a3 n c3) P.order V) ∧ OwI V y2.heap.size (.slice sa sn sc) (helpS T P).1 ∧ V.heap.size = y3.heap.size) := fun V hV => by
      subst hV
      exact ⟨HU3.out.seed HNE.out.1 (Nat.le_trans HS2.out HS3.out.1) _, o3.keep (set_grown _ _ _ _) (pro_ne o3 HU3.out.1), by simp⟩
    have HY3 : Hid (y2.heap.size ≤ y3.heap.size) := b3.size
    clear o3 b3 m0 m1 m2 m3 m4 m5 hsn
    go_upto_region 6 with fail
    generalize hV : y3.setCell _ _ = w4
    obtain ⟨HH0, OS4, hsz⟩ := HW4.out w4 hV.symm
    have H0 : Hid (HlS w w3.heap.size (w.heap.size + 1 + 1) w2.heap.size #[.slice a3 n c3, .int .i64 P.next, .int .i64 (helpS T P).2, .int .i64 P.state, .int .i64 P.who, .int .i64 P.wait] #[.slice none 0 0, .int .i64 0, .int .i64 0, .int .i64 0, .int .i64 0, .int .i64 0] (.slice a3 n c3) P.order w4) := HH0
    have HOS : Hid (OwI w4 y2.heap.size (.slice sa sn sc) (helpS T P).1) := OS4
    have HS4 : Hid (w2.heap.size ≤ w4.heap.size) := by show _ ≤ _; rw [hsz]; exact Nat.le_trans HS3.out.1 (Nat.le_trans (Nat.le_of_lt HS3.out.2) (Nat.le_trans HY2.out HY3.out))
    have HLT : Hid (∀ k, (Value.slice a3 n c3).ownBlock = some k → k < w4.heap.size) := fun k hk => (H0.out.2.2.1.lt k hk).2
    have HY4 : Hid (w2.heap.size ≤ y2.heap.size) := Nat.le_trans HS3.out.1 (Nat.le_trans (Nat.le_of_lt HS3.out.2) HY2.out)
    clear hV HH0 OS4 HW4 q2 f2 hsz
    have HB0 : Hid (HlS w w3.heap.size (w.heap.size + 1 + 1) w2.heap.size #[.slice a3 n c3, .int .i64 P.next, .int .i64 (helpS T P).2, .int .i64 P.state, .int .i64 P.who, .int .i64 P.wait] #[.slice a3 n c3, .int .i64 P.next, .int .i64 (helpS T P).2, .int .i64 P.state, .int .i64 P.who, .int .i64 P.wait] (.slice a3 n c3) P.order ((((((w4.setCell ⟨w.heap.size + 1 + 1, 0, none⟩ (.slice a3 n c3)).setCell ⟨w.heap.size + 1 + 1, 1, none⟩ (.int .i64 P.next)).setCell ⟨w.heap.size + 1 + 1, 2, none⟩ (.int .i64 (helpS T P).2)).setCell ⟨w.heap.size + 1 + 1, 3, none⟩ (.int .i64 P.state)).setCell ⟨w.heap.size + 1 + 1, 4, none⟩ (.int .i64 P.who)).setCell ⟨w.heap.size + 1 + 1, 5, none⟩ (.int .i64 P.wait))) := H0.out.store HNE.out.1 HNE.out.2 (by omega) _ _ _ _ _ _
    have HSB : Hid (OwI (((((((w4.setCell ⟨w.heap.size + 1 + 1, 0, none⟩ (.slice a3 n c3)).setCell ⟨w.heap.size + 1 + 1, 1, none⟩ (.int .i64 P.next)).setCell ⟨w.heap.size + 1 + 1, 2, none⟩ (.int .i64 (helpS T P).2)).setCell ⟨w.heap.size + 1 + 1, 3, none⟩ (.int .i64 P.state)).setCell ⟨w.heap.size + 1 + 1, 4, none⟩ (.int .i64 P.who)).setCell ⟨w.heap.size + 1 + 1, 5, none⟩ (.int .i64 P.wait))) y2.heap.size (.slice sa sn sc) (helpS T P).1) := pro_own HOS.out (nb_of HOS.out (Nat.lt_of_lt_of_le HNE.out.2 HY4.out)) _ _ _ _ _ _
    obtain ⟨Z, hZ⟩ : ∃ Z, Z = (helpS T P).1.take kk.toNat := ⟨_, rfl⟩
    rw [← hZ] at HK
    obtain ⟨kn', rfl⟩ := Int.eq_ofNat_of_zero_le hka
    have HZL : Hid (Z.length ≤ 1048576) := by show _ ≤ _; rw [hZ, List.length_take]; have := HHL.out; omega
    obtain ⟨mm, hmm⟩ : ∃ mm, mm = min kn' sn := ⟨_, rfl⟩
    have HVL : Hid (∀ W, OwI W y2.heap.size (.slice sa sn sc) (helpS T P).1 → VL fI W (.slice sa mm sc) Z) := fun W o => by
      have hz : Z = (helpS T P).1.take mm := by rw [hZ, hmm, HSN.out, Int.toNat_natCast, List.take_eq_take_iff]; omega
      rw [hz]
      rcases o.2 with ⟨h0, h1⟩ | ⟨g, c, cur, hv, _⟩
      · simp only [Value.slice.injEq] at h0
        obtain ⟨rfl, h2, rfl⟩ := h0
        have h3 : mm = 0 := by omega
        have h4 : (helpS T P).1 = [] := List.eq_nil_of_length_eq_zero (by have := HSN.out; omega)
        rw [h3, h4]
        exact (OwI.nil W 0).vl
      · simp only [Value.slice.injEq] at hv
        obtain ⟨rfl, _, _⟩ := hv
        exact (o.head HSN.out mm (by omega)).vl
    have hmk : mm ≤ kn' := by omega
    have hms : mm ≤ sn := by omega
    have hcs : sn ≤ sc ∧ sc ≤ 9223372036854775807 := by
      rcases HOS.out.2 with ⟨h0, h1⟩ | ⟨g', c, cur, hv, _, _, h1, h2, _⟩
      · simp only [Value.slice.injEq] at h0; omega
      · simp only [Value.slice.injEq] at hv
        unfold maxLen at h2
        have := HSN.out
        omega
    obtain ⟨hc1, hc2⟩ := hcs
    have hmc : mm ≤ sc := by omega
    have hmin : ∀ ty W, (Builtin.min_ #[3, 3] ty #[.int .i64 (kn' : Int), .int .i64 (sn : Int)]).run Try.prog W = .ok (.int .i64 (mm : Int)) W := fun ty W => by
      by_cases h : (sn : Int) < (kn' : Int)
      · have : mm = sn := by omega
        subst this
        simp [Builtin.min_, Builtin.min2, h]
      · have : mm = kn' := by omega
        subst this
        simp [Builtin.min_, Builtin.min2, h]
    have hmi0 : (0 : Int) ≤ (mm : Int) := by omega
    have hmi1 : (mm : Int) ≤ (sc : Int) := by omega
    obtain ⟨p0, p1, p2, p3, p4, p5⟩ := cells6 H0.out.1
    obtain ⟨r0, f0⟩ := at_block H0.out.2.1 0 _ rfl; obtain ⟨r1, f1⟩ := at_block H0.out.2.1 1 _ rfl; obtain ⟨r2, f2⟩ := at_block H0.out.2.1 2 _ rfl; obtain ⟨r3, f3⟩ := at_block H0.out.2.1 3 _ rfl; obtain ⟨r4, f4⟩ := at_block H0.out.2.1 4 _ rfl; obtain ⟨r5, f5⟩ := at_block H0.out.2.1 5 _ rfl
    have hne1 : w3.heap.size ≠ w.heap.size + 1 + 1 := by omega
    have hne2 : w.heap.size + 1 + 1 ≠ w3.heap.size := by omega
    have HVA : Hid (VL fI w4.drew (.slice sa mm sc) Z) := (HVL.out w4 HOS.out).ext (ext_drewN _ 1)
    have HVB : Hid (VL fI (((((((w4.setCell ⟨w.heap.size + 1 + 1, 0, none⟩ (.slice a3 n c3)).setCell ⟨w.heap.size + 1 + 1, 1, none⟩ (.int .i64 P.next)).setCell ⟨w.heap.size + 1 + 1, 2, none⟩ (.int .i64 (helpS T P).2)).setCell ⟨w.heap.size + 1 + 1, 3, none⟩ (.int .i64 P.state)).setCell ⟨w.heap.size + 1 + 1, 4, none⟩ (.int .i64 P.who)).setCell ⟨w.heap.size + 1 + 1, 5, none⟩ (.int .i64 P.wait))).drew (.slice sa mm sc) Z) := (HVL.out _ HSB.out).ext (ext_drewN _ 1)
    have HAD : Hid (HlS w w3.heap.size (w.heap.size + 1 + 1) w2.heap.size #[.slice a3 n c3, .int .i64 P.next, .int .i64 (helpS T P).2, .int .i64 P.state, .int .i64 P.who, .int .i64 P.wait] #[.slice none 0 0, .int .i64 0, .int .i64 0, .int .i64 0, .int .i64 0, .int .i64 0] (.slice a3 n c3) P.order w4.drew) := H0.out.ext (ext_drewN _ 1)
    have HBD : Hid (HlS w w3.heap.size (w.heap.size + 1 + 1) w2.heap.size #[.slice a3 n c3, .int .i64 P.next, .int .i64 (helpS T P).2, .int .i64 P.state, .int .i64 P.who, .int .i64 P.wait] #[.slice a3 n c3, .int .i64 P.next, .int .i64 (helpS T P).2, .int .i64 P.state, .int .i64 P.who, .int .i64 P.wait] (.slice a3 n c3) P.order (((((((w4.setCell ⟨w.heap.size + 1 + 1, 0, none⟩ (.slice a3 n c3)).setCell ⟨w.heap.size + 1 + 1, 1, none⟩ (.int .i64 P.next)).setCell ⟨w.heap.size + 1 + 1, 2, none⟩ (.int .i64 (helpS T P).2)).setCell ⟨w.heap.size + 1 + 1, 3, none⟩ (.int .i64 P.state)).setCell ⟨w.heap.size + 1 + 1, 4, none⟩ (.int .i64 P.who)).setCell ⟨w.heap.size + 1 + 1, 5, none⟩ (.int .i64 P.wait))).drew) := HB0.out.ext (ext_drewN _ 1)
    have HSS : Hid ((((((((w4.setCell ⟨w.heap.size + 1 + 1, 0, none⟩ (.slice a3 n c3)).setCell ⟨w.heap.size + 1 + 1, 1, none⟩ (.int .i64 P.next)).setCell ⟨w.heap.size + 1 + 1, 2, none⟩ (.int .i64 (helpS T P).2)).setCell ⟨w.heap.size + 1 + 1, 3, none⟩ (.int .i64 P.state)).setCell ⟨w.heap.size + 1 + 1, 4, none⟩ (.int .i64 P.who)).setCell ⟨w.heap.size + 1 + 1, 5, none⟩ (.int .i64 P.wait))).drew.heap.size = w4.heap.size) := by show _ = _; simp
    clear hmm hZ HVL
    go_region_held3 (fun w' => w'.cell? ⟨w3.heap.size, 0, none⟩ = some (.slice a3 n c3) ∧ w'.cell? ⟨w3.heap.size, 1, none⟩ = some (.int .i64 P.next) ∧ w'.cell? ⟨w3.heap.size, 2, none⟩ = some (.int .i64 (helpS T P).2) ∧ w'.cell? ⟨w3.heap.size, 3, none⟩ = some (.int .i64 P.state) ∧ w'.cell? ⟨w3.heap.size, 4, none⟩ = some (.int .i64 P.who) ∧ w'.cell? ⟨w3.heap.size, 5, none⟩ = some (.int .i64 P.wait)) (first | (simp [*]; done) | go_keep)
      (first | (go_at_call 43; refine (cloneIV _ Z _ ?_ HZL.out).mono ?_; (first | with_reducible exact HVA.out | with_reducible exact HVB.out); rintro e w5 ⟨v5, rfl, o5, b5⟩; have HO5 : Hid (OwI w5 w4.heap.size v5 Z) := (by first | with_reducible exact o5 | (have := o5; rw [HSS.out] at this; exact this) | exact o5); (first | with_reducible have HA5 := hideR (HlS.ext HAD.out (ext_below b5)) | with_reducible have HA5 := hideR (HlS.ext HBD.out (ext_below b5))); have HP5 : Hid (OwI w5 w2.heap.size (.slice a3 n c3) P.order) := HA5.out.2.2.1; have HW5 : Hid (Below w.heap.size w w5) := HA5.out.2.2.2; obtain ⟨q0, q1, q2, q3, q4, q5⟩ := cells6 HA5.out.1; obtain ⟨y0, t0⟩ := at_block HA5.out.2.1 0 _ rfl; obtain ⟨y1, t1⟩ := at_block HA5.out.2.1 1 _ rfl; obtain ⟨y2, t2⟩ := at_block HA5.out.2.1 2 _ rfl; obtain ⟨y3, t3⟩ := at_block HA5.out.2.1 3 _ rfl; obtain ⟨y4, t4⟩ := at_block HA5.out.2.1 4 _ rfl; obtain ⟨y5, t5⟩ := at_block HA5.out.2.1 5 _ rfl; obtain ⟨v5a, v5c, hv5⟩ := HO5.out.shape; subst hv5; clear o5 b5))
    all_goals
      go_wp2
      refine bodyPost_ret (v := .tuple #[.agg #[.slice a3 n c3, .int .i64 P.next, .int .i64 (helpS T P).2, .int .i64 P.state, .int .i64 P.who, .int .i64 P.wait], .slice v5a Z.length v5c]) (by simp [results, Try.results18, go_sem, *]) rfl ?_
      rw [HK.out]
      refine ⟨_, _, w4.heap.size, rfl, ?gp, ?gl, Nat.le_trans HS2.out HS4.out, HLT.out, ?gb⟩
      case gp => first | with_reducible exact OwI.base HP5.out HS2.out | exact OwI.base (pro_own HP5.out (nb_of HP5.out HNE.out.2) _ _ _ _ _ _) HS2.out
      case gl => first | with_reducible exact HO5.out | exact pro_own HO5.out (nb_of HO5.out (Nat.lt_of_lt_of_le HNE.out.2 HS4.out)) _ _ _ _ _ _
      case gb => first | with_reducible exact HW5.out | exact pro_below HW5.out (by omega) _ _ _ _ _ _

end Go.Proofs.Ytfdklcmhafhbeaa

namespace Go.Proofs.Ytfdklcmhafhbeaa
open Go.RowKit

theorem helpPD_len (P : DPro) (T : DTab) (kk : Int) (hp : P.order.length ≤ 1048576) : (helpPD P T kk).1.order.length ≤ 1048576 ∧ (helpPD P T kk).2.length ≤ 1048576 := by
  by_cases h : (ProP P ∧ TabP T) ∧ (0 ≤ kk ∧ kk ≤ 3)
  · rw [helpPD_yes h]
    exact ⟨hp, by rw [List.length_take]; omega⟩
  · rw [helpPD_no h]; simp [zeroPro]
theorem list_set {z : World} {mid b : Nat} {v : Value} {xs : List Int} {c0 c1 c2 c3 c4 c5 : Value} (o : OwI z mid v xs) (P : z.heap[b]? = some (.cells #[c0, c1, c2, c3, c4, c5] 30 (0, 0))) (v0 v1 v2 v3 v4 v5 : Value) : VL fI ((((((z.setCell ⟨b, 0, none⟩ v0).setCell ⟨b, 1, none⟩ v1).setCell ⟨b, 2, none⟩ v2).setCell ⟨b, 3, none⟩ v3).setCell ⟨b, 4, none⟩ v4).setCell ⟨b, 5, none⟩ v5) v xs := (pro_own o (.inr (Ne.symm (ne_rowN o P (by decide)))) _ _ _ _ _ _).vl
theorem list_new {z : World} {mid : Nat} {v : Value} {xs : List Int} (o : OwI z mid v xs) (b : Obj) : VL fI (z.alloc b) v xs := (o.ext (World.grownBy_alloc _ _ _)).vl
theorem keep_row {W W' : World} {mid : Nat} {v row : Value} {xs : List Int} (o : OwI W mid v xs) (hg : W.grownBy W' row.ownBlock) (hl : ∀ k, row.ownBlock = some k → k < mid) : OwI W' mid v xs := o.keep hg (by
  cases hv : v.ownBlock with
  | none => exact .inl rfl
  | some k =>
    right
    intro e
    have h1 := hl k e.symm
    have h2 := (o.lt k hv).1
    omega)
theorem keep_low {W W' : World} {mid b : Nat} {v row : Value} {xs ys : List Int} (o : OwI W b v xs) (p : OwI W mid row ys) (hg : W.grownBy W' row.ownBlock) (hl : ∀ k, v.ownBlock = some k → k < mid) : OwI W' b v xs := o.keep hg (by
  cases hv : v.ownBlock with
  | none => exact .inl rfl
  | some k =>
    right
    intro e
    have h1 := hl k hv
    have h2 := (p.lt k e.symm).1
    omega)

set_option maxRecDepth 20000 in
set_option maxHeartbeats 8000000 in
theorem law_Helpers (v : Value) (D : DPro) (u : Value) (O : DTab) (kk : Int) (w : World) (h : VPro w v D) (k : VTab w u O) (_k1 : -9223372036854775808 ≤ kk) (_k2 : kk ≤ 9223372036854775807) :
    Calls Try.prog 4 #[v, u, .int .i64 kk] w fun e w' => e = .returned (.bool true) ∧ Below w.heap.size w w' := by
  have hE : ∀ w : World, ∀ o, Ext w (w.alloc o) := fun w o => World.grownBy_alloc _ _ _
  have hB : ∀ w : World, ∀ o, Below w.heap.size w (w.alloc o) := fun w o => (Below.refl _ w).alloc (Nat.le_refl _) _
  have h0 : Hid (VPro w v D) := h
  have k0 : Hid (VTab w u O) := k
  obtain ⟨⟨R, RL⟩, hR⟩ : ∃ R, R = helpPD D O kk := ⟨_, rfl⟩
  have HR : Hid ((R, RL) = helpPD D O kk) := hR
  have HRL : Hid (D.order.length ≤ 1048576 → O.mems.length ≤ 1048576 → R.order.length ≤ 1048576) := fun h1 _ => by have := (helpPD_len D O kk h1).1; rw [← hR] at this; exact this
  have HRL2 : Hid (D.order.length ≤ 1048576 → RL.length ≤ 1048576) := fun h1 => by have := (helpPD_len D O kk h1).2; rw [← hR] at this; exact this
  obtain ⟨l, hll⟩ : ∃ l, l = RL.length := ⟨_, rfl⟩
  have HLN : Hid (l = RL.length) := hll
  clear hll
  clear hR
  obtain ⟨tv, rfl, ht⟩ := h
  obtain ⟨ta, tc, rfl⟩ := vl_shape ht
  obtain ⟨tu, rfl, hu⟩ := k
  obtain ⟨ua, uc, rfl⟩ := hu.shape
  obtain ⟨n, hn⟩ : ∃ n, n = D.order.length := ⟨_, rfl⟩
  have HN : Hid (n = D.order.length) := hn
  obtain ⟨n2, hn2⟩ : ∃ n2, n2 = O.mems.length := ⟨_, rfl⟩
  have HN2 : Hid (n2 = O.mems.length) := hn2
  obtain ⟨m, hm⟩ : ∃ m, m = R.order.length := ⟨_, rfl⟩
  have HMR : Hid (m = R.order.length) := hm
  rw [← hn] at h0 ⊢
  rw [← hn2] at k0 ⊢
  clear hn ht hm hn2 hu
  go_enter Try.func4, Try.ntmps4
  go_wp2_with fail
  have PA := al2_0 w (.cells #[.slice ta n tc, .int .i64 D.next, .int .i64 D.seed, .int .i64 D.state, .int .i64 D.who, .int .i64 D.wait] 24 (0, 0)) (.cells #[.int .i64 O.self, .slice ua n2 uc] 27 (0, 0))
  have PO := al2_1 w (.cells #[.slice ta n tc, .int .i64 D.next, .int .i64 D.seed, .int .i64 D.state, .int .i64 D.who, .int .i64 D.wait] 24 (0, 0)) (.cells #[.int .i64 O.self, .slice ua n2 uc] 27 (0, 0))
  have BW : Below w.heap.size w ((w.alloc (.cells #[.slice ta n tc, .int .i64 D.next, .int .i64 D.seed, .int .i64 D.state, .int .i64 D.who, .int .i64 D.wait] 24 (0, 0))).alloc (.cells #[.int .i64 O.self, .slice ua n2 uc] 27 (0, 0))) := ((Below.refl _ w).alloc (Nat.le_refl _) _).alloc (by simp) _
  generalize (w.alloc (.cells #[.slice ta n tc, .int .i64 D.next, .int .i64 D.seed, .int .i64 D.state, .int .i64 D.who, .int .i64 D.wait] 24 (0, 0))).alloc (.cells #[.int .i64 O.self, .slice ua n2 uc] 27 (0, 0)) = W at PA PO BW ⊢
  refine (szPro _ D 1048576 _ (h0.out.ext (ext_below BW)) (by omega) (by omega)).mono ?_
  rintro e w0 ⟨r0, rfl, hrr, b0⟩
  rw [← HN.out] at hrr
  have B0 := BW.trans (b0.mono BW.size)
  rcases hrr with ⟨h1, rfl⟩ | ⟨h1, h2⟩
  · go_wp2_with fail
    go_ret
    exact ⟨rfl, B0⟩
  have hl : n ≤ 1048576 := by omega
  have hr0 : 0 ≤ r0 := by omega
  have hr9 : r0 ≤ 1048576 := by omega
  have PA0 := below_blk b0 (Array.getElem?_eq_some_iff.1 PA).1 PA
  have PO0 := below_blk b0 (Array.getElem?_eq_some_iff.1 PO).1 PO
  clear h1 h2 PA PO BW b0
  obtain ⟨p6, p7⟩ := two_cells PO0
  go_wp2_with fail
  refine (szTab _ O r0 w0 (k0.out.ext (ext_below B0)) (by omega) (by omega)).mono ?_
  rintro e w1 ⟨r, rfl, hrr, b1⟩
  rw [← HN2.out] at hrr
  have B1 := B0.trans (b1.mono B0.size)
  rcases hrr with ⟨h1, rfl⟩ | ⟨h1, h2⟩
  · go_wp2_with fail
    go_ret
    exact ⟨rfl, B1⟩
  have hl2 : n2 ≤ 1048576 := by omega
  have hr : 0 ≤ r := by omega
  have HLE : Hid (D.order.length ≤ 1048576 ∧ O.mems.length ≤ 1048576) := ⟨by have := HN.out; omega, by have := HN2.out; omega⟩
  have HML : Hid (m ≤ 1048576) := by show _ ≤ _; rw [HMR.out]; exact HRL.out HLE.out.1 HLE.out.2
  have HPA : Hid (w1.heap[w.heap.size]? = some (.cells #[.slice ta n tc, .int .i64 D.next, .int .i64 D.seed, .int .i64 D.state, .int .i64 D.who, .int .i64 D.wait] 24 (0, 0))) := below_blk b1 (Array.getElem?_eq_some_iff.1 PA0).1 PA0
  have HPO : Hid (w1.heap[w.heap.size + 1]? = some (.cells #[.int .i64 O.self, .slice ua n2 uc] 27 (0, 0))) := below_blk b1 (Array.getElem?_eq_some_iff.1 PO0).1 PO0
  clear h1 h2 b1 PA0 PO0 HRL B0 p6 p7 hr9
  obtain ⟨p0, p1, p2, p3, p4, p5⟩ := cells6 HPA.out
  obtain ⟨p6, p7⟩ := two_cells HPO.out
  have HTA : Hid (∀ V, Ext w1 V → Calls Try.prog 9 #[.agg #[.slice ta n tc, .int .i64 D.next, .int .i64 D.seed, .int .i64 D.state, .int .i64 D.who, .int .i64 D.wait]] V fun e w' => ∃ g, e = .returned (.agg #[.slice (some ⟨g, 0, none⟩) n n, .int .i64 D.next, .int .i64 D.seed, .int .i64 D.state, .int .i64 D.who, .int .i64 D.wait]) ∧ Hid (OwI w' V.heap.size (.slice (some ⟨g, 0, none⟩) n n) D.order) ∧ Below V.heap.size V w') := fun V e => (toPro _ D V ((h0.out.ext (ext_below B1)).ext e) HLE.out.1).mono (fun e w' ⟨g, h1, h2, h3⟩ => by rw [← HN.out] at h1 h2; exact ⟨g, h1, h2, h3⟩)
  have HTO : Hid (∀ V, Ext w1 V → Calls Try.prog 10 #[.agg #[.int .i64 O.self, .slice ua n2 uc]] V fun e w' => ∃ g, e = .returned (.agg #[.int .i64 O.self, .slice (some ⟨g, 0, none⟩) n2 n2]) ∧ Hid (OwMem w' V.heap.size (.slice (some ⟨g, 0, none⟩) n2 n2) O.mems) ∧ Below V.heap.size V w') := fun V e => (toTab _ O V ((k0.out.ext (ext_below B1)).ext e) HLE.out.2).mono (fun e w' ⟨g, h1, h2, h3⟩ => by rw [← HN2.out] at h1 h2; exact ⟨g, h1, h2, h3⟩)
  have HS : Hid (∀ V va vb, VPro V va D → VTab V vb O → Calls Try.prog 17 #[va, vb, .int .i64 kk] V fun e w' => ∃ sa sc la lc mid, e = .returned (.tuple #[.agg #[.slice sa m sc, .int .i64 R.next, .int .i64 R.seed, .int .i64 R.state, .int .i64 R.who, .int .i64 R.wait], .slice la l lc]) ∧ Hid (OwI w' V.heap.size (.slice sa m sc) R.order ∧ OwI w' mid (.slice la l lc) RL ∧ V.heap.size ≤ mid ∧ ∀ k, (Value.slice sa m sc).ownBlock = some k → k < mid) ∧ Below V.heap.size V w') := fun V va vb hv hu => (sHelpersV va vb D O kk V hv hu HLE.out.1 HLE.out.2).mono (fun e w' ⟨tv, lv, mid, h1, h2, h3, h4, h5, h6⟩ => by
    rw [← HR.out] at h1 h2 h3
    obtain ⟨sa, sc, hsv⟩ := h2.shape
    rw [← HMR.out] at hsv
    obtain ⟨la, lc, hlv⟩ := h3.shape
    rw [← HLN.out] at hlv
    subst hsv
    subst hlv
    exact ⟨sa, sc, la, lc, mid, h1, ⟨h2, h3, h4, h5⟩, h6⟩)
  have HI : Hid (∀ V va vb, VPro V va D → VTab V vb O → Calls Try.prog 18 #[va, vb, .int .i64 kk] V fun e w' => ∃ sa sc la lc mid, e = .returned (.tuple #[.agg #[.slice sa m sc, .int .i64 R.next, .int .i64 R.seed, .int .i64 R.state, .int .i64 R.who, .int .i64 R.wait], .slice la l lc]) ∧ Hid (OwI w' V.heap.size (.slice sa m sc) R.order ∧ OwI w' mid (.slice la l lc) RL ∧ V.heap.size ≤ mid ∧ ∀ k, (Value.slice sa m sc).ownBlock = some k → k < mid) ∧ Below V.heap.size V w') := fun V va vb hv hu => (iHelpersV va vb D O kk V hv hu HLE.out.1 HLE.out.2).mono (fun e w' ⟨tv, lv, mid, h1, h2, h3, h4, h5, h6⟩ => by
    rw [← HR.out] at h1 h2 h3
    obtain ⟨sa, sc, hsv⟩ := h2.shape
    rw [← HMR.out] at hsv
    obtain ⟨la, lc, hlv⟩ := h3.shape
    rw [← HLN.out] at hlv
    subst hsv
    subst hlv
    exact ⟨sa, sc, la, lc, mid, h1, ⟨h2, h3, h4, h5⟩, h6⟩)
  have hsv1 : w.heap.size < w1.heap.size ∧ w.heap.size + 1 < w1.heap.size := ⟨(Array.getElem?_eq_some_iff.1 HPA.out).1, (Array.getElem?_eq_some_iff.1 HPO.out).1⟩
  have XV1 : Hid (Ext w1 w1) := ext_drewN w1 0
  go_upto_region 8 with fail
  -- the specification
  have XD1 : Hid (Ext w1 w1.drew) := ext_drewN _ 1
  have XA1 : Hid (∀ o, Ext w1 (w1.alloc o).drew) := fun o => (hE _ o).tr (ext_drewN _ 1)
  have XB1 : Hid (∀ o, Ext w1 (w1.drew.alloc o)) := fun o => (ext_drewN w1 1).tr (hE _ o)
  have NA1 : Hid (∀ o, (w1.alloc o).drew.heap[w1.heap.size]? = some o) := fun o => heap_alloc_new w1 o
  have NB1 : Hid (∀ o, (w1.drew.alloc o).heap[w1.heap.size]? = some o) := fun o => heap_alloc_new w1.drew o
  go_cut [8, 9] from 29 to 37 (fun s t0 wx => ∃ bs sa sc la lc, s = .pointer (some ⟨bs, 0, none⟩) ∧ t0 = .slice la l lc ∧ Hid (BoxP w1 R m bs sa sc wx) ∧ Hid (VL fI wx (.slice la l lc) RL))
  case first =>
    have HSV1 : Hid (w.heap.size < w1.heap.size ∧ w.heap.size + 1 < w1.heap.size) := hsv1
    have na10 : w1.heap.size ≠ w.heap.size := by have := hsv1; omega
    have nb10 : w1.heap.size ≠ w.heap.size + 1 := by have := hsv1; omega
    go_region_held3 (fun w' => (w'.cell? ⟨w.heap.size, 0, none⟩ = some (.slice ta n tc) ∧ w'.cell? ⟨w.heap.size, 1, none⟩ = some (.int .i64 D.next) ∧ w'.cell? ⟨w.heap.size, 2, none⟩ = some (.int .i64 D.seed) ∧ w'.cell? ⟨w.heap.size, 3, none⟩ = some (.int .i64 D.state) ∧ w'.cell? ⟨w.heap.size, 4, none⟩ = some (.int .i64 D.who) ∧ w'.cell? ⟨w.heap.size, 5, none⟩ = some (.int .i64 D.wait)) ∧ (w'.cell? ⟨w.heap.size + 1, 0, none⟩ = some (.int .i64 O.self) ∧ w'.cell? ⟨w.heap.size + 1, 1, none⟩ = some (.slice ua n2 uc))) (first | (simp [*]; done) | go_keep)
      (first
        | (have zz := XZ12; clear zz; go_at_call 17; refine (HS.out _ _ _ ?_ ?_).mono ?_; (first | exact OZ11.out.ext XZ112.out | exact (OZ11.out.ext XZ112.out).ext (hE _ _)); (first | exact OY12.out | exact OY12.out.ext (hE _ _)); rintro e z13 ⟨sa1, sc1, la1, lc1, mid1, rfl, OZP1, bz13⟩; have OZ13 := hideR OZP1.out.1; have OL1 := hideR OZP1.out.2.1; clear OZP1; have XZ123 : Hid (Ext z12 z13) := (by first | exact ext_below bz13 | exact (hE _ _).tr (ext_below bz13)); have XZ13 : Hid (Ext w1 z13) := XZ12.out.tr XZ123.out; have OB1 : Hid (OwI z13 w1.heap.size (.slice sa1 m sc1) R.order) := OZ13.out.base (by have := XZ12.out.size; first | exact this | (simp; omega)); obtain ⟨e130, e131, e132, e133, e134, e135⟩ := cells6 (ext_blk XZ13.out HPA.out); obtain ⟨f130, f131⟩ := two_cells (ext_blk XZ13.out HPO.out); have na13 : z13.heap.size ≠ w.heap.size := (by have := XZ13.out.size; have := HSV1.out; omega); have nb13 : z13.heap.size ≠ w.heap.size + 1 := (by have := XZ13.out.size; have := HSV1.out; omega); (try (have BX13 : Hid (z13.heap[w1.heap.size]? = some (.cells #[.slice none 0 0, .int .i64 0, .int .i64 0, .int .i64 0, .int .i64 0, .int .i64 0] 30 (0, 0)) ∧ w1.heap.size ≤ w1.heap.size) := ⟨ext_blk XZ123.out BX12.out.1, BX12.out.2⟩; obtain ⟨y130, t130⟩ := at_block BX13.out.1 0 _ rfl; obtain ⟨y131, t131⟩ := at_block BX13.out.1 1 _ rfl; obtain ⟨y132, t132⟩ := at_block BX13.out.1 2 _ rfl; obtain ⟨y133, t133⟩ := at_block BX13.out.1 3 _ rfl; obtain ⟨y134, t134⟩ := at_block BX13.out.1 4 _ rfl; obtain ⟨y135, t135⟩ := at_block BX13.out.1 5 _ rfl)); (try (have BX13 : Hid (z13.heap[z11.heap.size]? = some (.cells #[.slice none 0 0, .int .i64 0, .int .i64 0, .int .i64 0, .int .i64 0, .int .i64 0] 30 (0, 0)) ∧ w1.heap.size ≤ z11.heap.size) := ⟨ext_blk XZ123.out BX12.out.1, BX12.out.2⟩; obtain ⟨y130, t130⟩ := at_block BX13.out.1 0 _ rfl; obtain ⟨y131, t131⟩ := at_block BX13.out.1 1 _ rfl; obtain ⟨y132, t132⟩ := at_block BX13.out.1 2 _ rfl; obtain ⟨y133, t133⟩ := at_block BX13.out.1 3 _ rfl; obtain ⟨y134, t134⟩ := at_block BX13.out.1 4 _ rfl; obtain ⟨y135, t135⟩ := at_block BX13.out.1 5 _ rfl)); (try (have BX13 : Hid (z13.heap[z12.heap.size]? = some (.cells #[.slice none 0 0, .int .i64 0, .int .i64 0, .int .i64 0, .int .i64 0, .int .i64 0] 30 (0, 0)) ∧ w1.heap.size ≤ z12.heap.size) := ⟨below_blk bz13 (by simp) (heap_alloc_new z12 _), XZ12.out.size⟩; obtain ⟨y130, t130⟩ := at_block BX13.out.1 0 _ rfl; obtain ⟨y131, t131⟩ := at_block BX13.out.1 1 _ rfl; obtain ⟨y132, t132⟩ := at_block BX13.out.1 2 _ rfl; obtain ⟨y133, t133⟩ := at_block BX13.out.1 3 _ rfl; obtain ⟨y134, t134⟩ := at_block BX13.out.1 4 _ rfl; obtain ⟨y135, t135⟩ := at_block BX13.out.1 5 _ rfl)))
        | (have zz := XZ11; clear zz; go_at_call 10; refine (HTO.out _ ?_).mono ?_; (first | exact XV1.out.tr XZ11.out | exact XV1.out.tr (XZ11.out.tr (hE _ _))); rintro e z12 ⟨j1, rfl, oy1, bz12⟩; have XZ112 : Hid (Ext z11 z12) := (by first | exact ext_below bz12 | exact (hE _ _).tr (ext_below bz12)); have XZ12 : Hid (Ext w1 z12) := XZ11.out.tr XZ112.out; have OY12 : Hid (VTab z12 (.agg #[.int .i64 O.self, .slice (some ⟨j1, 0, none⟩) n2 n2]) O) := ⟨_, rfl, oy1.out.v⟩; obtain ⟨e120, e121, e122, e123, e124, e125⟩ := cells6 (ext_blk XZ12.out HPA.out); obtain ⟨f120, f121⟩ := two_cells (ext_blk XZ12.out HPO.out); have na12 : z12.heap.size ≠ w.heap.size := (by have := XZ12.out.size; have := HSV1.out; omega); have nb12 : z12.heap.size ≠ w.heap.size + 1 := (by have := XZ12.out.size; have := HSV1.out; omega); (try (have BX12 : Hid (z12.heap[w1.heap.size]? = some (.cells #[.slice none 0 0, .int .i64 0, .int .i64 0, .int .i64 0, .int .i64 0, .int .i64 0] 30 (0, 0)) ∧ w1.heap.size ≤ w1.heap.size) := ⟨ext_blk XZ112.out BX11.out.1, BX11.out.2⟩; obtain ⟨y120, t120⟩ := at_block BX12.out.1 0 _ rfl; obtain ⟨y121, t121⟩ := at_block BX12.out.1 1 _ rfl; obtain ⟨y122, t122⟩ := at_block BX12.out.1 2 _ rfl; obtain ⟨y123, t123⟩ := at_block BX12.out.1 3 _ rfl; obtain ⟨y124, t124⟩ := at_block BX12.out.1 4 _ rfl; obtain ⟨y125, t125⟩ := at_block BX12.out.1 5 _ rfl)); (try (have BX12 : Hid (z12.heap[z11.heap.size]? = some (.cells #[.slice none 0 0, .int .i64 0, .int .i64 0, .int .i64 0, .int .i64 0, .int .i64 0] 30 (0, 0)) ∧ w1.heap.size ≤ z11.heap.size) := ⟨below_blk bz12 (by simp) (heap_alloc_new z11 _), XZ11.out.size⟩; obtain ⟨y120, t120⟩ := at_block BX12.out.1 0 _ rfl; obtain ⟨y121, t121⟩ := at_block BX12.out.1 1 _ rfl; obtain ⟨y122, t122⟩ := at_block BX12.out.1 2 _ rfl; obtain ⟨y123, t123⟩ := at_block BX12.out.1 3 _ rfl; obtain ⟨y124, t124⟩ := at_block BX12.out.1 4 _ rfl; obtain ⟨y125, t125⟩ := at_block BX12.out.1 5 _ rfl)))
        | (go_at_call 9; refine (HTA.out _ ?_).mono ?_; (first | exact XV1.out.tr XD1.out | exact XV1.out.tr (XA1.out _) | exact XV1.out.tr (XB1.out _)); rintro e z11 ⟨g1, rfl, oz1, bz11⟩; have XZ11 : Hid (Ext w1 z11) := (by first | exact XD1.out.tr (ext_below bz11) | exact (XA1.out _).tr (ext_below bz11) | exact (XB1.out _).tr (ext_below bz11)); have OZ11 : Hid (VPro z11 (.agg #[.slice (some ⟨g1, 0, none⟩) n n, .int .i64 D.next, .int .i64 D.seed, .int .i64 D.state, .int .i64 D.who, .int .i64 D.wait]) D) := ⟨_, rfl, oz1.out.vl⟩; obtain ⟨e110, e111, e112, e113, e114, e115⟩ := cells6 (ext_blk XZ11.out HPA.out); obtain ⟨f110, f111⟩ := two_cells (ext_blk XZ11.out HPO.out); have na11 : z11.heap.size ≠ w.heap.size := (by have := XZ11.out.size; have := HSV1.out; omega); have nb11 : z11.heap.size ≠ w.heap.size + 1 := (by have := XZ11.out.size; have := HSV1.out; omega); (try (have BX11 : Hid (z11.heap[w1.heap.size]? = some (.cells #[.slice none 0 0, .int .i64 0, .int .i64 0, .int .i64 0, .int .i64 0, .int .i64 0] 30 (0, 0)) ∧ w1.heap.size ≤ w1.heap.size) := (by first | exact ⟨below_blk bz11 (by simp) (NA1.out _), Nat.le_refl _⟩ | exact ⟨below_blk bz11 (by simp) (NB1.out _), Nat.le_refl _⟩); obtain ⟨y110, t110⟩ := at_block BX11.out.1 0 _ rfl; obtain ⟨y111, t111⟩ := at_block BX11.out.1 1 _ rfl; obtain ⟨y112, t112⟩ := at_block BX11.out.1 2 _ rfl; obtain ⟨y113, t113⟩ := at_block BX11.out.1 3 _ rfl; obtain ⟨y114, t114⟩ := at_block BX11.out.1 4 _ rfl; obtain ⟨y115, t115⟩ := at_block BX11.out.1 5 _ rfl)))
      )
    all_goals
      go_wp2_with fail
      go_meet
      first
        | (have zz := BX13; clear zz; refine ⟨_, sa1, sc1, la1, lc1, rfl, rfl, ?_, ?_⟩; with_reducible refine hideR (boxp_set XZ13.out OB1.out ?_ BX13.out.1 BX13.out.2); exact Nat.le_refl _; with_reducible exact hideR (list_set OL1.out BX13.out.1 _ _ _ _ _ _))
        | (refine ⟨_, sa1, sc1, la1, lc1, rfl, rfl, ?_, ?_⟩; with_reducible refine hideR (boxp_new XZ13.out OB1.out ?_); exact Nat.le_refl _; with_reducible exact hideR (list_new OL1.out _))
  obtain ⟨bs, sa, sc, la, lc, rfl, rfl, HBS, HBL⟩ := hcut
  obtain ⟨w3, hw3⟩ : ∃ w3, w3 = wc := ⟨_, rfl⟩
  subst hw3
  have X13 : Ext w1 w3 := HBS.out.2.1
  have HV3 : Hid (VL fI w3 (.slice sa m sc) R.order) := HBS.out.2.2.1.vl
  have HVL3 : Hid (VL fI w3 (.slice la l lc) RL) := HBL.out
  have HRLL : Hid (RL.length ≤ 1048576) := HRL2.out HLE.out.1
  have hl9 : l ≤ 1048576 := by have := HRLL.out; have := HLN.out; omega
  clear HBL
  have PS3 := HBS.out.1
  have B3 : Below w.heap.size w w3 := B1.trans ((ext_bel X13).mono B1.size)
  have P3 := ext_blk X13 HPA.out
  have M3 := ext_blk X13 HPO.out
  clear XD1 XA1 XB1 NA1 NB1 XV1 p0 p1 p2 p3 p4 p5 p6 p7 hsv1 HBS
  obtain ⟨q0, q1, q2, q3, q4, q5⟩ := cells6 P3
  -- the program's arguments
  go_wp2_with fail
  refine (HTA.out w3 X13).mono ?_
  rintro e w4 ⟨g4, rfl, o4, b4⟩
  have X34 : Ext w3 w4 := ext_below b4
  have HM4 : Hid (∀ W, W = w4.alloc (.cells #[.slice (some ⟨g4, 0, none⟩) n n, .int .i64 D.next, .int .i64 D.seed, .int .i64 D.state, .int .i64 D.who, .int .i64 D.wait] 30 (0, 0)) → Ext w3 W ∧ W.heap[w4.heap.size]? = some (.cells #[.slice (some ⟨g4, 0, none⟩) n n, .int .i64 D.next, .int .i64 D.seed, .int .i64 D.state, .int .i64 D.who, .int .i64 D.wait] 30 (0, 0)) ∧ OwI W w3.heap.size (.slice (some ⟨g4, 0, none⟩) n n) D.order) := fun W hW => by
    subst hW
    exact ⟨X34.tr (hE _ _), heap_alloc_new _ _, o4.out.ext (hE _ _)⟩
  clear q0 q1 q2 q3 q4 q5 b4
  go_upto_region 10 with fail
  generalize hU : w4.alloc _ = U4
  obtain ⟨X3U, XU, OX⟩ := HM4.out U4 hU.symm
  clear hU HM4 X34 o4
  generalize w4.heap.size = bx at *
  have HG4 : Hid (g4 < U4.heap.size) := (OX.lt g4 rfl).2
  have HPX : Hid (U4.heap[bx]? = some (.cells #[.slice (some ⟨g4, 0, none⟩) n n, .int .i64 D.next, .int .i64 D.seed, .int .i64 D.state, .int .i64 D.who, .int .i64 D.wait] 30 (0, 0))) := XU
  have HX3U : Hid (Ext w3 U4) := X3U
  have HOX : Hid (OwI U4 w3.heap.size (.slice (some ⟨g4, 0, none⟩) n n) D.order) := OX
  obtain ⟨q0, q1⟩ := two_cells (ext_blk X3U M3)
  clear X3U XU OX
  go_wp2_with fail
  refine (HTO.out U4 (X13.tr HX3U.out)).mono ?_
  rintro e w5 ⟨g5, rfl, o5, b5⟩
  have X45 : Ext U4 w5 := ext_below b5
  have HM5 : Hid (∀ W, W = w5.alloc (.cells #[.int .i64 O.self, .slice (some ⟨g5, 0, none⟩) n2 n2] 36 (0, 0)) → Ext U4 W ∧ W.heap[w5.heap.size]? = some (.cells #[.int .i64 O.self, .slice (some ⟨g5, 0, none⟩) n2 n2] 36 (0, 0)) ∧ OwMem W U4.heap.size (.slice (some ⟨g5, 0, none⟩) n2 n2) O.mems) := fun W hW => by
    subst hW
    exact ⟨X45.tr (hE _ _), heap_alloc_new _ _, o5.out.ext (hE _ _)⟩
  clear q0 q1 b5
  go_upto_region 11 with fail
  generalize hU : w5.alloc _ = U5
  obtain ⟨X4U, YU, OY⟩ := HM5.out U5 hU.symm
  clear hU HM5 X45 o5
  generalize w5.heap.size = bY at *
  have HG5 : Hid (g4 < U5.heap.size) := Nat.lt_of_lt_of_le HG4.out X4U.size
  have HPY : Hid (U5.heap[bY]? = some (.cells #[.int .i64 O.self, .slice (some ⟨g5, 0, none⟩) n2 n2] 36 (0, 0))) := YU
  have HX4U : Hid (Ext U4 U5) := X4U
  have HOY : Hid (OwMem U5 U4.heap.size (.slice (some ⟨g5, 0, none⟩) n2 n2) O.mems) := OY
  obtain ⟨q0, q1, q2, q3, q4, q5⟩ := cells6 (ext_blk X4U HPX.out)
  obtain ⟨q6, q7⟩ := two_cells HPY.out
  clear X4U YU OY
  -- the program
  go_wp2_with fail
  refine (HI.out U5 _ _ ⟨_, rfl, HOX.out.vl.ext HX4U.out⟩ ⟨_, rfl, HOY.out.v⟩).mono ?_
  rintro e w6 ⟨ga, gc, ka, kc, mid, rfl, O6P, b6⟩
  have O6 := hideR O6P.out.1
  have HLK : Hid (∀ W, Ext w6 W → OwI W mid (.slice ka l kc) RL) := fun W e => O6P.out.2.1.ext e
  have HMID : Hid (U5.heap.size ≤ mid) := O6P.out.2.2.1
  have HLTM : Hid (∀ k, (Value.slice ga m gc).ownBlock = some k → k < mid) := O6P.out.2.2.2
  clear O6P
  have HLL : Hid (∀ W, W = w6.alloc (.cells #[.slice ga m gc, .int .i64 R.next, .int .i64 R.seed, .int .i64 R.state, .int .i64 R.who, .int .i64 R.wait] 30 (0, 0)) → LP w w3 W D R (.slice ta n tc) (.slice sa m sc) (.slice (some ⟨g4, 0, none⟩) n n) (.slice ga m gc) bs bx w6.heap.size U5.heap.size R.order ∧ LU w W O (.slice ua n2 uc) (.slice (some ⟨g5, 0, none⟩) n2 n2) bY ∧ OwI W w3.heap.size (.slice (some ⟨g4, 0, none⟩) n n) D.order ∧ OwMem W U4.heap.size (.slice (some ⟨g5, 0, none⟩) n2 n2) O.mems) := fun W hW => by
    subst hW
    have X5W : Ext U5 (w6.alloc (.cells #[.slice ga m gc, .int .i64 R.next, .int .i64 R.seed, .int .i64 R.state, .int .i64 R.who, .int .i64 R.wait] 30 (0, 0))) := (ext_below b6).tr (hE _ _)
    have X4W := HX4U.out.tr X5W
    have X3W := HX3U.out.tr X4W
    exact ⟨⟨B3.trans ((ext_bel X3W).mono B3.size), ext_bel X3W, HV3.out, ext_blk X3W P3, ext_blk X3W PS3, ext_blk X4W HPX.out, heap_alloc_new _ _, O6.out.ext (hE _ _), Nat.le_trans HX3U.out.size HX4U.out.size, B3.size⟩, ⟨ext_blk X3W M3, ext_blk X5W HPY.out⟩, HOX.out.ext X4W, HOY.out.ext X5W⟩
  have HW34 : Hid (w3.heap.size ≤ U4.heap.size) := HX3U.out.size
  clear q0 q1 q2 q3 q4 q5 q6 q7
  go_upto_region 12 with fail
  generalize hU : w6.alloc _ = W0
  obtain ⟨L0, K0, X0, Y0⟩ := HLL.out W0 hU.symm
  have HG0 : Hid (OwI W0 mid (.slice ka l kc) RL) := HLK.out W0 (by rw [← hU]; exact hE _ _)
  clear HLK
  clear hU HLL O6 b6 HPX HX3U HOX HPY HX4U HOY HV3 PS3 B3 P3 M3
  generalize w6.heap.size = bg at *
  have HL0 : Hid (LP w w3 W0 D R (.slice ta n tc) (.slice sa m sc) (.slice (some ⟨g4, 0, none⟩) n n) (.slice ga m gc) bs bx bg U5.heap.size R.order) := L0
  have HK0 := hideR K0
  have HX0 : Hid (OwI W0 w3.heap.size (.slice (some ⟨g4, 0, none⟩) n n) D.order) := X0
  have HY0 : Hid (OwMem W0 U4.heap.size (.slice (some ⟨g5, 0, none⟩) n2 n2) O.mems) := Y0
  have HXV : Hid (Ext w1 w3) := X13
  clear K0 X0 Y0 X13
  obtain ⟨s0, s1, s2, s3, s4, s5⟩ := cells6 L0.s
  obtain ⟨y0, y1, y2, y3, y4, y5⟩ := cells6 L0.g
  clear L0
  -- its answer held against the specification's
  go_wp2_with fail
  refine (eqPro _ _ R _ ⟨_, rfl, HL0.out.gO.vl⟩ HL0.out.sW (by rw [← HMR.out]; exact HML.out)).mono ?_
  rintro e VW1 ⟨rfl, cW1⟩
  have HGv : Hid (OwI VW1 mid (.slice ka l kc) RL) := HG0.out.ext (ext_below cW1)
  have HSv : Hid (VL fI VW1 (.slice la l lc) RL) := HVL3.out.ext (ext_below (HL0.out.grow cW1).sB)
  go_wp2_with fail
  refine (eqL_I _ _ RL VW1 HGv.out.vl HSv.out HRLL.out).mono ?_
  rintro e W1 ⟨rfl, qqW1, hqqW1⟩
  have b1 : Below W0.heap.size W0 W1 := cW1.trans ((by rw [hqqW1]; exact below_drewN (Below.refl _ _) _ : Below VW1.heap.size VW1 W1).mono cW1.size)
  clear HGv HSv cW1 hqqW1
  have HL1 := hideR (HL0.out.grow b1)
  have HG1 : Hid (OwI W1 mid (.slice ka l kc) RL) := HG0.out.ext (ext_below b1)
  have HK1 := hideR (HK0.out.grow b1)
  have HX1 : Hid (OwI W1 w3.heap.size (.slice (some ⟨g4, 0, none⟩) n n) D.order) := HX0.out.ext (ext_below b1)
  have HY1 : Hid (OwMem W1 U4.heap.size (.slice (some ⟨g5, 0, none⟩) n2 n2) O.mems) := HY0.out.ext (ext_below b1)
  clear s0 s1 s2 s3 s4 s5 y0 y1 y2 y3 y4 y5 b1 HL0 HX0 HY0 HK0
  obtain ⟨x0, x1, x2, x3, x4, x5⟩ := cells6 HL1.out.x
  obtain ⟨a0, a1, a2, a3, a4, a5⟩ := cells6 HL1.out.a
  have HS1 : Hid ((W1.cell? ⟨bx, 0, none⟩ = some (.slice (some ⟨g4, 0, none⟩) n n) ∧ W1.cell? ⟨bx, 1, none⟩ = some (.int .i64 D.next) ∧ W1.cell? ⟨bx, 2, none⟩ = some (.int .i64 D.seed) ∧ W1.cell? ⟨bx, 3, none⟩ = some (.int .i64 D.state) ∧ W1.cell? ⟨bx, 4, none⟩ = some (.int .i64 D.who) ∧ W1.cell? ⟨bx, 5, none⟩ = some (.int .i64 D.wait)) ∧ (W1.cell? ⟨w.heap.size, 0, none⟩ = some (.slice ta n tc) ∧ W1.cell? ⟨w.heap.size, 1, none⟩ = some (.int .i64 D.next) ∧ W1.cell? ⟨w.heap.size, 2, none⟩ = some (.int .i64 D.seed) ∧ W1.cell? ⟨w.heap.size, 3, none⟩ = some (.int .i64 D.state) ∧ W1.cell? ⟨w.heap.size, 4, none⟩ = some (.int .i64 D.who) ∧ W1.cell? ⟨w.heap.size, 5, none⟩ = some (.int .i64 D.wait))) := ⟨⟨x0, x1, x2, x3, x4, x5⟩, ⟨a0, a1, a2, a3, a4, a5⟩⟩
  -- its arguments are as they were
  go_upto_region 14 with fail
  go_region_held3 (fun w' => (w'.cell? ⟨bx, 0, none⟩ = some (.slice (some ⟨g4, 0, none⟩) n n) ∧ w'.cell? ⟨bx, 1, none⟩ = some (.int .i64 D.next) ∧ w'.cell? ⟨bx, 2, none⟩ = some (.int .i64 D.seed) ∧ w'.cell? ⟨bx, 3, none⟩ = some (.int .i64 D.state) ∧ w'.cell? ⟨bx, 4, none⟩ = some (.int .i64 D.who) ∧ w'.cell? ⟨bx, 5, none⟩ = some (.int .i64 D.wait)) ∧ (w'.cell? ⟨w.heap.size, 0, none⟩ = some (.slice ta n tc) ∧ w'.cell? ⟨w.heap.size, 1, none⟩ = some (.int .i64 D.next) ∧ w'.cell? ⟨w.heap.size, 2, none⟩ = some (.int .i64 D.seed) ∧ w'.cell? ⟨w.heap.size, 3, none⟩ = some (.int .i64 D.state) ∧ w'.cell? ⟨w.heap.size, 4, none⟩ = some (.int .i64 D.who) ∧ w'.cell? ⟨w.heap.size, 5, none⟩ = some (.int .i64 D.wait))) (first | (simp [*]; done) | go_keep)
    (first
      | (go_at_call 12; refine (eqPro _ _ D _ ?_ ?_ HLE.out.1).mono ?_; exact (⟨_, rfl, (HX1.out.vl.ext (ext_drewN W1 1)).ext (ext_below b6)⟩ : VPro _ _ D); exact V6; rintro e v7 ⟨rfl, b7⟩; obtain ⟨c0, c1, c2, c3, c4, c5⟩ := cells6_kept HS1.out.1 (((ext_drewN W1 1).tr (ext_below b6)).tr (ext_below b7)); obtain ⟨d0, d1, d2, d3, d4, d5⟩ := cells6_kept HS1.out.2 (((ext_drewN W1 1).tr (ext_below b6)).tr (ext_below b7)))
      | (go_at_call 9; refine (toPro _ D _ ?_ HLE.out.1).mono ?_; exact (h0.out.ext (ext_below HL1.out.low)).ext (ext_drewN W1 1); rintro e v6 ⟨g6, rfl, o6, b6⟩; rw [← HN.out]; have V6 : VPro v6 (.agg #[.slice (some ⟨g6, 0, none⟩) n n, .int .i64 D.next, .int .i64 D.seed, .int .i64 D.state, .int .i64 D.who, .int .i64 D.wait]) D := (⟨_, rfl, by rw [HN.out]; exact o6.vl⟩); obtain ⟨c0, c1, c2, c3, c4, c5⟩ := cells6_kept HS1.out.1 ((ext_drewN W1 1).tr (ext_below b6)); obtain ⟨d0, d1, d2, d3, d4, d5⟩ := cells6_kept HS1.out.2 ((ext_drewN W1 1).tr (ext_below b6))))
  have bA : Below W1.heap.size W1 v7 := ((below_drewN (Below.refl _ W1) 1).trans (b6.mono (Nat.le_refl _))).trans (b7.mono b6.size)
  have HL2 := hideR (HL1.out.grow bA)
  have HG2 : Hid (OwI v7 mid (.slice ka l kc) RL) := HG1.out.ext (ext_below bA)
  have HK2 := hideR (HK1.out.grow bA)
  have HX2 : Hid (OwI v7 w3.heap.size (.slice (some ⟨g4, 0, none⟩) n n) D.order) := HX1.out.ext (ext_below bA)
  have HY2 : Hid (OwMem v7 U4.heap.size (.slice (some ⟨g5, 0, none⟩) n2 n2) O.mems) := HY1.out.ext (ext_below bA)
  clear c0 c1 c2 c3 c4 c5 d0 d1 d2 d3 d4 d5 x0 x1 x2 x3 x4 x5 a0 a1 a2 a3 a4 a5 b6 b7 bA V6 o6 HL1 HX1 HY1 HK1 HS1
  obtain ⟨a0, a1⟩ := two_cells HK2.out.b
  obtain ⟨x0, x1⟩ := two_cells HK2.out.y
  have HS1 : Hid ((v7.cell? ⟨bY, 0, none⟩ = some (.int .i64 O.self) ∧ v7.cell? ⟨bY, 1, none⟩ = some (.slice (some ⟨g5, 0, none⟩) n2 n2)) ∧ (v7.cell? ⟨w.heap.size + 1, 0, none⟩ = some (.int .i64 O.self) ∧ v7.cell? ⟨w.heap.size + 1, 1, none⟩ = some (.slice ua n2 uc))) := ⟨⟨x0, x1⟩, ⟨a0, a1⟩⟩
  go_upto_region 16 with fail
  go_region_held3 (fun w' => w'.cell? ⟨bY, 0, none⟩ = some (.int .i64 O.self) ∧ w'.cell? ⟨bY, 1, none⟩ = some (.slice (some ⟨g5, 0, none⟩) n2 n2) ∧ w'.cell? ⟨w.heap.size + 1, 0, none⟩ = some (.int .i64 O.self) ∧ w'.cell? ⟨w.heap.size + 1, 1, none⟩ = some (.slice ua n2 uc)) (simp [*])
    (first | (go_at_call 10; refine (toTab _ O _ ?_ HLE.out.2).mono ?_; exact (k0.out.ext (ext_below HL2.out.low)).ext (ext_drewN v7 1); rintro e v8 ⟨g6, rfl, o6, b6⟩; rw [← HN2.out]; have V6 : VTab v8 (.agg #[.int .i64 O.self, .slice (some ⟨g6, 0, none⟩) n2 n2]) O := (⟨_, rfl, by rw [HN2.out]; exact o6.v⟩); obtain ⟨⟨c0, c1⟩, ⟨d0, d1⟩⟩ := keptT (w := v7.drew) HS1.out b6) | (go_at_call 13; refine (eqTab _ _ O _ ?_ ?_ HLE.out.2).mono ?_; exact (⟨_, rfl, (HY2.out.v.ext (ext_drewN v7 1)).ext (ext_below b6)⟩ : VTab _ _ O); exact V6; rintro e v9 ⟨rfl, b7⟩; obtain ⟨⟨c0', c1'⟩, ⟨d0', d1'⟩⟩ := keptT ⟨⟨c0, c1⟩, ⟨d0, d1⟩⟩ b7))
  have bA : Below v7.heap.size v7 v9 := ((below_drewN (Below.refl _ v7) 1).trans (b6.mono (Nat.le_refl _))).trans (b7.mono b6.size)
  have HL3 := hideR (HL2.out.grow bA)
  have HG3 : Hid (OwI v9 mid (.slice ka l kc) RL) := HG2.out.ext (ext_below bA)
  have HK3 := hideR (HK2.out.grow bA)
  have HX3 : Hid (OwI v9 w3.heap.size (.slice (some ⟨g4, 0, none⟩) n n) D.order) := HX2.out.ext (ext_below bA)
  have HY3 : Hid (OwMem v9 U4.heap.size (.slice (some ⟨g5, 0, none⟩) n2 n2) O.mems) := HY2.out.ext (ext_below bA)
  clear c0 c1 d0 d1 c0' c1' d0' d1' b6 b7 bA V6 o6 x0 x1 a0 a1 HL2 HX2 HY2 HK2 HS1
  obtain ⟨x0, x1, x2, x3, x4, x5⟩ := cells6 HL3.out.x
  -- marks in its arguments
  go_wp2_with fail
  refine (markPro w3.heap.size D _ D.order 1 _ HX3.out HLE.out.1 (by omega) (by omega)).mono ?_
  rintro e W3 ⟨rfl, o3, g3⟩
  rw [← HN.out]
  have HGO : Hid (OwI W3 U5.heap.size (.slice ga m gc) R.order) := keep_ltN HL3.out.gO g3 HG5.out
  have HY4 : Hid (OwMem W3 U4.heap.size (.slice (some ⟨g5, 0, none⟩) n2 n2) O.mems) := mem_keepI HY3.out HX3.out g3
  have HL4 := hideR (HL3.out.turn HX3.out (Nat.le_refl _) g3 HGO.out)
  have HG4v : Hid (OwI W3 mid (.slice ka l kc) RL) := keep_ltN HG3.out g3 (Nat.lt_of_lt_of_le HG5.out HMID.out)
  have HK4 := hideR (HK3.out.turnI HX3.out g3)
  clear o3 g3 x0 x1 x2 x3 x4 x5 HL3 HX3 HK3 HY3 HGO
  obtain ⟨x0, x1⟩ := two_cells HK4.out.y
  go_wp2_with fail
  refine (markTab2 U4.heap.size O.self _ O.mems (1 + (n : Int)) _ HY4.out HLE.out.2 (by omega) (by omega)).mono ?_
  rintro e W5 ⟨rfl, o3, g3⟩
  rw [← HN2.out]
  have HL5 := hideR (HL4.out.turnM HY4.out HW34.out g3)
  have HG5v : Hid (OwI W5 mid (.slice ka l kc) RL) := HG4v.out.keep g3 (ow_ne HG4v.out HY4.out)
  have HK5 := hideR (HK4.out.turnM HY4.out g3)
  clear o3 g3 x0 x1 HL4 HK4 HY4
  obtain ⟨s0, s1, s2, s3, s4, s5⟩ := cells6 HL5.out.s
  obtain ⟨y0, y1, y2, y3, y4, y5⟩ := cells6 HL5.out.g
  have hk0 : ¬ ((1 : Int) + (n : Int) + 3 * (n2 : Int) < 0) := by omega
  have hk1 : decide ((1 : Int) + (n : Int) + 3 * (n2 : Int) < 0) = false := by simp; omega
  go_wp2_with fail
  refine (eqPro _ _ R _ ⟨_, rfl, HL5.out.gO.vl⟩ HL5.out.sW (by rw [← HMR.out]; exact HML.out)).mono ?_
  rintro e VW6 ⟨rfl, cW6⟩
  have HGv : Hid (OwI VW6 mid (.slice ka l kc) RL) := HG5v.out.ext (ext_below cW6)
  have HSv : Hid (VL fI VW6 (.slice la l lc) RL) := HVL3.out.ext (ext_below (HL5.out.grow cW6).sB)
  go_wp2_with fail
  refine (eqL_I _ _ RL VW6 HGv.out.vl HSv.out HRLL.out).mono ?_
  rintro e W6 ⟨rfl, qqW6, hqqW6⟩
  have b4 : Below W5.heap.size W5 W6 := cW6.trans ((by rw [hqqW6]; exact below_drewN (Below.refl _ _) _ : Below VW6.heap.size VW6 W6).mono cW6.size)
  clear HGv HSv cW6 hqqW6
  have HL6 := hideR (HL5.out.grow b4)
  have HG6 : Hid (OwI W6 mid (.slice ka l kc) RL) := HG5v.out.ext (ext_below b4)
  have HK6 := hideR (HK5.out.grow b4)
  clear s0 s1 s2 s3 s4 s5 y0 y1 y2 y3 y4 y5 b4 HL5 HK5
  obtain ⟨y0, y1, y2, y3, y4, y5⟩ := cells6 HL6.out.g
  -- marks in its answer
  go_wp2_with fail
  refine (markPro U5.heap.size R _ R.order 1 _ HL6.out.gO (by rw [← HMR.out]; exact HML.out) (by omega) (by omega)).mono ?_
  rintro e W7 ⟨rfl, o5, g7⟩
  rw [← HMR.out] at o5 ⊢
  have HL7 := hideR (HL6.out.turn HL6.out.gO HL6.out.bs g7 o5)
  have HG7 : Hid (OwI W7 mid (.slice ka l kc) RL) := keep_row HG6.out g7 HLTM.out
  have HSM : Hid (w3.heap.size ≤ mid) := Nat.le_trans HL6.out.bs HMID.out
  have HK7 := hideR (HK6.out.turnI HL6.out.gO g7)
  clear o5 g7 y0 y1 y2 y3 y4 y5 HL6 HK6
  have hm0 : ¬ ((1 : Int) + (m : Int) < 0) := by omega
  have hm2 : ¬ ((1 : Int) + (m : Int) + (l : Int) < 0) := by omega
  have hml9 : m ≤ 1048576 := HML.out
  go_wp2_with fail
  refine (markOI mid _ RL (1 + (m : Int)) _ HG7.out HRLL.out (by omega) (by omega)).mono ?_
  rintro e W7b ⟨rfl, o7, g7b⟩
  rw [← HLN.out] at o7 ⊢
  have HG7b : Hid (OwI W7b mid (.slice ka l kc) (mkL (fun x : Int => x) (1 + (m : Int)) l)) := o7
  have HL7b := hideR (HL7.out.turn HG7.out HSM.out g7b (keep_low HL7.out.gO HG7.out g7b HLTM.out))
  have HK7b := hideR (HK7.out.turnI HG7.out g7b)
  clear o7 g7b HG7 HL7 HK7
  obtain ⟨y0, y1, y2, y3, y4, y5⟩ := cells6 HL7b.out.g
  go_wp2_with fail
  refine (heldPro U5.heap.size R _ m 1 _ HL7b.out.gO HML.out (by omega) (by omega)).mono ?_
  rintro e W7c ⟨rfl, b7c⟩
  have HG7c : Hid (OwI W7c mid (.slice ka l kc) (mkL (fun x : Int => x) (1 + (m : Int)) l)) := HG7b.out.ext (ext_below b7c)
  go_wp2_with fail
  refine (heldOI mid _ l (1 + (m : Int)) _ HG7c.out (by omega) (by omega) (by omega)).mono ?_
  rintro e W8 ⟨rfl, qq8, hqq8⟩
  have b6 : Below W7b.heap.size W7b W8 := b7c.trans ((by rw [hqq8]; exact below_drewN (Below.refl _ _) _ : Below W7c.heap.size W7c W8).mono b7c.size)
  have HG8 : Hid (OwI W8 mid (.slice ka l kc) (mkL (fun x : Int => x) (1 + (m : Int)) l)) := HG7b.out.ext (ext_below b6)
  clear HG7c b7c hqq8
  have HL8 := hideR (HL7b.out.grow b6)
  have HK8 := hideR (HK7b.out.grow b6)
  have HA8 : Hid (W8.heap[w.heap.size]? = some (.cells #[.slice ta n tc, .int .i64 D.next, .int .i64 D.seed, .int .i64 D.state, .int .i64 D.who, .int .i64 D.wait] 24 (0, 0))) := HL8.out.a
  have HQ8 : Hid (W8.heap[w.heap.size + 1]? = some (.cells #[.int .i64 O.self, .slice ua n2 uc] 27 (0, 0))) := HK8.out.b
  have XV9 : Hid (Ext w1 W8) := HXV.out.tr (ext_below HL8.out.sB)
  clear y0 y1 y2 y3 y4 y5 b6 HL7b HK7b HK8
  obtain ⟨p0, p1, p2, p3, p4, p5⟩ := cells6 HA8.out
  obtain ⟨p6, p7⟩ := two_cells HQ8.out
  have hsv9 : w.heap.size < W8.heap.size ∧ w.heap.size + 1 < W8.heap.size := ⟨(Array.getElem?_eq_some_iff.1 HA8.out).1, (Array.getElem?_eq_some_iff.1 HQ8.out).1⟩
  -- another call
  go_upto_region 35 with fail
  have XD9 : Hid (Ext W8 W8.drew) := ext_drewN _ 1
  have XA9 : Hid (∀ o, Ext W8 (W8.alloc o).drew) := fun o => (hE _ o).tr (ext_drewN _ 1)
  have XB9 : Hid (∀ o, Ext W8 (W8.drew.alloc o)) := fun o => (ext_drewN W8 1).tr (hE _ o)
  have NA9 : Hid (∀ o, (W8.alloc o).drew.heap[W8.heap.size]? = some o) := fun o => heap_alloc_new W8 o
  have NB9 : Hid (∀ o, (W8.drew.alloc o).heap[W8.heap.size]? = some o) := fun o => heap_alloc_new W8.drew o
  go_cut [17, 18] from 108 to 116 (fun s t0 wx => ∃ bs sa sc la lc, s = .pointer (some ⟨bs, 0, none⟩) ∧ t0 = .slice la l lc ∧ Hid (BoxP W8 R m bs sa sc wx) ∧ Hid (VL fI wx (.slice la l lc) RL))
  case first =>
    have HSV9 : Hid (w.heap.size < W8.heap.size ∧ w.heap.size + 1 < W8.heap.size) := hsv9
    have na90 : W8.heap.size ≠ w.heap.size := by have := hsv9; omega
    have nb90 : W8.heap.size ≠ w.heap.size + 1 := by have := hsv9; omega
    go_region_held3 (fun w' => (w'.cell? ⟨w.heap.size, 0, none⟩ = some (.slice ta n tc) ∧ w'.cell? ⟨w.heap.size, 1, none⟩ = some (.int .i64 D.next) ∧ w'.cell? ⟨w.heap.size, 2, none⟩ = some (.int .i64 D.seed) ∧ w'.cell? ⟨w.heap.size, 3, none⟩ = some (.int .i64 D.state) ∧ w'.cell? ⟨w.heap.size, 4, none⟩ = some (.int .i64 D.who) ∧ w'.cell? ⟨w.heap.size, 5, none⟩ = some (.int .i64 D.wait)) ∧ (w'.cell? ⟨w.heap.size + 1, 0, none⟩ = some (.int .i64 O.self) ∧ w'.cell? ⟨w.heap.size + 1, 1, none⟩ = some (.slice ua n2 uc))) (first | (simp [*]; done) | go_keep)
      (first
        | (have zz := XZ92; clear zz; go_at_call 18; refine (HI.out _ _ _ ?_ ?_).mono ?_; (first | exact OZ91.out.ext XZ912.out | exact (OZ91.out.ext XZ912.out).ext (hE _ _)); (first | exact OY92.out | exact OY92.out.ext (hE _ _)); rintro e z93 ⟨sa9, sc9, la9, lc9, mid9, rfl, OZP9, bz93⟩; have OZ93 := hideR OZP9.out.1; have OL9 := hideR OZP9.out.2.1; clear OZP9; have XZ923 : Hid (Ext z92 z93) := (by first | exact ext_below bz93 | exact (hE _ _).tr (ext_below bz93)); have XZ93 : Hid (Ext W8 z93) := XZ92.out.tr XZ923.out; have OB9 : Hid (OwI z93 W8.heap.size (.slice sa9 m sc9) R.order) := OZ93.out.base (by have := XZ92.out.size; first | exact this | (simp; omega)); obtain ⟨e930, e931, e932, e933, e934, e935⟩ := cells6 (ext_blk XZ93.out HA8.out); obtain ⟨f930, f931⟩ := two_cells (ext_blk XZ93.out HQ8.out); have na93 : z93.heap.size ≠ w.heap.size := (by have := XZ93.out.size; have := HSV9.out; omega); have nb93 : z93.heap.size ≠ w.heap.size + 1 := (by have := XZ93.out.size; have := HSV9.out; omega); (try (have BX93 : Hid (z93.heap[W8.heap.size]? = some (.cells #[.slice none 0 0, .int .i64 0, .int .i64 0, .int .i64 0, .int .i64 0, .int .i64 0] 30 (0, 0)) ∧ W8.heap.size ≤ W8.heap.size) := ⟨ext_blk XZ923.out BX92.out.1, BX92.out.2⟩; obtain ⟨y930, t930⟩ := at_block BX93.out.1 0 _ rfl; obtain ⟨y931, t931⟩ := at_block BX93.out.1 1 _ rfl; obtain ⟨y932, t932⟩ := at_block BX93.out.1 2 _ rfl; obtain ⟨y933, t933⟩ := at_block BX93.out.1 3 _ rfl; obtain ⟨y934, t934⟩ := at_block BX93.out.1 4 _ rfl; obtain ⟨y935, t935⟩ := at_block BX93.out.1 5 _ rfl)); (try (have BX93 : Hid (z93.heap[z91.heap.size]? = some (.cells #[.slice none 0 0, .int .i64 0, .int .i64 0, .int .i64 0, .int .i64 0, .int .i64 0] 30 (0, 0)) ∧ W8.heap.size ≤ z91.heap.size) := ⟨ext_blk XZ923.out BX92.out.1, BX92.out.2⟩; obtain ⟨y930, t930⟩ := at_block BX93.out.1 0 _ rfl; obtain ⟨y931, t931⟩ := at_block BX93.out.1 1 _ rfl; obtain ⟨y932, t932⟩ := at_block BX93.out.1 2 _ rfl; obtain ⟨y933, t933⟩ := at_block BX93.out.1 3 _ rfl; obtain ⟨y934, t934⟩ := at_block BX93.out.1 4 _ rfl; obtain ⟨y935, t935⟩ := at_block BX93.out.1 5 _ rfl)); (try (have BX93 : Hid (z93.heap[z92.heap.size]? = some (.cells #[.slice none 0 0, .int .i64 0, .int .i64 0, .int .i64 0, .int .i64 0, .int .i64 0] 30 (0, 0)) ∧ W8.heap.size ≤ z92.heap.size) := ⟨below_blk bz93 (by simp) (heap_alloc_new z92 _), XZ92.out.size⟩; obtain ⟨y930, t930⟩ := at_block BX93.out.1 0 _ rfl; obtain ⟨y931, t931⟩ := at_block BX93.out.1 1 _ rfl; obtain ⟨y932, t932⟩ := at_block BX93.out.1 2 _ rfl; obtain ⟨y933, t933⟩ := at_block BX93.out.1 3 _ rfl; obtain ⟨y934, t934⟩ := at_block BX93.out.1 4 _ rfl; obtain ⟨y935, t935⟩ := at_block BX93.out.1 5 _ rfl)))
        | (have zz := XZ91; clear zz; go_at_call 10; refine (HTO.out _ ?_).mono ?_; (first | exact XV9.out.tr XZ91.out | exact XV9.out.tr (XZ91.out.tr (hE _ _))); rintro e z92 ⟨j9, rfl, oy9, bz92⟩; have XZ912 : Hid (Ext z91 z92) := (by first | exact ext_below bz92 | exact (hE _ _).tr (ext_below bz92)); have XZ92 : Hid (Ext W8 z92) := XZ91.out.tr XZ912.out; have OY92 : Hid (VTab z92 (.agg #[.int .i64 O.self, .slice (some ⟨j9, 0, none⟩) n2 n2]) O) := ⟨_, rfl, oy9.out.v⟩; obtain ⟨e920, e921, e922, e923, e924, e925⟩ := cells6 (ext_blk XZ92.out HA8.out); obtain ⟨f920, f921⟩ := two_cells (ext_blk XZ92.out HQ8.out); have na92 : z92.heap.size ≠ w.heap.size := (by have := XZ92.out.size; have := HSV9.out; omega); have nb92 : z92.heap.size ≠ w.heap.size + 1 := (by have := XZ92.out.size; have := HSV9.out; omega); (try (have BX92 : Hid (z92.heap[W8.heap.size]? = some (.cells #[.slice none 0 0, .int .i64 0, .int .i64 0, .int .i64 0, .int .i64 0, .int .i64 0] 30 (0, 0)) ∧ W8.heap.size ≤ W8.heap.size) := ⟨ext_blk XZ912.out BX91.out.1, BX91.out.2⟩; obtain ⟨y920, t920⟩ := at_block BX92.out.1 0 _ rfl; obtain ⟨y921, t921⟩ := at_block BX92.out.1 1 _ rfl; obtain ⟨y922, t922⟩ := at_block BX92.out.1 2 _ rfl; obtain ⟨y923, t923⟩ := at_block BX92.out.1 3 _ rfl; obtain ⟨y924, t924⟩ := at_block BX92.out.1 4 _ rfl; obtain ⟨y925, t925⟩ := at_block BX92.out.1 5 _ rfl)); (try (have BX92 : Hid (z92.heap[z91.heap.size]? = some (.cells #[.slice none 0 0, .int .i64 0, .int .i64 0, .int .i64 0, .int .i64 0, .int .i64 0] 30 (0, 0)) ∧ W8.heap.size ≤ z91.heap.size) := ⟨below_blk bz92 (by simp) (heap_alloc_new z91 _), XZ91.out.size⟩; obtain ⟨y920, t920⟩ := at_block BX92.out.1 0 _ rfl; obtain ⟨y921, t921⟩ := at_block BX92.out.1 1 _ rfl; obtain ⟨y922, t922⟩ := at_block BX92.out.1 2 _ rfl; obtain ⟨y923, t923⟩ := at_block BX92.out.1 3 _ rfl; obtain ⟨y924, t924⟩ := at_block BX92.out.1 4 _ rfl; obtain ⟨y925, t925⟩ := at_block BX92.out.1 5 _ rfl)))
        | (go_at_call 9; refine (HTA.out _ ?_).mono ?_; (first | exact XV9.out.tr XD9.out | exact XV9.out.tr (XA9.out _) | exact XV9.out.tr (XB9.out _)); rintro e z91 ⟨g9, rfl, oz9, bz91⟩; have XZ91 : Hid (Ext W8 z91) := (by first | exact XD9.out.tr (ext_below bz91) | exact (XA9.out _).tr (ext_below bz91) | exact (XB9.out _).tr (ext_below bz91)); have OZ91 : Hid (VPro z91 (.agg #[.slice (some ⟨g9, 0, none⟩) n n, .int .i64 D.next, .int .i64 D.seed, .int .i64 D.state, .int .i64 D.who, .int .i64 D.wait]) D) := ⟨_, rfl, oz9.out.vl⟩; obtain ⟨e910, e911, e912, e913, e914, e915⟩ := cells6 (ext_blk XZ91.out HA8.out); obtain ⟨f910, f911⟩ := two_cells (ext_blk XZ91.out HQ8.out); have na91 : z91.heap.size ≠ w.heap.size := (by have := XZ91.out.size; have := HSV9.out; omega); have nb91 : z91.heap.size ≠ w.heap.size + 1 := (by have := XZ91.out.size; have := HSV9.out; omega); (try (have BX91 : Hid (z91.heap[W8.heap.size]? = some (.cells #[.slice none 0 0, .int .i64 0, .int .i64 0, .int .i64 0, .int .i64 0, .int .i64 0] 30 (0, 0)) ∧ W8.heap.size ≤ W8.heap.size) := (by first | exact ⟨below_blk bz91 (by simp) (NA9.out _), Nat.le_refl _⟩ | exact ⟨below_blk bz91 (by simp) (NB9.out _), Nat.le_refl _⟩); obtain ⟨y910, t910⟩ := at_block BX91.out.1 0 _ rfl; obtain ⟨y911, t911⟩ := at_block BX91.out.1 1 _ rfl; obtain ⟨y912, t912⟩ := at_block BX91.out.1 2 _ rfl; obtain ⟨y913, t913⟩ := at_block BX91.out.1 3 _ rfl; obtain ⟨y914, t914⟩ := at_block BX91.out.1 4 _ rfl; obtain ⟨y915, t915⟩ := at_block BX91.out.1 5 _ rfl)))
      )
    all_goals
      go_wp2_with fail
      go_meet
      first
        | (have zz := BX93; clear zz; refine ⟨_, sa9, sc9, la9, lc9, rfl, rfl, ?_, ?_⟩; with_reducible refine hideR (boxp_set XZ93.out OB9.out ?_ BX93.out.1 BX93.out.2); exact Nat.le_refl _; with_reducible exact hideR (list_set OL9.out BX93.out.1 _ _ _ _ _ _))
        | (refine ⟨_, sa9, sc9, la9, lc9, rfl, rfl, ?_, ?_⟩; with_reducible refine hideR (boxp_new XZ93.out OB9.out ?_); exact Nat.le_refl _; with_reducible exact hideR (list_new OL9.out _))
  obtain ⟨bh, ha, hc, ja, jc, rfl, rfl, HBH, HJ9⟩ := hcut
  obtain ⟨W9, hw9⟩ : ∃ w9, w9 = wc := ⟨_, rfl⟩
  subst hw9
  have HL9 := hideR (HL8.out.grow (ext_bel HBH.out.2.1))
  have HG9 : Hid (OwI W9 mid (.slice ka l kc) (mkL (fun x : Int => x) (1 + (m : Int)) l)) := HG8.out.ext HBH.out.2.1
  have Q9 := HBH.out.1
  have HT9 : Hid (VL fI W9 (.slice ha m hc) R.order) := HBH.out.2.2.1.vl
  clear HBH HL8 HQ8 HA8 XV9 XD9 XA9 XB9 NA9 NB9 p0 p1 p2 p3 p4 p5 p6 p7 hsv9
  obtain ⟨t0, t1, t2, t3, t4, t5⟩ := cells6 Q9
  obtain ⟨s0, s1, s2, s3, s4, s5⟩ := cells6 HL9.out.s
  go_wp2_with fail
  refine (eqPro _ _ R _ ⟨_, rfl, HT9.out⟩ HL9.out.sW (by rw [← HMR.out]; exact HML.out)).mono ?_
  rintro e VW10 ⟨rfl, cW10⟩
  have HGv : Hid (VL fI VW10 (.slice ja l jc) RL) := HJ9.out.ext (ext_below cW10)
  have HSv : Hid (VL fI VW10 (.slice la l lc) RL) := HVL3.out.ext (ext_below (HL9.out.grow cW10).sB)
  go_wp2_with fail
  refine (eqL_I _ _ RL VW10 HGv.out HSv.out HRLL.out).mono ?_
  rintro e W10 ⟨rfl, qqW10, hqqW10⟩
  have b10 : Below W9.heap.size W9 W10 := cW10.trans ((by rw [hqqW10]; exact below_drewN (Below.refl _ _) _ : Below VW10.heap.size VW10 W10).mono cW10.size)
  clear HGv HSv cW10 hqqW10
  have HL10 := hideR (HL9.out.grow b10)
  have HG10 : Hid (OwI W10 mid (.slice ka l kc) (mkL (fun x : Int => x) (1 + (m : Int)) l)) := HG9.out.ext (ext_below b10)
  clear b10 t0 t1 t2 t3 t4 t5 s0 s1 s2 s3 s4 s5 Q9 HT9 HL9
  obtain ⟨y0, y1, y2, y3, y4, y5⟩ := cells6 HL10.out.g
  go_wp2_with fail
  refine (heldPro U5.heap.size R _ m 1 _ HL10.out.gO HML.out (by omega) (by omega)).mono ?_
  rintro e W11 ⟨rfl, b11⟩
  have HG11 := hideR (HG10.out.ext (ext_below b11))
  go_wp2_with fail
  refine (heldOI mid _ l (1 + (m : Int)) _ HG11.out (by omega) (by omega) (by omega)).mono ?_
  rintro e W12 ⟨rfl, qq12, hqq12⟩
  have HB12 : Hid (Below w.heap.size w W12) := by rw [hqq12]; exact below_drewN (HL10.out.grow b11).low _
  clear hqq12
  go_wp2_with fail
  go_ret
  exact ⟨rfl, HB12.out⟩

end Go.Proofs.Ytfdklcmhafhbeaa

namespace Go.Proofs.Ytfdklcmhafhbeaa
open Go.ChangeShapes Go.WideShapes Go.ChangeAt Go.RowKit Go.Joins

section
variable {H : Type} {enc : TypeId × Value → H} {W : World} {fuel : Nat} {v : Value} {y : DataW H × List MemPlace}

theorem int_of_trod (h : DataW.trod enc Try.prog W 0 (fun _ => true) true fuel 3 [v] = some y) : ∃ q : Int, v = .int .i64 q ∧ -9223372036854775808 ≤ q ∧ q ≤ 9223372036854775807 := by
  obtain ⟨q, e0, rfl, wa⟩ := DataW.trod_int Try.underlying3 h
  simp only [List.cons.injEq, and_true] at e0
  subst e0
  simp [Lit.wf, IntKind.min, IntKind.max, IntKind.signed, IntKind.bits] at wa
  exact ⟨q, rfl, by omega, by omega⟩
end

theorem array6 {cs : Array Value} (h : cs.size = 6) : ∃ a b c d e f, cs = #[a, b, c, d, e, f] := by
  obtain ⟨l⟩ := cs
  match l, h with
  | [a, b, c, d, e, f], _ => exact ⟨a, b, c, d, e, f, rfl⟩

end Go.Proofs.Ytfdklcmhafhbeaa

namespace Go.Proofs.Ytfdklcmhafhbeaa
open Go.ChangeShapes Go.WideShapes Go.ChangeAt Go.RowKit Go.Joins

theorem list_of {α : Type} {p : Nat → α → Prop} : ∀ n : Nat, (∀ i, i < n → ∃ x, p i x) → ∃ rs : List α, rs.length = n ∧ ∀ (i : Nat) (r : α), rs[i]? = some r → p i r
  | 0, _ => ⟨[], rfl, fun i r h => by simp at h⟩
  | n + 1, h => by
    obtain ⟨rs, hl, hr⟩ := list_of n (fun i hi => h i (by omega))
    obtain ⟨x, hx⟩ := h n (by omega)
    refine ⟨rs ++ [x], by simp [hl], fun i r hi => ?_⟩
    by_cases e : i < n
    · rw [List.getElem?_append_left (by omega)] at hi
      exact hr i r hi
    · rw [List.getElem?_append_right (by omega)] at hi
      have e2 : i - rs.length = 0 := by
        have := (List.getElem?_eq_some_iff.1 hi).1
        simp at this
        omega
      rw [e2] at hi
      simp at hi
      obtain rfl : i = n := by omega
      rw [← hi]
      exact hx

section
variable {H : Type} {enc : TypeId × Value → H} {W : World} {fuel : Nat} {v : Value} {y : DataW H × List MemPlace}

set_option maxRecDepth 100000 in
/-- A slice of whatever structs: its cells, element by element. -/
theorem sl_of_trod {t e : TypeId} {k : Nat} (ht : Try.prog.underlying t = some (.slice e)) (hc : Try.prog.cellsOf e = k) (hk : 0 < k)
    (h : DataW.trod enc Try.prog W 0 (fun _ => true) true fuel t [v] = some y) :
    ∃ (n : Nat) (C : Nat → Nat → Value), SL W k v n C ∧ ∃ (m : Nat) (D : Nat → DataW H × List MemPlace), ∀ i, i < n → DataW.trod enc Try.prog W 0 (fun _ => true) true m e ((List.range k).map (C i)) = some (D i) := by
  rcases Go.Deep.open_slice ht h with ⟨hcs, _⟩ | ⟨a, len, cap, m, n, D, Pl, hcs, _, hl, hm, hmm, _, hx⟩
  · simp only [List.cons.injEq, and_true] at hcs
    subst hcs
    exact ⟨0, fun _ _ => .int .i64 0, ⟨none, 0, rfl, Nat.le_refl _, Nat.zero_le _, fun h => absurd h (by omega)⟩, 0, fun _ => y, fun i hi => absurd hi (by omega)⟩
  · simp only [List.cons.injEq, and_true] at hcs
    subst hcs
    rw [hc] at hx
    have hmm' : m = cap := by rw [hmm]; simp
    subst hmm'
    have hex : ∀ i, i < len → ∃ cs' : List Value, W.cells? 0 (a.add (i * k)) k = some cs' ∧ DataW.trod enc Try.prog W 0 (fun _ => true) true n e cs' = some (D i, Pl i) := fun i hi => hx i (by omega)
    obtain ⟨cs, hcsl, hcs⟩ := list_of len hex
    have hget : ∀ i, i < len → ∃ c, cs[i]? = some c := fun i hi => ⟨_, List.getElem?_eq_getElem (by omega)⟩
    refine ⟨len, fun i j => ((cs.getD i []).getD j (.int .i64 0)), ⟨some a, m, rfl, hl, hm, fun hpos => ?_⟩, n, fun i => (D i, Pl i), fun i hi => ?_⟩
    · obtain ⟨c, hcc⟩ := hget 0 hpos
      obtain ⟨h1, _⟩ := hcs 0 c hcc
      obtain ⟨_, hln, hce⟩ := World.cells?_some h1
      obtain ⟨b, off, spot⟩ := a
      have hc0 := hce 0 hk
      have hsome : W.cell? ((Addr.add ⟨b, off, spot⟩ (0 * k)).add 0) = some (c[0]'(by omega)) := by rw [hc0, List.getElem?_eq_getElem (by omega)]
      have hspot : spot = none := by simpa [Addr.add] using World.cell?_spot hsome
      subst hspot
      have hbl := World.block_lt_of_cell? W _ hsome
      rw [Addr.add_lit, Addr.add_lit] at hbl
      refine ⟨b, off, rfl, hbl, fun i hi j hj => ?_⟩
      obtain ⟨c', hcc'⟩ := hget i hi
      obtain ⟨h1', _⟩ := hcs i c' hcc'
      obtain ⟨_, hln', hce'⟩ := World.cells?_some h1'
      have := hce' j hj
      rw [Addr.add_lit, Addr.add_lit] at this
      rw [this, List.getElem?_eq_getElem (by omega)]
      simp [List.getD, hcc', List.getElem?_eq_getElem (show j < c'.length by omega)]
    · obtain ⟨c', hcc'⟩ := hget i hi
      obtain ⟨h1', h2'⟩ := hcs i c' hcc'
      obtain ⟨_, hln', _⟩ := World.cells?_some h1'
      have hce : (List.range k).map (fun j => ((cs.getD i []).getD j (.int .i64 0))) = c' := by
        apply List.ext_getElem?
        intro j
        by_cases hj : j < k
        · simp [List.getD, hcc', hj, List.getElem?_eq_getElem (show j < c'.length by omega)]
        · simp [hj, hln']
      rw [hce]
      exact h2'

theorem bool_of_trod (h : DataW.trod enc Try.prog W 0 (fun _ => true) true fuel 4 [v] = some y) : ∃ b, v = .bool b := by
  obtain ⟨b, e0, _⟩ := DataW.trod_bool Try.underlying4 h
  simp only [List.cons.injEq, and_true] at e0
  exact ⟨b, e0⟩
end

end Go.Proofs.Ytfdklcmhafhbeaa

namespace Go.Proofs.Ytfdklcmhafhbeaa
open Go.ChangeShapes Go.WideShapes Go.ChangeAt Go.RowKit Go.Joins

/-- The value v reads as the member m. -/
def VMb (_w : World) (v : Value) (m : DMem) : Prop := v = .agg #[.int .i64 m.id, .int .i64 m.st, .int .i64 m.life]
def intMb (m : DMem) : Prop := (-9223372036854775808 ≤ m.id ∧ m.id ≤ 9223372036854775807) ∧ (-9223372036854775808 ≤ m.st ∧ m.st ≤ 9223372036854775807) ∧ (-9223372036854775808 ≤ m.life ∧ m.life ≤ 9223372036854775807)

section
variable {H : Type} {enc : TypeId × Value → H} {W : World} {fuel : Nat} {v : Value} {y : DataW H × List MemPlace}

set_option maxRecDepth 100000 in
theorem mems_of_trod (h : DataW.trod enc Try.prog W 0 (fun _ => true) true fuel 25 [v] = some y) : ∃ rs, VMem W v rs := by
  obtain ⟨n, C, hS, m, D, hD⟩ := sl_of_trod (k := 3) Try.underlying25 (by kernel_rfl) (by omega) h
  obtain ⟨rs, hl, hr⟩ := list_of (p := fun i (r : DMem) => C i 0 = .int .i64 r.id ∧ C i 1 = .int .i64 r.st ∧ C i 2 = .int .i64 r.life) n (fun i hi => by
    have hf := hD i hi
    obtain ⟨xs, n', _, _, _, hxl, hx⟩ := DataW.trod_struct Try.underlying75 hf
    match xs, hxl with
    | [y0, y1, y2], _ =>
      have h0 : DataW.trod enc Try.prog W 0 (fun _ => true) true n' 3 [C i 0] = some y0 := hx 0 _ rfl
      have h1 : DataW.trod enc Try.prog W 0 (fun _ => true) true n' 3 [C i 1] = some y1 := hx 1 _ rfl
      have h2 : DataW.trod enc Try.prog W 0 (fun _ => true) true n' 3 [C i 2] = some y2 := hx 2 _ rfl
      obtain ⟨q, e1, _, _⟩ := int_of_trod h0
      obtain ⟨b, e2, _, _⟩ := int_of_trod h1
      obtain ⟨c, e3, _, _⟩ := int_of_trod h2
      exact ⟨⟨q, b, c⟩, e1, e2, e3⟩)
  exact ⟨rs, C, by rw [hl]; exact hS, hr⟩
end

theorem arr2 {cs : Array Value} (h : cs.size = 2) : ∃ a b, cs = #[a, b] := by
  obtain ⟨l⟩ := cs
  match l, h with
  | [a, b], _ => exact ⟨a, b, rfl⟩
theorem arr3 {cs : Array Value} (h : cs.size = 3) : ∃ a b c, cs = #[a, b, c] := by
  obtain ⟨l⟩ := cs
  match l, h with
  | [a, b, c], _ => exact ⟨a, b, c, rfl⟩

set_option maxRecDepth 100000 in
theorem open_Table {H : Type} {enc : TypeId × Value → H} {W : World} {r : Reach} {b0 : Nat} {v : Value} {d : DataW H} {p : List MemPlace}
    (hv : Value.okWide Try.prog W r b0 27 v) (h : DataW.Trod enc Try.prog W 0 (fun _ => true) true 27 v d p) : ∃ D, VTab W v D := by
  obtain ⟨cs, rfl, hsz⟩ := okWide_struct Try.underlying27 hv
  have h6 : Try.prog.cellsOf 27 = 2 := by kernel_rfl
  obtain ⟨c0, c1, rfl⟩ := arr2 (hsz.trans h6)
  obtain ⟨fuel, hf⟩ := h
  obtain ⟨xs, n, _, _, _, hxl, hx⟩ := DataW.trod_struct Try.underlying27 hf
  match xs, hxl with
  | [y0, y1], _ =>
    have h0 : DataW.trod enc Try.prog W 0 (fun _ => true) true n 3 [c0] = some y0 := hx 0 _ rfl
    have h1 : DataW.trod enc Try.prog W 0 (fun _ => true) true n 25 [c1] = some y1 := hx 1 _ rfl
    obtain ⟨q0, rfl, a1, a2⟩ := int_of_trod h0
    obtain ⟨ts, v1⟩ := mems_of_trod h1
    exact ⟨⟨q0, ts⟩, c1, rfl, v1⟩

set_option maxRecDepth 100000 in
theorem open_Member {H : Type} {enc : TypeId × Value → H} {W : World} {r : Reach} {b0 : Nat} {v : Value} {d : DataW H} {p : List MemPlace}
    (hv : Value.okWide Try.prog W r b0 75 v) (h : DataW.Trod enc Try.prog W 0 (fun _ => true) true 75 v d p) : ∃ m, VMb W v m ∧ True ∧ intMb m := by
  obtain ⟨cs, rfl, hsz⟩ := okWide_struct Try.underlying75 hv
  have h6 : Try.prog.cellsOf 75 = 3 := by kernel_rfl
  obtain ⟨c0, c1, c2, rfl⟩ := arr3 (hsz.trans h6)
  obtain ⟨fuel, hf⟩ := h
  obtain ⟨xs, n, _, _, _, hxl, hx⟩ := DataW.trod_struct Try.underlying75 hf
  match xs, hxl with
  | [y0, y1, y2], _ =>
    have h0 : DataW.trod enc Try.prog W 0 (fun _ => true) true n 3 [c0] = some y0 := hx 0 _ rfl
    have h1 : DataW.trod enc Try.prog W 0 (fun _ => true) true n 3 [c1] = some y1 := hx 1 _ rfl
    have h2 : DataW.trod enc Try.prog W 0 (fun _ => true) true n 3 [c2] = some y2 := hx 2 _ rfl
    obtain ⟨q0, rfl, a1, a2⟩ := int_of_trod h0
    obtain ⟨q1, rfl, b1, b2⟩ := int_of_trod h1
    obtain ⟨q2, rfl, d1, d2⟩ := int_of_trod h2
    exact ⟨⟨q0, q1, q2⟩, rfl, trivial, ⟨a1, a2⟩, ⟨b1, b2⟩, ⟨d1, d2⟩⟩

end Go.Proofs.Ytfdklcmhafhbeaa

namespace Go.Proofs.Ytfdklcmhafhbeaa
open Go.ChangeShapes Go.WideShapes Go.ChangeAt Go.RowKit Go.Joins

theorem vl_of_SL {α : Type} {f : α → Value} {w : World} {v : Value} {xs : List α} {C : Nat → Nat → Value} (h : SL w 1 v xs.length C) (hC : ∀ (i : Nat) (x : α), xs[i]? = some x → C i 0 = f x) : VL f w v xs := by
  obtain ⟨a, cap, hv, h1, h2, h3⟩ := h
  refine ⟨a, cap, hv, h1, h2, fun hn => ?_⟩
  obtain ⟨b, o, ha, hb, hc⟩ := h3 hn
  refine ⟨b, o, ha, hb, fun i x hx => ?_⟩
  have := hc i (List.getElem?_eq_some_iff.1 hx).1 0 (by omega)
  rw [Nat.mul_one, Nat.add_zero] at this
  rw [this, hC i x hx]

section
variable {H : Type} {enc : TypeId × Value → H} {W : World} {fuel : Nat} {v : Value} {y : DataW H × List MemPlace}

set_option maxRecDepth 100000 in
theorem ints_of_trod (h : DataW.trod enc Try.prog W 0 (fun _ => true) true fuel 22 [v] = some y) : ∃ xs, VL fI W v xs := by
  obtain ⟨n, C, hS, m, D, hD⟩ := sl_of_trod (k := 1) Try.underlying22 (by kernel_rfl) (by omega) h
  obtain ⟨rs, hl, hr⟩ := list_of (p := fun i (d : Int) => C i 0 = fI d) n (fun i hi => by
    have hf : DataW.trod enc Try.prog W 0 (fun _ => true) true m 3 [C i 0] = some (D i) := hD i hi
    obtain ⟨q, e, _, _⟩ := int_of_trod hf
    exact ⟨q, e⟩)
  exact ⟨rs, vl_of_SL (by rw [hl]; exact hS) hr⟩
end
theorem open_Ints {H : Type} {enc : TypeId × Value → H} {W : World} {r : Reach} {b0 : Nat} {v : Value} {d : DataW H} {p : List MemPlace}
    (hv : Value.okWide Try.prog W r b0 22 v) (h : DataW.Trod enc Try.prog W 0 (fun _ => true) true 22 v d p) : ∃ xs, VL fI W v xs := by
  obtain ⟨a, len, cap, rfl⟩ := okWide_slice Try.underlying22 hv
  obtain ⟨fuel, hf⟩ := h
  exact ints_of_trod hf

end Go.Proofs.Ytfdklcmhafhbeaa

namespace Go.Proofs.Ytfdklcmhafhbeaa
open Go.ChangeShapes Go.WideShapes Go.ChangeAt Go.RowKit Go.Joins

theorem arr6 {cs : Array Value} (h : cs.size = 6) : ∃ a b c d e f, cs = #[a, b, c, d, e, f] := by
  obtain ⟨l⟩ := cs
  match l, h with
  | [a, b, c, d, e, f], _ => exact ⟨a, b, c, d, e, f, rfl⟩

set_option maxRecDepth 100000 in
theorem open_Prober {H : Type} {enc : TypeId × Value → H} {W : World} {r : Reach} {b0 : Nat} {v : Value} {d : DataW H} {p : List MemPlace}
    (hv : Value.okWide Try.prog W r b0 24 v) (h : DataW.Trod enc Try.prog W 0 (fun _ => true) true 24 v d p) : ∃ D, VPro W v D := by
  obtain ⟨cs, rfl, hsz⟩ := okWide_struct Try.underlying24 hv
  have h6 : Try.prog.cellsOf 24 = 6 := by kernel_rfl
  obtain ⟨c0, c1, c2, c3, c4, c5, rfl⟩ := arr6 (hsz.trans h6)
  obtain ⟨fuel, hf⟩ := h
  obtain ⟨xs, n, _, _, _, hxl, hx⟩ := DataW.trod_struct Try.underlying24 hf
  match xs, hxl with
  | [y0, y1, y2, y3, y4, y5], _ =>
    have h0 : DataW.trod enc Try.prog W 0 (fun _ => true) true n 22 [c0] = some y0 := hx 0 _ rfl
    have h1 : DataW.trod enc Try.prog W 0 (fun _ => true) true n 3 [c1] = some y1 := hx 1 _ rfl
    have h2 : DataW.trod enc Try.prog W 0 (fun _ => true) true n 3 [c2] = some y2 := hx 2 _ rfl
    have h3 : DataW.trod enc Try.prog W 0 (fun _ => true) true n 3 [c3] = some y3 := hx 3 _ rfl
    have h4 : DataW.trod enc Try.prog W 0 (fun _ => true) true n 3 [c4] = some y4 := hx 4 _ rfl
    have h5 : DataW.trod enc Try.prog W 0 (fun _ => true) true n 3 [c5] = some y5 := hx 5 _ rfl
    obtain ⟨q1, rfl, _, _⟩ := int_of_trod h1
    obtain ⟨q2, rfl, _, _⟩ := int_of_trod h2
    obtain ⟨q3, rfl, _, _⟩ := int_of_trod h3
    obtain ⟨q4, rfl, _, _⟩ := int_of_trod h4
    obtain ⟨q5, rfl, _, _⟩ := int_of_trod h5
    obtain ⟨ts, v0⟩ := ints_of_trod h0
    exact ⟨⟨ts, q1, q2, q3, q4, q5⟩, c0, rfl, v0⟩

end Go.Proofs.Ytfdklcmhafhbeaa

namespace Go.Proofs.Ytfdklcmhafhbeaa
open Go.ChangeShapes Go.WideShapes Go.ChangeAt Go.RowKit

theorem own : ownKnob Try.prog.godebug = none := by kernel_rfl
theorem laidOut : laidOutB Try.prog = true := by kernel_rfl

theorem int_bd {q : Int} (h : (Lit.int .i64 q).wf = true) : -9223372036854775808 ≤ q ∧ q ≤ 9223372036854775807 := by
  simp [Lit.wf, IntKind.min, IntKind.max, IntKind.signed, IntKind.bits] at h
  omega

set_option maxRecDepth 100000 in
theorem lifted (os : Os) (started : os.Started) (H : Type) (enc : TypeId × Value → H) :
    ReturnsInHanded {} Try.checked os 4 .any (Rows.fnExactHelpersSpec.pre6 enc Try.prog Try.f4 Rows.fnExactHelpersRow.domain false) (Rows.fnExactHelpersSpec.post enc Try.prog Try.f4 false true false false) := by
  refine returnsInHanded_of_change (C := Try.checked) own started (by kernel_rfl) Try.func4
    (ChangeSpec.witness6 (enc := enc) (C := Try.checked) false ⟨#[], #[.agg #[.slice none 0 0, .int .i64 0, .int .i64 0, .int .i64 0, .int .i64 0, .int .i64 0], .agg #[.int .i64 0, .slice none 0 0], .int .i64 0], []⟩ 8 (by kernel_rfl) (by kernel_rfl) (by kernel_rfl) (by kernel_rfl)) ?_
  intro W base args ds gs before hval0 hW hcnd _
  have hval : ∀ (j : Nat) t v, Try.f4.params[j]? = some t → args[j]? = some v → Value.okWide Try.prog W .any base t v := hval0
  have hW' := hW
  obtain ⟨p, q, hA0, hV, rfl, hfz, hnd⟩ := hW
  have hA : DataW.TrodAll enc Try.prog W 0 (fun _ => true) true Try.f4.params.toList args.toList ds p := hA0
  rw [Try.params4] at hA hval
  obtain ⟨v0, vs0, d0, ds0, p0, q0, hargs, rfl, rfl, h0, r0⟩ := trodAll_cons hA
  obtain ⟨v1, vs1, d1, ds1, p1, q1, rfl, rfl, rfl, h1, r1⟩ := trodAll_cons r0
  obtain ⟨v2, vs2, d2, ds2, p2, q2, rfl, rfl, rfl, h2, r2⟩ := trodAll_cons r1
  obtain ⟨rfl, rfl, rfl⟩ := trodAll_nil r2
  obtain rfl : args = #[v0, v1, v2] := by cases args; simp_all
  obtain ⟨rfl, rfl⟩ := trodVars_none hV
  have k0 := h0
  have lt0 : ∀ x ∈ p0, x.block < W.heap.size := by obtain ⟨m, hm⟩ := k0; exact DataW.trod_lt m _ _ _ hm
  obtain ⟨D0, w0⟩ := open_Prober (hval 0 24 v0 rfl rfl) h0
  have k1 := h1
  have lt1 : ∀ x ∈ p1, x.block < W.heap.size := by obtain ⟨m, hm⟩ := k1; exact DataW.trod_lt m _ _ _ hm
  obtain ⟨D1, w1⟩ := open_Table (hval 1 27 v1 rfl rfl) h1
  obtain ⟨a2, rfl, rfl, rfl, w2⟩ := open_int Try.underlying3 (hval 2 3 v2 rfl rfl) h2
  clear hA0 hval0
  refine (law_Helpers v0 D0 v1 D1 a2 W w0 w1 (int_bd w2).1 (int_bd w2).2).mono fun e W' ⟨he, bel⟩ => ?_
  subst he
  exact ⟨_, rfl, _, _, _, [], _, [], hW', trodAll_mk1 (shut_bool Try.underlying4 _), (trodAll_cons_mk (Below.trod laidOut (by kernel_rfl) (of_decide_eq_true (by kernel_rfl)) k0 bel lt0) (trodAll_cons_mk (Below.trod laidOut (by kernel_rfl) (of_decide_eq_true (by kernel_rfl)) k1 bel lt1) (trodAll_cons_mk (shut_int Try.underlying3 w2) trodAll_mk0))), rfl, bel.frame _, fun h => by cases h⟩

theorem over : Rows.fnExactHelpersRow.holds Try.pinned (OpenSpec.ofChange Rows.fnExactHelpersSpec) :=
  OpenClaim.holds_of_wide 4 Try.f4 rfl rfl rfl rfl rfl rfl rfl ⟨rfl, rfl, rfl, rfl, rfl⟩ rfl rfl rfl rfl rfl (by kernel_rfl) Try.func4 (by kernel_rfl)
    (of_decide_eq_true (by kernel_rfl)) (by unfold Func.isWrapper; first | (rw [if_pos (by decide +kernel)]; kernel_rfl) | (rw [if_neg (by decide +kernel)]; exact ⟨rfl, rfl⟩))
    (fun os started H enc _ => lifted os started H enc)

theorem proved : Rows.FnExactHelpersSaid := over
#print axioms proved
end Go.Proofs.Ytfdklcmhafhbeaa

