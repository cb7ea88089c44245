/- What lies at the bottom of the other texts, in one: bytes, values, blocks. -/
import Derived.WalkKit
import Derived.WalkSpells
import Derived.Deep.QuietTactic
import Derived.BigQuiet
import Derived.Laws.AppendOwnNone
import Derived.Test.YtplgnohncdfgcamRows
import Derived.Lib.AppendZerosOnto
import Derived.Lib.AppendZeros
import Derived.WalkSmall

namespace Go.Proofs.Ytplgnohncdfgcam
open Go.RowKit

/-- The slice at 'a' of length n reads as the bytes xs in w. -/
structure Rd (w : World) (a : Option Addr) (n : Nat) (xs : List Int) : Prop where
  len : xs.length = n
  cell : ∀ i, i < n → ∃ b o, a = some ⟨b, o, none⟩ ∧ w.cell? ⟨b, o + i, none⟩ = some (.int .u8 (xs.getD i 0))
  rng : ∀ x ∈ xs, 0 ≤ x ∧ x ≤ 255

abbrev B8 (xs : List Int) : List Value := xs.map (Value.int .u8)

theorem Rd.below {w w' : World} {a : Option Addr} {n B : Nat} {xs : List Int} (h : Rd w a n xs) (hb : Below B w w') (hB : w.heap.size ≤ B) : Rd w' a n xs :=
  ⟨h.len, fun i hi => by
    obtain ⟨b, o, ha, hc⟩ := h.cell i hi
    exact ⟨b, o, ha, (hb.cell (p := ⟨b, o + i, none⟩) (Nat.lt_of_lt_of_le (World.block_lt_of_cell? w _ hc) hB)).trans hc⟩, h.rng⟩

theorem Rd.grown {w w' : World} {a : Option Addr} {n : Nat} {xs : List Int} (h : Rd w a n xs) (hb : w.grownBy w' none) : Rd w' a n xs :=
  ⟨h.len, fun i hi => by
    obtain ⟨b, o, ha, hc⟩ := h.cell i hi
    exact ⟨b, o, ha, hb.cell hc (by simp)⟩, h.rng⟩

theorem Rd.nil (w : World) (a : Option Addr) : Rd w a 0 [] := ⟨rfl, fun i hi => absurd hi (by omega), fun x hx => by cases hx⟩

theorem Rd.pos {w : World} {a : Option Addr} {n : Nat} {xs : List Int} (h : Rd w a n xs) (hn : 0 < n) : ∃ b o, a = some ⟨b, o, none⟩ ∧ b < w.heap.size ∧ ∀ i, i < n → w.cell? ⟨b, o + i, none⟩ = some (.int .u8 (xs.getD i 0)) := by
  obtain ⟨b, o, rfl, hc⟩ := h.cell 0 hn
  refine ⟨b, o, rfl, World.block_lt_of_cell? w _ hc, fun i hi => ?_⟩
  obtain ⟨b', o', ha, hc'⟩ := h.cell i hi
  simp only [Option.some.injEq, Addr.mk.injEq, and_true] at ha
  obtain ⟨rfl, rfl⟩ := ha
  exact hc'

theorem own_rd {w : World} {base : Nat} {v : Value} {n : Nat} {xs : List Int} (h : w.ownsRow base 5 1 v n (B8 xs)) (hr : ∀ x ∈ xs, 0 ≤ x ∧ x ≤ 255) : ∃ a cap, v = .slice a n cap ∧ Rd w a n xs ∧ n ≤ cap := by
  have hl : xs.length = n := by simpa using h.1
  rcases h.2 with ⟨rfl, rfl⟩ | ⟨g, cap, cur, rfl, hb, hg, hnc, hcm, hcs, htake⟩
  · exact ⟨none, 0, rfl, ⟨hl, fun i hi => absurd hi (by omega), hr⟩, Nat.le_refl _⟩
  · refine ⟨_, cap, rfl, ⟨hl, fun i hi => ⟨g, 0, rfl, ?_⟩, hr⟩, hnc⟩
    rw [Nat.zero_add, h.cellAt i (by omega)]
    simp [List.getD, show i < xs.length by omega]

/-- The cells of a slice that reads as xs, as the laws on append want them. -/
theorem Rd.news {w : World} {b o n : Nat} {xs : List Int} (h : Rd w (some ⟨b, o, none⟩) n xs) : ∀ j u, (B8 xs)[j]? = some u → w.cell? ((⟨b, o, none⟩ : Addr).add j) = some u := by
  intro j u hu
  have hj : j < xs.length := by
    have := (List.getElem?_eq_some_iff.1 hu).1
    simpa using this
  obtain ⟨b', o', ha, hc⟩ := h.cell j (by have := h.len; omega)
  simp only [Option.some.injEq, Addr.mk.injEq, and_true] at ha
  obtain ⟨rfl, rfl⟩ := ha
  rw [Addr.add_lit, hc]
  simpa [List.getD, hj] using hu

theorem own_take_set (xs : List Int) (k n : Nat) (hl : xs.length = n) (hk : k < n) :
    ((B8 (xs.take k)) ++ List.replicate (n - k) (Value.int .u8 0)).set k (.int .u8 (xs.getD k 0)) = B8 (xs.take (k + 1)) ++ List.replicate (n - (k + 1)) (Value.int .u8 0) := by
  apply List.ext_getElem?
  intro j
  have h1 : (B8 (xs.take k)).length = k := by simp; omega
  have h2 : (B8 (xs.take (k + 1))).length = k + 1 := by simp; omega
  rw [List.getElem?_set]
  by_cases e : k = j
  · subst e
    rw [if_pos rfl, if_pos (by simp; omega), List.getElem?_append_left (by omega)]
    simp [List.getD, show k < xs.length by omega]
  · rw [if_neg e]
    by_cases hj : j < k
    · rw [List.getElem?_append_left (by omega), List.getElem?_append_left (by omega)]
      simp [hj, show j < k + 1 by omega]
    · rw [List.getElem?_append_right (by omega), List.getElem?_append_right (by omega), h1, h2]
      simp only [List.getElem?_replicate]
      by_cases hj2 : j < n
      · rw [if_pos (by omega), if_pos (by omega)]
      · rw [if_neg (by omega), if_neg (by omega)]

end Go.Proofs.Ytplgnohncdfgcam

namespace Go.Proofs.Ytplgnohncdfgcam
open Go.RowKit

theorem info5 : (Try.prog.info? 5).map (fun i => (i.zero, i.size, i.bytes)) = some (some (.int .u8 0), 1, 1) := by kernel_rfl

end Go.Proofs.Ytplgnohncdfgcam

namespace Go.Proofs.Ytplgnohncdfgcam
open Go.RowKit

/-- The value v owns the bytes xs, in a row from block 'base' on. -/
abbrev Ow (w : World) (base : Nat) (v : Value) (xs : List Int) : Prop := w.ownsRow base 5 1 v xs.length (B8 xs)

theorem Ow.rd {w : World} {base : Nat} {v : Value} {xs : List Int} (h : Ow w base v xs) (hr : ∀ x ∈ xs, 0 ≤ x ∧ x ≤ 255) : ∃ a cap, v = .slice a xs.length cap ∧ Rd w a xs.length xs := by
  obtain ⟨a, cap, hv, hrd, _⟩ := own_rd h hr
  exact ⟨a, cap, hv, hrd⟩

theorem run_append_nothing {P : Program} (w : World) (base : Nat) (t ty : TypeId) (i : TypeInfo) (ht : P.underlying t = some (.slice 5)) (hi : P.info? 5 = some i)
    (v : Value) (n c : Nat) (xs : List Value) (hown : w.ownsRow base 5 1 v n xs) :
    (Builtin.append_ #[t, t] ty #[v, .slice none 0 c]).run P w = .ok v w := by
  rcases hown.2 with ⟨rfl, rfl⟩ | ⟨g, cap, cur, rfl, _, _, hnc, _⟩
  · simp [Builtin.append_, run_underlying ht, sizeOf, typeInfo, hi, Builtin.lenOf, Builtin.firstCells]
  · simp [Builtin.append_, run_underlying ht, sizeOf, typeInfo, hi, Builtin.lenOf, Builtin.firstCells, hnc, storeCells]

/-- 'append(out, ys...)', out the call's own, ys whatever slice of bytes. -/
theorem wpList_append_bytes {P : Program} (w : World) {ops : Array Oper} {rest : List Oper} {o : Oper} {a : Act} {Q : Exit → Act → World → Prop} (hgd : o.guard = none) (s x : Operand) (t : TypeId)
    (ho : o.op = .call { callee := .builtin .append, args := #[s, x], argTypes := #[t, t] })
    (base : Nat) (hinfo : (P.info? 5).map (fun i => (i.zero, i.size, i.bytes)) = some (some (.int .u8 0), 1, 1)) (ht : P.underlying t = some (.slice 5))
    (v : Value) (xs : List Int) (hs : a.eval s = v) (hown : Ow w base v xs)
    (ao : Option Addr) (m c : Nat) (ys : List Int) (hx : a.eval x = .slice ao m c) (hr : Rd w ao m ys)
    (hb : xs.length + m ≤ 4294967296) (hbase : base ≤ w.heap.size)
    (h : ∀ v' w', Ow w' base v' (xs ++ ys) → w.grownBy w' v.ownBlock → wpList P ops Q rest (a.put o.dst v') w') : wpList P ops Q (o :: rest) a w := by
  obtain ⟨i0, hi, hz0, hz1, hz2⟩ := info_parts hinfo
  have hl := hr.len
  cases ao with
  | none =>
    have hm : m = 0 := by
      rcases Nat.eq_zero_or_pos m with h0 | h0
      · exact h0
      · obtain ⟨b, o, e, _⟩ := hr.pos h0
        cases e
    subst hm
    obtain rfl : ys = [] := List.eq_nil_of_length_eq_zero hl
    refine wpList_plain hgd fun K hK => ?_
    have hrun := run_append_nothing (P := P) w base t o.type i0 ht hi v xs.length c (B8 xs) hown
    unfold Oper.wp
    simp only [execOp, ho, resolve, invoke, builtin, Sem.run_bind, Sem.run_pure, Result.andThen_ok, List.map_toArray, List.map_cons, List.map_nil, hs, hx, hrun]
    exact hK _ _ (h v w (by simpa using hown) (World.grownBy.refl _ _))
  | some ad =>
    have hnews : ∀ j u, (B8 ys)[j]? = some u → w.cell? (ad.add j) = some u := by
      intro j u hu
      have hj : j < ys.length := by
        have := (List.getElem?_eq_some_iff.1 hu).1
        simpa using this
      obtain ⟨b, o', e, hbl, hc⟩ := hr.pos (by omega)
      simp only [Option.some.injEq] at e
      subst e
      rw [Addr.add_lit, hc j (by omega)]
      simpa [List.getD, hj] using hu
    have hlen : (xs ++ ys).length = xs.length + m := by simp [hl]
    refine wpList_append_own (P := P) w hgd s x t ho base 5 i0 (.int .u8 0) 1 1 ht hi hz0 hz1 hz2 rfl (by decide) v xs.length (B8 xs) hs hown ad m c (B8 ys) hx (by simp [hl]) hnews
      (ints_oneCell _ _) (by unfold maxLen; omega) (by omega) hbase (fun v' w' h1 h2 _ => h v' w' ?_ h2)
    show w'.ownsRow base 5 1 v' (xs ++ ys).length (B8 (xs ++ ys))
    rw [hlen, B8, List.map_append]
    exact h1

theorem rd_one (w : World) (x : Int) (h0 : 0 ≤ x) (h1 : x ≤ 255) : Rd (w.alloc (.cells #[.int .u8 x] 5)) (some ⟨w.heap.size, 0, none⟩) 1 [x] :=
  ⟨rfl, fun i hi => ⟨w.heap.size, 0, rfl, by
    obtain rfl : i = 0 := by omega
    simp⟩, fun y hy => by
    simp only [List.mem_cons, List.not_mem_nil, or_false] at hy
    subst hy
    exact ⟨h0, h1⟩⟩

theorem ow_empty (w : World) : Ow (w.alloc (.cells #[] 5)) w.heap.size (.slice (some ⟨w.heap.size, 0, none⟩) 0 0) [] :=
  World.ownsRow_lit w #[] 0 (Nat.le_refl _) (Nat.zero_le _) rfl

theorem below_own {base : Nat} {w0 w w' : World} {v : Value} {xs : List Int} (hb : Below base w0 w) (hB : base ≤ w.heap.size) (ho : Ow w base v xs) (hg : w.grownBy w' v.ownBlock) : Below base w0 w' :=
  hb.grown hg hB (fun k hk => (ho.lt k hk).1)

theorem ow_base {w : World} {base base' : Nat} {v : Value} {xs : List Int} (h : Ow w base v xs) (hb : base' ≤ base) : Ow w base' v xs := by
  refine ⟨h.1, ?_⟩
  rcases h.2 with h2 | ⟨g, cap, cur, hv, hg, r⟩
  · exact .inl h2
  · exact .inr ⟨g, cap, cur, hv, Nat.le_trans hb hg, r⟩

/-- The bytes of a number: seven bits a byte, the lowest first; f bounds how many follow the first. -/
def encF : Nat → Int → List Int
  | 0, n => [n]
  | f + 1, n => if 127 < n then (n % 128 + 128) :: encF f (n / 128) else [n]

/-- The bytes of n, none where n is no number. -/
def numL (n : Int) : List Int := if 0 ≤ n ∧ n ≤ 2147483647 then encF 4 n else []

def pow128 : Nat → Int
  | 0 => 128
  | f + 1 => 128 * pow128 f

theorem encF_rng (f : Nat) (n : Int) (h0 : 0 ≤ n) (h1 : n < pow128 f) : ∀ x ∈ encF f n, 0 ≤ x ∧ x ≤ 255 := by
  induction f generalizing n with
  | zero =>
    intro x hx
    simp only [encF, List.mem_cons, List.not_mem_nil, or_false] at hx
    subst hx
    simp only [pow128] at h1
    omega
  | succ f ih =>
    intro x hx
    unfold encF at hx
    by_cases h : 127 < n
    · rw [if_pos h] at hx
      rcases List.mem_cons.1 hx with rfl | hx
      · omega
      · exact ih (n / 128) (by omega) (by simp only [pow128] at h1; omega) x hx
    · rw [if_neg h] at hx
      simp only [List.mem_cons, List.not_mem_nil, or_false] at hx
      subst hx
      omega

theorem encF_len (f : Nat) (n : Int) : 1 ≤ (encF f n).length ∧ (encF f n).length ≤ f + 1 := by
  induction f generalizing n with
  | zero => simp [encF]
  | succ f ih =>
    unfold encF
    split
    · have := ih (n / 128)
      simp only [List.length_cons]
      omega
    · simp

theorem numL_rng (n : Int) : ∀ x ∈ numL n, 0 ≤ x ∧ x ≤ 255 := by
  unfold numL
  split
  · rename_i h
    exact encF_rng 4 n h.1 (by simp only [pow128]; omega)
  · intro x hx; cases hx

theorem numL_len (n : Int) : (numL n).length ≤ 5 := by
  unfold numL
  split
  · exact (encF_len 4 n).2
  · simp

/-- The bytes of a text behind others: its length's, and its own; none where it is too long. -/
def textL (xs ys : List Int) : List Int := if ys.length ≤ 20 then xs ++ numL ys.length ++ ys else xs

theorem textL_rng {xs ys : List Int} (h : ∀ x ∈ xs, 0 ≤ x ∧ x ≤ 255) (k : ∀ x ∈ ys, 0 ≤ x ∧ x ≤ 255) : ∀ x ∈ textL xs ys, 0 ≤ x ∧ x ≤ 255 := by
  unfold textL
  split
  · intro x hx
    rcases List.mem_append.1 hx with hx | hx
    · rcases List.mem_append.1 hx with hx | hx
      · exact h x hx
      · exact numL_rng _ x hx
    · exact k x hx
  · exact h
theorem textL_len (xs ys : List Int) : (textL xs ys).length ≤ xs.length + 25 := by
  unfold textL
  split
  · have := numL_len (ys.length : Int)
    simp only [List.length_append]
    omega
  · omega

end Go.Proofs.Ytplgnohncdfgcam

namespace Go.Proofs.Ytplgnohncdfgcam
open Go.RowKit

/-- The value v is a slice that reads as the bytes xs. -/
def RV (w : World) (v : Value) (xs : List Int) : Prop := ∃ a cap, v = .slice a xs.length cap ∧ Rd w a xs.length xs ∧ xs.length ≤ cap ∧ cap ≤ maxLen

/-- Memory has grown, and nothing that was there has turned. -/
abbrev Ext (w w' : World) : Prop := w.grownBy w' none

theorem ext_below {w w' : World} (h : Below w.heap.size w w') : Ext w w' := ⟨h.os, h.tape, h.output, h.size, fun k hk _ => h.block k hk⟩
theorem ext_drewN (w : World) (q : Nat) : Ext w (w.drewN q) := ⟨rfl, rfl, rfl, Nat.le_refl _, fun _ _ _ => rfl⟩
theorem Ext.tr {a b c : World} (h : Ext a b) (k : Ext b c) : Ext a c :=
  ⟨k.os.trans h.os, k.tape.trans h.tape, k.output.trans h.output, Nat.le_trans h.size k.size, fun i hi e => (k.block i (Nat.lt_of_lt_of_le hi h.size) e).trans (h.block i hi e)⟩
theorem RV.ext {w w' : World} {v : Value} {xs : List Int} (h : RV w v xs) (k : Ext w w') : RV w' v xs := by
  obtain ⟨a, cap, hv, hr, h1, h2⟩ := h
  exact ⟨a, cap, hv, hr.grown k, h1, h2⟩
theorem Ow.ext {w w' : World} {base : Nat} {v : Value} {xs : List Int} (h : Ow w base v xs) (k : Ext w w') : Ow w' base v xs :=
  h.kept k (by cases hv : v.ownBlock <;> simp)
theorem Ow.rv {w : World} {base : Nat} {v : Value} {xs : List Int} (h : Ow w base v xs) (hr : ∀ x ∈ xs, 0 ≤ x ∧ x ≤ 255) : RV w v xs := by
  rcases h.2 with ⟨rfl, h0⟩ | ⟨g, cap, cur, rfl, hb, hg, hnc, hcm, hcs, htake⟩
  · have : xs = [] := List.eq_nil_of_length_eq_zero h0
    subst this
    exact ⟨none, 0, rfl, Rd.nil _ _, Nat.le_refl _, Nat.zero_le _⟩
  · refine ⟨_, cap, rfl, ⟨rfl, fun i hi => ⟨g, 0, rfl, ?_⟩, hr⟩, hnc, hcm⟩
    rw [Nat.zero_add, h.cellAt i (by omega)]
    simp [List.getD, hi]

/-- Two values, the second made when the first already lay there. -/
theorem apart_of {w w' : World} {b1 b2 : Nat} {v1 v2 : Value} {xs ys : List Int} (h1 : Ow w b1 v1 xs) (hle : w.heap.size ≤ b2) (h2 : Ow w' b2 v2 ys) : v1.ownBlock = none ∨ v1.ownBlock ≠ v2.ownBlock := by
  cases e1 : v1.ownBlock with
  | none => exact .inl rfl
  | some k =>
    right
    intro e2
    have := (h1.lt k e1).2
    have := (h2.lt k e2.symm).1
    omega
theorem apart_of' {w w' : World} {b1 b2 : Nat} {v1 v2 : Value} {xs ys : List Int} (h1 : Ow w b1 v1 xs) (hle : w.heap.size ≤ b2) (h2 : Ow w' b2 v2 ys) : v2.ownBlock = none ∨ v2.ownBlock ≠ v1.ownBlock := by
  cases e1 : v2.ownBlock with
  | none => exact .inl rfl
  | some k =>
    right
    intro e2
    have := (h1.lt k e2.symm).2
    have := (h2.lt k e1).1
    omega

theorem below_mark {B base : Nat} {w0 w w' : World} {v : Value} {xs : List Int} (hb : Below B w0 w) (hB : B ≤ base) (ho : Ow w base v xs) (hs : B ≤ w.heap.size) (hg : w.grownBy w' v.ownBlock) : Below B w0 w' :=
  hb.grown hg hs (fun k hk => Nat.le_trans hB (ho.lt k hk).1)

end Go.Proofs.Ytplgnohncdfgcam

namespace Go.Proofs.Ytplgnohncdfgcam
open Go.RowKit

/-- An operation. -/
structure DOp where
  kind : Int
  key : List Int
  val : List Int
  n : Int

/-- The value v reads as the operation d. -/
def VOp (w : World) (v : Value) (d : DOp) : Prop := ∃ kv vv, v = .agg #[.int .i64 d.kind, kv, vv, .int .i64 d.n] ∧ RV w kv d.key ∧ RV w vv d.val

/-- The value v is the operation d, in memory from block base on; its two texts lie apart. -/
def OOp (w : World) (base : Nat) (v : Value) (d : DOp) : Prop := ∃ kv vv, v = .agg #[.int .i64 d.kind, kv, vv, .int .i64 d.n] ∧ Ow w base kv d.key ∧ Ow w base vv d.val ∧ (kv.ownBlock = none ∨ kv.ownBlock ≠ vv.ownBlock)

def rngOp (d : DOp) : Prop := (∀ x ∈ d.key, 0 ≤ x ∧ x ≤ 255) ∧ (∀ x ∈ d.val, 0 ≤ x ∧ x ≤ 255)

theorem VOp.ext {w w' : World} {v : Value} {d : DOp} (h : VOp w v d) (k : Ext w w') : VOp w' v d := by
  obtain ⟨kv, vv, hv, h1, h2⟩ := h
  exact ⟨kv, vv, hv, h1.ext k, h2.ext k⟩
theorem OOp.ext {w w' : World} {base : Nat} {v : Value} {d : DOp} (h : OOp w base v d) (k : Ext w w') : OOp w' base v d := by
  obtain ⟨kv, vv, hv, h1, h2, h3⟩ := h
  exact ⟨kv, vv, hv, h1.ext k, h2.ext k, h3⟩
theorem OOp.v {w : World} {base : Nat} {v : Value} {d : DOp} (h : OOp w base v d) (hr : rngOp d) : VOp w v d := by
  obtain ⟨kv, vv, hv, h1, h2, _⟩ := h
  exact ⟨kv, vv, hv, h1.rv hr.1, h2.rv hr.2⟩

/-- Behind a call that turned nothing old: old cells and marks read as before. -/
theorem bcell {W w1 : World} (hb : Below W.heap.size W w1) : (∀ b o, b < W.heap.size → w1.cell? ⟨b, o, none⟩ = W.cell? ⟨b, o, none⟩) ∧ (∀ b o, b < W.heap.size → w1.frozen? ⟨b, o, none⟩ = W.frozen? ⟨b, o, none⟩) :=
  ⟨fun b o h => hb.cell (p := ⟨b, o, none⟩) h, fun b o h => hb.frozen (p := ⟨b, o, none⟩) h⟩

theorem h3_0 (w : World) (a b c : Obj) : (((w.alloc a).alloc b).alloc c).heap[w.heap.size]? = some a := by
  rw [Below.heap_alloc _ _ _ (by simp; omega), Below.heap_alloc _ _ _ (by simp), heap_alloc_new]
theorem h3_1 (w : World) (a b c : Obj) : (((w.alloc a).alloc b).alloc c).heap[w.heap.size + 1]? = some b := by
  rw [Below.heap_alloc _ _ _ (by simp)]
  have := heap_alloc_new (w.alloc a) b
  simpa using this
theorem h3_2 (w : World) (a b c : Obj) : (((w.alloc a).alloc b).alloc c).heap[w.heap.size + 1 + 1]? = some c := by
  have := heap_alloc_new ((w.alloc a).alloc b) c
  simpa using this
/-- One cell of a block that is known whole. -/
theorem at_block {w : World} {g : Nat} {cs : Array Value} {t : TypeId} (h : w.heap[g]? = some (.cells cs t (0, 0))) (j : Nat) (v : Value) (hj : cs[j]? = some v) : w.cell? ⟨g, j, none⟩ = some v ∧ w.frozen? ⟨g, j, none⟩ = false :=
  ⟨by rw [cell_of_row w g j cs t (0, 0) h]; exact hj, frozen_of_row w g j cs t h⟩
/-- A store into a block that is known whole. -/
theorem set_block {w : World} {g : Nat} {cs : Array Value} {t : TypeId} (h : w.heap[g]? = some (.cells cs t (0, 0))) (j : Nat) (u : Value) : (w.setCell ⟨g, j, none⟩ u).heap[g]? = some (.cells (cs.setIfInBounds j u) t (0, 0)) :=
  heap_setCell_same w g j cs t u h
theorem set_other {w : World} (g j : Nat) (u : Value) {k : Nat} {o : Obj} (hk : k ≠ g) (h : w.heap[k]? = some o) : (w.setCell ⟨g, j, none⟩ u).heap[k]? = some o := by
  rw [Below.heap_setCell _ _ _ _ hk]; exact h
theorem set_grown (w : World) (g j : Nat) (u : Value) : w.grownBy (w.setCell ⟨g, j, none⟩ u) (some g) :=
  ⟨rfl, rfl, rfl, by simp, fun k _ hk => heap_setCell_other w ⟨g, j, none⟩ k u (fun e => hk (by simp [e]))⟩
theorem below_blk {B k : Nat} {w w' : World} {o : Obj} (hb : Below B w w') (hk : k < B) (h : w.heap[k]? = some o) : w'.heap[k]? = some o := (hb.block k hk).trans h

theorem ow_row {w w' : World} {base g : Nat} {v : Value} {xs : List Int} (o : Ow w base v xs) (hg : w.grownBy w' (some g)) (hb : g < base) : Ow w' base v xs :=
  o.kept hg (by
    right
    intro e
    have := (o.lt g e).1
    omega)
theorem below_at {B g : Nat} {w0 w w' : World} (hb : Below B w0 w) (hs : B ≤ w.heap.size) (hg : w.grownBy w' (some g)) (hB : B ≤ g) : Below B w0 w' :=
  hb.grown hg hs (fun k hk => by simp only [Option.some.injEq] at hk; omega)

theorem ow_set {w : World} {base g j : Nat} {u v : Value} {xs : List Int} (o : Ow w base v xs) (hb : g < base) : Ow (w.setCell ⟨g, j, none⟩ u) base v xs := ow_row o (set_grown w g j u) hb
theorem below_set {B g j : Nat} {w0 w : World} {u : Value} (h : Below B w0 w) (hb : B ≤ g) : Below B w0 (w.setCell ⟨g, j, none⟩ u) := h.setCell hb u

end Go.Proofs.Ytplgnohncdfgcam

namespace Go.Proofs.Ytplgnohncdfgcam
open Go.RowKit

set_option maxHeartbeats 1000000 in
theorem toB (a : Option Addr) (n cap : Nat) (xs : List Int) (w : World) (hr : Rd w a n xs) (hn : n ≤ 1048576) :
    Calls Try.prog 78 #[.slice a n cap] w fun e w' => e = .returned (.slice (some ⟨w.heap.size, 0, none⟩) n n) ∧
      w'.ownsRow w.heap.size 5 1 (.slice (some ⟨w.heap.size, 0, none⟩) n n) n (B8 xs) ∧ Below w.heap.size w w' := by
  obtain ⟨i0, hi, hz0, hz1, hz2⟩ := info_parts info5
  have hml : n ≤ maxLen := by unfold maxLen; omega
  go_enter Try.func78, Try.ntmps78
  go_wp2_with (at_make; refine wpList_make_full _ rfl _ _ 45 rfl w.heap.size 5 i0 (.int .u8 0) 1 Try.underlying45 hi hz0 hz1 _ _ _ _ n rfl rfl rfl rfl ?b1 ?b2 ?b3 ?_)
  case b1 => rw [hz2]; omega
  case b2 => exact hml
  case b3 => exact Nat.le_refl _
  intro w1 hown hgr
  have hb1 : Below w.heap.size w w1 := (Below.refl _ _).grown hgr (Nat.le_refl _) (fun k hk => by cases hk)
  have hown1 : w1.ownsRow w.heap.size 5 1 (.slice (some ⟨w.heap.size, 0, none⟩) n n) n (B8 (xs.take 0) ++ List.replicate (n - 0) (Value.int .u8 0)) := by
    simpa [Value.cells, toList_madeCells_one] using hown
  clear hown hgr
  go_wp2
  go_loopw [4] (fun i wr => ∃ k : Nat, k ≤ n ∧ i = .int .i64 k ∧ wr.ownsRow w.heap.size 5 1 (.slice (some ⟨w.heap.size, 0, none⟩) n n) n (B8 (xs.take k) ++ List.replicate (n - k) (Value.int .u8 0)) ∧ Below w.heap.size w wr)
    (fun i _ => n - (intOf i).toNat)
  case atStart => exact ⟨0, Nat.zero_le _, rfl, hown1, hb1⟩
  case round =>
    obtain ⟨k, hk, rfl, hown, hb⟩ := hrel
    clear hown1 hb1
    by_cases hlt : k < n
    · obtain ⟨b, o, rfl, hbl, hc⟩ := hr.pos (by omega)
      have hck : wr.cell? ⟨b, o + k, none⟩ = some (.int .u8 (xs.getD k 0)) := (hb.cell (p := ⟨b, o + k, none⟩) hbl).trans (hc k hlt)
      have hf : wr.frozen? ⟨w.heap.size, k, none⟩ = false := hown.frozenAt k
      obtain ⟨u, hu⟩ : ∃ u, wr.cell? ⟨w.heap.size, k, none⟩ = some u := by
        rw [hown.cellAt k (by omega)]
        exact ⟨_, List.getElem?_eq_getElem (by simp [hr.len]; omega)⟩
      have R := hown.stored k (.int .u8 (xs.getD k 0))
      rw [own_take_set xs k n hr.len hlt] at R
      have hbR := hb.grown R.2 hb.size (fun k hk => by simp at hk; omega)
      have HR : Hid ((wr.setCell ⟨w.heap.size, k, none⟩ (.int .u8 (xs.getD k 0))).ownsRow w.heap.size 5 1 (.slice (some ⟨w.heap.size, 0, none⟩) n n) n (B8 (xs.take (k + 1)) ++ List.replicate (n - (k + 1)) (Value.int .u8 0))) := R.1
      have HB : Hid (Below w.heap.size w (wr.setCell ⟨w.heap.size, k, none⟩ (.int .u8 (xs.getD k 0)))) := hbR
      clear R hbR hc
      go_wp2
      go_roundw
      case rel => exact ⟨k + 1, by omega, by go_num, HR.out, HB.out⟩
      case measure => simp [intOf]; omega
    · have hkn : k = n := by omega
      subst hkn
      go_wp2
      go_ret
      refine ⟨rfl, ?_, hb⟩
      have e : B8 (xs.take k) ++ List.replicate (k - k) (Value.int .u8 0) = B8 xs := by
        rw [List.take_of_length_le (by have := hr.len; omega)]; simp
      rw [← e]; exact hown

end Go.Proofs.Ytplgnohncdfgcam

namespace Go.Proofs.Ytplgnohncdfgcam
open Go.RowKit

theorem ne_at {xs ys : List Int} {k : Nat} (h : xs.getD k 0 ≠ ys.getD k 0) : decide (xs = ys) = false := by
  rw [decide_eq_false_iff_not]
  rintro rfl
  exact h rfl

theorem eq_all {xs ys : List Int} (hl : xs.length = ys.length) (h : ∀ j, j < xs.length → xs.getD j 0 = ys.getD j 0) : xs = ys := by
  apply List.ext_getElem hl
  intro j h1 h2
  have := h j h1
  simpa [List.getD, h1, h2] using this

set_option maxHeartbeats 1000000 in
theorem eqB (a b : Option Addr) (n m c d : Nat) (xs ys : List Int) (w : World) (hr : Rd w a n xs) (hs : Rd w b m ys) (hn : n ≤ 2097152) :
    Calls Try.prog 82 #[.slice a n c, .slice b m d] w fun e w' => e = .returned (.bool (decide (xs = ys))) ∧ ∃ q, w' = w.drewN q := by
  by_cases hnm : n = m
  · subst hnm
    go_enter Try.func82, Try.ntmps82
    go_wp2
    go_loopw [5] (fun i wr => ∃ k q : Nat, k ≤ n ∧ i = .int .i64 k ∧ wr = w.drewN q ∧ Hid (∀ j, j < k → xs.getD j 0 = ys.getD j 0)) (fun i _ => n - (intOf i).toNat)
    case atStart => exact ⟨0, 0, Nat.zero_le _, rfl, rfl, fun j hj => absurd hj (by omega)⟩
    case round =>
      obtain ⟨k, q, hk, rfl, rfl, hall⟩ := hrel
      by_cases hlt : k < n
      · obtain ⟨b1, o1, rfl, hbl1, hc1⟩ := hr.pos (by omega)
        obtain ⟨b2, o2, rfl, hbl2, hc2⟩ := hs.pos (by omega)
        have hck1 := hc1 k hlt
        have hck2 := hc2 k hlt
        have hlt' : (k : Int) < (n : Int) := by omega
        have hall' : Hid (xs.getD k 0 = ys.getD k 0 → ∀ j, j < k + 1 → xs.getD j 0 = ys.getD j 0) := fun h j hj => by
          by_cases e : j = k
          · subst e; exact h
          · exact hall.out j (by omega)
        clear hc1 hc2
        by_cases he : xs.getD k 0 = ys.getD k 0
        · rw [he] at hck1
          have HE := hall'.out he
          have HE' : Hid (∀ j, j < k + 1 → xs.getD j 0 = ys.getD j 0) := HE
          clear HE hall' he hall
          go_wp2
          go_quiet (fail)
          go_wp2
          go_roundw
          case rel => exact ⟨k + 1, q + nq, by omega, by go_num, rfl, HE'⟩
          case measure => simp [intOf]; omega
        · have HN : Hid (decide (xs = ys) = false) := ne_at he
          obtain ⟨p, hp⟩ : ∃ p, p = xs.getD k 0 := ⟨_, rfl⟩
          obtain ⟨r, hr'⟩ : ∃ r, r = ys.getD k 0 := ⟨_, rfl⟩
          rw [← hp] at hck1 he
          rw [← hr'] at hck2 he
          have hpr : (p != r) = true := by simpa using he
          clear hp hr' hall' hall he
          go_wp2
          go_quiet (fail)
          go_wp2
          go_ret
          exact ⟨by rw [HN.out]; rfl, _, World.drewN_drewN _ _ _⟩
      · have hkn : k = n := by omega
        subst hkn
        go_wp2
        go_ret
        have e : xs = ys := eq_all (hr.len.trans hs.len.symm) (fun j hj => hall.out j (by have := hr.len; omega))
        exact ⟨by simp [e], _, rfl⟩
  · have hne : ((n : Int) == (m : Int)) = false := by simp; omega
    have e : decide (xs = ys) = false := by
      rw [decide_eq_false_iff_not]
      rintro rfl
      exact hnm (hr.len.symm.trans hs.len)
    have HE : Hid (decide (xs = ys) = false) := e
    clear e
    go_enter Try.func82, Try.ntmps82
    go_wp2
    go_ret
    exact ⟨by rw [HE.out]; rfl, 0, rfl⟩

end Go.Proofs.Ytplgnohncdfgcam

namespace Go.Proofs.Ytplgnohncdfgcam
open Go.RowKit

theorem toV (v : Value) (xs : List Int) (w : World) (h : RV w v xs) (hn : xs.length ≤ 1048576) :
    Calls Try.prog 78 #[v] w fun e w' => ∃ v', e = .returned v' ∧ Ow w' w.heap.size v' xs ∧ Below w.heap.size w w' := by
  obtain ⟨a, cap, rfl, hr, _, _⟩ := h
  exact (toB a xs.length cap xs w hr hn).mono fun e w' ⟨h1, h2, h3⟩ => ⟨_, h1, h2, h3⟩

theorem eqV (v u : Value) (xs ys : List Int) (w : World) (h : RV w v xs) (k : RV w u ys) (hn : xs.length ≤ 2097152) :
    Calls Try.prog 82 #[v, u] w fun e w' => e = .returned (.bool (decide (xs = ys))) ∧ ∃ q, w' = w.drewN q := by
  obtain ⟨a, cap, rfl, hr, _, _⟩ := h
  obtain ⟨b, cap', rfl, hs, _, _⟩ := k
  exact eqB a b xs.length ys.length cap cap' xs ys w hr hs hn

/-- What is alike. -/
theorem eqV_yes (v u : Value) (xs : List Int) (w : World) (h : RV w v xs) (k : RV w u xs) (hn : xs.length ≤ 2097152) :
    Calls Try.prog 82 #[v, u] w fun e w' => e = .returned (.bool true) ∧ ∃ q, w' = w.drewN q := by
  have := eqV v u xs xs w h k hn
  simpa using this

end Go.Proofs.Ytplgnohncdfgcam

namespace Go.Proofs.Ytplgnohncdfgcam
open Go.RowKit

set_option maxHeartbeats 1000000 in
theorem szB (v : Value) (xs : List Int) (l : Int) (w : World) (h : RV w v xs) (hl0 : 0 ≤ l) (hl : l ≤ 1048576) :
    Calls Try.prog 77 #[v, .int .i64 l] w fun e w' => e = .returned (.int .i64 (if l - xs.length < 0 then -1 else l - xs.length)) ∧ w' = w := by
  obtain ⟨a, cap, rfl, hr, h1, h2⟩ := h
  unfold maxLen at h2
  by_cases hn : l - xs.length < 0
  · rw [if_pos hn]
    go_enter Try.func77, Try.ntmps77
    go_wp2
    go_ret
    exact ⟨rfl, rfl⟩
  · rw [if_neg hn]
    go_enter Try.func77, Try.ntmps77
    go_wp2
    go_ret
    exact ⟨rfl, rfl⟩

/-- What a count of sizes leaves: below 0 where it is passed. -/
def SzPost (l : Int) (m : Nat) (w : World) (e : Ending) (w' : World) : Prop :=
  ∃ r : Int, e = .returned (.int .i64 r) ∧ ((l - m < 0 ∧ r = -1) ∨ (0 ≤ l - m ∧ r = l - m)) ∧ Below w.heap.size w w'

end Go.Proofs.Ytplgnohncdfgcam

namespace Go.Proofs.Ytplgnohncdfgcam
open Go.RowKit

theorem Ext.re (w : World) : Ext w w := ⟨rfl, rfl, rfl, Nat.le_refl _, fun _ _ _ => rfl⟩

structure DRow where
  key : List Int
  val : List Int
  turned : Int
  holder : Int
structure DTomb where
  key : List Int
  index : Int
structure DSess where
  id : Int
  del : Bool
structure DLast where
  client : Int
  req : Int
  code : Int
  index : Int
structure DState where
  index : Int
  rows : List DRow
  tombs : List DTomb
  lost : Int
  sess : List DSess
  lasts : List DLast

/-- The slice v has n elements of k cells each; C i j is cell j of element i. -/
def SL (w : World) (k : Nat) (v : Value) (n : Nat) (C : Nat → Nat → Value) : Prop :=
  ∃ a cap, v = .slice a n cap ∧ n ≤ cap ∧ cap ≤ maxLen ∧ (0 < n → ∃ b o, a = some ⟨b, o, none⟩ ∧ b < w.heap.size ∧ ∀ i, i < n → ∀ j, j < k → w.cell? ⟨b, o + i * k + j, none⟩ = some (C i j))

theorem SL.ext {w w' : World} {k n : Nat} {v : Value} {C : Nat → Nat → Value} (h : SL w k v n C) (e : Ext w w') : SL w' k v n C := by
  obtain ⟨a, cap, hv, h1, h2, h3⟩ := h
  refine ⟨a, cap, hv, h1, h2, fun hn => ?_⟩
  obtain ⟨b, o, ha, hb, hc⟩ := h3 hn
  refine ⟨b, o, ha, Nat.lt_of_lt_of_le hb e.size, fun i hi j hj => ?_⟩
  exact World.grownBy.cell e (hc i hi j hj) (by simp)

def VRows (w : World) (v : Value) (rs : List DRow) : Prop := ∃ C, SL w 4 v rs.length C ∧ ∀ i r, rs[i]? = some r → RV w (C i 0) r.key ∧ RV w (C i 1) r.val ∧ C i 2 = .int .i64 r.turned ∧ C i 3 = .int .i64 r.holder
def VTombs (w : World) (v : Value) (rs : List DTomb) : Prop := ∃ C, SL w 2 v rs.length C ∧ ∀ i r, rs[i]? = some r → RV w (C i 0) r.key ∧ C i 1 = .int .i64 r.index
def VSess (w : World) (v : Value) (rs : List DSess) : Prop := ∃ C, SL w 2 v rs.length C ∧ ∀ i r, rs[i]? = some r → C i 0 = .int .i64 r.id ∧ C i 1 = .bool r.del
def VLasts (w : World) (v : Value) (rs : List DLast) : Prop := ∃ C, SL w 4 v rs.length C ∧ ∀ i r, rs[i]? = some r → C i 0 = .int .i64 r.client ∧ C i 1 = .int .i64 r.req ∧ C i 2 = .int .i64 r.code ∧ C i 3 = .int .i64 r.index

def VState (w : World) (v : Value) (S : DState) : Prop := ∃ rv tv sv lv, v = .agg #[.int .i64 S.index, rv, tv, .int .i64 S.lost, sv, lv] ∧ VRows w rv S.rows ∧ VTombs w tv S.tombs ∧ VSess w sv S.sess ∧ VLasts w lv S.lasts

theorem VRows.ext {w w' : World} {v : Value} {rs : List DRow} (h : VRows w v rs) (e : Ext w w') : VRows w' v rs := by
  obtain ⟨C, h1, h2⟩ := h
  exact ⟨C, h1.ext e, fun i r hr => ⟨(h2 i r hr).1.ext e, (h2 i r hr).2.1.ext e, (h2 i r hr).2.2⟩⟩
theorem VTombs.ext {w w' : World} {v : Value} {rs : List DTomb} (h : VTombs w v rs) (e : Ext w w') : VTombs w' v rs := by
  obtain ⟨C, h1, h2⟩ := h
  exact ⟨C, h1.ext e, fun i r hr => ⟨(h2 i r hr).1.ext e, (h2 i r hr).2⟩⟩
theorem VSess.ext {w w' : World} {v : Value} {rs : List DSess} (h : VSess w v rs) (e : Ext w w') : VSess w' v rs := by
  obtain ⟨C, h1, h2⟩ := h
  exact ⟨C, h1.ext e, h2⟩
theorem VLasts.ext {w w' : World} {v : Value} {rs : List DLast} (h : VLasts w v rs) (e : Ext w w') : VLasts w' v rs := by
  obtain ⟨C, h1, h2⟩ := h
  exact ⟨C, h1.ext e, h2⟩
theorem VState.ext {w w' : World} {v : Value} {S : DState} (h : VState w v S) (e : Ext w w') : VState w' v S := by
  obtain ⟨rv, tv, sv, lv, hv, h1, h2, h3, h4⟩ := h
  exact ⟨rv, tv, sv, lv, hv, h1.ext e, h2.ext e, h3.ext e, h4.ext e⟩

end Go.Proofs.Ytplgnohncdfgcam

namespace Go.Proofs.Ytplgnohncdfgcam
open Go.RowKit

theorem rv_rng {w : World} {v : Value} {xs : List Int} (h : RV w v xs) : ∀ x ∈ xs, 0 ≤ x ∧ x ≤ 255 := by
  obtain ⟨_, _, _, hr, _, _⟩ := h
  exact hr.rng

/-- The block g holds n elements of k cells; those ahead of m are F's. -/
def Blk (w : World) (g : Nat) (t : TypeId) (k n m : Nat) (F : Nat → Nat → Value) : Prop :=
  ∃ cur : Array Value, w.heap[g]? = some (.cells cur t (0, 0)) ∧ cur.size = n * k ∧ ∀ i, i < m → ∀ j, j < k → cur[i * k + j]? = some (F i j)

theorem blk_kept {w w' : World} {g : Nat} {t : TypeId} {k n m : Nat} {F : Nat → Nat → Value} (h : Blk w g t k n m F) (hb : w'.heap[g]? = w.heap[g]?) : Blk w' g t k n m F := by
  obtain ⟨cur, h1, h2, h3⟩ := h
  exact ⟨cur, hb.trans h1, h2, h3⟩
theorem blk_lt {w : World} {g : Nat} {t : TypeId} {k n m : Nat} {F : Nat → Nat → Value} (h : Blk w g t k n m F) : g < w.heap.size := by
  obtain ⟨cur, h1, _⟩ := h
  exact (Array.getElem?_eq_some_iff.1 h1).1
/-- A cell that is stored into. -/
theorem blk_cell {w : World} {g : Nat} {t : TypeId} {k n m : Nat} {F : Nat → Nat → Value} (h : Blk w g t k n m F) (x : Nat) (hx : x < n * k) : (∃ u, w.cell? ⟨g, x, none⟩ = some u) ∧ w.frozen? ⟨g, x, none⟩ = false := by
  obtain ⟨cur, h1, h2, _⟩ := h
  have := at_block h1 x cur[x] (Array.getElem?_eq_getElem (by omega))
  exact ⟨⟨_, this.1⟩, this.2⟩
theorem blk_set {w : World} {g : Nat} {t : TypeId} {k n m : Nat} {F : Nat → Nat → Value} (h : Blk w g t k n m F) (x : Nat) (hx : m * k ≤ x) (u : Value) : Blk (w.setCell ⟨g, x, none⟩ u) g t k n m F := by
  obtain ⟨cur, h1, h2, h3⟩ := h
  refine ⟨_, set_block h1 x u, by simp [h2], fun i hi j hj => ?_⟩
  rw [Array.getElem?_setIfInBounds, if_neg]
  · exact h3 i hi j hj
  · have : (i + 1) * k ≤ m * k := Nat.mul_le_mul_right k hi
    rw [Nat.succ_mul] at this
    omega
/-- The next element, all its cells stored: what is known of them cell by cell. -/
theorem blk_next {w : World} {g : Nat} {t : TypeId} {k n m : Nat} {F : Nat → Nat → Value} (h : Blk w g t k n m F) (G : Nat → Value) (hG : ∀ j, j < k → w.cell? ⟨g, m * k + j, none⟩ = some (G j)) : Blk w g t k n (m + 1) (fun i j => if i = m then G j else F i j) := by
  obtain ⟨cur, h1, h2, h3⟩ := h
  refine ⟨cur, h1, h2, fun i hi j hj => ?_⟩
  by_cases e : i = m
  · subst e
    simp only [if_pos]
    have := hG j hj
    rw [cell_of_row w g _ cur t (0, 0) h1] at this
    exact this
  · simp only [if_neg e]
    exact h3 i (by omega) j hj
/-- A whole block reads as a slice. -/
theorem blk_SL {w : World} {g : Nat} {t : TypeId} {k n : Nat} {F : Nat → Nat → Value} (h : Blk w g t k n n F) (hm : n ≤ maxLen) : SL w k (.slice (some ⟨g, 0, none⟩) n n) n F := by
  have hl := blk_lt h
  obtain ⟨cur, h1, h2, h3⟩ := h
  refine ⟨_, n, rfl, Nat.le_refl _, hm, fun _ => ⟨g, 0, rfl, hl, fun i hi j hj => ?_⟩⟩
  rw [Nat.zero_add, cell_of_row w g _ cur t (0, 0) h1]
  exact h3 i hi j hj
theorem blk_made {w : World} {g : Nat} {t : TypeId} {k n : Nat} {xs : List Value} {base : Nat} {F : Nat → Nat → Value} (h : w.ownsRow base t k (.slice (some ⟨g, 0, none⟩) n n) n xs) : Blk w g t k n 0 F := by
  rcases h.2 with ⟨h0, _⟩ | ⟨g', cap, cur, hv, _, hg, _, _, hs, _⟩
  · cases h0
  · simp only [Value.slice.injEq, Option.some.injEq, Addr.mk.injEq, and_true] at hv
    obtain ⟨rfl, _, rfl⟩ := hv
    exact ⟨cur, hg, hs, fun i hi => absurd hi (by omega)⟩

end Go.Proofs.Ytplgnohncdfgcam

namespace Go.Proofs.Ytplgnohncdfgcam

theorem sum_next {α : Type} (f : α → Nat) (rs : List α) (k : Nat) (r : α) (h : rs[k]? = some r) : ((rs.take (k + 1)).map f).sum = ((rs.take k).map f).sum + f r := by
  rw [List.take_add_one, h]
  simp
theorem sum_take {α : Type} (f : α → Nat) (rs : List α) (k : Nat) : ((rs.take k).map f).sum ≤ (rs.map f).sum := by
  have h : rs.map f = (rs.take k).map f ++ (rs.drop k).map f := by rw [← List.map_append, List.take_append_drop]
  rw [h, List.sum_append]
  omega
theorem sum_mem {α : Type} (f : α → Nat) (rs : List α) (k : Nat) (r : α) (h : rs[k]? = some r) : f r ≤ (rs.map f).sum := by
  have := sum_take f rs (k + 1)
  rw [sum_next f rs k r h] at this
  omega

/-- A proposition as a bool. -/
def tB (p : Prop) (h : Decidable p := Classical.propDecidable p) : Bool := @decide p h
theorem tB_true {p : Prop} (h : p) : tB p = true := by unfold tB; simpa using h
theorem tB_false {p : Prop} (h : ¬ p) : tB p = false := by unfold tB; simpa using h
theorem tB_iff {p : Prop} : tB p = true ↔ p := by unfold tB; simp
theorem tB_congr {p q : Prop} (h : p ↔ q) : tB p = tB q := by rw [propext h]

end Go.Proofs.Ytplgnohncdfgcam

namespace Go.Proofs.Ytplgnohncdfgcam
open Go.RowKit

/-- The slice v reads as the list xs, each shown by f in a cell of its own. -/
def VL {α : Type} (f : α → Value) (w : World) (v : Value) (xs : List α) : Prop :=
  ∃ a cap, v = .slice a xs.length cap ∧ xs.length ≤ cap ∧ cap ≤ maxLen ∧ (0 < xs.length → ∃ b o, a = some ⟨b, o, none⟩ ∧ b < w.heap.size ∧ ∀ (i : Nat) (x : α), xs[i]? = some x → w.cell? ⟨b, o + i, none⟩ = some (f x))
theorem VL.ext {α : Type} {f : α → Value} {w w' : World} {v : Value} {xs : List α} (h : VL f w v xs) (e : Ext w w') : VL f w' v xs := by
  obtain ⟨a, cap, hv, h1, h2, h3⟩ := h
  refine ⟨a, cap, hv, h1, h2, fun hn => ?_⟩
  obtain ⟨b, o, ha, hb, hc⟩ := h3 hn
  exact ⟨b, o, ha, Nat.lt_of_lt_of_le hb e.size, fun i x hx => World.grownBy.cell e (hc i x hx) (by simp)⟩
def fI (x : Int) : Value := .int .i64 x
def fB (x : Bool) : Value := .bool x
/-- A block that a call made holds just this list. -/
def OVL {α : Type} (f : α → Value) (t : TypeId) (w : World) (g : Nat) (xs : List α) : Prop := w.heap[g]? = some (.cells (xs.map f).toArray t (0, 0))
theorem OVL.v {α : Type} {f : α → Value} {t : TypeId} {w : World} {g : Nat} {xs : List α} (h : OVL f t w g xs) (hm : xs.length ≤ 1048576) : VL f w (.slice (some ⟨g, 0, none⟩) xs.length xs.length) xs := by
  refine ⟨_, xs.length, rfl, Nat.le_refl _, by unfold maxLen; omega, fun _ => ⟨g, 0, rfl, (Array.getElem?_eq_some_iff.1 h).1, fun i x hx => ?_⟩⟩
  rw [Nat.zero_add, cell_of_row w g _ _ t (0, 0) h]
  simp [hx]
theorem vl_shape {α : Type} {f : α → Value} {w : World} {v : Value} {xs : List α} (h : VL f w v xs) : ∃ a cap, v = .slice a xs.length cap := by
  obtain ⟨a, cap, rfl, _⟩ := h
  exact ⟨a, cap, rfl⟩
set_option maxHeartbeats 2000000 in
theorem eqL_I (v u : Value) (xs : List Int) (w : World) (h : VL fI w v xs) (k : VL fI w u xs) (hn : xs.length ≤ 1048576) :
    Calls Try.prog 33 #[v, u] w fun e w' => e = .returned (.bool true) ∧ ∃ q, w' = w.drewN q := by
  obtain ⟨a, cap, rfl, h1, h2, h3⟩ := h
  obtain ⟨a', cap', rfl, h1', h2', h3'⟩ := k
  obtain ⟨n, hnn⟩ : ∃ n, n = xs.length := ⟨_, rfl⟩
  rw [← hnn] at h1 h3 h1' h3' hn ⊢
  have HN : Hid (n = xs.length) := hnn
  clear hnn
  have H3 : Hid (0 < n → ∃ b o, a = some ⟨b, o, none⟩ ∧ b < w.heap.size ∧ ∀ (i : Nat) (x : Int), xs[i]? = some x → w.cell? ⟨b, o + i, none⟩ = some (fI x)) := h3
  have H3' : Hid (0 < n → ∃ b o, a' = some ⟨b, o, none⟩ ∧ b < w.heap.size ∧ ∀ (i : Nat) (x : Int), xs[i]? = some x → w.cell? ⟨b, o + i, none⟩ = some (fI x)) := h3'
  clear h3 h3'
  go_enter Try.func33, Try.ntmps33
  go_wp2
  go_loopw [5] (fun i wr => ∃ k q : Nat, k ≤ n ∧ i = .int .i64 k ∧ wr = w.drewN q) (fun i _ => n - (intOf i).toNat)
  case atStart => exact ⟨0, 0, Nat.zero_le _, rfl, rfl⟩
  case round =>
    obtain ⟨k, q, hk, rfl, rfl⟩ := hrel
    by_cases hlt : k < n
    · obtain ⟨b1, o1, rfl, hbl1, hc1⟩ := H3.out (by omega)
      obtain ⟨b2, o2, rfl, hbl2, hc2⟩ := H3'.out (by omega)
      obtain ⟨x, hx⟩ : ∃ x, xs[k]? = some x := ⟨_, List.getElem?_eq_getElem (by have := HN.out; omega)⟩
      have hck1 : w.cell? ⟨b1, o1 + k, none⟩ = some (.int .i64 x) := hc1 k x hx
      have hck2 : w.cell? ⟨b2, o2 + k, none⟩ = some (.int .i64 x) := hc2 k x hx
      have hlt' : (k : Int) < (n : Int) := by omega
      clear hc1 hc2
      go_wp2
      go_quiet (fail)
      go_wp2
      go_roundw
      case rel => exact ⟨k + 1, q + nq, by omega, by go_num, rfl⟩
      case measure => simp [intOf]; omega
    · have hkn : k = n := by omega
      subst hkn
      go_wp2
      go_ret
      exact ⟨rfl, _, rfl⟩

set_option maxHeartbeats 2000000 in
theorem eqL_B (v u : Value) (xs : List Bool) (w : World) (h : VL fB w v xs) (k : VL fB w u xs) (hn : xs.length ≤ 1048576) :
    Calls Try.prog 32 #[v, u] w fun e w' => e = .returned (.bool true) ∧ ∃ q, w' = w.drewN q := by
  obtain ⟨a, cap, rfl, h1, h2, h3⟩ := h
  obtain ⟨a', cap', rfl, h1', h2', h3'⟩ := k
  obtain ⟨n, hnn⟩ : ∃ n, n = xs.length := ⟨_, rfl⟩
  rw [← hnn] at h1 h3 h1' h3' hn ⊢
  have HN : Hid (n = xs.length) := hnn
  clear hnn
  have H3 : Hid (0 < n → ∃ b o, a = some ⟨b, o, none⟩ ∧ b < w.heap.size ∧ ∀ (i : Nat) (x : Bool), xs[i]? = some x → w.cell? ⟨b, o + i, none⟩ = some (fB x)) := h3
  have H3' : Hid (0 < n → ∃ b o, a' = some ⟨b, o, none⟩ ∧ b < w.heap.size ∧ ∀ (i : Nat) (x : Bool), xs[i]? = some x → w.cell? ⟨b, o + i, none⟩ = some (fB x)) := h3'
  clear h3 h3'
  go_enter Try.func32, Try.ntmps32
  go_wp2
  go_loopw [5] (fun i wr => ∃ k q : Nat, k ≤ n ∧ i = .int .i64 k ∧ wr = w.drewN q) (fun i _ => n - (intOf i).toNat)
  case atStart => exact ⟨0, 0, Nat.zero_le _, rfl, rfl⟩
  case round =>
    obtain ⟨k, q, hk, rfl, rfl⟩ := hrel
    by_cases hlt : k < n
    · obtain ⟨b1, o1, rfl, hbl1, hc1⟩ := H3.out (by omega)
      obtain ⟨b2, o2, rfl, hbl2, hc2⟩ := H3'.out (by omega)
      obtain ⟨x, hx⟩ : ∃ x, xs[k]? = some x := ⟨_, List.getElem?_eq_getElem (by have := HN.out; omega)⟩
      have hck1 : w.cell? ⟨b1, o1 + k, none⟩ = some (.bool x) := hc1 k x hx
      have hck2 : w.cell? ⟨b2, o2 + k, none⟩ = some (.bool x) := hc2 k x hx
      have hlt' : (k : Int) < (n : Int) := by omega
      clear hc1 hc2
      go_wp2
      go_quiet (fail)
      go_wp2
      go_roundw
      case rel => exact ⟨k + 1, q + nq, by omega, by go_num, rfl⟩
      case measure => simp [intOf]; omega
    · have hkn : k = n := by omega
      subst hkn
      go_wp2
      go_ret
      exact ⟨rfl, _, rfl⟩

end Go.Proofs.Ytplgnohncdfgcam
