
/- Laws of append on bytes that a call owns, and plain mathematics of numbers as bytes. They hold over every program. -/
import Derived.Test.YtnklnhnjmikooaaGreatBase
import Derived.Lib.AppendZerosOnto
import Derived.Lib.AppendZeros
namespace Go.Proofs.YtnklnhnjmikooaaGreat
open Go.RowKit

/-- The value v owns the bytes xs, in a row from block 'base' on. -/
abbrev Ow (w : World) (base : Nat) (v : Value) (xs : List Int) : Prop := w.ownsRow base 5 1 v xs.length (B8 xs)

theorem Ow.rd {w : World} {base : Nat} {v : Value} {xs : List Int} (h : Ow w base v xs) (hr : ∀ x ∈ xs, 0 ≤ x ∧ x ≤ 255) : ∃ a cap, v = .slice a xs.length cap ∧ Rd w a xs.length xs := by
  obtain ⟨a, cap, hv, hrd, _⟩ := own_rd h hr
  exact ⟨a, cap, hv, hrd⟩

theorem run_append_nothing {P : Program} (w : World) (base : Nat) (t ty : TypeId) (i : TypeInfo) (ht : P.underlying t = some (.slice 5)) (hi : P.info? 5 = some i)
    (v : Value) (n c : Nat) (xs : List Value) (hown : w.ownsRow base 5 1 v n xs) :
    (Builtin.append_ #[t, t] ty #[v, .slice none 0 c]).run P w = .ok v w := by
  rcases hown.2 with ⟨rfl, rfl⟩ | ⟨g, cap, cur, rfl, _, _, hnc, _⟩
  · simp [Builtin.append_, run_underlying ht, sizeOf, typeInfo, hi, Builtin.lenOf, Builtin.firstCells]
  · simp [Builtin.append_, run_underlying ht, sizeOf, typeInfo, hi, Builtin.lenOf, Builtin.firstCells, hnc, storeCells]

/-- 'append(out, ys...)', out the call's own, ys whatever slice of bytes. -/
theorem wpList_append_bytes {P : Program} (w : World) {ops : Array Oper} {rest : List Oper} {o : Oper} {a : Act} {Q : Exit → Act → World → Prop} (hgd : o.guard = none) (s x : Operand) (t : TypeId)
    (ho : o.op = .call { callee := .builtin .append, args := #[s, x], argTypes := #[t, t] })
    (base : Nat) (hinfo : (P.info? 5).map (fun i => (i.zero, i.size, i.bytes)) = some (some (.int .u8 0), 1, 1)) (ht : P.underlying t = some (.slice 5))
    (v : Value) (xs : List Int) (hs : a.eval s = v) (hown : Ow w base v xs)
    (ao : Option Addr) (m c : Nat) (ys : List Int) (hx : a.eval x = .slice ao m c) (hr : Rd w ao m ys)
    (hb : xs.length + m ≤ 4294967296) (hbase : base ≤ w.heap.size)
    (h : ∀ v' w', Ow w' base v' (xs ++ ys) → w.grownBy w' v.ownBlock → wpList P ops Q rest (a.put o.dst v') w') : wpList P ops Q (o :: rest) a w := by
  obtain ⟨i0, hi, hz0, hz1, hz2⟩ := info_parts hinfo
  have hl := hr.len
  cases ao with
  | none =>
    have hm : m = 0 := by
      rcases Nat.eq_zero_or_pos m with h0 | h0
      · exact h0
      · obtain ⟨b, o, e, _⟩ := hr.pos h0
        cases e
    subst hm
    obtain rfl : ys = [] := List.eq_nil_of_length_eq_zero hl
    refine wpList_plain hgd fun K hK => ?_
    have hrun := run_append_nothing (P := P) w base t o.type i0 ht hi v xs.length c (B8 xs) hown
    unfold Oper.wp
    simp only [execOp, ho, resolve, invoke, builtin, Sem.run_bind, Sem.run_pure, Result.andThen_ok, List.map_toArray, List.map_cons, List.map_nil, hs, hx, hrun]
    exact hK _ _ (h v w (by simpa using hown) (World.grownBy.refl _ _))
  | some ad =>
    have hnews : ∀ j u, (B8 ys)[j]? = some u → w.cell? (ad.add j) = some u := by
      intro j u hu
      have hj : j < ys.length := by
        have := (List.getElem?_eq_some_iff.1 hu).1
        simpa using this
      obtain ⟨b, o', e, hbl, hc⟩ := hr.pos (by omega)
      simp only [Option.some.injEq] at e
      subst e
      rw [Addr.add_lit, hc j (by omega)]
      simpa [List.getD, hj] using hu
    have hlen : (xs ++ ys).length = xs.length + m := by simp [hl]
    refine wpList_append_own (P := P) w hgd s x t ho base 5 i0 (.int .u8 0) 1 1 ht hi hz0 hz1 hz2 rfl (by decide) v xs.length (B8 xs) hs hown ad m c (B8 ys) hx (by simp [hl]) hnews
      (ints_oneCell _ _) (by unfold maxLen; omega) (by omega) hbase (fun v' w' h1 h2 _ => h v' w' ?_ h2)
    show w'.ownsRow base 5 1 v' (xs ++ ys).length (B8 (xs ++ ys))
    rw [hlen, B8, List.map_append]
    exact h1

theorem rd_one (w : World) (x : Int) (h0 : 0 ≤ x) (h1 : x ≤ 255) : Rd (w.alloc (.cells #[.int .u8 x] 5)) (some ⟨w.heap.size, 0, none⟩) 1 [x] :=
  ⟨rfl, fun i hi => ⟨w.heap.size, 0, rfl, by
    obtain rfl : i = 0 := by omega
    simp⟩, fun y hy => by
    simp only [List.mem_cons, List.not_mem_nil, or_false] at hy
    subst hy
    exact ⟨h0, h1⟩⟩

theorem ow_empty (w : World) : Ow (w.alloc (.cells #[] 5)) w.heap.size (.slice (some ⟨w.heap.size, 0, none⟩) 0 0) [] :=
  World.ownsRow_lit w #[] 0 (Nat.le_refl _) (Nat.zero_le _) rfl

theorem below_own {base : Nat} {w0 w w' : World} {v : Value} {xs : List Int} (hb : Below base w0 w) (hB : base ≤ w.heap.size) (ho : Ow w base v xs) (hg : w.grownBy w' v.ownBlock) : Below base w0 w' :=
  hb.grown hg hB (fun k hk => (ho.lt k hk).1)

theorem ow_base {w : World} {base base' : Nat} {v : Value} {xs : List Int} (h : Ow w base v xs) (hb : base' ≤ base) : Ow w base' v xs := by
  refine ⟨h.1, ?_⟩
  rcases h.2 with h2 | ⟨g, cap, cur, hv, hg, r⟩
  · exact .inl h2
  · exact .inr ⟨g, cap, cur, hv, Nat.le_trans hb hg, r⟩

/-- The bytes of a number: seven bits a byte, the lowest first; f bounds how many follow the first. -/
def encF : Nat → Int → List Int
  | 0, n => [n]
  | f + 1, n => if 127 < n then (n % 128 + 128) :: encF f (n / 128) else [n]

/-- The bytes of n, none where n is no number. -/
def numL (n : Int) : List Int := if 0 ≤ n ∧ n ≤ 2147483647 then encF 4 n else []

def pow128 : Nat → Int
  | 0 => 128
  | f + 1 => 128 * pow128 f

theorem encF_rng (f : Nat) (n : Int) (h0 : 0 ≤ n) (h1 : n < pow128 f) : ∀ x ∈ encF f n, 0 ≤ x ∧ x ≤ 255 := by
  induction f generalizing n with
  | zero =>
    intro x hx
    simp only [encF, List.mem_cons, List.not_mem_nil, or_false] at hx
    subst hx
    simp only [pow128] at h1
    omega
  | succ f ih =>
    intro x hx
    unfold encF at hx
    by_cases h : 127 < n
    · rw [if_pos h] at hx
      rcases List.mem_cons.1 hx with rfl | hx
      · omega
      · exact ih (n / 128) (by omega) (by simp only [pow128] at h1; omega) x hx
    · rw [if_neg h] at hx
      simp only [List.mem_cons, List.not_mem_nil, or_false] at hx
      subst hx
      omega

theorem encF_len (f : Nat) (n : Int) : 1 ≤ (encF f n).length ∧ (encF f n).length ≤ f + 1 := by
  induction f generalizing n with
  | zero => simp [encF]
  | succ f ih =>
    unfold encF
    split
    · have := ih (n / 128)
      simp only [List.length_cons]
      omega
    · simp

theorem numL_rng (n : Int) : ∀ x ∈ numL n, 0 ≤ x ∧ x ≤ 255 := by
  unfold numL
  split
  · rename_i h
    exact encF_rng 4 n h.1 (by simp only [pow128]; omega)
  · intro x hx; cases hx

theorem numL_len (n : Int) : (numL n).length ≤ 5 := by
  unfold numL
  split
  · exact (encF_len 4 n).2
  · simp

/-- The bytes of a text behind others: its length's, and its own; none where it is too long. -/
def textL (xs ys : List Int) : List Int := if ys.length ≤ 20 then xs ++ numL ys.length ++ ys else xs

theorem textL_rng {xs ys : List Int} (h : ∀ x ∈ xs, 0 ≤ x ∧ x ≤ 255) (k : ∀ x ∈ ys, 0 ≤ x ∧ x ≤ 255) : ∀ x ∈ textL xs ys, 0 ≤ x ∧ x ≤ 255 := by
  unfold textL
  split
  · intro x hx
    rcases List.mem_append.1 hx with hx | hx
    · rcases List.mem_append.1 hx with hx | hx
      · exact h x hx
      · exact numL_rng _ x hx
    · exact k x hx
  · exact h
theorem textL_len (xs ys : List Int) : (textL xs ys).length ≤ xs.length + 25 := by
  unfold textL
  split
  · have := numL_len (ys.length : Int)
    simp only [List.length_append]
    omega
  · omega

end Go.Proofs.YtnklnhnjmikooaaGreat
