
/- 'append(out, xs...)' of numbers, out the call's own. -/
import Derived.Test.YtmodliaieienfaaLiA
namespace Go.Proofs.Ytmodliaieienfaa
open Go.RowKit

theorem vl_news {w : World} {ad : Addr} {m c : Nat} {ys : List Int} (h : VL fI w (.slice (some ad) m c) ys) : m = ys.length ∧ ∀ (j : Nat) u, (ys.map fI)[j]? = some u → w.cell? (ad.add j) = some u := by
  obtain ⟨a', cap', e, h1, h2, h3⟩ := h
  simp only [Value.slice.injEq] at e
  obtain ⟨rfl, rfl, rfl⟩ := e
  refine ⟨rfl, fun j u hu => ?_⟩
  have hj := (List.getElem?_eq_some_iff.1 hu).1
  rw [List.length_map] at hj
  obtain ⟨b, o, e, hb, hc⟩ := h3 (by omega)
  simp only [Option.some.injEq] at e
  subst e
  rw [Addr.add_lit]
  rw [List.getElem?_map, List.getElem?_eq_getElem hj] at hu
  simp only [Option.map_some, Option.some.injEq] at hu
  rw [← hu]
  exact hc j _ (List.getElem?_eq_getElem hj)
theorem runNothingI (w : World) (base : Nat) (ty : TypeId) (v : Value) (n c : Nat) (xs : List Value) (hown : w.ownsRow base 3 1 v n xs) :
    (Builtin.append_ #[23, 23] ty #[v, .slice none 0 c]).run Try.prog w = .ok v w := by
  obtain ⟨i0, hi, hz0, hz1, hz2⟩ := info_parts info_3
  rcases hown.2 with ⟨rfl, rfl⟩ | ⟨g, cap, cur, rfl, _, _, hnc, _⟩
  · simp [Builtin.append_, run_underlying Try.underlying23, sizeOf, typeInfo, hi, Builtin.lenOf, Builtin.firstCells]
  · simp [Builtin.append_, run_underlying Try.underlying23, sizeOf, typeInfo, hi, Builtin.lenOf, Builtin.firstCells, hnc, storeCells]
theorem wpList_append_il (w : World) {ops : Array Oper} {rest : List Oper} {o : Oper} {a : Act} {Q : Exit → Act → World → Prop} (hgd : o.guard = none) (s x : Operand)
    (ho : o.op = .call { callee := .builtin .append, args := #[s, x], argTypes := #[23, 23] })
    (base : Nat) (v : Value) (xs : List Int) (hs : a.eval s = v) (hown : OwI w base v xs) (ao : Option Addr) (m c : Nat) (ys : List Int) (hx : a.eval x = .slice ao m c) (hy : VL fI w (.slice ao m c) ys)
    (hb : xs.length + ys.length ≤ 2097152) (hbase : base ≤ w.heap.size)
    (h : ∀ v' w', OwI w' base v' (xs ++ ys) → w.grownBy w' v.ownBlock → wpList Try.prog ops Q rest (a.put o.dst v') w') : wpList Try.prog ops Q (o :: rest) a w := by
  have key : ∃ v' w', (Builtin.append_ #[23, 23] o.type #[v, .slice ao m c]).run Try.prog w = .ok v' w' ∧ OwI w' base v' (xs ++ ys) ∧ w.grownBy w' v.ownBlock := by
    cases ao with
    | none =>
      obtain ⟨a', cap', e, h1, h2, h3⟩ := hy
      simp only [Value.slice.injEq] at e
      obtain ⟨e1, e2, e3⟩ := e
      have h0 : ys.length = 0 := by
        rcases Nat.eq_zero_or_pos ys.length with h' | h'
        · exact h'
        · obtain ⟨b, o', e', _⟩ := h3 h'
          rw [← e1] at e'
          cases e'
      have hnil := List.eq_nil_of_length_eq_zero h0
      subst hnil
      rw [e2, List.append_nil]
      exact ⟨v, w, runNothingI w base _ v _ c _ hown, hown, ⟨rfl, rfl, rfl, Nat.le_refl _, fun _ _ _ => rfl⟩⟩
    | some ad =>
      obtain ⟨i0, hi, hz0, hz1, hz2⟩ := info_parts info_3
      obtain ⟨rfl, hn⟩ := vl_news hy
      obtain ⟨v', w', hrun, r1, r2, _, r4⟩ := run_append_own_at (P := Try.prog) w base 23 o.type 3 i0 _ 1 8 Try.underlying23 hi hz0 hz1 hz2 rfl (by decide) v xs.length (xs.map fI) hown ad ys.length c (ys.map fI) (by simp) hn (by intro u hu; obtain ⟨z, _, rfl⟩ := List.mem_map.1 hu; rfl) (by unfold maxLen; omega) (by omega) hbase
      refine ⟨v', w', hrun, ?_, r2⟩
      unfold OwI
      rw [List.map_append, List.length_append]
      exact r1
  obtain ⟨v', w', hrun, r1, r2⟩ := key
  refine wpList_plain hgd fun K hK => ?_
  unfold Oper.wp execOp
  simp only [ho, resolve, invoke, builtin, Sem.run_bind, Sem.run_pure, Result.andThen_ok, List.map_toArray, List.map_cons, List.map_nil, hs, hx, hrun]
  exact hK _ _ (h v' w' r1 r2)

end Go.Proofs.Ytmodliaieienfaa
