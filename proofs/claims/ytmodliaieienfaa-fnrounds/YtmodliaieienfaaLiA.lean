
/- Numbers appended one by one to a row of the call's own. -/
import Derived.Test.YtmodliaieienfaaLiO
import Derived.Test.YtmodliaieienfaaRows
import Derived.Maps.AppendAt
namespace Go.Proofs.Ytmodliaieienfaa
open Go.RowKit

theorem info_3 : (Try.prog.info? 3).map (fun i => (i.zero, i.size, i.bytes)) = some (some (.int .i64 0), 1, 8) := by kernel_rfl
/-- 'append(out, x)' of numbers, out the call's own. -/
theorem wpList_append_i1 (w : World) {ops : Array Oper} {rest : List Oper} {o : Oper} {a : Act} {Q : Exit → Act → World → Prop} (hgd : o.guard = none) (s x : Operand)
    (ho : o.op = .call { callee := .builtin .append, args := #[s, x], argTypes := #[23, 23] })
    (base : Nat) (v : Value) (xs : List Int) (hs : a.eval s = v) (hown : OwI w base v xs) (g : Nat) (y : Int) (hx : a.eval x = .slice (some ⟨g, 0, none⟩) 1 1) (hc : w.cell? ⟨g, 0, none⟩ = some (.int .i64 y))
    (hb : xs.length ≤ 2097152) (hbase : base ≤ w.heap.size)
    (h : ∀ v' w', OwI w' base v' (xs ++ [y]) → w.grownBy w' v.ownBlock → wpList Try.prog ops Q rest (a.put o.dst v') w') : wpList Try.prog ops Q (o :: rest) a w := by
  obtain ⟨i0, hi, hz0, hz1, hz2⟩ := info_parts info_3
  obtain ⟨v', w', hrun, r1, r2, _, r4⟩ := run_append_own_at (P := Try.prog) w base 23 o.type 3 i0 _ 1 8 Try.underlying23 hi hz0 hz1 hz2 rfl (by decide) v xs.length (xs.map fI) hown ⟨g, 0, none⟩ 1 1 [.int .i64 y] rfl (fun j u hj => by
    have : j = 0 := by have := (List.getElem?_eq_some_iff.1 hj).1; simpa using this
    subst this
    simp only [List.getElem?_cons_zero, Option.some.injEq] at hj
    subst hj
    rw [Addr.add_lit]
    exact hc) (by simp [Value.oneCell']) (by unfold maxLen; omega) (by omega) hbase
  refine wpList_plain hgd fun K hK => ?_
  unfold Oper.wp execOp
  simp only [ho, resolve, invoke, builtin, Sem.run_bind, Sem.run_pure, Result.andThen_ok, List.map_toArray, List.map_cons, List.map_nil, hs, hx, hrun]
  refine hK _ _ (h v' w' ?_ r2)
  unfold OwI
  rw [List.map_append, List.length_append]
  exact r1
theorem OwI.base {w : World} {b b' : Nat} {v : Value} {xs : List Int} (o : OwI w b v xs) (hb : b' ≤ b) : OwI w b' v xs := by
  obtain ⟨hl, hh⟩ := o
  refine ⟨hl, ?_⟩
  rcases hh with hh | ⟨k, c, cur, hv, hb', hr⟩
  · exact .inl hh
  · exact .inr ⟨k, c, cur, hv, Nat.le_trans hb hb', hr⟩
theorem OwI.shape {w : World} {base : Nat} {v : Value} {xs : List Int} (o : OwI w base v xs) : ∃ a c, v = .slice a xs.length c := vl_shape o.vl

end Go.Proofs.Ytmodliaieienfaa
