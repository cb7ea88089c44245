/- An append of bytes as one step of a region that draws its order. It holds over every program. -/
import Derived.Test.YtdeogmkcomdbjaaVal0
import Derived.Deep.RegionLaw
namespace Go.Proofs.Ytdeogmkcomdbjaa
open Go.RowKit

/-- 'append(out, ys...)' of bytes, as one step of a region that draws its order. -/
theorem step_append_bytes {P : Program} {ops : Array Oper} {o : Oper} {a : Act} {w : World} {K : Act → World → Prop} {Q : Exit → Act → World → Prop} {E : Prop}
    (hg : o.guard = none) (s x : Operand) (t : TypeId) (ho : o.op = Op.call { callee := Callee.builtin Builtin.append, args := #[s, x], argTypes := #[t, t] })
    (base : Nat) (hinfo : (P.info? 5).map (fun i => (i.zero, i.size, i.bytes)) = some (some (.int .u8 0), 1, 1)) (ht : P.underlying t = some (.slice 5))
    (v : Value) (xs : List Int) (hs : a.eval s = v) (hown : Ow w base v xs)
    (ao : Option Addr) (m c : Nat) (ys : List Int) (hx : a.eval x = .slice ao m c) (hr : Rd w ao m ys)
    (hb : xs.length + m ≤ 4294967296) (hbase : base ≤ w.heap.size)
    (h : ∀ v' w', Ow w' base v' (xs ++ ys) → w.grownBy w' v.ownBlock → K (a.put o.dst v') w') :
    if Region.wanted o (yielded ops a.tmps) = true then Oper.wp P o a w K Q else E := by
  have hw : Region.wanted o (yielded ops a.tmps) = true := by simp [Region.wanted, hg]
  rw [if_pos hw]
  obtain ⟨i0, hi, hz0, hz1, hz2⟩ := info_parts hinfo
  have hl := hr.len
  cases ao with
  | none =>
    have hm : m = 0 := by
      rcases Nat.eq_zero_or_pos m with h0 | h0
      · exact h0
      · obtain ⟨b, o, e, _⟩ := hr.pos h0
        cases e
    subst hm
    obtain rfl : ys = [] := List.eq_nil_of_length_eq_zero hl
    have hrun := run_append_nothing (P := P) w base t o.type i0 ht hi v xs.length c (B8 xs) hown
    unfold Oper.wp
    simp only [execOp, ho, resolve, invoke, builtin, Sem.run_bind, Sem.run_pure, Result.andThen_ok, List.map_toArray, List.map_cons, List.map_nil, hs, hx, hrun]
    exact h v w (by simpa using hown) (World.grownBy.refl _ _)
  | some ad =>
    have hnews : ∀ j u, (B8 ys)[j]? = some u → w.cell? (ad.add j) = some u := by
      intro j u hu
      have hj : j < ys.length := by
        have := (List.getElem?_eq_some_iff.1 hu).1
        simpa using this
      obtain ⟨b, o', e, hbl, hc⟩ := hr.pos (by omega)
      simp only [Option.some.injEq] at e
      subst e
      rw [Addr.add_lit, hc j (by omega)]
      simpa [List.getD, hj] using hu
    have hlen : (xs ++ ys).length = xs.length + m := by simp [hl]
    refine wp_append_own (P := P) w s x t ho base 5 i0 (.int .u8 0) 1 1 ht hi hz0 hz1 hz2 rfl (by decide) v xs.length (B8 xs) hs hown ad m c (B8 ys) hx (by simp [hl]) hnews
      (ints_oneCell _ _) (by unfold maxLen; omega) (by omega) hbase (fun v' w' h1 h2 _ => h v' w' ?_ h2)
    show w'.ownsRow base 5 1 v' (xs ++ ys).length (B8 (xs ++ ys))
    rw [hlen, B8, List.map_append]
    exact h1

end Go.Proofs.Ytdeogmkcomdbjaa
