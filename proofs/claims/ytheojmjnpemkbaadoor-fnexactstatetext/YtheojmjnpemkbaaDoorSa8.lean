/- Pieces of the specification's l8state: appends as steps of a region, words behind others with what they leave as it was. -/
import Derived.Test.YtheojmjnpemkbaaDoorQs8
import Derived.Test.YtheojmjnpemkbaaDoorDg8
import Derived.Test.YtheojmjnpemkbaaDoorBk8
import Derived.Test.YtheojmjnpemkbaaDoorOp0
import Derived.Lib.SmallJoins
namespace Go.Proofs.YtheojmjnpemkbaaDoor
open Go.RowKit

/-- 'append(out, ys...)' where out may bear a conversion's mark, as one step of a region that draws its order. -/
theorem step_append_m {P : Program} {ops : Array Oper} {o : Oper} {a : Act} {w : World} {K : Act → World → Prop} {Q : Exit → Act → World → Prop} {E : Prop}
    (hg : o.guard = none) (s x : Operand) (t : TypeId) (ho : o.op = Op.call { callee := Callee.builtin Builtin.append, args := #[s, x], argTypes := #[t, t] })
    (base : Nat) (hinfo : (P.info? 5).map (fun i => (i.zero, i.size, i.bytes)) = some (some (.int .u8 0), 1, 1)) (ht : P.underlying t = some (.slice 5))
    (v : Value) (xs : List Int) (hs : a.eval s = v) (hown : OwM w base v xs)
    (ao : Option Addr) (m c : Nat) (ys : List Int) (hx : a.eval x = .slice ao m c) (hr : Rd w ao m ys)
    (hb : xs.length + m ≤ 4294967296) (hbase : base ≤ w.heap.size)
    (h : ∀ v' w', OwM w' base v' (xs ++ ys) → w.grownBy w' v.ownBlock → K (a.put o.dst v') w') :
    if Region.wanted o (yielded ops a.tmps) = true then Oper.wp P o a w K Q else E := by
  have hw : Region.wanted o (yielded ops a.tmps) = true := by simp [Region.wanted, hg]
  rw [if_pos hw]
  obtain ⟨v', w', hrun, h1, h2, _⟩ := append_m (P := P) w base t o.type hinfo ht v xs hown ao m c ys hr hb hbase
  unfold Oper.wp
  simp only [execOp, ho, resolve, invoke, builtin, Sem.run_bind, Sem.run_pure, Result.andThen_ok, List.map_toArray, List.map_cons, List.map_nil, hs, hx, hrun]
  exact h v' w' h1 h2

/-- The same of a string. -/
theorem step_append_str {P : Program} {ops : Array Oper} {o : Oper} {a : Act} {w : World} {K : Act → World → Prop} {Q : Exit → Act → World → Prop} {E : Prop}
    (hg : o.guard = none) (sl x : Operand) (t u : TypeId) (ho : o.op = Op.call { callee := Callee.builtin Builtin.append, args := #[sl, x], argTypes := #[t, u] })
    (base : Nat) (hinfo : (P.info? 5).map (fun i => (i.zero, i.size, i.bytes)) = some (some (.int .u8 0), 1, 1)) (ht : P.underlying t = some (.slice 5)) (hu : P.underlying u = some .string)
    (v : Value) (xs nm : List Int) (hs : a.eval sl = v) (hown : Ow w base v xs) (s : ByteArray) (hx : a.eval x = .string s) (hnm : Lib.strCells s = B8 nm)
    (hb : xs.length + nm.length ≤ 4294967296) (hbase : base ≤ w.heap.size)
    (h : ∀ v' w', Ow w' base v' (xs ++ nm) → w.grownBy w' v.ownBlock → K (a.put o.dst v') w') :
    if Region.wanted o (yielded ops a.tmps) = true then Oper.wp P o a w K Q else E := by
  have hw : Region.wanted o (yielded ops a.tmps) = true := by simp [Region.wanted, hg]
  rw [if_pos hw]
  obtain ⟨i0, hi, hz0, hz1, hz2⟩ := info_parts hinfo
  have hss : s.size = nm.length := by
    have := congrArg List.length hnm
    rw [Lib.strCells_length] at this
    simpa using this
  obtain ⟨v', w', hrun, h1, h2, _⟩ := Lib.run_append_own_string (P := P) w base t u o.type 5 i0 ht hu hi hz0 hz1 hz2 v xs.length (B8 xs) hown s (by unfold maxLen; omega) (by omega) hbase
  unfold Oper.wp
  simp only [execOp, ho, resolve, invoke, builtin, Sem.run_bind, Sem.run_pure, Result.andThen_ok, List.map_toArray, List.map_cons, List.map_nil, hs, hx, hrun]
  refine h v' w' ?_ h2
  show w'.ownsRow base 5 1 v' (xs ++ nm).length (B8 (xs ++ nm))
  rw [show (xs ++ nm).length = xs.length + s.size by rw [hss]; simp, show B8 (xs ++ nm) = B8 xs ++ Lib.strCells s by rw [hnm]; simp]
  exact h1

theorem Bk.grownM {B : Nat} {a b c : World} {v : Value} {xs : List Int} (h : Bk B a b) (ho : OwM b B v xs) (hB : B ≤ b.heap.size) (hg : b.grownBy c v.ownBlock) : Bk B a c :=
  ⟨h.below.grown hg hB (fun k hk => (ho.lt k hk).1), h.kept.grown hg fun g hg => by
    rcases ho with ⟨rfl, _⟩ | ⟨g', cap, cur, fz, rfl, _, hc, _⟩
    · simp [Value.ownBlock] at hg
    · simp [Value.ownBlock] at hg
      subst hg
      exact ⟨cur, _, hc⟩⟩

/-- An old word behind others. -/
theorem wordO {V w : World} {bv kv : Value} {xs ky : List Int} (rk : RV V kv ky) (b : Below V.heap.size V w) (ho : OwM w V.heap.size bv xs) (h0 : 0 < xs.length) (hl : xs.length ≤ 2147483) (hk : ky.length ≤ 2147483) :
    Calls Tryd.prog 45 #[bv, kv] w fun e w' => ∃ v, e = .returned v ∧ OwM w' V.heap.size v (xs ++ 32 :: ky) ∧ Bk V.heap.size w w' := by
  refine (wordV V.heap.size bv kv xs ky w ho b.size h0 (by omega) (fun _ g => rk.ext (ext_below (m_below b (Nat.le_refl _) ho b.size g))) (by omega)).mono ?_
  rintro e w' ⟨v, rfl, o, g, _⟩
  exact ⟨v, rfl, o, (Bk.refl _ w).grownM ho b.size g⟩
/-- A new word behind others. -/
theorem wordN {V w1 w3 : World} {bv v3 : Value} {xs ys : List Int} (hr : ∀ x ∈ ys, 0 ≤ x ∧ x ≤ 255) (b : Below V.heap.size V w1) (ho : OwM w1 V.heap.size bv xs) (h0 : 0 < xs.length) (hl : xs.length ≤ 2147483) (o3 : Ow w3 w1.heap.size v3 ys) (b3 : Below w1.heap.size w1 w3) (hy : ys.length ≤ 2147483) :
    Calls Tryd.prog 45 #[bv, v3] w3 fun e w' => ∃ v, e = .returned v ∧ OwM w' V.heap.size v (xs ++ 32 :: ys) ∧ Bk V.heap.size w3 w' := by
  have c3 := b.trans (b3.mono b.size)
  have M3 := ho.ext (ext_below b3)
  refine (wordV V.heap.size bv v3 xs ys w3 M3 c3.size h0 (by omega) (fun _ g => (o3.m.kept g (m_apart' ho (Nat.le_refl _) o3.m)).rv hr) (by omega)).mono ?_
  rintro e w' ⟨v, rfl, o, g, _⟩
  exact ⟨v, rfl, o, (Bk.refl _ w3).grownM M3 c3.size g⟩

/-- A constant text as bytes. -/
theorem m_const (w : World) (xs : List Int) (cs : Array Value) (n : Nat) (hn : xs.length = n) (hcs : cs.toList = B8 xs) (hl : n ≤ 1000) : OwM (w.alloc (.cells cs 5 (cs.size, cs.size + 1))) w.heap.size (.slice (some ⟨w.heap.size, 0, none⟩) n n) xs := by
  have hsz : cs.size = n := by
    have := congrArg List.length hcs
    simp at this
    omega
  subst hn
  refine .inr ⟨w.heap.size, xs.length, cs, _, rfl, Nat.le_refl _, heap_alloc_new w _, .inr (Nat.le_refl _), Nat.le_refl _, by unfold maxLen; omega, hsz, ?_⟩
  rw [hcs]
  exact List.take_of_length_le (by simp)

end Go.Proofs.YtheojmjnpemkbaaDoor
