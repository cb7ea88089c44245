/- Arguments opened: a tree that came in reads as data. -/
import Derived.Test.YtdeogmkcomdbjaaOpenS
import Derived.Test.YtdeogmkcomdbjaaOpen0
import Derived.Test.YtdeogmkcomdbjaaTe2
namespace Go.Proofs.Ytdeogmkcomdbjaa
open Go.ChangeShapes Go.WideShapes Go.ChangeAt Go.RowKit Go.Joins

section
variable {H : Type} {enc : TypeId × Value → H} {W : World}

set_option maxRecDepth 100000 in
/-- A slice of structs of four cells: its cells, element by element, each read with less fuel. -/
theorem sl4_of_trod {t e : TypeId} {fuel : Nat} {v : Value} {y : DataW H × List MemPlace} (ht : Try.prog.underlying t = some (.slice e)) (hc : Try.prog.cellsOf e = 4)
    (h : DataW.trod enc Try.prog W 0 (fun _ => true) true fuel t [v] = some y) :
    ∃ (n : Nat) (C : Nat → Nat → Value), SL W 4 v n C ∧ ∀ i, i < n → ∃ (m : Nat) (z : DataW H × List MemPlace), m < fuel ∧ DataW.trod enc Try.prog W 0 (fun _ => true) true m e [C i 0, C i 1, C i 2, C i 3] = some z := by
  rcases DataW.trod_slice ht h with ⟨hcs, _⟩ | ⟨a, len, cap, elems, rest, n, hfu, hcs, _, _, hl, hm, hlen, hel, _, _⟩
  · simp only [List.cons.injEq, and_true] at hcs
    subst hcs
    exact ⟨0, fun _ _ => .int .i64 0, ⟨none, 0, rfl, Nat.le_refl _, Nat.zero_le _, fun h => absurd h (by omega)⟩, fun i hi => absurd hi (by omega)⟩
  · simp only [List.cons.injEq, and_true] at hcs
    subst hcs
    rw [hc] at hel
    have hex : ∀ i, i < len → ∃ cs' : List Value, W.cells? 0 (a.add (i * 4)) 4 = some cs' ∧ ∃ z, DataW.trod enc Try.prog W 0 (fun _ => true) true n e cs' = some z := fun i hi => by
      have := hel i hi
      rw [List.getElem?_eq_getElem (by omega)] at this
      obtain ⟨cs', h1, h2⟩ := Option.bind_eq_some_iff.1 this
      exact ⟨cs', h1, _, h2⟩
    obtain ⟨cs, hcsl, hcs⟩ := list_of len hex
    have hget : ∀ i, i < len → ∃ c, cs[i]? = some c := fun i hi => ⟨_, List.getElem?_eq_getElem (by omega)⟩
    refine ⟨len, fun i j => ((cs.getD i []).getD j (.int .i64 0)), ⟨some a, cap, rfl, hl, hm, fun hpos => ?_⟩, fun i hi => ?_⟩
    · obtain ⟨c, hcc⟩ := hget 0 hpos
      obtain ⟨h1, _⟩ := hcs 0 c hcc
      obtain ⟨_, hln, hce⟩ := World.cells?_some h1
      obtain ⟨b, off, spot⟩ := a
      have hc0 := hce 0 (by omega)
      have hsome : W.cell? ((Addr.add ⟨b, off, spot⟩ (0 * 4)).add 0) = some (c[0]'(by omega)) := by rw [hc0, List.getElem?_eq_getElem (by omega)]
      have hspot : spot = none := by simpa [Addr.add] using World.cell?_spot hsome
      subst hspot
      have hbl := World.block_lt_of_cell? W _ hsome
      rw [Addr.add_lit, Addr.add_lit] at hbl
      refine ⟨b, off, rfl, hbl, fun i hi j hj => ?_⟩
      obtain ⟨c', hcc'⟩ := hget i hi
      obtain ⟨h1', _⟩ := hcs i c' hcc'
      obtain ⟨_, hln', hce'⟩ := World.cells?_some h1'
      have := hce' j hj
      rw [Addr.add_lit, Addr.add_lit] at this
      rw [this, List.getElem?_eq_getElem (by omega)]
      simp [List.getD, hcc', List.getElem?_eq_getElem (show j < c'.length by omega)]
    · obtain ⟨c', hcc'⟩ := hget i hi
      obtain ⟨h1', z, h2'⟩ := hcs i c' hcc'
      obtain ⟨_, hln', _⟩ := World.cells?_some h1'
      refine ⟨n, z, by omega, ?_⟩
      have hce : [((cs.getD i []).getD 0 (Value.int .i64 0)), ((cs.getD i []).getD 1 (Value.int .i64 0)), ((cs.getD i []).getD 2 (Value.int .i64 0)), ((cs.getD i []).getD 3 (Value.int .i64 0))] = c' := by
        match c', hln', hcc' with
        | [a0, a1, a2, a3], _, hcc' => simp [List.getD, hcc']
      rw [hce]
      exact h2'

/-- The same tree, of a greater height. -/
def upT : (d : Nat) → DTree d → DTree (d + 1)
  | 0, _ => ([], false, 0, 0, fun _ => ())
  | d + 1, (e, h, x, n, kid) => (e, h, x, n, fun i => upT d (kid i))
theorem upT_v {W : World} : ∀ (d : Nat) (t : DTree d) (v : Value), VTreeD W d t v → VTreeD W (d + 1) (upT d t) v
  | 0, _, _, ht => False.elim ht
  | d + 1, (e, h, x, n, kid), v, ht => by
    obtain ⟨ev, kv, hv, h1, C, h2, h3⟩ := ht
    exact ⟨ev, kv, hv, h1, C, h2, fun i hi => upT_v d (kid i) _ (h3 i hi)⟩
theorem up_le {W : World} {v : Value} {m : Nat} (t : DTree m) (h : VTree W t v) : ∀ (M : Nat), m ≤ M → ∃ t' : DTree M, VTree W t' v
  | 0, hm => by
    obtain rfl : m = 0 := by omega
    exact ⟨t, h⟩
  | M + 1, hm => by
    by_cases e : m = M + 1
    · subst e
      exact ⟨t, h⟩
    · obtain ⟨t', h'⟩ := up_le t h M (by omega)
      exact ⟨upT M t', upT_v M t' v h'⟩
theorem kids_of {M : Nat} {p : Nat → DTree M → Prop} (z : DTree M) (n : Nat) (h : ∀ i, i < n → ∃ t, p i t) : ∃ kid : Nat → DTree M, ∀ i, i < n → p i (kid i) := by
  obtain ⟨ts, hl, ht⟩ := list_of n h
  refine ⟨fun i => ts.getD i z, fun i hi => ?_⟩
  have : ts[i]? = some ts[i] := List.getElem?_eq_getElem (by omega)
  have h2 := ht i _ this
  simpa [List.getD, this] using h2
def zT : (d : Nat) → DTree d
  | 0 => ()
  | d + 1 => ([], false, 0, 0, fun _ => zT d)

set_option maxRecDepth 100000 in
theorem tree_of_trod : ∀ (fuel : Nat) (c0 c1 c2 c3 : Value) (y : DataW H × List MemPlace), DataW.trod enc Try.prog W 0 (fun _ => true) true fuel 25 [c0, c1, c2, c3] = some y → ∃ t : DTree (fuel + 1), VTree W t (.agg #[c0, c1, c2, c3]) := by
  intro fuel
  induction fuel using Nat.strongRecOn with
  | _ fuel ih =>
    intro c0 c1 c2 c3 y h
    obtain ⟨xs, n', hn', _, _, hxl, hx⟩ := DataW.trod_struct Try.underlying25 h
    match xs, hxl with
    | [y0, y1, y2, y3], _ =>
      have h0 : DataW.trod enc Try.prog W 0 (fun _ => true) true n' 22 [c0] = some y0 := hx 0 _ rfl
      have h1 : DataW.trod enc Try.prog W 0 (fun _ => true) true n' 4 [c1] = some y1 := hx 1 _ rfl
      have h2 : DataW.trod enc Try.prog W 0 (fun _ => true) true n' 3 [c2] = some y2 := hx 2 _ rfl
      have h3 : DataW.trod enc Try.prog W 0 (fun _ => true) true n' 23 [c3] = some y3 := hx 3 _ rfl
      obtain ⟨ed, re, _⟩ := rv_of_trod h0
      obtain ⟨b, rfl⟩ := bool_of_trod h1
      obtain ⟨q, rfl, _, _⟩ := int_of_trod h2
      obtain ⟨n, C, hS, hK⟩ := sl4_of_trod Try.underlying23 (by kernel_rfl) h3
      obtain ⟨kid, hkid⟩ := kids_of (M := fuel) (p := fun i t => VTree W t (.agg #[C i 0, C i 1, C i 2, C i 3])) (zT fuel) n (fun i hi => by
        obtain ⟨m, z, hm, hz⟩ := hK i hi
        obtain ⟨t, ht⟩ := ih m (by omega) _ _ _ _ z hz
        exact up_le t ht fuel (by omega))
      exact ⟨DTree.node ed b q n kid, VTree.mk re ⟨C, hS, hkid⟩⟩
end

theorem array4 {cs : Array Value} (h : cs.size = 4) : ∃ a b c d, cs = #[a, b, c, d] := by
  obtain ⟨l⟩ := cs
  match l, h with
  | [a, b, c, d], _ => exact ⟨a, b, c, d, rfl⟩

set_option maxRecDepth 100000 in
theorem open_Tree {H : Type} {enc : TypeId × Value → H} {W : World} {r : Reach} {b0 : Nat} {v : Value} {d : DataW H} {p : List MemPlace}
    (hv : Value.okWide Try.prog W r b0 25 v) (h : DataW.Trod enc Try.prog W 0 (fun _ => true) true 25 v d p) : ∃ T : (d : Nat) × DTree d, VTree W T.2 v := by
  obtain ⟨cs, rfl, hsz⟩ := okWide_struct Try.underlying25 hv
  have h4 : Try.prog.cellsOf 25 = 4 := by kernel_rfl
  obtain ⟨c0, c1, c2, c3, rfl⟩ := array4 (hsz.trans h4)
  obtain ⟨fuel, hf⟩ := h
  obtain ⟨t, ht⟩ := tree_of_trod fuel c0 c1 c2 c3 _ hf
  exact ⟨⟨_, t⟩, ht⟩

end Go.Proofs.Ytdeogmkcomdbjaa
