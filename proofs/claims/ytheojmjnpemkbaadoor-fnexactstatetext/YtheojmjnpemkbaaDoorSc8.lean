/- Appends of texts to bytes that may bear a conversion's mark, and a row of one byte that stays as it was meanwhile. -/
import Derived.Test.YtheojmjnpemkbaaDoorSa8
namespace Go.Proofs.YtheojmjnpemkbaaDoor
open Go.RowKit

theorem append_strM {P : Program} (w : World) (base : Nat) (t u ty : TypeId) (hinfo : (P.info? 5).map (fun i => (i.zero, i.size, i.bytes)) = some (some (.int .u8 0), 1, 1)) (ht : P.underlying t = some (.slice 5)) (hu : P.underlying u = some .string)
    (v : Value) (xs nm : List Int) (hown : OwM w base v xs) (hx0 : 0 < xs.length) (s : ByteArray) (hnm : Lib.strCells s = B8 nm) (hb : xs.length + nm.length ≤ 4294967296) (hbase : base ≤ w.heap.size) :
    ∃ v' w', (Builtin.append_ #[t, u] ty #[v, .string s]).run P w = .ok v' w' ∧ OwM w' base v' (xs ++ nm) ∧ w.grownBy w' v.ownBlock ∧ Nb w v v' := by
  obtain ⟨i0, hi, hz0, hz1, hz2⟩ := info_parts hinfo
  have hss : s.size = nm.length := by
    have := congrArg List.length hnm
    rw [Lib.strCells_length] at this
    simpa using this
  have hnl : (B8 nm).length = s.size := by simp [hss]
  rcases hown with ⟨rfl, rfl⟩ | ⟨g, cap, cur, fz, rfl, hbg, hg, hf, hnc, hcm, hcs, htake⟩
  · simp at hx0
  · by_cases hroom : xs.length + s.size ≤ cap
    · have hst := store_free P g xs.length 5 (B8 nm) 0 cur fz w hg hf (by rw [hnl]; omega) (ints_oneCell _ _)
      have hfc := Lib.run_firstCells_string (P := P) w 1 s
      rw [hnm] at hfc
      simp only [Nat.add_zero] at hst
      refine ⟨.slice (some ⟨g, 0, none⟩) (xs.length + s.size) cap, w.setRow g (cur.toList.take xs.length ++ B8 nm ++ cur.toList.drop (xs.length + (B8 nm).length)).toArray, ?_, .inr ⟨g, cap, _, fz, by simp [hss], hbg, setRow_heap w g cur _ 5 _ hg, ?_, by simp; omega, hcm, ?_, ?_⟩, ⟨rfl, rfl, rfl, by simp, fun k _ hk => setRow_other w g k _ (fun e => hk (by simp [Value.ownBlock, e]))⟩, fun k hk => .inl hk⟩
      · simp [Builtin.append_, run_underlying ht, run_underlying hu, sizeOf, typeInfo, hi, hz1, Builtin.lenOf, hroom, hfc, Addr.add_lit, hst]
      · rcases hf with e | e
        · exact .inl e
        · right
          simp only [List.size_toArray, List.length_append, List.length_take, List.length_drop, Array.length_toList, hnl]
          omega
      · simp only [List.size_toArray, List.length_append, List.length_take, List.length_drop, Array.length_toList, hnl]
        omega
      · have e : (xs ++ nm).length = (B8 xs ++ B8 nm).length := by simp
        have e2 : B8 (xs ++ nm) = B8 xs ++ B8 nm := by simp
        rw [htake, e, e2]
        exact List.take_left
    · have holds : ∀ j u, (B8 xs)[j]? = some u → w.cell? ((⟨g, 0, none⟩ : Addr).add j) = some u := by
        intro j u hu
        have hj : j < xs.length := by
          have := (List.getElem?_eq_some_iff.1 hu).1
          simpa using this
        rw [Addr.add_lit, Nat.zero_add, OwM.cellAt (.inr ⟨g, cap, cur, fz, rfl, hbg, hg, hf, hnc, hcm, hcs, htake⟩) j hj]
        simpa [List.getD, hj] using hu
      have hrun := Lib.run_append_grow_string (P := P) w t u ty 5 i0 (.int .u8 0) ht hu hi hz0 ⟨g, 0, none⟩ xs.length cap (B8 xs) (by rw [hz1]; simp) holds s (by omega) (by omega) (by rw [hz2]; exact growslice_fits (by omega) (by omega))
      have hge := grownCap_ge w (xs.length + s.size) cap 5
      have hgm := grownCap_le_maxLen w (xs.length + s.size) cap 5 (by unfold maxLen; omega)
      refine ⟨_, _, hrun, .inr ⟨w.heap.size, _, _, (0, 0), by simp [hss], hbase, heap_alloc_new w.drew _, .inl rfl, by simp; omega, hgm, ?_, ?_⟩, ⟨rfl, rfl, rfl, by simp, fun k hk _ => heap_alloc_old w.drew _ hk⟩, fun k hk => .inr (by simp [Value.ownBlock] at hk; omega)⟩
      · have hz : (Value.int IntKind.u8 0).cells.size = 1 := rfl
        have hl2 : (Lib.strCells s).length = s.size := Lib.strCells_length s
        simp only [Array.size_append, List.size_toArray, size_zeroCells, hz, hl2, List.length_map]
        omega
      · have e : (xs ++ nm).length = (B8 xs ++ B8 nm).length := by simp
        have e2 : B8 (xs ++ nm) = B8 xs ++ B8 nm := by simp
        rw [e, e2, ← hnm]
        simp only [Array.toList_append]
        exact List.take_left

theorem step_strM {P : Program} {ops : Array Oper} {o : Oper} {a : Act} {w : World} {K : Act → World → Prop} {Q : Exit → Act → World → Prop} {E : Prop}
    (hg : o.guard = none) (sl x : Operand) (t u : TypeId) (ho : o.op = Op.call { callee := Callee.builtin Builtin.append, args := #[sl, x], argTypes := #[t, u] })
    (base : Nat) (hinfo : (P.info? 5).map (fun i => (i.zero, i.size, i.bytes)) = some (some (.int .u8 0), 1, 1)) (ht : P.underlying t = some (.slice 5)) (hu : P.underlying u = some .string)
    (v : Value) (xs nm : List Int) (hs : a.eval sl = v) (hown : OwM w base v xs) (hx0 : 0 < xs.length) (s : ByteArray) (hx : a.eval x = .string s) (hnm : Lib.strCells s = B8 nm)
    (hb : xs.length + nm.length ≤ 4294967296) (hbase : base ≤ w.heap.size)
    (h : ∀ v' w', OwM w' base v' (xs ++ nm) → w.grownBy w' v.ownBlock → Nb w v v' → K (a.put o.dst v') w') :
    if Region.wanted o (yielded ops a.tmps) = true then Oper.wp P o a w K Q else E := by
  have hw : Region.wanted o (yielded ops a.tmps) = true := by simp [Region.wanted, hg]
  rw [if_pos hw]
  obtain ⟨v', w', hrun, h1, h2, h3⟩ := append_strM (P := P) w base t u o.type hinfo ht hu v xs nm hown hx0 s hnm hb hbase
  unfold Oper.wp
  simp only [execOp, ho, resolve, invoke, builtin, Sem.run_bind, Sem.run_pure, Result.andThen_ok, List.map_toArray, List.map_cons, List.map_nil, hs, hx, hrun]
  exact h v' w' h1 h2 h3

theorem step_mN {P : Program} {ops : Array Oper} {o : Oper} {a : Act} {w : World} {K : Act → World → Prop} {Q : Exit → Act → World → Prop} {E : Prop}
    (hg : o.guard = none) (s x : Operand) (t : TypeId) (ho : o.op = Op.call { callee := Callee.builtin Builtin.append, args := #[s, x], argTypes := #[t, t] })
    (base : Nat) (hinfo : (P.info? 5).map (fun i => (i.zero, i.size, i.bytes)) = some (some (.int .u8 0), 1, 1)) (ht : P.underlying t = some (.slice 5))
    (v : Value) (xs : List Int) (hs : a.eval s = v) (hown : OwM w base v xs)
    (ao : Option Addr) (m c : Nat) (ys : List Int) (hx : a.eval x = .slice ao m c) (hr : Rd w ao m ys)
    (hb : xs.length + m ≤ 4294967296) (hbase : base ≤ w.heap.size)
    (h : ∀ v' w', OwM w' base v' (xs ++ ys) → w.grownBy w' v.ownBlock → Nb w v v' → K (a.put o.dst v') w') :
    if Region.wanted o (yielded ops a.tmps) = true then Oper.wp P o a w K Q else E := by
  have hw : Region.wanted o (yielded ops a.tmps) = true := by simp [Region.wanted, hg]
  rw [if_pos hw]
  obtain ⟨v', w', hrun, h1, h2, h3⟩ := append_m (P := P) w base t o.type hinfo ht v xs hown ao m c ys hr hb hbase
  unfold Oper.wp
  simp only [execOp, ho, resolve, invoke, builtin, Sem.run_bind, Sem.run_pure, Result.andThen_ok, List.map_toArray, List.map_cons, List.map_nil, hs, hx, hrun]
  exact h v' w' h1 h2 h3

/-- A row of one byte, 10, in block g; v lies elsewhere. -/
structure J10 (W : World) (v : Value) (g : Nat) : Prop where
  rd : Rd W (some ⟨g, 0, none⟩) 1 [10]
  ne : v.ownBlock ≠ some g

theorem J10.lt {W : World} {v : Value} {g : Nat} (h : J10 W v g) : g < W.heap.size := by
  obtain ⟨b, o, e, hb, _⟩ := h.rd.pos (by omega)
  simp only [Option.some.injEq, Addr.mk.injEq, and_true] at e
  obtain ⟨rfl, rfl⟩ := e
  exact hb
theorem J10.grow {W W' : World} {v v' : Value} {g : Nat} (h : J10 W v g) (hg : W.grownBy W' v.ownBlock) (n : Nb W v v') : J10 W' v' g := by
  have hlt := h.lt
  refine ⟨⟨h.rd.len, fun i hi => ?_, h.rd.rng⟩, fun e => ?_⟩
  · obtain ⟨b, o, e, hc⟩ := h.rd.cell i hi
    simp only [Option.some.injEq, Addr.mk.injEq, and_true] at e
    obtain ⟨rfl, rfl⟩ := e
    exact ⟨_, _, rfl, hg.cell hc (fun e => h.ne e.symm)⟩
  · rcases n g e with h1 | h1
    · exact h.ne h1
    · omega
theorem J10.ext {W W' : World} {v : Value} {g : Nat} (h : J10 W v g) (x : Ext W W') : J10 W' v g := ⟨h.rd.grown x, h.ne⟩
theorem j10_new {W : World} {B : Nat} {v : Value} {xs : List Int} (h : OwM W B v xs) : J10 (W.alloc (.cells #[.int .u8 10] 5)) v W.heap.size :=
  ⟨rd_one W 10 (by omega) (by omega), fun e => by have := (h.lt _ e).2; omega⟩

theorem wordNN {V w1 w3 : World} {bv v3 : Value} {xs ys : List Int} {B3 : Nat} (hr : ∀ x ∈ ys, 0 ≤ x ∧ x ≤ 255) (b : Below V.heap.size V w3) (ho : OwM w3 V.heap.size bv xs) (h0 : 0 < xs.length) (hl : xs.length ≤ 2147483) (o3 : Ow w1 B3 v3 ys) (x13 : Ext w1 w3) (hap : ∀ j, bv.ownBlock = some j → j < B3) (hy : ys.length ≤ 2147483) :
    Calls Tryd.prog 45 #[bv, v3] w3 fun e w' => ∃ v, e = .returned v ∧ OwM w' V.heap.size v (xs ++ 32 :: ys) ∧ Bk V.heap.size w3 w' ∧ w3.grownBy w' bv.ownBlock ∧ Nb w3 bv v := by
  refine (wordV V.heap.size bv v3 xs ys w3 ho b.size h0 (by omega) (fun _ g => ((o3.m.ext x13).kept g ?_).rv hr) (by omega)).mono ?_
  · cases e1 : v3.ownBlock with
    | none => exact .inl rfl
    | some j =>
      right
      intro e
      have h1 := hap j e.symm
      have h2 := (o3.lt j e1).1
      omega
  · rintro e w' ⟨v, rfl, o, g, n⟩
    exact ⟨v, rfl, o, (Bk.refl _ w3).grownM ho b.size g, g, n⟩

end Go.Proofs.YtheojmjnpemkbaaDoor
