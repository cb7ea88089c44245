
/- Bytes that a call owns in a row behind whose end the mark of a conversion may lie: how they read, and what an append to them leaves. It holds over every program. -/
import Derived.Test.YtjkhadaoldbceaaVal0
import Derived.Lib.ConvBytes
import Derived.Lib.FrozenHead
namespace Go.Proofs.Ytjkhadaoldbceaa
open Go.RowKit

/-- No cell of the row is frozen: its range is empty, or lies behind its end. -/
abbrev Free (cur : Array Value) (fz : Nat × Nat) : Prop := fz = (0, 0) ∨ cur.size ≤ fz.1

/-- The value v owns the bytes xs, in a row of which no cell is frozen. -/
def OwM (w : World) (base : Nat) (v : Value) (xs : List Int) : Prop :=
  (v = .slice none 0 0 ∧ xs = []) ∨
   ∃ g cap cur fz, v = .slice (some ⟨g, 0, none⟩) xs.length cap ∧ base ≤ g ∧ w.heap[g]? = some (.cells cur 5 fz) ∧ Free cur fz ∧ xs.length ≤ cap ∧ cap ≤ maxLen ∧ cur.size = cap ∧ cur.toList.take xs.length = B8 xs

theorem Ow.m {w : World} {base : Nat} {v : Value} {xs : List Int} (h : Ow w base v xs) : OwM w base v xs := by
  rcases h.2 with ⟨rfl, h0⟩ | ⟨g, cap, cur, rfl, hb, hg, hnc, hcm, hcs, htake⟩
  · exact .inl ⟨rfl, List.eq_nil_of_length_eq_zero h0⟩
  · exact .inr ⟨g, cap, cur, (0, 0), rfl, hb, hg, .inl rfl, hnc, hcm, by simpa using hcs, by simpa using htake⟩

theorem free_at {w : World} {g j : Nat} {cur : Array Value} {t : TypeId} {fz : Nat × Nat} (h : w.heap[g]? = some (.cells cur t fz)) (hf : Free cur fz) (hj : j < cur.size) : w.frozen? ⟨g, j, none⟩ = false := by
  obtain ⟨lo, hi⟩ := fz
  simp only [World.frozen?, h, Bool.and_eq_false_iff, decide_eq_false_iff_not]
  rcases hf with e | e
  · simp only [Prod.mk.injEq] at e
    omega
  · simp only at e
    omega

theorem OwM.lt {w : World} {base : Nat} {v : Value} {xs : List Int} (h : OwM w base v xs) : ∀ k, v.ownBlock = some k → base ≤ k ∧ k < w.heap.size := by
  intro k hk
  rcases h with ⟨rfl, _⟩ | ⟨g, cap, cur, fz, rfl, hb, hg, _⟩
  · simp [Value.ownBlock] at hk
  · simp [Value.ownBlock] at hk
    subst hk
    exact ⟨hb, (Array.getElem?_eq_some_iff.1 hg).1⟩

theorem OwM.kept {w w' : World} {base : Nat} {v : Value} {xs : List Int} {row : Option Nat} (h : OwM w base v xs) (hg : w.grownBy w' row) (hne : v.ownBlock = none ∨ v.ownBlock ≠ row) : OwM w' base v xs := by
  rcases h with h | ⟨g, cap, cur, fz, rfl, hb, hgg, r⟩
  · exact .inl h
  · refine .inr ⟨g, cap, cur, fz, rfl, hb, ?_, r⟩
    rw [hg.block g (Array.getElem?_eq_some_iff.1 hgg).1 (by simpa [Value.ownBlock] using hne)]
    exact hgg
theorem OwM.ext {w w' : World} {base : Nat} {v : Value} {xs : List Int} (h : OwM w base v xs) (k : Ext w w') : OwM w' base v xs :=
  h.kept k (by cases hv : v.ownBlock <;> simp)
theorem OwM.base {w : World} {base base' : Nat} {v : Value} {xs : List Int} (h : OwM w base v xs) (hb : base' ≤ base) : OwM w base' v xs := by
  rcases h with h | ⟨g, cap, cur, fz, e, hg, r⟩
  · exact .inl h
  · exact .inr ⟨g, cap, cur, fz, e, Nat.le_trans hb hg, r⟩

theorem OwM.cellAt {w : World} {base g cap n : Nat} {xs : List Int} (h : OwM w base (.slice (some ⟨g, 0, none⟩) n cap) xs) (i : Nat) (hi : i < xs.length) : w.cell? ⟨g, i, none⟩ = some (.int .u8 (xs.getD i 0)) := by
  rcases h with ⟨e, _⟩ | ⟨g', cap', cur, fz, e, _, hg, _, _, _, _, ht⟩
  · cases e
  · simp only [Value.slice.injEq, Option.some.injEq, Addr.mk.injEq, and_true] at e
    obtain ⟨rfl, _, _⟩ := e
    rw [cell_of_row w g i cur 5 fz hg]
    have h1 : (cur.toList.take xs.length)[i]? = (B8 xs)[i]? := by rw [ht]
    rw [List.getElem?_take, if_pos hi] at h1
    have h2 : cur[i]? = cur.toList[i]? := by simp
    rw [h2, h1]
    simp [List.getD, hi]

theorem OwM.rv {w : World} {base : Nat} {v : Value} {xs : List Int} (h : OwM w base v xs) (hr : ∀ x ∈ xs, 0 ≤ x ∧ x ≤ 255) : RV w v xs := by
  have h' := h
  rcases h with ⟨rfl, rfl⟩ | ⟨g, cap, cur, fz, rfl, hb, hg, hf, hnc, hcm, hcs, htake⟩
  · exact ⟨none, 0, rfl, Rd.nil _ _, Nat.le_refl _, Nat.zero_le _⟩
  · refine ⟨_, cap, rfl, ⟨rfl, fun i hi => ⟨g, 0, rfl, ?_⟩, hr⟩, hnc, hcm⟩
    rw [Nat.zero_add]
    exact h'.cellAt i hi

theorem m_apart {w w' : World} {b1 b2 : Nat} {v1 v2 : Value} {xs ys : List Int} (h1 : OwM w b1 v1 xs) (hle : w.heap.size ≤ b2) (h2 : OwM w' b2 v2 ys) : v1.ownBlock = none ∨ v1.ownBlock ≠ v2.ownBlock := by
  cases e1 : v1.ownBlock with
  | none => exact .inl rfl
  | some k =>
    right
    intro e2
    have := (h1.lt k e1).2
    have := (h2.lt k e2.symm).1
    omega
theorem m_apart' {w w' : World} {b1 b2 : Nat} {v1 v2 : Value} {xs ys : List Int} (h1 : OwM w b1 v1 xs) (hle : w.heap.size ≤ b2) (h2 : OwM w' b2 v2 ys) : v2.ownBlock = none ∨ v2.ownBlock ≠ v1.ownBlock := by
  cases e1 : v2.ownBlock with
  | none => exact .inl rfl
  | some k =>
    right
    intro e2
    have := (h1.lt k e2.symm).2
    have := (h2.lt k e1).1
    omega
theorem m_below {B base : Nat} {w0 w w' : World} {v : Value} {xs : List Int} (hb : Below B w0 w) (hB : B ≤ base) (ho : OwM w base v xs) (hs : B ≤ w.heap.size) (hg : w.grownBy w' v.ownBlock) : Below B w0 w' :=
  hb.grown hg hs (fun k hk => Nat.le_trans hB (ho.lt k hk).1)

/-- What a conversion of a string to bytes leaves. -/
theorem m_conv (w : World) (s : ByteArray) (xs : List Int) (hx : (s.data.map fun b => Value.int .u8 b.toNat).toList = B8 xs) (hs : s.size ≤ 4294967296) :
    OwM (Lib.bytesWorld w 5 s) w.heap.size (.slice (some ⟨w.heap.size, 0, none⟩) s.size (grownCap w s.size 0 5)) xs ∧ Below w.heap.size w (Lib.bytesWorld w 5 s) := by
  have hl : xs.length = s.size := by
    have := congrArg List.length hx
    simp at this
    exact this.symm
  have hge := grownCap_ge w s.size 0 5
  have hgm := grownCap_le_maxLen w s.size 0 5 (by unfold maxLen; omega)
  have hcs : (Lib.bytesCells w 5 s).size = grownCap w s.size 0 5 := by
    unfold Lib.bytesCells
    have : s.data.size = s.size := rfl
    simp [this]
    omega
  refine ⟨.inr ⟨w.heap.size, _, _, _, by rw [hl], Nat.le_refl _, Lib.bytesWorld_at_new w 5 s, .inr (Nat.le_refl _), by omega, hgm, hcs, ?_⟩, ⟨rfl, rfl, rfl, by rw [Lib.bytesWorld_size]; omega, fun k hk => Lib.bytesWorld_at_old w 5 s k hk⟩⟩
  unfold Lib.bytesCells
  rw [Array.toList_append, hx]
  have : xs.length = (B8 xs).length := by simp
  rw [this]
  exact List.take_left

/-- Stores into a row of which no cell is frozen, one behind the other. -/
theorem store_free (P : Program) (g o : Nat) (t : TypeId) : ∀ (vs : List Value) (i : Nat) (cur : Array Value) (fz : Nat × Nat) (w : World), w.heap[g]? = some (.cells cur t fz) → Free cur fz → o + i + vs.length ≤ cur.size → (∀ v ∈ vs, v.oneCell' = true) →
    (storeCells ⟨g, o, none⟩ vs i).run P w = .ok () (w.setRow g (cur.toList.take (o + i) ++ vs ++ cur.toList.drop (o + i + vs.length)).toArray) := by
  intro vs
  induction vs with
  | nil =>
    intro i cur fz w hg _ _ _
    simp only [storeCells, List.append_nil, List.length_nil, Nat.add_zero, List.take_append_drop, Array.toArray_toList]
    rw [setRow_self w g cur t fz hg]
    rfl
  | cons v rest ih =>
    intro i cur fz w hg hf hl h1
    simp only [List.length_cons] at hl
    have hi : o + i < cur.size := by omega
    have hcell : w.cell? ⟨g, o + i, none⟩ = some cur[o + i] := by simp [World.cell?, hg, hi]
    have hst : (store ((⟨g, o, none⟩ : Addr).add i) v).run P w = .ok () (w.setRow g (cur.setIfInBounds (o + i) v)) := by
      rw [Addr.add_lit, run_store P w _ v _ (h1 v (by simp)), hcell]
      simp [free_at hg hf hi, setCell_eq_setRow w g (o + i) cur t fz v hg]
    have k := ih (i + 1) (cur.setIfInBounds (o + i) v) fz (w.setRow g (cur.setIfInBounds (o + i) v)) (setRow_heap w g cur _ t _ hg) (by simpa [Free] using hf) (by simp; omega) (fun x hx => h1 x (by simp [hx]))
    simp only [storeCells, Sem.run_bind, hst, Result.andThen_ok, k, setRow_setRow]
    congr 3
    have e := list_seg_step cur.toList (o + i) v rest (by simp; omega)
    simpa [Array.toList_setIfInBounds, Nat.add_assoc] using e

/-- The block of what came out of an append is the one that was, or a new one. -/
abbrev Nb (w : World) (v v' : Value) : Prop := ∀ k, v'.ownBlock = some k → v.ownBlock = some k ∨ w.heap.size ≤ k

theorem grow_tr {w w1 w2 : World} {v v1 : Value} (h : w.grownBy w1 v.ownBlock) (k : w1.grownBy w2 v1.ownBlock) (n : Nb w v v1) : w.grownBy w2 v.ownBlock :=
  ⟨k.os.trans h.os, k.tape.trans h.tape, k.output.trans h.output, Nat.le_trans h.size k.size, fun i hi e => by
    rw [k.block i (Nat.lt_of_lt_of_le hi h.size) ?_, h.block i hi e]
    intro e2
    rcases n i e2.symm with h2 | h2
    · exact e h2.symm
    · omega⟩
theorem grow_nb {w w1 : World} {v v1 v2 : Value} {r : Option Nat} (h : w.grownBy w1 r) (n : Nb w v v1) (m : Nb w1 v1 v2) : Nb w v v2 := fun k hk => by
  rcases m k hk with h1 | h1
  · exact n k h1
  · exact .inr (Nat.le_trans h.size h1)

theorem append_m {P : Program} (w : World) (base : Nat) (t ty : TypeId) (hinfo : (P.info? 5).map (fun i => (i.zero, i.size, i.bytes)) = some (some (.int .u8 0), 1, 1)) (ht : P.underlying t = some (.slice 5))
    (v : Value) (xs : List Int) (hown : OwM w base v xs) (ao : Option Addr) (m c : Nat) (ys : List Int) (hr : Rd w ao m ys) (hb : xs.length + m ≤ 4294967296) (hbase : base ≤ w.heap.size) :
    ∃ v' w', (Builtin.append_ #[t, t] ty #[v, .slice ao m c]).run P w = .ok v' w' ∧ OwM w' base v' (xs ++ ys) ∧ w.grownBy w' v.ownBlock ∧ Nb w v v' := by
  obtain ⟨i0, hi, hz0, hz1, hz2⟩ := info_parts hinfo
  have hl := hr.len
  cases ao with
  | none =>
    have hm : m = 0 := by
      rcases Nat.eq_zero_or_pos m with h0 | h0
      · exact h0
      · obtain ⟨b, o, e, _⟩ := hr.pos h0
        cases e
    subst hm
    obtain rfl : ys = [] := List.eq_nil_of_length_eq_zero hl
    refine ⟨v, w, ?_, by simpa using hown, World.grownBy.refl _ _, fun k hk => .inl hk⟩
    rcases hown with ⟨rfl, rfl⟩ | ⟨g, cap, cur, fz, rfl, _, _, _, hnc, _⟩
    · simp [Builtin.append_, run_underlying ht, sizeOf, typeInfo, hi, Builtin.lenOf, Builtin.firstCells]
    · simp [Builtin.append_, run_underlying ht, sizeOf, typeInfo, hi, Builtin.lenOf, Builtin.firstCells, hnc, storeCells]
  | some ad =>
    have hnews : ∀ j u, (B8 ys)[j]? = some u → w.cell? (ad.add j) = some u := by
      intro j u hu
      have hj : j < ys.length := by
        have := (List.getElem?_eq_some_iff.1 hu).1
        simpa using this
      obtain ⟨b, o', e, hbl, hc⟩ := hr.pos (by omega)
      simp only [Option.some.injEq] at e
      subst e
      rw [Addr.add_lit, hc j (by omega)]
      simpa [List.getD, hj] using hu
    have hyl : (B8 ys).length = m := by simp [hl]
    rcases hown with ⟨rfl, rfl⟩ | ⟨g, cap, cur, fz, rfl, hbg, hg, hf, hnc, hcm, hcs, htake⟩
    · obtain ⟨v', w', h1, h2, h3, _⟩ := run_append_own (P := P) w w.heap.size t ty 5 i0 (.int .u8 0) 1 1 ht hi hz0 hz1 hz2 rfl (by decide) (.slice none 0 0) 0 [] (World.ownsRow_nil _ _ _ _) ad m c (B8 ys) (by simpa using hyl) hnews
        (ints_oneCell _ _) (by unfold maxLen; omega) (by simp at hb; omega) (Nat.le_refl _)
      refine ⟨v', w', h1, ?_, h3, fun k hk => .inr (h2.lt k hk).1⟩
      have h2' : Ow w' base v' ys := by
        refine ow_base (base := w.heap.size) ?_ hbase
        show w'.ownsRow w.heap.size 5 1 v' ys.length (B8 ys)
        rw [hl]
        simpa using h2
      simpa using h2'.m
    · by_cases hroom : xs.length + m ≤ cap
      · have hst := store_free P g xs.length 5 (B8 ys) 0 cur fz w hg hf (by rw [hyl]; omega) (ints_oneCell _ _)
        have hfc := run_firstCells_some (P := P) w 1 m ad m c (B8 ys) (by simpa using hyl) hnews
        simp only [Nat.add_zero] at hst
        refine ⟨.slice (some ⟨g, 0, none⟩) (xs.length + m) cap, w.setRow g (cur.toList.take xs.length ++ B8 ys ++ cur.toList.drop (xs.length + (B8 ys).length)).toArray, ?_, .inr ⟨g, cap, _, fz, by simp [hl], hbg, setRow_heap w g cur _ 5 _ hg, ?_, by simp [hl]; omega, hcm, ?_, ?_⟩, ⟨rfl, rfl, rfl, by simp, fun k _ hk => setRow_other w g k _ (fun e => hk (by simp [Value.ownBlock, e]))⟩, fun k hk => .inl hk⟩
        · simp [Builtin.append_, run_underlying ht, sizeOf, typeInfo, hi, hz1, Builtin.lenOf, hroom, hfc, Addr.add_lit, hst]
        · rcases hf with e | e
          · exact .inl e
          · right
            simp only [List.size_toArray, List.length_append, List.length_take, List.length_drop, Array.length_toList, hyl]
            omega
        · simp only [List.size_toArray, List.length_append, List.length_take, List.length_drop, Array.length_toList, hyl]
          omega
        · have e : (xs ++ ys).length = (B8 xs ++ B8 ys).length := by simp
          have e2 : B8 (xs ++ ys) = B8 xs ++ B8 ys := by simp
          rw [htake, e, e2]
          exact List.take_left
      · have holds : ∀ j u, (B8 xs)[j]? = some u → w.cell? ((⟨g, 0, none⟩ : Addr).add j) = some u := by
          intro j u hu
          have hj : j < xs.length := by
            have := (List.getElem?_eq_some_iff.1 hu).1
            simpa using this
          rw [Addr.add_lit, Nat.zero_add, OwM.cellAt (.inr ⟨g, cap, cur, fz, rfl, hbg, hg, hf, hnc, hcm, hcs, htake⟩) j hj]
          simpa [List.getD, hj] using hu
        have hrun := run_append_grow (P := P) w t ty 5 i0 (.int .u8 0) ht hi hz0 ⟨g, 0, none⟩ xs.length cap (B8 xs) (by rw [hz1]; simp) holds ad m c (B8 ys) (by rw [hz1]; simpa using hyl) hnews (by omega) (by omega)
          (by rw [hz2]; exact growslice_fits (by omega) (by omega))
        have hge := grownCap_ge w (xs.length + m) cap 5
        have hgm := grownCap_le_maxLen w (xs.length + m) cap 5 (by unfold maxLen; omega)
        refine ⟨_, _, hrun, .inr ⟨w.heap.size, _, _, (0, 0), by simp [hl], hbase, heap_alloc_new w.drew _, .inl rfl, by simp [hl]; omega, hgm, ?_, ?_⟩, ⟨rfl, rfl, rfl, by simp, fun k hk _ => heap_alloc_old w.drew _ hk⟩, fun k hk => .inr (by simp [Value.ownBlock] at hk; omega)⟩
        · have hz : (Value.int IntKind.u8 0).cells.size = 1 := rfl
          simp only [Array.size_append, List.size_toArray, size_zeroCells, hz, hyl, List.length_map]
          omega
        · have e : (xs ++ ys).length = (B8 xs ++ B8 ys).length := by simp
          have e2 : B8 (xs ++ ys) = B8 xs ++ B8 ys := by simp
          rw [e, e2]
          simp only [Array.toList_append]
          exact List.take_left

theorem wpList_append_m {P : Program} (w : World) {ops : Array Oper} {rest : List Oper} {o : Oper} {a : Act} {Q : Exit → Act → World → Prop} (hgd : o.guard = none) (s x : Operand) (t : TypeId)
    (ho : o.op = .call { callee := .builtin .append, args := #[s, x], argTypes := #[t, t] })
    (base : Nat) (hinfo : (P.info? 5).map (fun i => (i.zero, i.size, i.bytes)) = some (some (.int .u8 0), 1, 1)) (ht : P.underlying t = some (.slice 5))
    (v : Value) (xs : List Int) (hs : a.eval s = v) (hown : OwM w base v xs)
    (ao : Option Addr) (m c : Nat) (ys : List Int) (hx : a.eval x = .slice ao m c) (hr : Rd w ao m ys)
    (hb : xs.length + m ≤ 4294967296) (hbase : base ≤ w.heap.size)
    (h : ∀ v' w', OwM w' base v' (xs ++ ys) → w.grownBy w' v.ownBlock → Nb w v v' → wpList P ops Q rest (a.put o.dst v') w') : wpList P ops Q (o :: rest) a w := by
  obtain ⟨v', w', hrun, h1, h2, h3⟩ := append_m (P := P) w base t o.type hinfo ht v xs hown ao m c ys hr hb hbase
  refine wpList_plain hgd fun K hK => ?_
  unfold Oper.wp
  simp only [execOp, ho, resolve, invoke, builtin, Sem.run_bind, Sem.run_pure, Result.andThen_ok, List.map_toArray, List.map_cons, List.map_nil, hs, hx, hrun]
  exact hK _ _ (h v' w' h1 h2 h3)

end Go.Proofs.Ytjkhadaoldbceaa
