/- Lists of texts of the call's own that grow by lists of texts. -/
import Derived.Test.YtdeogmkcomdbjaaTk0
import Derived.Test.YtdeogmkcomdbjaaCom0
import Derived.Maps.AppendAt
namespace Go.Proofs.Ytdeogmkcomdbjaa
open Go.RowKit

theorem infoTX : (Try.prog.info? 22).map (fun i => (i.zero, i.size, i.bytes)) = some (some (.slice none 0 0), 1, 24) := by kernel_rfl
/-- A list of texts: its row, and each text, are the call's own. -/
structure TxS (w : World) (base : Nat) (v : Value) (F : List Value) (L : List (List Int)) : Prop where
  row : w.ownsRow base 22 1 v F.length F
  len : F.length = L.length
  tx : ∀ (i : Nat) (f : Value) (x : List Int), F[i]? = some f → L[i]? = some x → Ow w base f x ∧ ∃ a c, f = .slice a x.length c
theorem TxS.nil (w : World) (base : Nat) : TxS w base (.slice none 0 0) [] [] := ⟨World.ownsRow_nil _ _ _ _, rfl, fun i f x h => by simp at h⟩
theorem TxS.ext {w w' : World} {base : Nat} {v : Value} {F : List Value} {L : List (List Int)} (h : TxS w base v F L) (e : Ext w w') : TxS w' base v F L :=
  ⟨World.ownsRow.kept h.row e (by cases hv : v.ownBlock <;> simp), h.len, fun i f x h1 h2 => ⟨(h.tx i f x h1 h2).1.ext e, (h.tx i f x h1 h2).2⟩⟩
theorem TxS.low {w : World} {b b' : Nat} {v : Value} {F : List Value} {L : List (List Int)} (h : TxS w b v F L) (hb : b' ≤ b) : TxS w b' v F L := by
  refine ⟨⟨h.row.1, ?_⟩, h.len, fun i f x h1 h2 => ⟨?_, (h.tx i f x h1 h2).2⟩⟩
  · rcases h.row.2 with h2 | ⟨g, cap, cur, hv, hbb, r⟩
    · exact .inl h2
    · exact .inr ⟨g, cap, cur, hv, Nat.le_trans hb hbb, r⟩
  · have ho := (h.tx i f x h1 h2).1
    refine ⟨ho.1, ?_⟩
    rcases ho.2 with h2 | ⟨g, cap, cur, hv, hbb, r⟩
    · exact .inl h2
    · exact .inr ⟨g, cap, cur, hv, Nat.le_trans hb hbb, r⟩
/-- Bytes lie in another block than a list of texts. -/
theorem ow_far {w : World} {b b' n : Nat} {v f : Value} {xs : List Int} {F : List Value} (o : Ow w b f xs) (r : w.ownsRow b' 22 1 v n F) : f.ownBlock = none ∨ f.ownBlock ≠ v.ownBlock := by
  rcases o.2 with ⟨hf, _⟩ | ⟨g, cap, cur, hf, _, h1, _⟩
  · left; rw [hf]; rfl
  · right
    rcases r.2 with ⟨hv, _⟩ | ⟨g', cap', cur', hv, _, h2, _⟩
    · rw [hf, hv]; simp [Value.ownBlock]
    · rw [hf, hv]
      simp only [Value.ownBlock, ne_eq, Option.some.injEq]
      intro e
      subst e
      rw [h1] at h2
      simp only [Option.some.injEq, Obj.cells.injEq] at h2
      exact absurd h2.2.1 (by decide)
theorem TxS.row_cell {w : World} {base : Nat} {ad : Addr} {m c : Nat} {F : List Value} {L : List (List Int)} (h : TxS w base (.slice (some ad) m c) F L) : m = F.length ∧ ∀ (j : Nat) u, F[j]? = some u → w.cell? (ad.add j) = some u := by
  rcases h.row.2 with ⟨hv, _⟩ | ⟨g, cap, cur, hv, _, h1, h2, _, h4, h5⟩
  · simp only [Value.slice.injEq] at hv
    cases hv.1
  · simp only [Value.slice.injEq] at hv
    obtain ⟨e1, e2, _⟩ := hv
    simp only [Option.some.injEq] at e1
    subst e1
    refine ⟨e2, fun j u hu => ?_⟩
    have hj := (List.getElem?_eq_some_iff.1 hu).1
    rw [Addr.add_lit]
    have hcell := World.ownsRow.cellAt (by rw [e2] at h; exact h.row) j (by omega)
    simp only [Nat.zero_add]
    rw [hcell]
    exact hu
theorem runNothingX (w : World) (base : Nat) (ty : TypeId) (v : Value) (n c : Nat) (xs : List Value) (hown : w.ownsRow base 22 1 v n xs) :
    (Builtin.append_ #[34, 34] ty #[v, .slice none 0 c]).run Try.prog w = .ok v w := by
  obtain ⟨i0, hi, hz0, hz1, hz2⟩ := info_parts infoTX
  rcases hown.2 with ⟨rfl, rfl⟩ | ⟨g, cap, cur, rfl, _, _, hnc, _⟩
  · simp [Builtin.append_, run_underlying Try.underlying34, sizeOf, typeInfo, hi, Builtin.lenOf, Builtin.firstCells]
  · simp [Builtin.append_, run_underlying Try.underlying34, sizeOf, typeInfo, hi, Builtin.lenOf, Builtin.firstCells, hnc, storeCells]
theorem tx_join {w w' : World} {base b2 : Nat} {v v' : Value} {F G : List Value} {L M : List (List Int)} (h : TxS w base v F L) (hG : ∀ (i : Nat) (f : Value) (x : List Int), G[i]? = some f → M[i]? = some x → Ow w b2 f x ∧ ∃ a c, f = .slice a x.length c) (hl : G.length = M.length) (hb : base ≤ b2)
    (hr : w'.ownsRow base 22 1 v' (F.length + G.length) (F ++ G)) (hg : w.grownBy w' v.ownBlock) : TxS w' base v' (F ++ G) (L ++ M) := by
  refine ⟨by rw [List.length_append]; exact hr, by simp [h.len, hl], fun i f x h1 h2 => ?_⟩
  have hlow : ∀ {f : Value} {x : List Int}, Ow w b2 f x → Ow w base f x := fun ho => ⟨ho.1, by
    rcases ho.2 with h2 | ⟨g, cap, cur, hv, hbb, r⟩
    · exact .inl h2
    · exact .inr ⟨g, cap, cur, hv, Nat.le_trans hb hbb, r⟩⟩
  by_cases hi : i < F.length
  · rw [List.getElem?_append_left hi] at h1
    rw [List.getElem?_append_left (by rw [← h.len]; exact hi)] at h2
    obtain ⟨o, s⟩ := h.tx i f x h1 h2
    exact ⟨World.ownsRow.kept o hg (ow_far o h.row), s⟩
  · rw [List.getElem?_append_right (by omega)] at h1
    rw [List.getElem?_append_right (by rw [← h.len]; omega), ← h.len] at h2
    obtain ⟨o, s⟩ := hG _ f x h1 h2
    exact ⟨World.ownsRow.kept (hlow o) hg (ow_far o h.row), s⟩
/-- 'append(out, l...)' of texts, both the call's own. -/
theorem wpList_append_txs (w : World) {ops : Array Oper} {rest : List Oper} {o : Oper} {a : Act} {Q : Exit → Act → World → Prop} (hgd : o.guard = none) (s x : Operand)
    (ho : o.op = .call { callee := .builtin .append, args := #[s, x], argTypes := #[34, 34] })
    (base b2 : Nat) (v u : Value) (F G : List Value) (L M : List (List Int)) (hs : a.eval s = v) (hx : a.eval x = u) (h1 : TxS w base v F L) (h2 : TxS w b2 u G M) (hb2 : base ≤ b2)
    (hb : L.length + M.length ≤ 2097152) (hbase : base ≤ w.heap.size)
    (h : ∀ v' w', TxS w' base v' (F ++ G) (L ++ M) → w.grownBy w' v.ownBlock → wpList Try.prog ops Q rest (a.put o.dst v') w') : wpList Try.prog ops Q (o :: rest) a w := by
  have hshape : ∃ ao m c, u = .slice ao m c := by
    rcases h2.row.2 with ⟨hv, _⟩ | ⟨g, cap, cur, hv, _⟩
    · exact ⟨_, _, _, hv⟩
    · exact ⟨_, _, _, hv⟩
  obtain ⟨ao, m, c, rfl⟩ := hshape
  have key : ∃ v' w', (Builtin.append_ #[34, 34] o.type #[v, .slice ao m c]).run Try.prog w = .ok v' w' ∧ TxS w' base v' (F ++ G) (L ++ M) ∧ w.grownBy w' v.ownBlock := by
    cases ao with
    | none =>
      rcases h2.row.2 with ⟨hv, hn⟩ | ⟨g, cap, cur, hv, _⟩
      · simp only [Value.slice.injEq] at hv
        obtain ⟨_, rfl, rfl⟩ := hv
        have hG : G = [] := List.eq_nil_of_length_eq_zero hn
        have hM : M = [] := List.eq_nil_of_length_eq_zero (by rw [← h2.len]; exact hn)
        subst hG hM
        rw [List.append_nil, List.append_nil]
        exact ⟨v, w, runNothingX w base _ v _ 0 _ h1.row, h1, ⟨rfl, rfl, rfl, Nat.le_refl _, fun _ _ _ => rfl⟩⟩
      · simp only [Value.slice.injEq] at hv
        cases hv.1
    | some ad =>
      obtain ⟨i0, hi, hz0, hz1, hz2⟩ := info_parts infoTX
      obtain ⟨rfl, hn⟩ := h2.row_cell
      obtain ⟨v', w', hrun, r1, r2, _, r4⟩ := run_append_own_at (P := Try.prog) w base 34 o.type 22 i0 _ 1 24 Try.underlying34 hi hz0 hz1 hz2 rfl (by decide) v F.length F h1.row ad G.length c G (by simp) hn (by
        intro z hz
        obtain ⟨j, hj⟩ := List.getElem?_of_mem hz
        obtain ⟨y, hy⟩ : ∃ y, M[j]? = some y := ⟨_, List.getElem?_eq_getElem (by rw [← h2.len]; exact (List.getElem?_eq_some_iff.1 hj).1)⟩
        obtain ⟨_, a', c', e⟩ := h2.tx j z y hj hy
        rw [e]; rfl) (by have := h1.len; have := h2.len; unfold maxLen; omega) (by have := h1.len; have := h2.len; omega) hbase
      exact ⟨v', w', hrun, tx_join h1 h2.tx h2.len hb2 r1 r2, r2⟩
  obtain ⟨v', w', hrun, r1, r2⟩ := key
  refine wpList_plain hgd fun K hK => ?_
  unfold Oper.wp execOp
  simp only [ho, resolve, invoke, builtin, Sem.run_bind, Sem.run_pure, Result.andThen_ok, List.map_toArray, List.map_cons, List.map_nil, hs, hx, hrun]
  exact hK _ _ (h v' w' r1 r2)
/-- 'append(out, x)' of a text. -/
theorem wpList_append_tx (w : World) {ops : Array Oper} {rest : List Oper} {o : Oper} {a : Act} {Q : Exit → Act → World → Prop} (hgd : o.guard = none) (s x : Operand)
    (ho : o.op = .call { callee := .builtin .append, args := #[s, x], argTypes := #[34, 34] })
    (base b2 : Nat) (v : Value) (F : List Value) (L : List (List Int)) (hs : a.eval s = v) (h1 : TxS w base v F L) (hb2 : base ≤ b2)
    (g : Nat) (u : Value) (y : List Int) (hx : a.eval x = .slice (some ⟨g, 0, none⟩) 1 1) (hc : w.cell? ⟨g, 0, none⟩ = some u) (hu : Ow w b2 u y ∧ ∃ a c, u = .slice a y.length c)
    (hb : L.length + 1 ≤ 2097152) (hbase : base ≤ w.heap.size)
    (h : ∀ v' w', TxS w' base v' (F ++ [u]) (L ++ [y]) → w.grownBy w' v.ownBlock → wpList Try.prog ops Q rest (a.put o.dst v') w') : wpList Try.prog ops Q (o :: rest) a w := by
  obtain ⟨i0, hi, hz0, hz1, hz2⟩ := info_parts infoTX
  obtain ⟨v', w', hrun, r1, r2, _, r4⟩ := run_append_own_at (P := Try.prog) w base 34 o.type 22 i0 _ 1 24 Try.underlying34 hi hz0 hz1 hz2 rfl (by decide) v F.length F h1.row ⟨g, 0, none⟩ 1 1 [u] rfl (fun j u' hj => by
    cases j with
    | zero =>
      simp at hj
      subst hj
      rw [Addr.add_lit]
      exact hc
    | succ j => simp at hj) (by
    intro z hz
    simp only [List.mem_singleton] at hz
    obtain ⟨_, a', c', e⟩ := hu
    rw [hz, e]; rfl) (by have := h1.len; unfold maxLen; omega) (by have := h1.len; omega) hbase
  refine wpList_plain hgd fun K hK => ?_
  unfold Oper.wp execOp
  simp only [ho, resolve, invoke, builtin, Sem.run_bind, Sem.run_pure, Result.andThen_ok, List.map_toArray, List.map_cons, List.map_nil, hs, hx, hrun]
  refine hK _ _ (h v' w' (tx_join h1 (G := [u]) (M := [y]) (fun i f x' hf hx' => ?_) rfl hb2 r1 r2) r2)
  have hi0 : i = 0 := by have := (List.getElem?_eq_some_iff.1 hf).1; simpa using this
  subst hi0
  simp only [List.getElem?_cons_zero, Option.some.injEq] at hf hx'
  subst hf hx'
  exact hu

/-- The keys that begin with a text. -/
def keysP {d : Nat} (t : DTree d) (ah p : List Int) : List (List Int) := (keysT t ah).filter fun x => hasB x p
theorem keysP_node {d : Nat} (e : List Int) (h : Bool) (x : Int) (n : Nat) (kid : Nat → DTree d) (ah p : List Int) : keysP (DTree.node e h x n kid) ah p = (if (h && hasB (ah ++ e) p) then [ah ++ e] else []) ++ flatN n (fun i => keysP (kid i) (ah ++ e) p) := by
  have hf : ∀ n, (flatN n (fun i => keysTD d (kid i) (ah ++ e))).filter (fun x => hasB x p) = flatN n (fun i => keysP (kid i) (ah ++ e) p) := by
    intro n
    induction n with
    | zero => rfl
    | succ n ih => simp only [flatN, List.filter_append]; rw [ih]; rfl
  show (keysTD _ _ _).filter _ = _
  simp only [keysTD, List.filter_append]
  rw [hf]
  cases h
  · simp
  · cases hb : hasB (ah ++ e) p <;> simp [hb]
theorem hasB_nil (x : List Int) : hasB x [] = true := by
  unfold hasB
  cases x <;> simp [com]
theorem keysP_nil {d : Nat} (t : DTree d) (ah : List Int) : keysP t ah [] = keysT t ah := by
  unfold keysP
  rw [List.filter_eq_self]
  intro x _
  exact hasB_nil x
theorem keysP_len {d : Nat} (t : DTree d) (ah p : List Int) : (keysP t ah p).length ≤ szT t + 1 := by
  have h1 : (keysP t ah p).length ≤ (keysT t ah).length := List.length_filter_le _ _
  have h2 := keys_len d t ah
  have h3 := cntK_le d t
  show _ ≤ szTD d t + 1
  have h4 : (keysT t ah).length = cntKD d t := h2
  omega

end Go.Proofs.Ytdeogmkcomdbjaa
