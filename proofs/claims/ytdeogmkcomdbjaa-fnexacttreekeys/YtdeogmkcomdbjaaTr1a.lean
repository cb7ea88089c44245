/- A list of texts grown by one, within a round. -/
import Derived.Test.YtdeogmkcomdbjaaTr0
import Derived.Test.YtdeogmkcomdbjaaTk2
import Derived.OwnWalkIn
namespace Go.Proofs.Ytdeogmkcomdbjaa
open Go.RowKit

theorem wpListIn_append_tx {Fc : Fence} {n : Nat} (w : World) {ops : Array Oper} {rest : List Oper} {o : Oper} {a : Act} {Q : Exit → Act → World → Prop} (hgd : o.guard = none) (s x : Operand)
    (ho : o.op = Op.call { callee := Callee.builtin Builtin.append, args := #[s, x], argTypes := #[34, 34] })
    (base b2 : Nat) (v : Value) (F : List Value) (L : List (List Int)) (hs : a.eval s = v) (h1 : TxS w base v F L) (hb2 : base ≤ b2)
    (g : Nat) (u : Value) (y : List Int) (hx : a.eval x = .slice (some ⟨g, 0, none⟩) 1 1) (hc : w.cell? ⟨g, 0, none⟩ = some u) (hu : Ow w b2 u y ∧ ∃ a c, u = .slice a y.length c)
    (hb : L.length + 1 ≤ 2097152) (hbase : base ≤ w.heap.size)
    (h : ∀ v' w', TxS w' base v' (F ++ [u]) (L ++ [y]) → w.grownBy w' v.ownBlock → (v'.ownBlock = v.ownBlock ∨ v'.ownBlock = some w.heap.size) → wpListIn Fc n Try.prog ops Q rest (a.put o.dst v') w') : wpListIn Fc n Try.prog ops Q (o :: rest) a w := by
  obtain ⟨i0, hi, hz0, hz1, hz2⟩ := info_parts infoTX
  obtain ⟨v', w', hrun, r1, r2, _, r4⟩ := run_append_own_at (P := Try.prog) w base 34 o.type 22 i0 _ 1 24 Try.underlying34 hi hz0 hz1 hz2 rfl (by decide) v F.length F h1.row ⟨g, 0, none⟩ 1 1 [u] rfl (fun j u' hj => by
    cases j with
    | zero =>
      simp at hj
      subst hj
      rw [Addr.add_lit]
      exact hc
    | succ j => simp at hj) (by
    intro z hz
    simp only [List.mem_singleton] at hz
    obtain ⟨_, a', c', e⟩ := hu
    rw [hz, e]; rfl) (by have := h1.len; unfold maxLen; omega) (by have := h1.len; omega) hbase
  have hT : TxS w' base v' (F ++ [u]) (L ++ [y]) := tx_join h1 (G := [u]) (M := [y]) (fun i f x' hf hx' => by
    have hi0 : i = 0 := by have := (List.getElem?_eq_some_iff.1 hf).1; simpa using this
    subst hi0
    simp only [List.getElem?_cons_zero, Option.some.injEq] at hf hx'
    subst hf hx'
    exact hu) rfl hb2 r1 r2
  refine wpListIn_plain hgd fun K hK' => ?_
  unfold Oper.wpIn
  refine ⟨?_, ?_⟩
  · simp [Oper.about, ho, resolve, Target.leads, Sem.run_pure]
  · rw [Oper.semAt_plain Fc _ _ (by rw [ho]; intro c hc'; cases hc')]
    simp only [execOp, ho, resolve, invoke, builtin, Sem.run_bind, Sem.run_pure, Result.andThen_ok, List.map_toArray, List.map_cons, List.map_nil, hs, hx, hrun]
    exact hK' _ _ (h v' w' hT r2 r4)

theorem row_same {w w' : World} {base n : Nat} {t : TypeId} {k : Nat} {v : Value} {F : List Value} (h : w.ownsRow base t k v n F) (hk : ∀ k, v.ownBlock = some k → ∀ o, w.heap[k]? = some o → o.isCells = true → w'.heap[k]? = some o) : w'.ownsRow base t k v n F := by
  refine ⟨h.1, ?_⟩
  rcases h.2 with h2 | ⟨g, cap, cur, hv, hbb, hblk, r⟩
  · exact .inl h2
  · exact .inr ⟨g, cap, cur, hv, hbb, hk g (by rw [hv]; rfl) _ hblk rfl, r⟩
theorem TxS.cel {w w' : World} {base b : Nat} {v : Value} {F : List Value} {L : List (List Int)} (h : TxS w base v F L) (c : Cel b w w') : TxS w' base v F L :=
  ⟨row_same h.row (fun k _ o ho hc => c.same k o ho (.inl hc)), h.len, fun i f x h1 h2 => ⟨ow_same (h.tx i f x h1 h2).1 (fun k _ o ho hc => c.same k o ho (.inl hc)), (h.tx i f x h1 h2).2⟩⟩
theorem TxS.shape {w : World} {base : Nat} {v : Value} {F : List Value} {L : List (List Int)} (h : TxS w base v F L) : ∃ a c, v = .slice a F.length c := by
  rcases h.row.2 with ⟨hv, h0⟩ | ⟨g, cap, cur, hv, _⟩
  · exact ⟨none, 0, by rw [hv, h0]⟩
  · exact ⟨_, cap, hv⟩
/-- Another block turned. -/
theorem TxS.set {w : World} {base gb : Nat} {v : Value} {F : List Value} {L : List (List Int)} {cs : Array Value} {t : TypeId} (h : TxS w base v F L) (hb : w.heap[gb]? = some (.cells cs t (0, 0))) (ht : t ≠ 5) (ht2 : t ≠ 22) (u : Value) : TxS (w.setCell ⟨gb, 0, none⟩ u) base v F L := by
  refine ⟨row_same h.row (fun k hk o ho _ => ?_), h.len, fun i f x h1 h2 => ⟨ow_same (h.tx i f x h1 h2).1 (fun k hk o ho _ => ?_), (h.tx i f x h1 h2).2⟩⟩
  · refine set_other _ _ _ (fun e => ?_) ho
    subst e
    rcases h.row.2 with ⟨hv, _⟩ | ⟨g, cap, cur, hv, _, hg, _⟩
    · rw [hv] at hk; cases hk
    · rw [hv] at hk
      simp only [Value.ownBlock, Option.some.injEq] at hk
      subst hk
      rw [hb] at hg
      simp only [Option.some.injEq, Obj.cells.injEq] at hg
      exact ht2 hg.2.1
  · refine set_other _ _ _ (fun e => ?_) ho
    subst e
    rcases (h.tx i f x h1 h2).1.2 with ⟨hv, _⟩ | ⟨g, cap, cur, hv, _, hg, _⟩
    · rw [hv] at hk; cases hk
    · rw [hv] at hk
      simp only [Value.ownBlock, Option.some.injEq] at hk
      subst hk
      rw [hb] at hg
      simp only [Option.some.injEq, Obj.cells.injEq] at hg
      exact ht hg.2.1
/-- What is carried while keys are told. -/
structure KyI (w : World) (gb : Nat) (u lv : Value) (F : List Value) (L : List (List Int)) (V : World) : Prop where
  kb : V.heap[w.heap.size + 1]? = some (.cells #[u] 22 (0, 0))
  bx : V.heap[gb]? = some (.cells #[lv] 34 (0, 0))
  tx : TxS V gb lv F L
  ap : Apart F
  bel : Below w.heap.size w V
  lt : w.heap.size + 1 < gb
theorem KyI.cel {w V V' : World} {gb base : Nat} {u lv : Value} {F : List Value} {L : List (List Int)} (h : KyI w gb u lv F L V) (c : Cel base V V') (hb : w.heap.size ≤ base) : KyI w gb u lv F L V' :=
  ⟨c.same _ _ h.kb (.inl rfl), c.same _ _ h.bx (.inl rfl), h.tx.cel c, h.ap, below_cel h.bel c hb, h.lt⟩
end Go.Proofs.Ytdeogmkcomdbjaa
