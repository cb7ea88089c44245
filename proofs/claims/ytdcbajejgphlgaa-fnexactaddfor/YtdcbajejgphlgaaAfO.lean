/- A list of one message, owned: the specification's l4ownMsgs. -/
import Derived.Test.YtdcbajejgphlgaaMsQ
import Derived.Test.YtdcbajejgphlgaaCi2
import Derived.Test.YtdcbajejgphlgaaFb0
namespace Go.Proofs.Ytdcbajejgphlgaa
open Go.RowKit

theorem info_M : (Try.prog.info? 30).map (fun i => (i.zero, i.size, i.bytes)) = some (some (.agg #[.int .i64 0, .int .i64 0, .int .i64 0, .int .i64 0, .int .i64 0, .int .i64 0, .slice none 0 0, .int .i64 0, .bool false]), 9, 88) := by kernel_rfl

theorem wpList_append_ms (w : World) {ops : Array Oper} {rest : List Oper} {o : Oper} {a : Act} {Q : Exit → Act → World → Prop} (hgd : o.guard = none) (s x : Operand)
    (ho : o.op = .call { callee := .builtin .append, args := #[s, x], argTypes := #[45, 45] })
    (base : Nat) (v : Value) (n : Nat) (xs : List Value) (hs : a.eval s = v) (hown : w.ownsRow base 30 9 v n xs)
    (g : Nat) (us : List Value) (hx : a.eval x = .slice (some ⟨g, 0, none⟩) 1 1) (hl : us.length = 9) (hc : ∀ (j : Nat) u, us[j]? = some u → w.cell? ⟨g, j, none⟩ = some u) (h1 : ∀ u ∈ us, u.oneCell' = true)
    (hb : n ≤ 1048576) (hbase : base ≤ w.heap.size)
    (h : ∀ v' w', w'.ownsRow base 30 9 v' (n + 1) (xs ++ us) → w.grownBy w' v.ownBlock → wpList Try.prog ops Q rest (a.put o.dst v') w') : wpList Try.prog ops Q (o :: rest) a w := by
  obtain ⟨i0, hi, hz0, hz1, hz2⟩ := info_parts info_M
  obtain ⟨v', w', hrun, r1, r2, _, r4⟩ := run_append_own_at (P := Try.prog) w base 45 o.type 30 i0 _ 9 88 Try.underlying45 hi hz0 hz1 hz2 rfl (by decide) v n xs hown ⟨g, 0, none⟩ 1 1 us (by omega)
    (fun j u' hj => by rw [Addr.add_lit, Nat.zero_add]; exact hc j u' hj) h1 (by unfold maxLen; omega) (by omega) hbase
  refine wpList_plain hgd fun K hK => ?_
  unfold Oper.wp execOp
  simp only [ho, resolve, invoke, builtin, Sem.run_bind, Sem.run_pure, Result.andThen_ok, List.map_toArray, List.map_cons, List.map_nil, hs, hx, hrun]
  exact hK _ _ (h v' w' r1 r2)

/-- A list of one message, in memory of its own. -/
def MsPost (D : DMsg) (w : World) (e : Ending) (w' : World) : Prop := ∃ g1 c1 a3 c3 F, e = .returned (.slice (some ⟨g1, 0, none⟩) 1 c1) ∧ 1 ≤ c1 ∧ Hid (∀ (j : Nat) u, [.int .i64 D.kind, .int .i64 D.from_, .int .i64 D.dst, .int .i64 D.term, .int .i64 D.prev, .int .i64 D.prevTerm, .slice a3 D.items.length c3, .int .i64 D.commit, .bool D.yes][j]? = some u → w'.cell? ⟨g1, j, none⟩ = some u) ∧ IG w.heap.size w' (.slice a3 D.items.length c3) D.items F ∧ Below w.heap.size w w'

set_option maxRecDepth 20000 in
set_option maxHeartbeats 4000000 in
theorem ownMsgsV (b : Nat) (D : DMsg) (ia : Option Addr) (ic : Nat) (w : World)
    (hb : w.heap[b]? = some (.cells #[.int .i64 D.kind, .int .i64 D.from_, .int .i64 D.dst, .int .i64 D.term, .int .i64 D.prev, .int .i64 D.prevTerm, .slice ia D.items.length ic, .int .i64 D.commit, .bool D.yes] 30 (0, 0)))
    (hi : VItems w (.slice ia D.items.length ic) D.items) (hn : D.items.length ≤ 1048576) (hl : ∀ (i : Nat) s, D.items[i]? = some s → s.cmd.op.key.length ≤ 2097152 ∧ s.cmd.op.val.length ≤ 2097152) :
    Calls Try.prog 17 #[.slice (some ⟨b, 0, none⟩) 1 1] w (MsPost D w) := by
  have hE : ∀ w : World, ∀ o, Ext w (w.alloc o) := fun w o => World.grownBy_alloc _ _ _
  have HVI : Hid (VItems w (.slice ia D.items.length ic) D.items) := hi
  have HN : Hid (D.items.length ≤ 1048576) := hn
  have HL : Hid (∀ (i : Nat) s, D.items[i]? = some s → s.cmd.op.key.length ≤ 2097152 ∧ s.cmd.op.val.length ≤ 2097152) := hl
  obtain ⟨nn, hnn⟩ : ∃ nn, nn = D.items.length := ⟨_, rfl⟩
  have HNN : Hid (nn = D.items.length) := hnn
  rw [← hnn] at hb
  clear hi hl hn hnn
  obtain ⟨c0, _⟩ := at_block hb 0 _ rfl
  obtain ⟨c1, _⟩ := at_block hb 1 _ rfl
  obtain ⟨c2, _⟩ := at_block hb 2 _ rfl
  obtain ⟨c3, _⟩ := at_block hb 3 _ rfl
  obtain ⟨c4, _⟩ := at_block hb 4 _ rfl
  obtain ⟨c5, _⟩ := at_block hb 5 _ rfl
  obtain ⟨c6, _⟩ := at_block hb 6 _ rfl
  obtain ⟨c7, _⟩ := at_block hb 7 _ rfl
  obtain ⟨c8, _⟩ := at_block hb 8 _ rfl
  go_enter Try.func17, Try.ntmps17
  go_wp2_with fail
  go_loopw [3, 4] (fun ov i wr => (i = .int .i64 0 ∧ ov = .slice none 0 0 ∧ wr = w) ∨ (i = .int .i64 1 ∧ ∃ g1 c1 a3 c3 F, ov = .slice (some ⟨g1, 0, none⟩) 1 c1 ∧ 1 ≤ c1 ∧ Hid (∀ (j : Nat) u, [.int .i64 D.kind, .int .i64 D.from_, .int .i64 D.dst, .int .i64 D.term, .int .i64 D.prev, .int .i64 D.prevTerm, .slice a3 D.items.length c3, .int .i64 D.commit, .bool D.yes][j]? = some u → wr.cell? ⟨g1, j, none⟩ = some u) ∧ Hid (IG w.heap.size wr (.slice a3 D.items.length c3) D.items F) ∧ Below w.heap.size w wr)) (fun _ i _ => 1 - (intOf i).toNat)
  case atStart => exact .inl ⟨rfl, rfl, rfl⟩
  case round =>
    rcases hrel with ⟨rfl, rfl, rfl⟩ | ⟨rfl, g1, k1, a3, k3, F, rfl, hk1, hc, hF, hb1⟩
    · go_wp2_with fail
      refine (sOwnItemsV _ D.items _ ?_ HN.out HL.out).mono ?_
      · rw [HNN.out]
        exact HVI.out.ext (hE _ _)
      rintro e w1 ⟨v1, F, rfl, g1, b1⟩
      obtain ⟨a3, k3, rfl⟩ := g1.shape
      have Q1 := below_blk b1 (by simp) (heap_alloc_new wr _)
      have HG1 : Hid (IG (wr.heap.size + 1) w1 (.slice a3 D.items.length k3) D.items F) := by
        show IG _ _ _ _ _
        simpa using g1
      have HB1 : Hid (Below wr.heap.size wr w1) := ((Below.refl _ wr).alloc (Nat.le_refl _) _).trans (b1.mono (by simp))
      have hs1 : wr.heap.size < w1.heap.size := (Array.getElem?_eq_some_iff.1 Q1).1
      rw [← HNN.out]
      obtain ⟨q0, _⟩ := at_block Q1 0 _ rfl
      obtain ⟨q1, _⟩ := at_block Q1 1 _ rfl
      obtain ⟨q2, _⟩ := at_block Q1 2 _ rfl
      obtain ⟨q3, _⟩ := at_block Q1 3 _ rfl
      obtain ⟨q4, _⟩ := at_block Q1 4 _ rfl
      obtain ⟨q5, _⟩ := at_block Q1 5 _ rfl
      obtain ⟨q6, f6⟩ := at_block Q1 6 _ rfl
      obtain ⟨q7, _⟩ := at_block Q1 7 _ rfl
      obtain ⟨q8, _⟩ := at_block Q1 8 _ rfl
      have HCL : Hid (∀ (j : Nat) u, [.int .i64 D.kind, .int .i64 D.from_, .int .i64 D.dst, .int .i64 D.term, .int .i64 D.prev, .int .i64 D.prevTerm, .slice a3 nn k3, .int .i64 D.commit, .bool D.yes][j]? = some u → ((w1.setCell ⟨wr.heap.size, 6, none⟩ (.slice a3 nn k3)).alloc (.cells #[.int .i64 D.kind, .int .i64 D.from_, .int .i64 D.dst, .int .i64 D.term, .int .i64 D.prev, .int .i64 D.prevTerm, .slice a3 nn k3, .int .i64 D.commit, .bool D.yes] 30 (0, 0))).cell? ⟨w1.heap.size, j, none⟩ = some u) := fun j u hu => by
        have hz : (w1.setCell ⟨wr.heap.size, 6, none⟩ (.slice a3 nn k3)).heap.size = w1.heap.size := by simp
        have := cell_of_row _ _ j _ _ _ (heap_alloc_new (w1.setCell ⟨wr.heap.size, 6, none⟩ (.slice a3 nn k3)) (.cells #[.int .i64 D.kind, .int .i64 D.from_, .int .i64 D.dst, .int .i64 D.term, .int .i64 D.prev, .int .i64 D.prevTerm, .slice a3 nn k3, .int .i64 D.commit, .bool D.yes] 30 (0, 0)))
        rw [hz] at this
        rw [this]
        simpa using hu
      clear g1 b1
      go_wp2_with (at_builtin; refine wpList_append_ms _ rfl (.tmp 20) (.tmp 22) rfl wr.heap.size (.slice none 0 0) 0 [] rfl (World.ownsRow_nil _ _ _ _) w1.heap.size [.int .i64 D.kind, .int .i64 D.from_, .int .i64 D.dst, .int .i64 D.term, .int .i64 D.prev, .int .i64 D.prevTerm, .slice a3 nn k3, .int .i64 D.commit, .bool D.yes] rfl rfl HCL.out (by simp [Value.oneCell']) (by omega) (by simp; omega) ?_; intro v2 w2 r2 g2)
      refine ⟨.inr ⟨rfl, ?_⟩, by simp [intOf]⟩
      have hg2 : Ext ((w1.setCell ⟨wr.heap.size, 6, none⟩ (.slice a3 nn k3)).alloc (.cells #[.int .i64 D.kind, .int .i64 D.from_, .int .i64 D.dst, .int .i64 D.term, .int .i64 D.prev, .int .i64 D.prevTerm, .slice a3 nn k3, .int .i64 D.commit, .bool D.yes] 30 (0, 0))) w2 := g2
      have B2 : Below wr.heap.size wr w2 := by
        have h1 := (HB1.out.setCell (p := ⟨wr.heap.size, 6, none⟩) (Nat.le_refl _) (.slice a3 nn k3)).alloc (by simp; omega) (.cells #[.int .i64 D.kind, .int .i64 D.from_, .int .i64 D.dst, .int .i64 D.term, .int .i64 D.prev, .int .i64 D.prevTerm, .slice a3 nn k3, .int .i64 D.commit, .bool D.yes] 30 (0, 0))
        exact h1.grown hg2 h1.size (fun k hk => by cases hk)
      have I2 := ((HG1.out.set (j := 6) (u := .slice a3 nn k3) (show wr.heap.size < wr.heap.size + 1 by omega)).ext (hE _ (.cells #[.int .i64 D.kind, .int .i64 D.from_, .int .i64 D.dst, .int .i64 D.term, .int .i64 D.prev, .int .i64 D.prevTerm, .slice a3 nn k3, .int .i64 D.commit, .bool D.yes] 30 (0, 0)))).ext hg2
      rcases r2.2 with ⟨_, h0⟩ | ⟨gg, cap, cur, e0, hb0, hgb, hnc, hcm, hcs, htake⟩
      · exact absurd h0 (by omega)
      · refine ⟨gg, cap, a3, k3, F, e0, hnc, fun j u hu => ?_, I2.mono (by omega), B2⟩
        rw [← HNN.out] at hu
        have hj : j < 9 := by
          have := (List.getElem?_eq_some_iff.1 hu).1
          simpa using this
        subst e0
        rw [r2.cellAt j (by omega)]
        simpa using hu
    · have hk2 : ¬ ((1 : Int) < 1) := by omega
      go_wp2_with fail
      go_ret
      exact ⟨g1, k1, a3, k3, F, rfl, hk1, hc, hF.out, hb1⟩

end Go.Proofs.Ytdcbajejgphlgaa
