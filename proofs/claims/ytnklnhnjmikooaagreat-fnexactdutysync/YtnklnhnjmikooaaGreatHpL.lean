
/- Marks of wheels; what the walk of a law on wheels carries. -/
import Derived.Test.YtnklnhnjmikooaaGreatHpU
import Derived.Test.YtnklnhnjmikooaaGreatHpK
import Derived.Test.YtnklnhnjmikooaaGreatWh3
import Derived.Deep.CutRange
namespace Go.Proofs.YtnklnhnjmikooaaGreat
open Go.RowKit

set_option maxHeartbeats 1000000 in
theorem markWh (base : Nat) (now : Int) (v : Value) (ts : List DTim) (k : Int) (w : World) (h : OwT w base v ts) (hn : ts.length ≤ 1048576) (hk0 : 0 ≤ k) (hk1 : k ≤ 100000) :
    Calls Tryz.prog 45 #[.agg #[.int .i64 now, v], .int .i64 k] w fun e w' => e = .returned (.int .i64 (k + 2 * ts.length)) ∧ OwT w' base v (mkT k ts.length) ∧ w.grownBy w' v.ownBlock := by
  obtain ⟨a, c, rfl⟩ := h.v.shape
  have HO : Hid (OwT w base (.slice a ts.length c) ts) := h
  have HN : Hid (ts.length ≤ 1048576) := hn
  obtain ⟨n, hnn⟩ : ∃ n, n = ts.length := ⟨_, rfl⟩
  rw [← hnn] at HO HN ⊢
  have HNN : Hid (n = ts.length) := hnn
  clear h hn hnn
  go_enter Tryz.func45, Tryz.ntmps45
  go_wp2_with fail
  refine (markOT base _ ts k _ (HO.out.alloc _) (by rw [← HNN.out]; exact HN.out) hk0 (by omega)).mono ?_
  rintro e w1 ⟨rfl, o1, g1⟩
  rw [← HNN.out] at o1 ⊢
  go_wp2
  go_ret
  exact ⟨rfl, o1, (World.grownBy_alloc _ _ _).trans g1⟩

set_option maxHeartbeats 1000000 in
theorem heldW (base : Nat) (now : Int) (v : Value) (n : Nat) (k : Int) (w : World) (h : OwT w base v (mkT k n)) (hn : n ≤ 1048576) (hk0 : 0 ≤ k) (hk1 : k ≤ 100000) :
    Calls Tryz.prog 50 #[.agg #[.int .i64 now, v], .int .i64 k] w fun e w' => e = .returned (.int .i64 (k + 2 * n)) ∧ Below w.heap.size w w' := by
  obtain ⟨a, c, rfl⟩ := h.v.shape
  rw [mkT_len] at h ⊢
  have HO : Hid (OwT w base (.slice a n c) (mkT k n)) := h
  have HN : Hid (n ≤ 1048576) := hn
  have hn1 : (n : Int) ≤ 1048576 := by omega
  clear h
  go_enter Tryz.func50, Tryz.ntmps50
  go_wp2_with fail
  refine (heldOT base _ n k _ (HO.out.alloc _) hk0 (by omega) HN.out).mono ?_
  rintro e w1 ⟨rfl, q, rfl⟩
  have h0 : ¬ (k + 2 * (n : Int) < 0) := by omega
  go_wp2
  go_ret
  exact ⟨rfl, below_drewN ((Below.refl _ w).alloc (Nat.le_refl _) _) q⟩

theorem OTims.own {w : World} {g base : Nat} {ts : List DTim} (h : OTims w g ts) (hb : base ≤ g) (hn : ts.length ≤ 1048576) : OwT w base (.slice (some ⟨g, 0, none⟩) ts.length ts.length) ts := by
  obtain ⟨F, ⟨cur, h1, h2, h3⟩, hF⟩ := h
  refine ⟨tc_len ts, .inr ⟨g, ts.length, cur, rfl, hb, h1, Nat.le_refl _, by unfold maxLen; omega, h2, ?_⟩⟩
  apply List.ext_getElem?
  intro j
  by_cases hj : j < ts.length * 2
  · obtain ⟨i, hi⟩ : ∃ i, i = j / 2 := ⟨_, rfl⟩
    obtain ⟨t, ht⟩ : ∃ t, ts[i]? = some t := ⟨_, List.getElem?_eq_getElem (by omega)⟩
    obtain ⟨g0, g1⟩ := tc_get ht
    obtain ⟨f0, f1⟩ := hF i t ht
    rw [List.getElem?_take, if_pos hj, Array.getElem?_toList]
    have hj2 : j = i * 2 ∨ j = i * 2 + 1 := by omega
    rcases hj2 with rfl | rfl
    · rw [g0, ← f0]
      have := h3 i (by omega) 0 (by omega)
      simpa using this
    · rw [g1, ← f1]
      exact h3 i (by omega) 1 (by omega)
  · rw [List.getElem?_eq_none (by simp; omega), List.getElem?_eq_none (by rw [tc_len]; omega)]

/-- What is carried through the walk of a law on wheels: the argument's box, the specification's answer (of the world Ws), the program's argument and its answer. -/
structure LW (w Ws W : World) (D R : DWheel) (av sv xv gv : Value) (s x g base : Nat) (G : List DTim) : Prop where
  low : Below w.heap.size w W
  sB : Below Ws.heap.size Ws W
  sV : VTims Ws sv R.tms
  a : W.heap[w.heap.size]? = some (.cells #[.int .i64 D.now, av] 24 (0, 0))
  s : W.heap[s]? = some (.cells #[.int .i64 R.now, sv] 37 (0, 0))
  x : W.heap[x]? = some (.cells #[.int .i64 D.now, xv] 37 (0, 0))
  g : W.heap[g]? = some (.cells #[.int .i64 R.now, gv] 37 (0, 0))
  gO : OwT W base gv G
  bs : Ws.heap.size ≤ base
  ws : w.heap.size ≤ Ws.heap.size
variable {w Ws W W' : World} {D R : DWheel} {av sv xv gv : Value} {s x g base : Nat} {G G' : List DTim}
theorem LW.grow (h : LW w Ws W D R av sv xv gv s x g base G) (b : Below W.heap.size W W') : LW w Ws W' D R av sv xv gv s x g base G :=
  ⟨h.low.trans (b.mono h.low.size), h.sB.trans (b.mono h.sB.size), h.sV, below_blk b (Array.getElem?_eq_some_iff.1 h.a).1 h.a, below_blk b (Array.getElem?_eq_some_iff.1 h.s).1 h.s, below_blk b (Array.getElem?_eq_some_iff.1 h.x).1 h.x, below_blk b (Array.getElem?_eq_some_iff.1 h.g).1 h.g, h.gO.kept (ext_below b) (by cases hv : gv.ownBlock <;> simp), h.bs, h.ws⟩
/-- A block of another type is none of this row. -/
theorem ne_row {W : World} {base b : Nat} {v : Value} {ts : List DTim} {cs : Array Value} {t : TypeId} (o : OwT W base v ts) (h : W.heap[b]? = some (.cells cs t (0, 0))) (ht : t ≠ 114) : some b ≠ v.ownBlock := by
  intro e
  rcases o.2 with ⟨hv, _⟩ | ⟨k, c, cur, hv, _, hg, _⟩
  · rw [hv] at e; cases e
  · rw [hv] at e
    simp only [Value.ownBlock, Option.some.injEq] at e
    subst e
    rw [h] at hg
    simp only [Option.some.injEq, Obj.cells.injEq] at hg
    exact ht hg.2.1
/-- A row of timers, not older than the specification's answer, has turned: the program's answer, or another. -/
theorem LW.turn {row : Value} {rb : Nat} {T : List DTim} (h : LW w Ws W D R av sv xv gv s x g base G) (o : OwT W rb row T) (hb : Ws.heap.size ≤ rb) (hg : W.grownBy W' row.ownBlock) (hG : OwT W' base gv G') : LW w Ws W' D R av sv xv gv s x g base G' := by
  have kp : ∀ (b : Nat) (cs : Array Value) (t : TypeId), W.heap[b]? = some (.cells cs t (0, 0)) → t ≠ 114 → W'.heap[b]? = some (.cells cs t (0, 0)) := fun b cs t hbb ht => (hg.block b (Array.getElem?_eq_some_iff.1 hbb).1 (ne_row o hbb ht)).trans hbb
  have hr : ∀ k, row.ownBlock = some k → rb ≤ k := fun k hk => (World.ownsRow.lt o k hk).1
  exact ⟨h.low.grown hg h.low.size (fun k hk => Nat.le_trans (Nat.le_trans h.ws hb) (hr k hk)), h.sB.grown hg h.sB.size (fun k hk => Nat.le_trans hb (hr k hk)), h.sV, kp _ _ _ h.a (by decide), kp _ _ _ h.s (by decide), kp _ _ _ h.x (by decide), kp _ _ _ h.g (by decide), hG, h.bs, h.ws⟩
theorem LW.sW (h : LW w Ws W D R av sv xv gv s x g base G) : VWheel W (.agg #[.int .i64 R.now, sv]) R := ⟨sv, rfl, h.sV.ext (ext_below h.sB)⟩

theorem hideP {p : Prop} (h : p) : Hid p := h
theorem stopD_len (D : DWheel) (id : Int) (h : D.tms.length ≤ 1048576) : (stopD (tB (WheelP D)) D id).1.tms.length ≤ 1048576 := by
  unfold stopD
  split
  · split
    · exact h
    · simp only
      rw [List.length_eraseIdx]
      split <;> omega
  · simp
theorem keptW {w w' : World} {g g' : Nat} {a0 a1 b0 b1 : Value} (h : (w.cell? ⟨g, 0, none⟩ = some a0 ∧ w.cell? ⟨g, 1, none⟩ = some a1) ∧ (w.cell? ⟨g', 0, none⟩ = some b0 ∧ w.cell? ⟨g', 1, none⟩ = some b1)) (hb : Below w.heap.size w w') :
    (w'.cell? ⟨g, 0, none⟩ = some a0 ∧ w'.cell? ⟨g, 1, none⟩ = some a1) ∧ (w'.cell? ⟨g', 0, none⟩ = some b0 ∧ w'.cell? ⟨g', 1, none⟩ = some b1) := by
  have hg : g < w.heap.size := World.block_lt_of_cell? w _ h.1.1
  have hg' : g' < w.heap.size := World.block_lt_of_cell? w _ h.2.1
  obtain ⟨⟨h0, h1⟩, h2, h3⟩ := h
  exact ⟨⟨(hb.cell (p := ⟨g, 0, none⟩) hg).trans h0, (hb.cell (p := ⟨g, 1, none⟩) hg).trans h1⟩, (hb.cell (p := ⟨g', 0, none⟩) hg').trans h2, (hb.cell (p := ⟨g', 1, none⟩) hg').trans h3⟩

end Go.Proofs.YtnklnhnjmikooaaGreat
