
/- Marks of wheels; what the walk of a law on wheels carries. -/
import Derived.Test.YtnklnhnjmikooaaGreatHpS
import Derived.Test.YtnklnhnjmikooaaGreatHpO
import Derived.Test.YtnklnhnjmikooaaGreatHpB
import Derived.Test.YtnklnhnjmikooaaGreatWh3
import Derived.Deep.CutRange
namespace Go.Proofs.YtnklnhnjmikooaaGreat
open Go.RowKit

/-- A wheel and a bool, to be read. -/
def SResW (R : DWheel × Bool) (w : World) (e : Ending) (w' : World) : Prop := ∃ tv, e = .returned (.tuple #[.agg #[.int .i64 R.1.now, tv], .bool R.2]) ∧ VTims w' tv R.1.tms ∧ Below w.heap.size w w'

end Go.Proofs.YtnklnhnjmikooaaGreat

namespace Go.Proofs.YtnklnhnjmikooaaGreat
open Go.RowKit

/-- n timers of marks from k on. -/
def mkT (k : Int) (n : Nat) : List DTim := (List.range n).map fun i : Nat => ⟨k + 2 * (i : Int), k + 2 * (i : Int) + 1⟩
theorem mkT_len (k : Int) (n : Nat) : (mkT k n).length = n := by simp [mkT]
theorem mkT_get (k : Int) (n i : Nat) (h : i < n) : (mkT k n)[i]? = some ⟨k + 2 * (i : Int), k + 2 * (i : Int) + 1⟩ := by simp [mkT, h]
theorem mkT_set (k : Int) (ts : List DTim) (i : Nat) (h : i < ts.length) : (mkT k i ++ ts.drop i).set i ⟨k + 2 * (i : Int), k + 2 * (i : Int) + 1⟩ = mkT k (i + 1) ++ ts.drop (i + 1) := by
  rw [List.set_append_right _ _ (by rw [mkT_len]; omega), mkT_len, Nat.sub_self, List.drop_eq_getElem_cons h, List.set_cons_zero]
  simp [mkT, List.range_succ]

set_option maxHeartbeats 1000000 in
theorem mNilT (k : Int) (w : World) : Calls Tryz.prog 91 #[.slice none 0 0, .int .i64 k] w fun e w' => e = .returned (.int .i64 k) ∧ w' = w := by
  go_enter Tryz.func91, Tryz.ntmps91
  go_wp2
  refine wp_loop_rounds 1 ?_
  rw [rounds_succ]
  go_wp2
  go_ret
  exact ⟨rfl, rfl⟩
set_option maxHeartbeats 1000000 in
theorem hNilT (k : Int) (w : World) : Calls Tryz.prog 92 #[.slice none 0 0, .int .i64 k] w fun e w' => e = .returned (.int .i64 k) ∧ w' = w := by
  go_enter Tryz.func92, Tryz.ntmps92
  go_wp2
  refine wp_loop_rounds 1 ?_
  rw [rounds_succ]
  go_wp2
  go_ret
  exact ⟨rfl, rfl⟩

set_option maxHeartbeats 2000000 in
theorem markOT (base : Nat) (v : Value) (ts : List DTim) (k : Int) (w : World) (h : OwT w base v ts) (hn : ts.length ≤ 1048576) (hk0 : 0 ≤ k) (hk1 : k ≤ 1000000000) :
    Calls Tryz.prog 91 #[v, .int .i64 k] w fun e w' => e = .returned (.int .i64 (k + 2 * ts.length)) ∧ OwT w' base v (mkT k ts.length) ∧ w.grownBy w' v.ownBlock := by
  rcases h.2 with ⟨rfl, h0⟩ | ⟨g, cap, cur, rfl, _, _, hnc, hcm, _⟩
  · have : ts = [] := List.eq_nil_of_length_eq_zero h0
    subst this
    refine (mNilT k w).mono fun e w' ⟨h1, h2⟩ => ?_
    subst h2
    exact ⟨by simpa using h1, h, ⟨rfl, rfl, rfl, Nat.le_refl _, fun _ _ _ => rfl⟩⟩
  · obtain ⟨n, hnn⟩ : ∃ n, n = ts.length := ⟨_, rfl⟩
    rw [← hnn] at hn h hnc ⊢
    have HN : Hid (n = ts.length) := hnn
    clear hnn
    unfold maxLen at hcm
    go_enter Tryz.func91, Tryz.ntmps91
    go_wp2
    go_loopw [1, 5] (fun kv i wr => ∃ i' : Nat, i' ≤ n ∧ i = .int .i64 i' ∧ kv = .int .i64 (k + 2 * i') ∧ Hid (OwT wr base (.slice (some ⟨g, 0, none⟩) n cap) (mkT k i' ++ ts.drop i')) ∧ w.grownBy wr (some g)) (fun _ i _ => n - (intOf i).toNat)
    case atStart => exact ⟨0, Nat.zero_le _, rfl, by simp, h, ⟨rfl, rfl, rfl, Nat.le_refl _, fun _ _ _ => rfl⟩⟩
    case round =>
      obtain ⟨i, hi, rfl, rfl, HO, hg⟩ := hrel
      have HLL : Hid (n = (mkT k i ++ ts.drop i).length) := by show _ = _; simp [mkT_len]; have := HN.out; omega
      by_cases hlt : i < n
      · obtain ⟨t, ht⟩ : ∃ t, (mkT k i ++ ts.drop i)[i]? = some t := ⟨_, List.getElem?_eq_getElem (by have := HLL.out; omega)⟩
        obtain ⟨c0, c1, f0, f1⟩ := HO.out.cells HLL.out ht
        have R := HO.out.set HLL.out i hlt ⟨k + 2 * (i : Int), k + 2 * (i : Int) + 1⟩
        rw [mkT_set k ts i (by have := HN.out; omega)] at R
        have HR : Hid (OwT ((wr.setCell ⟨g, i * 2, none⟩ (.int .i64 (k + 2 * (i : Int)))).setCell ⟨g, i * 2 + 1, none⟩ (.int .i64 (k + 2 * (i : Int) + 1))) base (.slice (some ⟨g, 0, none⟩) n cap) (mkT k (i + 1) ++ ts.drop (i + 1))) := R
        have HG : Hid (w.grownBy ((wr.setCell ⟨g, i * 2, none⟩ (.int .i64 (k + 2 * (i : Int)))).setCell ⟨g, i * 2 + 1, none⟩ (.int .i64 (k + 2 * (i : Int) + 1))) (some g)) := (hg.trans (set_grown wr g _ _)).trans (set_grown _ g _ _)
        have hlt' : (i : Int) < (n : Int) := by omega
        clear R hg ht
        go_wp2
        go_roundw
        case rel => exact ⟨i + 1, by omega, by go_num, by go_num, HR, HG.out⟩
        case measure => simp [intOf]; omega
      · have hin : i = n := by omega
        subst hin
        have HF : Hid (OwT wr base (.slice (some ⟨g, 0, none⟩) i cap) (mkT k i)) := by
          have := HO.out
          rw [List.drop_of_length_le (by have := HN.out; omega), List.append_nil] at this
          exact this
        go_wp2
        go_ret
        exact ⟨rfl, HF.out, hg⟩

set_option maxHeartbeats 2000000 in
theorem heldOT (base : Nat) (v : Value) (n : Nat) (k : Int) (w : World) (h : OwT w base v (mkT k n)) (hk0 : 0 ≤ k) (hk1 : k ≤ 1000000000) (hn : n ≤ 1048576) :
    Calls Tryz.prog 92 #[v, .int .i64 k] w fun e w' => e = .returned (.int .i64 (k + 2 * n)) ∧ ∃ q, w' = w.drewN q := by
  rcases h.2 with ⟨rfl, h0⟩ | ⟨g, cap, cur, rfl, _, _, hnc, hcm, _⟩
  · rw [mkT_len] at h0
    subst h0
    refine (hNilT k w).mono fun e w' ⟨h1, h2⟩ => ⟨by simpa using h1, 0, h2⟩
  · rw [mkT_len] at h hnc ⊢
    unfold maxLen at hcm
    go_enter Tryz.func92, Tryz.ntmps92
    go_wp2
    go_loopw [1, 5] (fun kv i wr => ∃ i' q : Nat, i' ≤ n ∧ i = .int .i64 i' ∧ kv = .int .i64 (k + 2 * i') ∧ wr = w.drewN q) (fun _ i _ => n - (intOf i).toNat)
    case atStart => exact ⟨0, 0, Nat.zero_le _, rfl, by simp, rfl⟩
    case round =>
      obtain ⟨i, q, hi, rfl, rfl, rfl⟩ := hrel
      by_cases hlt : i < n
      · obtain ⟨c0, c1, _, _⟩ := h.cells (mkT_len k n).symm (mkT_get k n i hlt)
        have hlt' : (i : Int) < (n : Int) := by omega
        have HC : Hid (∀ q, (w.drewN q).cell? ⟨g, i * 2, none⟩ = some (.int .i64 (k + 2 * (i : Int))) ∧ (w.drewN q).cell? ⟨g, i * 2 + 1, none⟩ = some (.int .i64 (k + 2 * (i : Int) + 1))) := fun q => ⟨c0, c1⟩
        simp only at c0 c1
        go_wp2
        try go_quiet (fail)
        try go_wp2
        try go_quiet (fail)
        try go_wp2
        go_roundw
        case rel => exact ⟨i + 1, _, by omega, by go_num, by go_num, by first | rfl | exact World.drewN_drewN _ _ _ | (rw [World.drewN_drewN, World.drewN_drewN])⟩
        case measure => simp [intOf]; omega
      · have hin : i = n := by omega
        subst hin
        go_wp2
        go_ret
        exact ⟨rfl, _, rfl⟩

end Go.Proofs.YtnklnhnjmikooaaGreat

namespace Go.Proofs.YtnklnhnjmikooaaGreat
open Go.RowKit

set_option maxHeartbeats 1000000 in
theorem markWh (base : Nat) (now : Int) (v : Value) (ts : List DTim) (k : Int) (w : World) (h : OwT w base v ts) (hn : ts.length ≤ 1048576) (hk0 : 0 ≤ k) (hk1 : k ≤ 100000) :
    Calls Tryz.prog 45 #[.agg #[.int .i64 now, v], .int .i64 k] w fun e w' => e = .returned (.int .i64 (k + 2 * ts.length)) ∧ OwT w' base v (mkT k ts.length) ∧ w.grownBy w' v.ownBlock := by
  obtain ⟨a, c, rfl⟩ := h.v.shape
  have HO : Hid (OwT w base (.slice a ts.length c) ts) := h
  have HN : Hid (ts.length ≤ 1048576) := hn
  obtain ⟨n, hnn⟩ : ∃ n, n = ts.length := ⟨_, rfl⟩
  rw [← hnn] at HO HN ⊢
  have HNN : Hid (n = ts.length) := hnn
  clear h hn hnn
  go_enter Tryz.func45, Tryz.ntmps45
  go_wp2_with fail
  refine (markOT base _ ts k _ (HO.out.alloc _) (by rw [← HNN.out]; exact HN.out) hk0 (by omega)).mono ?_
  rintro e w1 ⟨rfl, o1, g1⟩
  rw [← HNN.out] at o1 ⊢
  go_wp2
  go_ret
  exact ⟨rfl, o1, (World.grownBy_alloc _ _ _).trans g1⟩

set_option maxHeartbeats 1000000 in
theorem heldW (base : Nat) (now : Int) (v : Value) (n : Nat) (k : Int) (w : World) (h : OwT w base v (mkT k n)) (hn : n ≤ 1048576) (hk0 : 0 ≤ k) (hk1 : k ≤ 100000) :
    Calls Tryz.prog 50 #[.agg #[.int .i64 now, v], .int .i64 k] w fun e w' => e = .returned (.int .i64 (k + 2 * n)) ∧ Below w.heap.size w w' := by
  obtain ⟨a, c, rfl⟩ := h.v.shape
  rw [mkT_len] at h ⊢
  have HO : Hid (OwT w base (.slice a n c) (mkT k n)) := h
  have HN : Hid (n ≤ 1048576) := hn
  have hn1 : (n : Int) ≤ 1048576 := by omega
  clear h
  go_enter Tryz.func50, Tryz.ntmps50
  go_wp2_with fail
  refine (heldOT base _ n k _ (HO.out.alloc _) hk0 (by omega) HN.out).mono ?_
  rintro e w1 ⟨rfl, q, rfl⟩
  have h0 : ¬ (k + 2 * (n : Int) < 0) := by omega
  go_wp2
  go_ret
  exact ⟨rfl, below_drewN ((Below.refl _ w).alloc (Nat.le_refl _) _) q⟩

theorem OTims.own {w : World} {g base : Nat} {ts : List DTim} (h : OTims w g ts) (hb : base ≤ g) (hn : ts.length ≤ 1048576) : OwT w base (.slice (some ⟨g, 0, none⟩) ts.length ts.length) ts := by
  obtain ⟨F, ⟨cur, h1, h2, h3⟩, hF⟩ := h
  refine ⟨tc_len ts, .inr ⟨g, ts.length, cur, rfl, hb, h1, Nat.le_refl _, by unfold maxLen; omega, h2, ?_⟩⟩
  apply List.ext_getElem?
  intro j
  by_cases hj : j < ts.length * 2
  · obtain ⟨i, hi⟩ : ∃ i, i = j / 2 := ⟨_, rfl⟩
    obtain ⟨t, ht⟩ : ∃ t, ts[i]? = some t := ⟨_, List.getElem?_eq_getElem (by omega)⟩
    obtain ⟨g0, g1⟩ := tc_get ht
    obtain ⟨f0, f1⟩ := hF i t ht
    rw [List.getElem?_take, if_pos hj, Array.getElem?_toList]
    have hj2 : j = i * 2 ∨ j = i * 2 + 1 := by omega
    rcases hj2 with rfl | rfl
    · rw [g0, ← f0]
      have := h3 i (by omega) 0 (by omega)
      simpa using this
    · rw [g1, ← f1]
      exact h3 i (by omega) 1 (by omega)
  · rw [List.getElem?_eq_none (by simp; omega), List.getElem?_eq_none (by rw [tc_len]; omega)]

/-- What is carried through the walk of a law on wheels: the argument's box, the specification's answer (of the world Ws), the program's argument and its answer. -/
structure LW (w Ws W : World) (D R : DWheel) (av sv xv gv : Value) (s x g base : Nat) (G : List DTim) : Prop where
  low : Below w.heap.size w W
  sB : Below Ws.heap.size Ws W
  sV : VTims Ws sv R.tms
  a : W.heap[w.heap.size]? = some (.cells #[.int .i64 D.now, av] 24 (0, 0))
  s : W.heap[s]? = some (.cells #[.int .i64 R.now, sv] 37 (0, 0))
  x : W.heap[x]? = some (.cells #[.int .i64 D.now, xv] 37 (0, 0))
  g : W.heap[g]? = some (.cells #[.int .i64 R.now, gv] 37 (0, 0))
  gO : OwT W base gv G
  bs : Ws.heap.size ≤ base
  ws : w.heap.size ≤ Ws.heap.size
variable {w Ws W W' : World} {D R : DWheel} {av sv xv gv : Value} {s x g base : Nat} {G G' : List DTim}
theorem LW.grow (h : LW w Ws W D R av sv xv gv s x g base G) (b : Below W.heap.size W W') : LW w Ws W' D R av sv xv gv s x g base G :=
  ⟨h.low.trans (b.mono h.low.size), h.sB.trans (b.mono h.sB.size), h.sV, below_blk b (Array.getElem?_eq_some_iff.1 h.a).1 h.a, below_blk b (Array.getElem?_eq_some_iff.1 h.s).1 h.s, below_blk b (Array.getElem?_eq_some_iff.1 h.x).1 h.x, below_blk b (Array.getElem?_eq_some_iff.1 h.g).1 h.g, h.gO.kept (ext_below b) (by cases hv : gv.ownBlock <;> simp), h.bs, h.ws⟩
/-- A block of another type is none of this row. -/
theorem ne_row {W : World} {base b : Nat} {v : Value} {ts : List DTim} {cs : Array Value} {t : TypeId} (o : OwT W base v ts) (h : W.heap[b]? = some (.cells cs t (0, 0))) (ht : t ≠ 114) : some b ≠ v.ownBlock := by
  intro e
  rcases o.2 with ⟨hv, _⟩ | ⟨k, c, cur, hv, _, hg, _⟩
  · rw [hv] at e; cases e
  · rw [hv] at e
    simp only [Value.ownBlock, Option.some.injEq] at e
    subst e
    rw [h] at hg
    simp only [Option.some.injEq, Obj.cells.injEq] at hg
    exact ht hg.2.1
/-- A row of timers, not older than the specification's answer, has turned: the program's answer, or another. -/
theorem LW.turn {row : Value} {rb : Nat} {T : List DTim} (h : LW w Ws W D R av sv xv gv s x g base G) (o : OwT W rb row T) (hb : Ws.heap.size ≤ rb) (hg : W.grownBy W' row.ownBlock) (hG : OwT W' base gv G') : LW w Ws W' D R av sv xv gv s x g base G' := by
  have kp : ∀ (b : Nat) (cs : Array Value) (t : TypeId), W.heap[b]? = some (.cells cs t (0, 0)) → t ≠ 114 → W'.heap[b]? = some (.cells cs t (0, 0)) := fun b cs t hbb ht => (hg.block b (Array.getElem?_eq_some_iff.1 hbb).1 (ne_row o hbb ht)).trans hbb
  have hr : ∀ k, row.ownBlock = some k → rb ≤ k := fun k hk => (World.ownsRow.lt o k hk).1
  exact ⟨h.low.grown hg h.low.size (fun k hk => Nat.le_trans (Nat.le_trans h.ws hb) (hr k hk)), h.sB.grown hg h.sB.size (fun k hk => Nat.le_trans hb (hr k hk)), h.sV, kp _ _ _ h.a (by decide), kp _ _ _ h.s (by decide), kp _ _ _ h.x (by decide), kp _ _ _ h.g (by decide), hG, h.bs, h.ws⟩
theorem LW.sW (h : LW w Ws W D R av sv xv gv s x g base G) : VWheel W (.agg #[.int .i64 R.now, sv]) R := ⟨sv, rfl, h.sV.ext (ext_below h.sB)⟩

theorem hideP {p : Prop} (h : p) : Hid p := h
theorem stopD_len (D : DWheel) (id : Int) (h : D.tms.length ≤ 1048576) : (stopD (tB (WheelP D)) D id).1.tms.length ≤ 1048576 := by
  unfold stopD
  split
  · split
    · exact h
    · simp only
      rw [List.length_eraseIdx]
      split <;> omega
  · simp
theorem keptW {w w' : World} {g g' : Nat} {a0 a1 b0 b1 : Value} (h : (w.cell? ⟨g, 0, none⟩ = some a0 ∧ w.cell? ⟨g, 1, none⟩ = some a1) ∧ (w.cell? ⟨g', 0, none⟩ = some b0 ∧ w.cell? ⟨g', 1, none⟩ = some b1)) (hb : Below w.heap.size w w') :
    (w'.cell? ⟨g, 0, none⟩ = some a0 ∧ w'.cell? ⟨g, 1, none⟩ = some a1) ∧ (w'.cell? ⟨g', 0, none⟩ = some b0 ∧ w'.cell? ⟨g', 1, none⟩ = some b1) := by
  have hg : g < w.heap.size := World.block_lt_of_cell? w _ h.1.1
  have hg' : g' < w.heap.size := World.block_lt_of_cell? w _ h.2.1
  obtain ⟨⟨h0, h1⟩, h2, h3⟩ := h
  exact ⟨⟨(hb.cell (p := ⟨g, 0, none⟩) hg).trans h0, (hb.cell (p := ⟨g, 1, none⟩) hg).trans h1⟩, (hb.cell (p := ⟨g', 0, none⟩) hg').trans h2, (hb.cell (p := ⟨g', 1, none⟩) hg').trans h3⟩

end Go.Proofs.YtnklnhnjmikooaaGreat

