/- Actions as data, how their values read in memory, and the contracts of the exact statements' helpers on them. -/
import Derived.Test.YtplgnohncdfgcanOp1
namespace Go.Proofs.Ytplgnohncdfgcan
open Go.RowKit

/-- An action of a script. -/
structure DAct where
  kind : Int
  node : Int
  i : Int
  op : DOp
  key : List Int

/-- The value v reads as the action d. -/
def VAct (w : World) (v : Value) (d : DAct) : Prop := ∃ kv vv yv, v = .agg #[.int .i64 d.kind, .int .i64 d.node, .int .i64 d.i, .int .i64 d.op.kind, kv, vv, .int .i64 d.op.n, yv] ∧ RV w kv d.op.key ∧ RV w vv d.op.val ∧ RV w yv d.key

theorem VAct.ext {w w' : World} {v : Value} {d : DAct} (h : VAct w v d) (k : Ext w w') : VAct w' v d := by
  obtain ⟨kv, vv, yv, hv, h1, h2, h3⟩ := h
  exact ⟨kv, vv, yv, hv, h1.ext k, h2.ext k, h3.ext k⟩

def rngAct (d : DAct) : Prop := rngOp d.op ∧ (∀ x ∈ d.key, 0 ≤ x ∧ x ≤ 255)

set_option maxHeartbeats 1000000 in
theorem szA (v : Value) (d : DAct) (l : Int) (w : World) (h : VAct w v d) (hl0 : 0 ≤ l) (hl : l ≤ 1048576) :
    Calls Try.prog 26 #[v, .int .i64 l] w (SzPost l (d.op.key.length + d.op.val.length + d.key.length) w) := by
  obtain ⟨kv, vv, yv, rfl, rk, rv, ry⟩ := h
  have hE : ∀ w : World, ∀ o, Ext w (w.alloc o) := fun w o => World.grownBy_alloc _ _ _
  have hB : ∀ w : World, ∀ o, Below w.heap.size w (w.alloc o) := fun w o => (Below.refl _ w).alloc (Nat.le_refl _) _
  go_enter Try.func26, Try.ntmps26
  go_wp2_with fail
  refine (szO _ d.op l _ ⟨kv, vv, rfl, rk.ext (hE _ _), rv.ext (hE _ _)⟩ hl0 hl).mono ?_
  rintro e w1 ⟨r, rfl, hr, b1⟩
  have B1 := (hB w _).trans (b1.mono (by simp))
  have P1 := below_blk b1 (by simp) (heap_alloc_new w _)
  have p7 := (at_block P1 7 _ rfl).1
  rcases hr with ⟨h1, rfl⟩ | ⟨h1, rfl⟩
  · go_wp2
    go_ret
    exact ⟨-1, rfl, .inl ⟨by omega, rfl⟩, B1⟩
  · obtain ⟨m, hm⟩ : ∃ m, m = l - ((d.op.key.length + d.op.val.length : Nat) : Int) := ⟨_, rfl⟩
    rw [← hm] at h1 ⊢
    have hm2 : m ≤ 1048576 := by omega
    have HM : Hid (m = l - ((d.op.key.length + d.op.val.length : Nat) : Int)) := hm
    clear hm
    by_cases h2 : m - d.key.length < 0
    · go_wp2_with fail
      refine (szB yv d.key m _ (ry.ext (ext_below B1)) h1 hm2).mono ?_
      rintro e w2 ⟨rfl, rfl⟩
      rw [if_pos (by omega)]
      go_wp2
      go_ret
      exact ⟨-1, rfl, .inl ⟨by have := HM.out; omega, rfl⟩, B1⟩
    · go_wp2_with fail
      refine (szB yv d.key m _ (ry.ext (ext_below B1)) h1 hm2).mono ?_
      rintro e w2 ⟨rfl, rfl⟩
      rw [if_neg (by omega)]
      obtain ⟨m2, hm2⟩ : ∃ m2, m2 = m - (d.key.length : Int) := ⟨_, rfl⟩
      rw [← hm2] at h2 ⊢
      have HM2 : Hid (m2 = m - (d.key.length : Int)) := hm2
      clear hm2
      go_wp2
      go_ret
      exact ⟨m2, rfl, .inr ⟨by have := HM.out; have := HM2.out; omega, by have := HM.out; have := HM2.out; omega⟩, B1⟩

set_option maxHeartbeats 1000000 in
theorem toA (v : Value) (d : DAct) (w : World) (h : VAct w v d) (hr : rngAct d) (hk : d.op.key.length ≤ 1048576) (hv : d.op.val.length ≤ 1048576) (hy : d.key.length ≤ 1048576) :
    Calls Try.prog 28 #[v] w fun e w' => ∃ v', e = .returned v' ∧ VAct w' v' d ∧ Below w.heap.size w w' := by
  obtain ⟨kv, vv, yv, rfl, rk, rv, ry⟩ := h
  have hE : ∀ w : World, ∀ o, Ext w (w.alloc o) := fun w o => World.grownBy_alloc _ _ _
  go_enter Try.func28, Try.ntmps28
  go_wp2_with fail
  refine (toO _ d.op _ ⟨kv, vv, rfl, rk.ext (((hE _ _).tr (hE _ _)).tr (hE _ _)), rv.ext (((hE _ _).tr (hE _ _)).tr (hE _ _))⟩ hr.1 hk hv).mono ?_
  rintro e w1 ⟨v1, rfl, ⟨k1, u1, rfl, ok1, ou1, hap⟩, b1⟩
  have hs1 : w.heap.size + 3 ≤ w1.heap.size := by have := b1.size; simp at this; omega
  have P1 := below_blk b1 (by simp; omega) (h3_0 w _ _ _)
  have R1 := below_blk b1 (by simp) (h3_1 w _ _ _)
  have T1 := below_blk b1 (by simp) (h3_2 w _ _ _)
  obtain ⟨ka, kc, rfl, _, _, _⟩ := Ow.rv ok1 hr.1.1
  obtain ⟨ua, uc, rfl, _, _, _⟩ := Ow.rv ou1 hr.1.2
  have B1 : Below w.heap.size w w1 := ((((Below.refl _ w).alloc (Nat.le_refl _) _).alloc (by simp) _).alloc (by simp; omega) _).trans (b1.mono (by simp; omega))
  have ok2 : Ow w1 (w.heap.size + 3) _ _ := ow_base ok1 (by simp)
  have ou2 : Ow w1 (w.heap.size + 3) _ _ := ow_base ou1 (by simp)
  clear b1 ok1 ou1
  have p7 := (at_block P1 7 _ rfl).1
  obtain ⟨t3, g3⟩ := at_block T1 3 _ rfl
  obtain ⟨t4, g4⟩ := at_block T1 4 _ rfl
  obtain ⟨t5, g5⟩ := at_block T1 5 _ rfl
  obtain ⟨t6, g6⟩ := at_block T1 6 _ rfl
  have HT : Hid _ := T1
  have HR : Hid _ := R1
  clear T1 R1 P1
  go_wp2_with fail
  have hBW : ∀ W, (∃ a b c e, W = (((w1.setCell ⟨w.heap.size + 1 + 1, 3, none⟩ a).setCell ⟨w.heap.size + 1 + 1, 4, none⟩ b).setCell ⟨w.heap.size + 1 + 1, 5, none⟩ c).setCell ⟨w.heap.size + 1 + 1, 6, none⟩ e) → Below w.heap.size w W := by
    rintro W ⟨a, b, c, e, rfl⟩
    repeat (refine below_set ?_ (by omega))
    exact B1
  refine (toV yv d.key _ (ry.ext (ext_below (hBW _ ⟨_, _, _, _, rfl⟩))) hy).mono ?_
  rintro e w3 ⟨y3, rfl, o3, b3⟩
  have hs3 : w.heap.size + 3 ≤ w3.heap.size := by have := b3.size; simp at this; omega
  have R3 := below_blk b3 (by simp; omega) (set_other (w.heap.size + 1 + 1) 6 _ (by omega) (set_other (w.heap.size + 1 + 1) 5 _ (by omega) (set_other (w.heap.size + 1 + 1) 4 _ (by omega) (set_other (w.heap.size + 1 + 1) 3 _ (by omega) HR.out))))
  have T3 := below_blk b3 (by simp; omega) (set_block (set_block (set_block (set_block HT.out 3 _) 4 _) 5 _) 6 _)
  have B3 := (hBW _ ⟨_, _, _, _, rfl⟩).trans (b3.mono (by have := B1.size; simp; omega))
  have ok3 : Ow w3 (w.heap.size + 3) _ _ := Ow.ext (ow_set (ow_set (ow_set (ow_set ok2 (by omega)) (by omega)) (by omega)) (by omega)) (ext_below b3)
  have ou3 : Ow w3 (w.heap.size + 3) _ _ := Ow.ext (ow_set (ow_set (ow_set (ow_set ou2 (by omega)) (by omega)) (by omega)) (by omega)) (ext_below b3)
  have oy3 : Ow w3 (w.heap.size + 3) _ _ := ow_base o3 (by simp; omega)
  obtain ⟨ya, yc, rfl, _, _, _⟩ := Ow.rv o3 hr.2
  clear b3 hBW HT HR ok2 ou2 o3
  obtain ⟨t0, f0⟩ := at_block T3 0 _ rfl
  obtain ⟨t1, f1⟩ := at_block T3 1 _ rfl
  obtain ⟨t2, f2⟩ := at_block T3 2 _ rfl
  obtain ⟨t3', f3⟩ := at_block T3 3 _ rfl
  obtain ⟨t4', f4⟩ := at_block T3 4 _ rfl
  obtain ⟨t5', f5⟩ := at_block T3 5 _ rfl
  obtain ⟨t6', f6⟩ := at_block T3 6 _ rfl
  obtain ⟨t7, f7⟩ := at_block T3 7 _ rfl
  obtain ⟨r0, z0⟩ := at_block R3 0 _ rfl
  obtain ⟨r1, z1⟩ := at_block R3 1 _ rfl
  obtain ⟨r2, z2⟩ := at_block R3 2 _ rfl
  obtain ⟨r3, z3⟩ := at_block R3 3 _ rfl
  obtain ⟨r4, z4⟩ := at_block R3 4 _ rfl
  obtain ⟨r5, z5⟩ := at_block R3 5 _ rfl
  obtain ⟨r6, z6⟩ := at_block R3 6 _ rfl
  obtain ⟨r7, z7⟩ := at_block R3 7 _ rfl
  clear T3 R3 t3 t4 t5 t6 g3 g4 g5 g6 p7
  go_wp2
  refine bodyPost_ret (v := .agg #[.int .i64 d.kind, .int .i64 d.node, .int .i64 d.i, .int .i64 d.op.kind, .slice ka d.op.key.length kc, .slice ua d.op.val.length uc, .int .i64 d.op.n, .slice ya d.key.length yc]) (by simp [results, Try.results28, go_sem, r0, r1, r2, r3, r4, r5, r6, r7]) rfl ?_
  refine ⟨_, rfl, ⟨_, _, _, rfl, Ow.rv (base := w.heap.size + 3) ?_ hr.1.1, Ow.rv (base := w.heap.size + 3) ?_ hr.1.2, Ow.rv (base := w.heap.size + 3) ?_ hr.2⟩, ?_⟩
  · repeat (refine ow_set ?_ (by omega))
    exact ok3
  · repeat (refine ow_set ?_ (by omega))
    exact ou3
  · repeat (refine ow_set ?_ (by omega))
    exact oy3
  · repeat (refine below_set ?_ (by omega))
    exact B3

set_option maxHeartbeats 1000000 in
theorem eqA (v u : Value) (d : DAct) (w : World) (h : VAct w v d) (k : VAct w u d) (hk : d.op.key.length ≤ 2097152) (hv : d.op.val.length ≤ 2097152) (hy : d.key.length ≤ 2097152) :
    Calls Try.prog 30 #[v, u] w fun e w' => e = .returned (.bool true) ∧ Below w.heap.size w w' := by
  obtain ⟨kv, vv, yv, rfl, rk, rv, ry⟩ := h
  obtain ⟨kv', vv', yv', rfl, rk', rv', ry'⟩ := k
  have hE : ∀ w : World, ∀ o, Ext w (w.alloc o) := fun w o => World.grownBy_alloc _ _ _
  have x2 : ∀ a b, Ext w ((w.alloc a).alloc b) := fun a b => (hE _ _).tr (hE _ _)
  have B2 : ∀ a b, Below w.heap.size w ((w.alloc a).alloc b) := fun a b => ((Below.refl _ w).alloc (Nat.le_refl _) _).alloc (by simp) _
  go_enter Try.func30, Try.ntmps30
  go_wp2_with fail
  refine (eqO _ _ d.op _ ⟨kv, vv, rfl, rk.ext (x2 _ _), rv.ext (x2 _ _)⟩ ⟨kv', vv', rfl, rk'.ext (x2 _ _), rv'.ext (x2 _ _)⟩ hk hv).mono ?_
  rintro e w1 ⟨rfl, b1⟩
  have B1 := (B2 _ _).trans (b1.mono (by simp; omega))
  have Q1 := below_blk b1 (by simp; omega) ((Below.heap_alloc (w.alloc _) _ w.heap.size (by simp)).trans (heap_alloc_new w _))
  have Q2 := below_blk b1 (by simp) (heap_alloc_new (w.alloc _) _)
  clear b1
  obtain ⟨q7, _⟩ := at_block Q1 7 _ rfl
  have q7' : w1.cell? ⟨w.heap.size + 1, 7, none⟩ = some yv' := by
    have := (at_block Q2 7 _ rfl).1
    simpa using this
  clear Q1 Q2
  go_wp2_with fail
  refine (eqV_yes yv yv' d.key _ (ry.ext (ext_below B1)) (ry'.ext (ext_below B1)) hy).mono ?_
  rintro e w2 ⟨rfl, q2, rfl⟩
  go_wp2
  go_ret
  exact ⟨rfl, below_drewN B1 _⟩

end Go.Proofs.Ytplgnohncdfgcan
