/- The contracts of the specification's and of the program's ActionOk. -/
import Derived.Test.YtplgnohncdfgcanAc0
import Derived.Test.YtplgnohncdfgcanOp3
import Derived.Test.YtplgnohncdfgcanIOp
import Derived.Test.YtplgnohncdfgcanConv
namespace Go.Proofs.Ytplgnohncdfgcan
open Go.RowKit

def aKeyB (d : DAct) : Bool := if d.kind = 8 ∨ d.kind = 9 then keyB d.key else decide (d.key.length = 0)
def aOpB (d : DAct) : Bool := opB d.op && (decide (d.kind = 0) || decide (d.op.kind = 0))
/-- It may be an action. -/
def actB (d : DAct) : Bool := inB d.kind 0 9 && inB d.node 0 4 && inB d.i 0 2147483647 && aOpB d && aKeyB d

def zeroOp (o : DOp) : Bool := decide (o.kind = 0) && decide (o.key.length = 0) && decide (o.val.length = 0) && decide (o.n = 0)

theorem op_zero (o : DOp) : (opB o && decide (o.kind = 0)) = zeroOp o := by
  unfold opB zeroOp
  by_cases h : o.kind = 0
  · by_cases h1 : o.key.length = 0 <;> by_cases h2 : o.val.length = 0 <;> by_cases h3 : o.n = 0 <;> simp [h, h1, h2, h3]
  · simp [h]

set_option maxRecDepth 20000 in
set_option maxHeartbeats 2000000 in
theorem iaKeyOk (v : Value) (d : DAct) (w : World) (h : VAct w v d) :
    Calls Try.prog 62 #[v] w fun e w' => e = .returned (.bool (aKeyB d)) ∧ Below w.heap.size w w' := by
  obtain ⟨kv, vv, yv, rfl, rk, rv, ry⟩ := h
  have hE : ∀ w : World, ∀ o, Ext w (w.alloc o) := fun w o => World.grownBy_alloc _ _ _
  have hB : ∀ w : World, ∀ o, Below w.heap.size w (w.alloc o) := fun w o => (Below.refl _ w).alloc (Nat.le_refl _) _
  obtain ⟨kind, node, i, op, key⟩ := d
  simp only at rk rv ry ⊢
  by_cases h8 : kind = 8 ∨ kind = 9
  · have HC : Hid (aKeyB ⟨kind, node, i, op, key⟩ = keyB key) := if_pos h8
    rcases h8 with rfl | rfl
    · go_enter Try.func62, Try.ntmps62
      go_wp2_with (go_at_call 86; refine (keyOkV yv key _ (ry.ext (hE _ _))).mono ?_; rintro e w1 ⟨rfl, rfl⟩)
      go_ret
      exact ⟨by rw [HC.out]; rfl, hB _ _⟩
    · go_enter Try.func62, Try.ntmps62
      go_wp2_with (go_at_call 86; refine (keyOkV yv key _ (ry.ext (hE _ _))).mono ?_; rintro e w1 ⟨rfl, rfl⟩)
      go_ret
      exact ⟨by rw [HC.out]; rfl, hB _ _⟩
  · have HC : Hid (aKeyB ⟨kind, node, i, op, key⟩ = decide (key.length = 0)) := if_neg h8
    have e8 : (kind == 8) = false := by simp; omega
    have e9 : (kind == 9) = false := by simp; omega
    obtain ⟨ya, yc, rfl, yr, yl1, yl2⟩ := ry
    clear yr h8
    generalize key.length = m at *
    by_cases hm : m = 0
    · subst hm
      go_enter Try.func62, Try.ntmps62
      go_wp2
      go_ret
      exact ⟨by rw [HC.out]; rfl, hB _ _⟩
    · have hm' : ((m : Int) == 0) = false := by simpa using hm
      go_enter Try.func62, Try.ntmps62
      go_wp2
      go_ret
      exact ⟨by rw [HC.out]; simp [hm], hB _ _⟩

set_option maxRecDepth 20000 in
set_option maxHeartbeats 2000000 in
theorem iaOpOk (v : Value) (d : DAct) (w : World) (h : VAct w v d) :
    Calls Try.prog 61 #[v] w fun e w' => e = .returned (.bool (aOpB d)) ∧ Below w.heap.size w w' := by
  obtain ⟨kv, vv, yv, rfl, rk, rv, ry⟩ := h
  have hE : ∀ w : World, ∀ o, Ext w (w.alloc o) := fun w o => World.grownBy_alloc _ _ _
  have hB : ∀ w : World, ∀ o, Below w.heap.size w (w.alloc o) := fun w o => (Below.refl _ w).alloc (Nat.le_refl _) _
  obtain ⟨kind, node, i, ⟨okd, oky, ovl, on⟩, key⟩ := d
  simp only at rk rv ry ⊢
  have HO : Hid (∀ o, Calls Try.prog 85 #[.agg #[.int .i64 okd, kv, vv, .int .i64 on]] (w.alloc o) fun e w' => e = .returned (.bool (opB ⟨okd, oky, ovl, on⟩)) ∧ Below (w.alloc o).heap.size (w.alloc o) w') :=
    fun o => iOpOkV _ ⟨okd, oky, ovl, on⟩ _ ⟨kv, vv, rfl, rk.ext (hE _ _), rv.ext (hE _ _)⟩
  have HC : Hid (aOpB ⟨kind, node, i, ⟨okd, oky, ovl, on⟩, key⟩ = (opB ⟨okd, oky, ovl, on⟩ && (decide (kind = 0) || decide (okd = 0)))) := rfl
  clear rk rv ry
  generalize opB ⟨okd, oky, ovl, on⟩ = ob at HO HC
  cases ob
  · go_enter Try.func61, Try.ntmps61
    go_wp2_with (go_at_call 85; refine (HO.out _).mono ?_; rintro e w1 ⟨rfl, b1⟩)
    go_ret
    exact ⟨by rw [HC.out]; simp, (hB _ _).trans (b1.mono (by simp))⟩
  · by_cases h1 : kind = 0
    · subst h1
      go_enter Try.func61, Try.ntmps61
      go_wp2_with (go_at_call 85; refine (HO.out _).mono ?_; rintro e w1 ⟨rfl, b1⟩; have P1 := below_blk b1 (by simp) (heap_alloc_new w _); have p0 := (at_block P1 0 _ rfl).1; have p3 := (at_block P1 3 _ rfl).1)
      go_ret
      exact ⟨by rw [HC.out]; simp, (hB _ _).trans (b1.mono (by simp))⟩
    · have e1 : (kind == 0) = false := by simpa using h1
      by_cases h2 : okd = 0
      · subst h2
        go_enter Try.func61, Try.ntmps61
        go_wp2_with (go_at_call 85; refine (HO.out _).mono ?_; rintro e w1 ⟨rfl, b1⟩; have P1 := below_blk b1 (by simp) (heap_alloc_new w _); have p0 := (at_block P1 0 _ rfl).1; have p3 := (at_block P1 3 _ rfl).1)
        go_ret
        exact ⟨by rw [HC.out]; simp [h1], (hB _ _).trans (b1.mono (by simp))⟩
      · have e2 : (okd == 0) = false := by simpa using h2
        go_enter Try.func61, Try.ntmps61
        go_wp2_with (go_at_call 85; refine (HO.out _).mono ?_; rintro e w1 ⟨rfl, b1⟩; have P1 := below_blk b1 (by simp) (heap_alloc_new w _); have p0 := (at_block P1 0 _ rfl).1; have p3 := (at_block P1 3 _ rfl).1)
        go_ret
        exact ⟨by rw [HC.out]; simp [h1, h2], (hB _ _).trans (b1.mono (by simp))⟩


set_option maxRecDepth 20000 in
set_option maxHeartbeats 2000000 in
theorem iActOkV (v : Value) (d : DAct) (w : World) (h : VAct w v d) :
    Calls Try.prog 29 #[v] w fun e w' => e = .returned (.bool (actB d)) ∧ Below w.heap.size w w' := by
  have h0 := h
  obtain ⟨kv, vv, yv, rfl, rk, rv, ry⟩ := h
  have hE : ∀ w : World, ∀ o, Ext w (w.alloc o) := fun w o => World.grownBy_alloc _ _ _
  have hB : ∀ w : World, ∀ o, Below w.heap.size w (w.alloc o) := fun w o => (Below.refl _ w).alloc (Nat.le_refl _) _
  obtain ⟨c1, h1⟩ : ∃ c, c = inB d.kind 0 9 := ⟨_, rfl⟩
  obtain ⟨c2, h2⟩ : ∃ c, c = inB d.node 0 4 := ⟨_, rfl⟩
  obtain ⟨c3, h3⟩ : ∃ c, c = inB d.i 0 2147483647 := ⟨_, rfl⟩
  obtain ⟨c4, h4⟩ : ∃ c, c = aOpB d := ⟨_, rfl⟩
  obtain ⟨c5, h5⟩ : ∃ c, c = aKeyB d := ⟨_, rfl⟩
  have HC : Hid (actB d = (c1 && c2 && c3 && c4 && c5)) := by rw [h1, h2, h3, h4, h5]; rfl
  have H1 : Hid (c1 = inB d.kind 0 9) := h1
  have H2 : Hid (c2 = inB d.node 0 4) := h2
  have H3 : Hid (c3 = inB d.i 0 2147483647) := h3
  have HX : Hid (∀ W, Ext w W → Calls Try.prog 61 #[.agg #[.int .i64 d.kind, .int .i64 d.node, .int .i64 d.i, .int .i64 d.op.kind, kv, vv, .int .i64 d.op.n, yv]] W fun e w' => e = .returned (.bool c4) ∧ Below W.heap.size W w') := fun W x => h4 ▸ iaOpOk _ d W (h0.ext x)
  have HY : Hid (∀ W, Ext w W → Calls Try.prog 62 #[.agg #[.int .i64 d.kind, .int .i64 d.node, .int .i64 d.i, .int .i64 d.op.kind, kv, vv, .int .i64 d.op.n, yv]] W fun e w' => e = .returned (.bool c5) ∧ Below W.heap.size W w') := fun W x => h5 ▸ iaKeyOk _ d W (h0.ext x)
  clear h1 h2 h3 h4 h5 h0 rk rv ry
  cases c1
  · go_enter Try.func29, Try.ntmps29
    go_wp2_with (go_at_call 44; refine (withinV _ _ _ _).mono ?_; rintro e w2 ⟨rfl, rfl⟩; rw [← H1.out])
    go_ret
    exact ⟨by rw [HC.out]; rfl, hB _ _⟩
  cases c2
  · go_enter Try.func29, Try.ntmps29
    go_wp2_with (go_at_call 44; refine (withinV _ _ _ _).mono ?_; rintro e w2 ⟨rfl, rfl⟩; first | rw [← H1.out] | rw [← H2.out])
    go_ret
    exact ⟨by rw [HC.out]; rfl, hB _ _⟩
  cases c3
  · go_enter Try.func29, Try.ntmps29
    go_wp2_with (go_at_call 44; refine (withinV _ _ _ _).mono ?_; rintro e w2 ⟨rfl, rfl⟩; first | rw [← H1.out] | rw [← H2.out] | rw [← H3.out])
    go_ret
    exact ⟨by rw [HC.out]; rfl, hB _ _⟩
  cases c4
  · go_enter Try.func29, Try.ntmps29
    go_wp2_with (first
      | (go_at_call 44; refine (withinV _ _ _ _).mono ?_; rintro e w2 ⟨rfl, rfl⟩; first | rw [← H1.out] | rw [← H2.out] | rw [← H3.out])
      | (go_at_call 61; refine (HX.out _ (hE _ _)).mono ?_; rintro e w3 ⟨rfl, b3⟩))
    go_ret
    exact ⟨by rw [HC.out]; rfl, (hB _ _).trans (b3.mono (by simp))⟩
  · go_enter Try.func29, Try.ntmps29
    go_wp2_with (first
      | (go_at_call 44; refine (withinV _ _ _ _).mono ?_; rintro e w2 ⟨rfl, rfl⟩; first | rw [← H1.out] | rw [← H2.out] | rw [← H3.out])
      | (go_at_call 61; refine (HX.out _ (hE _ _)).mono ?_; rintro e w3 ⟨rfl, b3⟩; have P1 := below_blk b3 (by simp) (heap_alloc_new w _); have p0 := (at_block P1 0 _ rfl).1; have p1 := (at_block P1 1 _ rfl).1; have p2 := (at_block P1 2 _ rfl).1; have p3 := (at_block P1 3 _ rfl).1; have p4 := (at_block P1 4 _ rfl).1; have p5 := (at_block P1 5 _ rfl).1; have p6 := (at_block P1 6 _ rfl).1; have p7 := (at_block P1 7 _ rfl).1)
      | (go_at_call 62; refine (HY.out _ ((hE _ _).tr (ext_below b3))).mono ?_; rintro e w4 ⟨rfl, b4⟩))
    go_ret
    exact ⟨by rw [HC.out]; rfl, ((hB _ _).trans (b3.mono (by simp))).trans (b4.mono (by have := b3.size; simp at this; omega))⟩

set_option maxRecDepth 20000 in
set_option maxHeartbeats 2000000 in
/-- An operation held against the zero one. -/
theorem same0 (v : Value) (o : DOp) (w : World) (h : VOp w v o) :
    Calls Try.prog 58 #[v, .agg #[.int .i64 0, .slice none 0 0, .slice none 0 0, .int .i64 0]] w fun e w' => e = .returned (.bool (zeroOp o)) ∧ Below w.heap.size w w' := by
  obtain ⟨kv, vv, rfl, rk, rv⟩ := h
  obtain ⟨kind, ky, vl, n⟩ := o
  simp only at rk rv ⊢
  obtain ⟨ka, kc, rfl, kr, _, _⟩ := rk
  obtain ⟨va, vc, rfl, vr, _, _⟩ := rv
  have hE : ∀ w : World, ∀ o, Ext w (w.alloc o) := fun w o => World.grownBy_alloc _ _ _
  have x2 : ∀ a b, Ext w ((w.alloc a).alloc b) := fun a b => (hE _ _).tr (hE _ _)
  have hB : ∀ a b, Below w.heap.size w ((w.alloc a).alloc b) := fun a b => ((Below.refl _ w).alloc (Nat.le_refl _) _).alloc (by simp) _
  have kcv := fun a b q => convR (w := ((w.alloc a).alloc b).drewN q) ((kr.grown (x2 a b)).grown (ext_drewN _ q)) kc
  have vcv := fun a b q => convR (w := ((w.alloc a).alloc b).drewN q) ((vr.grown (x2 a b)).grown (ext_drewN _ q)) vc
  have zcv := fun a b q => convR (w := ((w.alloc a).alloc b).drewN q) (Rd.nil _ none) 0
  have kcv0 := fun a b => convR (kr.grown (x2 a b)) kc
  have vcv0 := fun a b => convR (vr.grown (x2 a b)) vc
  have zcv0 := fun a b => convR (w := (w.alloc a).alloc b) (Rd.nil _ none) 0
  have HK : ((strOfNums ky).toList == (strOfNums []).toList) = decide (ky.length = 0) := by
    rw [str_eq _ _ kr.rng (by simp)]
    cases ky <;> simp
  have HL : ((strOfNums vl).toList == (strOfNums []).toList) = decide (vl.length = 0) := by
    rw [str_eq _ _ vr.rng (by simp)]
    cases vl <;> simp
  have HC : Hid (zeroOp ⟨kind, ky, vl, n⟩ = (decide (kind = 0) && decide (ky.length = 0) && decide (vl.length = 0) && decide (n = 0))) := rfl
  clear kr vr
  by_cases h1 : kind = 0
  · subst h1
    by_cases h2 : ky.length = 0
    · have e2 : ((strOfNums ky).toList == (strOfNums []).toList) = true := by rw [HK]; simp [h2]
      by_cases h3 : vl.length = 0
      · have e3 : ((strOfNums vl).toList == (strOfNums []).toList) = true := by rw [HL]; simp [h3]
        have HC' : Hid (zeroOp ⟨0, ky, vl, n⟩ = decide (n = 0)) := by unfold Hid; rw [HC.out]; simp [h2, h3]
        clear HK HL HC h2 h3
        go_enter Try.func58, Try.ntmps58
        go_wp2
        go_ret
        exact ⟨by rw [HC'.out]; rfl, hB _ _⟩
      · have e3 : ((strOfNums vl).toList == (strOfNums []).toList) = false := by rw [HL]; simp [h3]
        have HC' : Hid (zeroOp ⟨0, ky, vl, n⟩ = false) := by unfold Hid; rw [HC.out]; simp [h3]
        clear HK HL HC h2 h3
        go_enter Try.func58, Try.ntmps58
        go_wp2
        go_ret
        exact ⟨by rw [HC'.out]; rfl, hB _ _⟩
    · have e2 : ((strOfNums ky).toList == (strOfNums []).toList) = false := by rw [HK]; simp [h2]
      have HC' : Hid (zeroOp ⟨0, ky, vl, n⟩ = false) := by unfold Hid; rw [HC.out]; simp [h2]
      clear HK HL HC h2
      go_enter Try.func58, Try.ntmps58
      go_wp2
      go_ret
      exact ⟨by rw [HC'.out]; rfl, hB _ _⟩
  · have e1 : (kind == 0) = false := by simpa using h1
    have HC' : Hid (zeroOp ⟨kind, ky, vl, n⟩ = false) := by unfold Hid; rw [HC.out]; simp [h1]
    clear HK HL HC h1
    go_enter Try.func58, Try.ntmps58
    go_wp2
    go_ret
    exact ⟨by rw [HC'.out]; rfl, hB _ _⟩


/-- The action as the specification asks it. -/
theorem actB_spec (d : DAct) : actB d = (decide (0 ≤ d.kind) && decide (d.kind ≤ 9) && (decide (0 ≤ d.node) && decide (d.node < 5)) && (decide (0 ≤ d.i) && decide (d.i ≤ 2147483647)) && (if 8 ≤ d.kind then keyB d.key else decide (d.key.length = 0)) && (if d.kind = 0 then opB d.op else zeroOp d.op)) := by
  have hz := op_zero d.op
  unfold actB aOpB aKeyB inB
  by_cases h1 : 0 ≤ d.kind ∧ d.kind ≤ 9
  · have e5 : decide (d.node ≤ 4) = decide (d.node < 5) := by
      rw [decide_eq_decide]; omega
    by_cases h8 : 8 ≤ d.kind
    · have h8' : d.kind = 8 ∨ d.kind = 9 := by omega
      have h0 : ¬ d.kind = 0 := by omega
      rw [if_pos h8, if_pos h8', if_neg h0, ← hz, e5]
      simp only [h0, decide_false, Bool.false_or]
      generalize opB d.op = a
      generalize keyB d.key = b
      cases a <;> cases b <;> simp
    · have h8' : ¬ (d.kind = 8 ∨ d.kind = 9) := by omega
      rw [if_neg h8, if_neg h8', e5]
      by_cases h0 : d.kind = 0
      · rw [if_pos h0]
        simp only [h0, decide_true, Bool.true_or, Bool.and_true]
        generalize opB d.op = a
        generalize decide (d.key.length = 0) = b
        cases a <;> cases b <;> simp
      · rw [if_neg h0, ← hz]
        simp only [h0, decide_false, Bool.false_or]
        generalize opB d.op = a
        generalize decide (d.key.length = 0) = b
        cases a <;> cases b <;> simp
  · by_cases h2 : 0 ≤ d.kind
    · have h3 : ¬ d.kind ≤ 9 := fun h => h1 ⟨h2, h⟩
      simp [h3]
    · simp [h2]

set_option maxRecDepth 20000 in
set_option maxHeartbeats 2000000 in
theorem sActOkV (v : Value) (d : DAct) (w : World) (h : VAct w v d) :
    Calls Try.prog 27 #[v] w fun e w' => e = .returned (.bool (actB d)) ∧ Below w.heap.size w w' := by
  obtain ⟨kv, vv, yv, rfl, rk, rv, ry⟩ := h
  have hE : ∀ w : World, ∀ o, Ext w (w.alloc o) := fun w o => World.grownBy_alloc _ _ _
  have hB : ∀ w : World, ∀ o, Below w.heap.size w (w.alloc o) := fun w o => (Below.refl _ w).alloc (Nat.le_refl _) _
  rw [actB_spec]
  obtain ⟨kind, node, i, op, key⟩ := d
  simp only at rk rv ry ⊢
  have HS : Hid (∀ o, Calls Try.prog 57 #[.agg #[.int .i64 op.kind, kv, vv, .int .i64 op.n]] (w.alloc o) fun e w' => e = .returned (.bool (opB op)) ∧ Below (w.alloc o).heap.size (w.alloc o) w') :=
    fun o => opOkV _ op _ ⟨kv, vv, rfl, rk.ext (hE _ _), rv.ext (hE _ _)⟩
  have HZ : Hid (∀ o, Calls Try.prog 58 #[.agg #[.int .i64 op.kind, kv, vv, .int .i64 op.n], .agg #[.int .i64 0, .slice none 0 0, .slice none 0 0, .int .i64 0]] (w.alloc o) fun e w' => e = .returned (.bool (zeroOp op)) ∧ Below (w.alloc o).heap.size (w.alloc o) w') :=
    fun o => same0 _ op _ ⟨kv, vv, rfl, rk.ext (hE _ _), rv.ext (hE _ _)⟩
  obtain ⟨ya, yc, rfl, yr, yl1, yl2⟩ := ry
  have HK : Hid (∀ o, Calls Try.prog 56 #[.slice ya key.length yc] (w.alloc o) fun e w' => e = .returned (.bool (keyB key)) ∧ w' = w.alloc o) :=
    fun o => l2keyV _ key _ ⟨ya, yc, rfl, yr.grown (hE _ _), yl1, yl2⟩
  clear rk rv yr
  generalize opB op = ob at HS ⊢
  generalize zeroOp op = zb at HZ ⊢
  generalize keyB key = kb at HK ⊢
  generalize key.length = m at *
  by_cases g1 : kind < 0
  · have d1 : decide (0 ≤ kind) = false := decide_eq_false (by omega)
    rw [d1]
    go_enter Try.func27, Try.ntmps27
    go_wp2
    go_ret
    exact ⟨by simp, hB _ _⟩
  by_cases g2 : 9 < kind
  · have d1 : decide (kind ≤ 9) = false := decide_eq_false (by omega)
    rw [d1]
    go_enter Try.func27, Try.ntmps27
    go_wp2
    go_ret
    exact ⟨by simp, hB _ _⟩
  by_cases g3 : node < 0
  · have d1 : decide (0 ≤ node) = false := decide_eq_false (by omega)
    rw [d1]
    go_enter Try.func27, Try.ntmps27
    go_wp2
    go_ret
    exact ⟨by simp, hB _ _⟩
  by_cases g4 : 5 ≤ node
  · have d1 : decide (node < 5) = false := decide_eq_false (by omega)
    rw [d1]
    go_enter Try.func27, Try.ntmps27
    go_wp2
    go_ret
    exact ⟨by simp, hB _ _⟩
  by_cases g5 : i < 0
  · have d1 : decide (0 ≤ i) = false := decide_eq_false (by omega)
    rw [d1]
    go_enter Try.func27, Try.ntmps27
    go_wp2
    go_ret
    exact ⟨by simp, hB _ _⟩
  by_cases g6 : 2147483647 < i
  · have d1 : decide (i ≤ 2147483647) = false := decide_eq_false (by omega)
    rw [d1]
    go_enter Try.func27, Try.ntmps27
    go_wp2
    go_ret
    exact ⟨by simp, hB _ _⟩
  have e1 : decide (0 ≤ kind) = true := decide_eq_true (by omega)
  have e2 : decide (kind ≤ 9) = true := decide_eq_true (by omega)
  have e3 : decide (0 ≤ node) = true := decide_eq_true (by omega)
  have e4 : decide (node < 5) = true := decide_eq_true (by omega)
  have e5 : decide (0 ≤ i) = true := decide_eq_true (by omega)
  have e6 : decide (i ≤ 2147483647) = true := decide_eq_true (by omega)
  rw [e1, e2, e3, e4, e5, e6]
  clear e1 e2 e3 e4 e5 e6
  by_cases g8 : 8 ≤ kind
  · rw [if_pos g8, if_neg (by omega : ¬ kind = 0)]
    have g0 : (kind == 0) = false := by simp; omega
    cases kb
    · go_enter Try.func27, Try.ntmps27
      go_wp2_with (go_at_call 56; refine (HK.out _).mono ?_; rintro e w1 ⟨rfl, rfl⟩)
      go_ret
      exact ⟨by simp, hB _ _⟩
    · go_enter Try.func27, Try.ntmps27
      go_wp2_with (first
        | (go_at_call 56; refine (HK.out _).mono ?_; rintro e w1 ⟨rfl, rfl⟩)
        | (go_at_call 58; refine (HZ.out _).mono ?_; rintro e w2 ⟨rfl, b2⟩))
      go_ret
      exact ⟨by simp, (hB _ _).trans (b2.mono (by simp))⟩
  · rw [if_neg g8]
    by_cases hm : 0 < m
    · have hm' : (0 : Int) < (m : Int) := by omega
      have dm : decide (m = 0) = false := decide_eq_false (by omega)
      rw [dm]
      go_enter Try.func27, Try.ntmps27
      go_wp2
      go_ret
      exact ⟨by simp, hB _ _⟩
    · obtain rfl : m = 0 := by omega
      by_cases g0 : kind = 0
      · subst g0
        rw [if_pos rfl]
        go_enter Try.func27, Try.ntmps27
        go_wp2_with (go_at_call 57; refine (HS.out _).mono ?_; rintro e w2 ⟨rfl, b2⟩)
        go_ret
        exact ⟨by simp, (hB _ _).trans (b2.mono (by simp))⟩
      · rw [if_neg g0]
        have g0' : (kind == 0) = false := by simpa using g0
        go_enter Try.func27, Try.ntmps27
        go_wp2_with (go_at_call 58; refine (HZ.out _).mono ?_; rintro e w2 ⟨rfl, b2⟩)
        go_ret
        exact ⟨by simp, (hB _ _).trans (b2.mono (by simp))⟩

end Go.Proofs.Ytplgnohncdfgcan
