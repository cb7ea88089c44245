/- Messages as bytes: the program's putNums and putItems. -/
import Derived.Test.YtplgnohncdfgcalMb1
import Derived.Test.YtplgnohncdfgcalIPut
import Derived.Test.YtplgnohncdfgcalIPutT
import Derived.Test.YtplgnohncdfgcalMsD
namespace Go.Proofs.Ytplgnohncdfgcal
open Go.RowKit

theorem iPutV (v : Value) (xs : List Int) (q : Int) (w : World) (h : RV w v xs) (hn : xs.length ≤ 2097152) : Calls Try.prog 116 #[v, .int .i64 q] w (PutPost w (xs ++ numL q)) := by
  have hr := putL_rng h.rng q
  obtain ⟨a, cap, rfl, hd, _, _⟩ := h
  exact (iPut a xs.length cap xs q w hd hn).mono fun e w' ⟨v', h1, h2, h3⟩ => ⟨v', h1, h2.rv hr, h2, h3⟩
theorem iPutTV (v u : Value) (xs ys : List Int) (w : World) (h : RV w v xs) (k : RV w u ys) (hn : xs.length ≤ 2097152) (hm : ys.length ≤ 2097152) : Calls Try.prog 130 #[v, u] w (PutPost w (textL xs ys)) := by
  have hr := textL_rng h.rng k.rng
  obtain ⟨a, cap, rfl, hd, _, _⟩ := h
  obtain ⟨b, cap', rfl, hd', _, _⟩ := k
  exact (iPutT a b xs.length cap ys.length cap' xs ys w hd hd' hn hm).mono fun e w' ⟨v', h1, h2, h3⟩ => ⟨v', h1, h2.rv hr, h2, h3⟩

/-- Numbers one behind the other, behind xs. -/
def numsL (xs : List Int) (qs : List Int) : List Int := qs.foldl (fun a q => a ++ numL q) xs
theorem nums_next (xs : List Int) (qs : List Int) (k : Nat) (d : Int) (h : qs[k]? = some d) : numsL xs (qs.take (k + 1)) = numsL xs (qs.take k) ++ numL d := by
  obtain ⟨hk, he⟩ := List.getElem?_eq_some_iff.1 h
  unfold numsL
  rw [List.take_succ_eq_append_getElem hk, List.foldl_append, he]
  rfl

set_option maxRecDepth 20000 in
set_option maxHeartbeats 4000000 in
theorem iPutN (v : Value) (xs : List Int) (g n : Nat) (qs : List Int) (w : World) (h : RV w v xs) (hn : xs.length ≤ 1000000) (hq : n = qs.length) (h1 : 0 < n) (h9 : n ≤ 9) (hg : ∀ j q, qs[j]? = some q → w.cell? ⟨g, j, none⟩ = some (.int .i64 q)) :
    Calls Try.prog 75 #[v, .slice (some ⟨g, 0, none⟩) n n] w (PutPost w (numsL xs qs)) := by
  have hgl : g < w.heap.size := by
    obtain ⟨q, hq0⟩ : ∃ q, qs[0]? = some q := ⟨_, List.getElem?_eq_getElem (by omega)⟩
    exact World.block_lt_of_cell? w _ (hg 0 q hq0)
  have HG : Hid (∀ j q, qs[j]? = some q → w.cell? ⟨g, j, none⟩ = some (.int .i64 q)) := hg
  have HN : Hid (n = qs.length) := hq
  clear hg hq
  go_enter Try.func75, Try.ntmps75
  go_wp2
  go_loopw [0, 9] (fun bv i wr => ∃ k : Nat, k ≤ n ∧ i = .int .i64 k ∧ ∃ zs, Hid (zs = numsL xs (qs.take k)) ∧ zs.length ≤ 1000000 + 5 * k ∧ RV wr bv zs ∧ (0 < k → Ow wr w.heap.size bv zs) ∧ Below w.heap.size w wr) (fun _ i _ => n - (intOf i).toNat)
  case atStart => exact ⟨0, Nat.zero_le _, rfl, xs, by show _ = _; simp [numsL], by omega, h, fun h => absurd h (by omega), Below.refl _ _⟩
  case round =>
    obtain ⟨k, hk, rfl, zs, hzs, hzl, rz, oz, bz⟩ := hrel
    by_cases hlt : k < n
    · obtain ⟨s, hs⟩ : ∃ s, qs[k]? = some s := ⟨_, List.getElem?_eq_getElem (by have := HN.out; omega)⟩
      have d0 := World.grownBy.cell (ext_below bz) (HG.out k s hs) (by simp)
      have hlt' : (k : Int) < (n : Int) := by omega
      have HNX : Hid (numsL xs (qs.take (k + 1)) = zs ++ numL s) := by show _ = _; rw [nums_next xs qs k s hs, ← hzs.out]
      have hle := putL_le zs s
      obtain ⟨z', hz'⟩ : ∃ z', z' = zs ++ numL s := ⟨_, rfl⟩
      rw [← hz'] at hle
      have HZ' : Hid (zs ++ numL s = z') := hz'.symm
      clear hz'
      go_wp2_with fail
      refine (iPutV _ zs s wr rz (by omega)).mono ?_
      rw [HZ'.out]
      rintro e w2 ⟨v2, rfl, r2, o2, b2⟩
      go_wp2
      go_roundw
      case rel => exact ⟨k + 1, by omega, by go_num, z', by show _ = _; rw [HNX.out, HZ'.out], by omega, r2, fun _ => ow_base o2 bz.size, bz.trans (b2.mono bz.size)⟩
      case measure => simp [intOf]; omega
    · have hkn : k = n := by omega
      subst hkn
      have HR : Hid (numsL xs qs = zs) := by
        show _ = _
        rw [hzs.out, List.take_of_length_le (by have := HN.out; omega)]
      go_wp2
      go_ret
      refine ⟨_, rfl, ?_, ?_, bz⟩
      · rw [HR.out]; exact rz
      · rw [HR.out]; exact oz h1

theorem yesNumV (b : Bool) (w : World) : Calls Try.prog 117 #[.bool b] w fun e w' => e = .returned (.int .i64 (yesI b)) ∧ w' = w := by
  cases b
  · go_enter Try.func117, Try.ntmps117
    go_wp2
    go_ret
    exact ⟨rfl, rfl⟩
  · go_enter Try.func117, Try.ntmps117
    go_wp2
    go_ret
    exact ⟨rfl, rfl⟩

theorem nums_cells {W : World} {g : Nat} {qs : List Int} (h : W.heap[g]? = some (.cells (qs.map fun q => Value.int .i64 q).toArray 3 (0, 0))) : ∀ (j : Nat) q, qs[j]? = some q → W.cell? ⟨g, j, none⟩ = some (.int .i64 q) := by
  intro j q hq
  rw [cell_of_row W g j _ 3 (0, 0) h]
  simp [hq]
theorem new_at {w : World} {g : Nat} (o : Obj) (hg : g = w.heap.size) : (w.alloc o).heap[g]? = some o := by subst hg; exact heap_alloc_new w o

set_option maxRecDepth 20000 in
set_option maxHeartbeats 4000000 in
theorem iBodyAsk (v : Value) (xs : List Int) (p pt : Int) (w : World) (h : RV w v xs) (hn : xs.length ≤ 1000000) :
    Calls Try.prog 76 #[v, .iface 161 (.agg #[.int .i64 p, .int .i64 pt])] w (PutPost w (numsL xs [p, pt])) := by
  have hE : ∀ w : World, ∀ o, Ext w (w.alloc o) := fun w o => World.grownBy_alloc _ _ _
  have hta := ta00
  go_enter Try.func76, Try.ntmps76
  go_wp2_with fail
  refine (iPutN _ xs _ 2 [p, pt] _ (h.ext ((hE _ _).tr (hE _ _))) hn rfl (by decide) (by decide) (nums_cells (new_at _ (by simp)))).mono ?_
  rintro e w1 ⟨v1, rfl, r1, o1, b1⟩
  have B1 : Below w.heap.size w w1 := (((Below.refl _ w).alloc (Nat.le_refl _) _).alloc (by simp) _).trans (b1.mono (by simp; omega))
  go_wp2
  go_ret
  exact ⟨_, rfl, r1, ow_base o1 (by simp; omega), B1⟩

set_option maxRecDepth 20000 in
set_option maxHeartbeats 4000000 in
theorem iBodyVote (v : Value) (xs : List Int) (y : Bool) (w : World) (h : RV w v xs) (hn : xs.length ≤ 1000000) :
    Calls Try.prog 76 #[v, .iface 163 (.agg #[.bool y])] w (PutPost w (numsL xs [yesI y])) := by
  have hE : ∀ w : World, ∀ o, Ext w (w.alloc o) := fun w o => World.grownBy_alloc _ _ _
  have hta := ta11
  have hta0 := ta10
  go_enter Try.func76, Try.ntmps76
  go_wp2_with (go_at_call 117; refine (yesNumV y _).mono ?_; rintro e w0 ⟨rfl, rfl⟩)
  refine (iPutN _ xs _ 1 [yesI y] _ (h.ext ((hE _ _).tr (hE _ _))) hn rfl (by decide) (by decide) (nums_cells (new_at _ (by simp)))).mono ?_
  rintro e w1 ⟨v1, rfl, r1, o1, b1⟩
  have B1 : Below w.heap.size w w1 := (((Below.refl _ w).alloc (Nat.le_refl _) _).alloc (by simp) _).trans (b1.mono (by simp; omega))
  go_wp2
  go_ret
  exact ⟨_, rfl, r1, ow_base o1 (by simp; omega), B1⟩

set_option maxRecDepth 20000 in
set_option maxHeartbeats 4000000 in
theorem iBodyAck (v : Value) (xs : List Int) (p : Int) (y : Bool) (w : World) (h : RV w v xs) (hn : xs.length ≤ 1000000) :
    Calls Try.prog 76 #[v, .iface 167 (.agg #[.int .i64 p, .bool y])] w (PutPost w (numsL xs [p, yesI y])) := by
  have hE : ∀ w : World, ∀ o, Ext w (w.alloc o) := fun w o => World.grownBy_alloc _ _ _
  have hta := ta33
  have hta0 := ta30
  have hta1 := ta31
  have hta2 := ta32
  go_enter Try.func76, Try.ntmps76
  go_wp2_with fail
  have P0 := heap_alloc_new w (.cells #[.int .i64 p, .bool y] 167 (0, 0))
  have X0 := hE w (.cells #[.int .i64 p, .bool y] 167 (0, 0))
  have B0 : Below w.heap.size w (w.alloc (.cells #[.int .i64 p, .bool y] 167 (0, 0))) := (Below.refl _ w).alloc (Nat.le_refl _) _
  generalize w.alloc (.cells #[.int .i64 p, .bool y] 167 (0, 0)) = W at P0 X0 B0 ⊢
  have hs0 : w.heap.size < W.heap.size := (Array.getElem?_eq_some_iff.1 P0).1
  have e0 : W.drew.heap.size = W.heap.size := rfl
  have XD : Ext W W.drew := ext_drewN W 1
  obtain ⟨c0, _⟩ := at_block P0 0 _ rfl
  obtain ⟨c1, _⟩ := at_block P0 1 _ rfl
  have K : ∀ o, (W.alloc o).drew.heap[w.heap.size]? = some (.cells #[.int .i64 p, .bool y] 167 (0, 0)) := fun o => (Below.heap_alloc W _ _ (by omega)).trans P0
  have k0 : ∀ o, (W.alloc o).drew.cell? ⟨w.heap.size, 0, none⟩ = some (.int .i64 p) := fun o => (at_block (K o) 0 _ rfl).1
  have k1 : ∀ o, (W.alloc o).drew.cell? ⟨w.heap.size, 1, none⟩ = some (.bool y) := fun o => (at_block (K o) 1 _ rfl).1
  have HK : Hid (∀ o, (W.alloc o).drew.heap[w.heap.size]? = some (.cells #[.int .i64 p, .bool y] 167 (0, 0))) := K
  clear K
  go_region_held3 (fun w' => w'.cell? ⟨w.heap.size, 0, none⟩ = some (.int .i64 p) ∧ w'.cell? ⟨w.heap.size, 1, none⟩ = some (.bool y)) (simp [*])
    (first
      | (go_at_call 75; refine (iPutN _ xs _ 2 [p, yesI y] _ (((h.ext X0).ext (hE _ _)).ext (ext_drewN _ 1)) hn rfl (by decide) (by decide) (nums_cells (W := (W.alloc _).drew) (new_at (w := W) _ rfl))).mono ?_; rintro e w1 ⟨v1, rfl, r1, o1, b1⟩; obtain ⟨c0', _⟩ := at_block (below_blk b1 (by simp; omega) (HK.out _)) 0 _ rfl; obtain ⟨c1', _⟩ := at_block (below_blk b1 (by simp; omega) (HK.out _)) 1 _ rfl)
      | (go_at_call 117; refine (yesNumV y _).mono ?_; rintro e w0 ⟨rfl, rfl⟩))
  all_goals
    go_wp2
    go_ret
    have B1 : Below w.heap.size w w1 := (below_drewN (B0.alloc (by omega) _) 1).trans (b1.mono (by show w.heap.size ≤ (W.alloc _).heap.size; simp; omega))
    exact ⟨_, rfl, r1, ow_base o1 (by show w.heap.size ≤ (W.alloc _).heap.size; simp; omega), B1⟩

theorem cellsB6 {w w' : World} {g : Nat} {v0 v1 v2 v3 v4 v5 : Value} {t : TypeId} (h : w.heap[g]? = some (.cells #[v0, v1, v2, v3, v4, v5] t (0, 0))) (b : Below w.heap.size w w') :
    w'.heap[g]? = some (.cells #[v0, v1, v2, v3, v4, v5] t (0, 0)) ∧ w'.cell? ⟨g, 0, none⟩ = some v0 ∧ w'.cell? ⟨g, 1, none⟩ = some v1 ∧ w'.cell? ⟨g, 2, none⟩ = some v2 ∧ w'.cell? ⟨g, 3, none⟩ = some v3 ∧ w'.cell? ⟨g, 4, none⟩ = some v4 ∧ w'.cell? ⟨g, 5, none⟩ = some v5 := by
  have h' := below_blk b (Array.getElem?_eq_some_iff.1 h).1 h
  exact ⟨h', (at_block h' 0 _ rfl).1, (at_block h' 1 _ rfl).1, (at_block h' 2 _ rfl).1, (at_block h' 3 _ rfl).1, (at_block h' 4 _ rfl).1, (at_block h' 5 _ rfl).1⟩

set_option maxRecDepth 20000 in
set_option maxHeartbeats 4000000 in
theorem iItems (v iv : Value) (xs : List Int) (ss : List DItem) (w : World) (h : RV w v xs) (hvi : VItems w iv ss) (hn : xs.length ≤ 1000) (h4 : ss.length ≤ 4) (hw : ∀ (i : Nat) d, ss[i]? = some d → ItW d) (base : Nat) (ho : Ow w base v xs) (hb0 : base ≤ w.heap.size) :
    Calls Try.prog 118 #[v, iv] w fun e w' => ∃ v', e = .returned v' ∧ RV w' v' (ss.foldl itL xs) ∧ Ow w' base v' (ss.foldl itL xs) ∧ Below w.heap.size w w' := by
  obtain ⟨C, ⟨ia, ic, rfl, hl1, hl2, hcell⟩, hC⟩ := hvi
  have HC : Hid (∀ i d, ss[i]? = some d → C i 0 = .int .i64 d.term ∧ C i 1 = .int .i64 d.cmd.client ∧ C i 2 = .int .i64 d.cmd.req ∧ C i 3 = .int .i64 d.cmd.op.kind ∧ RV w (C i 4) d.cmd.op.key ∧ RV w (C i 5) d.cmd.op.val ∧ C i 6 = .int .i64 d.cmd.op.n) := hC
  have HW : Hid (∀ (i : Nat) d, ss[i]? = some d → ItW d) := hw
  obtain ⟨n, hnn⟩ : ∃ n, n = ss.length := ⟨_, rfl⟩
  rw [← hnn] at h4 hl1 hcell ⊢
  have HN : Hid (n = ss.length) := hnn
  have HCE : Hid (0 < n → ∃ b o, ia = some ⟨b, o, none⟩ ∧ b < w.heap.size ∧ ∀ i, i < n → ∀ j, j < 7 → w.cell? ⟨b, o + i * 7 + j, none⟩ = some (C i j)) := hcell
  unfold maxLen at hl2
  have hic : ic ≤ 9223372036854775807 := by omega
  clear hcell hC hw hnn hl2
  go_enter Try.func118, Try.ntmps118
  go_wp2
  have hE : ∀ w : World, ∀ o, Ext w (w.alloc o) := fun w o => World.grownBy_alloc _ _ _
  go_loopw [0, 10] (fun bv i wr => ∃ k : Nat, k ≤ n ∧ i = .int .i64 k ∧ ∃ zs, Hid (zs = (ss.take k).foldl itL xs) ∧ zs.length ≤ 1000 + 75 * k ∧ RV wr bv zs ∧ Ow wr base bv zs ∧ Below w.heap.size w wr) (fun _ i _ => n - (intOf i).toNat)
  case atStart => exact ⟨0, Nat.zero_le _, rfl, xs, by show _ = _; simp, by omega, h, ho, Below.refl _ _⟩
  case round =>
    obtain ⟨k, hk, rfl, zs, hzs, hzl, rz, oz, bz⟩ := hrel
    by_cases hlt : k < n
    · obtain ⟨b, o, rfl, hbl, hc⟩ := HCE.out (by omega)
      obtain ⟨s, hs⟩ : ∃ s, ss[k]? = some s := ⟨_, List.getElem?_eq_getElem (by have := HN.out; omega)⟩
      obtain ⟨e0', e1', e2, e3, e4, e5, e6⟩ := HC.out k s hs
      obtain ⟨⟨hc1, hc2⟩, hkl, hvl⟩ := HW.out k s hs
      have X := ext_below bz
      have d0 := World.grownBy.cell X (hc k hlt 0 (by omega)) (by simp)
      rw [Nat.add_zero, e0'] at d0
      have d1 := World.grownBy.cell X (hc k hlt 1 (by omega)) (by simp)
      rw [e1'] at d1
      have d2 := World.grownBy.cell X (hc k hlt 2 (by omega)) (by simp)
      rw [e2] at d2
      have d3 := World.grownBy.cell X (hc k hlt 3 (by omega)) (by simp)
      rw [e3] at d3
      have d4 := World.grownBy.cell X (hc k hlt 4 (by omega)) (by simp)
      have cr4 := e4.ext X
      obtain ⟨ca4, cp4, cx4, _, _, _⟩ := e4
      rw [cx4] at cr4 d4
      have d5 := World.grownBy.cell X (hc k hlt 5 (by omega)) (by simp)
      have cr5 := e5.ext X
      obtain ⟨ca5, cp5, cx5, _, _, _⟩ := e5
      rw [cx5] at cr5 d5
      have d6 := World.grownBy.cell X (hc k hlt 6 (by omega)) (by simp)
      rw [e6] at d6
      have hlt' : (k : Int) < (n : Int) := by omega
      clear hc
      obtain ⟨x1, hx1⟩ : ∃ x, x = numsL zs [s.term, s.cmd.client + 1, s.cmd.req, s.cmd.op.kind] := ⟨_, rfl⟩
      obtain ⟨x2, hx2⟩ : ∃ x, x = textL x1 s.cmd.op.key := ⟨_, rfl⟩
      obtain ⟨x3, hx3⟩ : ∃ x, x = textL x2 s.cmd.op.val := ⟨_, rfl⟩
      obtain ⟨x4, hx4⟩ : ∃ x, x = numsL x3 [s.cmd.op.n] := ⟨_, rfl⟩
      have HX4 : Hid (itL zs s = x4) := by show _ = _; rw [hx4, hx3, hx2, hx1]; rfl
      have l4 := itL_le zs s
      rw [HX4.out] at l4
      have l1 : x1.length ≤ zs.length + 20 := by
        rw [hx1]
        have a1 := putL_le zs s.term
        have a2 := putL_le (zs ++ numL s.term) (s.cmd.client + 1)
        have a3 := putL_le (zs ++ numL s.term ++ numL (s.cmd.client + 1)) s.cmd.req
        have a4 := putL_le (zs ++ numL s.term ++ numL (s.cmd.client + 1) ++ numL s.cmd.req) s.cmd.op.kind
        show (zs ++ numL s.term ++ numL (s.cmd.client + 1) ++ numL s.cmd.req ++ numL s.cmd.op.kind).length ≤ _
        omega
      have l2 := textL_le x1 s.cmd.op.key
      have l3 := textL_le x2 s.cmd.op.val
      rw [← hx2] at l2
      rw [← hx3] at l3
      have H1 : Hid (numsL zs [s.term, s.cmd.client + 1, s.cmd.req, s.cmd.op.kind] = x1) := hx1.symm
      have H2 : Hid (textL x1 s.cmd.op.key = x2) := hx2.symm
      have H3 : Hid (textL x2 s.cmd.op.val = x3) := hx3.symm
      have H4 : Hid (numsL x3 [s.cmd.op.n] = x4) := hx4.symm
      have HNX : Hid ((ss.take (k + 1)).foldl itL xs = x4) := by show _ = _; rw [its_next xs ss k s hs, ← hzs.out, HX4.out]
      clear hx1 hx2 hx3 hx4
      go_wp2_with fail
      have X3 : ∀ a b c, Ext wr (((wr.alloc a).alloc b).alloc c) := fun a b c => ((hE _ _).tr (hE _ _)).tr (hE _ _)
      refine (iPutN _ zs _ 4 [s.term, s.cmd.client + 1, s.cmd.req, s.cmd.op.kind] _ (rz.ext (X3 _ _ _)) (by omega) rfl (by decide) (by decide) (nums_cells (new_at _ (by simp)))).mono ?_
      rw [H1.out]
      rintro e w1 ⟨v1, rfl, r1, o1, b1⟩
      have QA := below_blk b1 (by simp) (h3_1 wr _ _ _)
      have B1 : Below wr.heap.size wr w1 := ((((Below.refl _ wr).alloc (Nat.le_refl _) _).alloc (by simp) _).alloc (by simp; omega) _).trans (b1.mono (by simp; omega))
      have s1 := B1.size
      have t1 : wr.heap.size + 3 ≤ w1.heap.size := by have := b1.size; simp at this; omega
      clear b1
      obtain ⟨QA, c0, c1, c2, c3, c4, c5⟩ := cellsB6 QA (Below.refl _ w1)
      have XD : Ext w1 w1.drew := ext_drewN w1 1
      have e0 : w1.drew.heap.size = w1.heap.size := rfl
      go_wp2_with fail
      go_region_held3 (fun w' => w'.cell? ⟨wr.heap.size + 1, 0, none⟩ = some (.int .i64 s.cmd.client) ∧ w'.cell? ⟨wr.heap.size + 1, 1, none⟩ = some (.int .i64 s.cmd.req) ∧ w'.cell? ⟨wr.heap.size + 1, 2, none⟩ = some (.int .i64 s.cmd.op.kind) ∧ w'.cell? ⟨wr.heap.size + 1, 3, none⟩ = some (.slice ca4 s.cmd.op.key.length cp4) ∧ w'.cell? ⟨wr.heap.size + 1, 4, none⟩ = some (.slice ca5 s.cmd.op.val.length cp5) ∧ w'.cell? ⟨wr.heap.size + 1, 5, none⟩ = some (.int .i64 s.cmd.op.n)) (simp [*])
        (first
          | (go_at_call 130; refine (iPutTV _ _ x2 s.cmd.op.val _ r2 (cr5.ext (((ext_below B1).tr XD).tr (ext_below b2))) (by omega) (by omega)).mono ?_; rw [H3.out]; rintro e w3 ⟨v3, rfl, r3, o3, b3⟩; obtain ⟨QA3, c0, c1, c2, c3, c4, c5⟩ := cellsB6 QA2 b3)
          | (go_at_call 130; refine (iPutTV _ _ x1 s.cmd.op.key _ (r1.ext XD) (cr4.ext ((ext_below B1).tr XD)) (by omega) (by omega)).mono ?_; rw [H2.out]; rintro e w2 ⟨v2, rfl, r2, o2, b2⟩; obtain ⟨QA2, c0, c1, c2, c3, c4, c5⟩ := cellsB6 (w := w1.drew) QA b2))
      have s2 := b2.size
      have s3 := b3.size
      have B3 : Below wr.heap.size wr w3 := ((below_drewN B1 1).trans (b2.mono (by omega))).trans (b3.mono (by omega))
      go_wp2_with fail
      refine (iPutN _ x3 _ 1 [s.cmd.op.n] _ (r3.ext (hE _ _)) (by omega) rfl (by decide) (by decide) (nums_cells (new_at _ rfl))).mono ?_
      rw [H4.out]
      rintro e w4 ⟨v4, rfl, r4, o4, b4⟩
      have B4 : Below wr.heap.size wr w4 := (B3.alloc (by omega) _).trans (b4.mono (by simp; omega))
      have sz := bz.size
      go_wp2
      go_roundw
      case rel => exact ⟨k + 1, by omega, by go_num, x4, by show _ = _; rw [HNX.out], by omega, r4, ow_base o4 (by simp; omega), bz.trans (B4.mono bz.size)⟩
      case measure => simp [intOf]; omega
    · have hkn : k = n := by omega
      subst hkn
      have HR : Hid (ss.foldl itL xs = zs) := by
        show _ = _
        rw [hzs.out, List.take_of_length_le (by have := HN.out; omega)]
      go_wp2
      go_ret
      refine ⟨_, rfl, ?_, ?_, bz⟩
      · rw [HR.out]; exact rz
      · rw [HR.out]; exact oz

end Go.Proofs.Ytplgnohncdfgcal
