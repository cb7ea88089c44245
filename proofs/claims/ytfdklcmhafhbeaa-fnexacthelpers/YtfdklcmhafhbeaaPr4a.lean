/- Probers in boxes; ProberNew and ProbeAck as plain functions; the specification's l11own. -/
import Derived.Test.YtfdklcmhafhbeaaPr3
import Derived.Test.YtfdklcmhafhbeaaLiB
import Derived.Deep.CutRange
namespace Go.Proofs.Ytfdklcmhafhbeaa
open Go.RowKit

def zeroPro : DPro := ⟨[], 0, 0, 0, 0, 0⟩
def newPD (s : Int) : DPro × Bool := if s < 0 ∨ 2147483647 < s then (zeroPro, false) else (⟨[], 0, s, 0, 0, 0⟩, true)
/-- Who answers is let go. -/
def ackD (P : DPro) (id : Int) : DPro × Bool := if P.state = 0 ∨ P.who ≠ id then (P, false) else (⟨P.order, P.next, P.seed, 0, 0, 0⟩, true)
def ackPD (P : DPro) (id : Int) (h : Decidable (ProP P) := Classical.propDecidable (ProP P)) : DPro × Bool := @ite _ (ProP P) h (ackD P id) (zeroPro, false)
theorem ackPD_no {P : DPro} {id : Int} (h : ¬ ProP P) : ackPD P id = (zeroPro, false) := by unfold ackPD; exact if_neg h
theorem ackPD_yes {P : DPro} {id : Int} (h : ProP P) : ackPD P id = ackD P id := by unfold ackPD; exact if_pos h
theorem ackD_order (P : DPro) (id : Int) : (ackD P id).1.order = P.order := by unfold ackD; split <;> rfl
theorem ackPD_len (P : DPro) (id : Int) (hl : P.order.length ≤ 1048576) : (ackPD P id).1.order.length ≤ 1048576 := by
  by_cases h : ProP P
  · rw [ackPD_yes h, ackD_order]; exact hl
  · rw [ackPD_no h]; simp [zeroPro]
theorem OwI.keep {w w' : World} {base : Nat} {v : Value} {row : Option Nat} {ts : List Int} (h : OwI w base v ts) (e : w.grownBy w' row) (hn : v.ownBlock = none ∨ v.ownBlock ≠ row) : OwI w' base v ts := World.ownsRow.kept h e hn
theorem OwI.lt {w : World} {base : Nat} {v : Value} {ts : List Int} (h : OwI w base v ts) (k : Nat) (hk : v.ownBlock = some k) : base ≤ k ∧ k < w.heap.size := World.ownsRow.lt h k hk
theorem OwI.nil (w : World) (base : Nat) : OwI w base (.slice none 0 0) [] := World.ownsRow_nil _ _ _ _
/-- A box with a prober, all six cells laid anew. -/
theorem pro_set {w : World} {b : Nat} {t : TypeId} {a0 a1 a2 a3 a4 a5 : Value} (h : w.heap[b]? = some (.cells #[a0, a1, a2, a3, a4, a5] t (0, 0))) (v0 v1 v2 v3 v4 v5 : Value) : ((((((w.setCell ⟨b, 0, none⟩ v0).setCell ⟨b, 1, none⟩ v1).setCell ⟨b, 2, none⟩ v2).setCell ⟨b, 3, none⟩ v3).setCell ⟨b, 4, none⟩ v4).setCell ⟨b, 5, none⟩ v5).heap[b]? = some (.cells #[v0, v1, v2, v3, v4, v5] t (0, 0)) := set_block (set_block (set_block (set_block (set_block (set_block h 0 v0) 1 v1) 2 v2) 3 v3) 4 v4) 5 v5
theorem pro_below {B : Nat} {w0 w : World} {b : Nat} (h : Below B w0 w) (hb : B ≤ b) (v0 v1 v2 v3 v4 v5 : Value) : Below B w0 ((((((w.setCell ⟨b, 0, none⟩ v0).setCell ⟨b, 1, none⟩ v1).setCell ⟨b, 2, none⟩ v2).setCell ⟨b, 3, none⟩ v3).setCell ⟨b, 4, none⟩ v4).setCell ⟨b, 5, none⟩ v5) := (((((h.setCell hb _).setCell hb _).setCell hb _).setCell hb _).setCell hb _).setCell hb _
theorem pro_own {w : World} {base b : Nat} {v : Value} {xs : List Int} (h : OwI w base v xs) (hb : v.ownBlock = none ∨ v.ownBlock ≠ some b) (v0 v1 v2 v3 v4 v5 : Value) : OwI ((((((w.setCell ⟨b, 0, none⟩ v0).setCell ⟨b, 1, none⟩ v1).setCell ⟨b, 2, none⟩ v2).setCell ⟨b, 3, none⟩ v3).setCell ⟨b, 4, none⟩ v4).setCell ⟨b, 5, none⟩ v5) base v xs := (((((h.keep (set_grown _ _ _ _) hb).keep (set_grown _ _ _ _) hb).keep (set_grown _ _ _ _) hb).keep (set_grown _ _ _ _) hb).keep (set_grown _ _ _ _) hb).keep (set_grown _ _ _ _) hb

set_option maxHeartbeats 2000000 in
theorem sOwnPV (v : Value) (P : DPro) (w : World) (h : VPro w v P) (hl : P.order.length ≤ 1048576) :
    Calls Try.prog 28 #[v] w fun e w' => ∃ tv, e = .returned (.agg #[tv, .int .i64 P.next, .int .i64 P.seed, .int .i64 P.state, .int .i64 P.who, .int .i64 P.wait]) ∧ OwI w' w.heap.size tv P.order ∧ Below w.heap.size w w' := by
  obtain ⟨ov, rfl, ho⟩ := h
  obtain ⟨a, cap, rfl⟩ := vl_shape ho
  obtain ⟨n, hnn⟩ : ∃ n, n = P.order.length := ⟨_, rfl⟩
  have HV : Hid (VL fI w (.slice a n cap) P.order) := by rw [hnn]; exact ho
  have HN : Hid (n = P.order.length) := hnn
  rw [← hnn] at hl ⊢
  clear ho hnn
  obtain ⟨os, nx, sd, st, wh, wt⟩ := P
  simp only at HV HN ⊢
  go_enter Try.func28, Try.ntmps28
  go_upto_region 1 with fail
  generalize hW : World.alloc (World.alloc w _) _ = W
  have XW : Ext w W := by rw [← hW]; exact Ext.tr (World.grownBy_alloc w _ none) (World.grownBy_alloc _ _ none)
  have P0 : W.heap[w.heap.size]? = some (.cells #[.slice a n cap, .int .i64 nx, .int .i64 sd, .int .i64 st, .int .i64 wh, .int .i64 wt] 30 (0, 0)) := by rw [← hW, Below.heap_alloc _ _ _ (by simp)]; exact heap_alloc_new w _
  have P1 : W.heap[w.heap.size + 1]? = some (.cells #[.slice none 0 0, .int .i64 0, .int .i64 0, .int .i64 0, .int .i64 0, .int .i64 0] 30 (0, 0)) := by rw [← hW]; simpa using heap_alloc_new (World.alloc w _) (.cells #[.slice none 0 0, .int .i64 0, .int .i64 0, .int .i64 0, .int .i64 0, .int .i64 0] 30 (0, 0))
  have sW : w.heap.size + 1 < W.heap.size := (Array.getElem?_eq_some_iff.1 P1).1
  clear hW
  have HE : Hid (OwI (W.alloc (.cells #[] 3)) W.heap.size (.slice (some ⟨W.heap.size, 0, none⟩) 0 0) []) := World.ownsRow_lit W #[] 0 (Nat.le_refl _) (Nat.zero_le _) rfl
  obtain ⟨x0, f0⟩ := at_block P0 0 _ rfl
  have kx := fun o => World.grownBy.cell (World.grownBy_alloc W o none) x0 (by simp)
  have HFIN : Hid (∀ v1 w1, OwI w1 W.heap.size v1 ([] ++ os) → (W.alloc (.cells #[] 3)).grownBy w1 (Value.slice (some ⟨W.heap.size, 0, none⟩) 0 0).ownBlock → ∃ a1 c1, v1 = .slice a1 n c1 ∧ Ext W w1 ∧ OwI w1 W.heap.size v1 os ∧ (w1.cell? ⟨w.heap.size, 0, none⟩ = some (.slice a n cap) ∧ w1.frozen? ⟨w.heap.size, 0, none⟩ = false)) := fun v1 w1 o1 g1 => by
    rw [List.nil_append] at o1
    obtain ⟨a1, c1, hv⟩ := o1.shape
    rw [← HN.out] at hv
    have XX : Ext W w1 := ext_below (((Below.refl _ W).alloc (Nat.le_refl _) _).grown g1 (by simp) (fun k hk => by cases hk; exact Nat.le_refl _))
    have q := ext_blk XX P0
    exact ⟨a1, c1, hv, XX, o1, (at_block q 0 _ rfl).1, (at_block q 0 _ rfl).2⟩
  have HP : Hid (W.heap[w.heap.size]? = some (.cells #[.slice a n cap, .int .i64 nx, .int .i64 sd, .int .i64 st, .int .i64 wh, .int .i64 wt] 30 (0, 0)) ∧ W.heap[w.heap.size + 1]? = some (.cells #[.slice none 0 0, .int .i64 0, .int .i64 0, .int .i64 0, .int .i64 0, .int .i64 0] 30 (0, 0))) := ⟨P0, P1⟩
  clear P0 P1
  go_upto_region 2 with (at_builtin; refine wpList_append_il _ rfl (.tmp 3) (.tmp 5) rfl W.heap.size _ [] rfl HE.out a n cap os rfl (HV.out.ext (XW.tr (World.grownBy_alloc _ _ _))) (by have := HN.out; simp; omega) (by simp) ?_; intro v1 w1 o1 g1; obtain ⟨a1, c1, hv1, X1, O1, z0, y0⟩ := HFIN.out v1 w1 o1 g1; subst hv1; clear o1 g1)
  have Q0 : (w1.setCell ⟨w.heap.size, 0, none⟩ (.slice a1 n c1)).heap[w.heap.size]? = some (.cells #[.slice a1 n c1, .int .i64 nx, .int .i64 sd, .int .i64 st, .int .i64 wh, .int .i64 wt] 30 (0, 0)) := set_block (ext_blk X1 HP.out.1) 0 _
  have Q1 : (w1.setCell ⟨w.heap.size, 0, none⟩ (.slice a1 n c1)).heap[w.heap.size + 1]? = some (.cells #[.slice none 0 0, .int .i64 0, .int .i64 0, .int .i64 0, .int .i64 0, .int .i64 0] 30 (0, 0)) := set_other _ _ _ (by omega) (ext_blk X1 HP.out.2)
  have nb : ∀ b, b < W.heap.size → (Value.slice a1 n c1).ownBlock = none ∨ (Value.slice a1 n c1).ownBlock ≠ some b := fun b hb => by
    cases hv : (Value.slice a1 n c1).ownBlock with
    | none => exact .inl rfl
    | some k => exact .inr (by have := (O1.lt k hv).1; simp; omega)
  have OO : OwI (w1.setCell ⟨w.heap.size, 0, none⟩ (.slice a1 n c1)) W.heap.size (.slice a1 n c1) os := O1.keep (set_grown _ _ _ _) (nb _ (by omega))
  have BB : Below w.heap.size w (w1.setCell ⟨w.heap.size, 0, none⟩ (.slice a1 n c1)) := (ext_bel (XW.tr X1)).setCell (Nat.le_refl _) _
  have hsW : w.heap.size ≤ W.heap.size := by omega
  have NB := nb (w.heap.size + 1) (by omega)
  generalize w1.setCell ⟨w.heap.size, 0, none⟩ (.slice a1 n c1) = U at Q0 Q1 OO BB ⊢
  have HOO : Hid (OwI U W.heap.size (.slice a1 n c1) os) := OO
  have HBB : Hid (Below w.heap.size w U) := BB
  clear x0 f0 kx z0 y0 HE HFIN X1 O1 nb OO BB
  obtain ⟨p0, p1, p2, p3, p4, p5⟩ := cells6 Q0
  obtain ⟨r0, f0⟩ := at_block Q1 0 _ rfl
  obtain ⟨r1, f1⟩ := at_block Q1 1 _ rfl
  obtain ⟨r2, f2⟩ := at_block Q1 2 _ rfl
  obtain ⟨r3, f3⟩ := at_block Q1 3 _ rfl
  obtain ⟨r4, f4⟩ := at_block Q1 4 _ rfl
  obtain ⟨r5, f5⟩ := at_block Q1 5 _ rfl
  clear Q0 Q1
  go_wp2
  refine bodyPost_ret (v := .agg #[.slice a1 n c1, .int .i64 nx, .int .i64 sd, .int .i64 st, .int .i64 wh, .int .i64 wt]) (by simp [results, Try.results28, go_sem, *]) rfl ?_
  exact ⟨_, rfl, (pro_own HOO.out NB _ _ _ _ _ _).base hsW, pro_below HBB.out (Nat.le_succ _) _ _ _ _ _ _⟩

/-- What a box that holds a prober holds behind an answer. -/
def ProB (gt base : Nat) (R : DPro) (tv : Value) (w : World) : Prop := w.heap[gt]? = some (.cells #[tv, .int .i64 R.next, .int .i64 R.seed, .int .i64 R.state, .int .i64 R.who, .int .i64 R.wait] 30 (0, 0)) ∧ OwI w base tv R.order

end Go.Proofs.Ytfdklcmhafhbeaa
