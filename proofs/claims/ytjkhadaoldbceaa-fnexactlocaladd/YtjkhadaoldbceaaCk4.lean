
/- The specification's l13own, l13tick. -/
import Derived.Test.YtjkhadaoldbceaaCk2
import Derived.BigQuiet
namespace Go.Proofs.Ytjkhadaoldbceaa
open Go.RowKit

set_option maxHeartbeats 2000000 in
theorem sOwnKV (v : Value) (P : DChk) (w : World) (h : VChk w v P) (hl : P.name.length ≤ 1048576) :
    Calls Try.prog 46 #[v] w fun e w' => ∃ tv, e = .returned (.agg #[tv, .int .i64 P.ttl, .int .i64 P.most, .int .i64 P.st, .int .i64 P.age, .int .i64 P.fails]) ∧ OwB w' w.heap.size tv P.name ∧ Below w.heap.size w w' := by
  obtain ⟨ov, rfl, ho⟩ := h
  obtain ⟨a, cap, rfl⟩ := rv_shape ho
  obtain ⟨n, hnn⟩ : ∃ n, n = P.name.length := ⟨_, rfl⟩
  have HV : Hid (RV w (.slice a n cap) P.name) := by rw [hnn]; exact ho
  have HN : Hid (n = P.name.length) := hnn
  rw [← hnn] at hl ⊢
  have HRG0 := rv_rngK ho
  clear ho hnn
  obtain ⟨os, nx, sd, st, wh, wt⟩ := P
  simp only at HV HN HRG0 ⊢
  have HRG : Hid (∀ x ∈ os, 0 ≤ x ∧ x ≤ 255) := HRG0
  obtain ⟨_, _, hsl, HRD0, _, _⟩ := HV.out
  obtain ⟨rfl, hln, rfl⟩ := (by simpa using hsl : a = _ ∧ n = _ ∧ cap = _)
  have HRD : Hid (Rd w a n os) := by rw [hln]; exact HRD0
  clear HRG0 HRD0 hsl hln
  go_enter Try.func46, Try.ntmps46
  go_upto_region 1 with fail
  generalize hW : World.alloc (World.alloc w _) _ = W
  have XW : Ext w W := by rw [← hW]; exact Ext.tr (World.grownBy_alloc w _ none) (World.grownBy_alloc _ _ none)
  have P0 : W.heap[w.heap.size]? = some (.cells #[.slice a n cap, .int .i64 nx, .int .i64 sd, .int .i64 st, .int .i64 wh, .int .i64 wt] 43 (0, 0)) := by rw [← hW, Below.heap_alloc _ _ _ (by simp)]; exact heap_alloc_new w _
  have P1 : W.heap[w.heap.size + 1]? = some (.cells #[.slice none 0 0, .int .i64 0, .int .i64 0, .int .i64 0, .int .i64 0, .int .i64 0] 43 (0, 0)) := by rw [← hW]; simpa using heap_alloc_new (World.alloc w _) (.cells #[.slice none 0 0, .int .i64 0, .int .i64 0, .int .i64 0, .int .i64 0, .int .i64 0] 43 (0, 0))
  have sW : w.heap.size + 1 < W.heap.size := (Array.getElem?_eq_some_iff.1 P1).1
  clear hW
  have HE : Hid (OwB (W.alloc (.cells #[] 5)) W.heap.size (.slice (some ⟨W.heap.size, 0, none⟩) 0 0) []) := ⟨ow_empty W, by simp⟩
  obtain ⟨x0, f0⟩ := at_block P0 0 _ rfl
  have kx := fun o => World.grownBy.cell (World.grownBy_alloc W o none) x0 (by simp)
  have HFIN : Hid (∀ v1 w1, Ow w1 W.heap.size v1 ([] ++ os) → (W.alloc (.cells #[] 5)).grownBy w1 (Value.slice (some ⟨W.heap.size, 0, none⟩) 0 0).ownBlock → ∃ a1 c1, v1 = .slice a1 n c1 ∧ Ext W w1 ∧ OwB w1 W.heap.size v1 os ∧ (w1.cell? ⟨w.heap.size, 0, none⟩ = some (.slice a n cap) ∧ w1.frozen? ⟨w.heap.size, 0, none⟩ = false)) := fun v1 w1 o1a g1 => by
    rw [List.nil_append] at o1a
    have o1 : OwB w1 W.heap.size v1 os := ⟨o1a, HRG.out⟩
    obtain ⟨a1, c1, hv⟩ := o1.shape
    rw [← HN.out] at hv
    have XX : Ext W w1 := ext_below (((Below.refl _ W).alloc (Nat.le_refl _) _).grown g1 (by simp) (fun k hk => by cases hk; exact Nat.le_refl _))
    have q := ext_blk XX P0
    exact ⟨a1, c1, hv, XX, o1, (at_block q 0 _ rfl).1, (at_block q 0 _ rfl).2⟩
  have HP : Hid (W.heap[w.heap.size]? = some (.cells #[.slice a n cap, .int .i64 nx, .int .i64 sd, .int .i64 st, .int .i64 wh, .int .i64 wt] 43 (0, 0)) ∧ W.heap[w.heap.size + 1]? = some (.cells #[.slice none 0 0, .int .i64 0, .int .i64 0, .int .i64 0, .int .i64 0, .int .i64 0] 43 (0, 0))) := ⟨P0, P1⟩
  clear P0 P1
  go_upto_region 2 with (at_builtin; refine wpList_append_bytes _ rfl (.tmp 3) (.tmp 5) 22 rfl W.heap.size info5 Try.underlying22 _ [] rfl HE.out.1 a n cap os rfl (HRD.out.grown (XW.tr (World.grownBy_alloc _ _ _))) (by have := HN.out; simp; omega) (by simp) ?_; intro v1 w1 o1 g1; obtain ⟨a1, c1, hv1, X1, O1, z0, y0⟩ := HFIN.out v1 w1 o1 g1; subst hv1; clear o1 g1)
  have Q0 : (w1.setCell ⟨w.heap.size, 0, none⟩ (.slice a1 n c1)).heap[w.heap.size]? = some (.cells #[.slice a1 n c1, .int .i64 nx, .int .i64 sd, .int .i64 st, .int .i64 wh, .int .i64 wt] 43 (0, 0)) := set_block (ext_blk X1 HP.out.1) 0 _
  have Q1 : (w1.setCell ⟨w.heap.size, 0, none⟩ (.slice a1 n c1)).heap[w.heap.size + 1]? = some (.cells #[.slice none 0 0, .int .i64 0, .int .i64 0, .int .i64 0, .int .i64 0, .int .i64 0] 43 (0, 0)) := set_other _ _ _ (by omega) (ext_blk X1 HP.out.2)
  have nb : ∀ b, b < W.heap.size → (Value.slice a1 n c1).ownBlock = none ∨ (Value.slice a1 n c1).ownBlock ≠ some b := fun b hb => by
    cases hv : (Value.slice a1 n c1).ownBlock with
    | none => exact .inl rfl
    | some k => exact .inr (by have := (O1.lt k hv).1; simp; omega)
  have OO : OwB (w1.setCell ⟨w.heap.size, 0, none⟩ (.slice a1 n c1)) W.heap.size (.slice a1 n c1) os := O1.keep (set_grown _ _ _ _) (nb _ (by omega))
  have BB : Below w.heap.size w (w1.setCell ⟨w.heap.size, 0, none⟩ (.slice a1 n c1)) := (ext_bel (XW.tr X1)).setCell (Nat.le_refl _) _
  have hsW : w.heap.size ≤ W.heap.size := by omega
  have NB := nb (w.heap.size + 1) (by omega)
  generalize w1.setCell ⟨w.heap.size, 0, none⟩ (.slice a1 n c1) = U at Q0 Q1 OO BB ⊢
  have HOO : Hid (OwB U W.heap.size (.slice a1 n c1) os) := OO
  have HBB : Hid (Below w.heap.size w U) := BB
  clear x0 f0 kx z0 y0 HE HFIN X1 O1 nb OO BB
  obtain ⟨p0, p1, p2, p3, p4, p5⟩ := cells6 Q0
  obtain ⟨r0, f0⟩ := at_block Q1 0 _ rfl
  obtain ⟨r1, f1⟩ := at_block Q1 1 _ rfl
  obtain ⟨r2, f2⟩ := at_block Q1 2 _ rfl
  obtain ⟨r3, f3⟩ := at_block Q1 3 _ rfl
  obtain ⟨r4, f4⟩ := at_block Q1 4 _ rfl
  obtain ⟨r5, f5⟩ := at_block Q1 5 _ rfl
  clear Q0 Q1
  go_wp2
  refine bodyPost_ret (v := .agg #[.slice a1 n c1, .int .i64 nx, .int .i64 sd, .int .i64 st, .int .i64 wh, .int .i64 wt]) (by simp [results, Try.results46, go_sem, *]) rfl ?_
  exact ⟨_, rfl, (chk_own HOO.out NB _ _ _ _ _ _).base hsW, chk_below HBB.out (Nat.le_succ _) _ _ _ _ _ _⟩

end Go.Proofs.Ytjkhadaoldbceaa
