
/- The program's copyCheck, isOver, become. -/
import Derived.Test.YtpnachakijpjkaaCk2
import Derived.Test.YtpnachakijpjkaaCv
namespace Go.Proofs.Ytpnachakijpjkaa
open Go.RowKit

set_option maxHeartbeats 2000000 in
theorem copyKV (v : Value) (P : DChk) (w : World) (h : VChk w v P) (hl : P.name.length ≤ 1048576) :
    Calls Try.prog 55 #[v] w fun e w' => ∃ tv, e = .returned (.agg #[tv, .int .i64 P.ttl, .int .i64 P.most, .int .i64 P.st, .int .i64 P.age, .int .i64 P.fails]) ∧ OwB w' w.heap.size tv P.name ∧ Below w.heap.size w w' := by
  obtain ⟨ov, rfl, ho⟩ := h
  obtain ⟨a, cap, rfl⟩ := rv_shape ho
  obtain ⟨n, hnn⟩ : ∃ n, n = P.name.length := ⟨_, rfl⟩
  have HV : Hid (RV w (.slice a n cap) P.name) := by rw [hnn]; exact ho
  have HN : Hid (n = P.name.length) := hnn
  rw [← hnn] at hl ⊢
  have HRG0 := rv_rngK ho
  clear ho hnn
  obtain ⟨os, nx, sd, st, wh, wt⟩ := P
  simp only at HV HN HRG0 ⊢
  have HRG : Hid (∀ x ∈ os, 0 ≤ x ∧ x ≤ 255) := HRG0
  clear HRG0
  go_enter Try.func55, Try.ntmps55
  go_upto_region 1 with fail
  generalize hW : World.alloc (World.alloc w _) _ = W
  have XW : Ext w W := by rw [← hW]; exact Ext.tr (World.grownBy_alloc w _ none) (World.grownBy_alloc _ _ none)
  have P0 : W.heap[w.heap.size]? = some (.cells #[.slice a n cap, .int .i64 nx, .int .i64 sd, .int .i64 st, .int .i64 wh, .int .i64 wt] 45 (0, 0)) := by rw [← hW, Below.heap_alloc _ _ _ (by simp)]; exact heap_alloc_new w _
  have P1 : W.heap[w.heap.size + 1]? = some (.cells #[.slice none 0 0, .int .i64 0, .int .i64 0, .int .i64 0, .int .i64 0, .int .i64 0] 45 (0, 0)) := by rw [← hW]; simpa using heap_alloc_new (World.alloc w _) (.cells #[.slice none 0 0, .int .i64 0, .int .i64 0, .int .i64 0, .int .i64 0, .int .i64 0] 45 (0, 0))
  have sW : w.heap.size + 1 < W.heap.size := (Array.getElem?_eq_some_iff.1 P1).1
  clear hW
  have HP : Hid (W.heap[w.heap.size]? = some (.cells #[.slice a n cap, .int .i64 nx, .int .i64 sd, .int .i64 st, .int .i64 wh, .int .i64 wt] 45 (0, 0)) ∧ W.heap[w.heap.size + 1]? = some (.cells #[.slice none 0 0, .int .i64 0, .int .i64 0, .int .i64 0, .int .i64 0, .int .i64 0] 45 (0, 0))) := ⟨P0, P1⟩
  obtain ⟨x0, f0⟩ := at_block P0 0 _ rfl
  clear P0 P1
  go_wp2_with fail
  refine (cloneV _ os W (HV.out.ext XW) (by have := HN.out; omega)).mono ?_
  rintro e w1 ⟨v1, rfl, O1a, b1⟩
  have O1 : OwB w1 W.heap.size v1 os := ⟨O1a, HRG.out⟩
  clear O1a
  obtain ⟨a1, c1, hv1⟩ : ∃ a1 c1, v1 = .slice a1 n c1 := (by have := O1.shape; rw [← HN.out] at this; exact this)
  subst hv1
  have X1 : Ext W w1 := ext_below b1
  obtain ⟨z0, y0⟩ := at_block (ext_blk X1 HP.out.1) 0 _ rfl
  clear x0 f0 b1
  go_upto_region 2 with fail
  have Q0 : (w1.setCell ⟨w.heap.size, 0, none⟩ (.slice a1 n c1)).heap[w.heap.size]? = some (.cells #[.slice a1 n c1, .int .i64 nx, .int .i64 sd, .int .i64 st, .int .i64 wh, .int .i64 wt] 45 (0, 0)) := set_block (ext_blk X1 HP.out.1) 0 _
  have Q1 : (w1.setCell ⟨w.heap.size, 0, none⟩ (.slice a1 n c1)).heap[w.heap.size + 1]? = some (.cells #[.slice none 0 0, .int .i64 0, .int .i64 0, .int .i64 0, .int .i64 0, .int .i64 0] 45 (0, 0)) := set_other _ _ _ (by omega) (ext_blk X1 HP.out.2)
  have nb : ∀ b, b < W.heap.size → (Value.slice a1 n c1).ownBlock = none ∨ (Value.slice a1 n c1).ownBlock ≠ some b := fun b hb => by
    cases hv : (Value.slice a1 n c1).ownBlock with
    | none => exact .inl rfl
    | some k => exact .inr (by have := (O1.lt k hv).1; simp; omega)
  have OO : OwB (w1.setCell ⟨w.heap.size, 0, none⟩ (.slice a1 n c1)) W.heap.size (.slice a1 n c1) os := O1.keep (set_grown _ _ _ _) (nb _ (by omega))
  have BB : Below w.heap.size w (w1.setCell ⟨w.heap.size, 0, none⟩ (.slice a1 n c1)) := (ext_bel (XW.tr X1)).setCell (Nat.le_refl _) _
  have hsW : w.heap.size ≤ W.heap.size := by omega
  have NB := nb (w.heap.size + 1) (by omega)
  generalize w1.setCell ⟨w.heap.size, 0, none⟩ (.slice a1 n c1) = U at Q0 Q1 OO BB ⊢
  have HOO : Hid (OwB U W.heap.size (.slice a1 n c1) os) := OO
  have HBB : Hid (Below w.heap.size w U) := BB
  clear z0 y0 X1 O1 nb OO BB
  obtain ⟨p0, p1, p2, p3, p4, p5⟩ := cells6 Q0
  obtain ⟨r0, f0⟩ := at_block Q1 0 _ rfl
  obtain ⟨r1, f1⟩ := at_block Q1 1 _ rfl
  obtain ⟨r2, f2⟩ := at_block Q1 2 _ rfl
  obtain ⟨r3, f3⟩ := at_block Q1 3 _ rfl
  obtain ⟨r4, f4⟩ := at_block Q1 4 _ rfl
  obtain ⟨r5, f5⟩ := at_block Q1 5 _ rfl
  clear Q0 Q1
  go_wp2
  refine bodyPost_ret (v := .agg #[.slice a1 n c1, .int .i64 nx, .int .i64 sd, .int .i64 st, .int .i64 wh, .int .i64 wt]) (by simp [results, Try.results55, go_sem, *]) rfl ?_
  exact ⟨_, rfl, (chk_own HOO.out NB _ _ _ _ _ _).base hsW, chk_below HBB.out (Nat.le_succ _) _ _ _ _ _ _⟩

set_option maxHeartbeats 2000000 in
theorem isOverV (v : Value) (C : DChk) (w : World) (h : VChk w v C) :
    Calls Try.prog 76 #[v] w fun e w' => e = .returned (.bool (decide (0 < C.ttl) && decide (C.ttl ≤ C.age))) ∧ Below w.heap.size w w' := by
  have hB : ∀ w : World, ∀ o, Below w.heap.size w (w.alloc o) := fun w o => (Below.refl _ w).alloc (Nat.le_refl _) _
  obtain ⟨ov, rfl, ho⟩ := h
  obtain ⟨os, t, m, s, a, f⟩ := C
  simp only
  have HM : ∀ b : Bool, b = (decide (0 < t) && decide (t ≤ a)) → (e : Ending) → e = .returned (.bool b) → e = Ending.returned (.bool (decide (0 < t) && decide (t ≤ a))) := fun b hb e he => by rw [he, hb]
  clear ho
  go_enter Try.func76, Try.ntmps76
  by_cases h1 : 0 < t
  · by_cases h2 : t ≤ a
    · go_wp2
      go_ret
      exact ⟨HM true (by simp [h1, h2]) _ rfl, hB _ _⟩
    · go_wp2
      go_ret
      exact ⟨HM false (by simp [h2]) _ rfl, hB _ _⟩
  · go_wp2
    go_ret
    exact ⟨HM false (by simp; omega) _ rfl, hB _ _⟩

set_option maxHeartbeats 2000000 in
theorem becomeV (g base : Nat) (C : DChk) (tv : Value) (x : Int) (w : World) (h : ChB g base C tv w) :
    Calls Try.prog 90 #[.pointer (some ⟨g, 0, none⟩), .int .i64 x] w fun e w' => e = .returned (.bool (C.st != x)) ∧ ChB g base ⟨C.name, C.ttl, C.most, x, C.age, C.fails⟩ tv w' ∧ w.grownBy w' (some g) := by
  have HSET := hideR (h.st x)
  obtain ⟨os, t, m, s, a, f⟩ := C
  obtain ⟨p0, p1, p2, p3, p4, p5⟩ := cells6 h.1
  have f3 := (at_block h.1 3 _ rfl).2
  simp only at p3 HSET ⊢
  clear h p0 p1 p2 p4 p5
  go_enter Try.func90, Try.ntmps90
  go_wp2
  go_ret
  exact ⟨rfl, HSET.out⟩

end Go.Proofs.Ytpnachakijpjkaa
