
/- Pairs: held against one another. -/
import Derived.Test.YtollbjbgncjkoaaSt0
import Derived.Test.YtollbjbgncjkoaaQB
import Derived.Test.YtollbjbgncjkoaaValE
import Derived.Test.YtollbjbgncjkoaaOp0
import Derived.Deep.RegionHeld3
namespace Go.Proofs.Ytollbjbgncjkoaa
open Go.RowKit

theorem pair_shape {w : World} {v : Value} {xs : List Int} (h : RV w v xs) : ∃ a c, v = .slice a xs.length c := by
  obtain ⟨a, c, h1, _⟩ := h
  exact ⟨a, c, h1⟩
structure DPair where
  key : List Int
  val : List Int
def VPair (w : World) (v : Value) (d : DPair) : Prop := ∃ kv vv, v = .agg #[kv, vv] ∧ RV w kv d.key ∧ RV w vv d.val
def VPairs (w : World) (v : Value) (rs : List DPair) : Prop := ∃ C, SL w 2 v rs.length C ∧ ∀ i d, rs[i]? = some d → RV w (C i 0) d.key ∧ RV w (C i 1) d.val
theorem VPairs.ext {w w' : World} {v : Value} {rs : List DPair} (h : VPairs w v rs) (e : Ext w w') : VPairs w' v rs := by
  obtain ⟨C, h1, h2⟩ := h
  refine ⟨C, h1.ext e, fun i d hd => ?_⟩
  obtain ⟨e0, e1⟩ := h2 i d hd
  exact ⟨e0.ext e, e1.ext e⟩

set_option maxHeartbeats 2000000 in
theorem eqPairV (v u : Value) (d : DPair) (w : World) (h : VPair w v d) (k : VPair w u d) (hl : d.key.length ≤ 1048576 ∧ d.val.length ≤ 1048576) :
    Calls Try.prog 23 #[v, u] w fun e w' => e = .returned (.bool true) ∧ Below w.heap.size w w' := by
  have HL : Hid (d.key.length ≤ 1048576 ∧ d.val.length ≤ 1048576) := hl
  obtain ⟨nv, cv, rfl, hn, hc⟩ := h
  obtain ⟨nu, cu, rfl, kn, kc⟩ := k
  have EE : ∀ o o', Ext w ((w.alloc o).alloc o') := fun o o' => (World.grownBy_alloc _ _ _).trans (World.grownBy_alloc _ _ _)
  have hB2 : ∀ o o', Below w.heap.size w ((w.alloc o).alloc o') := fun o o' => ((Below.refl _ w).alloc (Nat.le_refl _) _).alloc (by simp) _
  have HC := (show Hid (RV w cv d.val ∧ RV w cu d.val) from ⟨hc, kc⟩)
  clear hc kc hl
  go_enter Try.func23, Try.ntmps23
  go_wp2_with fail
  refine (eqV_yes nv nu d.key _ (hn.ext (EE _ _)) (kn.ext (EE _ _)) (Nat.le_trans HL.out.1 (by omega))).mono ?_
  rintro e w1 ⟨rfl, q, rfl⟩
  go_wp2_with fail
  refine (eqV_yes cv cu d.val _ (HC.out.1.ext ((EE _ _).tr (ext_drewN _ q))) (HC.out.2.ext ((EE _ _).tr (ext_drewN _ q))) (Nat.le_trans HL.out.2 (by omega))).mono ?_
  rintro e w2 ⟨rfl, q2, rfl⟩
  go_wp2
  go_ret
  exact ⟨rfl, below_drewN (hB2 _ _) (q + q2)⟩

set_option maxHeartbeats 4000000 in
theorem eqS_Pa (v u : Value) (ss : List DPair) (w : World) (h : VPairs w v ss) (k : VPairs w u ss) (hn : ss.length ≤ 1048576) (hlen : ∀ (i : Nat) (s : DPair), ss[i]? = some s → s.key.length ≤ 1048576 ∧ s.val.length ≤ 1048576) :
    Calls Try.prog 8 #[v, u] w fun e w' => e = .returned (.bool true) ∧ Below w.heap.size w w' := by
  obtain ⟨C, ⟨a, cap, rfl, h1, h2, h3⟩, hC⟩ := h
  obtain ⟨D, ⟨a', cap', rfl, h1', h2', h3'⟩, hD⟩ := k
  have HC : Hid (∀ i d, ss[i]? = some d → RV w (C i 0) d.key ∧ RV w (C i 1) d.val) := hC
  have HD : Hid (∀ i d, ss[i]? = some d → RV w (D i 0) d.key ∧ RV w (D i 1) d.val) := hD
  clear hC hD
  obtain ⟨n, hnn⟩ : ∃ n, n = ss.length := ⟨_, rfl⟩
  rw [← hnn] at h1 h3 h1' h3' hn ⊢
  have HN : Hid (n = ss.length) := hnn
  clear hnn
  have H3 : Hid (0 < n → ∃ b o, a = some ⟨b, o, none⟩ ∧ b < w.heap.size ∧ ∀ i, i < n → ∀ j, j < 2 → w.cell? ⟨b, o + i * 2 + j, none⟩ = some (C i j)) := h3
  have H3' : Hid (0 < n → ∃ b o, a' = some ⟨b, o, none⟩ ∧ b < w.heap.size ∧ ∀ i, i < n → ∀ j, j < 2 → w.cell? ⟨b, o + i * 2 + j, none⟩ = some (D i j)) := h3'
  clear h3 h3'
  have HLN : Hid (∀ (i : Nat) (s : DPair), ss[i]? = some s → s.key.length ≤ 1048576 ∧ s.val.length ≤ 1048576) := hlen
  clear hlen
  have hml2 : (n : Int) ≤ 1048576 := by omega
  go_enter Try.func8, Try.ntmps8
  go_wp2
  go_loopw [5] (fun i wr => ∃ k : Nat, k ≤ n ∧ i = .int .i64 k ∧ Below w.heap.size w wr) (fun i _ => n - (intOf i).toNat)
  case atStart => exact ⟨0, Nat.zero_le _, rfl, Below.refl _ _⟩
  case round =>
    obtain ⟨k, hk, rfl, hb⟩ := hrel
    by_cases hlt : k < n
    · obtain ⟨b, o, rfl, hbl, hc⟩ := H3.out (by omega)
      obtain ⟨b', o', rfl, hbl', hc'⟩ := H3'.out (by omega)
      obtain ⟨s, hs⟩ : ∃ s, ss[k]? = some s := ⟨_, List.getElem?_eq_getElem (by have := HN.out; omega)⟩
      obtain ⟨e0, e1⟩ := HC.out k s hs
      obtain ⟨y0, y1⟩ := HD.out k s hs
      have X := ext_below hb
      have c0 := World.grownBy.cell X (hc k hlt 0 (by omega)) (by simp)
      rw [Nat.add_zero] at c0
      have cr := e0.ext X
      obtain ⟨ca, cc, cx⟩ := pair_shape cr
      rw [cx] at cr c0
      have c1 := World.grownBy.cell X (hc k hlt 1 (by omega)) (by simp)
      have ck := e1.ext X
      obtain ⟨cb, cd, cy⟩ := pair_shape ck
      rw [cy] at ck c1
      have d0 := World.grownBy.cell X (hc' k hlt 0 (by omega)) (by simp)
      rw [Nat.add_zero] at d0
      have dr := y0.ext X
      obtain ⟨da, dc, dx⟩ := pair_shape dr
      rw [dx] at dr d0
      have d1 := World.grownBy.cell X (hc' k hlt 1 (by omega)) (by simp)
      have dk := y1.ext X
      obtain ⟨db, dd, dy⟩ := pair_shape dk
      rw [dy] at dk d1
      have HE : Hid (∀ W', Ext wr W' → Calls Try.prog 23 #[.agg #[.slice ca s.key.length cc, .slice cb s.val.length cd], .agg #[.slice da s.key.length dc, .slice db s.val.length dd]] W' fun e w' => e = .returned (.bool true) ∧ Below W'.heap.size W' w') := fun W' e => eqPairV _ _ s W' ⟨_, _, rfl, cr.ext e, ck.ext e⟩ ⟨_, _, rfl, dr.ext e, dk.ext e⟩ (HLN.out k s hs)
      have hlt' : (k : Int) < (n : Int) := by omega
      clear hc hc' X cr dr ck dk
      have c0w := bw_cell c0
      have d0w := bw_cell d0
      have c1w := bw_cell c1
      have d1w := bw_cell d1
      have nonV := bw_ne wr
      go_wp2_with fail
      refine wp_region_bw (by kernel_rfl) (by kernel_rfl) ?_
      repeat (go_big_quiet_step ((go_at_call 23; exact bw_below (HE.out _ (bw_ext _)))))
      refine wpQuiet_nil ?_
      intro _ hw'
      obtain ⟨z, hw''⟩ := hw'
      subst hw''
      go_wp2
      go_roundw
      case rel => exact ⟨k + 1, by omega, by go_num, hb.trans (z.h.mono hb.size)⟩
      case measure => simp [intOf]; omega
    · have hkn : k = n := by omega
      subst hkn
      go_wp2
      go_ret
      exact ⟨rfl, hb⟩

end Go.Proofs.Ytollbjbgncjkoaa
