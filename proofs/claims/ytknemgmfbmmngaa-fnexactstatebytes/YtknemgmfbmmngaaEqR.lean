/- The exact statements' helpers that hold against one another: Row. -/
import Derived.Test.YtknemgmfbmmngaaTo0
import Derived.Test.YtknemgmfbmmngaaSz0
import Derived.Deep.RegionHeld3
namespace Go.Proofs.Ytknemgmfbmmngaa
open Go.RowKit

set_option maxHeartbeats 1000000 in
theorem eqEl_R (kv vv kv' vv' : Value) (s : DRow) (w : World) (rk : RV w kv s.key) (rv : RV w vv s.val) (rk' : RV w kv' s.key) (rv' : RV w vv' s.val) (hk : s.key.length ≤ 2097152) (hv : s.val.length ≤ 2097152) :
    Calls Try.prog 64 #[.agg #[kv, vv, .int .i64 s.turned, .int .i64 s.holder], .agg #[kv', vv', .int .i64 s.turned, .int .i64 s.holder]] w fun e w' => e = .returned (.bool true) ∧ Below w.heap.size w w' := by
  have hE : ∀ w : World, ∀ o, Ext w (w.alloc o) := fun w o => World.grownBy_alloc _ _ _
  have x2 : ∀ a b, Ext w ((w.alloc a).alloc b) := fun a b => (hE _ _).tr (hE _ _)
  go_enter Try.func64, Try.ntmps64
  go_wp2_with fail
  refine (eqV_yes kv kv' s.key _ (rk.ext (x2 _ _)) (rk'.ext (x2 _ _)) hk).mono ?_
  rintro e w1 ⟨rfl, q1, rfl⟩
  go_wp2_with fail
  refine (eqV_yes vv vv' s.val _ ((rv.ext (x2 _ _)).ext (ext_drewN _ _)) ((rv'.ext (x2 _ _)).ext (ext_drewN _ _)) hv).mono ?_
  rintro e w2 ⟨rfl, q2, rfl⟩
  go_wp2
  go_ret
  exact ⟨rfl, below_drewN (((Below.refl _ w).alloc (Nat.le_refl _) _).alloc (by simp) _) _⟩

set_option maxHeartbeats 2000000 in
theorem eqS_R (v u : Value) (ss : List DRow) (w : World) (h : VRows w v ss) (k : VRows w u ss) (hn : ss.length ≤ 1048576) (hlen : ∀ (i : Nat) (s : DRow), ss[i]? = some s → s.key.length ≤ 2097152 ∧ s.val.length ≤ 2097152) :
    Calls Try.prog 33 #[v, u] w fun e w' => e = .returned (.bool true) ∧ Below w.heap.size w w' := by
  obtain ⟨C, ⟨a, cap, rfl, h1, h2, h3⟩, hC⟩ := h
  obtain ⟨D, ⟨a', cap', rfl, h1', h2', h3'⟩, hD⟩ := k
  have HC : Hid (∀ i r, ss[i]? = some r → RV w (C i 0) r.key ∧ RV w (C i 1) r.val ∧ C i 2 = .int .i64 r.turned ∧ C i 3 = .int .i64 r.holder) := hC
  have HD : Hid (∀ i r, ss[i]? = some r → RV w (D i 0) r.key ∧ RV w (D i 1) r.val ∧ D i 2 = .int .i64 r.turned ∧ D i 3 = .int .i64 r.holder) := hD
  clear hC hD
  obtain ⟨n, hnn⟩ : ∃ n, n = ss.length := ⟨_, rfl⟩
  rw [← hnn] at h1 h3 h1' h3' hn ⊢
  have HN : Hid (n = ss.length) := hnn
  clear hnn
  have H3 : Hid (0 < n → ∃ b o, a = some ⟨b, o, none⟩ ∧ b < w.heap.size ∧ ∀ i, i < n → ∀ j, j < 4 → w.cell? ⟨b, o + i * 4 + j, none⟩ = some (C i j)) := h3
  have H3' : Hid (0 < n → ∃ b o, a' = some ⟨b, o, none⟩ ∧ b < w.heap.size ∧ ∀ i, i < n → ∀ j, j < 4 → w.cell? ⟨b, o + i * 4 + j, none⟩ = some (D i j)) := h3'
  clear h3 h3'
  have HLN : Hid (∀ (i : Nat) (s : DRow), ss[i]? = some s → s.key.length ≤ 2097152 ∧ s.val.length ≤ 2097152) := hlen
  clear hlen
  have hml2 : (n : Int) ≤ 1048576 := by omega
  go_enter Try.func33, Try.ntmps33
  go_wp2
  go_loopw [5] (fun i wr => ∃ k : Nat, k ≤ n ∧ i = .int .i64 k ∧ Below w.heap.size w wr) (fun i _ => n - (intOf i).toNat)
  case atStart => exact ⟨0, Nat.zero_le _, rfl, Below.refl _ _⟩
  case round =>
    obtain ⟨k, hk, rfl, hb⟩ := hrel
    by_cases hlt : k < n
    · obtain ⟨b, o, rfl, hbl, hc⟩ := H3.out (by omega)
      obtain ⟨b', o', rfl, hbl', hc'⟩ := H3'.out (by omega)
      obtain ⟨s, hs⟩ : ∃ s, ss[k]? = some s := ⟨_, List.getElem?_eq_getElem (by have := HN.out; omega)⟩
      obtain ⟨e0, e1, e2, e3⟩ := HC.out k s hs
      obtain ⟨y0, y1, y2, y3⟩ := HD.out k s hs
      have X2 : Ext w wr.drew := (ext_below hb).tr (ext_drewN wr 1)
      have c0 := World.grownBy.cell (ext_below hb) (hc k hlt 0 (by omega)) (by simp)
      have cr0 := e0.ext X2
      obtain ⟨ca0, cp0, cx0, _, _, _⟩ := e0
      rw [cx0] at cr0 c0
      rw [Nat.add_zero] at c0
      have c1 := World.grownBy.cell (ext_below hb) (hc k hlt 1 (by omega)) (by simp)
      have cr1 := e1.ext X2
      obtain ⟨ca1, cp1, cx1, _, _, _⟩ := e1
      rw [cx1] at cr1 c1
      have c2 := World.grownBy.cell (ext_below hb) (hc k hlt 2 (by omega)) (by simp)
      rw [e2] at c2
      have c3 := World.grownBy.cell (ext_below hb) (hc k hlt 3 (by omega)) (by simp)
      rw [e3] at c3
      have d0 := World.grownBy.cell (ext_below hb) (hc' k hlt 0 (by omega)) (by simp)
      have dr0 := y0.ext X2
      obtain ⟨da0, dp0, dx0, _, _, _⟩ := y0
      rw [dx0] at dr0 d0
      rw [Nat.add_zero] at d0
      have d1 := World.grownBy.cell (ext_below hb) (hc' k hlt 1 (by omega)) (by simp)
      have dr1 := y1.ext X2
      obtain ⟨da1, dp1, dx1, _, _, _⟩ := y1
      rw [dx1] at dr1 d1
      have d2 := World.grownBy.cell (ext_below hb) (hc' k hlt 2 (by omega)) (by simp)
      rw [y2] at d2
      have d3 := World.grownBy.cell (ext_below hb) (hc' k hlt 3 (by omega)) (by simp)
      rw [y3] at d3
      have hlt' : (k : Int) < (n : Int) := by omega
      have hb5 : Below w.heap.size w wr.drew := below_drewN hb 1
      clear hc hc' X2
      go_wp2_with fail
      go_region_held3 (fun w' => w'.cell? ⟨b, o + k * 4, none⟩ = some (.slice ca0 s.key.length cp0) ∧ w'.cell? ⟨b, o + k * 4 + 1, none⟩ = some (.slice ca1 s.val.length cp1) ∧ w'.cell? ⟨b, o + k * 4 + 2, none⟩ = some (.int .i64 s.turned) ∧ w'.cell? ⟨b, o + k * 4 + 3, none⟩ = some (.int .i64 s.holder) ∧ w'.cell? ⟨b', o' + k * 4, none⟩ = some (.slice da0 s.key.length dp0) ∧ w'.cell? ⟨b', o' + k * 4 + 1, none⟩ = some (.slice da1 s.val.length dp1) ∧ w'.cell? ⟨b', o' + k * 4 + 2, none⟩ = some (.int .i64 s.turned) ∧ w'.cell? ⟨b', o' + k * 4 + 3, none⟩ = some (.int .i64 s.holder)) (simp [*])
        ((go_at_call 64; refine (eqEl_R _ _ _ _ s _ cr0 cr1 dr0 dr1 (HLN.out k s hs).1 (HLN.out k s hs).2).mono ?_; rintro e w7 ⟨rfl, b7⟩; have ck0 := World.grownBy.cell (ext_below b7) (show wr.drew.cell? _ = _ from c0) (by simp); have ck1 := World.grownBy.cell (ext_below b7) (show wr.drew.cell? _ = _ from c1) (by simp); have ck2 := World.grownBy.cell (ext_below b7) (show wr.drew.cell? _ = _ from c2) (by simp); have ck3 := World.grownBy.cell (ext_below b7) (show wr.drew.cell? _ = _ from c3) (by simp); have dk0 := World.grownBy.cell (ext_below b7) (show wr.drew.cell? _ = _ from d0) (by simp); have dk1 := World.grownBy.cell (ext_below b7) (show wr.drew.cell? _ = _ from d1) (by simp); have dk2 := World.grownBy.cell (ext_below b7) (show wr.drew.cell? _ = _ from d2) (by simp); have dk3 := World.grownBy.cell (ext_below b7) (show wr.drew.cell? _ = _ from d3) (by simp)))
      all_goals
        go_wp2
        go_roundw
        case rel => exact ⟨k + 1, by omega, by go_num, hb5.trans (b7.mono hb5.size)⟩
        case measure => simp [intOf]; omega
    · have hkn : k = n := by omega
      subst hkn
      go_wp2
      go_ret
      exact ⟨rfl, hb⟩

end Go.Proofs.Ytknemgmfbmmngaa
