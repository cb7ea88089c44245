/- Trees held against one another. -/
import Derived.Test.YtdeogmkcomdbjaaTe2
import Derived.Deep.RegionHeld3
namespace Go.Proofs.Ytdeogmkcomdbjaa
open Go.RowKit

abbrev EqTSays {d : Nat} (t : DTree d) : Prop := ∀ (v u : Value) (w : World), VTree w t v → VTree w t u → szT t ≤ 1048576 → Calls Try.prog 11 #[v, u] w fun e w' => e = .returned (.bool true) ∧ Below w.heap.size w w'

set_option maxHeartbeats 2000000 in
theorem eqTS {d : Nat} (n : Nat) (kid : Nat → DTree d) (ih : ∀ i, EqTSays (kid i)) (v u : Value) (w : World) (h : VKids w n kid v) (k : VKids w n kid u) (hsz : n + sumN n (fun i => szT (kid i)) ≤ 1048576) :
    Calls Try.prog 33 #[v, u] w fun e w' => e = .returned (.bool true) ∧ Below w.heap.size w w' := by
  obtain ⟨C, ⟨a, cap, rfl, h1, h2, h3⟩, hC⟩ := h
  obtain ⟨D, ⟨a', cap', rfl, h1', h2', h3'⟩, hD⟩ := k
  have HC : Hid (∀ i, i < n → VTree w (kid i) (.agg #[C i 0, C i 1, C i 2, C i 3])) := hC
  have HD : Hid (∀ i, i < n → VTree w (kid i) (.agg #[D i 0, D i 1, D i 2, D i 3])) := hD
  clear hC hD
  have HI : Hid (∀ i, EqTSays (kid i)) := ih
  clear ih
  have HZ : Hid (∀ i, i < n → szT (kid i) ≤ 1048576) := fun i hi => by
    have : szT (kid i) ≤ sumN n (fun i => szT (kid i)) := sumN_mem (fun i => szT (kid i)) hi
    omega
  have H3 : Hid (0 < n → ∃ b o, a = some ⟨b, o, none⟩ ∧ b < w.heap.size ∧ ∀ i, i < n → ∀ j, j < 4 → w.cell? ⟨b, o + i * 4 + j, none⟩ = some (C i j)) := h3
  have H3' : Hid (0 < n → ∃ b o, a' = some ⟨b, o, none⟩ ∧ b < w.heap.size ∧ ∀ i, i < n → ∀ j, j < 4 → w.cell? ⟨b, o + i * 4 + j, none⟩ = some (D i j)) := h3'
  clear h3 h3'
  have hml2 : (n : Int) ≤ 1048576 := by omega
  clear hsz
  go_enter Try.func33, Try.ntmps33
  go_wp2_with fail
  go_loopw [5] (fun i wr => ∃ k : Nat, k ≤ n ∧ i = .int .i64 k ∧ Below w.heap.size w wr) (fun i _ => n - (intOf i).toNat)
  case atStart => exact ⟨0, Nat.zero_le _, rfl, Below.refl _ _⟩
  case round =>
    obtain ⟨k, hk, rfl, hb⟩ := hrel
    by_cases hlt : k < n
    · obtain ⟨b, o, rfl, hbl, hc⟩ := H3.out (by omega)
      obtain ⟨b', o', rfl, hbl', hc'⟩ := H3'.out (by omega)
      have X2 : Ext w wr.drew := (ext_below hb).tr (ext_drewN wr 1)
      have hT := VTree.ext X2 _ _ (HC.out k hlt)
      have hU := VTree.ext X2 _ _ (HD.out k hlt)
      have c0 := World.grownBy.cell (ext_below hb) (hc k hlt 0 (by omega)) (by simp)
      have c1 := World.grownBy.cell (ext_below hb) (hc k hlt 1 (by omega)) (by simp)
      have c2 := World.grownBy.cell (ext_below hb) (hc k hlt 2 (by omega)) (by simp)
      have c3 := World.grownBy.cell (ext_below hb) (hc k hlt 3 (by omega)) (by simp)
      have d0 := World.grownBy.cell (ext_below hb) (hc' k hlt 0 (by omega)) (by simp)
      have d1 := World.grownBy.cell (ext_below hb) (hc' k hlt 1 (by omega)) (by simp)
      have d2 := World.grownBy.cell (ext_below hb) (hc' k hlt 2 (by omega)) (by simp)
      have d3 := World.grownBy.cell (ext_below hb) (hc' k hlt 3 (by omega)) (by simp)
      rw [Nat.add_zero] at c0 d0
      obtain ⟨e', h', x', n', d', kid', ht, e1, e2, r0, rk⟩ := hT.cells
      obtain ⟨e6, h6, x6, n6, d6, kid6, ht6, e16, e26, r06, rk6⟩ := hU.cells
      obtain ⟨a0, p0, x0, _, _, _⟩ := r0
      obtain ⟨a3, p3, x3, _, _⟩ := rk.slice
      obtain ⟨a06, p06, x06, _, _, _⟩ := r06
      obtain ⟨a36, p36, x36, _, _⟩ := rk6.slice
      rw [x0, e1, e2, x3] at hT
      rw [x06, e16, e26, x36] at hU
      rw [x0] at c0
      rw [e1] at c1
      rw [e2] at c2
      rw [x3] at c3
      rw [x06] at d0
      rw [e16] at d1
      rw [e26] at d2
      rw [x36] at d3
      have hlt' : (k : Int) < (n : Int) := by omega
      have hb5 : Below w.heap.size w wr.drew := below_drewN hb 1
      have HT : Hid (VTree wr.drew (kid k) (.agg #[.slice a0 e'.length p0, .bool h', .int .i64 x', .slice a3 n' p3])) := hT
      have HU : Hid (VTree wr.drew (kid k) (.agg #[.slice a06 e6.length p06, .bool h6, .int .i64 x6, .slice a36 n6 p36])) := hU
      clear hc hc' X2 ht ht6 rk rk6 e1 e2 x0 x3 e16 e26 x06 x36 hT hU
      generalize e'.length = m' at *
      generalize e6.length = m6 at *
      go_wp2_with fail
      go_region_held3 (fun w' => w'.cell? ⟨b, o + k * 4, none⟩ = some (.slice a0 m' p0) ∧ w'.cell? ⟨b, o + k * 4 + 1, none⟩ = some (.bool h') ∧ w'.cell? ⟨b, o + k * 4 + 2, none⟩ = some (.int .i64 x') ∧ w'.cell? ⟨b, o + k * 4 + 3, none⟩ = some (.slice a3 n' p3) ∧ w'.cell? ⟨b', o' + k * 4, none⟩ = some (.slice a06 m6 p06) ∧ w'.cell? ⟨b', o' + k * 4 + 1, none⟩ = some (.bool h6) ∧ w'.cell? ⟨b', o' + k * 4 + 2, none⟩ = some (.int .i64 x6) ∧ w'.cell? ⟨b', o' + k * 4 + 3, none⟩ = some (.slice a36 n6 p36)) (simp [*])
        ((go_at_call 11; refine (HI.out k _ _ _ HT.out HU.out (HZ.out k hlt)).mono ?_; rintro e w7 ⟨rfl, b7⟩; have ck0 := World.grownBy.cell (ext_below b7) (show wr.drew.cell? _ = _ from c0) (by simp); have ck1 := World.grownBy.cell (ext_below b7) (show wr.drew.cell? _ = _ from c1) (by simp); have ck2 := World.grownBy.cell (ext_below b7) (show wr.drew.cell? _ = _ from c2) (by simp); have ck3 := World.grownBy.cell (ext_below b7) (show wr.drew.cell? _ = _ from c3) (by simp); have dk0 := World.grownBy.cell (ext_below b7) (show wr.drew.cell? _ = _ from d0) (by simp); have dk1 := World.grownBy.cell (ext_below b7) (show wr.drew.cell? _ = _ from d1) (by simp); have dk2 := World.grownBy.cell (ext_below b7) (show wr.drew.cell? _ = _ from d2) (by simp); have dk3 := World.grownBy.cell (ext_below b7) (show wr.drew.cell? _ = _ from d3) (by simp)))
      all_goals
        go_wp2_with fail
        go_roundw
        case rel => exact ⟨k + 1, by omega, by go_num, hb5.trans (b7.mono hb5.size)⟩
        case measure => simp [intOf]; omega
    · have hkn : k = n := by omega
      subst hkn
      go_wp2_with fail
      go_ret
      exact ⟨rfl, hb⟩

set_option maxHeartbeats 1000000 in
theorem eqTree_step {d : Nat} (ed : List Int) (h : Bool) (x : Int) (n : Nat) (kid : Nat → DTree d) (ih : ∀ i, EqTSays (kid i)) : EqTSays (DTree.node ed h x n kid) := by
    intro v u w ht hu hsz
    obtain ⟨ev, kv, rfl, re, rk⟩ := ht.open_
    obtain ⟨ev', kv', rfl, re', rk'⟩ := hu.open_
    have hE : ∀ w : World, ∀ o, Ext w (w.alloc o) := fun w o => World.grownBy_alloc _ _ _
    have x2 : ∀ a b, Ext w ((w.alloc a).alloc b) := fun a b => (hE _ _).tr (hE _ _)
    have HI : Hid (∀ i, EqTSays (kid i)) := ih
    have HZ : Hid (n + sumN n (fun i => szT (kid i)) ≤ 1048576) := by
      show _ ≤ _
      have hsz : ed.length + (n + sumN n (fun i => szT (kid i))) ≤ 1048576 := hsz
      omega
    have hel : ed.length ≤ 2097152 := by
      have hsz : ed.length + (n + sumN n (fun i => szT (kid i))) ≤ 1048576 := hsz
      omega
    clear ih hsz ht hu
    go_enter Try.func11, Try.ntmps11
    go_wp2_with fail
    refine (eqV_yes ev ev' ed _ (re.ext (x2 _ _)) (re'.ext (x2 _ _)) hel).mono ?_
    rintro e w1 ⟨rfl, q1, rfl⟩
    go_wp2_with fail
    refine (eqTS n kid HI.out kv kv' _ ((rk.ext (x2 _ _)).ext (ext_drewN _ _)) ((rk'.ext (x2 _ _)).ext (ext_drewN _ _)) HZ.out).mono ?_
    rintro e w2 ⟨rfl, b2⟩
    have hb2 := (below_drewN (((Below.refl _ w).alloc (Nat.le_refl _) (.cells #[ev, .bool h, .int .i64 x, kv] 30)).alloc (by simp) (.cells #[ev', .bool h, .int .i64 x, kv'] 30)) q1).trans (b2.mono (by simp; omega))
    go_wp2_with fail
    go_ret
    exact ⟨rfl, hb2⟩

theorem eqTree_anyD : ∀ (d : Nat) (t : DTree d), EqTSays t
  | 0, _ => fun _ _ _ ht => False.elim ht
  | d + 1, (e, h, x, n, kid) => eqTree_step e h x n kid (fun i => eqTree_anyD d (kid i))
theorem eqTree_any {d : Nat} (t : DTree d) : EqTSays t := eqTree_anyD d t

end Go.Proofs.Ytdeogmkcomdbjaa
