
/- The exact statements' helpers that hold against one another: Timer. -/
import Derived.Test.YtnklnhnjmikooaaGreatWh0
import Derived.Test.YtnklnhnjmikooaaGreatSz1
import Derived.Test.YtnklnhnjmikooaaGreatInf
import Derived.Deep.RegionHeld3
namespace Go.Proofs.YtnklnhnjmikooaaGreat
open Go.RowKit

set_option maxHeartbeats 1000000 in
theorem eqEl_W (s : DTim) (w : World) :
    Calls Tryz.prog 109 #[.agg #[.int .i64 s.id, .int .i64 s.due], .agg #[.int .i64 s.id, .int .i64 s.due]] w fun e w' => e = .returned (.bool true) ∧ Below w.heap.size w w' := by
  go_enter Tryz.func109, Tryz.ntmps109
  go_wp2
  go_ret
  exact ⟨rfl, ((Below.refl _ w).alloc (Nat.le_refl _) _).alloc (by simp) _⟩

set_option maxHeartbeats 2000000 in
theorem eqS_W (v u : Value) (ss : List DTim) (w : World) (h : VTims w v ss) (k : VTims w u ss) (hn : ss.length ≤ 1048576) :
    Calls Tryz.prog 86 #[v, u] w fun e w' => e = .returned (.bool true) ∧ Below w.heap.size w w' := by
  obtain ⟨C, ⟨a, cap, rfl, h1, h2, h3⟩, hC⟩ := h
  obtain ⟨D, ⟨a', cap', rfl, h1', h2', h3'⟩, hD⟩ := k
  have HC : Hid (∀ i r, ss[i]? = some r → C i 0 = .int .i64 r.id ∧ C i 1 = .int .i64 r.due) := hC
  have HD : Hid (∀ i r, ss[i]? = some r → D i 0 = .int .i64 r.id ∧ D i 1 = .int .i64 r.due) := hD
  clear hC hD
  obtain ⟨n, hnn⟩ : ∃ n, n = ss.length := ⟨_, rfl⟩
  rw [← hnn] at h1 h3 h1' h3' hn ⊢
  have HN : Hid (n = ss.length) := hnn
  clear hnn
  have H3 : Hid (0 < n → ∃ b o, a = some ⟨b, o, none⟩ ∧ b < w.heap.size ∧ ∀ i, i < n → ∀ j, j < 2 → w.cell? ⟨b, o + i * 2 + j, none⟩ = some (C i j)) := h3
  have H3' : Hid (0 < n → ∃ b o, a' = some ⟨b, o, none⟩ ∧ b < w.heap.size ∧ ∀ i, i < n → ∀ j, j < 2 → w.cell? ⟨b, o + i * 2 + j, none⟩ = some (D i j)) := h3'
  clear h3 h3'
  have hml2 : (n : Int) ≤ 1048576 := by omega
  go_enter Tryz.func86, Tryz.ntmps86
  go_wp2
  go_loopw [5] (fun i wr => ∃ k : Nat, k ≤ n ∧ i = .int .i64 k ∧ Below w.heap.size w wr) (fun i _ => n - (intOf i).toNat)
  case atStart => exact ⟨0, Nat.zero_le _, rfl, Below.refl _ _⟩
  case round =>
    obtain ⟨k, hk, rfl, hb⟩ := hrel
    by_cases hlt : k < n
    · obtain ⟨b, o, rfl, hbl, hc⟩ := H3.out (by omega)
      obtain ⟨b', o', rfl, hbl', hc'⟩ := H3'.out (by omega)
      obtain ⟨s, hs⟩ : ∃ s, ss[k]? = some s := ⟨_, List.getElem?_eq_getElem (by have := HN.out; omega)⟩
      obtain ⟨e0, e1⟩ := HC.out k s hs
      obtain ⟨y0, y1⟩ := HD.out k s hs
      have X2 : Ext w wr.drew := (ext_below hb).tr (ext_drewN wr 1)
      have c0 := World.grownBy.cell (ext_below hb) (hc k hlt 0 (by omega)) (by simp)
      rw [e0, Nat.add_zero] at c0
      have c1 := World.grownBy.cell (ext_below hb) (hc k hlt 1 (by omega)) (by simp)
      rw [e1] at c1
      have d0 := World.grownBy.cell (ext_below hb) (hc' k hlt 0 (by omega)) (by simp)
      rw [y0, Nat.add_zero] at d0
      have d1 := World.grownBy.cell (ext_below hb) (hc' k hlt 1 (by omega)) (by simp)
      rw [y1] at d1
      have hlt' : (k : Int) < (n : Int) := by omega
      have hb5 : Below w.heap.size w wr.drew := below_drewN hb 1
      clear hc hc' X2
      go_wp2_with fail
      go_region_held3 (fun w' => w'.cell? ⟨b, o + k * 2, none⟩ = some (.int .i64 s.id) ∧ w'.cell? ⟨b, o + k * 2 + 1, none⟩ = some (.int .i64 s.due) ∧ w'.cell? ⟨b', o' + k * 2, none⟩ = some (.int .i64 s.id) ∧ w'.cell? ⟨b', o' + k * 2 + 1, none⟩ = some (.int .i64 s.due)) (simp [*])
        ((go_at_call 109; refine (eqEl_W s _).mono ?_; rintro e w7 ⟨rfl, b7⟩; have ck0 := World.grownBy.cell (ext_below b7) (show wr.drew.cell? _ = _ from c0) (by simp); have ck1 := World.grownBy.cell (ext_below b7) (show wr.drew.cell? _ = _ from c1) (by simp); have dk0 := World.grownBy.cell (ext_below b7) (show wr.drew.cell? _ = _ from d0) (by simp); have dk1 := World.grownBy.cell (ext_below b7) (show wr.drew.cell? _ = _ from d1) (by simp)))
      all_goals
        go_wp2
        go_roundw
        case rel => exact ⟨k + 1, by omega, by go_num, hb5.trans (b7.mono hb5.size)⟩
        case measure => simp [intOf]; omega
    · have hkn : k = n := by omega
      subst hkn
      go_wp2
      go_ret
      exact ⟨rfl, hb⟩

end Go.Proofs.YtnklnhnjmikooaaGreat
