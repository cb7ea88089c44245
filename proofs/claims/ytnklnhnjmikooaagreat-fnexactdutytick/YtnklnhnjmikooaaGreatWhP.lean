
/- The contracts of the program's ahead and timerPlace. -/
import Derived.Test.YtnklnhnjmikooaaGreatWhS
namespace Go.Proofs.YtnklnhnjmikooaaGreat
open Go.RowKit

set_option maxHeartbeats 1000000 in
theorem iaheadV (a b : DTim) (w : World) : Calls Tryz.prog 101 #[.agg #[.int .i64 a.id, .int .i64 a.due], .agg #[.int .i64 b.id, .int .i64 b.due]] w fun e w' => e = .returned (.bool (aheadB a b)) ∧ Below w.heap.size w w' := by
  have HB : Hid (∀ o o', Below w.heap.size w ((w.alloc o).alloc o')) := fun o o' => ((Below.refl _ w).alloc (Nat.le_refl _) _).alloc (by simp) _
  rcases Int.lt_trichotomy a.due b.due with h | h | h
  · have HK : Hid (aheadB a b = true) := ahead_lt h
    go_enter Tryz.func101, Tryz.ntmps101
    go_wp2
    go_ret
    exact ⟨by rw [HK.out]; rfl, HB.out _ _⟩
  · have HK : Hid (aheadB a b = decide (a.id < b.id)) := ahead_eq h
    have h1 : decide (a.due < b.due) = false := by simp; omega
    have h2 : decide (a.due = b.due) = true := by simpa using h
    have h3 : ¬ a.due < b.due := by omega
    have h4 : (a.due == b.due) = true := by simpa using h
    clear h
    go_enter Tryz.func101, Tryz.ntmps101
    go_wp2
    go_ret
    exact ⟨by rw [HK.out]; rfl, HB.out _ _⟩
  · have HK : Hid (aheadB a b = false) := ahead_gt h
    have h1 : decide (a.due < b.due) = false := by simp; omega
    have h2 : decide (a.due = b.due) = false := by simp; omega
    have h3 : ¬ a.due < b.due := by omega
    have h4 : (a.due == b.due) = false := by simp; omega
    go_enter Tryz.func101, Tryz.ntmps101
    go_wp2
    go_ret
    exact ⟨by rw [HK.out]; rfl, HB.out _ _⟩

set_option maxHeartbeats 1000000 in
theorem tpOneV (s : DTim) (g : Nat) (id : Int) (w : World) (h : w.cell? ⟨g, 0, none⟩ = some (.int .i64 id)) : Calls Tryz.prog 124 #[.agg #[.int .i64 s.id, .int .i64 s.due], .pointer (some ⟨g, 0, none⟩)] w fun e w' => e = .returned (.bool (decide (s.id = id))) ∧ Below w.heap.size w w' := by
  have hg : g < w.heap.size := World.block_lt_of_cell? w _ h
  have hne : ∀ o, (w.alloc o).cell? ⟨g, 0, none⟩ = some (.int .i64 id) := fun o => World.grownBy.cell (World.grownBy_alloc w o none) h (by simp)
  go_enter Tryz.func124, Tryz.ntmps124
  go_wp2
  go_ret
  exact ⟨by first | rfl | simp, (Below.refl _ w).alloc (Nat.le_refl _) _⟩

set_option maxHeartbeats 1000000 in
theorem indexV (v : Value) (ts : List DTim) (g : Nat) (id : Int) (w : World) (h : VTims w v ts) (hg : w.cell? ⟨g, 0, none⟩ = some (.int .i64 id)) : Calls Tryz.prog 123 #[v, .func (Fn.func 124) #[] #[.pointer (some ⟨g, 0, none⟩)]] w fun e w' => e = .returned (.int .i64 (placeT ts id)) ∧ Below w.heap.size w w' := by
  obtain ⟨C, ⟨a, cap, rfl, h1, h2, h3⟩, hC⟩ := h
  have HC : Hid (∀ (i : Nat) (r : DTim), ts[i]? = some r → C i 0 = Value.int IntKind.i64 r.id ∧ C i 1 = Value.int IntKind.i64 r.due) := hC
  clear hC
  have HG : Hid (w.cell? ⟨g, 0, none⟩ = some (.int .i64 id)) := hg
  clear hg
  obtain ⟨n, hn⟩ : ∃ n, n = ts.length := ⟨_, rfl⟩
  rw [← hn] at h1 h3 ⊢
  have HN : Hid (n = ts.length) := hn
  clear hn
  unfold maxLen at h2
  have H3 : Hid (0 < n → ∃ b o, a = some ⟨b, o, none⟩ ∧ b < w.heap.size ∧ ∀ i, i < n → ∀ j, j < 2 → w.cell? ⟨b, o + i * 2 + j, none⟩ = some (C i j)) := h3
  clear h3
  obtain ⟨r, hr⟩ : ∃ r, r = placeT ts id := ⟨_, rfl⟩
  rw [← hr]
  have HR : Hid (r = placeT ts id) := hr
  clear hr
  go_enter Tryz.func123, Tryz.ntmps123
  go_wp2
  go_loopw [8] (fun i wr => ∃ k : Nat, k ≤ n ∧ i = .int .i64 k ∧ Below w.heap.size w wr ∧ Hid (∀ (j : Nat) (u : DTim), j < k → ts[j]? = some u → u.id ≠ id)) (fun i _ => n - (intOf i).toNat)
  case atStart => exact ⟨0, Nat.zero_le _, rfl, Below.refl _ _, fun j u hj => absurd hj (by omega)⟩
  case round =>
    obtain ⟨k, hk, rfl, hb, hall⟩ := hrel
    by_cases hlt : k < n
    · obtain ⟨b, o, rfl, hbl, hc⟩ := H3.out (by omega)
      obtain ⟨s, hs⟩ : ∃ s, ts[k]? = some s := ⟨_, List.getElem?_eq_getElem (by have := HN.out; omega)⟩
      obtain ⟨e0, e1⟩ := HC.out k s hs
      have c0 := World.grownBy.cell (ext_below hb) (hc k hlt 0 (by omega)) (by simp)
      have c1 := World.grownBy.cell (ext_below hb) (hc k hlt 1 (by omega)) (by simp)
      rw [e0, Nat.add_zero] at c0
      rw [e1] at c1
      have HGW := World.grownBy.cell (ext_below hb) HG.out (by simp)
      have hlt' : (k : Int) < (n : Int) := by omega
      clear hc e0 e1
      go_wp2_with fail
      refine (tpOneV s g id _ HGW).mono ?_
      rintro e w2 ⟨rfl, b2⟩
      have hb2 := hb.trans (b2.mono hb.size)
      by_cases he : s.id = id
      · have HK : Hid (r = (k : Int)) := by rw [HR.out]; exact placeT_some hs he hall.out
        have he2 : decide (s.id = id) = true := by simpa using he
        rw [he2]
        clear hs hall he he2 c0 c1 HGW
        go_wp2
        go_ret
        exact ⟨by rw [HK.out]; rfl, hb2⟩
      · have HA : Hid (∀ (j : Nat) (u : DTim), j < k + 1 → ts[j]? = some u → u.id ≠ id) := fun j u hj hu => by
          by_cases e : j = k
          · subst e
            rw [hs] at hu
            cases hu
            exact he
          · exact hall.out j u (by omega) hu
        have he2 : decide (s.id = id) = false := by simpa using he
        rw [he2]
        clear hs hall he2 c0 c1 HGW
        go_wp2
        go_roundw
        case rel => exact ⟨k + 1, by omega, by go_num, hb2, HA⟩
        case measure => simp [intOf]; omega
    · have hkn : k = n := by omega
      subst hkn
      have HK : Hid (r = -1) := by
        rw [HR.out]
        exact placeT_none fun i t ht => hall.out i t (by have := (List.getElem?_eq_some_iff.1 ht).1; have := HN.out; omega) ht
      clear hall
      go_wp2
      go_ret
      exact ⟨by rw [HK.out]; rfl, hb⟩

set_option maxHeartbeats 1000000 in
theorem placeV (v : Value) (ts : List DTim) (id : Int) (w : World) (h : VTims w v ts) : Calls Tryz.prog 118 #[v, .int .i64 id] w fun e w' => e = .returned (.int .i64 (placeT ts id)) ∧ Below w.heap.size w w' := by
  have hv := h
  obtain ⟨a, cap, rfl⟩ := h.shape
  go_enter Tryz.func118, Tryz.ntmps118
  go_wp2_with fail
  refine (indexV _ ts w.heap.size id _ (hv.ext (World.grownBy_alloc _ _ _)) (at_block (heap_alloc_new w _) 0 _ rfl).1).mono ?_
  rintro e w1 ⟨rfl, b1⟩
  go_wp2
  go_ret
  exact ⟨rfl, ((Below.refl _ w).alloc (Nat.le_refl _) _).trans (b1.mono (by simp))⟩

end Go.Proofs.YtnklnhnjmikooaaGreat
