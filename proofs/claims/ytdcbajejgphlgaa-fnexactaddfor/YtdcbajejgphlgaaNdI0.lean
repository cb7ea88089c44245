/- The program's searches over lists of numbers and of bools. -/
import Derived.Test.YtdcbajejgphlgaaNdB
import Derived.Test.YtdcbajejgphlgaaIKey
namespace Go.Proofs.Ytdcbajejgphlgaa
open Go.RowKit

set_option maxHeartbeats 2000000 in
theorem allWithin1V (x lo hi : Int) (gl gh : Nat) (w : World) (hl : w.cell? ⟨gl, 0, none⟩ = some (.int .i64 lo)) (hh : w.cell? ⟨gh, 0, none⟩ = some (.int .i64 hi)) :
    Calls Try.prog 66 #[.int .i64 x, .pointer (some ⟨gl, 0, none⟩), .pointer (some ⟨gh, 0, none⟩)] w fun e w' => e = .returned (.bool (!inB x lo hi)) ∧ w' = w := by
  go_enter Try.func66, Try.ntmps66
  go_wp2_with (go_at_call 44; refine (withinV _ _ _ _).mono ?_; rintro e w2 ⟨rfl, rfl⟩)
  go_ret
  exact ⟨rfl, rfl⟩

theorem all_next {α : Type} (p : α → Bool) (xs : List α) (k : Nat) (x : α) (hx : xs[k]? = some x) (h : ∀ j y, j < k → xs[j]? = some y → p y = true) (hp : p x = true) : ∀ j y, j < k + 1 → xs[j]? = some y → p y = true := fun j y hj hy => by
  by_cases e : j = k
  · subst e
    rw [hx] at hy
    cases hy
    exact hp
  · exact h j y (by omega) hy
theorem all_of {α : Type} (p : α → Bool) (xs : List α) (h : ∀ j y, j < xs.length → xs[j]? = some y → p y = true) : xs.all p = true := by
  rw [List.all_eq_true]
  intro y hy
  obtain ⟨j, hj, e⟩ := List.mem_iff_getElem.1 hy
  exact h j y hj (by rw [List.getElem?_eq_getElem hj, e])
theorem not_all_of {α : Type} (p : α → Bool) (xs : List α) (k : Nat) (x : α) (hx : xs[k]? = some x) (hp : p x = false) : xs.all p = false := by
  rw [List.all_eq_false]
  exact ⟨x, List.mem_of_getElem? hx, by rw [hp]; simp⟩

set_option maxHeartbeats 2000000 in
theorem indexFuncV (v : Value) (xs : List Int) (lo hi : Int) (gl gh : Nat) (w : World) (h : VL fI w v xs) (hl : w.cell? ⟨gl, 0, none⟩ = some (.int .i64 lo)) (hh : w.cell? ⟨gh, 0, none⟩ = some (.int .i64 hi)) :
    Calls Try.prog 75 #[v, .func (.func 66) #[] #[.pointer (some ⟨gl, 0, none⟩), .pointer (some ⟨gh, 0, none⟩)]] w fun e w' => (∃ r : Int, e = .returned (.int .i64 r) ∧ decide (0 ≤ r) = !(xs.all fun x => inB x lo hi)) ∧ w' = w := by
  obtain ⟨a, cap, rfl, h1, h2, h3⟩ := h
  obtain ⟨n, hnn⟩ : ∃ n, n = xs.length := ⟨_, rfl⟩
  rw [← hnn] at h1 h3 ⊢
  have HN : Hid (n = xs.length) := hnn
  clear hnn
  unfold maxLen at h2
  have H3 : Hid (0 < n → ∃ b o, a = some ⟨b, o, none⟩ ∧ b < w.heap.size ∧ ∀ (i : Nat) (x : Int), xs[i]? = some x → w.cell? ⟨b, o + i, none⟩ = some (fI x)) := h3
  clear h3
  obtain ⟨ob, hob⟩ : ∃ ob, ob = (xs.all fun x => inB x lo hi) := ⟨_, rfl⟩
  have HO : Hid (ob = (xs.all fun x => inB x lo hi)) := hob
  rw [← hob]
  clear hob
  go_enter Try.func75, Try.ntmps75
  go_wp2
  go_loopw [8] (fun i wr => ∃ k : Nat, k ≤ n ∧ i = .int .i64 k ∧ wr = w ∧ Hid (∀ j y, j < k → xs[j]? = some y → inB y lo hi = true)) (fun i _ => n - (intOf i).toNat)
  case atStart => exact ⟨0, Nat.zero_le _, rfl, rfl, fun j y hj => absurd hj (by omega)⟩
  case round =>
    obtain ⟨k, hk, rfl, rfl, hall⟩ := hrel
    by_cases hlt : k < n
    · obtain ⟨b, o, rfl, hbl, hc⟩ := H3.out (by omega)
      obtain ⟨x, hx⟩ : ∃ x, xs[k]? = some x := ⟨_, List.getElem?_eq_getElem (by have := HN.out; omega)⟩
      have hck : wr.cell? ⟨b, o + k, none⟩ = some (.int .i64 x) := hc k x hx
      have hlt' : (k : Int) < (n : Int) := by omega
      have HS : Hid (xs[k]? = some x) := hx
      clear hc hx
      cases K1 : inB x lo hi
      case false =>
        have HF : Hid (ob = false) := HO.out.trans (not_all_of (fun x => inB x lo hi) xs k x HS.out K1)
        go_wp2_with (go_at_call 66; refine (allWithin1V x lo hi gl gh _ hl hh).mono ?_; rintro e w2 ⟨rfl, rfl⟩; rw [K1])
        go_ret
        exact ⟨⟨k, rfl, by rw [HF.out]; simp⟩, rfl⟩
      case true =>
        have HA : Hid (∀ j y, j < k + 1 → xs[j]? = some y → inB y lo hi = true) := all_next (fun x => inB x lo hi) xs k x HS.out hall.out K1
        clear hall
        go_wp2_with (go_at_call 66; refine (allWithin1V x lo hi gl gh _ hl hh).mono ?_; rintro e w2 ⟨rfl, rfl⟩; rw [K1])
        go_roundw
        case rel => exact ⟨k + 1, by omega, by go_num, trivial, HA⟩
        case measure => simp [intOf]; omega
    · have hkn : k = n := by omega
      subst hkn
      have HF : Hid (ob = true) := HO.out.trans (all_of _ xs (fun j y hj hy => hall.out j y (by have := HN.out; omega) hy))
      go_wp2
      go_ret
      exact ⟨⟨-1, rfl, by rw [HF.out]; rfl⟩, rfl⟩

set_option maxHeartbeats 2000000 in
theorem containsFuncV (v : Value) (xs : List Int) (lo hi : Int) (gl gh : Nat) (w : World) (h : VL fI w v xs) (hl : w.cell? ⟨gl, 0, none⟩ = some (.int .i64 lo)) (hh : w.cell? ⟨gh, 0, none⟩ = some (.int .i64 hi)) :
    Calls Try.prog 65 #[v, .func (.func 66) #[] #[.pointer (some ⟨gl, 0, none⟩), .pointer (some ⟨gh, 0, none⟩)]] w fun e w' => e = .returned (.bool (!(xs.all fun x => inB x lo hi))) ∧ w' = w := by
  go_enter Try.func65, Try.ntmps65
  go_wp2_with fail
  refine (indexFuncV v xs lo hi gl gh w h hl hh).mono ?_
  rintro e w2 ⟨⟨r, rfl, hr⟩, rfl⟩
  have HR : Hid (decide (0 ≤ r) = !(xs.all fun x => inB x lo hi)) := hr
  clear hr
  go_wp2
  go_ret
  exact ⟨by rw [← HR.out]; rfl, rfl⟩

set_option maxHeartbeats 2000000 in
theorem allWithinV (v : Value) (xs : List Int) (lo hi : Int) (w : World) (h : VL fI w v xs) :
    Calls Try.prog 57 #[v, .int .i64 lo, .int .i64 hi] w fun e w' => e = .returned (.bool (xs.all fun x => inB x lo hi)) ∧ Below w.heap.size w w' := by
  have hmf : ∀ (fn : Fn) (first cap : Array Value) (w : World), (Instr.makeFunc fn first cap).run Try.prog w = .ok (.func fn first cap) w := fun _ _ _ _ => rfl
  have hE : ∀ w : World, ∀ o, Ext w (w.alloc o) := fun w o => World.grownBy_alloc _ _ _
  obtain ⟨a, cap, rfl⟩ := vl_shape h
  go_enter Try.func57, Try.ntmps57
  go_wp2_with fail
  refine (containsFuncV _ xs lo hi w.heap.size (w.heap.size + 1) _ (h.ext ((hE _ _).tr (hE _ _))) (at_block (k2_0 w _ _) 0 _ rfl).1 (at_block (k2_1 w _ _) 0 _ rfl).1).mono ?_
  rintro e w2 ⟨rfl, rfl⟩
  go_wp2
  go_ret
  exact ⟨by simp, ((Below.refl _ w).alloc (Nat.le_refl _) _).alloc (by simp) _⟩

set_option maxHeartbeats 2000000 in
theorem indexBoolV (v : Value) (xs : List Bool) (w : World) (h : VL fB w v xs) :
    Calls Try.prog 64 #[v, .bool true] w fun e w' => (∃ r : Int, e = .returned (.int .i64 r) ∧ decide (0 ≤ r) = !(xs.all fun x => !x)) ∧ ∃ q, w' = w.drewN q := by
  obtain ⟨a, cap, rfl, h1, h2, h3⟩ := h
  obtain ⟨n, hnn⟩ : ∃ n, n = xs.length := ⟨_, rfl⟩
  rw [← hnn] at h1 h3 ⊢
  have HN : Hid (n = xs.length) := hnn
  clear hnn
  unfold maxLen at h2
  have H3 : Hid (0 < n → ∃ b o, a = some ⟨b, o, none⟩ ∧ b < w.heap.size ∧ ∀ (i : Nat) (x : Bool), xs[i]? = some x → w.cell? ⟨b, o + i, none⟩ = some (fB x)) := h3
  clear h3
  obtain ⟨ob, hob⟩ : ∃ ob, ob = (xs.all fun x => !x) := ⟨_, rfl⟩
  have HO : Hid (ob = (xs.all fun x => !x)) := hob
  rw [← hob]
  clear hob
  go_enter Try.func64, Try.ntmps64
  go_wp2
  go_loopw [8] (fun i wr => ∃ k q : Nat, k ≤ n ∧ i = .int .i64 k ∧ wr = w.drewN q ∧ Hid (∀ j y, j < k → xs[j]? = some y → (!y) = true)) (fun i _ => n - (intOf i).toNat)
  case atStart => exact ⟨0, 0, Nat.zero_le _, rfl, rfl, fun j y hj => absurd hj (by omega)⟩
  case round =>
    obtain ⟨k, q, hk, rfl, rfl, hall⟩ := hrel
    by_cases hlt : k < n
    · obtain ⟨b, o, rfl, hbl, hc⟩ := H3.out (by omega)
      obtain ⟨x, hx⟩ : ∃ x, xs[k]? = some x := ⟨_, List.getElem?_eq_getElem (by have := HN.out; omega)⟩
      have hck : w.cell? ⟨b, o + k, none⟩ = some (.bool x) := hc k x hx
      have hlt' : (k : Int) < (n : Int) := by omega
      have HS : Hid (xs[k]? = some x) := hx
      clear hc hx
      cases x
      case true =>
        have HF : Hid (ob = false) := HO.out.trans (not_all_of (fun x => !x) xs k true HS.out rfl)
        go_wp2
        try go_quiet (fail)
        try go_wp2
        go_ret
        exact ⟨⟨k, rfl, by rw [HF.out]; simp⟩, _, by first | rfl | exact World.drewN_drewN _ _ _⟩
      case false =>
        have HA : Hid (∀ j y, j < k + 1 → xs[j]? = some y → (!y) = true) := all_next (fun x => !x) xs k false HS.out hall.out rfl
        clear hall
        go_wp2
        try go_quiet (fail)
        try go_wp2
        go_roundw
        case rel => exact ⟨k + 1, _, by omega, by go_num, by first | rfl | exact World.drewN_drewN _ _ _, HA⟩
        case measure => simp [intOf]; omega
    · have hkn : k = n := by omega
      subst hkn
      have HF : Hid (ob = true) := HO.out.trans (all_of _ xs (fun j y hj hy => hall.out j y (by have := HN.out; omega) hy))
      go_wp2
      go_ret
      exact ⟨⟨-1, rfl, by rw [HF.out]; rfl⟩, _, rfl⟩

set_option maxHeartbeats 2000000 in
theorem containsBoolV (v : Value) (xs : List Bool) (w : World) (h : VL fB w v xs) :
    Calls Try.prog 56 #[v, .bool true] w fun e w' => e = .returned (.bool (!(xs.all fun x => !x))) ∧ ∃ q, w' = w.drewN q := by
  go_enter Try.func56, Try.ntmps56
  go_wp2_with fail
  refine (indexBoolV v xs w h).mono ?_
  rintro e w2 ⟨⟨r, rfl, hr⟩, q, rfl⟩
  have HR : Hid (decide (0 ≤ r) = !(xs.all fun x => !x)) := hr
  clear hr
  go_wp2
  go_ret
  exact ⟨by rw [← HR.out]; rfl, q, rfl⟩

end Go.Proofs.Ytdcbajejgphlgaa
