
/- The contract of the specification's OpOk, and of what it asks of keys, values and numbers. -/
import Derived.Test.YtjkhadaoldbceaaInf
import Derived.Test.YtjkhadaoldbceaaOp0
namespace Go.Proofs.Ytjkhadaoldbceaa
open Go.RowKit

/-- A byte that a key may have. -/
def keyC (c : Int) : Bool := decide ((97 ≤ c ∧ c ≤ 122) ∨ c = 47)
/-- It is a key. -/
def keyB (xs : List Int) : Bool := decide (1 ≤ xs.length) && decide (xs.length ≤ 20) && xs.all keyC

/-- It may be an operation. -/
def opB (d : DOp) : Bool :=
  decide (0 ≤ d.kind) && decide (d.kind ≤ 7) && decide (d.val.length ≤ 20) && decide (0 ≤ d.n) && decide (d.n ≤ 1000000) &&
  (if d.kind = 1 ∨ d.kind = 2 ∨ d.kind = 3 ∨ d.kind = 6 ∨ d.kind = 7 then keyB d.key else decide (d.key.length = 0)) &&
  (decide (d.kind = 1 ∨ d.kind = 2 ∨ d.kind = 6) || decide (d.val.length = 0)) &&
  (if d.kind = 0 ∨ d.kind = 1 ∨ d.kind = 3 then decide (d.n = 0) else if d.kind = 4 then decide (d.n ≤ 1) else if d.kind = 2 then true else decide (1 ≤ d.n))

theorem all_get {xs : List Int} (h : ∀ j, j < xs.length → keyC (xs.getD j 0) = true) : xs.all keyC = true := by
  rw [List.all_eq_true]
  intro x hx
  obtain ⟨j, hj, rfl⟩ := List.getElem_of_mem hx
  have := h j hj
  simpa [List.getD, hj] using this
theorem not_all {xs : List Int} {j : Nat} (hj : j < xs.length) (h : keyC (xs.getD j 0) = false) : xs.all keyC = false := by
  rw [List.all_eq_false]
  refine ⟨xs[j], List.getElem_mem hj, ?_⟩
  have : keyC xs[j] = false := by simpa [List.getD, hj] using h
  simp [this]

set_option maxHeartbeats 1000000 in
theorem l2keyB (a : Option Addr) (n cap : Nat) (xs : List Int) (w : World) (hr : Rd w a n xs) (hn : n ≤ 9223372036854775807) :
    Calls Try.prog 44 #[.slice a n cap] w fun e w' => e = .returned (.bool (keyB xs)) ∧ w' = w := by
  have hl := hr.len
  by_cases h1 : n < 1
  · have HK : Hid (keyB xs = false) := by unfold Hid keyB; simp; omega
    have h1' : (n : Int) < 1 := by omega
    go_enter Try.func44, Try.ntmps44
    go_wp2
    go_ret
    exact ⟨by rw [HK.out]; rfl, rfl⟩
  by_cases h20 : 20 < n
  · have HK : Hid (keyB xs = false) := by unfold Hid keyB; simp; omega
    have h1' : ¬ (n : Int) < 1 := by omega
    have h20' : (20 : Int) < (n : Int) := by omega
    go_enter Try.func44, Try.ntmps44
    go_wp2
    go_ret
    exact ⟨by rw [HK.out]; rfl, rfl⟩
  have h1' : ¬ (n : Int) < 1 := by omega
  have h20' : ¬ (20 : Int) < (n : Int) := by omega
  obtain ⟨b, o, rfl, _, hc⟩ := hr.pos (by omega)
  have HC : Hid (∀ i, i < n → w.cell? ⟨b, o + i, none⟩ = some (.int .u8 (xs.getD i 0))) := hc
  clear hc
  go_enter Try.func44, Try.ntmps44
  go_wp2
  go_loop [3] (fun i => ∃ k : Nat, k ≤ n ∧ i = .int .i64 k ∧ Hid (∀ j, j < k → keyC (xs.getD j 0) = true)) (fun i => n - (intOf i).toNat)
  case atStart => exact ⟨0, Nat.zero_le _, rfl, fun j hj => absurd hj (by omega)⟩
  case round =>
    obtain ⟨k, hk, rfl, hall⟩ := hrel
    by_cases hlt : k < n
    · have hck := HC.out k hlt
      have HN : Hid (keyC (xs.getD k 0) = true → ∀ j, j < k + 1 → keyC (xs.getD j 0) = true) := fun h j hj => by
        by_cases e : j = k
        · subst e; exact h
        · exact hall.out j (by omega)
      have HF : Hid (keyC (xs.getD k 0) = false → keyB xs = false) := fun h => by
        unfold keyB; rw [not_all (by omega) h]; simp
      generalize xs.getD k 0 = c at hck HN HF
      clear HC hall
      have hlt' : (k : Int) < (n : Int) := by omega
      by_cases hz : c = 47
      · subst hz
        have HN' := HN.out (by decide)
        have HN2 : Hid (∀ j, j < k + 1 → keyC (xs.getD j 0) = true) := HN'
        clear HN HF HN'
        go_wp2
        go_round
        case rel => exact ⟨k + 1, by omega, by go_num, HN2⟩
        case measure => simp [intOf]; omega
      · have hz' : (c != 47) = true := by simpa using hz
        by_cases h97 : c < 97
        · have HF2 : Hid (keyB xs = false) := HF.out (by unfold keyC; simp; omega)
          clear HN HF
          go_wp2
          go_ret
          exact ⟨by rw [HF2.out]; rfl, rfl⟩
        · by_cases h122 : 122 < c
          · have HF2 : Hid (keyB xs = false) := HF.out (by unfold keyC; simp; omega)
            clear HN HF
            go_wp2
            go_ret
            exact ⟨by rw [HF2.out]; rfl, rfl⟩
          · have HN2 : Hid (∀ j, j < k + 1 → keyC (xs.getD j 0) = true) := HN.out (by unfold keyC; simp; omega)
            clear HN HF
            go_wp2
            go_round
            case rel => exact ⟨k + 1, by omega, by go_num, HN2⟩
            case measure => simp [intOf]; omega
    · have hkn : k = n := by omega
      subst hkn
      have HK : Hid (keyB xs = true) := by
        unfold Hid keyB
        rw [all_get (fun j hj => hall.out j (by omega))]
        simp
        omega
      go_wp2
      go_ret
      exact ⟨by rw [HK.out]; rfl, rfl⟩

theorem l2keyV (v : Value) (xs : List Int) (w : World) (h : RV w v xs) : Calls Try.prog 44 #[v] w fun e w' => e = .returned (.bool (keyB xs)) ∧ w' = w := by
  obtain ⟨a, cap, rfl, hr, h1, h2⟩ := h
  exact l2keyB a xs.length cap xs w hr (by unfold maxLen at h2; omega)

end Go.Proofs.Ytjkhadaoldbceaa
