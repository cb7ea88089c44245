/- Lists of numbers that a call owns: read, marked, held. -/
import Derived.Test.YtfdklcmhafhbeaaLiV
import Derived.Test.YtfdklcmhafhbeaaLiO
import Derived.Test.YtfdklcmhafhbeaaLiK
import Derived.Laws.OwnMore
import Derived.OwnWalk
namespace Go.Proofs.Ytfdklcmhafhbeaa
open Go.RowKit

set_option maxHeartbeats 1000000 in
theorem mNilI (k : Int) (w : World) : Calls Try.prog 20 #[.slice none 0 0, .int .i64 k] w fun e w' => e = .returned (.int .i64 k) ∧ w' = w := by
  go_enter Try.func20, Try.ntmps20
  go_wp2
  go_loopw [1, 5] (fun kv i wr => i = .int .i64 0 ∧ kv = .int .i64 k ∧ wr = w) (fun _ _ _ => 0)
  case atStart => exact ⟨rfl, rfl, rfl⟩
  case round =>
    obtain ⟨rfl, rfl, rfl⟩ := hrel
    go_wp2
    go_ret
    exact ⟨rfl, rfl⟩
set_option maxHeartbeats 1000000 in
theorem hNilI (k : Int) (w : World) : Calls Try.prog 21 #[.slice none 0 0, .int .i64 k] w fun e w' => e = .returned (.int .i64 k) ∧ w' = w := by
  go_enter Try.func21, Try.ntmps21
  go_wp2
  go_loopw [1, 5] (fun kv i wr => i = .int .i64 0 ∧ kv = .int .i64 k ∧ wr = w) (fun _ _ _ => 0)
  case atStart => exact ⟨rfl, rfl, rfl⟩
  case round =>
    obtain ⟨rfl, rfl, rfl⟩ := hrel
    go_wp2
    go_ret
    exact ⟨rfl, rfl⟩

set_option maxHeartbeats 2000000 in
theorem markOI (base : Nat) (v : Value) (xs : List Int) (k : Int) (w : World) (h : OwI w base v xs) (hn : xs.length ≤ 1048576) (hk0 : 0 ≤ k) (hk1 : k ≤ 1000000000) :
    Calls Try.prog 20 #[v, .int .i64 k] w fun e w' => e = .returned (.int .i64 (k + xs.length)) ∧ OwI w' base v (mkL (fun x : Int => x) k xs.length) ∧ w.grownBy w' v.ownBlock := by
  rcases h.2 with ⟨rfl, h0⟩ | ⟨g, cap, cur, rfl, _, _, hnc, hcm, _⟩
  · have : xs = [] := List.eq_nil_of_length_eq_zero h0
    subst this
    refine (mNilI k w).mono fun e w' ⟨h1, h2⟩ => ?_
    subst h2
    exact ⟨by simpa using h1, h, ⟨rfl, rfl, rfl, Nat.le_refl _, fun _ _ _ => rfl⟩⟩
  · unfold OwI at h ⊢
    rw [mkL_len]
    obtain ⟨n, hnn⟩ : ∃ n, n = xs.length := ⟨_, rfl⟩
    rw [← hnn] at hn h hnc ⊢
    have HN : Hid (n = xs.length) := hnn
    clear hnn
    unfold maxLen at hcm
    go_enter Try.func20, Try.ntmps20
    go_wp2
    go_loopw [1, 5] (fun kv i wr => ∃ i' : Nat, i' ≤ n ∧ i = .int .i64 i' ∧ kv = .int .i64 (k + i') ∧ wr.ownsRow base 3 1 (.slice (some ⟨g, 0, none⟩) n cap) n ((mkL (fun x : Int => x) k i' ++ xs.drop i').map fI) ∧ w.grownBy wr (some g)) (fun _ i _ => n - (intOf i).toNat)
    case atStart => exact ⟨0, Nat.zero_le _, rfl, by simp, h, ⟨rfl, rfl, rfl, Nat.le_refl _, fun _ _ _ => rfl⟩⟩
    case round =>
      obtain ⟨i, hi, rfl, rfl, hown, hg⟩ := hrel
      by_cases hlt : i < n
      · have hf : wr.frozen? ⟨g, i, none⟩ = false := hown.frozenAt i
        obtain ⟨u, hu⟩ : ∃ u, wr.cell? ⟨g, i, none⟩ = some u := by
          rw [hown.cellAt i (by omega)]
          exact ⟨_, List.getElem?_eq_getElem (by simp [mkL_len]; have := HN.out; omega)⟩
        have R := hown.stored i (fI (k + (i : Int)))
        have E : ((mkL (fun x : Int => x) k i ++ xs.drop i).map fI).set i (fI (k + (i : Int))) = (mkL (fun x : Int => x) k (i + 1) ++ xs.drop (i + 1)).map fI := by
          have := mkL_set (fun x : Int => x) fI k xs i (by have := HN.out; omega)
          rw [List.setIfInBounds_toArray] at this
          simpa using this
        rw [E] at R
        have HR : Hid ((wr.setCell ⟨g, i, none⟩ (.int .i64 (k + (i : Int)))).ownsRow base 3 1 (.slice (some ⟨g, 0, none⟩) n cap) n ((mkL (fun x : Int => x) k (i + 1) ++ xs.drop (i + 1)).map fI)) := R.1
        have HG : Hid (w.grownBy (wr.setCell ⟨g, i, none⟩ (.int .i64 (k + (i : Int)))) (some g)) := hg.trans (set_grown wr g i _)
        have hlt' : (i : Int) < (n : Int) := by omega
        clear R E hown hg
        go_wp2
        go_roundw
        case rel => exact ⟨i + 1, by omega, by go_num, by go_num, HR.out, HG.out⟩
        case measure => simp [intOf]; omega
      · have hin : i = n := by omega
        subst hin
        go_wp2
        go_ret
        refine ⟨rfl, ?_, hg⟩
        rw [List.drop_of_length_le (by have := HN.out; omega), List.append_nil] at hown
        exact hown

set_option maxHeartbeats 2000000 in
theorem heldOI (base : Nat) (v : Value) (n : Nat) (k : Int) (w : World) (h : OwI w base v (mkL (fun x : Int => x) k n)) (hk0 : 0 ≤ k) (hk1 : k ≤ 1000000000) (hn : n ≤ 1048576) :
    Calls Try.prog 21 #[v, .int .i64 k] w fun e w' => e = .returned (.int .i64 (k + n)) ∧ ∃ q, w' = w.drewN q := by
  rcases h.2 with ⟨rfl, h0⟩ | ⟨g, cap, cur, rfl, _, _, hnc, hcm, _⟩
  · rw [mkL_len] at h0
    subst h0
    refine (hNilI k w).mono fun e w' ⟨h1, h2⟩ => ⟨by simpa using h1, 0, h2⟩
  · unfold OwI at h
    rw [mkL_len] at h hnc ⊢
    unfold maxLen at hcm
    go_enter Try.func21, Try.ntmps21
    go_wp2
    go_loopw [1, 5] (fun kv i wr => ∃ i' q : Nat, i' ≤ n ∧ i = .int .i64 i' ∧ kv = .int .i64 (k + i') ∧ wr = w.drewN q) (fun _ i _ => n - (intOf i).toNat)
    case atStart => exact ⟨0, 0, Nat.zero_le _, rfl, by simp, rfl⟩
    case round =>
      obtain ⟨i, q, hi, rfl, rfl, rfl⟩ := hrel
      by_cases hlt : i < n
      · have ck : w.cell? ⟨g, i, none⟩ = some (.int .i64 (k + (i : Int))) := by
          rw [h.cellAt i (by omega)]
          simp [mkL_get _ _ _ _ hlt, fI]
        have hlt' : (i : Int) < (n : Int) := by omega
        go_wp2
        try go_quiet (fail)
        try go_wp2
        go_roundw
        case rel => exact ⟨i + 1, _, by omega, by go_num, by go_num, by first | rfl | exact World.drewN_drewN _ _ _⟩
        case measure => simp [intOf]; omega
      · have hin : i = n := by omega
        subst hin
        go_wp2
        go_ret
        exact ⟨rfl, _, rfl⟩

end Go.Proofs.Ytfdklcmhafhbeaa
