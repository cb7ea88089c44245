/- Marks in lists of numbers and of bools: laid; in lists of numbers held, too. -/
import Derived.Test.YtplgnohncdfgcamNdB0
namespace Go.Proofs.Ytplgnohncdfgcam
open Go.RowKit

/-- n marks from k on. -/
def mkL {α : Type} (m : Int → α) (k : Int) (n : Nat) : List α := (List.range n).map fun i : Nat => m (k + (i : Int))
theorem mkL_len {α : Type} (m : Int → α) (k : Int) (n : Nat) : (mkL m k n).length = n := by simp [mkL]
theorem mkL_get {α : Type} (m : Int → α) (k : Int) (n i : Nat) (h : i < n) : (mkL m k n)[i]? = some (m (k + i)) := by simp [mkL, h]
theorem mkL_set {α : Type} (m : Int → α) (f : α → Value) (k : Int) (xs : List α) (i : Nat) (h : i < xs.length) : ((mkL m k i ++ xs.drop i).map f).toArray.setIfInBounds i (f (m (k + i))) = ((mkL m k (i + 1) ++ xs.drop (i + 1)).map f).toArray := by
  rw [List.setIfInBounds_toArray, ← List.map_set]
  congr 2
  rw [List.set_append_right _ _ (by rw [mkL_len]; omega), mkL_len, Nat.sub_self, List.drop_eq_getElem_cons h, List.set_cons_zero]
  simp [mkL, List.range_succ]

set_option maxHeartbeats 2000000 in
theorem markL_I (g : Nat) (xs : List Int) (k : Int) (w : World) (h : OVL fI 3 w g xs) (hk0 : 0 ≤ k) (hk1 : k ≤ 1152921504606846976) (hn : xs.length ≤ 1048576) :
    Calls Try.prog 40 #[.slice (some ⟨g, 0, none⟩) xs.length xs.length, .int .i64 k] w fun e w' => e = .returned (.int .i64 (k + xs.length)) ∧ OVL fI 3 w' g (mkL (fun x : Int => x) k xs.length) ∧ w.grownBy w' (some g) := by
  obtain ⟨n, hnn⟩ : ∃ n, n = xs.length := ⟨_, rfl⟩
  rw [← hnn] at hn ⊢
  have HN : Hid (n = xs.length) := hnn
  clear hnn
  go_enter Try.func40, Try.ntmps40
  go_wp2
  go_loopw [1, 5] (fun kv i wr => ∃ i' : Nat, i' ≤ n ∧ i = .int .i64 i' ∧ kv = .int .i64 (k + i') ∧ wr.heap[g]? = some (.cells ((mkL (fun x : Int => x) k i' ++ xs.drop i').map fI).toArray 3 (0, 0)) ∧ w.grownBy wr (some g)) (fun _ i _ => n - (intOf i).toNat)
  case atStart => exact ⟨0, Nat.zero_le _, rfl, by simp, h, ⟨rfl, rfl, rfl, Nat.le_refl _, fun _ _ _ => rfl⟩⟩
  case round =>
    obtain ⟨i, hi, rfl, rfl, hb, hg⟩ := hrel
    by_cases hlt : i < n
    · have hl : ((mkL (fun x : Int => x) k i ++ xs.drop i).map fI).length = n := by simp [mkL_len]; have := HN.out; omega
      obtain ⟨c, hc⟩ : ∃ c, ((mkL (fun x : Int => x) k i ++ xs.drop i).map fI).toArray[i]? = some c := ⟨_, Array.getElem?_eq_getElem (by simp only [List.size_toArray]; omega)⟩
      obtain ⟨ck, cf⟩ := at_block hb i c hc
      have R := set_block hb i (.int .i64 (k + (i : Int)))
      have E := mkL_set (fun x : Int => x) fI k xs i (by have := HN.out; omega)
      have R2 : (wr.setCell ⟨g, i, none⟩ (.int .i64 (k + (i : Int)))).heap[g]? = some (.cells ((mkL (fun x : Int => x) k (i + 1) ++ xs.drop (i + 1)).map fI).toArray 3 (0, 0)) := by rw [← E]; exact R
      have HR : Hid _ := R2
      have HG : Hid (w.grownBy (wr.setCell ⟨g, i, none⟩ (.int .i64 (k + (i : Int)))) (some g)) := hg.trans (set_grown wr g i _)
      have hlt' : (i : Int) < (n : Int) := by omega
      clear R E R2 hb hg hc hl
      go_wp2
      go_roundw
      case rel => exact ⟨i + 1, by omega, by go_num, by go_num, HR.out, HG.out⟩
      case measure => simp [intOf]; omega
    · have hin : i = n := by omega
      subst hin
      go_wp2
      go_ret
      refine ⟨rfl, ?_, hg⟩
      rw [List.drop_of_length_le (by have := HN.out; omega), List.append_nil] at hb
      exact hb

set_option maxHeartbeats 2000000 in
theorem heldL_I (g n : Nat) (k : Int) (w : World) (h : OVL fI 3 w g (mkL (fun x : Int => x) k n)) (hk0 : 0 ≤ k) (hk1 : k ≤ 1152921504606846976) (hn : n ≤ 1048576) :
    Calls Try.prog 43 #[.slice (some ⟨g, 0, none⟩) n n, .int .i64 k] w fun e w' => e = .returned (.int .i64 (k + n)) ∧ ∃ q, w' = w.drewN q := by
  go_enter Try.func43, Try.ntmps43
  go_wp2
  go_loopw [1, 5] (fun kv i wr => ∃ i' q : Nat, i' ≤ n ∧ i = .int .i64 i' ∧ kv = .int .i64 (k + i') ∧ wr = w.drewN q) (fun _ i _ => n - (intOf i).toNat)
  case atStart => exact ⟨0, 0, Nat.zero_le _, rfl, by simp, rfl⟩
  case round =>
    obtain ⟨i, q, hi, rfl, rfl, rfl⟩ := hrel
    by_cases hlt : i < n
    · have ck : w.cell? ⟨g, i, none⟩ = some (.int .i64 (k + (i : Int))) := by
        rw [cell_of_row w g _ _ 3 (0, 0) h]
        simp [mkL_get _ _ _ _ hlt, fI]
      have hlt' : (i : Int) < (n : Int) := by omega
      go_wp2
      try go_quiet (fail)
      try go_wp2
      go_roundw
      case rel => exact ⟨i + 1, _, by omega, by go_num, by go_num, by first | rfl | exact World.drewN_drewN _ _ _⟩
      case measure => simp [intOf]; omega
    · have hin : i = n := by omega
      subst hin
      go_wp2
      go_ret
      exact ⟨rfl, _, rfl⟩

set_option maxHeartbeats 1000000 in
theorem markNil_I (k : Int) (w : World) : Calls Try.prog 40 #[.slice none 0 0, .int .i64 k] w fun e w' => e = .returned (.int .i64 k) ∧ w' = w := by
  go_enter Try.func40, Try.ntmps40
  go_wp2
  go_loopw [1, 5] (fun kv i wr => i = .int .i64 0 ∧ kv = .int .i64 k ∧ wr = w) (fun _ _ _ => 0)
  case atStart => exact ⟨rfl, rfl, rfl⟩
  case round =>
    obtain ⟨rfl, rfl, rfl⟩ := hrel
    go_wp2
    go_ret
    exact ⟨rfl, rfl⟩
set_option maxHeartbeats 1000000 in
theorem heldNil_I (k : Int) (w : World) : Calls Try.prog 43 #[.slice none 0 0, .int .i64 k] w fun e w' => e = .returned (.int .i64 k) ∧ w' = w := by
  go_enter Try.func43, Try.ntmps43
  go_wp2
  go_loopw [1, 5] (fun kv i wr => i = .int .i64 0 ∧ kv = .int .i64 k ∧ wr = w) (fun _ _ _ => 0)
  case atStart => exact ⟨rfl, rfl, rfl⟩
  case round =>
    obtain ⟨rfl, rfl, rfl⟩ := hrel
    go_wp2
    go_ret
    exact ⟨rfl, rfl⟩

set_option maxHeartbeats 2000000 in
theorem markL_B (g : Nat) (xs : List Bool) (k : Int) (w : World) (h : OVL fB 4 w g xs) (hk0 : 0 ≤ k) (hk1 : k ≤ 1152921504606846976) (hn : xs.length ≤ 1048576) :
    Calls Try.prog 39 #[.slice (some ⟨g, 0, none⟩) xs.length xs.length, .int .i64 k] w fun e w' => e = .returned (.int .i64 (k + xs.length)) ∧ OVL fB 4 w' g (mkL (fun x : Int => x % 3 == 0) k xs.length) ∧ w.grownBy w' (some g) := by
  obtain ⟨n, hnn⟩ : ∃ n, n = xs.length := ⟨_, rfl⟩
  rw [← hnn] at hn ⊢
  have HN : Hid (n = xs.length) := hnn
  clear hnn
  go_enter Try.func39, Try.ntmps39
  go_wp2
  go_loopw [1, 5] (fun kv i wr => ∃ i' : Nat, i' ≤ n ∧ i = .int .i64 i' ∧ kv = .int .i64 (k + i') ∧ wr.heap[g]? = some (.cells ((mkL (fun x : Int => x % 3 == 0) k i' ++ xs.drop i').map fB).toArray 4 (0, 0)) ∧ w.grownBy wr (some g)) (fun _ i _ => n - (intOf i).toNat)
  case atStart => exact ⟨0, Nat.zero_le _, rfl, by simp, h, ⟨rfl, rfl, rfl, Nat.le_refl _, fun _ _ _ => rfl⟩⟩
  case round =>
    obtain ⟨i, hi, rfl, rfl, hb, hg⟩ := hrel
    by_cases hlt : i < n
    · have hl : ((mkL (fun x : Int => x % 3 == 0) k i ++ xs.drop i).map fB).length = n := by simp [mkL_len]; have := HN.out; omega
      obtain ⟨c, hc⟩ : ∃ c, ((mkL (fun x : Int => x % 3 == 0) k i ++ xs.drop i).map fB).toArray[i]? = some c := ⟨_, Array.getElem?_eq_getElem (by simp only [List.size_toArray]; omega)⟩
      obtain ⟨ck, cf⟩ := at_block hb i c hc
      have R := set_block hb i (.bool ((k + (i : Int)) % 3 == 0))
      have E := mkL_set (fun x : Int => x % 3 == 0) fB k xs i (by have := HN.out; omega)
      have R2 : (wr.setCell ⟨g, i, none⟩ (.bool ((k + (i : Int)) % 3 == 0))).heap[g]? = some (.cells ((mkL (fun x : Int => x % 3 == 0) k (i + 1) ++ xs.drop (i + 1)).map fB).toArray 4 (0, 0)) := by rw [← E]; exact R
      have HR : Hid _ := R2
      have HG : Hid (w.grownBy (wr.setCell ⟨g, i, none⟩ (.bool ((k + (i : Int)) % 3 == 0))) (some g)) := hg.trans (set_grown wr g i _)
      have hlt' : (i : Int) < (n : Int) := by omega
      clear R E R2 hb hg hc hl
      go_wp2
      go_roundw
      case rel => exact ⟨i + 1, by omega, by go_num, by go_num, HR.out, HG.out⟩
      case measure => simp [intOf]; omega
    · have hin : i = n := by omega
      subst hin
      go_wp2
      go_ret
      refine ⟨rfl, ?_, hg⟩
      rw [List.drop_of_length_le (by have := HN.out; omega), List.append_nil] at hb
      exact hb

set_option maxHeartbeats 1000000 in
theorem markNil_B (k : Int) (w : World) : Calls Try.prog 39 #[.slice none 0 0, .int .i64 k] w fun e w' => e = .returned (.int .i64 k) ∧ w' = w := by
  go_enter Try.func39, Try.ntmps39
  go_wp2
  go_loopw [1, 5] (fun kv i wr => i = .int .i64 0 ∧ kv = .int .i64 k ∧ wr = w) (fun _ _ _ => 0)
  case atStart => exact ⟨rfl, rfl, rfl⟩
  case round =>
    obtain ⟨rfl, rfl, rfl⟩ := hrel
    go_wp2
    go_ret
    exact ⟨rfl, rfl⟩
end Go.Proofs.Ytplgnohncdfgcam
