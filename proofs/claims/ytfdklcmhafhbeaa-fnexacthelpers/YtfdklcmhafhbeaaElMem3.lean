/- Marks in lists of Member that a call owns: laid, held. -/
import Derived.Test.YtfdklcmhafhbeaaElMem2
namespace Go.Proofs.Ytfdklcmhafhbeaa
open Go.RowKit

/-- n elements of marks from k on. -/
def mkMem (k : Int) (n : Nat) : List DMem := (List.range n).map fun i : Nat => ⟨k + 3 * (i : Int), k + 3 * (i : Int) + 1, k + 3 * (i : Int) + 1 + 1⟩
theorem mkMem_len (k : Int) (n : Nat) : (mkMem k n).length = n := by simp [mkMem]
theorem mkMem_get (k : Int) (n i : Nat) (h : i < n) : (mkMem k n)[i]? = some ⟨k + 3 * (i : Int), k + 3 * (i : Int) + 1, k + 3 * (i : Int) + 1 + 1⟩ := by simp [mkMem, h]
theorem mkMem_set (k : Int) (ts : List DMem) (i : Nat) (h : i < ts.length) : (mkMem k i ++ ts.drop i).set i ⟨k + 3 * (i : Int), k + 3 * (i : Int) + 1, k + 3 * (i : Int) + 1 + 1⟩ = mkMem k (i + 1) ++ ts.drop (i + 1) := by
  rw [List.set_append_right _ _ (by rw [mkMem_len]; omega), mkMem_len, Nat.sub_self, List.drop_eq_getElem_cons h, List.set_cons_zero]
  simp [mkMem, List.range_succ]

set_option maxHeartbeats 1000000 in
theorem mNil_Mem (k : Int) (w : World) : Calls Try.prog 38 #[.slice none 0 0, .int .i64 k] w fun e w' => e = .returned (.int .i64 k) ∧ w' = w := by
  go_enter Try.func38, Try.ntmps38
  go_wp2
  refine wp_loop_rounds 1 ?_
  rw [rounds_succ]
  go_wp2
  go_ret
  exact ⟨rfl, rfl⟩
set_option maxHeartbeats 2000000 in
theorem markMem (base : Nat) (v : Value) (ts : List DMem) (k : Int) (w : World) (h : OwMem w base v ts) (hn : ts.length ≤ 1048576) (hk0 : 0 ≤ k) (hk1 : k ≤ 1000000000) :
    Calls Try.prog 38 #[v, .int .i64 k] w fun e w' => e = .returned (.int .i64 (k + 3 * ts.length)) ∧ OwMem w' base v (mkMem k ts.length) ∧ w.grownBy w' v.ownBlock := by
  rcases h.2 with ⟨rfl, h0⟩ | ⟨g, cap, cur, rfl, _, _, hnc, hcm, _⟩
  · have : ts = [] := List.eq_nil_of_length_eq_zero h0
    subst this
    refine (mNil_Mem k w).mono fun e w' ⟨h1, h2⟩ => ?_
    subst h2
    exact ⟨by simpa using h1, h, ⟨rfl, rfl, rfl, Nat.le_refl _, fun _ _ _ => rfl⟩⟩
  · obtain ⟨n, hnn⟩ : ∃ n, n = ts.length := ⟨_, rfl⟩
    rw [← hnn] at hn h hnc ⊢
    have HN : Hid (n = ts.length) := hnn
    clear hnn
    unfold maxLen at hcm
    go_enter Try.func38, Try.ntmps38
    go_wp2
    go_loopw [1, 5] (fun kv i wr => ∃ i' : Nat, i' ≤ n ∧ i = .int .i64 i' ∧ kv = .int .i64 (k + 3 * i') ∧ Hid (OwMem wr base (.slice (some ⟨g, 0, none⟩) n cap) (mkMem k i' ++ ts.drop i')) ∧ w.grownBy wr (some g)) (fun _ i _ => n - (intOf i).toNat)
    case atStart => exact ⟨0, Nat.zero_le _, rfl, by simp, h, ⟨rfl, rfl, rfl, Nat.le_refl _, fun _ _ _ => rfl⟩⟩
    case round =>
      obtain ⟨i, hi, rfl, rfl, HO, hg⟩ := hrel
      have HLL : Hid (n = (mkMem k i ++ ts.drop i).length) := by show _ = _; simp [mkMem_len]; have := HN.out; omega
      by_cases hlt : i < n
      · obtain ⟨t, ht⟩ : ∃ t, (mkMem k i ++ ts.drop i)[i]? = some t := ⟨_, List.getElem?_eq_getElem (by have := HLL.out; omega)⟩
        obtain ⟨c0, c1, c2, f0, f1, f2⟩ := HO.out.cells HLL.out ht
        have R := HO.out.set HLL.out i hlt ⟨k + 3 * (i : Int), k + 3 * (i : Int) + 1, k + 3 * (i : Int) + 1 + 1⟩
        rw [mkMem_set k ts i (by have := HN.out; omega)] at R
        have HR : Hid (OwMem (((wr.setCell ⟨g, i * 3, none⟩ (.int .i64 (k + 3 * (i : Int)))).setCell ⟨g, i * 3 + 1, none⟩ (.int .i64 (k + 3 * (i : Int) + 1))).setCell ⟨g, i * 3 + 2, none⟩ (.int .i64 (k + 3 * (i : Int) + 1 + 1))) base (.slice (some ⟨g, 0, none⟩) n cap) (mkMem k (i + 1) ++ ts.drop (i + 1))) := R
        have HG : Hid (w.grownBy (((wr.setCell ⟨g, i * 3, none⟩ (.int .i64 (k + 3 * (i : Int)))).setCell ⟨g, i * 3 + 1, none⟩ (.int .i64 (k + 3 * (i : Int) + 1))).setCell ⟨g, i * 3 + 2, none⟩ (.int .i64 (k + 3 * (i : Int) + 1 + 1))) (some g)) := (((hg.trans (set_grown _ g _ _)).trans (set_grown _ g _ _)).trans (set_grown _ g _ _))
        have hlt' : (i : Int) < (n : Int) := by omega
        clear R hg ht
        go_wp2
        go_roundw
        case rel => exact ⟨i + 1, by omega, by go_num, by go_num, HR, HG.out⟩
        case measure => simp [intOf]; omega
      · have hin : i = n := by omega
        subst hin
        have HF : Hid (OwMem wr base (.slice (some ⟨g, 0, none⟩) i cap) (mkMem k i)) := by
          have := HO.out
          rw [List.drop_of_length_le (by have := HN.out; omega), List.append_nil] at this
          exact this
        go_wp2
        go_ret
        exact ⟨rfl, HF.out, hg⟩


end Go.Proofs.Ytfdklcmhafhbeaa
