
/- Marks in timers that a call owns: laid, held. -/
import Derived.Test.YtnklnhnjmikooaaGreatHpB
namespace Go.Proofs.YtnklnhnjmikooaaGreat
open Go.RowKit

/-- n timers of marks from k on. -/
def mkT (k : Int) (n : Nat) : List DTim := (List.range n).map fun i : Nat => ⟨k + 2 * (i : Int), k + 2 * (i : Int) + 1⟩
theorem mkT_len (k : Int) (n : Nat) : (mkT k n).length = n := by simp [mkT]
theorem mkT_get (k : Int) (n i : Nat) (h : i < n) : (mkT k n)[i]? = some ⟨k + 2 * (i : Int), k + 2 * (i : Int) + 1⟩ := by simp [mkT, h]
theorem mkT_set (k : Int) (ts : List DTim) (i : Nat) (h : i < ts.length) : (mkT k i ++ ts.drop i).set i ⟨k + 2 * (i : Int), k + 2 * (i : Int) + 1⟩ = mkT k (i + 1) ++ ts.drop (i + 1) := by
  rw [List.set_append_right _ _ (by rw [mkT_len]; omega), mkT_len, Nat.sub_self, List.drop_eq_getElem_cons h, List.set_cons_zero]
  simp [mkT, List.range_succ]

set_option maxHeartbeats 1000000 in
theorem mNilT (k : Int) (w : World) : Calls Tryz.prog 91 #[.slice none 0 0, .int .i64 k] w fun e w' => e = .returned (.int .i64 k) ∧ w' = w := by
  go_enter Tryz.func91, Tryz.ntmps91
  go_wp2
  refine wp_loop_rounds 1 ?_
  rw [rounds_succ]
  go_wp2
  go_ret
  exact ⟨rfl, rfl⟩
set_option maxHeartbeats 1000000 in
theorem hNilT (k : Int) (w : World) : Calls Tryz.prog 92 #[.slice none 0 0, .int .i64 k] w fun e w' => e = .returned (.int .i64 k) ∧ w' = w := by
  go_enter Tryz.func92, Tryz.ntmps92
  go_wp2
  refine wp_loop_rounds 1 ?_
  rw [rounds_succ]
  go_wp2
  go_ret
  exact ⟨rfl, rfl⟩

set_option maxHeartbeats 2000000 in
theorem markOT (base : Nat) (v : Value) (ts : List DTim) (k : Int) (w : World) (h : OwT w base v ts) (hn : ts.length ≤ 1048576) (hk0 : 0 ≤ k) (hk1 : k ≤ 1000000000) :
    Calls Tryz.prog 91 #[v, .int .i64 k] w fun e w' => e = .returned (.int .i64 (k + 2 * ts.length)) ∧ OwT w' base v (mkT k ts.length) ∧ w.grownBy w' v.ownBlock := by
  rcases h.2 with ⟨rfl, h0⟩ | ⟨g, cap, cur, rfl, _, _, hnc, hcm, _⟩
  · have : ts = [] := List.eq_nil_of_length_eq_zero h0
    subst this
    refine (mNilT k w).mono fun e w' ⟨h1, h2⟩ => ?_
    subst h2
    exact ⟨by simpa using h1, h, ⟨rfl, rfl, rfl, Nat.le_refl _, fun _ _ _ => rfl⟩⟩
  · obtain ⟨n, hnn⟩ : ∃ n, n = ts.length := ⟨_, rfl⟩
    rw [← hnn] at hn h hnc ⊢
    have HN : Hid (n = ts.length) := hnn
    clear hnn
    unfold maxLen at hcm
    go_enter Tryz.func91, Tryz.ntmps91
    go_wp2
    go_loopw [1, 5] (fun kv i wr => ∃ i' : Nat, i' ≤ n ∧ i = .int .i64 i' ∧ kv = .int .i64 (k + 2 * i') ∧ Hid (OwT wr base (.slice (some ⟨g, 0, none⟩) n cap) (mkT k i' ++ ts.drop i')) ∧ w.grownBy wr (some g)) (fun _ i _ => n - (intOf i).toNat)
    case atStart => exact ⟨0, Nat.zero_le _, rfl, by simp, h, ⟨rfl, rfl, rfl, Nat.le_refl _, fun _ _ _ => rfl⟩⟩
    case round =>
      obtain ⟨i, hi, rfl, rfl, HO, hg⟩ := hrel
      have HLL : Hid (n = (mkT k i ++ ts.drop i).length) := by show _ = _; simp [mkT_len]; have := HN.out; omega
      by_cases hlt : i < n
      · obtain ⟨t, ht⟩ : ∃ t, (mkT k i ++ ts.drop i)[i]? = some t := ⟨_, List.getElem?_eq_getElem (by have := HLL.out; omega)⟩
        obtain ⟨c0, c1, f0, f1⟩ := HO.out.cells HLL.out ht
        have R := HO.out.set HLL.out i hlt ⟨k + 2 * (i : Int), k + 2 * (i : Int) + 1⟩
        rw [mkT_set k ts i (by have := HN.out; omega)] at R
        have HR : Hid (OwT ((wr.setCell ⟨g, i * 2, none⟩ (.int .i64 (k + 2 * (i : Int)))).setCell ⟨g, i * 2 + 1, none⟩ (.int .i64 (k + 2 * (i : Int) + 1))) base (.slice (some ⟨g, 0, none⟩) n cap) (mkT k (i + 1) ++ ts.drop (i + 1))) := R
        have HG : Hid (w.grownBy ((wr.setCell ⟨g, i * 2, none⟩ (.int .i64 (k + 2 * (i : Int)))).setCell ⟨g, i * 2 + 1, none⟩ (.int .i64 (k + 2 * (i : Int) + 1))) (some g)) := (hg.trans (set_grown wr g _ _)).trans (set_grown _ g _ _)
        have hlt' : (i : Int) < (n : Int) := by omega
        clear R hg ht
        go_wp2
        go_roundw
        case rel => exact ⟨i + 1, by omega, by go_num, by go_num, HR, HG.out⟩
        case measure => simp [intOf]; omega
      · have hin : i = n := by omega
        subst hin
        have HF : Hid (OwT wr base (.slice (some ⟨g, 0, none⟩) i cap) (mkT k i)) := by
          have := HO.out
          rw [List.drop_of_length_le (by have := HN.out; omega), List.append_nil] at this
          exact this
        go_wp2
        go_ret
        exact ⟨rfl, HF.out, hg⟩

set_option maxHeartbeats 2000000 in
theorem heldOT (base : Nat) (v : Value) (n : Nat) (k : Int) (w : World) (h : OwT w base v (mkT k n)) (hk0 : 0 ≤ k) (hk1 : k ≤ 1000000000) (hn : n ≤ 1048576) :
    Calls Tryz.prog 92 #[v, .int .i64 k] w fun e w' => e = .returned (.int .i64 (k + 2 * n)) ∧ ∃ q, w' = w.drewN q := by
  rcases h.2 with ⟨rfl, h0⟩ | ⟨g, cap, cur, rfl, _, _, hnc, hcm, _⟩
  · rw [mkT_len] at h0
    subst h0
    refine (hNilT k w).mono fun e w' ⟨h1, h2⟩ => ⟨by simpa using h1, 0, h2⟩
  · rw [mkT_len] at h hnc ⊢
    unfold maxLen at hcm
    go_enter Tryz.func92, Tryz.ntmps92
    go_wp2
    go_loopw [1, 5] (fun kv i wr => ∃ i' q : Nat, i' ≤ n ∧ i = .int .i64 i' ∧ kv = .int .i64 (k + 2 * i') ∧ wr = w.drewN q) (fun _ i _ => n - (intOf i).toNat)
    case atStart => exact ⟨0, 0, Nat.zero_le _, rfl, by simp, rfl⟩
    case round =>
      obtain ⟨i, q, hi, rfl, rfl, rfl⟩ := hrel
      by_cases hlt : i < n
      · obtain ⟨c0, c1, _, _⟩ := h.cells (mkT_len k n).symm (mkT_get k n i hlt)
        have hlt' : (i : Int) < (n : Int) := by omega
        have HC : Hid (∀ q, (w.drewN q).cell? ⟨g, i * 2, none⟩ = some (.int .i64 (k + 2 * (i : Int))) ∧ (w.drewN q).cell? ⟨g, i * 2 + 1, none⟩ = some (.int .i64 (k + 2 * (i : Int) + 1))) := fun q => ⟨c0, c1⟩
        simp only at c0 c1
        go_wp2
        try go_quiet (fail)
        try go_wp2
        try go_quiet (fail)
        try go_wp2
        go_roundw
        case rel => exact ⟨i + 1, _, by omega, by go_num, by go_num, by first | rfl | exact World.drewN_drewN _ _ _ | (rw [World.drewN_drewN, World.drewN_drewN])⟩
        case measure => simp [intOf]; omega
      · have hin : i = n := by omega
        subst hin
        go_wp2
        go_ret
        exact ⟨rfl, _, rfl⟩

end Go.Proofs.YtnklnhnjmikooaaGreat
