
/- Contracts of the library's Grow of nothing and Concat at bytes, as the program reaches them. -/
import Derived.Test.YtpnachakijpjkaaInf
import Derived.Test.YtpnachakijpjkaaBytes
namespace Go.Proofs.Ytpnachakijpjkaa
open Go.RowKit

set_option maxRecDepth 10000 in
set_option maxHeartbeats 1000000 in
theorem grow0 (m : Nat) (w : World) (hm : m ≤ 4294967296) :
    Calls Try.prog 91 #[.slice none 0 0, .int .i64 m] w fun e w' => ∃ v, e = .returned v ∧ Ow w' w.heap.size v [] ∧ Below w.heap.size w w' := by
  obtain ⟨i0, hi, hz0, hz1, hz2⟩ := info_parts info5
  rcases Nat.eq_zero_or_pos m with h0 | h0
  · subst h0
    go_enter Try.func91, Try.ntmps91
    go_wp2
    go_ret
    exact ⟨_, rfl, World.ownsRow_nil _ _ _ _, Below.refl _ _⟩
  · have hpos : (0 : Int) < (m : Int) := by omega
    have hold : (Builtin.firstCells i0.size 0 (.slice none 0 0)).run Try.prog w.drew = .ok ([] : List Value).toArray w.drew := by
      simp [Builtin.firstCells]
    have hrz : ∀ ty, (Builtin.append_ #[22, 3] ty #[.slice none 0 0, .int .i64 (m : Int)]).run Try.prog w =
        .ok (.slice (some ⟨w.heap.size, 0, none⟩) m (grownCap w m 0 5)) (w.drew.alloc (.cells (([] : List Value).toArray ++ Builtin.zeroCells (Value.int .u8 0).cells m ++ Builtin.zeroCells (Value.int .u8 0).cells (grownCap w m 0 5 - m)) 5)) := fun ty => by
      have h := Lib.run_append_grow_zeros (P := Try.prog) w 22 3 ty 5 i0 (.int .u8 0) .i64 .i64 Try.underlying22 Try.underlying3 hi hz0 none 0 0 [] hold m h0 (by omega) (by omega) (by omega) (by rw [hz2]; omega)
        (growslice_fits (by omega) (by rw [hz2]; omega))
      simpa using h
    have hGn : m ≤ grownCap w m 0 5 := grownCap_ge w _ _ _
    have hGm : grownCap w m 0 5 ≤ maxLen := grownCap_le_maxLen w m 0 5 (by unfold maxLen; omega)
    obtain ⟨G, hG⟩ : ∃ G, G = grownCap w m 0 5 := ⟨_, rfl⟩
    rw [← hG] at hrz hGn hGm
    obtain ⟨cs, hcs⟩ : ∃ cs, cs = (([] : List Value).toArray ++ Builtin.zeroCells (Value.int .u8 0).cells m ++ Builtin.zeroCells (Value.int .u8 0).cells (G - m)) := ⟨_, rfl⟩
    rw [← hcs] at hrz
    have hsz : cs.size = G := by
      rw [hcs]
      simp [size_zeroCells, Value.cells]
      omega
    have HW : Hid (Ow (w.drew.alloc (.cells cs 5)) w.heap.size (.slice (some ⟨w.heap.size, 0, none⟩) 0 G) []) := World.ownsRow_made w.drew cs G (Nat.le_refl _) hGm (by omega)
    have hG63 : G ≤ 9223372036854775807 := by unfold maxLen at hGm; omega
    clear hold hG hcs hGm hsz
    go_enter Try.func91, Try.ntmps91
    go_wp2_with (at_builtin; refine Lib.wpList_append_run _ rfl _ _ _ _ rfl _ _ rfl rfl _ _ (hrz _) ?_)
    all_goals
      go_ret
      exact ⟨_, rfl, HW.out, ((Below.refl _ w).drew).alloc (Nat.le_refl _) _⟩

/-- The first k of some lists, one behind the other. -/
def cat (X : Nat → List Int) : Nat → List Int
  | 0 => []
  | k + 1 => cat X k ++ X k

theorem cat_le (X : Nat → List Int) {k m : Nat} (h : k ≤ m) : (cat X k).length ≤ (cat X m).length := by
  induction m with
  | zero => obtain rfl : k = 0 := by omega
            exact Nat.le_refl _
  | succ m ih =>
    by_cases e : k = m + 1
    · subst e; exact Nat.le_refl _
    · have := ih (by omega)
      simp only [cat, List.length_append]
      omega

theorem cat_rng (X : Nat → List Int) (m : Nat) (h : ∀ j, j < m → ∀ x ∈ X j, 0 ≤ x ∧ x ≤ 255) : ∀ x ∈ cat X m, 0 ≤ x ∧ x ≤ 255 := by
  induction m with
  | zero => intro x hx; cases hx
  | succ m ih =>
    intro x hx
    rcases List.mem_append.1 hx with hx | hx
    · exact ih (fun j hj => h j (by omega)) x hx
    · exact h m (by omega) x hx

set_option maxHeartbeats 2000000 in
theorem conc (g m c : Nat) (A : Nat → Option Addr) (L C : Nat → Nat) (X : Nat → List Int) (w : World) (hm : m ≤ 1000)
    (hc : ∀ j, j < m → w.cell? ⟨g, j, none⟩ = some (.slice (A j) (L j) (C j))) (hR : ∀ j, j < m → Rd w (A j) (L j) (X j)) (hb : (cat X m).length ≤ 4294967296) :
    Calls Try.prog 84 #[.slice (some ⟨g, 0, none⟩) m c] w fun e w' => ∃ v, e = .returned v ∧ Ow w' w.heap.size v (cat X m) ∧ Below w.heap.size w w' := by
  have hstep : ∀ k, k < m → (cat X k).length + L k ≤ (cat X m).length := fun k hk => by
    have := cat_le X (show k + 1 ≤ m by omega)
    simp only [cat, List.length_append, (hR k hk).len] at this
    exact this
  have HS : Hid (∀ k, k < m → (cat X k).length + L k ≤ (cat X m).length) := hstep
  have HC : Hid (∀ j, j < m → w.cell? ⟨g, j, none⟩ = some (.slice (A j) (L j) (C j))) := hc
  have HR : Hid (∀ j, j < m → Rd w (A j) (L j) (X j)) := hR
  clear hstep hc hR
  go_enter Try.func84, Try.ntmps84
  go_wp2
  go_loop [3, 11] (fun s i => ∃ k : Nat, k ≤ m ∧ i = .int .i64 k ∧ s = .int .i64 (cat X k).length) (fun _ i => m - (intOf i).toNat)
  case atStart => exact ⟨0, Nat.zero_le _, rfl, rfl⟩
  case round =>
    obtain ⟨k, hk, rfl, rfl⟩ := hrel
    by_cases hlt : k < m
    · have hck := HC.out k hlt
      have hbk := HS.out k hlt
      have HL : Hid ((cat X (k + 1)).length = (cat X k).length + L k) := by simp only [Hid, cat, List.length_append, (HR.out k hlt).len]
      go_wp2
      go_round
      case rel => exact ⟨k + 1, by omega, by go_num, by rw [HL.out]; go_num⟩
      case measure => simp [intOf]; omega
    · have hkm : k = m := by omega
      subst hkm
      go_wp2_with (go_at_call 91; refine (grow0 (cat X k).length _ hb).mono ?_; rintro e w1 ⟨v1, rfl, hown1, hb1⟩)
      go_loopw [6, 27] (fun v i wr => ∃ j : Nat, j ≤ k ∧ i = .int .i64 j ∧ Ow wr w.heap.size v (cat X j) ∧ Below w.heap.size w wr) (fun _ i _ => k - (intOf i).toNat)
      case atStart => exact ⟨0, Nat.zero_le _, rfl, hown1, hb1⟩
      case round =>
        obtain ⟨j, hj, rfl, hown, hbj⟩ := hrel
        clear hown1 hb1
        have hsz := hbj.size
        by_cases hlt : j < k
        · have hcj := HC.out j hlt
          have hcj' : wr.cell? ⟨g, j, none⟩ = some (.slice (A j) (L j) (C j)) := (hbj.cell (p := ⟨g, j, none⟩) (World.block_lt_of_cell? w _ hcj)).trans hcj
          have hbk := HS.out j hlt
          have hrj := (HR.out j hlt).below hbj (Nat.le_refl _)
          clear hcj
          go_wp2_with (at_builtin; refine wpList_append_bytes _ rfl (.tmp 31) (.tmp 32) 22 rfl w.heap.size info5 Try.underlying22 _ (cat X j) rfl hown (A j) (L j) (C j) (X j) rfl hrj (by omega) hsz ?_; intro v2 w2 hown2 hg2)
          have hb2 : Below w.heap.size w w2 := below_own hbj hsz hown hg2
          clear hg2
          go_wp2
          go_roundw
          case rel => exact ⟨j + 1, by omega, by go_num, hown2, hb2⟩
          case measure => simp [intOf]; omega
        · have hjk : j = k := by omega
          subst hjk
          go_wp2
          go_ret
          exact ⟨_, rfl, hown, hbj⟩

end Go.Proofs.Ytpnachakijpjkaa
