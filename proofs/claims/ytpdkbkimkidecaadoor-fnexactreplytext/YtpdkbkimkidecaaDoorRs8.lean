/- The contracts of the specification's l8code, l8reply. -/
import Derived.Test.YtpdkbkimkidecaaDoorDg8
import Derived.Test.YtpdkbkimkidecaaDoorOp0
import Derived.Deep.RegionHeld3
import Derived.Deep.CutRange
import Derived.Deep.RegionWith
namespace Go.Proofs.YtpdkbkimkidecaaDoor
open Go.RowKit

/-- What a code is called. -/
def codeL : Nat → List Int
  | 0 => [119, 101, 108, 108]
  | 1 => [110, 111, 110, 101]
  | 2 => [104, 101, 108, 100]
  | 3 => [116, 117, 114, 110, 101, 100]
  | 4 => [102, 117, 108, 108]
  | 5 => [111, 108, 100]
  | _ => []
def codeS : Nat → ByteArray
  | 0 => ⟨#[119, 101, 108, 108]⟩
  | 1 => ⟨#[110, 111, 110, 101]⟩
  | 2 => ⟨#[104, 101, 108, 100]⟩
  | 3 => ⟨#[116, 117, 114, 110, 101, 100]⟩
  | 4 => ⟨#[102, 117, 108, 108]⟩
  | 5 => ⟨#[111, 108, 100]⟩
  | _ => ⟨#[]⟩

theorem lt6 {k : Nat} (h : k < 6) : k = 0 ∨ k = 1 ∨ k = 2 ∨ k = 3 ∨ k = 4 ∨ k = 5 := by omega
theorem codeS_cells (k : Nat) (h : k < 6) : ((codeS k).data.map fun b => Value.int .u8 b.toNat).toList = B8 (codeL k) := by
  rw [Array.toList_map]
  rcases lt6 h with rfl | rfl | rfl | rfl | rfl | rfl <;> rfl
theorem codeS_size (k : Nat) (h : k < 6) : (codeS k).size ≤ 6 := by
  rcases lt6 h with rfl | rfl | rfl | rfl | rfl | rfl <;> decide
theorem codeL_len (k : Nat) (h : k < 6) : 0 < (codeL k).length ∧ (codeL k).length ≤ 6 := by
  rcases lt6 h with rfl | rfl | rfl | rfl | rfl | rfl <;> decide
theorem codeL_rng (k : Nat) (h : k < 6) : ∀ x ∈ codeL k, 0 ≤ x ∧ x ≤ 255 := by
  rcases lt6 h with rfl | rfl | rfl | rfl | rfl | rfl <;> decide

set_option maxHeartbeats 1000000 in
theorem l8codeV (k : Nat) (h : k < 6) (w : World) : Calls Tryd.prog 16 #[.int .i64 k] w fun e w' => e = .returned (.string (codeS k)) ∧ Below w.heap.size w w' := by
  have HB : Hid (∀ o, Below w.heap.size w (w.alloc o)) := fun o => (Below.refl _ w).alloc (Nat.le_refl _) _
  rcases lt6 h with rfl | rfl | rfl | rfl | rfl | rfl
  all_goals
    clear h
    go_enter Tryd.func16, Tryd.ntmps16
    go_wp2
    go_ret
    exact ⟨rfl, HB.out _⟩

theorem ext_undrew {w w' : World} (h : Ext w.drew w') : Ext w w' := ⟨h.os, h.tape, h.output, h.size, h.block⟩
theorem conv_cell {W : World} {s : ByteArray} {b o : Nat} {u : Value} (h : W.cell? ⟨b, o, none⟩ = some u) : (Lib.bytesWorld W 5 s).cell? ⟨b, o, none⟩ = some u :=
  (Lib.bytesWorld_old W 5 s ⟨b, o, none⟩ (World.block_lt_of_cell? W _ h)).trans h

/-- What a reply reads as. -/
def replyL (k j : Nat) : List Int := codeL k ++ 32 :: decL j

theorem keep_own {w : World} {base : Nat} {v u : Value} {xs : List Int} (h : OwM w base v xs) (hr : ∀ x ∈ xs, 0 ≤ x ∧ x ≤ 255) (ha : v.ownBlock = none ∨ v.ownBlock ≠ u.ownBlock) : ∀ w', w.grownBy w' u.ownBlock → RV w' v xs :=
  fun _ hg => (h.kept hg ha).rv hr

theorem word_a (k j : Nat) (hk : k < 6) (hj : j ≤ 1000000) (W w3 : World) (v3 : Value) (b : Below (Lib.bytesWorld W 5 (codeS k)).heap.size (Lib.bytesWorld W 5 (codeS k)) w3) (o3 : Ow w3 (Lib.bytesWorld W 5 (codeS k)).heap.size v3 (decL j)) :
    Calls Tryd.prog 15 #[.slice (some ⟨W.heap.size, 0, none⟩) (codeS k).size (grownCap W (codeS k).size 0 5), v3] w3 fun e w' => ∃ v, e = .returned v ∧ OwM w' W.heap.size v (replyL k j) ∧ Below W.heap.size W w' := by
  obtain ⟨M, b2⟩ := m_conv W (codeS k) (codeL k) (codeS_cells k hk) (by have := codeS_size k hk; omega)
  have hl := codeL_len k hk
  have hd := decL_len j (by omega)
  have c3 := b2.trans (b.mono b2.size)
  have M3 := M.ext (ext_below b)
  refine (wordV W.heap.size _ v3 (codeL k) (decL j) w3 M3 c3.size hl.1 (by omega) (keep_own o3.m (decL_rng j) (m_apart' M (Nat.le_refl _) o3.m)) (by omega)).mono ?_
  rintro e w' ⟨v, rfl, o, g, _⟩
  exact ⟨v, rfl, o, m_below c3 (Nat.le_refl _) M3 c3.size g⟩

theorem word_b (k j : Nat) (hk : k < 6) (hj : j ≤ 1000000) (B : Nat) (w3 : World) (v3 : Value) (o3 : Ow w3 B v3 (decL j)) :
    Calls Tryd.prog 15 #[.slice (some ⟨w3.heap.size, 0, none⟩) (codeS k).size (grownCap w3 (codeS k).size 0 5), v3] (Lib.bytesWorld w3 5 (codeS k)) fun e w' => ∃ v, e = .returned v ∧ OwM w' w3.heap.size v (replyL k j) ∧ Below w3.heap.size w3 w' := by
  obtain ⟨M, b2⟩ := m_conv w3 (codeS k) (codeL k) (codeS_cells k hk) (by have := codeS_size k hk; omega)
  have hl := codeL_len k hk
  have hd := decL_len j (by omega)
  have o3' : OwM (Lib.bytesWorld w3 5 (codeS k)) B v3 (decL j) := o3.m.ext (ext_below b2)
  refine (wordV w3.heap.size _ v3 (codeL k) (decL j) _ M b2.size hl.1 (by omega) (keep_own o3' (decL_rng j) (m_apart o3.m (Nat.le_refl _) M)) (by omega)).mono ?_
  rintro e w' ⟨v, rfl, o, g, _⟩
  exact ⟨v, rfl, o, m_below b2 (Nat.le_refl _) M b2.size g⟩

set_option maxHeartbeats 2000000 in
theorem l8replyV (k j : Nat) (hk : k < 6) (hj : j ≤ 1000000) (w : World) : Calls Tryd.prog 11 #[.agg #[.int .i64 k, .int .i64 j]] w fun e w' => ∃ v, e = .returned v ∧ OwM w' w.heap.size v (replyL k j) ∧ Below w.heap.size w w' := by
  have hcv : ∀ W : World, (convert 9 24 (.string (codeS k))).run Tryd.prog W = .ok (.slice (some ⟨W.heap.size, 0, none⟩) (codeS k).size (grownCap W (codeS k).size 0 5)) (Lib.bytesWorld W 5 (codeS k)) := fun W => Lib.run_convert_string_bytes W 9 24 5 (codeS k) Tryd.underlying9 Tryd.underlying24 Tryd.underlying5
  have HM : Hid (∀ W : World, OwM (Lib.bytesWorld W 5 (codeS k)) W.heap.size (.slice (some ⟨W.heap.size, 0, none⟩) (codeS k).size (grownCap W (codeS k).size 0 5)) (codeL k) ∧ Below W.heap.size W (Lib.bytesWorld W 5 (codeS k))) := fun W => m_conv W (codeS k) (codeL k) (codeS_cells k hk) (by have := codeS_size k hk; omega)
  go_enter Tryd.func11, Tryd.ntmps11
  go_upto_region 1 with fail
  obtain ⟨V, hV⟩ : ∃ V, V = w.alloc (.cells #[.int .i64 k, .int .i64 j] 26) := ⟨_, rfl⟩
  have q : V.heap[w.heap.size]? = some (.cells #[.int .i64 k, .int .i64 j] 26 (0, 0)) := by rw [hV]; exact heap_alloc_new w _
  have bV : Below w.heap.size w V := by rw [hV]; exact (Below.refl _ w).alloc (Nat.le_refl _) _
  have sV : V.heap.size = w.heap.size + 1 := by rw [hV]; simp
  rw [← hV]
  clear hV
  obtain ⟨q0, _⟩ := at_block q 0 _ rfl
  obtain ⟨q1, _⟩ := at_block q 1 _ rfl
  have SV := sV
  clear sV
  have hb0 : ∀ W : World, W.cell? ⟨w.heap.size, 0, none⟩ = some (.int .i64 k) → (Lib.bytesWorld W 5 (codeS k)).cell? ⟨w.heap.size, 0, none⟩ = some (.int .i64 k) := fun W h => conv_cell h
  have hb1 : ∀ W : World, W.cell? ⟨w.heap.size, 1, none⟩ = some (.int .i64 j) → (Lib.bytesWorld W 5 (codeS k)).cell? ⟨w.heap.size, 1, none⟩ = some (.int .i64 j) := fun W h => conv_cell h
  have HC : Hid (∀ W W', W.cell? ⟨w.heap.size, 0, none⟩ = some (.int .i64 k) → W.cell? ⟨w.heap.size, 1, none⟩ = some (.int .i64 j) → Below W.heap.size W W' → W'.cell? ⟨w.heap.size, 0, none⟩ = some (.int .i64 k) ∧ W'.cell? ⟨w.heap.size, 1, none⟩ = some (.int .i64 j)) := fun W W' h0 h1 b => ⟨World.grownBy.cell (ext_below b) h0 (by simp), World.grownBy.cell (ext_below b) h1 (by simp)⟩
  have HV : Hid (∀ W, Below V.drew.heap.size V.drew W → Below w.heap.size w W) := fun W b => bV.drew.trans (b.mono bV.size)
  go_region_with (first
      | (go_at_call 15; first | (refine (word_a k j hk hj _ _ _ b3 o3).mono ?_; rintro e w4 ⟨v4, rfl, o4, b4⟩) | (refine (word_b k j hk hj _ _ _ o3).mono ?_; rintro e w4 ⟨v4, rfl, o4, b4⟩))
      | (go_at_call 17; refine (digitsV j (by omega) _).mono ?_; rintro e w3 ⟨v3, rfl, o3, b3⟩; obtain ⟨d0, d1⟩ := HC.out _ w3 (by first | (simp [*]; done) | go_keep) (by first | (simp [*]; done) | go_keep) b3)
      | (go_at_call 16; refine (l8codeV k hk _).mono ?_; rintro e w1 ⟨rfl, b1⟩; obtain ⟨c0, c1⟩ := HC.out _ w1 (by first | (simp [*]; done) | go_keep) (by first | (simp [*]; done) | go_keep) b1; have B1 := HV.out w1 b1))
  all_goals
    go_wp2
    go_ret
    first
      | exact ⟨v4, rfl, o4.base B1.size, B1.trans (b4.mono B1.size)⟩
      | exact ⟨v4, rfl, o4.base (Nat.le_trans B1.size b3.size), (B1.trans (b3.mono B1.size)).trans (b4.mono (Nat.le_trans B1.size b3.size))⟩

end Go.Proofs.YtpdkbkimkidecaaDoor
