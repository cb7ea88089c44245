/- The contract of the program's GetNum: it reads the number that stands in the bytes from a place on. -/
import Derived.Test.YtbkifmbkmjjbnabInf
import Derived.Test.YtbkifmbkmjjbnabGet0
namespace Go.Proofs.Ytbkifmbkmjjbnab
open Go.RowKit

set_option maxHeartbeats 4000000 in
theorem iGet_a (b o n cap : Nat) (xs : List Int) (t : Nat) (w : World) (hr : Rd w (some ⟨b, o, none⟩) n xs) (hn : n ≤ 2097152) (hcap : n ≤ cap) (hcap2 : cap ≤ 9223372036854775807) (ht : t < n) (ht5 : n ≤ t + 5) :
    Calls Try.prog 6 #[.slice (some ⟨b, o, none⟩) n cap, .int .i64 t] w fun e w' => e = .returned (pairV (gn xs t)) ∧ w' = w := by
  obtain ⟨b', o', e, _, hc⟩ := hr.pos (by omega)
  simp only [Option.some.injEq, Addr.mk.injEq, and_true] at e
  obtain ⟨rfl, rfl⟩ := e
  have HC : Hid (∀ i, i < n → w.cell? ⟨b, o + i, none⟩ = some (.int .u8 (xs.getD i 0))) := hc
  clear hc
  have HG0 : Hid (gn xs t = dec (5 - 0) 0 0 (p128 0) (xs.drop (t + 0)) t) := by unfold Hid gn; rw [if_neg (by omega)]; rfl
  have hct : ¬ cap = t := by omega
  go_enter Try.func6, Try.ntmps6
  go_wp2
  go_loop [6, 26] (fun a i => ∃ k : Nat, k ≤ n - t ∧ i = .int .i64 k ∧ ∃ A : Int, a = .int .i64 A ∧ 0 ≤ A ∧ Hid (A < p128 k) ∧ Hid (gn xs t = dec (5 - k) k A (p128 k) (xs.drop (t + k)) t)) (fun _ i => 5 - (intOf i).toNat)
  case atStart => exact ⟨0, by omega, rfl, 0, rfl, by omega, (by omega : (0 : Int) < 1), HG0⟩
  case round =>
    obtain ⟨k, hk, rfl, A, rfl, hA0, hA1, hG⟩ := hrel
    clear HG0
    by_cases hlt : k < n - t
    · have hc := HC.out
      clear HC
      rcases (show k = 0 ∨ k = 1 ∨ k = 2 ∨ k = 3 ∨ k = 4 by omega) with rfl | rfl | rfl | rfl | rfl
      · have hA1' : A < 1 := hA1.out
        have hck := hc (t) (by omega)
        obtain ⟨hr0, hr1⟩ := rng_at hr.rng (t) (by have := hr.len; omega)
        have hd := drop_at xs (t) n hr.len (by omega)
        have HG : Hid (gn xs t = dec 5 0 A 1 (xs.getD (t) 0 :: xs.drop (t + 1)) t) := by rw [← hd]; exact hG
        obtain ⟨c, hcc⟩ : ∃ c, c = xs.getD (t) 0 := ⟨_, rfl⟩
        rw [← hcc] at hck hr0 hr1 HG
        clear hcc hd hG hc
        have hck' : w.cell? ⟨b, o + t, none⟩ = some (.int .u8 c) := hck
        have ha := and127 c hr0 hr1
        obtain rfl : A = 0 := by omega
        have h00 : bits .or .i64 0 0 = 0 := by decide
        have ho : bits .or .i64 0 (c % 128) = c % 128 := by
          have := or_join 0 0 (c % 128) (by omega) (by omega) (by omega) (by omega) (by omega) (by omega)
          simpa using this
        clear hck
        by_cases h128 : 128 ≤ c
        · have HG1 : Hid (gn xs t = dec 4 1 (0 + c % 128 * 1) 128 (xs.drop (t + 1)) t) := by have := HG.out; rw [dec_go h128] at this; exact this
          have h128' : ¬ c < 128 := by omega
          clear HG
          go_wp2
          go_round
          case rel => exact ⟨1, by omega, rfl, 0 + c % 128 * 1, by go_num, by omega, (by omega : 0 + c % 128 * 1 < 128), HG1.out⟩
          case measure => simp [intOf]
        have h128' : c < 128 := by omega
        have hm : ¬ 2147483647 < 0 + c % 128 * 1 := by omega
        by_cases hz : c = 0
        · subst hz
          have HG1 : Hid (gn xs t = (0 + 0 % 128 * 1, (t : Int) + 0 + 1)) := by have := HG.out; rw [dec_ok h128' (by omega)] at this; exact this
          clear HG
          go_wp2
          go_ret2
          exact ⟨ret_pair (by rw [HG1.out]; simp), rfl⟩
        · have hz' : (c == 0) = false := by simpa using hz
          have HG1 : Hid (gn xs t = (0 + c % 128 * 1, (t : Int) + 0 + 1)) := by have := HG.out; rw [dec_ok h128' (by omega)] at this; exact this
          clear HG
          go_wp2
          go_ret2
          exact ⟨ret_pair (by rw [HG1.out]; simp), rfl⟩
      · have hA1' : A < 128 := hA1.out
        have hck := hc (t + 1) (by omega)
        obtain ⟨hr0, hr1⟩ := rng_at hr.rng (t + 1) (by have := hr.len; omega)
        have hd := drop_at xs (t + 1) n hr.len (by omega)
        have HG : Hid (gn xs t = dec 4 1 A 128 (xs.getD (t + 1) 0 :: xs.drop (t + 2)) t) := by rw [← hd]; exact hG
        obtain ⟨c, hcc⟩ : ∃ c, c = xs.getD (t + 1) 0 := ⟨_, rfl⟩
        rw [← hcc] at hck hr0 hr1 HG
        clear hcc hd hG hc
        have hck' : w.cell? ⟨b, o + t + 1, none⟩ = some (.int .u8 c) := by rw [Nat.add_assoc]; exact hck
        have ha := and127 c hr0 hr1
        have ho : bits .or .i64 A (c % 128 * 128) = A + c % 128 * 128 := or_join 7 A _ (by omega) (by omega) (by omega) hA0 (by omega) (by omega)
        clear hck
        by_cases h128 : 128 ≤ c
        · have HG1 : Hid (gn xs t = dec 3 2 (A + c % 128 * 128) 16384 (xs.drop (t + 2)) t) := by have := HG.out; rw [dec_go h128] at this; exact this
          have h128' : ¬ c < 128 := by omega
          clear HG
          go_wp2
          go_round
          case rel => exact ⟨2, by omega, rfl, A + c % 128 * 128, by go_num, by omega, (by omega : A + c % 128 * 128 < 16384), HG1.out⟩
          case measure => simp [intOf]
        have h128' : c < 128 := by omega
        have hm : ¬ 2147483647 < A + c % 128 * 128 := by omega
        by_cases hz : c = 0
        · subst hz
          have HG1 : Hid (gn xs t = (0, -1)) := by have := HG.out; rw [dec_bad h128' (.inl ⟨rfl, by omega⟩)] at this; exact this
          clear HG
          go_wp2
          go_ret2
          exact ⟨ret_pair HG1.out, rfl⟩
        · have hz' : (c == 0) = false := by simpa using hz
          have HG1 : Hid (gn xs t = (A + c % 128 * 128, (t : Int) + 1 + 1)) := by have := HG.out; rw [dec_ok h128' (by omega)] at this; exact this
          clear HG
          go_wp2
          go_ret2
          exact ⟨ret_pair (by rw [HG1.out]), rfl⟩
      · have hA1' : A < 16384 := hA1.out
        have hck := hc (t + 2) (by omega)
        obtain ⟨hr0, hr1⟩ := rng_at hr.rng (t + 2) (by have := hr.len; omega)
        have hd := drop_at xs (t + 2) n hr.len (by omega)
        have HG : Hid (gn xs t = dec 3 2 A 16384 (xs.getD (t + 2) 0 :: xs.drop (t + 3)) t) := by rw [← hd]; exact hG
        obtain ⟨c, hcc⟩ : ∃ c, c = xs.getD (t + 2) 0 := ⟨_, rfl⟩
        rw [← hcc] at hck hr0 hr1 HG
        clear hcc hd hG hc
        have hck' : w.cell? ⟨b, o + t + 2, none⟩ = some (.int .u8 c) := by rw [Nat.add_assoc]; exact hck
        have ha := and127 c hr0 hr1
        have ho : bits .or .i64 A (c % 128 * 16384) = A + c % 128 * 16384 := or_join 14 A _ (by omega) (by omega) (by omega) hA0 (by omega) (by omega)
        clear hck
        by_cases h128 : 128 ≤ c
        · have HG1 : Hid (gn xs t = dec 2 3 (A + c % 128 * 16384) 2097152 (xs.drop (t + 3)) t) := by have := HG.out; rw [dec_go h128] at this; exact this
          have h128' : ¬ c < 128 := by omega
          clear HG
          go_wp2
          go_round
          case rel => exact ⟨3, by omega, rfl, A + c % 128 * 16384, by go_num, by omega, (by omega : A + c % 128 * 16384 < 2097152), HG1.out⟩
          case measure => simp [intOf]
        have h128' : c < 128 := by omega
        have hm : ¬ 2147483647 < A + c % 128 * 16384 := by omega
        by_cases hz : c = 0
        · subst hz
          have HG1 : Hid (gn xs t = (0, -1)) := by have := HG.out; rw [dec_bad h128' (.inl ⟨rfl, by omega⟩)] at this; exact this
          clear HG
          go_wp2
          go_ret2
          exact ⟨ret_pair HG1.out, rfl⟩
        · have hz' : (c == 0) = false := by simpa using hz
          have HG1 : Hid (gn xs t = (A + c % 128 * 16384, (t : Int) + 2 + 1)) := by have := HG.out; rw [dec_ok h128' (by omega)] at this; exact this
          clear HG
          go_wp2
          go_ret2
          exact ⟨ret_pair (by rw [HG1.out]), rfl⟩
      · have hA1' : A < 2097152 := hA1.out
        have hck := hc (t + 3) (by omega)
        obtain ⟨hr0, hr1⟩ := rng_at hr.rng (t + 3) (by have := hr.len; omega)
        have hd := drop_at xs (t + 3) n hr.len (by omega)
        have HG : Hid (gn xs t = dec 2 3 A 2097152 (xs.getD (t + 3) 0 :: xs.drop (t + 4)) t) := by rw [← hd]; exact hG
        obtain ⟨c, hcc⟩ : ∃ c, c = xs.getD (t + 3) 0 := ⟨_, rfl⟩
        rw [← hcc] at hck hr0 hr1 HG
        clear hcc hd hG hc
        have hck' : w.cell? ⟨b, o + t + 3, none⟩ = some (.int .u8 c) := by rw [Nat.add_assoc]; exact hck
        have ha := and127 c hr0 hr1
        have ho : bits .or .i64 A (c % 128 * 2097152) = A + c % 128 * 2097152 := or_join 21 A _ (by omega) (by omega) (by omega) hA0 (by omega) (by omega)
        clear hck
        by_cases h128 : 128 ≤ c
        · have HG1 : Hid (gn xs t = dec 1 4 (A + c % 128 * 2097152) 268435456 (xs.drop (t + 4)) t) := by have := HG.out; rw [dec_go h128] at this; exact this
          have h128' : ¬ c < 128 := by omega
          clear HG
          go_wp2
          go_round
          case rel => exact ⟨4, by omega, rfl, A + c % 128 * 2097152, by go_num, by omega, (by omega : A + c % 128 * 2097152 < 268435456), HG1.out⟩
          case measure => simp [intOf]
        have h128' : c < 128 := by omega
        have hm : ¬ 2147483647 < A + c % 128 * 2097152 := by omega
        by_cases hz : c = 0
        · subst hz
          have HG1 : Hid (gn xs t = (0, -1)) := by have := HG.out; rw [dec_bad h128' (.inl ⟨rfl, by omega⟩)] at this; exact this
          clear HG
          go_wp2
          go_ret2
          exact ⟨ret_pair HG1.out, rfl⟩
        · have hz' : (c == 0) = false := by simpa using hz
          have HG1 : Hid (gn xs t = (A + c % 128 * 2097152, (t : Int) + 3 + 1)) := by have := HG.out; rw [dec_ok h128' (by omega)] at this; exact this
          clear HG
          go_wp2
          go_ret2
          exact ⟨ret_pair (by rw [HG1.out]), rfl⟩
      · have hA1' : A < 268435456 := hA1.out
        have hck := hc (t + 4) (by omega)
        obtain ⟨hr0, hr1⟩ := rng_at hr.rng (t + 4) (by have := hr.len; omega)
        have hd := drop_at xs (t + 4) n hr.len (by omega)
        have HG : Hid (gn xs t = dec 1 4 A 268435456 (xs.getD (t + 4) 0 :: xs.drop (t + 5)) t) := by rw [← hd]; exact hG
        obtain ⟨c, hcc⟩ : ∃ c, c = xs.getD (t + 4) 0 := ⟨_, rfl⟩
        rw [← hcc] at hck hr0 hr1 HG
        clear hcc hd hG hc
        have hck' : w.cell? ⟨b, o + t + 4, none⟩ = some (.int .u8 c) := by rw [Nat.add_assoc]; exact hck
        have ha := and127 c hr0 hr1
        have ho : bits .or .i64 A (c % 128 * 268435456) = A + c % 128 * 268435456 := or_join 28 A _ (by omega) (by omega) (by omega) hA0 (by omega) (by omega)
        clear hck
        by_cases h128 : 128 ≤ c
        · have HG1 : Hid (gn xs t = dec 0 5 (A + c % 128 * 268435456) 34359738368 (xs.drop (t + 5)) t) := by have := HG.out; rw [dec_go h128] at this; exact this
          have h128' : ¬ c < 128 := by omega
          clear HG
          go_wp2
          go_round
          case rel => exact ⟨5, by omega, rfl, A + c % 128 * 268435456, by go_num, by omega, (by omega : A + c % 128 * 268435456 < 34359738368), HG1.out⟩
          case measure => simp [intOf]
        have h128' : c < 128 := by omega
        by_cases hm : 2147483647 < A + c % 128 * 268435456
        · have HG1 : Hid (gn xs t = (0, -1)) := by have := HG.out; rw [dec_bad h128' (.inr hm)] at this; exact this
          clear HG
          have hz' : (c == 0) = false := by simp; omega
          go_wp2
          go_ret2
          exact ⟨ret_pair HG1.out, rfl⟩
        by_cases hz : c = 0
        · subst hz
          have HG1 : Hid (gn xs t = (0, -1)) := by have := HG.out; rw [dec_bad h128' (.inl ⟨rfl, by omega⟩)] at this; exact this
          clear HG
          go_wp2
          go_ret2
          exact ⟨ret_pair HG1.out, rfl⟩
        · have hz' : (c == 0) = false := by simpa using hz
          have HG1 : Hid (gn xs t = (A + c % 128 * 268435456, (t : Int) + 4 + 1)) := by have := HG.out; rw [dec_ok h128' (by omega)] at this; exact this
          clear HG
          go_wp2
          go_ret2
          exact ⟨ret_pair (by rw [HG1.out]), rfl⟩
    · have HG1 : Hid (gn xs t = (0, -1)) := by
        have h := hG.out
        by_cases e : k = 5
        · subst e; exact h
        · rw [List.drop_of_length_le (by have := hr.len; omega), dec_nil] at h
          exact h
      clear hG HC
      go_wp2
      go_ret2
      exact ⟨ret_pair HG1.out, rfl⟩

set_option maxHeartbeats 4000000 in
theorem iGet_b (b o n cap : Nat) (xs : List Int) (t : Nat) (w : World) (hr : Rd w (some ⟨b, o, none⟩) n xs) (hn : n ≤ 2097152) (hcap : n ≤ cap) (hcap2 : cap ≤ 9223372036854775807) (ht : t < n) (ht5 : t + 5 < n) :
    Calls Try.prog 6 #[.slice (some ⟨b, o, none⟩) n cap, .int .i64 t] w fun e w' => e = .returned (pairV (gn xs t)) ∧ w' = w := by
  obtain ⟨b', o', e, _, hc⟩ := hr.pos (by omega)
  simp only [Option.some.injEq, Addr.mk.injEq, and_true] at e
  obtain ⟨rfl, rfl⟩ := e
  have HC : Hid (∀ i, i < n → w.cell? ⟨b, o + i, none⟩ = some (.int .u8 (xs.getD i 0))) := hc
  clear hc
  have HG0 : Hid (gn xs t = dec (5 - 0) 0 0 (p128 0) (xs.drop (t + 0)) t) := by unfold Hid gn; rw [if_neg (by omega)]; rfl
  have hct : ¬ cap = t := by omega
  go_enter Try.func6, Try.ntmps6
  go_wp2
  go_loop [6, 26] (fun a i => ∃ k : Nat, k ≤ 5 ∧ i = .int .i64 k ∧ ∃ A : Int, a = .int .i64 A ∧ 0 ≤ A ∧ Hid (A < p128 k) ∧ Hid (gn xs t = dec (5 - k) k A (p128 k) (xs.drop (t + k)) t)) (fun _ i => 5 - (intOf i).toNat)
  case atStart => exact ⟨0, by omega, rfl, 0, rfl, by omega, (by omega : (0 : Int) < 1), HG0⟩
  case round =>
    obtain ⟨k, hk, rfl, A, rfl, hA0, hA1, hG⟩ := hrel
    clear HG0
    by_cases hlt : k < 5
    · have hc := HC.out
      clear HC
      rcases (show k = 0 ∨ k = 1 ∨ k = 2 ∨ k = 3 ∨ k = 4 by omega) with rfl | rfl | rfl | rfl | rfl
      · have hA1' : A < 1 := hA1.out
        have hck := hc (t) (by omega)
        obtain ⟨hr0, hr1⟩ := rng_at hr.rng (t) (by have := hr.len; omega)
        have hd := drop_at xs (t) n hr.len (by omega)
        have HG : Hid (gn xs t = dec 5 0 A 1 (xs.getD (t) 0 :: xs.drop (t + 1)) t) := by rw [← hd]; exact hG
        obtain ⟨c, hcc⟩ : ∃ c, c = xs.getD (t) 0 := ⟨_, rfl⟩
        rw [← hcc] at hck hr0 hr1 HG
        clear hcc hd hG hc
        have hck' : w.cell? ⟨b, o + t, none⟩ = some (.int .u8 c) := hck
        have ha := and127 c hr0 hr1
        obtain rfl : A = 0 := by omega
        have h00 : bits .or .i64 0 0 = 0 := by decide
        have ho : bits .or .i64 0 (c % 128) = c % 128 := by
          have := or_join 0 0 (c % 128) (by omega) (by omega) (by omega) (by omega) (by omega) (by omega)
          simpa using this
        clear hck
        by_cases h128 : 128 ≤ c
        · have HG1 : Hid (gn xs t = dec 4 1 (0 + c % 128 * 1) 128 (xs.drop (t + 1)) t) := by have := HG.out; rw [dec_go h128] at this; exact this
          have h128' : ¬ c < 128 := by omega
          clear HG
          go_wp2
          go_round
          case rel => exact ⟨1, by omega, rfl, 0 + c % 128 * 1, by go_num, by omega, (by omega : 0 + c % 128 * 1 < 128), HG1.out⟩
          case measure => simp [intOf]
        have h128' : c < 128 := by omega
        have hm : ¬ 2147483647 < 0 + c % 128 * 1 := by omega
        by_cases hz : c = 0
        · subst hz
          have HG1 : Hid (gn xs t = (0 + 0 % 128 * 1, (t : Int) + 0 + 1)) := by have := HG.out; rw [dec_ok h128' (by omega)] at this; exact this
          clear HG
          go_wp2
          go_ret2
          exact ⟨ret_pair (by rw [HG1.out]; simp), rfl⟩
        · have hz' : (c == 0) = false := by simpa using hz
          have HG1 : Hid (gn xs t = (0 + c % 128 * 1, (t : Int) + 0 + 1)) := by have := HG.out; rw [dec_ok h128' (by omega)] at this; exact this
          clear HG
          go_wp2
          go_ret2
          exact ⟨ret_pair (by rw [HG1.out]; simp), rfl⟩
      · have hA1' : A < 128 := hA1.out
        have hck := hc (t + 1) (by omega)
        obtain ⟨hr0, hr1⟩ := rng_at hr.rng (t + 1) (by have := hr.len; omega)
        have hd := drop_at xs (t + 1) n hr.len (by omega)
        have HG : Hid (gn xs t = dec 4 1 A 128 (xs.getD (t + 1) 0 :: xs.drop (t + 2)) t) := by rw [← hd]; exact hG
        obtain ⟨c, hcc⟩ : ∃ c, c = xs.getD (t + 1) 0 := ⟨_, rfl⟩
        rw [← hcc] at hck hr0 hr1 HG
        clear hcc hd hG hc
        have hck' : w.cell? ⟨b, o + t + 1, none⟩ = some (.int .u8 c) := by rw [Nat.add_assoc]; exact hck
        have ha := and127 c hr0 hr1
        have ho : bits .or .i64 A (c % 128 * 128) = A + c % 128 * 128 := or_join 7 A _ (by omega) (by omega) (by omega) hA0 (by omega) (by omega)
        clear hck
        by_cases h128 : 128 ≤ c
        · have HG1 : Hid (gn xs t = dec 3 2 (A + c % 128 * 128) 16384 (xs.drop (t + 2)) t) := by have := HG.out; rw [dec_go h128] at this; exact this
          have h128' : ¬ c < 128 := by omega
          clear HG
          go_wp2
          go_round
          case rel => exact ⟨2, by omega, rfl, A + c % 128 * 128, by go_num, by omega, (by omega : A + c % 128 * 128 < 16384), HG1.out⟩
          case measure => simp [intOf]
        have h128' : c < 128 := by omega
        have hm : ¬ 2147483647 < A + c % 128 * 128 := by omega
        by_cases hz : c = 0
        · subst hz
          have HG1 : Hid (gn xs t = (0, -1)) := by have := HG.out; rw [dec_bad h128' (.inl ⟨rfl, by omega⟩)] at this; exact this
          clear HG
          go_wp2
          go_ret2
          exact ⟨ret_pair HG1.out, rfl⟩
        · have hz' : (c == 0) = false := by simpa using hz
          have HG1 : Hid (gn xs t = (A + c % 128 * 128, (t : Int) + 1 + 1)) := by have := HG.out; rw [dec_ok h128' (by omega)] at this; exact this
          clear HG
          go_wp2
          go_ret2
          exact ⟨ret_pair (by rw [HG1.out]), rfl⟩
      · have hA1' : A < 16384 := hA1.out
        have hck := hc (t + 2) (by omega)
        obtain ⟨hr0, hr1⟩ := rng_at hr.rng (t + 2) (by have := hr.len; omega)
        have hd := drop_at xs (t + 2) n hr.len (by omega)
        have HG : Hid (gn xs t = dec 3 2 A 16384 (xs.getD (t + 2) 0 :: xs.drop (t + 3)) t) := by rw [← hd]; exact hG
        obtain ⟨c, hcc⟩ : ∃ c, c = xs.getD (t + 2) 0 := ⟨_, rfl⟩
        rw [← hcc] at hck hr0 hr1 HG
        clear hcc hd hG hc
        have hck' : w.cell? ⟨b, o + t + 2, none⟩ = some (.int .u8 c) := by rw [Nat.add_assoc]; exact hck
        have ha := and127 c hr0 hr1
        have ho : bits .or .i64 A (c % 128 * 16384) = A + c % 128 * 16384 := or_join 14 A _ (by omega) (by omega) (by omega) hA0 (by omega) (by omega)
        clear hck
        by_cases h128 : 128 ≤ c
        · have HG1 : Hid (gn xs t = dec 2 3 (A + c % 128 * 16384) 2097152 (xs.drop (t + 3)) t) := by have := HG.out; rw [dec_go h128] at this; exact this
          have h128' : ¬ c < 128 := by omega
          clear HG
          go_wp2
          go_round
          case rel => exact ⟨3, by omega, rfl, A + c % 128 * 16384, by go_num, by omega, (by omega : A + c % 128 * 16384 < 2097152), HG1.out⟩
          case measure => simp [intOf]
        have h128' : c < 128 := by omega
        have hm : ¬ 2147483647 < A + c % 128 * 16384 := by omega
        by_cases hz : c = 0
        · subst hz
          have HG1 : Hid (gn xs t = (0, -1)) := by have := HG.out; rw [dec_bad h128' (.inl ⟨rfl, by omega⟩)] at this; exact this
          clear HG
          go_wp2
          go_ret2
          exact ⟨ret_pair HG1.out, rfl⟩
        · have hz' : (c == 0) = false := by simpa using hz
          have HG1 : Hid (gn xs t = (A + c % 128 * 16384, (t : Int) + 2 + 1)) := by have := HG.out; rw [dec_ok h128' (by omega)] at this; exact this
          clear HG
          go_wp2
          go_ret2
          exact ⟨ret_pair (by rw [HG1.out]), rfl⟩
      · have hA1' : A < 2097152 := hA1.out
        have hck := hc (t + 3) (by omega)
        obtain ⟨hr0, hr1⟩ := rng_at hr.rng (t + 3) (by have := hr.len; omega)
        have hd := drop_at xs (t + 3) n hr.len (by omega)
        have HG : Hid (gn xs t = dec 2 3 A 2097152 (xs.getD (t + 3) 0 :: xs.drop (t + 4)) t) := by rw [← hd]; exact hG
        obtain ⟨c, hcc⟩ : ∃ c, c = xs.getD (t + 3) 0 := ⟨_, rfl⟩
        rw [← hcc] at hck hr0 hr1 HG
        clear hcc hd hG hc
        have hck' : w.cell? ⟨b, o + t + 3, none⟩ = some (.int .u8 c) := by rw [Nat.add_assoc]; exact hck
        have ha := and127 c hr0 hr1
        have ho : bits .or .i64 A (c % 128 * 2097152) = A + c % 128 * 2097152 := or_join 21 A _ (by omega) (by omega) (by omega) hA0 (by omega) (by omega)
        clear hck
        by_cases h128 : 128 ≤ c
        · have HG1 : Hid (gn xs t = dec 1 4 (A + c % 128 * 2097152) 268435456 (xs.drop (t + 4)) t) := by have := HG.out; rw [dec_go h128] at this; exact this
          have h128' : ¬ c < 128 := by omega
          clear HG
          go_wp2
          go_round
          case rel => exact ⟨4, by omega, rfl, A + c % 128 * 2097152, by go_num, by omega, (by omega : A + c % 128 * 2097152 < 268435456), HG1.out⟩
          case measure => simp [intOf]
        have h128' : c < 128 := by omega
        have hm : ¬ 2147483647 < A + c % 128 * 2097152 := by omega
        by_cases hz : c = 0
        · subst hz
          have HG1 : Hid (gn xs t = (0, -1)) := by have := HG.out; rw [dec_bad h128' (.inl ⟨rfl, by omega⟩)] at this; exact this
          clear HG
          go_wp2
          go_ret2
          exact ⟨ret_pair HG1.out, rfl⟩
        · have hz' : (c == 0) = false := by simpa using hz
          have HG1 : Hid (gn xs t = (A + c % 128 * 2097152, (t : Int) + 3 + 1)) := by have := HG.out; rw [dec_ok h128' (by omega)] at this; exact this
          clear HG
          go_wp2
          go_ret2
          exact ⟨ret_pair (by rw [HG1.out]), rfl⟩
      · have hA1' : A < 268435456 := hA1.out
        have hck := hc (t + 4) (by omega)
        obtain ⟨hr0, hr1⟩ := rng_at hr.rng (t + 4) (by have := hr.len; omega)
        have hd := drop_at xs (t + 4) n hr.len (by omega)
        have HG : Hid (gn xs t = dec 1 4 A 268435456 (xs.getD (t + 4) 0 :: xs.drop (t + 5)) t) := by rw [← hd]; exact hG
        obtain ⟨c, hcc⟩ : ∃ c, c = xs.getD (t + 4) 0 := ⟨_, rfl⟩
        rw [← hcc] at hck hr0 hr1 HG
        clear hcc hd hG hc
        have hck' : w.cell? ⟨b, o + t + 4, none⟩ = some (.int .u8 c) := by rw [Nat.add_assoc]; exact hck
        have ha := and127 c hr0 hr1
        have ho : bits .or .i64 A (c % 128 * 268435456) = A + c % 128 * 268435456 := or_join 28 A _ (by omega) (by omega) (by omega) hA0 (by omega) (by omega)
        clear hck
        by_cases h128 : 128 ≤ c
        · have HG1 : Hid (gn xs t = dec 0 5 (A + c % 128 * 268435456) 34359738368 (xs.drop (t + 5)) t) := by have := HG.out; rw [dec_go h128] at this; exact this
          have h128' : ¬ c < 128 := by omega
          clear HG
          go_wp2
          go_round
          case rel => exact ⟨5, by omega, rfl, A + c % 128 * 268435456, by go_num, by omega, (by omega : A + c % 128 * 268435456 < 34359738368), HG1.out⟩
          case measure => simp [intOf]
        have h128' : c < 128 := by omega
        by_cases hm : 2147483647 < A + c % 128 * 268435456
        · have HG1 : Hid (gn xs t = (0, -1)) := by have := HG.out; rw [dec_bad h128' (.inr hm)] at this; exact this
          clear HG
          have hz' : (c == 0) = false := by simp; omega
          go_wp2
          go_ret2
          exact ⟨ret_pair HG1.out, rfl⟩
        by_cases hz : c = 0
        · subst hz
          have HG1 : Hid (gn xs t = (0, -1)) := by have := HG.out; rw [dec_bad h128' (.inl ⟨rfl, by omega⟩)] at this; exact this
          clear HG
          go_wp2
          go_ret2
          exact ⟨ret_pair HG1.out, rfl⟩
        · have hz' : (c == 0) = false := by simpa using hz
          have HG1 : Hid (gn xs t = (A + c % 128 * 268435456, (t : Int) + 4 + 1)) := by have := HG.out; rw [dec_ok h128' (by omega)] at this; exact this
          clear HG
          go_wp2
          go_ret2
          exact ⟨ret_pair (by rw [HG1.out]), rfl⟩
    · have HG1 : Hid (gn xs t = (0, -1)) := by
        have h := hG.out
        by_cases e : k = 5
        · subst e; exact h
        · rw [List.drop_of_length_le (by have := hr.len; omega), dec_nil] at h
          exact h
      clear hG HC
      go_wp2
      go_ret2
      exact ⟨ret_pair HG1.out, rfl⟩


set_option maxHeartbeats 1000000 in
theorem iGet (a : Option Addr) (n cap : Nat) (xs : List Int) (t : Int) (w : World) (hr : Rd w a n xs) (hn : n ≤ 2097152) (hcap : n ≤ cap) (hcap2 : cap ≤ 9223372036854775807) (ht1 : t ≤ 9223372036854775807) :
    Calls Try.prog 6 #[.slice a n cap, .int .i64 t] w fun e w' => e = .returned (pairV (gn xs t)) ∧ w' = w := by
  by_cases h0 : t < 0
  · have HG : Hid (gn xs t = (0, -1)) := gn_neg xs t h0
    go_enter Try.func6, Try.ntmps6
    go_wp2
    go_ret2
    exact ⟨ret_pair HG.out, rfl⟩
  · obtain ⟨t, rfl⟩ := Int.eq_ofNat_of_zero_le (show 0 ≤ t by omega)
    by_cases ht : t < n
    · obtain ⟨b, o, rfl, _, _⟩ := hr.pos (by omega)
      by_cases h5 : n ≤ t + 5
      · exact iGet_a b o n cap xs t w hr hn hcap hcap2 ht h5
      · exact iGet_b b o n cap xs t w hr hn hcap hcap2 ht (by omega)
    · have HG : Hid (gn xs t = (0, -1)) := gn_past xs t (by have := hr.len; omega)
      have h0' : ¬ ((t : Int) < 0) := by omega
      have hge : (n : Int) ≤ (t : Int) := by omega
      go_enter Try.func6, Try.ntmps6
      go_wp2
      go_ret2
      exact ⟨ret_pair HG.out, rfl⟩

end Go.Proofs.Ytbkifmbkmjjbnab
