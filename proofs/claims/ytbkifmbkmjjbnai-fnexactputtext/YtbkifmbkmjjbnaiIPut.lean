/- Contracts of the program's PutNum, PutText and NumLen and of the specification's PutText and NumLen. -/
import Derived.Test.YtbkifmbkmjjbnaiNumB
import Derived.Test.YtbkifmbkmjjbnaiConc
namespace Go.Proofs.Ytbkifmbkmjjbnai
open Go.RowKit

theorem rd_take {w : World} {g : Nat} {cs : Array Value} {ds : List Int} {k : Nat} {t : TypeId} (hcs : cs.toList = B8 ds) (hk : k ≤ ds.length) (hr : ∀ x ∈ ds, 0 ≤ x ∧ x ≤ 255)
    (hg : w.heap[g]? = some (.cells cs t (0, 0))) : Rd w (some ⟨g, 0, none⟩) k (ds.take k) := by
  refine ⟨by simp; omega, fun i hi => ⟨g, 0, rfl, ?_⟩, fun x hx => hr x (List.mem_of_mem_take hx)⟩
  rw [Nat.zero_add, cell_of_row w g i cs t (0, 0) hg]
  have : cs[i]? = (B8 ds)[i]? := by rw [← hcs]; simp
  rw [this]
  simp [List.getD, hi, show i < ds.length by omega]

/-- The bytes of a text behind others: its length's, and its own; none where it is too long. -/
def textL (xs ys : List Int) : List Int := if ys.length ≤ 20 then xs ++ numL ys.length ++ ys else xs

/-- Two lists, three lists, as 'cat' has them. -/
def two {α : Type} (a b : α) : Nat → α := fun j => if j = 0 then a else b
def three {α : Type} (a b c : α) : Nat → α := fun j => if j = 0 then a else if j = 1 then b else c

theorem cat_two (x y : List Int) : cat (two x y) 2 = x ++ y := by simp [cat, two]
theorem cat_three (x y z : List Int) : cat (three x y z) 3 = x ++ y ++ z := by simp [cat, three]

theorem ow_base {w : World} {base base' : Nat} {v : Value} {xs : List Int} (h : Ow w base v xs) (hb : base' ≤ base) : Ow w base' v xs := by
  refine ⟨h.1, ?_⟩
  rcases h.2 with h2 | ⟨g, cap, cur, hv, hg, r⟩
  · exact .inl h2
  · exact .inr ⟨g, cap, cur, hv, Nat.le_trans hb hg, r⟩

theorem sl5 (g k : Nat) (hk : k ≤ 5) (w : World) :
    (Instr.sliceAt 35 (.pointer (some ⟨g, 0, none⟩)) none (some (.int .i64 (k : Int))) none).run Try.prog w = .ok (.slice (some ⟨g, 0, none⟩) k 5) w := by
  have h5 : ((k : Int)) ≤ 5 := by omega
  simp [Instr.sliceAt, Instr.sureAddr, run_underlying Try.underlying35, Instr.sliceBounds, run_sliceBound, h5, Addr.add]

set_option maxHeartbeats 2000000 in
theorem iPut (a : Option Addr) (n cap : Nat) (xs : List Int) (q : Int) (w : World) (hr : Rd w a n xs) (hn : n ≤ 2097152) :
    Calls Try.prog 10 #[.slice a n cap, .int .i64 q] w fun e w' => ∃ v, e = .returned v ∧ Ow w' w.heap.size v (xs ++ numL q) ∧ Below w.heap.size w w' := by
  have hlen := numL_len q
  have hsl := fun g => sl5 g (numL q).length hlen
  go_enter Try.func10, Try.ntmps10
  go_wp2_with fail
  refine (nb q w).mono ?_
  rintro e w1 ⟨d0, d1, d2, d3, d4, rfl, htake, hrng, hb1⟩
  have hr1 : Rd w1 a n xs := hr.below hb1 (Nat.le_refl _)
  have HT : Hid ([d0, d1, d2, d3, d4].take (numL q).length = numL q) := htake
  have HS := hb1.size
  clear htake
  go_wp2_with fail
  have hg0 : ∀ o, ((w1.alloc (.cells #[.int .u8 d0, .int .u8 d1, .int .u8 d2, .int .u8 d3, .int .u8 d4] 35)).alloc o).heap[w1.heap.size]? = some (.cells #[.int .u8 d0, .int .u8 d1, .int .u8 d2, .int .u8 d3, .int .u8 d4] 35 (0, 0)) := fun o => by
    rw [Below.heap_alloc _ _ _ (by simp), heap_alloc_new]
  refine (conc (w1.heap.size + 1) 2 2 (two a (some ⟨w1.heap.size, 0, none⟩)) (two n (numL q).length) (two cap 5) (two xs ([d0, d1, d2, d3, d4].take (numL q).length)) _ (by decide) ?_ ?_ ?_).mono ?_
  · intro j hj
    match j, hj with
    | 0, _ => simp [two]
    | 1, _ => simp [two]
  · intro j hj
    match j, hj with
    | 0, _ => exact hr1.grown ⟨rfl, rfl, rfl, by simp; omega, fun k hk _ => by rw [Below.heap_alloc _ _ _ (by simp; omega), Below.heap_alloc _ _ _ hk]⟩
    | 1, _ => exact rd_take (cs := #[.int .u8 d0, .int .u8 d1, .int .u8 d2, .int .u8 d3, .int .u8 d4]) (ds := [d0, d1, d2, d3, d4]) rfl (by exact hlen) hrng (hg0 _)
  · rw [cat_two, HT.out]
    simp [hr.len]
    omega
  · rintro e w2 ⟨v, rfl, hown, hb2⟩
    rw [cat_two, HT.out] at hown
    go_wp2
    go_ret
    refine ⟨_, rfl, ?_, ?_⟩
    · exact ow_base hown (by simp; omega)
    · exact ((hb1.alloc HS _).alloc (by simp; omega) _).trans (hb2.mono (by simp; omega))

set_option maxHeartbeats 2000000 in
theorem iPutT (a a' : Option Addr) (n cap n' cap' : Nat) (xs ys : List Int) (w : World) (hr : Rd w a n xs) (hr' : Rd w a' n' ys) (hn : n ≤ 2097152) (hn' : n' ≤ 2097152) :
    Calls Try.prog 17 #[.slice a n cap, .slice a' n' cap'] w fun e w' => ∃ v, e = .returned v ∧ Ow w' w.heap.size v (textL xs ys) ∧ Below w.heap.size w w' := by
  have hlen := numL_len (n' : Int)
  have hsl := fun g => sl5 g (numL (n' : Int)).length hlen
  by_cases h20 : 20 < n'
  · have HX : Hid (textL xs ys = xs) := by unfold Hid textL; rw [if_neg (by have := hr'.len; omega)]
    have h20' : (20 : Int) < (n' : Int) := by omega
    clear hlen hsl
    go_enter Try.func17, Try.ntmps17
    go_wp2_with (go_at_call 24; refine (clone a n cap xs _ hr hn).mono ?_; rintro e w1 ⟨v, rfl, hown, hb1⟩)
    go_ret
    exact ⟨_, rfl, by rw [HX.out]; exact hown, hb1⟩
  · have HX : Hid (textL xs ys = xs ++ numL n' ++ ys) := by unfold Hid textL; rw [if_pos (by have := hr'.len; omega), hr'.len]
    have h20' : ¬ (20 : Int) < (n' : Int) := by omega
    go_enter Try.func17, Try.ntmps17
    go_wp2_with fail
    refine (nb n' w).mono ?_
    rintro e w1 ⟨d0, d1, d2, d3, d4, rfl, htake, hrng, hb1⟩
    have hr1 : Rd w1 a n xs := hr.below hb1 (Nat.le_refl _)
    have hr1' : Rd w1 a' n' ys := hr'.below hb1 (Nat.le_refl _)
    have HT : Hid ([d0, d1, d2, d3, d4].take (numL (n' : Int)).length = numL n') := htake
    have HS := hb1.size
    clear htake
    go_wp2_with fail
    have hg0 : ∀ o, ((w1.alloc (.cells #[.int .u8 d0, .int .u8 d1, .int .u8 d2, .int .u8 d3, .int .u8 d4] 35)).alloc o).heap[w1.heap.size]? = some (.cells #[.int .u8 d0, .int .u8 d1, .int .u8 d2, .int .u8 d3, .int .u8 d4] 35 (0, 0)) := fun o => by
      rw [Below.heap_alloc _ _ _ (by simp), heap_alloc_new]
    refine (conc (w1.heap.size + 1) 3 3 (three a (some ⟨w1.heap.size, 0, none⟩) a') (three n (numL (n' : Int)).length n') (three cap 5 cap') (three xs ([d0, d1, d2, d3, d4].take (numL (n' : Int)).length) ys) _ (by decide) ?_ ?_ ?_).mono ?_
    · intro j hj
      match j, hj with
      | 0, _ => simp [three]
      | 1, _ => simp [three]
      | 2, _ => simp [three]
    · intro j hj
      match j, hj with
      | 0, _ => exact hr1.grown ⟨rfl, rfl, rfl, by simp; omega, fun k hk _ => by rw [Below.heap_alloc _ _ _ (by simp; omega), Below.heap_alloc _ _ _ hk]⟩
      | 1, _ => exact rd_take (cs := #[.int .u8 d0, .int .u8 d1, .int .u8 d2, .int .u8 d3, .int .u8 d4]) (ds := [d0, d1, d2, d3, d4]) rfl (by exact hlen) hrng (hg0 _)
      | 2, _ => exact hr1'.grown ⟨rfl, rfl, rfl, by simp; omega, fun k hk _ => by rw [Below.heap_alloc _ _ _ (by simp; omega), Below.heap_alloc _ _ _ hk]⟩
    · rw [cat_three, HT.out]
      simp [hr.len, hr'.len]
      omega
    · rintro e w2 ⟨v, rfl, hown, hb2⟩
      rw [cat_three, HT.out] at hown
      go_wp2
      go_ret
      refine ⟨_, rfl, ?_, ?_⟩
      · rw [HX.out]
        exact ow_base hown (by simp; omega)
      · exact ((hb1.alloc HS _).alloc (by simp; omega) _).trans (hb2.mono (by simp; omega))

set_option maxHeartbeats 2000000 in
theorem sPutT (a a' : Option Addr) (n cap n' cap' : Nat) (xs ys : List Int) (w : World) (hr : Rd w a n xs) (hr' : Rd w a' n' ys) (hn : n ≤ 2097152) (hn' : n' ≤ 2097152) :
    Calls Try.prog 16 #[.slice a n cap, .slice a' n' cap'] w fun e w' => ∃ v, e = .returned v ∧ Ow w' w.heap.size v (textL xs ys) ∧ Below w.heap.size w w' := by
  have hlen := numL_len (n' : Int)
  by_cases h20 : 20 < n'
  · have HX : Hid (textL xs ys = xs) := by unfold Hid textL; rw [if_neg (by have := hr'.len; omega)]
    have h20' : (20 : Int) < (n' : Int) := by omega
    go_enter Try.func16, Try.ntmps16
    go_wp2_with (at_builtin; refine wpList_append_bytes _ rfl (.tmp 8) (.tmp 9) 22 rfl w.heap.size info5 Try.underlying22 _ [] rfl (ow_empty w) a n cap xs rfl (hr.grown (World.grownBy_alloc _ _ _)) (by simp; omega) (by simp) ?_; intro v1 w1 hown1 hg1)
    go_ret
    refine ⟨_, rfl, by rw [HX.out]; exact hown1, ?_⟩
    exact below_own ((Below.refl _ _).alloc (Nat.le_refl _) _) (by simp) (ow_empty w) hg1
  · have HX : Hid (textL xs ys = xs ++ numL n' ++ ys) := by unfold Hid textL; rw [if_pos (by have := hr'.len; omega), hr'.len]
    have h20' : ¬ (20 : Int) < (n' : Int) := by omega
    go_enter Try.func16, Try.ntmps16
    go_wp2_with fail
    refine (sPut a n cap xs n' w hr hn).mono ?_
    rintro e w1 ⟨v, rfl, hown, hb1⟩
    have hr1' : Rd w1 a' n' ys := hr'.below hb1 (Nat.le_refl _)
    have hl := hr.len
    go_wp2_with (at_builtin; refine wpList_append_bytes _ rfl (.tmp 14) (.tmp 15) 22 rfl w.heap.size info5 Try.underlying22 _ (xs ++ numL n') rfl hown a' n' cap' ys rfl hr1' (by simp; omega) hb1.size ?_; intro v1 w2 hown1 hg1)
    go_ret
    refine ⟨_, rfl, by rw [HX.out]; exact hown1, ?_⟩
    exact below_own hb1 hb1.size hown hg1

set_option maxHeartbeats 2000000 in
theorem iLen (q : Int) (w : World) : Calls Try.prog 21 #[.int .i64 q] w fun e w' => e = .returned (.int .i64 (numL q).length) ∧ Below w.heap.size w w' := by
  go_enter Try.func21, Try.ntmps21
  go_wp2_with (go_at_call 22; refine (nb q w).mono ?_; rintro e w1 ⟨d0, d1, d2, d3, d4, rfl, htake, hrng, hb1⟩)
  go_ret
  exact ⟨rfl, hb1.alloc hb1.size _⟩

set_option maxHeartbeats 2000000 in
theorem sLen (q : Int) (w : World) : Calls Try.prog 20 #[.int .i64 q] w fun e w' => e = .returned (.int .i64 (numL q).length) ∧ Below w.heap.size w w' := by
  go_enter Try.func20, Try.ntmps20
  go_wp2_with fail
  refine (sPut none 0 0 [] q w (Rd.nil w none) (by omega)).mono ?_
  rintro e w1 ⟨v, rfl, hown, hb1⟩
  obtain ⟨a, cap, rfl, _⟩ := hown.rd (numL_rng q)
  go_wp2
  go_ret
  exact ⟨rfl, hb1⟩

end Go.Proofs.Ytbkifmbkmjjbnai
