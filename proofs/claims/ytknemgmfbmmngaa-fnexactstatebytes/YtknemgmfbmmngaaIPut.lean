/- The contract of the program's PutNum. -/
import Derived.Test.YtknemgmfbmmngaaPut0
namespace Go.Proofs.Ytknemgmfbmmngaa
open Go.RowKit

set_option maxHeartbeats 2000000 in
theorem iPut (a : Option Addr) (n cap : Nat) (xs : List Int) (q : Int) (w : World) (hr : Rd w a n xs) (hn : n ≤ 2097152) :
    Calls Try.prog 61 #[.slice a n cap, .int .i64 q] w fun e w' => ∃ v, e = .returned v ∧ Ow w' w.heap.size v (xs ++ numL q) ∧ Below w.heap.size w w' := by
  have hlen := numL_len q
  have hsl := fun g => sl5 g (numL q).length hlen
  go_enter Try.func61, Try.ntmps61
  go_wp2_with fail
  refine (nb q w).mono ?_
  rintro e w1 ⟨d0, d1, d2, d3, d4, rfl, htake, hrng, hb1⟩
  have hr1 : Rd w1 a n xs := hr.below hb1 (Nat.le_refl _)
  have HT : Hid ([d0, d1, d2, d3, d4].take (numL q).length = numL q) := htake
  have HS := hb1.size
  clear htake
  go_wp2_with fail
  have hg0 : ∀ o, ((w1.alloc (.cells #[.int .u8 d0, .int .u8 d1, .int .u8 d2, .int .u8 d3, .int .u8 d4] 110)).alloc o).heap[w1.heap.size]? = some (.cells #[.int .u8 d0, .int .u8 d1, .int .u8 d2, .int .u8 d3, .int .u8 d4] 110 (0, 0)) := fun o => by
    rw [Below.heap_alloc _ _ _ (by simp), heap_alloc_new]
  refine (conc (w1.heap.size + 1) 2 2 (two a (some ⟨w1.heap.size, 0, none⟩)) (two n (numL q).length) (two cap 5) (two xs ([d0, d1, d2, d3, d4].take (numL q).length)) _ (by decide) ?_ ?_ ?_).mono ?_
  · intro j hj
    match j, hj with
    | 0, _ => simp [two]
    | 1, _ => simp [two]
  · intro j hj
    match j, hj with
    | 0, _ => exact hr1.grown ⟨rfl, rfl, rfl, by simp; omega, fun k hk _ => by rw [Below.heap_alloc _ _ _ (by simp; omega), Below.heap_alloc _ _ _ hk]⟩
    | 1, _ => exact rd_take (cs := #[.int .u8 d0, .int .u8 d1, .int .u8 d2, .int .u8 d3, .int .u8 d4]) (ds := [d0, d1, d2, d3, d4]) rfl (by exact hlen) hrng (hg0 _)
  · rw [cat_two, HT.out]
    simp [hr.len]
    omega
  · rintro e w2 ⟨v, rfl, hown, hb2⟩
    rw [cat_two, HT.out] at hown
    go_wp2
    go_ret
    refine ⟨_, rfl, ?_, ?_⟩
    · exact ow_base hown (by simp; omega)
    · exact ((hb1.alloc HS _).alloc (by simp; omega) _).trans (hb2.mono (by simp; omega))

end Go.Proofs.Ytknemgmfbmmngaa
