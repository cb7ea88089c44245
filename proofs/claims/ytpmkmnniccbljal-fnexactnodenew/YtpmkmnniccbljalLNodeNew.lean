/- The exact statement of NodeNew: the walk, without a condition. -/
import Derived.Test.YtpmkmnniccbljalNnC
namespace Go.Proofs.Ytpmkmnniccbljal
open Go.RowKit

set_option maxHeartbeats 8000000 in
theorem law_new (i : Int) (n : Nat) (w : World) (hn1 : 1 ≤ n) (hn5 : n ≤ 5) (hi0 : 0 ≤ i) (hi1 : i < n) :
    Calls Try.prog 7 #[.int .i64 i, .int .i64 n] w fun e w' => e = .returned (.bool true) ∧ Below w.heap.size w w' := by
  go_enter Try.func7, Try.ntmps7
  go_wp2_with fail
  refine (sNodeNewV i n _ hn1 hn5 hi0 hi1).mono ?_
  rintro e w1 ⟨v0, rfl, hN0, b1⟩
  have HN0 : Hid (NewN w.heap.size w1 v0 i n) := hN0
  obtain ⟨gb0, gn0, gm0, rfl, hh0⟩ := hN0
  clear hh0
  unfold nodeV at HN0 ⊢
  go_wp2_with fail
  refine (iNodeNewV i n _ hn1 hn5 hi0 hi1).mono ?_
  rintro e w2 ⟨v1, rfl, hN1, b2⟩
  have hN1' : NewN (w1.heap.size + 1) w2 v1 i n := by simpa using hN1
  have HN1 : Hid (NewN (w1.heap.size + 1) w2 v1 i n) := hN1'
  clear hN1'
  obtain ⟨gb1, gn1, gm1, rfl, hh1⟩ := hN1
  clear hh1
  unfold nodeV at HN1 ⊢
  have HE0 : Hid (VNode w2 (.agg #[.int .i64 i, .int .i64 0, .int .i64 (-1), .slice none 0 0, .int .i64 0, .int .i64 0, .int .i64 (-1), .int .i64 0, .slice (some ⟨gb0, 0, none⟩) n n, .slice (some ⟨gn0, 0, none⟩) n n, .slice (some ⟨gm0, 0, none⟩) n n]) (newD i n)) := ((HN0.out.ext (World.grownBy_alloc w1 (.cells #[.int .i64 i, .int .i64 0, .int .i64 (-1), .slice none 0 0, .int .i64 0, .int .i64 0, .int .i64 (-1), .int .i64 0, .slice (some ⟨gb0, 0, none⟩) n n, .slice (some ⟨gn0, 0, none⟩) n n, .slice (some ⟨gm0, 0, none⟩) n n] 80 (0, 0)) none)).ext (ext_below b2)).v hn5
  have HN02 : Hid (NewN w.heap.size w2 (.agg #[.int .i64 i, .int .i64 0, .int .i64 (-1), .slice none 0 0, .int .i64 0, .int .i64 0, .int .i64 (-1), .int .i64 0, .slice (some ⟨gb0, 0, none⟩) n n, .slice (some ⟨gn0, 0, none⟩) n n, .slice (some ⟨gm0, 0, none⟩) n n]) i n) := (HN0.out.ext (World.grownBy_alloc w1 (.cells #[.int .i64 i, .int .i64 0, .int .i64 (-1), .slice none 0 0, .int .i64 0, .int .i64 0, .int .i64 (-1), .int .i64 0, .slice (some ⟨gb0, 0, none⟩) n n, .slice (some ⟨gn0, 0, none⟩) n n, .slice (some ⟨gm0, 0, none⟩) n n] 80 (0, 0)) none)).ext (ext_below b2)
  have HLT : Hid (gb0 < w1.heap.size ∧ gn0 < w1.heap.size ∧ gm0 < w1.heap.size) := by
    obtain ⟨a1, a2, a3, hv, x1, x2, x3, x4, x5, x6, y1, y2, y3⟩ := HN0.out
    simp only [nodeV, Value.agg.injEq, Array.mk.injEq, List.cons.injEq, Value.slice.injEq, Option.some.injEq, Addr.mk.injEq, and_true, true_and] at hv
    obtain ⟨rfl, rfl, rfl⟩ := hv
    exact ⟨(Array.getElem?_eq_some_iff.1 y1).1, (Array.getElem?_eq_some_iff.1 y2).1, (Array.getElem?_eq_some_iff.1 y3).1⟩
  have B2 : Below w.heap.size w w2 := (b1.alloc b1.size (.cells #[.int .i64 i, .int .i64 0, .int .i64 (-1), .slice none 0 0, .int .i64 0, .int .i64 0, .int .i64 (-1), .int .i64 0, .slice (some ⟨gb0, 0, none⟩) n n, .slice (some ⟨gn0, 0, none⟩) n n, .slice (some ⟨gm0, 0, none⟩) n n] 80 (0, 0))).trans (b2.mono (by have := b1.size; simp; omega))
  have P2 := below_blk b2 (by simp) (heap_alloc_new w1 (.cells #[.int .i64 i, .int .i64 0, .int .i64 (-1), .slice none 0 0, .int .i64 0, .int .i64 0, .int .i64 (-1), .int .i64 0, .slice (some ⟨gb0, 0, none⟩) n n, .slice (some ⟨gn0, 0, none⟩) n n, .slice (some ⟨gm0, 0, none⟩) n n] 80 (0, 0)))
  have z2 : w1.heap.size < w2.heap.size := by have := b2.size; simp at this; omega
  clear b2
  have Q2 := heap_alloc_new w2 (.cells #[.int .i64 i, .int .i64 0, .int .i64 (-1), .slice none 0 0, .int .i64 0, .int .i64 0, .int .i64 (-1), .int .i64 0, .slice (some ⟨gb1, 0, none⟩) n n, .slice (some ⟨gn1, 0, none⟩) n n, .slice (some ⟨gm1, 0, none⟩) n n] 80 (0, 0))
  have P2' := (Below.heap_alloc w2 (.cells #[.int .i64 i, .int .i64 0, .int .i64 (-1), .slice none 0 0, .int .i64 0, .int .i64 0, .int .i64 (-1), .int .i64 0, .slice (some ⟨gb1, 0, none⟩) n n, .slice (some ⟨gn1, 0, none⟩) n n, .slice (some ⟨gm1, 0, none⟩) n n] 80 (0, 0)) w1.heap.size z2).trans P2
  obtain ⟨p0, _⟩ := at_block P2' 0 _ rfl
  obtain ⟨p1, _⟩ := at_block P2' 1 _ rfl
  obtain ⟨p2, _⟩ := at_block P2' 2 _ rfl
  obtain ⟨p3, _⟩ := at_block P2' 3 _ rfl
  obtain ⟨p4, _⟩ := at_block P2' 4 _ rfl
  obtain ⟨p5, _⟩ := at_block P2' 5 _ rfl
  obtain ⟨p6, _⟩ := at_block P2' 6 _ rfl
  obtain ⟨p7, _⟩ := at_block P2' 7 _ rfl
  obtain ⟨p8, _⟩ := at_block P2' 8 _ rfl
  obtain ⟨p9, _⟩ := at_block P2' 9 _ rfl
  obtain ⟨p10, _⟩ := at_block P2' 10 _ rfl
  go_wp2_with fail
  refine (eqN _ _ (newD i n) _ ((HN1.out.v hn5).ext (World.grownBy_alloc w2 _ none)) (HE0.out.ext (World.grownBy_alloc w2 _ none)) (len_new i n hn5)).mono ?_
  rintro e w3 ⟨rfl, b3⟩
  have B3 : Below w.heap.size w w3 := (B2.alloc B2.size (.cells #[.int .i64 i, .int .i64 0, .int .i64 (-1), .slice none 0 0, .int .i64 0, .int .i64 0, .int .i64 (-1), .int .i64 0, .slice (some ⟨gb1, 0, none⟩) n n, .slice (some ⟨gn1, 0, none⟩) n n, .slice (some ⟨gm1, 0, none⟩) n n] 80 (0, 0))).trans (b3.mono (by have := B2.size; simp; omega))
  have P3 := below_blk b3 (by simp; omega) P2'
  have Q3 := below_blk b3 (by simp) Q2
  have z3 : w2.heap.size < w3.heap.size := by have := b3.size; simp at this; omega
  clear p0 p1 p2 p3 p4 p5 p6 p7 p8 p9 p10 P2 P2' Q2
  obtain ⟨p0, _⟩ := at_block P3 0 _ rfl
  obtain ⟨p1, _⟩ := at_block P3 1 _ rfl
  obtain ⟨p2, _⟩ := at_block P3 2 _ rfl
  obtain ⟨p3, _⟩ := at_block P3 3 _ rfl
  obtain ⟨p4, _⟩ := at_block P3 4 _ rfl
  obtain ⟨p5, _⟩ := at_block P3 5 _ rfl
  obtain ⟨p6, _⟩ := at_block P3 6 _ rfl
  obtain ⟨p7, _⟩ := at_block P3 7 _ rfl
  obtain ⟨p8, _⟩ := at_block P3 8 _ rfl
  obtain ⟨p9, _⟩ := at_block P3 9 _ rfl
  obtain ⟨p10, _⟩ := at_block P3 10 _ rfl
  obtain ⟨q0, _⟩ := at_block Q3 0 _ rfl
  obtain ⟨q1, _⟩ := at_block Q3 1 _ rfl
  obtain ⟨q2, _⟩ := at_block Q3 2 _ rfl
  obtain ⟨q3, _⟩ := at_block Q3 3 _ rfl
  obtain ⟨q4, _⟩ := at_block Q3 4 _ rfl
  obtain ⟨q5, _⟩ := at_block Q3 5 _ rfl
  obtain ⟨q6, _⟩ := at_block Q3 6 _ rfl
  obtain ⟨q7, _⟩ := at_block Q3 7 _ rfl
  obtain ⟨q8, _⟩ := at_block Q3 8 _ rfl
  obtain ⟨q9, _⟩ := at_block Q3 9 _ rfl
  obtain ⟨q10, _⟩ := at_block Q3 10 _ rfl
  have HY1 : Hid (w1.heap.size < gb1 ∧ w1.heap.size < gn1 ∧ w1.heap.size < gm1 ∧ gb1 ≠ gn1 ∧ gb1 ≠ gm1 ∧ gn1 ≠ gm1 ∧ gb1 < w2.heap.size ∧ gn1 < w2.heap.size ∧ gm1 < w2.heap.size ∧ w3.heap[gb1]? = some (.cells (List.replicate n (Value.bool false)).toArray 4 (0, 0)) ∧ w3.heap[gn1]? = some (.cells (List.replicate n (Value.int .i64 0)).toArray 3 (0, 0)) ∧ w3.heap[gm1]? = some (.cells (List.replicate n (Value.int .i64 0)).toArray 3 (0, 0))) := by
    obtain ⟨a1, a2, a3, hv, x1, x2, x3, x4, x5, x6, y1, y2, y3⟩ := HN1.out
    simp only [nodeV, Value.agg.injEq, Array.mk.injEq, List.cons.injEq, Value.slice.injEq, Option.some.injEq, Addr.mk.injEq, and_true, true_and] at hv
    obtain ⟨rfl, rfl, rfl⟩ := hv
    have l1 := (Array.getElem?_eq_some_iff.1 y1).1
    have l2 := (Array.getElem?_eq_some_iff.1 y2).1
    have l3 := (Array.getElem?_eq_some_iff.1 y3).1
    exact ⟨by omega, by omega, by omega, x4, x5, x6, l1, l2, l3, below_blk b3 (by simp; omega) ((Below.heap_alloc w2 _ _ l1).trans y1), below_blk b3 (by simp; omega) ((Below.heap_alloc w2 _ _ l2).trans y2), below_blk b3 (by simp; omega) ((Below.heap_alloc w2 _ _ l3).trans y3)⟩
  have HY0 : Hid (gb0 < w1.heap.size ∧ gn0 < w1.heap.size ∧ gm0 < w1.heap.size ∧ w.heap.size ≤ gb0 ∧ w.heap.size ≤ gn0 ∧ w.heap.size ≤ gm0 ∧ gb0 ≠ gn0 ∧ gb0 ≠ gm0 ∧ gn0 ≠ gm0 ∧ w3.heap[gb0]? = some (.cells (List.replicate n (Value.bool false)).toArray 4 (0, 0)) ∧ w3.heap[gn0]? = some (.cells (List.replicate n (Value.int .i64 0)).toArray 3 (0, 0)) ∧ w3.heap[gm0]? = some (.cells (List.replicate n (Value.int .i64 0)).toArray 3 (0, 0))) := by
    obtain ⟨a1, a2, a3, hv, x1, x2, x3, x4, x5, x6, y1, y2, y3⟩ := HN02.out
    simp only [nodeV, Value.agg.injEq, Array.mk.injEq, List.cons.injEq, Value.slice.injEq, Option.some.injEq, Addr.mk.injEq, and_true, true_and] at hv
    obtain ⟨rfl, rfl, rfl⟩ := hv
    obtain ⟨l1, l2, l3⟩ := HLT.out
    exact ⟨l1, l2, l3, x1, x2, x3, x4, x5, x6, below_blk b3 (by simp; omega) ((Below.heap_alloc w2 _ _ (by omega)).trans y1), below_blk b3 (by simp; omega) ((Below.heap_alloc w2 _ _ (by omega)).trans y2), below_blk b3 (by simp; omega) ((Below.heap_alloc w2 _ _ (by omega)).trans y3)⟩
  clear b3
  go_wp2_with fail
  obtain ⟨u1, u2, u3, u4, u5, u6, u7, u8, u9, v1, v2, v3⟩ := HY1.out
  refine (markNew i n gb1 gn1 gm1 w3 hn5 u4 u5 u6 v1 v2 v3).mono ?_
  rintro e w4 ⟨rfl, hMk, hkeep, hBel, hsz⟩
  obtain ⟨t1, t2, t3, t4, t5, t6, t7, t8, t9, s1, s2, s3⟩ := HY0.out
  have bs := b1.size
  have B4 : Below w.heap.size w w4 := hBel _ _ B3 (by omega) (by omega) (by omega)
  have P4 := (hkeep w1.heap.size (by omega) (by omega) (by omega) (by omega)).trans P3
  have Q4 := (hkeep w2.heap.size (by omega) (by omega) (by omega) (by omega)).trans Q3
  have HN04 : Hid (NewN w.heap.size w4 (.agg #[.int .i64 i, .int .i64 0, .int .i64 (-1), .slice none 0 0, .int .i64 0, .int .i64 0, .int .i64 (-1), .int .i64 0, .slice (some ⟨gb0, 0, none⟩) n n, .slice (some ⟨gn0, 0, none⟩) n n, .slice (some ⟨gm0, 0, none⟩) n n]) i n) := ⟨gb0, gn0, gm0, rfl, t4, t5, t6, t7, t8, t9, (hkeep gb0 (by omega) (by omega) (by omega) (by omega)).trans s1, (hkeep gn0 (by omega) (by omega) (by omega) (by omega)).trans s2, (hkeep gm0 (by omega) (by omega) (by omega) (by omega)).trans s3⟩
  have HMK : Hid (Mkd w4 n gb1 gn1 gm1) := hMk
  have z4 : w2.heap.size < w4.heap.size := by omega
  clear u1 u2 u3 u4 u5 u6 u7 u8 u9 v1 v2 v3 t1 t2 t3 t4 t5 t6 t7 t8 t9 s1 s2 s3 hMk hkeep hBel hsz p0 p1 p2 p3 p4 p5 p6 p7 p8 p9 p10 q0 q1 q2 q3 q4 q5 q6 q7 q8 q9 q10 P3 Q3
  obtain ⟨p0, _⟩ := at_block P4 0 _ rfl
  obtain ⟨p1, _⟩ := at_block P4 1 _ rfl
  obtain ⟨p2, _⟩ := at_block P4 2 _ rfl
  obtain ⟨p3, _⟩ := at_block P4 3 _ rfl
  obtain ⟨p4, _⟩ := at_block P4 4 _ rfl
  obtain ⟨p5, _⟩ := at_block P4 5 _ rfl
  obtain ⟨p6, _⟩ := at_block P4 6 _ rfl
  obtain ⟨p7, _⟩ := at_block P4 7 _ rfl
  obtain ⟨p8, _⟩ := at_block P4 8 _ rfl
  obtain ⟨p9, _⟩ := at_block P4 9 _ rfl
  obtain ⟨p10, _⟩ := at_block P4 10 _ rfl
  obtain ⟨q0, _⟩ := at_block Q4 0 _ rfl
  obtain ⟨q1, _⟩ := at_block Q4 1 _ rfl
  obtain ⟨q2, _⟩ := at_block Q4 2 _ rfl
  obtain ⟨q3, _⟩ := at_block Q4 3 _ rfl
  obtain ⟨q4, _⟩ := at_block Q4 4 _ rfl
  obtain ⟨q5, _⟩ := at_block Q4 5 _ rfl
  obtain ⟨q6, _⟩ := at_block Q4 6 _ rfl
  obtain ⟨q7, _⟩ := at_block Q4 7 _ rfl
  obtain ⟨q8, _⟩ := at_block Q4 8 _ rfl
  obtain ⟨q9, _⟩ := at_block Q4 9 _ rfl
  obtain ⟨q10, _⟩ := at_block Q4 10 _ rfl
  have r0 : (0 : Int) ≤ 1 + (n : Int) + (n : Int) + (n : Int) := by omega
  go_wp2_with fail
  refine (heldNew i n gb1 gn1 gm1 w4 hn5 HMK.out).mono ?_
  rintro e w5 ⟨rfl, b5⟩
  have B5 : Below w.heap.size w w5 := B4.trans (b5.mono B4.size)
  have P5 := below_blk b5 (by omega) P4
  have Q5 := below_blk b5 (by omega) Q4
  have z5 : w2.heap.size < w5.heap.size := by have := b5.size; omega
  clear p0 p1 p2 p3 p4 p5 p6 p7 p8 p9 p10 q0 q1 q2 q3 q4 q5 q6 q7 q8 q9 q10 P4 Q4
  go_wp2_with fail
  refine (iNodeNewV i n _ hn1 hn5 hi0 hi1).mono ?_
  rintro e w6 ⟨v2, rfl, hN2, b6⟩
  have HN2 : Hid (NewN w5.heap.size w6 v2 i n) := hN2
  obtain ⟨gb2, gn2, gm2, rfl, hh2⟩ := hN2
  clear hh2
  unfold nodeV at HN2 ⊢
  have B6 : Below w.heap.size w w6 := B5.trans (b6.mono B5.size)
  have P6 := below_blk b6 (by omega) P5
  have Q6 := below_blk b6 (by omega) Q5
  have z6 : w2.heap.size < w6.heap.size := by have := b6.size; omega
  have R6 := heap_alloc_new w6 (.cells #[.int .i64 i, .int .i64 0, .int .i64 (-1), .slice none 0 0, .int .i64 0, .int .i64 0, .int .i64 (-1), .int .i64 0, .slice (some ⟨gb2, 0, none⟩) n n, .slice (some ⟨gn2, 0, none⟩) n n, .slice (some ⟨gm2, 0, none⟩) n n] 80 (0, 0))
  have P6' := (Below.heap_alloc w6 (.cells #[.int .i64 i, .int .i64 0, .int .i64 (-1), .slice none 0 0, .int .i64 0, .int .i64 0, .int .i64 (-1), .int .i64 0, .slice (some ⟨gb2, 0, none⟩) n n, .slice (some ⟨gn2, 0, none⟩) n n, .slice (some ⟨gm2, 0, none⟩) n n] 80 (0, 0)) w1.heap.size (by omega)).trans P6
  obtain ⟨p0, _⟩ := at_block P6' 0 _ rfl
  obtain ⟨p1, _⟩ := at_block P6' 1 _ rfl
  obtain ⟨p2, _⟩ := at_block P6' 2 _ rfl
  obtain ⟨p3, _⟩ := at_block P6' 3 _ rfl
  obtain ⟨p4, _⟩ := at_block P6' 4 _ rfl
  obtain ⟨p5, _⟩ := at_block P6' 5 _ rfl
  obtain ⟨p6, _⟩ := at_block P6' 6 _ rfl
  obtain ⟨p7, _⟩ := at_block P6' 7 _ rfl
  obtain ⟨p8, _⟩ := at_block P6' 8 _ rfl
  obtain ⟨p9, _⟩ := at_block P6' 9 _ rfl
  obtain ⟨p10, _⟩ := at_block P6' 10 _ rfl
  go_wp2_with fail
  have E04 := HN04.out.ext (ext_below b5)
  have E05 := E04.ext (ext_below b6)
  refine (eqN _ _ (newD i n) _ ((HN2.out.v hn5).ext (World.grownBy_alloc w6 _ none)) ((E05.v hn5).ext (World.grownBy_alloc w6 _ none)) (len_new i n hn5)).mono ?_
  rintro e w7 ⟨rfl, b7⟩
  have B7 : Below w.heap.size w w7 := (B6.alloc B6.size (.cells #[.int .i64 i, .int .i64 0, .int .i64 (-1), .slice none 0 0, .int .i64 0, .int .i64 0, .int .i64 (-1), .int .i64 0, .slice (some ⟨gb2, 0, none⟩) n n, .slice (some ⟨gn2, 0, none⟩) n n, .slice (some ⟨gm2, 0, none⟩) n n] 80 (0, 0))).trans (b7.mono (by have := B6.size; simp; omega))
  have Q7 := below_blk b7 (by simp; omega) ((Below.heap_alloc w6 (.cells #[.int .i64 i, .int .i64 0, .int .i64 (-1), .slice none 0 0, .int .i64 0, .int .i64 0, .int .i64 (-1), .int .i64 0, .slice (some ⟨gb2, 0, none⟩) n n, .slice (some ⟨gn2, 0, none⟩) n n, .slice (some ⟨gm2, 0, none⟩) n n] 80 (0, 0)) w2.heap.size z6).trans Q6)
  clear p0 p1 p2 p3 p4 p5 p6 p7 p8 p9 p10
  obtain ⟨q0, _⟩ := at_block Q7 0 _ rfl
  obtain ⟨q1, _⟩ := at_block Q7 1 _ rfl
  obtain ⟨q2, _⟩ := at_block Q7 2 _ rfl
  obtain ⟨q3, _⟩ := at_block Q7 3 _ rfl
  obtain ⟨q4, _⟩ := at_block Q7 4 _ rfl
  obtain ⟨q5, _⟩ := at_block Q7 5 _ rfl
  obtain ⟨q6, _⟩ := at_block Q7 6 _ rfl
  obtain ⟨q7, _⟩ := at_block Q7 7 _ rfl
  obtain ⟨q8, _⟩ := at_block Q7 8 _ rfl
  obtain ⟨q9, _⟩ := at_block Q7 9 _ rfl
  obtain ⟨q10, _⟩ := at_block Q7 10 _ rfl
  have HM7 : Hid (Mkd w7 n gb1 gn1 gm1) := (((HMK.out.ext (ext_below b5)).ext (ext_below b6)).ext (World.grownBy_alloc w6 (.cells #[.int .i64 i, .int .i64 0, .int .i64 (-1), .slice none 0 0, .int .i64 0, .int .i64 0, .int .i64 (-1), .int .i64 0, .slice (some ⟨gb2, 0, none⟩) n n, .slice (some ⟨gn2, 0, none⟩) n n, .slice (some ⟨gm2, 0, none⟩) n n] 80 (0, 0)) none)).ext (ext_below b7)
  go_wp2_with fail
  refine (heldNew i n gb1 gn1 gm1 w7 hn5 HM7.out).mono ?_
  rintro e w8 ⟨rfl, b8⟩
  have B8 := B7.trans (b8.mono B7.size)
  go_wp2
  go_ret
  exact ⟨rfl, B8⟩

set_option maxHeartbeats 8000000 in
theorem law_zero (i s : Int) (w : World) (h : srvB i s = false) :
    Calls Try.prog 7 #[.int .i64 i, .int .i64 s] w fun e w' => e = .returned (.bool true) ∧ Below w.heap.size w w' := by
  go_enter Try.func7, Try.ntmps7
  go_wp2_with fail
  refine (sNodeNewZ i s _ h).mono ?_
  rintro e w1 ⟨rfl, b1⟩
  unfold zeroV
  go_wp2_with fail
  refine (iNodeNewZ i s _ h).mono ?_
  rintro e w2 ⟨rfl, b2⟩
  unfold zeroV
  have B2 : Below w.heap.size w w2 := (b1.alloc b1.size (.cells #[.int .i64 0, .int .i64 0, .int .i64 0, .slice none 0 0, .int .i64 0, .int .i64 0, .int .i64 0, .int .i64 0, .slice none 0 0, .slice none 0 0, .slice none 0 0] 80 (0, 0))).trans (b2.mono (by have := b1.size; simp; omega))
  have P2 := below_blk b2 (by simp) (heap_alloc_new w1 (.cells #[.int .i64 0, .int .i64 0, .int .i64 0, .slice none 0 0, .int .i64 0, .int .i64 0, .int .i64 0, .int .i64 0, .slice none 0 0, .slice none 0 0, .slice none 0 0] 80 (0, 0)))
  have z2 : w1.heap.size < w2.heap.size := by have := b2.size; simp at this; omega
  clear b2
  have Q2 := heap_alloc_new w2 (.cells #[.int .i64 0, .int .i64 0, .int .i64 0, .slice none 0 0, .int .i64 0, .int .i64 0, .int .i64 0, .int .i64 0, .slice none 0 0, .slice none 0 0, .slice none 0 0] 80 (0, 0))
  have P2' := (Below.heap_alloc w2 (.cells #[.int .i64 0, .int .i64 0, .int .i64 0, .slice none 0 0, .int .i64 0, .int .i64 0, .int .i64 0, .int .i64 0, .slice none 0 0, .slice none 0 0, .slice none 0 0] 80 (0, 0)) w1.heap.size z2).trans P2
  obtain ⟨p0, _⟩ := at_block P2' 0 _ rfl
  obtain ⟨p1, _⟩ := at_block P2' 1 _ rfl
  obtain ⟨p2, _⟩ := at_block P2' 2 _ rfl
  obtain ⟨p3, _⟩ := at_block P2' 3 _ rfl
  obtain ⟨p4, _⟩ := at_block P2' 4 _ rfl
  obtain ⟨p5, _⟩ := at_block P2' 5 _ rfl
  obtain ⟨p6, _⟩ := at_block P2' 6 _ rfl
  obtain ⟨p7, _⟩ := at_block P2' 7 _ rfl
  obtain ⟨p8, _⟩ := at_block P2' 8 _ rfl
  obtain ⟨p9, _⟩ := at_block P2' 9 _ rfl
  obtain ⟨p10, _⟩ := at_block P2' 10 _ rfl
  go_wp2_with fail
  refine (eqN _ _ zeroD _ (zero_v _) (zero_v _) len_zero).mono ?_
  rintro e w3 ⟨rfl, b3⟩
  have B3 : Below w.heap.size w w3 := (B2.alloc B2.size (.cells #[.int .i64 0, .int .i64 0, .int .i64 0, .slice none 0 0, .int .i64 0, .int .i64 0, .int .i64 0, .int .i64 0, .slice none 0 0, .slice none 0 0, .slice none 0 0] 80 (0, 0))).trans (b3.mono (by have := B2.size; simp; omega))
  have P3 := below_blk b3 (by simp; omega) P2'
  have Q3 := below_blk b3 (by simp) Q2
  have z3 : w2.heap.size < w3.heap.size := by have := b3.size; simp at this; omega
  clear p0 p1 p2 p3 p4 p5 p6 p7 p8 p9 p10 P2 P2' Q2
  obtain ⟨p0, _⟩ := at_block P3 0 _ rfl
  obtain ⟨p1, _⟩ := at_block P3 1 _ rfl
  obtain ⟨p2, _⟩ := at_block P3 2 _ rfl
  obtain ⟨p3, _⟩ := at_block P3 3 _ rfl
  obtain ⟨p4, _⟩ := at_block P3 4 _ rfl
  obtain ⟨p5, _⟩ := at_block P3 5 _ rfl
  obtain ⟨p6, _⟩ := at_block P3 6 _ rfl
  obtain ⟨p7, _⟩ := at_block P3 7 _ rfl
  obtain ⟨p8, _⟩ := at_block P3 8 _ rfl
  obtain ⟨p9, _⟩ := at_block P3 9 _ rfl
  obtain ⟨p10, _⟩ := at_block P3 10 _ rfl
  obtain ⟨q0, _⟩ := at_block Q3 0 _ rfl
  obtain ⟨q1, _⟩ := at_block Q3 1 _ rfl
  obtain ⟨q2, _⟩ := at_block Q3 2 _ rfl
  obtain ⟨q3, _⟩ := at_block Q3 3 _ rfl
  obtain ⟨q4, _⟩ := at_block Q3 4 _ rfl
  obtain ⟨q5, _⟩ := at_block Q3 5 _ rfl
  obtain ⟨q6, _⟩ := at_block Q3 6 _ rfl
  obtain ⟨q7, _⟩ := at_block Q3 7 _ rfl
  obtain ⟨q8, _⟩ := at_block Q3 8 _ rfl
  obtain ⟨q9, _⟩ := at_block Q3 9 _ rfl
  obtain ⟨q10, _⟩ := at_block Q3 10 _ rfl
  clear b3
  go_wp2_with fail
  refine (markZero w3).mono ?_
  rintro e w4 ⟨rfl, b4⟩
  have B4 : Below w.heap.size w w4 := B3.trans (b4.mono B3.size)
  have P4 := below_blk b4 (by omega) P3
  have Q4 := below_blk b4 (by omega) Q3
  have z4 : w2.heap.size < w4.heap.size := by have := b4.size; omega
  clear b4 p0 p1 p2 p3 p4 p5 p6 p7 p8 p9 p10 q0 q1 q2 q3 q4 q5 q6 q7 q8 q9 q10 P3 Q3
  obtain ⟨p0, _⟩ := at_block P4 0 _ rfl
  obtain ⟨p1, _⟩ := at_block P4 1 _ rfl
  obtain ⟨p2, _⟩ := at_block P4 2 _ rfl
  obtain ⟨p3, _⟩ := at_block P4 3 _ rfl
  obtain ⟨p4, _⟩ := at_block P4 4 _ rfl
  obtain ⟨p5, _⟩ := at_block P4 5 _ rfl
  obtain ⟨p6, _⟩ := at_block P4 6 _ rfl
  obtain ⟨p7, _⟩ := at_block P4 7 _ rfl
  obtain ⟨p8, _⟩ := at_block P4 8 _ rfl
  obtain ⟨p9, _⟩ := at_block P4 9 _ rfl
  obtain ⟨p10, _⟩ := at_block P4 10 _ rfl
  obtain ⟨q0, _⟩ := at_block Q4 0 _ rfl
  obtain ⟨q1, _⟩ := at_block Q4 1 _ rfl
  obtain ⟨q2, _⟩ := at_block Q4 2 _ rfl
  obtain ⟨q3, _⟩ := at_block Q4 3 _ rfl
  obtain ⟨q4, _⟩ := at_block Q4 4 _ rfl
  obtain ⟨q5, _⟩ := at_block Q4 5 _ rfl
  obtain ⟨q6, _⟩ := at_block Q4 6 _ rfl
  obtain ⟨q7, _⟩ := at_block Q4 7 _ rfl
  obtain ⟨q8, _⟩ := at_block Q4 8 _ rfl
  obtain ⟨q9, _⟩ := at_block Q4 9 _ rfl
  obtain ⟨q10, _⟩ := at_block Q4 10 _ rfl
  go_wp2_with fail
  refine (heldZero w4).mono ?_
  rintro e w5 ⟨rfl, b5⟩
  have B5 : Below w.heap.size w w5 := B4.trans (b5.mono B4.size)
  have P5 := below_blk b5 (by omega) P4
  have Q5 := below_blk b5 (by omega) Q4
  have z5 : w2.heap.size < w5.heap.size := by have := b5.size; omega
  clear p0 p1 p2 p3 p4 p5 p6 p7 p8 p9 p10 q0 q1 q2 q3 q4 q5 q6 q7 q8 q9 q10 P4 Q4
  go_wp2_with fail
  refine (iNodeNewZ i s _ h).mono ?_
  rintro e w6 ⟨rfl, b6⟩
  unfold zeroV
  have B6 : Below w.heap.size w w6 := B5.trans (b6.mono B5.size)
  have P6 := below_blk b6 (by omega) P5
  have Q6 := below_blk b6 (by omega) Q5
  have z6 : w2.heap.size < w6.heap.size := by have := b6.size; omega
  have R6 := heap_alloc_new w6 (.cells #[.int .i64 0, .int .i64 0, .int .i64 0, .slice none 0 0, .int .i64 0, .int .i64 0, .int .i64 0, .int .i64 0, .slice none 0 0, .slice none 0 0, .slice none 0 0] 80 (0, 0))
  have P6' := (Below.heap_alloc w6 (.cells #[.int .i64 0, .int .i64 0, .int .i64 0, .slice none 0 0, .int .i64 0, .int .i64 0, .int .i64 0, .int .i64 0, .slice none 0 0, .slice none 0 0, .slice none 0 0] 80 (0, 0)) w1.heap.size (by omega)).trans P6
  obtain ⟨p0, _⟩ := at_block P6' 0 _ rfl
  obtain ⟨p1, _⟩ := at_block P6' 1 _ rfl
  obtain ⟨p2, _⟩ := at_block P6' 2 _ rfl
  obtain ⟨p3, _⟩ := at_block P6' 3 _ rfl
  obtain ⟨p4, _⟩ := at_block P6' 4 _ rfl
  obtain ⟨p5, _⟩ := at_block P6' 5 _ rfl
  obtain ⟨p6, _⟩ := at_block P6' 6 _ rfl
  obtain ⟨p7, _⟩ := at_block P6' 7 _ rfl
  obtain ⟨p8, _⟩ := at_block P6' 8 _ rfl
  obtain ⟨p9, _⟩ := at_block P6' 9 _ rfl
  obtain ⟨p10, _⟩ := at_block P6' 10 _ rfl
  go_wp2_with fail
  refine (eqN _ _ zeroD _ (zero_v _) (zero_v _) len_zero).mono ?_
  rintro e w7 ⟨rfl, b7⟩
  have B7 : Below w.heap.size w w7 := (B6.alloc B6.size (.cells #[.int .i64 0, .int .i64 0, .int .i64 0, .slice none 0 0, .int .i64 0, .int .i64 0, .int .i64 0, .int .i64 0, .slice none 0 0, .slice none 0 0, .slice none 0 0] 80 (0, 0))).trans (b7.mono (by have := B6.size; simp; omega))
  have Q7 := below_blk b7 (by simp; omega) ((Below.heap_alloc w6 (.cells #[.int .i64 0, .int .i64 0, .int .i64 0, .slice none 0 0, .int .i64 0, .int .i64 0, .int .i64 0, .int .i64 0, .slice none 0 0, .slice none 0 0, .slice none 0 0] 80 (0, 0)) w2.heap.size z6).trans Q6)
  clear p0 p1 p2 p3 p4 p5 p6 p7 p8 p9 p10
  obtain ⟨q0, _⟩ := at_block Q7 0 _ rfl
  obtain ⟨q1, _⟩ := at_block Q7 1 _ rfl
  obtain ⟨q2, _⟩ := at_block Q7 2 _ rfl
  obtain ⟨q3, _⟩ := at_block Q7 3 _ rfl
  obtain ⟨q4, _⟩ := at_block Q7 4 _ rfl
  obtain ⟨q5, _⟩ := at_block Q7 5 _ rfl
  obtain ⟨q6, _⟩ := at_block Q7 6 _ rfl
  obtain ⟨q7, _⟩ := at_block Q7 7 _ rfl
  obtain ⟨q8, _⟩ := at_block Q7 8 _ rfl
  obtain ⟨q9, _⟩ := at_block Q7 9 _ rfl
  obtain ⟨q10, _⟩ := at_block Q7 10 _ rfl
  go_wp2_with fail
  refine (heldZero w7).mono ?_
  rintro e w8 ⟨rfl, b8⟩
  have B8 := B7.trans (b8.mono B7.size)
  go_wp2
  go_ret
  exact ⟨rfl, B8⟩

end Go.Proofs.Ytpmkmnniccbljal
