/- The exact statement of ReplyText: the specification's contract, and the walk of the law itself. -/
import Derived.Test.YtpdkbkimkidecaaDoorRi8
import Derived.Test.YtpdkbkimkidecaaDoorOmK
import Derived.Test.YtpdkbkimkidecaaDoorValE
import Derived.Test.YtpdkbkimkidecaaDoorMark
namespace Go.Proofs.YtpdkbkimkidecaaDoor
open Go.RowKit

set_option maxHeartbeats 1000000 in
theorem idx8V (n : Int) (w : World) : Calls Tryd.prog 10 #[.int .i64 n] w fun e w' => e = .returned (.bool (inB n 0 1000000)) ∧ w' = w := by
  by_cases h0 : 0 ≤ n
  · by_cases h1 : n ≤ 1000000
    · have HK : Hid (inB n 0 1000000 = true) := by unfold Hid inB; simp [h0, h1]
      go_enter Tryd.func10, Tryd.ntmps10
      go_wp2
      go_ret
      exact ⟨by rw [HK.out]; simp, rfl⟩
    · have HK : Hid (inB n 0 1000000 = false) := by unfold Hid inB; simp [h1]
      have h1' : decide (n ≤ 1000000) = false := decide_eq_false h1
      go_enter Tryd.func10, Tryd.ntmps10
      go_wp2
      go_ret
      exact ⟨by rw [HK.out]; first | rfl | simp [h1], rfl⟩
  · have HK : Hid (inB n 0 1000000 = false) := by unfold Hid inB; simp [h0]
    have h0' : decide (0 ≤ n) = false := decide_eq_false h0
    go_enter Tryd.func10, Tryd.ntmps10
    go_wp2
    go_ret
    exact ⟨by rw [HK.out]; first | rfl | simp [h0], rfl⟩

set_option maxHeartbeats 1000000 in
theorem toReplyV (c i : Int) (w : World) : Calls Tryd.prog 5 #[.agg #[.int .i64 c, .int .i64 i]] w fun e w' => e = .returned (.agg #[.int .i64 c, .int .i64 i]) ∧ Below w.heap.size w w' := by
  have HB : Hid (∀ a b d, Below w.heap.size w (((w.alloc a).alloc b).alloc d)) := fun a b d => (((Below.refl _ w).alloc (Nat.le_refl _) _).alloc (by simp) _).alloc (by simp; omega) _
  go_enter Tryd.func5, Tryd.ntmps5
  go_wp2
  exact bodyPost_ret (v := .agg #[.int .i64 c, .int .i64 i]) (by simp [results, Tryd.results5, go_sem]) rfl ⟨rfl, HB.out _ _ _⟩

set_option maxHeartbeats 2000000 in
theorem sReplyTextV (c i : Int) (w : World) : Calls Tryd.prog 4 #[.agg #[.int .i64 c, .int .i64 i]] w fun e w' => ∃ v, e = .returned v ∧ OwM w' w.heap.size v (replyTL c i) ∧ Below w.heap.size w w' := by
  have HA : Hid (∀ o, Below w.heap.size w (w.alloc o)) := fun o => (Below.refl _ w).alloc (Nat.le_refl _) _
  by_cases hc0 : c < 0
  · have HL : Hid (replyTL c i = []) := by
      show replyTL c i = []
      unfold replyTL
      rw [if_neg (by omega)]
    go_enter Tryd.func4, Tryd.ntmps4
    go_wp2
    go_ret
    exact ⟨_, rfl, .inl ⟨rfl, HL.out⟩, HA.out _⟩
  · by_cases hc5 : 5 < c
    · have HL : Hid (replyTL c i = []) := by
        show replyTL c i = []
        unfold replyTL
        rw [if_neg (by omega)]
      go_enter Tryd.func4, Tryd.ntmps4
      go_wp2
      go_ret
      exact ⟨_, rfl, .inl ⟨rfl, HL.out⟩, HA.out _⟩
    · cases hI : inB i 0 1000000
      · have HL : Hid (replyTL c i = []) := by
          show replyTL c i = []
          unfold replyTL
          rw [if_neg]
          intro h
          have : inB i 0 1000000 = true := by simp [inB]; exact h.2
          rw [hI] at this
          cases this
        go_enter Tryd.func4, Tryd.ntmps4
        go_wp2_with (go_at_call 10; refine (idx8V _ _).mono ?_; rintro e w5 ⟨rfl, e5⟩; have e6 := e5.symm; clear e5; subst e6; rw [hI])
        go_ret
        exact ⟨_, rfl, .inl ⟨rfl, HL.out⟩, HA.out _⟩
      · have hi : 0 ≤ i ∧ i ≤ 1000000 := by simpa [inB] using hI
        obtain ⟨k, rfl⟩ := Int.eq_ofNat_of_zero_le (show 0 ≤ c by omega)
        obtain ⟨j, rfl⟩ := Int.eq_ofNat_of_zero_le hi.1
        have HL : Hid (replyTL (k : Int) (j : Int) = replyL k j) := by
          show replyTL (k : Int) (j : Int) = _
          unfold replyTL
          rw [if_pos ⟨by omega, hi⟩, Int.toNat_natCast, Int.toNat_natCast]
        have hk : k < 6 := by omega
        have hj : j ≤ 1000000 := by omega
        go_enter Tryd.func4, Tryd.ntmps4
        go_wp2_with (first
          | (go_at_call 10; refine (idx8V _ _).mono ?_; rintro e w5 ⟨rfl, e5⟩; have e6 := e5.symm; clear e5; subst e6; rw [hI])
          | (go_at_call 11; refine (l8replyV k j hk hj _).mono ?_; rintro e w4 ⟨v4, rfl, o4, b4⟩))
        go_ret
        exact ⟨v4, rfl, by rw [HL.out]; exact o4.base (by simp), (HA.out _).trans (b4.mono (by simp))⟩

theorem replyTL_rng (c i : Int) : ∀ x ∈ replyTL c i, 0 ≤ x ∧ x ≤ 255 := by
  unfold replyTL
  split
  · rename_i h
    intro x hx
    rcases List.mem_append.1 hx with hx | hx
    · exact codeL_rng _ (by omega) x hx
    · rcases List.mem_cons.1 hx with rfl | hx
      · omega
      · exact decL_rng _ x hx
  · intro x hx; cases hx
theorem replyTL_len (c i : Int) : (replyTL c i).length ≤ 40 := by
  unfold replyTL
  split
  · rename_i h
    have h1 := codeL_len c.toNat (by omega)
    have h2 := decL_len i.toNat (by omega)
    simp only [replyL, List.length_append, List.length_cons]
    omega
  · simp

set_option maxHeartbeats 4000000 in
theorem law_ReplyText (c i : Int) (w : World) (hN : NamesTab w) (hp : PowTab w.heap.size w) :
    Calls Tryd.prog 3 #[.agg #[.int .i64 c, .int .i64 i]] w fun e w' => e = .returned (.bool true) ∧ Below w.heap.size w w' := by
  have hyr := replyTL_rng c i
  have hyl := replyTL_len c i
  obtain ⟨ys, hys⟩ : ∃ ys, ys = replyTL c i := ⟨_, rfl⟩
  have HY : Hid (ys = replyTL c i) := hys
  rw [← hys] at hyr hyl
  clear hys
  have hyl2 : ys.length ≤ 2097152 := by omega
  have HN : Hid (∀ W, Below w.heap.size w W → NamesTab W ∧ PowTab W.heap.size W) := fun W b => ⟨hN.ext (ext_below b), Lib.tabBelow_of_tabIs (hp W b)⟩
  clear hN hp
  obtain ⟨V, hV⟩ : ∃ V, V = w.alloc (.cells #[.int .i64 c, .int .i64 i] 23) := ⟨_, rfl⟩
  have q : V.heap[w.heap.size]? = some (.cells #[.int .i64 c, .int .i64 i] 23 (0, 0)) := by rw [hV]; exact heap_alloc_new w _
  have bV : Below w.heap.size w V := by rw [hV]; exact (Below.refl _ w).alloc (Nat.le_refl _) _
  have sV : V.heap.size = w.heap.size + 1 := by rw [hV]; simp
  have SV : Hid (V.heap.size = w.heap.size + 1) := sV
  clear sV
  have HC : Hid (∀ W, Below V.heap.size V W → W.cell? ⟨w.heap.size, 0, none⟩ = some (.int .i64 c) ∧ W.cell? ⟨w.heap.size, 1, none⟩ = some (.int .i64 i)) := fun W b =>
    ⟨(at_block (below_blk b (by rw [SV.out]; omega) q) 0 _ rfl).1, (at_block (below_blk b (by rw [SV.out]; omega) q) 1 _ rfl).1⟩
  have HV := Lib.hid hV
  clear hV q
  go_enter Tryd.func3, Tryd.ntmps3
  go_upto_region 1 with fail
  rw [← HV.out]
  clear HV
  obtain ⟨q0, q1⟩ := HC.out V (Below.refl _ _)
  go_wp2_with fail
  refine (toReplyV c i V).mono ?_
  rintro e w1 ⟨rfl, b1⟩
  have C1 : Below V.heap.size V w1 := b1
  clear q0 q1
  go_wp2_with fail
  refine (sReplyTextV c i w1).mono ?_
  rintro e w2 ⟨v2, rfl, o2, b2⟩
  rw [← HY.out] at o2
  have C2 := C1.trans (b2.mono C1.size)
  obtain ⟨q0, q1⟩ := HC.out w2 C2
  go_wp2_with fail
  refine (toReplyV c i w2).mono ?_
  rintro e w3 ⟨rfl, b3⟩
  have C3 := C2.trans (b3.mono C2.size)
  clear q0 q1
  obtain ⟨t1, t2⟩ := HN.out w3 (bV.trans (C3.mono bV.size))
  go_wp2_with fail
  refine (iReplyTextV c i w3 t1 t2).mono ?_
  rintro e w4 ⟨v4, rfl, o4, b4⟩
  rw [← HY.out] at o4
  clear t1 t2
  have C4 := C3.trans (b4.mono C3.size)
  have o2' : OwM w4 w1.heap.size v2 ys := (o2.ext (ext_below b3)).ext (ext_below b4)
  go_wp2_with fail
  refine (eqV_yes v4 v2 ys w4 (o4.rv hyr) (o2'.rv hyr) hyl2).mono ?_
  rintro e w5 ⟨rfl, q5, rfl⟩
  have C5 := below_drewN C4 q5
  go_wp2_with fail
  refine (markV w3.heap.size v4 ys 1 _ (o4.ext (ext_drewN w4 q5)) hyl2 (by omega) (by omega)).mono ?_
  rintro e w10 ⟨rfl, o10, g10⟩
  have C10 : Below V.heap.size V w10 := below_mark C5 C3.size (o4.ext (ext_drewN w4 q5)) C5.size g10
  have m2 : OwM w10 w1.heap.size v2 ys := (o2'.ext (ext_drewN w4 q5)).kept g10 (m_apart o2 b3.size o4.m)
  have hpos2 : ¬ (1 + (ys.length : Int)) < 0 := by omega
  go_wp2_with fail
  refine (heldV v4 ys.length 1 w10 (o10.rv (marks_rng _ _)) hyl2 (by omega) (by omega)).mono ?_
  rintro e w11 ⟨rfl, e11⟩
  have e12 := e11.symm
  clear e11
  subst e12
  obtain ⟨q0, q1⟩ := HC.out w10 C10
  go_wp2_with fail
  refine (toReplyV c i w10).mono ?_
  rintro e w12 ⟨rfl, b12⟩
  have C12 := C10.trans (b12.mono C10.size)
  clear q0 q1
  obtain ⟨t1, t2⟩ := HN.out w12 (bV.trans (C12.mono bV.size))
  go_wp2_with fail
  refine (iReplyTextV c i w12 t1 t2).mono ?_
  rintro e w13 ⟨v13, rfl, o13, b13⟩
  rw [← HY.out] at o13
  clear t1 t2
  have C13 := C12.trans (b13.mono C12.size)
  have x13 : Ext w10 w13 := (ext_below b12).tr (ext_below b13)
  go_wp2_with fail
  refine (eqV_yes v13 v2 ys w13 (o13.rv hyr) ((m2.ext x13).rv hyr) hyl2).mono ?_
  rintro e w14 ⟨rfl, q14, rfl⟩
  go_wp2_with fail
  refine (heldV v4 ys.length 1 _ (((o10.ext x13).ext (ext_drewN w13 q14)).rv (marks_rng _ _)) hyl2 (by omega) (by omega)).mono ?_
  rintro e w15 ⟨rfl, e15⟩
  have e16 := e15.symm
  clear e15
  subst e16
  go_wp2
  go_ret
  exact ⟨rfl, bV.trans ((below_drewN C13 q14).mono bV.size)⟩

end Go.Proofs.YtpdkbkimkidecaaDoor
