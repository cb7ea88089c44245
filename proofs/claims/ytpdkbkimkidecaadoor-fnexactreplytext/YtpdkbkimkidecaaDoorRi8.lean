/- The contracts of the program's numberToken and ReplyText. -/
import Derived.Test.YtpdkbkimkidecaaDoorPw8
import Derived.Test.YtpdkbkimkidecaaDoorRs8
import Derived.Deep.RegionHeld3
namespace Go.Proofs.YtpdkbkimkidecaaDoor
open Go.RowKit

set_option maxHeartbeats 1000000 in
theorem numTokV (n : Int) (w : World) : Calls Tryd.prog 14 #[.int .i64 n] w fun e w' => e = .returned (.agg #[.int .i64 2, .int .i64 0, .slice none 0 0, .int .i64 n]) ∧ Below w.heap.size w w' := by
  go_enter Tryd.func14, Tryd.ntmps14
  go_wp2
  exact bodyPost_ret (v := .agg #[.int .i64 2, .int .i64 0, .slice none 0 0, .int .i64 n]) (by simp [results, Tryd.results14, go_sem]) rfl ⟨rfl, (Below.refl _ w).alloc (Nat.le_refl _) _⟩

/-- What a reply reads as, nothing if it may not be. -/
def replyTL (c i : Int) : List Int := if (0 ≤ c ∧ c ≤ 5) ∧ 0 ≤ i ∧ i ≤ 1000000 then replyL c.toNat i.toNat else []

/-- The program's table of what codes are called. -/
def NamesTab (w : World) : Prop := ∀ k, k < 6 → w.cell? ⟨0, k, none⟩ = some (.string (codeS k))

theorem NamesTab.ext {w w' : World} (h : NamesTab w) (x : Ext w w') : NamesTab w' := fun k hk => World.grownBy.cell x (h k hk) (by simp)

/-- Tokens that a literal lays in a new row. -/
theorem toks_one (w : World) (k : DTok) (t : TypeId) (ht : t ≠ 5) : VToks (w.alloc (.cells #[.int .i64 (k.kind : Int), .int .i64 k.pos, k.tv, .int .i64 (k.n : Int)] t)) (.slice (some ⟨w.heap.size, 0, none⟩) 1 1) [k] := by
  refine .inr ⟨w.heap.size, 1, _, t, (0, 0), rfl, heap_alloc_new w _, ht, fun i x hx => ?_⟩
  have hi : i = 0 := by
    have := (List.getElem?_eq_some_iff.1 hx).1
    simpa using this
  subst hi
  simp at hx
  subst hx
  exact ⟨rfl, rfl, rfl, rfl⟩

theorem tok_num (B : Nat) (w : World) (n : Nat) (hn : n ≤ 9223372036854775807) : TokOk B w ⟨2, 0, .slice none 0 0, [], n⟩ :=
  ⟨Nat.le_refl 2, hn, Nat.zero_le _, fun _ _ => ⟨none, 0, rfl, Rd.nil _ _, Nat.le_refl _, Nat.zero_le _⟩⟩

theorem codeS_str (k : Nat) (h : k < 6) : Lib.strCells (codeS k) = B8 (codeL k) := by
  rcases lt6 h with rfl | rfl | rfl | rfl | rfl | rfl <;> rfl

theorem words_one (B k j : Nat) (hk : k < 6) (hj : j ≤ 1000000) (w1 : World) (hB : B ≤ w1.heap.size) (hp : PowTab B w1) :
    Calls Tryd.prog 13 #[.slice none 0 0, .string (codeS k), .slice (some ⟨w1.heap.size, 0, none⟩) 1 1] (w1.alloc (.cells #[.int .i64 2, .int .i64 0, .slice none 0 0, .int .i64 (j : Int)] 36)) fun e w' => ∃ v, e = .returned v ∧ Ow w' B v (codeL k ++ 32 :: decL j) ∧ Below B w1 w' := by
  have b1 : Below B w1 (w1.alloc (.cells #[.int .i64 2, .int .i64 0, .slice none 0 0, .int .i64 (j : Int)] 36)) := (Below.refl _ w1).alloc hB _
  have hc := codeL_len k hk
  refine (putWordsV B (.slice none 0 0) [] (codeS k) (codeL k) _ [⟨2, 0, .slice none 0 0, [], j⟩] _ (World.ownsRow_nil _ _ _ _) (Nat.le_trans hB b1.size) (by simp) (codeS_str k hk) (by omega) (toks_one w1 ⟨2, 0, .slice none 0 0, [], j⟩ 36 (by decide)) (by simp) ?_ (hp.on b1)).mono ?_
  · intro t ht
    simp only [List.mem_cons, List.not_mem_nil, or_false] at ht
    subst ht
    exact tok_num _ _ _ (by omega)
  · rintro e w' ⟨v, rfl, o, b⟩
    refine ⟨v, rfl, ?_, b1.trans b.below⟩
    simpa [toksL, tokL] using o

set_option maxHeartbeats 2000000 in
theorem iReplyTextV (c i : Int) (w : World) (hN : NamesTab w) (hp : PowTab w.heap.size w) : Calls Tryd.prog 6 #[.agg #[.int .i64 c, .int .i64 i]] w fun e w' => ∃ v, e = .returned v ∧ Ow w' w.heap.size v (replyTL c i) ∧ Below w.heap.size w w' := by
  have hE : ∀ W : World, ∀ o, Ext W (W.alloc o) := fun W o => World.grownBy_alloc _ _ _
  by_cases hc : 0 ≤ c ∧ c ≤ 5
  · by_cases hi : 0 ≤ i ∧ i ≤ 1000000
    · obtain ⟨k, rfl⟩ := Int.eq_ofNat_of_zero_le hc.1
      obtain ⟨j, rfl⟩ := Int.eq_ofNat_of_zero_le hi.1
      have hk : k < 6 := by omega
      have hk6 : (k : Int) < 6 := by omega
      have hj : j ≤ 1000000 := by omega
      have HL : Hid (replyTL (k : Int) (j : Int) = codeL k ++ 32 :: decL j) := by
        show replyTL (k : Int) (j : Int) = _
        unfold replyTL
        rw [if_pos ⟨hc, hi⟩, Int.toNat_natCast, Int.toNat_natCast]
        rfl
      have I1 : inB (k : Int) 0 5 = true := by simp [inB]; omega
      have I2 : inB (j : Int) 0 1000000 = true := by simp [inB]; omega
      have hg := hN k hk
      clear hc hi
      go_enter Tryd.func6, Tryd.ntmps6
      obtain ⟨V, hV⟩ : ∃ V, V = w.alloc (.cells #[.int .i64 (k : Int), .int .i64 (j : Int)] 26) := ⟨_, rfl⟩
      have q : V.heap[w.heap.size]? = some (.cells #[.int .i64 (k : Int), .int .i64 (j : Int)] 26 (0, 0)) := by rw [hV]; exact heap_alloc_new w _
      have bV : Below w.heap.size w V := by rw [hV]; exact (Below.refl _ w).alloc (Nat.le_refl _) _
      obtain ⟨q0, _⟩ := at_block q 0 _ rfl
      obtain ⟨q1, _⟩ := at_block q 1 _ rfl
      have gV := World.grownBy.cell (ext_below bV) hg (by simp)
      have HP : Hid (PowTab w.heap.size w) := hp
      have HV := Lib.hid hV
      clear hp hN hg q hV
      go_upto_region 1 with fail
      rw [← HV.out]
      go_upto_region 3 with (go_at_call 12; refine (withinV _ _ _ _).mono ?_; rintro e w5 ⟨rfl, e5⟩; have e6 := e5.symm; clear e5; subst e6; first | rw [I1] | rw [I2])
      clear HV
      have HC : Hid (∀ W, Below V.drew.heap.size V.drew W → W.cell? ⟨w.heap.size, 0, none⟩ = some (.int .i64 (k : Int)) ∧ W.cell? ⟨w.heap.size, 1, none⟩ = some (.int .i64 (j : Int)) ∧ W.cell? ⟨0, k, none⟩ = some (.string (codeS k)) ∧ Below w.heap.size w W) := fun W b =>
        ⟨World.grownBy.cell (ext_below b) q0 (by simp), World.grownBy.cell (ext_below b) q1 (by simp), World.grownBy.cell (ext_below b) gV (by simp), bV.drew.trans (b.mono bV.size)⟩
      go_region_with (first
        | (go_at_call 13; refine (words_one w.heap.size k j hk hj w1 B1.size (HP.out.on B1)).mono ?_; rintro e w4 ⟨v4, rfl, o4, b4⟩)
        | (go_at_call 14; refine (numTokV (j : Int) _).mono ?_; rintro e w1 ⟨rfl, b1⟩; obtain ⟨c0, c1, c2, B1⟩ := HC.out _ b1; have kc0 : ∀ o, (w1.alloc o).cell? ⟨w.heap.size, 0, none⟩ = some (.int .i64 (k : Int)) := (fun o => World.grownBy.cell (hE w1 o) c0 (by simp)); have kc2 : ∀ o, (w1.alloc o).cell? ⟨0, k, none⟩ = some (.string (codeS k)) := (fun o => World.grownBy.cell (hE w1 o) c2 (by simp))))
      all_goals
        go_wp2
        go_ret
        exact ⟨v4, rfl, by rw [HL.out]; exact o4, B1.trans b4⟩
    · have HL : Hid (replyTL c i = []) := by
        show replyTL c i = []
        unfold replyTL
        rw [if_neg (fun h => hi h.2)]
      have I1 : inB c 0 5 = true := by simp [inB]; omega
      have I2 : inB i 0 1000000 = false := by
        cases h : inB i 0 1000000
        · rfl
        · simp [inB] at h
          exact absurd h hi
      clear hc hi hp hN
      go_enter Tryd.func6, Tryd.ntmps6
      go_wp2_with (go_at_call 12; refine (withinV _ _ _ _).mono ?_; rintro e w5 ⟨rfl, e5⟩; have e6 := e5.symm; clear e5; subst e6; first | rw [I1] | rw [I2])
      go_ret
      exact ⟨_, rfl, by rw [HL.out]; exact World.ownsRow_nil _ _ _ _, (Below.refl _ w).alloc (Nat.le_refl _) _⟩
  · have HL : Hid (replyTL c i = []) := by
      show replyTL c i = []
      unfold replyTL
      rw [if_neg (fun h => hc h.1)]
    have I1 : inB c 0 5 = false := by
      cases h : inB c 0 5
      · rfl
      · simp [inB] at h
        exact absurd h hc
    clear hc hp hN
    go_enter Tryd.func6, Tryd.ntmps6
    go_wp2_with (go_at_call 12; refine (withinV _ _ _ _).mono ?_; rintro e w5 ⟨rfl, e5⟩; have e6 := e5.symm; clear e5; subst e6; rw [I1])
    go_ret
    exact ⟨_, rfl, by rw [HL.out]; exact World.ownsRow_nil _ _ _ _, (Below.refl _ w).alloc (Nat.le_refl _) _⟩

end Go.Proofs.YtpdkbkimkidecaaDoor
