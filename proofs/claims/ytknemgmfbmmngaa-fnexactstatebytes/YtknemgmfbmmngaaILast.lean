/- The contract of the program's lastsOk. -/
import Derived.Test.YtknemgmfbmmngaaISess
namespace Go.Proofs.Ytknemgmfbmmngaa
open Go.RowKit

/-- What is last at i may be there. -/
def LastAt (idx : Int) (ss : List DLast) (i : Nat) : Prop := ∀ s, ss[i]? = some s → 0 ≤ s.client ∧ s.client ≤ 3 ∧ 1 ≤ s.req ∧ s.req ≤ 1000000 ∧ 0 ≤ s.code ∧ s.code ≤ 5 ∧ 1 ≤ s.index ∧ s.index ≤ idx ∧ ∀ p, 0 < i → ss[i - 1]? = some p → p.client < s.client
def LastP (idx : Int) (ss : List DLast) : Prop := ss.length ≤ 4 ∧ ∀ i, i < ss.length → LastAt idx ss i

/-- The least client that comes next. -/
def leastC (ss : List DLast) (k : Nat) : Int := match ss[k - 1]? with | some p => if k = 0 then 0 else p.client + 1 | none => 0

theorem lastAt_iff {idx : Int} {ss : List DLast} {k : Nat} {s : DLast} (hs : ss[k]? = some s) (hall : ∀ j, j < k → LastAt idx ss j) :
    LastAt idx ss k ↔ (inB s.client (leastC ss k) 3 = true ∧ inB s.req 1 1000000 = true ∧ inB s.code 0 5 = true ∧ inB s.index 1 idx = true) := by
  unfold inB
  simp only [Bool.and_eq_true, decide_eq_true_eq]
  constructor
  · intro h
    obtain ⟨a1, a2, a3, a4, a5, a6, a7, a8, a9⟩ := h s hs
    refine ⟨⟨?_, a2⟩, ⟨a3, a4⟩, ⟨a5, a6⟩, a7, a8⟩
    unfold leastC
    split
    · rename_i p hp
      by_cases j0 : k = 0
      · rw [if_pos j0]; exact a1
      · rw [if_neg j0]
        have := a9 p (by omega) hp
        omega
    · exact a1
  · rintro ⟨⟨b1, b2⟩, ⟨b3, b4⟩, ⟨b5, b6⟩, b7, b8⟩ s' hs'
    rw [hs] at hs'
    cases hs'
    refine ⟨?_, b2, b3, b4, b5, b6, b7, b8, fun p hj0 hp => ?_⟩
    · unfold leastC at b1
      split at b1
      · rename_i p hp
        by_cases j0 : k = 0
        · rw [if_pos j0] at b1; exact b1
        · rw [if_neg j0] at b1
          have := (hall (k - 1) (by omega) p hp).1
          omega
      · exact b1
    · unfold leastC at b1
      rw [hp] at b1
      simp only [show ¬ k = 0 by omega, if_false] at b1
      omega

set_option maxHeartbeats 1000000 in
theorem lastsOkV (rv tv lov sv lv : Value) (idx : Int) (ss : List DLast) (w : World) (h : VLasts w lv ss) :
    Calls Try.prog 60 #[.agg #[.int .i64 idx, rv, tv, lov, sv, lv]] w fun e w' => e = .returned (.bool (tB (LastP idx ss))) ∧ Below w.heap.size w w' := by
  have hE : ∀ w : World, ∀ o, Ext w (w.alloc o) := fun w o => World.grownBy_alloc _ _ _
  have hB : ∀ w : World, ∀ o, Below w.heap.size w (w.alloc o) := fun w o => (Below.refl _ w).alloc (Nat.le_refl _) _
  obtain ⟨C, ⟨a, cap, rfl, h1, h2, h3⟩, hC⟩ := h
  have HC : Hid (∀ (i : Nat) (r : DLast), ss[i]? = some r → C i 0 = .int .i64 r.client ∧ C i 1 = .int .i64 r.req ∧ C i 2 = .int .i64 r.code ∧ C i 3 = .int .i64 r.index) := hC
  clear hC
  obtain ⟨n, hn⟩ : ∃ n, n = ss.length := ⟨_, rfl⟩
  rw [← hn] at h1 h3 ⊢
  have HN : Hid (n = ss.length) := hn
  clear hn
  unfold maxLen at h2
  by_cases h8 : (4 : Int) < n
  · have HK : Hid (tB (LastP idx ss) = false) := tB_false (fun h => by have := h.1; have := HN.out; omega)
    go_enter Try.func60, Try.ntmps60
    go_wp2
    go_ret
    exact ⟨by rw [HK.out]; rfl, hB _ _⟩
  have H3 : Hid (0 < n → ∃ b o, a = some ⟨b, o, none⟩ ∧ b < w.heap.size ∧ ∀ i, i < n → ∀ j, j < 4 → w.cell? ⟨b, o + i * 4 + j, none⟩ = some (C i j)) := h3
  clear h3
  go_enter Try.func60, Try.ntmps60
  go_wp2
  generalize hW : w.alloc _ = W
  have HW : Hid (Below w.heap.size w W ∧ Ext w W) := by rw [← hW]; exact ⟨hB _ _, hE _ _⟩
  have hq0 : W.cell? ⟨w.heap.size, 0, none⟩ = some (.int .i64 idx) := by rw [← hW]; exact (at_block (heap_alloc_new w _) 0 _ rfl).1
  clear hW
  go_loopw [3, 13] (fun l i wr => ∃ k : Nat, k ≤ n ∧ i = .int .i64 k ∧ l = .int .i64 (leastC ss k) ∧ Ext W wr ∧ Below w.heap.size w wr ∧ Hid (∀ j, j < k → LastAt idx ss j)) (fun _ i _ => n - (intOf i).toNat)
  case atStart => exact ⟨0, Nat.zero_le _, rfl, by simp [leastC]; split <;> rfl, Ext.re _, HW.out.1, fun j hj => absurd hj (by omega)⟩
  case round =>
    obtain ⟨k, hk, rfl, rfl, hx, hb, hall⟩ := hrel
    by_cases hlt : k < n
    · obtain ⟨b, o, rfl, hbl, hc⟩ := H3.out (by omega)
      obtain ⟨s, hs⟩ : ∃ s, ss[k]? = some s := ⟨_, List.getElem?_eq_getElem (by have := HN.out; omega)⟩
      obtain ⟨e0, e1, e2, e3⟩ := HC.out k s hs
      have hg := World.grownBy.cell hx hq0 (by simp)
      have c0 := World.grownBy.cell (HW.out.2.tr hx) (hc k hlt 0 (by omega)) (by simp)
      have c1 := World.grownBy.cell (HW.out.2.tr hx) (hc k hlt 1 (by omega)) (by simp)
      have c2 := World.grownBy.cell (HW.out.2.tr hx) (hc k hlt 2 (by omega)) (by simp)
      have c3 := World.grownBy.cell (HW.out.2.tr hx) (hc k hlt 3 (by omega)) (by simp)
      rw [e0, Nat.add_zero] at c0
      rw [e1] at c1
      rw [e2] at c2
      rw [e3] at c3
      have hga : ∀ ob, (wr.alloc ob).cell? ⟨w.heap.size, 0, none⟩ = some (.int .i64 idx) := fun ob => World.grownBy.cell (hE wr ob) hg (by simp)
      clear hc e0 e1 e2 e3
      have hlt' : (k : Int) < (n : Int) := by omega
      have hx2 : ∀ ob, Ext W (wr.alloc ob) := fun ob => hx.tr (hE _ _)
      have hb2 : ∀ ob, Below w.heap.size w (wr.alloc ob) := fun ob => hb.alloc hb.size _
      have hiff := lastAt_iff hs hall.out
      by_cases hin : inB s.client (leastC ss k) 3 = true ∧ inB s.req 1 1000000 = true ∧ inB s.code 0 5 = true ∧ inB s.index 1 idx = true
      · have hat := hiff.2 hin
        have HA : Hid (∀ j, j < k + 1 → LastAt idx ss j) := fun j hj => by
          by_cases e : j = k
          · subst e; exact hat
          · exact hall.out j (by omega)
        have HL : Hid (leastC ss (k + 1) = s.client + 1) := by
          unfold Hid leastC
          rw [Nat.add_sub_cancel, hs]
          simp
        have hcl : s.client ≤ 3 := (hat s hs).2.1
        have hcl0 : 0 ≤ s.client := (hat s hs).1
        obtain ⟨i1, i2, i3, i4⟩ := hin
        clear hall hiff hat
        go_wp2_with (go_at_call 56; refine (withinV _ _ _ _).mono ?_; rintro e w2 ⟨rfl, rfl⟩; first | rw [i1] | rw [i2] | rw [i3] | rw [i4])
        go_roundw
        case rel => exact ⟨k + 1, by omega, by go_num, by rw [HL.out], hx2 _, hb2 _, HA⟩
        case measure => simp [intOf]; omega
      · have HK : Hid (tB (LastP idx ss) = false) := tB_false (fun h => hin (hiff.1 (h.2 k (by have := HN.out; omega))))
        clear hall hiff
        obtain ⟨i1, h1⟩ : ∃ c, inB s.client (leastC ss k) 3 = c := ⟨_, rfl⟩
        obtain ⟨i2, h2⟩ : ∃ c, inB s.req 1 1000000 = c := ⟨_, rfl⟩
        obtain ⟨i3, h3⟩ : ∃ c, inB s.code 0 5 = c := ⟨_, rfl⟩
        obtain ⟨i4, h4⟩ : ∃ c, inB s.index 1 idx = c := ⟨_, rfl⟩
        rw [h1, h2, h3, h4] at hin
        cases i1
        · clear hin
          go_wp2_with (go_at_call 56; refine (withinV _ _ _ _).mono ?_; rintro e w2 ⟨rfl, rfl⟩; first | rw [h1] | rw [h2] | rw [h3] | rw [h4])
          go_ret
          exact ⟨by rw [HK.out]; rfl, hb2 _⟩
        cases i2
        · clear hin
          go_wp2_with (go_at_call 56; refine (withinV _ _ _ _).mono ?_; rintro e w2 ⟨rfl, rfl⟩; first | rw [h1] | rw [h2] | rw [h3] | rw [h4])
          go_ret
          exact ⟨by rw [HK.out]; rfl, hb2 _⟩
        cases i3
        · clear hin
          go_wp2_with (go_at_call 56; refine (withinV _ _ _ _).mono ?_; rintro e w2 ⟨rfl, rfl⟩; first | rw [h1] | rw [h2] | rw [h3] | rw [h4])
          go_ret
          exact ⟨by rw [HK.out]; rfl, hb2 _⟩
        cases i4
        · clear hin
          go_wp2_with (go_at_call 56; refine (withinV _ _ _ _).mono ?_; rintro e w2 ⟨rfl, rfl⟩; first | rw [h1] | rw [h2] | rw [h3] | rw [h4])
          go_ret
          exact ⟨by rw [HK.out]; rfl, hb2 _⟩
        exact absurd ⟨rfl, rfl, rfl, rfl⟩ hin
    · have hkn : k = n := by omega
      subst hkn
      have HK : Hid (tB (LastP idx ss) = true) := tB_true ⟨by have := HN.out; omega, fun i hi => hall.out i (by have := HN.out; omega)⟩
      clear hall
      go_wp2
      go_ret
      exact ⟨by rw [HK.out]; rfl, hb⟩

end Go.Proofs.Ytknemgmfbmmngaa
