/- The program's server of a node, and the term at a place. -/
import Derived.Test.YtdcbajejgphlgaaNdI
namespace Go.Proofs.Ytdcbajejgphlgaa
open Go.RowKit

/-- The block g holds the server of M: its lists are M's own. -/
def Srv (w : World) (g : Nat) (M : DNode) (lv bv nv mv sv : Value) : Prop :=
  w.heap[g]? = some (.cells #[.int .i64 M.id, .int .i64 M.votes.length, .int .i64 M.term, .int .i64 M.vote, lv, .int .i64 M.commit, .int .i64 M.lead, .int .i64 M.wait, sv, .int .i64 M.role, bv, nv, mv] 83 (0, 0))

set_option maxHeartbeats 4000000 in
theorem serverOfV (M : DNode) (lv bv nv mv : Value) (w : World) (h1 : VItems w lv M.log) (h2 : VL fB w bv M.votes) (h3 : VL fI w nv M.next) (h4 : VL fI w mv M.mat) :
    Calls Try.prog 24 #[.agg #[.int .i64 M.id, .int .i64 M.term, .int .i64 M.vote, lv, .int .i64 M.commit, .int .i64 M.role, .int .i64 M.lead, .int .i64 M.wait, bv, nv, mv]] w fun e w' => ∃ g, e = .returned (.pointer (some ⟨g, 0, none⟩)) ∧ w.heap.size ≤ g ∧ Srv w' g M lv bv nv mv (.slice none 0 0) ∧ Below w.heap.size w w' := by
  obtain ⟨ia, ic, rfl⟩ := items_shape h1
  obtain ⟨ba, bc, rfl⟩ := vl_shape h2
  obtain ⟨na, nc, rfl⟩ := vl_shape h3
  obtain ⟨ma, mc, rfl⟩ := vl_shape h4
  clear h1 h2 h3 h4
  unfold Srv
  generalize M.votes.length = n1
  generalize M.next.length = n2
  generalize M.mat.length = n3
  generalize M.log.length = n
  go_enter Try.func24, Try.ntmps24
  go_wp2
  go_ret
  exact ⟨w.heap.size + 1, rfl, by omega, k2_1 w _ _, ((Below.refl _ w).alloc (Nat.le_refl _) _).alloc (by simp) _⟩

/-- The term of the item at a place; 0: there is none. -/
def termF (log : List DItem) (x : Int) : Int := if 1 ≤ x then (match log[(x - 1).toNat]? with | some d => d.term | none => 0) else 0

theorem termF_in (log : List DItem) (k : Nat) (d : DItem) (h : log[k]? = some d) : termF log ((k : Int) + 1) = d.term := by
  unfold termF
  rw [if_pos (by omega), show ((k : Int) + 1 - 1).toNat = k by omega, h]
theorem termF_low (log : List DItem) (x : Int) (h : x < 1) : termF log x = 0 := by
  unfold termF
  rw [if_neg (by omega)]
theorem termF_high (log : List DItem) (x : Int) (h : (log.length : Int) < x) : termF log x = 0 := by
  unfold termF
  split
  · rw [List.getElem?_eq_none (by omega)]
  · rfl

set_option maxHeartbeats 4000000 in
theorem l4termAtV (g : Nat) (x : Int) (c0 c1 c2 lv c4 c5 c6 c7 c8 c9 c10 : Value) (log : List DItem) (w : World) (hg : w.heap[g]? = some (.cells #[c0, c1, c2, lv, c4, c5, c6, c7, c8, c9, c10] 34 (0, 0))) (h : VItems w lv log) :
    Calls Try.prog 39 #[.pointer (some ⟨g, 0, none⟩), .int .i64 x] w fun e w' => e = .returned (.int .i64 (termF log x)) ∧ w' = w := by
  obtain ⟨C, ⟨a, cap, rfl, h1, h2, h3⟩, hC⟩ := h
  unfold maxLen at h2
  obtain ⟨c3, _⟩ := at_block hg 3 _ rfl
  obtain ⟨n, hn⟩ : ∃ n, n = log.length := ⟨_, rfl⟩
  have HN : Hid (n = log.length) := hn
  rw [← hn] at h1 h3 c3
  clear hn
  have HC : Hid (∀ i d, log[i]? = some d → C i 0 = .int .i64 d.term) := fun i d hd => (hC i d hd).1
  have H3 : Hid (0 < n → ∃ b o, a = some ⟨b, o, none⟩ ∧ b < w.heap.size ∧ ∀ i, i < n → ∀ j, j < 7 → w.cell? ⟨b, o + i * 7 + j, none⟩ = some (C i j)) := h3
  clear hC h3 hg
  by_cases l1 : x < 1
  · have HR : Hid (termF log x = 0) := termF_low log x l1
    go_enter Try.func39, Try.ntmps39
    go_wp2
    go_ret
    exact ⟨by rw [HR.out]; rfl, rfl⟩
  by_cases l2 : (n : Int) < x
  · have HR : Hid (termF log x = 0) := termF_high log x (by have := HN.out; omega)
    go_enter Try.func39, Try.ntmps39
    go_wp2
    go_ret
    exact ⟨by rw [HR.out]; rfl, rfl⟩
  obtain ⟨k, rfl⟩ : ∃ k : Nat, x = (k : Int) + 1 := ⟨(x - 1).toNat, by omega⟩
  obtain ⟨d, hd⟩ : ∃ d, log[k]? = some d := ⟨_, List.getElem?_eq_getElem (by have := HN.out; omega)⟩
  have HR : Hid (termF log ((k : Int) + 1) = d.term) := termF_in log k d hd
  obtain ⟨b, o, rfl, hbl, hc⟩ := H3.out (by omega)
  have ck := hc k (by omega) 0 (by omega)
  rw [Nat.add_zero, HC.out k d hd] at ck
  have hk1 : (k : Int) < (n : Int) := by omega
  have hk2 : (0 : Int) ≤ (k : Int) := by omega
  have hw1 : IntKind.i64.wrap ((k : Int) + 1 - 1) = (k : Int) := by rw [Int.add_sub_cancel, IntKind.wrap_i64]; omega
  have hw2 : IntKind.i64.wrap (k : Int) = (k : Int) := by rw [IntKind.wrap_i64]; omega
  clear hc hd
  go_enter Try.func39, Try.ntmps39
  go_wp2
  go_ret
  exact ⟨by rw [HR.out]; rfl, rfl⟩

set_option maxHeartbeats 4000000 in
theorem itermAtV (g : Nat) (x : Int) (M : DNode) (lv bv nv mv sv : Value) (w : World) (hg : Srv w g M lv bv nv mv sv) (h : VItems w lv M.log) :
    Calls Try.prog 45 #[.pointer (some ⟨g, 0, none⟩), .int .i64 x] w fun e w' => e = .returned (.int .i64 (termF M.log x)) ∧ w' = w := by
  unfold Srv at hg
  obtain ⟨C, ⟨a, cap, rfl, h1, h2, h3⟩, hC⟩ := h
  unfold maxLen at h2
  obtain ⟨c4, _⟩ := at_block hg 4 _ rfl
  obtain ⟨n, hn⟩ : ∃ n, n = M.log.length := ⟨_, rfl⟩
  have HN : Hid (n = M.log.length) := hn
  rw [← hn] at h1 h3 c4
  clear hn
  have HC : Hid (∀ i d, M.log[i]? = some d → C i 0 = .int .i64 d.term) := fun i d hd => (hC i d hd).1
  have H3 : Hid (0 < n → ∃ b o, a = some ⟨b, o, none⟩ ∧ b < w.heap.size ∧ ∀ i, i < n → ∀ j, j < 7 → w.cell? ⟨b, o + i * 7 + j, none⟩ = some (C i j)) := h3
  clear hC h3 hg
  obtain ⟨log, hlog⟩ : ∃ log, log = M.log := ⟨_, rfl⟩
  rw [← hlog] at HC HN ⊢
  clear hlog
  cases k1 : inB x 1 n
  case false =>
    have HR : Hid (termF log x = 0) := by
      unfold inB at k1
      by_cases l1 : x < 1
      · exact termF_low log x l1
      · refine termF_high log x ?_
        have := HN.out
        have e1 : decide (1 ≤ x) = true := decide_eq_true (by omega)
        rw [e1, Bool.true_and, decide_eq_false_iff_not] at k1
        omega
    go_enter Try.func45, Try.ntmps45
    go_wp2_with (go_at_call 44; refine (withinV _ _ _ _).mono ?_; rintro e w2 ⟨rfl, rfl⟩; rw [k1])
    go_ret
    exact ⟨by rw [HR.out]; rfl, rfl⟩
  have hx : 1 ≤ x ∧ x ≤ n := by unfold inB at k1; simpa using k1
  obtain ⟨k, rfl⟩ : ∃ k : Nat, x = (k : Int) + 1 := ⟨(x - 1).toNat, by omega⟩
  obtain ⟨d, hd⟩ : ∃ d, log[k]? = some d := ⟨_, List.getElem?_eq_getElem (by have := HN.out; omega)⟩
  have HR : Hid (termF log ((k : Int) + 1) = d.term) := termF_in log k d hd
  obtain ⟨b, o, rfl, hbl, hc⟩ := H3.out (by omega)
  have ck := hc k (by omega) 0 (by omega)
  rw [Nat.add_zero, HC.out k d hd] at ck
  have hk1 : (k : Int) < (n : Int) := by omega
  have hk2 : (0 : Int) ≤ (k : Int) := by omega
  have hw1 : IntKind.i64.wrap ((k : Int) + 1 - 1) = (k : Int) := by rw [Int.add_sub_cancel, IntKind.wrap_i64]; omega
  have hw2 : IntKind.i64.wrap (k : Int) = (k : Int) := by rw [IntKind.wrap_i64]; omega
  clear hc hd hx
  go_enter Try.func45, Try.ntmps45
  go_wp2_with (go_at_call 44; refine (withinV _ _ _ _).mono ?_; rintro e w2 ⟨rfl, rfl⟩; rw [k1])
  go_ret
  exact ⟨by rw [HR.out]; rfl, rfl⟩

end Go.Proofs.Ytdcbajejgphlgaa
