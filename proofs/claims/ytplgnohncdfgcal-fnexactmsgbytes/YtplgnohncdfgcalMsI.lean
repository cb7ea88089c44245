/- What the program says of a message is when it may be one. -/
import Derived.Test.YtplgnohncdfgcalMsH
import Derived.Test.YtplgnohncdfgcalMsP
import Derived.Test.YtplgnohncdfgcalSum0
namespace Go.Proofs.Ytplgnohncdfgcal
open Go.RowKit

theorem itemsB_iff (t : Int) (ss : List DItem) : ∀ l : Int, itemsB l t ss = true ↔ ∀ (i : Nat) (d : DItem), ss[i]? = some d → itemB d = true ∧ d.term ≤ t ∧ (∀ p, 0 < i → ss[i - 1]? = some p → p.term ≤ d.term) ∧ l ≤ d.term := by
  induction ss with
  | nil => intro l; simp [itemsB]
  | cons s r ih =>
    intro l
    have e : itemsB l t (s :: r) = (itemB s && (inB s.term l t && itemsB s.term t r)) := rfl
    rw [e]
    simp only [Bool.and_eq_true, ih, inB, decide_eq_true_eq]
    constructor
    · rintro ⟨h1, ⟨h2, h3⟩, h4⟩ i d hd
      cases i with
      | zero =>
        simp only [List.getElem?_cons_zero, Option.some.injEq] at hd
        subst hd
        exact ⟨h1, h3, fun p h0 => absurd h0 (by omega), h2⟩
      | succ j =>
        rw [List.getElem?_cons_succ] at hd
        obtain ⟨a1, a2, a3, a4⟩ := h4 j d hd
        refine ⟨a1, a2, fun p _ hp => ?_, by omega⟩
        rw [Nat.add_sub_cancel] at hp
        cases j with
        | zero =>
          simp only [List.getElem?_cons_zero, Option.some.injEq] at hp
          subst hp
          exact a4
        | succ q =>
          rw [List.getElem?_cons_succ] at hp
          exact a3 p (by omega) (by rw [Nat.add_sub_cancel]; exact hp)
    · intro h
      obtain ⟨a1, a2, _, a4⟩ := h 0 s rfl
      have hs : ∀ (j : Nat) (d : DItem), r[j]? = some d → s.term ≤ d.term := by
        intro j
        induction j with
        | zero =>
          intro d hd
          exact (h 1 d (by rw [List.getElem?_cons_succ]; exact hd)).2.2.1 s (by omega) rfl
        | succ q iq =>
          intro d hd
          have hq : q < r.length := by
            have := (List.getElem?_eq_some_iff.mp hd).1
            omega
          have h5 := iq r[q] (List.getElem?_eq_getElem hq)
          have h6 := (h (q + 2) d (by rw [List.getElem?_cons_succ]; exact hd)).2.2.1 r[q] (by omega) (by show (s :: r)[q + 1]? = _; rw [List.getElem?_cons_succ]; exact List.getElem?_eq_getElem hq)
          omega
      refine ⟨a1, ⟨a4, a2⟩, fun j d hd => ?_⟩
      obtain ⟨b1, b2, b3, b4⟩ := h (j + 1) d (by rw [List.getElem?_cons_succ]; exact hd)
      refine ⟨b1, b2, fun p h0 hp => ?_, hs j d hd⟩
      refine b3 p (by omega) ?_
      rw [Nat.add_sub_cancel]
      obtain ⟨q, rfl⟩ : ∃ q, j = q + 1 := ⟨j - 1, by omega⟩
      rw [List.getElem?_cons_succ]
      rw [Nat.add_sub_cancel] at hp
      exact hp

theorem items_iff (M : DMsg) : itemsB M.prevTerm M.term M.items = true ↔ ∀ i, i < M.items.length → MItemAt M i := by
  rw [itemsB_iff]
  constructor
  · intro h i _ d hd
    exact h i d hd
  · intro h i d hd
    exact h i (List.getElem?_eq_some_iff.mp hd).1 d hd

theorem prevB_iff (p pt t : Int) : prevB p pt t = true ↔ (p = 0 ∧ pt = 0) ∨ (1 ≤ p ∧ p ≤ 400 ∧ 1 ≤ pt ∧ pt ≤ t) := by
  unfold prevB inB
  split
  · simp only [decide_eq_true_eq]; omega
  · simp only [Bool.and_eq_true, decide_eq_true_eq]; omega

theorem noitems (M : DMsg) (h : M.items.length = 0) : ∀ i, i < M.items.length → MItemAt M i := fun i hi => absurd hi (by omega)

theorem says_iff (M : DMsg) : saysB M = true ↔ MsgP M := by
  have hI := items_iff M
  have hN := noitems M
  unfold saysB MsgP MHeadP MZeroP MTailP
  split
  · rename_i k
    unfold saysAsk headB onlyAsk
    simp only [Bool.and_eq_true, prevB_iff, inB, decide_eq_true_eq, beq_iff_eq, bne_iff_ne]
    constructor
    · rintro ⟨h1, h2, h3, h4, h5⟩
      exact ⟨by omega, by omega, hN (by omega), by refine ⟨fun _ => ⟨by omega, h4, h5⟩, by omega, by omega, by omega⟩⟩
    · rintro ⟨h1, h2, _, h3, _⟩
      obtain ⟨g1, g2, g3⟩ := h3 k
      exact ⟨by omega, by omega, by omega, g2, g3⟩
  split
  · rename_i k
    unfold saysVote headB onlyVote
    simp only [Bool.and_eq_true, inB, decide_eq_true_eq, beq_iff_eq, bne_iff_ne]
    constructor
    · rintro ⟨h1, _, h3, h4, h5, h6⟩
      exact ⟨by omega, by omega, hN (by omega), by refine ⟨by omega, by omega, by omega, by omega⟩⟩
    · rintro ⟨h1, h2, _, _, h3, _⟩
      obtain ⟨g1, g2, g3, g4⟩ := h3 k
      exact ⟨by omega, trivial, by omega, by omega, by omega, by omega⟩
  split
  · rename_i k
    unfold saysAdd headB onlyAdd addB
    simp only [Bool.and_eq_true, prevB_iff, hI, inB, decide_eq_true_eq, beq_iff_eq, bne_iff_ne]
    constructor
    · rintro ⟨h1, ⟨h2, h3, h4, h5⟩, h6⟩
      exact ⟨by omega, by omega, h5, by refine ⟨by omega, by omega, fun _ => h6, by omega⟩⟩
    · rintro ⟨h1, h2, h3, _, _, h4, _⟩
      exact ⟨by omega, ⟨by omega, by omega, by omega, h3⟩, h4 k⟩
  split
  · rename_i k
    unfold saysAck headB onlyAck
    simp only [Bool.and_eq_true, inB, decide_eq_true_eq, beq_iff_eq, bne_iff_ne]
    constructor
    · rintro ⟨h1, h2, h3, h4, h5⟩
      exact ⟨by omega, by omega, hN (by omega), by refine ⟨by omega, by omega, by omega, by omega⟩⟩
    · rintro ⟨h1, h2, _, _, _, _, h3⟩
      obtain ⟨g1, g2, g3⟩ := h3 k
      exact ⟨by omega, by omega, by omega, by omega, by omega⟩
  · constructor
    · intro h; cases h
    · rintro ⟨h1, _⟩
      omega

theorem iMsgOkP (v : Value) (M : DMsg) (w : World) (h : VMsg w v M) :
    Calls Try.prog 25 #[v] w fun e w' => e = .returned (.bool (tB (MsgP M))) ∧ Below w.heap.size w w' := by
  have e : saysB M = tB (MsgP M) := by rw [Bool.eq_iff_iff, tB_iff]; exact says_iff M
  rw [← e]
  exact iMsgOkB v M w h

end Go.Proofs.Ytplgnohncdfgcal
