/- NextProbe and ProbeTick as plain functions. -/
import Derived.Test.YtfdklcmhafhbeaaPr8
namespace Go.Proofs.Ytfdklcmhafhbeaa
open Go.RowKit

theorem ProP.w {P : DPro} (h : ProP P) : ProW P := ⟨by have := h.1; omega, h.2.1, h.2.2.1⟩
def nextPD (P : DPro) (T : DTab) (h : Decidable (ProP P ∧ TabP T) := Classical.propDecidable (ProP P ∧ TabP T)) (k : Decidable (TabP T) := Classical.propDecidable (TabP T)) : DPro × Int := @ite _ (ProP P ∧ TabP T) h (nextL (othersD T k) 2 P) (zeroPro, -1)
theorem nextPD_no {P : DPro} {T : DTab} (h : ¬ (ProP P ∧ TabP T)) : nextPD P T = (zeroPro, -1) := by unfold nextPD; exact if_neg h
theorem nextPD_yes {P : DPro} {T : DTab} (h : ProP P ∧ TabP T) : nextPD P T = nextL (othersD T) 2 P := by unfold nextPD; exact if_pos h
def ptickPD (P : DPro) (T : DTab) (h : Decidable (ProP P ∧ TabP T) := Classical.propDecidable (ProP P ∧ TabP T)) (k : Decidable (TabP T) := Classical.propDecidable (TabP T)) : DPro × Int × Int := @ite _ (ProP P ∧ TabP T) h (tickPD (othersD T k) P) (zeroPro, 0, 0)
theorem ptickPD_no {P : DPro} {T : DTab} (h : ¬ (ProP P ∧ TabP T)) : ptickPD P T = (zeroPro, 0, 0) := by unfold ptickPD; exact if_neg h
theorem ptickPD_yes {P : DPro} {T : DTab} (h : ProP P ∧ TabP T) : ptickPD P T = tickPD (othersD T) P := by unfold ptickPD; exact if_pos h
theorem nextL_len {l : List Int} (hl : l.length ≤ 1048576) : ∀ (k : Nat) (P : DPro), P.order.length ≤ 1048576 → (nextL l k P).1.order.length ≤ 1048576
  | 0, _, h => h
  | k + 1, P, h => by
    rw [nextL]
    split
    · exact h
    · exact nextL_len hl k _ (by show (shufL l P.seed).1.length ≤ _; rw [shufL_len]; exact hl)
theorem nextPD_len (P : DPro) (T : DTab) (hp : P.order.length ≤ 1048576) (ht : T.mems.length ≤ 1048576) : (nextPD P T).1.order.length ≤ 1048576 := by
  by_cases h : ProP P ∧ TabP T
  · rw [nextPD_yes h]; exact nextL_len (others_len ht) 2 P hp
  · rw [nextPD_no h]; simp [zeroPro]
theorem ptickPD_len (P : DPro) (T : DTab) (hp : P.order.length ≤ 1048576) (ht : T.mems.length ≤ 1048576) : (ptickPD P T).1.order.length ≤ 1048576 := by
  by_cases h : ProP P ∧ TabP T
  · rw [ptickPD_yes h]
    unfold tickPD
    split
    · split
      · exact nextL_len (others_len ht) 2 P hp
      · exact nextL_len (others_len ht) 2 P hp
    · split
      · split <;> exact hp
      · split <;> exact hp
  · rw [ptickPD_no h]; simp [zeroPro]

end Go.Proofs.Ytfdklcmhafhbeaa
