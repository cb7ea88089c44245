
/- The specification's Beats. -/
import Derived.Test.YtmodliaieienfaaMs1
namespace Go.Proofs.Ytmodliaieienfaa
open Go.RowKit

set_option maxHeartbeats 2000000 in
theorem sBeatsV (a b : DMem) (w : World) :
    Calls Try.prog 53 #[.agg #[.int .i64 a.id, .int .i64 a.st, .int .i64 a.life], .agg #[.int .i64 b.id, .int .i64 b.st, .int .i64 b.life]] w fun e w' => e = .returned (.bool (beatsB a b)) ∧ Below w.heap.size w w' := by
  have hB2 : ∀ o o', Below w.heap.size w ((w.alloc o).alloc o') := fun o o' => ((Below.refl _ w).alloc (Nat.le_refl _) _).alloc (by simp) _
  have HM : Hid (beatsB a b = (decide (a.id = b.id) && (decide (b.life < a.life) || (decide (a.life = b.life) && decide (b.st < a.st))))) := rfl
  generalize beatsB a b = bb at HM ⊢
  obtain ⟨ai, ast, al⟩ := a
  obtain ⟨bi, bs, bl⟩ := b
  simp only at HM ⊢
  go_enter Try.func53, Try.ntmps53
  by_cases h1 : ai = bi
  case neg =>
    have HK : Hid (bb = false) := by show _ = _; rw [HM.out, decide_eq_false h1]; simp
    have h1' : (ai == bi) = false := by simpa using h1
    go_wp2
    go_ret
    exact ⟨by rw [HK.out]; rfl, hB2 _ _⟩
  subst h1
  by_cases h2 : bl < al
  · have HK : Hid (bb = true) := by show _ = _; rw [HM.out, decide_eq_true h2]; simp
    have h2' : decide (al > bl) = true := decide_eq_true h2
    go_wp2
    go_ret
    exact ⟨by rw [HK.out]; rfl, hB2 _ _⟩
  have h2' : decide (al > bl) = false := decide_eq_false h2
  by_cases h3 : al = bl
  case neg =>
    have HK : Hid (bb = false) := by show _ = _; rw [HM.out, decide_eq_false h2, decide_eq_false h3]; simp
    have h3' : (al == bl) = false := by simpa using h3
    go_wp2
    go_ret
    exact ⟨by rw [HK.out]; rfl, hB2 _ _⟩
  subst h3
  have HK : Hid (bb = decide (ast > bs)) := by show _ = _; rw [HM.out, decide_eq_false h2]; simp
  generalize hd : decide (ast > bs) = d at HK
  clear h2
  go_wp2
  go_ret
  exact ⟨by rw [HK.out]; rfl, hB2 _ _⟩

end Go.Proofs.Ytmodliaieienfaa
