
/- Turning, leaving, MemberOf as plain functions; where things lie. It holds over every program. -/
import Derived.Test.YtmodliaieienfaaMd
import Derived.Test.YtmodliaieienfaaElMem2
namespace Go.Proofs.Ytmodliaieienfaa
open Go.RowKit

/-- What turning a member's state leaves: where it is, and its state is at most fr. -/
def turnD (T : DTab) (id fr st : Int) (h : Decidable (TabP T) := Classical.propDecidable (TabP T)) : DTab × Bool :=
  @ite _ (TabP T) h (match T.mems[(placeM T.mems id).toNat]? with
    | some t => if placeM T.mems id < 0 ∨ id = T.self ∨ fr < t.st then (T, false) else (⟨T.self, T.mems.set (placeM T.mems id).toNat ⟨t.id, st, t.life⟩⟩, true)
    | none => (T, false)) (⟨0, []⟩, false)
theorem turnD_no {T : DTab} {id fr st : Int} (h : ¬ TabP T) : turnD T id fr st = (⟨0, []⟩, false) := by unfold turnD; exact if_neg h
theorem turnD_none {T : DTab} {id fr st : Int} (h : TabP T) (hp : placeM T.mems id = -1) : turnD T id fr st = (T, false) := by
  unfold turnD
  rw [if_pos h]
  split
  · rw [if_pos (.inl (by omega))]
  · rfl
theorem turnD_some {T : DTab} {id fr st : Int} {i : Nat} {t : DMem} (h : TabP T) (hp : placeM T.mems id = (i : Int)) (ht : T.mems[i]? = some t) : turnD T id fr st = if id = T.self ∨ fr < t.st then (T, false) else (⟨T.self, T.mems.set i ⟨t.id, st, t.life⟩⟩, true) := by
  unfold turnD
  rw [if_pos h, hp, Int.toNat_natCast, ht]
  by_cases hc : id = T.self ∨ fr < t.st
  · simp only [if_pos hc]
    rw [if_pos (.inr hc)]
  · simp only [if_neg hc]
    rw [if_neg (by rintro (h1 | h1); · omega
                   · exact hc h1)]

theorem al2_0 (w : World) (a b : Obj) : ((w.alloc a).alloc b).heap[w.heap.size]? = some a := by
  rw [Below.heap_alloc _ _ _ (by simp), heap_alloc_new]
theorem al2_1 (w : World) (a b : Obj) : ((w.alloc a).alloc b).heap[w.heap.size + 1]? = some b := by
  have := heap_alloc_new (w.alloc a) b
  simpa using this
/-- A row that is not empty lies in a block. -/
theorem OwMem.at {w : World} {base : Nat} {v : Value} {ts : List DMem} (h : OwMem w base v ts) (h0 : 0 < ts.length) : ∃ g cap, v = .slice (some ⟨g, 0, none⟩) ts.length cap ∧ base ≤ g ∧ ts.length ≤ cap ∧ cap ≤ maxLen := by
  rcases h.2 with ⟨_, h1⟩ | ⟨g, cap, cur, hv, hb, _, hn, hm, _⟩
  · omega
  · exact ⟨g, cap, hv, hb, hn, hm⟩

/-- What leaving leaves. -/
def leaveD (T : DTab) (h : Decidable (TabP T) := Classical.propDecidable (TabP T)) : DTab × Bool :=
  @ite _ (TabP T) h (match T.mems[(placeM T.mems T.self).toNat]? with
    | some t => if t.st = 3 then (T, false) else (⟨T.self, T.mems.set (placeM T.mems T.self).toNat ⟨t.id, 3, t.life⟩⟩, true)
    | none => (T, false)) (⟨0, []⟩, false)
theorem leaveD_no {T : DTab} (h : ¬ TabP T) : leaveD T = (⟨0, []⟩, false) := by unfold leaveD; exact if_neg h
theorem leaveD_some {T : DTab} {i : Nat} {t : DMem} (h : TabP T) (hp : placeM T.mems T.self = (i : Int)) (ht : T.mems[i]? = some t) : leaveD T = if t.st = 3 then (T, false) else (⟨T.self, T.mems.set i ⟨t.id, 3, t.life⟩⟩, true) := by
  unfold leaveD
  rw [if_pos h, hp, Int.toNat_natCast, ht]
/-- What MemberOf tells. -/
def ofD (T : DTab) (id : Int) (h : Decidable (TabP T) := Classical.propDecidable (TabP T)) : DMem × Bool :=
  @ite _ (TabP T) h (match T.mems[(placeM T.mems id).toNat]? with
    | some t => if placeM T.mems id < 0 then (⟨0, 0, 0⟩, false) else (t, true)
    | none => (⟨0, 0, 0⟩, false)) (⟨0, 0, 0⟩, false)
theorem ofD_no {T : DTab} {id : Int} (h : ¬ TabP T) : ofD T id = (⟨0, 0, 0⟩, false) := by unfold ofD; exact if_neg h
theorem ofD_none {T : DTab} {id : Int} (h : TabP T) (hp : placeM T.mems id = -1) : ofD T id = (⟨0, 0, 0⟩, false) := by
  unfold ofD
  rw [if_pos h]
  split
  · rw [if_pos (by omega)]
  · rfl
theorem ofD_some {T : DTab} {id : Int} {i : Nat} {t : DMem} (h : TabP T) (hp : placeM T.mems id = (i : Int)) (ht : T.mems[i]? = some t) : ofD T id = (t, true) := by
  unfold ofD
  rw [if_pos h, hp, Int.toNat_natCast, ht]
  simp only
  rw [if_neg (by omega)]
theorem own_place {T : DTab} (h : TabP T) : ∃ (i : Nat) (t : DMem), T.mems[i]? = some t ∧ placeM T.mems T.self = (i : Int) ∧ ownB t = true ∧ t.id = T.self := by
  obtain ⟨i, t, ht, he, hf, ho⟩ := h.2.2
  exact ⟨i, t, ht, placeM_some ht he hf, ho, he⟩

end Go.Proofs.Ytmodliaieienfaa
