
/- Rows of bytes that may bear a conversion's mark, within a set of blocks. -/
import Derived.Test.YtollbjbgncjkoaaSetO
import Derived.Test.YtollbjbgncjkoaaOmK
namespace Go.Proofs.Ytollbjbgncjkoaa
open Go.RowKit

/-- The value owns these bytes, in a block of S; its row may bear a conversion's mark. -/
def OwT (S : Nat → Prop) (w : World) (v : Value) (xs : List Int) : Prop := (OwM w 0 v xs ∧ ∀ x ∈ xs, 0 ≤ x ∧ x ≤ 255) ∧ ∀ b, v.ownBlock = some b → S b
theorem OwT.keep {S T : Nat → Prop} {w w' : World} {v : Value} {xs : List Int} (h : OwT S w v xs) (t : Trn T w w') (d : ∀ b, S b → ¬ T b) : OwT S w' v xs := by
  obtain ⟨⟨h2, h3⟩, h4⟩ := h
  refine ⟨⟨?_, h3⟩, h4⟩
  rcases h2 with h2 | ⟨g, cap, cur, fz, hv, hb, hg, r⟩
  · exact .inl h2
  · exact .inr ⟨g, cap, cur, fz, hv, hb, (t.block g (Array.getElem?_eq_some_iff.1 hg).1 (d g (h4 g (by rw [hv]; rfl)))).trans hg, r⟩
theorem OwT.rv {S : Nat → Prop} {w : World} {v : Value} {xs : List Int} (h : OwT S w v xs) : RV w v xs := h.1.1.rv h.1.2
theorem OwT.ext {S : Nat → Prop} {w w' : World} {v : Value} {xs : List Int} (h : OwT S w v xs) (e : Ext w w') : OwT S w' v xs := ⟨⟨h.1.1.ext e, h.1.2⟩, h.2⟩
theorem OwT.mono {S T : Nat → Prop} {w : World} {v : Value} {xs : List Int} (h : OwT S w v xs) (k : ∀ x, S x → T x) : OwT T w v xs := ⟨h.1, fun b hb => k b (h.2 b hb)⟩
theorem OwS.t {S : Nat → Prop} {w : World} {v : Value} {xs : List Int} (h : OwS S w v xs) : OwT S w v xs := ⟨⟨h.1.1.m, h.1.2⟩, h.2⟩

end Go.Proofs.Ytollbjbgncjkoaa
