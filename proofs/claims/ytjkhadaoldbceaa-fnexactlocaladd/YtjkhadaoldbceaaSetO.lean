
/- What may turn, by sets of blocks. It holds over every program. -/
import Derived.Test.YtjkhadaoldbceaaMark
import Derived.Test.YtjkhadaoldbceaaElG
import Derived.Test.YtjkhadaoldbceaaTo0
namespace Go.Proofs.Ytjkhadaoldbceaa
open Go.RowKit

/-- Memory grew, and nothing old turned but blocks of S. -/
structure Trn (S : Nat → Prop) (w w' : World) : Prop where
  os : w'.os = w.os
  tape : w'.tape = w.tape
  output : w'.output = w.output
  size : w.heap.size ≤ w'.heap.size
  block : ∀ k, k < w.heap.size → ¬ S k → w'.heap[k]? = w.heap[k]?
theorem Trn.refl (S : Nat → Prop) (w : World) : Trn S w w := ⟨rfl, rfl, rfl, Nat.le_refl _, fun _ _ _ => rfl⟩
theorem Trn.trans {S : Nat → Prop} {a b c : World} (h : Trn S a b) (k : Trn S b c) : Trn S a c := ⟨k.os.trans h.os, k.tape.trans h.tape, k.output.trans h.output, Nat.le_trans h.size k.size, fun j hj hn => (k.block j (Nat.lt_of_lt_of_le hj h.size) hn).trans (h.block j hj hn)⟩
theorem Trn.mono {S T : Nat → Prop} {a b : World} (h : Trn S a b) (k : ∀ x, S x → T x) : Trn T a b := ⟨h.os, h.tape, h.output, h.size, fun j hj hn => h.block j hj (fun e => hn (k j e))⟩
theorem Trn.one {S : Nat → Prop} {a b : World} {r : Option Nat} (h : a.grownBy b r) (k : ∀ x, r = some x → S x) : Trn S a b := ⟨h.os, h.tape, h.output, h.size, fun j hj hn => h.block j hj (fun e => hn (k j e.symm))⟩
theorem Trn.ext {S : Nat → Prop} {a b : World} (h : Ext a b) : Trn S a b := Trn.one h (fun x e => by cases e)
theorem Trn.set (S : Nat → Prop) (w : World) (g j : Nat) (u : Value) (h : S g) : Trn S w (w.setCell ⟨g, j, none⟩ u) := Trn.one (set_grown w g j u) (fun x e => by cases e; exact h)
theorem Trn.below {S : Nat → Prop} {B : Nat} {a b c : World} (hb : Below B a b) (h : Trn S b c) (hs : B ≤ b.heap.size) (k : ∀ x, S x → B ≤ x) : Below B a c := ⟨h.os.trans hb.os, h.tape.trans hb.tape, h.output.trans hb.output, Nat.le_trans hb.size h.size, fun j hj => (h.block j (by omega) (fun e => by have := k j e; omega)).trans (hb.block j hj)⟩
/-- The value owns these bytes, in a block of S. -/
def OwS (S : Nat → Prop) (w : World) (v : Value) (xs : List Int) : Prop := (Ow w 0 v xs ∧ ∀ x ∈ xs, 0 ≤ x ∧ x ≤ 255) ∧ ∀ b, v.ownBlock = some b → S b
theorem OwS.keep {S T : Nat → Prop} {w w' : World} {v : Value} {xs : List Int} (h : OwS S w v xs) (t : Trn T w w') (d : ∀ b, S b → ¬ T b) : OwS S w' v xs := by
  obtain ⟨⟨⟨h1, h2⟩, h3⟩, h4⟩ := h
  refine ⟨⟨⟨h1, ?_⟩, h3⟩, h4⟩
  rcases h2 with h2 | ⟨g, cap, cur, hv, hb, hg, r⟩
  · exact .inl h2
  · exact .inr ⟨g, cap, cur, hv, hb, (t.block g (Array.getElem?_eq_some_iff.1 hg).1 (d g (h4 g (by rw [hv]; rfl)))).trans hg, r⟩
theorem OwS.rv {S : Nat → Prop} {w : World} {v : Value} {xs : List Int} (h : OwS S w v xs) : RV w v xs := Ow.rv h.1.1 h.1.2
theorem OwS.ext {S : Nat → Prop} {w w' : World} {v : Value} {xs : List Int} (h : OwS S w v xs) (e : Ext w w') : OwS S w' v xs := ⟨⟨h.1.1.ext e, h.1.2⟩, h.2⟩
theorem OwS.mono {S T : Nat → Prop} {w : World} {v : Value} {xs : List Int} (h : OwS S w v xs) (k : ∀ x, S x → T x) : OwS T w v xs := ⟨h.1, fun b hb => k b (h.2 b hb)⟩
theorem OwS.ne {S : Nat → Prop} {w : World} {b : Nat} {v : Value} {xs : List Int} {cs : Array Value} {t : TypeId} (h : OwS S w v xs) (hb : w.heap[b]? = some (.cells cs t (0, 0))) (ht : t ≠ 5) : v.ownBlock ≠ some b := by
  intro e
  rcases h.1.1.2 with ⟨hv, _⟩ | ⟨k, c, cur, hv, _, hg, _⟩
  · rw [hv] at e; cases e
  · rw [hv] at e
    simp only [Value.ownBlock, Option.some.injEq] at e
    subst e
    rw [hb] at hg
    simp only [Option.some.injEq, Obj.cells.injEq] at hg
    exact ht hg.2.1
/-- F, but u at (i, j). -/
def updK (F : Nat → Nat → Value) (i j : Nat) (u : Value) : Nat → Nat → Value := fun a b => if a = i ∧ b = j then u else F a b
theorem updK_ne (F : Nat → Nat → Value) (i j : Nat) (u : Value) (a b : Nat) (h : a ≠ i ∨ b ≠ j) : updK F i j u a b = F a b := by
  unfold updK
  rw [if_neg]
  rintro ⟨rfl, rfl⟩
  rcases h with h | h <;> exact h rfl
theorem blk_put {w : World} {g c : Nat} {t : TypeId} {n m : Nat} {F : Nat → Nat → Value} (h : Blk w g t c n m F) (i j : Nat) (hi : i < n) (hj : j < c) (u : Value) : Blk (w.setCell ⟨g, i * c + j, none⟩ u) g t c n m (updK F i j u) := by
  obtain ⟨cur, h1, h2, h3⟩ := h
  have hc : 0 < c := by omega
  have hlt : i * c + j < n * c := by
    have : i * c + c ≤ n * c := by rw [← Nat.succ_mul]; exact Nat.mul_le_mul_right _ hi
    omega
  refine ⟨_, set_block h1 _ u, by simp [h2], fun a ha b hb => ?_⟩
  rw [Array.getElem?_setIfInBounds]
  by_cases e : i * c + j = a * c + b
  · have hd : i = a := by
      have h1 : (i * c + j) / c = i := by rw [Nat.mul_comm, Nat.mul_add_div hc, Nat.div_eq_of_lt hj, Nat.add_zero]
      have h2 : (a * c + b) / c = a := by rw [Nat.mul_comm, Nat.mul_add_div hc, Nat.div_eq_of_lt hb, Nat.add_zero]
      rw [← h1, e, h2]
    subst hd
    have hj' : j = b := by omega
    subst hj'
    rw [if_pos rfl, if_pos (by rw [h2]; exact hlt)]
    simp [updK]
  · rw [if_neg e, updK_ne _ _ _ _ _ _ (by
      by_cases h1 : a = i
      · subst h1
        exact .inr (fun h2 => e (by rw [h2]))
      · exact .inl h1)]
    exact h3 a ha b hb

end Go.Proofs.Ytjkhadaoldbceaa
