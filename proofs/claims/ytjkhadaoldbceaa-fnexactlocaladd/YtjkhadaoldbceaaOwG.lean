
/- Lists whose elements own parts, in general: a row of structs, each of whose cells is owned in a set of blocks of its own. It holds over every program. -/
import Derived.Test.YtjkhadaoldbceaaRowG
namespace Go.Proofs.Ytjkhadaoldbceaa
open Go.RowKit

theorem al2a (w : World) (a b : Obj) : ((w.alloc a).alloc b).heap[w.heap.size]? = some a := by
  rw [Below.heap_alloc _ _ _ (by simp)]
  exact heap_alloc_new w a
theorem al2b (w : World) (a b : Obj) : ((w.alloc a).alloc b).heap[w.heap.size + 1]? = some b := by simpa using heap_alloc_new (w.alloc a) b

/-- What an element owns stays where nothing of it turns. -/
def Keeps {α : Type} (own : (Nat → Prop) → World → (Nat → Value) → α → Prop) : Prop := ∀ (N T : Nat → Prop) (w w' : World) (G : Nat → Value) (x : α), own N w G x → Trn T w w' → (∀ b, N b → ¬ T b) → own N w' G x
/-- The slice v owns the elements xs, in blocks of S. -/
def OW {α : Type} (T K : Nat) (own : (Nat → Prop) → World → (Nat → Value) → α → Prop) (S : Nat → Prop) (w : World) (v : Value) (xs : List α) : Prop := (∃ (a : Option Addr) (c : Nat), v = .slice a 0 c ∧ (a = none ∧ c = 0) ∧ xs = []) ∨
  ∃ (g cap : Nat) (F : Nat → Nat → Value) (N : Nat → Nat → Prop), v = .slice (some ⟨g, 0, none⟩) xs.length cap ∧ xs.length ≤ cap ∧ cap ≤ maxLen ∧ S g ∧ Blk w g T K cap xs.length F ∧
    (∀ i j b, i ≠ j → N i b → ¬ N j b) ∧ (∀ i b, N i b → S b ∧ b ≠ g) ∧ ∀ (i : Nat) x, xs[i]? = some x → own (N i) w (F i) x
/-- The first j elements of a row in block g are owned. -/
structure PO {α : Type} (own : (Nat → Prop) → World → (Nat → Value) → α → Prop) (B g : Nat) (w : World) (xs : List α) (j : Nat) (F : Nat → Nat → Value) (N : Nat → Nat → Prop) : Prop where
  dis : ∀ a c b, a ≠ c → N a b → ¬ N c b
  rng : ∀ a b, N a b → B ≤ b ∧ b < w.heap.size ∧ b ≠ g
  own : ∀ (i : Nat) x, i < j → xs[i]? = some x → own (N i) w (F i) x
section
variable {α : Type} {T K : Nat} {own : (Nat → Prop) → World → (Nat → Value) → α → Prop}
theorem PO.start (own : (Nat → Prop) → World → (Nat → Value) → α → Prop) (B g : Nat) (w : World) (xs : List α) (F : Nat → Nat → Value) : PO own B g w xs 0 F (fun _ _ => False) := ⟨fun _ _ _ _ h => h.elim, fun _ _ h => h.elim, fun _ _ h => absurd h (by omega)⟩
theorem PO.ext {B g j : Nat} {w w' : World} {xs : List α} {F : Nat → Nat → Value} {N : Nat → Nat → Prop} (hk : Keeps own) (h : PO own B g w xs j F N) (e : Ext w w') : PO own B g w' xs j F N :=
  ⟨h.dis, fun a b hb => ⟨(h.rng a b hb).1, Nat.lt_of_lt_of_le (h.rng a b hb).2.1 e.size, (h.rng a b hb).2.2⟩, fun i x hi hx => hk _ (fun _ => False) _ _ _ _ (h.own i x hi hx) (Trn.ext e) (fun _ _ h => h)⟩
/-- The next element: made in fresh blocks M, then stored into the row. -/
theorem PO.next {B g j : Nat} {w w2 w3 : World} {xs : List α} {F : Nat → Nat → Value} {N : Nat → Nat → Prop} {M : Nat → Prop} {G : Nat → Value} {x : α} (hk : Keeps own) (h : PO own B g w xs j F N) (e : Ext w w2) (hx : xs[j]? = some x) (o : own M w2 G x) (hM : ∀ b, M b → w.heap.size ≤ b ∧ b < w2.heap.size) (hB : B ≤ w.heap.size) (hg : g < w.heap.size) (t : Trn (fun b => b = g) w2 w3) :
    PO own B g w3 xs (j + 1) (fun i => if i = j then G else F i) (fun i => if i = j then M else N i) := by
  have h2 := h.ext hk e
  refine ⟨fun a c b hac ha hc => ?_, fun a b hb => ?_, fun i y hi hy => ?_⟩
  · by_cases e1 : a = j
    · rw [if_pos e1] at ha
      by_cases e2 : c = j
      · omega
      · rw [if_neg e2] at hc
        have := hM b ha
        have := h.rng c b hc
        omega
    · rw [if_neg e1] at ha
      by_cases e2 : c = j
      · rw [if_pos e2] at hc
        have := hM b hc
        have := h.rng a b ha
        omega
      · rw [if_neg e2] at hc
        exact h.dis a c b hac ha hc
  · by_cases e1 : a = j
    · rw [if_pos e1] at hb
      have := hM b hb
      exact ⟨by omega, Nat.lt_of_lt_of_le this.2 t.size, by omega⟩
    · rw [if_neg e1] at hb
      have := h2.rng a b hb
      exact ⟨this.1, Nat.lt_of_lt_of_le this.2.1 t.size, this.2.2⟩
  · by_cases e1 : i = j
    · subst e1
      rw [hx] at hy
      cases hy
      simp only [if_true]
      exact hk _ _ _ _ _ _ o t (fun b hb e => by have := hM b hb; omega)
    · simp only [if_neg e1]
      exact hk _ _ _ _ _ _ (h2.own i y (by omega) hy) t (fun b hb e => (h2.rng i b hb).2.2 e)
theorem PO.done {B g cap : Nat} {w : World} {xs : List α} {F : Nat → Nat → Value} {N : Nat → Nat → Prop} (h : PO own B g w xs xs.length F N) (hB : B ≤ g) (hb : Blk w g T K cap xs.length F) (hc : xs.length ≤ cap) (hm : cap ≤ maxLen) :
    OW T K own (fun b => B ≤ b ∧ b < w.heap.size) w (.slice (some ⟨g, 0, none⟩) xs.length cap) xs :=
  .inr ⟨g, cap, F, N, rfl, hc, hm, ⟨hB, blk_lt hb⟩, hb, h.dis, fun i b hb => ⟨⟨(h.rng i b hb).1, (h.rng i b hb).2.1⟩, (h.rng i b hb).2.2⟩, fun i x hx => h.own i x (List.getElem?_eq_some_iff.1 hx).1 hx⟩
theorem OW.keep {S R : Nat → Prop} {w w' : World} {v : Value} {xs : List α} (hk : Keeps own) (h : OW T K own S w v xs) (t : Trn R w w') (d : ∀ b, S b → ¬ R b) : OW T K own S w' v xs := by
  rcases h with h | ⟨g, cap, F, N, hv, hl, hm, hg, hB, hN, hS, hF⟩
  · exact .inl h
  · exact .inr ⟨g, cap, F, N, hv, hl, hm, hg, blk_kept hB (t.block g (blk_lt hB) (d g hg)), hN, hS, fun i x hx => hk _ _ _ _ _ _ (hF i x hx) t (fun b hb => d b (hS i b hb).1)⟩
theorem OW.mono {S R : Nat → Prop} {w : World} {v : Value} {xs : List α} (h : OW T K own S w v xs) (k : ∀ b, S b → R b) : OW T K own R w v xs := by
  rcases h with h | ⟨g, cap, F, N, hv, hl, hm, hg, hB, hN, hS, hF⟩
  · exact .inl h
  · exact .inr ⟨g, cap, F, N, hv, hl, hm, k g hg, hB, hN, fun i b hb => ⟨k b (hS i b hb).1, (hS i b hb).2⟩, hF⟩

/-- The row v owns the elements xs (a row that grows by append). -/
structure OR {α : Type} (T K : Nat) (own : (Nat → Prop) → World → (Nat → Value) → α → Prop) (S : Nat → Prop) (w : World) (v : Value) (xs : List α) (F : Nat → Nat → Value) (N : Nat → Nat → Prop) : Prop where
  row : Row 0 T K w v xs.length F
  blk : ∀ b, v.ownBlock = some b → S b
  dis : ∀ i j b, i ≠ j → N i b → ¬ N j b
  rng : ∀ i b, N i b → S b ∧ v.ownBlock ≠ some b
  own : ∀ (i : Nat) x, xs[i]? = some x → own (N i) w (F i) x
theorem OR.nil (T K : Nat) (own : (Nat → Prop) → World → (Nat → Value) → α → Prop) (S : Nat → Prop) (w : World) (F : Nat → Nat → Value) : OR T K own S w (.slice none 0 0) [] F (fun _ _ => False) := ⟨Row.nil _ _ _ _ _, fun b h => (by cases h), fun _ _ _ _ h => h.elim, fun _ _ h => h.elim, fun i x h => by simp at h⟩
theorem OR.ow {S : Nat → Prop} {w : World} {v : Value} {xs : List α} {F : Nat → Nat → Value} {N : Nat → Nat → Prop} (h : OR T K own S w v xs F N) : OW T K own S w v xs := by
  rcases h.row.blk with ⟨rfl, h0⟩ | ⟨g, cap, rfl, _, hl, hm, hB⟩
  · exact .inl ⟨none, 0, rfl, ⟨rfl, rfl⟩, List.eq_nil_of_length_eq_zero h0⟩
  · exact .inr ⟨g, cap, F, N, rfl, hl, hm, h.blk g rfl, hB, h.dis, fun i b hb => ⟨(h.rng i b hb).1, fun e => (h.rng i b hb).2 (by rw [e]; rfl)⟩, h.own⟩
theorem OR.keep {S R : Nat → Prop} {w w' : World} {v : Value} {xs : List α} {F : Nat → Nat → Value} {N : Nat → Nat → Prop} (hk : Keeps own) (h : OR T K own S w v xs F N) (t : Trn R w w') (d : ∀ b, S b → ¬ R b) : OR T K own S w' v xs F N := by
  refine ⟨?_, h.blk, h.dis, h.rng, fun i x hx => hk _ _ _ _ _ _ (h.own i x hx) t (fun b hb => d b (h.rng i b hb).1)⟩
  obtain ⟨h1, h2⟩ := h.row
  refine ⟨h1, ?_⟩
  rcases h2 with h2 | ⟨g, cap, cur, hv, hb, hg, r⟩
  · exact .inl h2
  · exact .inr ⟨g, cap, cur, hv, hb, (t.block g (Array.getElem?_eq_some_iff.1 hg).1 (d g (h.blk g (by rw [hv]; rfl)))).trans hg, r⟩
theorem OR.ext {S : Nat → Prop} {w w' : World} {v : Value} {xs : List α} {F : Nat → Nat → Value} {N : Nat → Nat → Prop} (hk : Keeps own) (h : OR T K own S w v xs F N) (e : Ext w w') : OR T K own S w' v xs F N := h.keep hk (R := fun _ => False) (Trn.ext e) (fun _ _ h => h)
theorem OR.mono {S R : Nat → Prop} {w : World} {v : Value} {xs : List α} {F : Nat → Nat → Value} {N : Nat → Nat → Prop} (h : OR T K own S w v xs F N) (k : ∀ b, S b → R b) : OR T K own R w v xs F N := ⟨h.row, fun b hb => k b (h.blk b hb), h.dis, fun i b hb => ⟨k b (h.rng i b hb).1, (h.rng i b hb).2⟩, h.own⟩
theorem OR.lt {S : Nat → Prop} {w : World} {v : Value} {xs : List α} {F : Nat → Nat → Value} {N : Nat → Nat → Prop} (h : OR T K own S w v xs F N) (b : Nat) (hb : v.ownBlock = some b) : b < w.heap.size := (World.ownsRow.lt h.row b hb).2
theorem OR.shape {S : Nat → Prop} {w : World} {v : Value} {xs : List α} {F : Nat → Nat → Value} {N : Nat → Nat → Prop} (h : OR T K own S w v xs F N) : ∃ a c, v = .slice a xs.length c := h.row.shape
/-- One element more, appended. -/
theorem OR.push {S M : Nat → Prop} {w w' : World} {v v' : Value} {xs : List α} {F C : Nat → Nat → Value} {N : Nat → Nat → Prop} {x : α} (hk : Keeps own) (h : OR T K own S w v xs F N) (o : own M w (C 0) x) (hM : ∀ b, M b → ¬ S b) (hlt : ∀ b, S b ∨ M b → b < w.heap.size)
    (hr : Row 0 T K w' v' (xs.length + 1) (joinF xs.length F C)) (hg : w.grownBy w' v.ownBlock) (hv : v'.ownBlock = v.ownBlock ∨ v'.ownBlock = some w.heap.size) :
    OR T K own (fun b => S b ∨ M b ∨ (b = w.heap.size ∧ v'.ownBlock = some b)) w' v' (xs ++ [x]) (joinF xs.length F C) (fun i => if i = xs.length then M else if i < xs.length then N i else fun _ => False) := by
  have tr : Trn (fun b => v.ownBlock = some b) w w' := Trn.one hg (fun x e => e)
  have hne : ∀ b, S b ∨ M b → b ≠ w.heap.size := fun b hb e => by have := hlt b hb; omega
  refine ⟨by simpa using hr, fun b hb => ?_, fun i j b hij hi hj => ?_, fun i b hb => ?_, fun i y hy => ?_⟩
  · rcases hv with e | e
    · rw [e] at hb; exact .inl (h.blk b hb)
    · have hb2 := hb
      rw [e] at hb; cases hb; exact .inr (.inr ⟨rfl, hb2⟩)
  · by_cases e1 : i = xs.length
    · rw [if_pos e1] at hi
      rw [if_neg (by omega)] at hj
      split at hj
      · exact hM b hi (h.rng j b hj).1
      · exact hj
    · rw [if_neg e1] at hi
      split at hi
      · by_cases e2 : j = xs.length
        · rw [if_pos e2] at hj
          exact hM b hj (h.rng i b hi).1
        · rw [if_neg e2] at hj
          split at hj
          · exact h.dis i j b hij hi hj
          · exact hj
      · exact hi
  · by_cases e1 : i = xs.length
    · rw [if_pos e1] at hb
      refine ⟨.inr (.inl hb), fun e => ?_⟩
      rcases hv with e3 | e3
      · rw [e3] at e; exact hM b hb (h.blk b e)
      · rw [e3] at e; cases e; exact hne _ (.inr hb) rfl
    · rw [if_neg e1] at hb
      split at hb
      · refine ⟨.inl (h.rng i b hb).1, fun e => ?_⟩
        rcases hv with e3 | e3
        · rw [e3] at e; exact (h.rng i b hb).2 e
        · rw [e3] at e; cases e; exact hne _ (.inl (h.rng i _ hb).1) rfl
      · exact hb.elim
  · by_cases e1 : i = xs.length
    · subst e1
      have hy' : y = x := by simpa using hy.symm
      subst hy'
      have e2 : joinF xs.length F C xs.length = C 0 := by
        funext c
        unfold joinF
        rw [if_neg (Nat.lt_irrefl _), Nat.sub_self]
      rw [e2]
      simp only [if_true]
      exact hk _ _ _ _ _ _ o tr (fun b hb e => hM b hb (h.blk b e))
    · have hi : i < xs.length := by
        have := (List.getElem?_eq_some_iff.1 hy).1
        simp at this
        omega
      rw [List.getElem?_append_left hi] at hy
      have e2 : joinF xs.length F C i = F i := by
        funext c
        unfold joinF
        rw [if_pos hi]
      rw [e2]
      simp only [if_neg e1, if_pos hi]
      exact hk _ _ _ _ _ _ (h.own i y hy) tr (fun b hb e => (h.rng i b hb).2 e)
end

end Go.Proofs.Ytjkhadaoldbceaa
