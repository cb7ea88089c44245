/- Marks in an owned list of items, none or a block: laid and held. -/
import Derived.Test.YtdcbajejgphlgaaIg
import Derived.Test.YtdcbajejgphlgaaIx
namespace Go.Proofs.Ytdcbajejgphlgaa
open Go.RowKit

/-- Blocks that hold neither bytes nor items are as they were. -/
def Oth2 (w w' : World) : Prop := ∀ (b : Nat) (cur : Array Value) (t : TypeId), t ≠ 5 → t ≠ 74 → w.heap[b]? = some (.cells cur t (0, 0)) → w'.heap[b]? = some (.cells cur t (0, 0))

/-- The list is marked from 1 on. -/
def LogM (lo : Nat) (w : World) (lv : Value) (ss : List DItem) : Prop := (lv = .slice none 0 0 ∧ ss = []) ∨ ∃ g cap F F', lv = .slice (some ⟨g, 0, none⟩) ss.length cap ∧ ss.length ≤ cap ∧ Blk w g 74 7 cap ss.length F' ∧ IxM 1 ss F F' ss.length ∧ IxW 1 ss F lo w ss.length
theorem LogM.ext {lo : Nat} {w w' : World} {lv : Value} {ss : List DItem} (h : LogM lo w lv ss) (e : Ext w w') : LogM lo w' lv ss := by
  rcases h with h | ⟨g, cap, F, F', rfl, h1, h2, h3, h4⟩
  · exact .inl h
  · exact .inr ⟨g, cap, F, F', rfl, h1, blk_kept h2 (e.block g (blk_lt h2) (by simp)), h3, h4.ext e⟩
/-- A block turned that holds neither bytes nor items. -/
theorem LogM.keep {lo x : Nat} {w w' : World} {lv : Value} {ss : List DItem} (h : LogM lo w lv ss) (hg : w.grownBy w' (some x)) {cur : Array Value} {t : TypeId} (hx : w.heap[x]? = some (.cells cur t (0, 0))) (h5 : t ≠ 5) (hI : t ≠ 74) : LogM lo w' lv ss := by
  rcases h with h | ⟨g, cap, F, F', rfl, h1, h2, h3, h4⟩
  · exact .inl h
  · refine .inr ⟨g, cap, F, F', rfl, h1, ?_, h3, ?_⟩
    · refine blk_kept h2 (hg.block g (blk_lt h2) (fun e => ?_))
      obtain ⟨c, hc, _⟩ := h2
      have e' : g = x := by simpa using e
      subst e'
      rw [hx] at hc
      cases hc
      exact hI rfl
    · refine h4.keep hg (fun i hi c hc e => ?_)
      obtain ⟨s, hs⟩ : ∃ s, ss[i]? = some s := ⟨_, List.getElem?_eq_getElem hi⟩
      have ho := (h4 i s hs).1 hi
      rcases hc with rfl | rfl
      · obtain ⟨c', hc'⟩ := ow_ty ho.1 x e
        rw [hx] at hc'
        cases hc'
        exact h5 rfl
      · obtain ⟨c', hc'⟩ := ow_ty ho.2 x e
        rw [hx] at hc'
        cases hc'
        exact h5 rfl

/-- What is asked of a list's sizes. -/
def LogL (ss : List DItem) : Prop := ss.length ≤ 1048576 ∧ (∀ (i : Nat) s, ss[i]? = some s → s.cmd.op.key.length ≤ 2097152 ∧ s.cmd.op.val.length ≤ 2097152) ∧ ss.length * 5 + sI ss ≤ 50000000

theorem markLog (lo : Nat) (lv : Value) (ss : List DItem) (F : Nat → Nat → Value) (w : World) (h : IG lo w lv ss F) (hl : LogL ss) (hls : lo ≤ w.heap.size) :
    Calls Try.prog 29 #[lv, .int .i64 1] w fun e w' => e = .returned (.int .i64 (kI 1 ss ss.length)) ∧ LogM lo w' lv ss ∧ Below lo w w' ∧ Oth2 w w' := by
  rcases h.blk with ⟨rfl, rfl⟩ | ⟨g, cap, rfl, hb, hg, h1, h2, h3⟩
  · refine (markIN 1 w).mono ?_
    rintro e w' ⟨rfl, rfl⟩
    exact ⟨rfl, .inl ⟨rfl, rfl⟩, Below.refl _ _, fun _ _ _ _ _ h => h⟩
  · have own : ∀ i, i < ss.length → ∀ c, (c = 4 ∨ c = 5) → (F i c).ownBlock ≠ some g := fun i hi c hc e => by
      rcases h.own i hi c hc with h' | h'
      · rw [h'] at e; cases e
      · exact h' (by rw [e]; rfl)
    refine (markIX lo g ss.length cap F ss 1 w h3 rfl h1 hb hls (fun i s hs => by obtain ⟨_, _, _, _, e4, e5, _⟩ := h.cel i s hs; exact ⟨e4, e5⟩) own h.dis hl.2.1 (by have := hl.2.2; omega) (by omega) (by omega) (by unfold maxLen at h2; omega)).mono ?_
    rintro e w' ⟨rfl, ⟨F', b1, m1⟩, w1, bl, ot⟩
    refine ⟨rfl, .inr ⟨g, cap, F, F', rfl, h1, b1, m1, w1⟩, bl, fun b cur t ht hI hc => ot b cur t ht (fun e => ?_) hc⟩
    obtain ⟨c, hc', _⟩ := h3
    subst e
    rw [hc] at hc'
    cases hc'
    exact hI rfl

theorem heldLog (lo : Nat) (lv : Value) (ss : List DItem) (w : World) (h : LogM lo w lv ss) (hl : LogL ss) :
    Calls Try.prog 32 #[lv, .int .i64 1] w fun e w' => e = .returned (.int .i64 (kI 1 ss ss.length)) ∧ ∃ q, w' = w.drewN q := by
  rcases h with ⟨rfl, rfl⟩ | ⟨g, cap, F, F', rfl, h1, h2, h3, h4⟩
  · refine (heldIN 1 w).mono ?_
    rintro e w' ⟨rfl, rfl⟩
    exact ⟨rfl, 0, rfl⟩
  · exact heldIX lo g ss.length cap F F' ss 1 w h2 rfl h1 h3 h4 hl.2.1 (by have := hl.2.2; omega) (by omega) (by omega)

theorem IG.same {base : Nat} {w w' : World} {v : Value} {ss : List DItem} {F : Nat → Nat → Value} (h : IG base w v ss F) (hs : ∀ b, base ≤ b → b < w.heap.size → w'.heap[b]? = w.heap[b]?) : IG base w' v ss F := by
  have osame : ∀ {u : Value} {xs : List Int}, Ow w base u xs → Ow w' base u xs := fun {u xs} o => by
    refine ⟨o.1, ?_⟩
    rcases o.2 with h2 | ⟨g, cap, cur, hv, hb, hg, r⟩
    · exact .inl h2
    · exact .inr ⟨g, cap, cur, hv, hb, (hs g hb (Array.getElem?_eq_some_iff.1 hg).1).trans hg, r⟩
  refine ⟨⟨h.row.1, ?_⟩, fun i s hs' => ?_, h.own, h.dis⟩
  · rcases h.row.2 with h2 | ⟨g, cap, cur, hv, hb, hg, r⟩
    · exact .inl h2
    · exact .inr ⟨g, cap, cur, hv, hb, (hs g hb (Array.getElem?_eq_some_iff.1 hg).1).trans hg, r⟩
  · obtain ⟨e0, e1, e2, e3, e4, e5, e6⟩ := h.cel i s hs'
    exact ⟨e0, e1, e2, e3, osame e4, osame e5, e6⟩
theorem IG.set {base x j : Nat} {w : World} {u v : Value} {ss : List DItem} {F : Nat → Nat → Value} (h : IG base w v ss F) (hx : x < base) : IG base (w.setCell ⟨x, j, none⟩ u) v ss F :=
  h.same (fun b hb _ => Below.heap_setCell _ _ _ _ (show b ≠ x by omega))

end Go.Proofs.Ytdcbajejgphlgaa
