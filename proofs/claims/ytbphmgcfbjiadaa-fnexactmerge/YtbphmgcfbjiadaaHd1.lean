/- What is said of a member, on both sides: one contract. -/
import Derived.Test.YtbphmgcfbjiadaaMiHb
import Derived.Test.YtbphmgcfbjiadaaMs8c
namespace Go.Proofs.Ytbphmgcfbjiadaa
open Go.RowKit

/-- It was said: the table's box holds what is left, in a row of its own. -/
def SaidP (gt base g : Nat) (T : DTab) (R : DTab × Bool) (w : World) (e : Ending) (w' : World) : Prop :=
  e = .returned (.bool R.2) ∧ ∃ tv, w'.heap[gt]? = some (.cells #[.int .i64 T.self, tv] 30 (0, 0)) ∧ OwMem w' base tv R.1.mems ∧ SayW gt (some g) w w'
theorem SayW.below {gt g B : Nat} {w w' : World} (h : SayW gt (some g) w w') (hB : B ≤ w.heap.size) (h1 : B ≤ gt) (h2 : B ≤ g) : Below B w w' := ⟨h.os, h.tape, h.output, h.size, fun k hk => h.block k (by omega) (by omega) (by simp; omega)⟩
theorem SayW.blk {gt g b : Nat} {w w' : World} {o : Obj} (h : SayW gt (some g) w w') (h1 : b ≠ gt) (h2 : b ≠ g) (hb : w.heap[b]? = some o) : w'.heap[b]? = some o := (h.block b (Array.getElem?_eq_some_iff.1 hb).1 h1 (by simpa using h2)).trans hb
theorem iSayV (gt base g cap n : Nat) (T : DTab) (m : DMem) (w : World) (hb : w.heap[gt]? = some (.cells #[.int .i64 T.self, .slice (some ⟨g, 0, none⟩) n cap] 30 (0, 0))) (ho : OwMem w base (.slice (some ⟨g, 0, none⟩) n cap) T.mems) (hn : n = T.mems.length) (hT : TabP T) (hm : memB m = true) (hne : g ≠ gt) (hbs : base ≤ w.heap.size) (hc : n ≤ cap) (hcm : cap ≤ maxLen) :
    Calls Try.prog 24 #[.pointer (some ⟨gt, 0, none⟩), .agg #[.int .i64 m.id, .int .i64 m.st, .int .i64 m.life]] w (SaidP gt base g T (sayD T m) w) := by
  rcases placeM_cases T.mems m.id with ⟨hp, _⟩ | ⟨i, t, ht, _, _, hp⟩
  · rw [sayD_none hp]
    exact hear_none gt base g cap n T m w hb ho hn hT hp hne hbs hc hcm
  · rw [sayD_some hp ht]
    exact (hear_some gt base g cap n i T m t w hb ho hn hT hm hp ht hne).mono fun e w' ⟨h1, h2, h3, h4⟩ => ⟨h1, _, h2, h3, h4⟩
theorem sSayV (gt base g cap n : Nat) (T : DTab) (m : DMem) (w : World) (hb : w.heap[gt]? = some (.cells #[.int .i64 T.self, .slice (some ⟨g, 0, none⟩) n cap] 30 (0, 0))) (ho : OwMem w base (.slice (some ⟨g, 0, none⟩) n cap) T.mems) (hn : n = T.mems.length) (hT : TabP T) (hm : memB m = true) (hne : g ≠ gt) (hbs : base ≤ w.heap.size) (hc : n ≤ cap) (hcm : cap ≤ maxLen) :
    Calls Try.prog 19 #[.pointer (some ⟨gt, 0, none⟩), .agg #[.int .i64 m.id, .int .i64 m.st, .int .i64 m.life]] w (SaidP gt base g T (sayD T m) w) := by
  have h12 := hT.1
  rcases placeM_cases T.mems m.id with ⟨hp, _⟩ | ⟨i, t, ht, _, _, hp⟩
  · rw [sayD_none hp]
    exact sSay_none gt base g cap n T m w hb ho hn (by omega) hp hne hbs hc hcm
  · rw [sayD_some hp ht]
    exact (sSay_some gt base g cap n i T m t w hb ho hn (by omega) hp ht hne (by have := memB_iff.1 hm; omega)).mono fun e w' ⟨h1, h2, h3, h4⟩ => ⟨h1, _, h2, h3, h4⟩
theorem tab_pos {T : DTab} (h : TabP T) : 0 < T.mems.length := by
  obtain ⟨i, t, ht, _⟩ := h.2.2
  have := (List.getElem?_eq_some_iff.1 ht).1
  omega
theorem al3_0 (w : World) (a b c : Obj) : (((w.alloc a).alloc b).alloc c).heap[w.heap.size]? = some a := by
  rw [Below.heap_alloc _ _ _ (by simp; omega), al2_0]
theorem al3_1 (w : World) (a b c : Obj) : (((w.alloc a).alloc b).alloc c).heap[w.heap.size + 1]? = some b := by
  rw [Below.heap_alloc _ _ _ (by simp), al2_1]
theorem al3_2 (w : World) (a b c : Obj) : (((w.alloc a).alloc b).alloc c).heap[w.heap.size + 1 + 1]? = some c := by
  have := heap_alloc_new ((w.alloc a).alloc b) c
  simpa using this

end Go.Proofs.Ytbphmgcfbjiadaa
