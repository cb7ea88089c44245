/- One more member is said, on both sides: the state of a loop. -/
import Derived.Test.YtbphmgcfbjiadaaHd1
import Derived.Test.YtbphmgcfbjiadaaTbL
namespace Go.Proofs.Ytbphmgcfbjiadaa
open Go.RowKit

/-- Where the table stands behind k members that were said. -/
def MgSt (T : DTab) (ms : List DMem) (w2 : World) (gt k : Nat) (W : World) : Prop :=
  Below w2.heap.size w2 W ∧ ∃ g cap, W.heap[gt]? = some (.cells #[.int .i64 T.self, .slice (some ⟨g, 0, none⟩) (foldD T ms k).1.mems.length cap] 30 (0, 0)) ∧ OwMem W w2.heap.size (.slice (some ⟨g, 0, none⟩) (foldD T ms k).1.mems.length cap) (foldD T ms k).1.mems
theorem MgSt.ext {T : DTab} {ms : List DMem} {w2 W W' : World} {gt k : Nat} (h : MgSt T ms w2 gt k W) (e : Ext W W') : MgSt T ms w2 gt k W' := by
  obtain ⟨b, g, cap, p, o⟩ := h
  exact ⟨b.trans ((ext_bel e).mono b.size), g, cap, ext_blk e p, o.ext e⟩
/-- One more is said. -/
theorem MgSt.say {T : DTab} {ms : List DMem} {w2 W : World} {gt k : Nat} {m : DMem} (h : MgSt T ms w2 gt k W) (hg : w2.heap.size ≤ gt) (hT : TabP T) (hms : ∀ t ∈ ms, memB t = true) (hm : ms[k]? = some m) (P : FuncId)
    (hP : ∀ (gt base g cap n : Nat) (T : DTab) (m : DMem) (w : World) (_hb : w.heap[gt]? = some (.cells #[.int .i64 T.self, .slice (some ⟨g, 0, none⟩) n cap] 30 (0, 0))) (_ho : OwMem w base (.slice (some ⟨g, 0, none⟩) n cap) T.mems) (_hn : n = T.mems.length) (_hT : TabP T) (_hm : memB m = true) (_hne : g ≠ gt) (_hbs : base ≤ w.heap.size) (_hc : n ≤ cap) (_hcm : cap ≤ maxLen), Calls Try.prog P #[.pointer (some ⟨gt, 0, none⟩), .agg #[.int .i64 m.id, .int .i64 m.st, .int .i64 m.life]] w (SaidP gt base g T (sayD T m) w)) :
    Calls Try.prog P #[.pointer (some ⟨gt, 0, none⟩), .agg #[.int .i64 m.id, .int .i64 m.st, .int .i64 m.life]] W fun e W' => ∃ sb, e = .returned (.bool sb) ∧ (foldD T ms (k + 1)).2 = ((foldD T ms k).2 || sb) ∧ MgSt T ms w2 gt (k + 1) W' := by
  obtain ⟨b, g, cap, p, o⟩ := h
  have hF := foldD_tab hT hms k
  have hS := foldD_self T ms k
  obtain ⟨_, cap', hv, hgb, hc, hcm⟩ := o.at (tab_pos hF)
  simp only [Value.slice.injEq, Option.some.injEq, Addr.mk.injEq, and_true, true_and] at hv
  obtain ⟨rfl, rfl⟩ := hv
  have hne : g ≠ gt := fun e => ne_rowM o p (by decide) (by rw [e]; rfl)
  rw [← hS] at p
  refine (hP gt w2.heap.size g cap _ (foldD T ms k).1 m W p o rfl hF (hms m (List.mem_of_getElem? hm)) hne b.size hc hcm).mono ?_
  rintro e W' ⟨rfl, tv, p', o', s'⟩
  refine ⟨_, rfl, by rw [foldD_succ hm]; rfl, b.trans (s'.below b.size hg hgb), ?_⟩
  have hl : 0 < (sayD (foldD T ms k).1 m).1.mems.length := tab_pos (tab_say hF (hms m (List.mem_of_getElem? hm)))
  obtain ⟨g', cap', rfl, _, _, _⟩ := o'.at hl
  rw [foldD_succ hm]
  rw [hS] at p'
  exact ⟨g', cap', p', o'⟩

end Go.Proofs.Ytbphmgcfbjiadaa
