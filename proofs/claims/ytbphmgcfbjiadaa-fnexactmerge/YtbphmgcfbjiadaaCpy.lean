/- 'copy' at members: three cells an element; rows that are laid over. -/
import Derived.Test.YtbphmgcfbjiadaaElMem2
import Derived.Laws.CopyOwn
import Derived.Laws.Externs
import Derived.Lib.Overlaps
namespace Go.Proofs.Ytbphmgcfbjiadaa
open Go.RowKit

theorem run_copyM (w : World) (t ty : TypeId) (ht : Try.prog.underlying t = some (.slice 34)) (g off dLen dCap : Nat) (a : Addr) (sLen sCap : Nat) (cur cs : List Value) (hg : w.heap[g]? = some (.cells cur.toArray 34 (0, 0))) (hn : cs.length = Nat.min sLen dLen * 3)
    (hsrc : ∀ (j : Nat) v, cs[j]? = some v → w.cell? (a.add j) = some v) (hfit : off + cs.length ≤ cur.length) (h1 : ∀ v ∈ cs, v.oneCell' = true) :
    (Builtin.copy_ #[t, t] ty #[.slice (some ⟨g, off, none⟩) dLen dCap, .slice (some a) sLen sCap]).run Try.prog w = .ok (goInt (Nat.min sLen dLen)) (w.setRow g (splice cur off cs).toArray) := by
  obtain ⟨i0, hi, hz0, hz1, hz2⟩ := info_parts info_Mem
  have hl := run_loadCells_list (P := Try.prog) w a cs hsrc
  have hst := run_storeCells_at Try.prog g off 34 cs 0 cur.toArray w hg (by simpa using hfit) h1
  simp [Builtin.copy_, run_underlying ht, Builtin.lenOf, Builtin.firstCells, sizeOf, typeInfo, hi, hz1, ← hn, hl, hst, splice]
theorem setRow_grown (w : World) (g : Nat) (cs : Array Value) : w.grownBy (w.setRow g cs) (some g) := ⟨rfl, rfl, rfl, by simp [World.setRow], fun k _ hk => setRow_other w g k cs (fun e => hk (by rw [e]))⟩
theorem wpList_copyM {w : World} {ops : Array Oper} {rest : List Oper} {o : Oper} {a : Act} {Q : Exit → Act → World → Prop} (hgd : o.guard = none) (d s : Operand) (t : TypeId) (ht : Try.prog.underlying t = some (.slice 34))
    (ho : o.op = .call { callee := .builtin .copy, args := #[d, s], argTypes := #[t, t] }) (g off dLen dCap : Nat) (ad : Addr) (sLen sCap : Nat) (hd : a.eval d = .slice (some ⟨g, off, none⟩) dLen dCap) (hs : a.eval s = .slice (some ad) sLen sCap)
    (cur cs : List Value) (hg : w.heap[g]? = some (.cells cur.toArray 34 (0, 0))) (hn : cs.length = Nat.min sLen dLen * 3) (hsrc : ∀ (j : Nat) v, cs[j]? = some v → w.cell? (ad.add j) = some v) (hfit : off + cs.length ≤ cur.length) (h1 : ∀ v ∈ cs, v.oneCell' = true)
    (h : ∀ w', Hid (w'.heap[g]? = some (.cells (splice cur off cs).toArray 34 (0, 0))) → w.grownBy w' (some g) → wpList Try.prog ops Q rest (a.put o.dst (goInt (Nat.min sLen dLen))) w') : wpList Try.prog ops Q (o :: rest) a w := by
  refine wpList_plain hgd fun K hK => ?_
  have hrun := run_copyM w t o.type ht g off dLen dCap ad sLen sCap cur cs hg hn hsrc hfit h1
  unfold Oper.wp execOp
  simp only [ho, resolve, invoke, builtin, Sem.run_bind, Sem.run_pure, Result.andThen_ok, List.map_toArray, List.map_cons, List.map_nil, hd, hs, hrun]
  exact hK _ _ (h _ (setRow_heap w g _ _ _ _ hg) (setRow_grown _ _ _))
theorem step_copyM {ops : Array Oper} {o : Oper} {a : Act} {w : World} {K : Act → World → Prop} {Q : Exit → Act → World → Prop} {E : Prop} (hgd : o.guard = none) (d s : Operand) (t : TypeId) (ht : Try.prog.underlying t = some (.slice 34))
    (ho : o.op = .call { callee := .builtin .copy, args := #[d, s], argTypes := #[t, t] }) (g off dLen dCap : Nat) (ad : Addr) (sLen sCap : Nat) (hd : a.eval d = .slice (some ⟨g, off, none⟩) dLen dCap) (hs : a.eval s = .slice (some ad) sLen sCap)
    (cur cs : List Value) (hg : w.heap[g]? = some (.cells cur.toArray 34 (0, 0))) (hn : cs.length = Nat.min sLen dLen * 3) (hsrc : ∀ (j : Nat) v, cs[j]? = some v → w.cell? (ad.add j) = some v) (hfit : off + cs.length ≤ cur.length) (h1 : ∀ v ∈ cs, v.oneCell' = true)
    (h : ∀ w', Hid (w'.heap[g]? = some (.cells (splice cur off cs).toArray 34 (0, 0))) → w.grownBy w' (some g) → K (a.put o.dst (goInt (Nat.min sLen dLen))) w') :
    if Region.wanted o (yielded ops a.tmps) = true then Oper.wp Try.prog o a w K Q else E := by
  have hw : Region.wanted o (yielded ops a.tmps) = true := by simp [Region.wanted, hgd]
  rw [if_pos hw]
  have hrun := run_copyM w t o.type ht g off dLen dCap ad sLen sCap cur cs hg hn hsrc hfit h1
  unfold Oper.wp execOp
  simp only [ho, resolve, invoke, builtin, Sem.run_bind, Sem.run_pure, Result.andThen_ok, List.map_toArray, List.map_cons, List.map_nil, hd, hs, hrun]
  exact h _ (setRow_heap w g _ _ _ _ hg) (setRow_grown _ _ _)

theorem sizeM (w : World) : (Go.sizeOf 34).run Try.prog w = .ok 3 w := by kernel_rfl
/-- What lies in two blocks does not overlap. -/
theorem overV (w : World) (vb g off lb cb : Nat) (cv cg : Array Value) (hv : w.heap[vb]? = some (.cells cv 34 (0, 0))) (hg : w.heap[g]? = some (.cells cg 34 (0, 0))) (hne : vb ≠ g) (h0 : cg.size ≠ 0) :
    (callFunc 41 #[.slice (some ⟨vb, 0, none⟩) 1 1, .slice (some ⟨g, off, none⟩) lb cb]).run Try.prog w = .ok (.value (.bool false)) w := by
  rw [run_callFunc_extern Try.func41 (by kernel_rfl) (by kernel_rfl) (by kernel_rfl) (e := Extern.SlicesOverlaps.overlaps #[28, 28] #[4]) (by kernel_rfl),
    Lib.run_overlaps_apart w 28 4 34 Try.underlying28 3 sizeM ⟨vb, 0, none⟩ ⟨g, off, none⟩ 1 1 lb cb hne 34 34 cv.size cg.size (by simp [World.shape?, hv]) (by simp [World.shape?, hg]) h0 (by simp [World.frozen?, hv]) (by simp [World.frozen?, hv])]
  rfl

/-- Shifted up by three in place, then three laid in the gap. -/
theorem splice_shift (A B C V : List Value) (hV : V.length = 3) (hC : 3 ≤ C.length) : ∃ D, splice (splice (A ++ B ++ C) (A.length + 3) B) A.length V = A ++ V ++ B ++ D := by
  have h1 : ((A ++ B ++ C).take (A.length + 3)).length = A.length + 3 := by simp; omega
  refine ⟨(A ++ B ++ C).drop (A.length + 3 + B.length), ?_⟩
  unfold splice
  rw [List.take_append_of_le_length (by omega), List.take_take, show min A.length (A.length + 3) = A.length by omega, List.append_assoc A B C, List.take_left' rfl, hV, List.drop_left' (by simpa [List.append_assoc] using h1)]
  simp [List.append_assoc]
/-- Laid into a row that was made. -/
theorem splice_fill (A Z V B : List Value) (hV : V.length = 3) : ∃ D, splice (splice (A ++ Z) A.length V) (A.length + 3) B = A ++ V ++ B ++ D := by
  have h2 : splice (A ++ Z) A.length V = A ++ V ++ Z.drop 3 := by
    unfold splice
    rw [List.take_left' rfl, hV, List.drop_append, List.drop_of_length_le (by omega)]
    simp
  rw [h2]
  unfold splice
  rw [List.take_left' (by simp [hV])]
  exact ⟨_, by rw [List.append_assoc (A ++ V) B]⟩

end Go.Proofs.Ytbphmgcfbjiadaa
