
/- What is said of a member, as plain functions; parts of a row of members. -/
import Derived.Test.YtmodliaieienfaaMs3
import Derived.Test.YtmodliaieienfaaMd2
import Derived.Test.YtmodliaieienfaaMdI
import Derived.Test.YtmodliaieienfaaMsC1
namespace Go.Proofs.Ytmodliaieienfaa
open Go.RowKit

/-- The member goes to its place. -/
def insD (T : DTab) (m : DMem) : DTab := ⟨T.self, T.mems.take (insK T.mems m.id) ++ [m] ++ T.mems.drop (insK T.mems m.id)⟩
/-- What is said of a member that is there. -/
def overD (T : DTab) (m t : DMem) (i : Nat) : DTab × Bool :=
  if beatsB m t = false then (T, false)
  else if m.id = T.self ∧ t.st = 0 ∧ m.st ≠ 0 ∧ m.life < 1000 then (⟨T.self, T.mems.set i ⟨t.id, t.st, m.life + 1⟩⟩, true)
  else if m.id = T.self ∧ t.st = 3 ∧ m.life < 1000 then (⟨T.self, T.mems.set i ⟨t.id, t.st, m.life⟩⟩, true)
  else (⟨T.self, T.mems.set i m⟩, true)
def sayD (T : DTab) (m : DMem) : DTab × Bool :=
  if placeM T.mems m.id < 0 then (insD T m, true)
  else match T.mems[(placeM T.mems m.id).toNat]? with
    | some t => overD T m t (placeM T.mems m.id).toNat
    | none => (insD T m, true)
theorem sayD_none {T : DTab} {m : DMem} (hp : placeM T.mems m.id = -1) : sayD T m = (insD T m, true) := by unfold sayD; rw [if_pos (by omega)]
theorem sayD_some {T : DTab} {m t : DMem} {i : Nat} (hp : placeM T.mems m.id = (i : Int)) (ht : T.mems[i]? = some t) : sayD T m = overD T m t i := by
  unfold sayD
  rw [if_neg (by omega), hp, Int.toNat_natCast, ht]

/-- What may have turned: the table's box, its row. -/
structure SayW (gt : Nat) (row : Option Nat) (w w' : World) : Prop where
  os : w'.os = w.os
  tape : w'.tape = w.tape
  output : w'.output = w.output
  size : w.heap.size ≤ w'.heap.size
  block : ∀ k, k < w.heap.size → k ≠ gt → some k ≠ row → w'.heap[k]? = w.heap[k]?
theorem SayW.ext {gt : Nat} {row : Option Nat} {w w' : World} (e : Ext w w') : SayW gt row w w' := ⟨e.os, e.tape, e.output, e.size, fun k hk _ _ => e.block k hk (by simp)⟩
theorem SayW.grown {gt : Nat} {row r2 : Option Nat} {w w1 w2 : World} (h : SayW gt row w w1) (g : w1.grownBy w2 r2) (hr : ∀ k, r2 = some k → k = gt ∨ some k = row ∨ w.heap.size ≤ k) : SayW gt row w w2 :=
  ⟨g.os.trans h.os, g.tape.trans h.tape, g.output.trans h.output, Nat.le_trans h.size g.size, fun k hk h1 h2 => (g.block k (Nat.lt_of_lt_of_le hk h.size) (fun e => by
    rcases hr k e.symm with e1 | e1 | e1
    · exact h1 e1
    · exact h2 e1
    · omega)).trans (h.block k hk h1 h2)⟩

theorem OwMem.pre {w : World} {base g cap n : Nat} {ts : List DMem} (h : OwMem w base (.slice (some ⟨g, 0, none⟩) n cap) ts) (hn : n = ts.length) (k : Nat) (hk : k ≤ n) (hc : n ≤ cap) (hm : cap ≤ maxLen) : VMem w (.slice (some ⟨g, 0, none⟩) k cap) (ts.take k) := by
  have hl : (ts.take k).length = k := by rw [List.length_take]; omega
  have hg : g < w.heap.size := (h.lt g (by simp [Value.ownBlock])).2
  refine ⟨fun i j => if j = 0 then .int .i64 (ts.getD i ⟨0, 0, 0⟩).id else if j = 1 then .int .i64 (ts.getD i ⟨0, 0, 0⟩).st else .int .i64 (ts.getD i ⟨0, 0, 0⟩).life, ⟨_, cap, by rw [hl], by omega, hm, fun _ => ⟨g, 0, rfl, hg, fun i hi j hj => ?_⟩⟩, fun i r hr => ?_⟩
  · rw [hl] at hi
    obtain ⟨c0, c1, c2, _⟩ := h.cells hn (List.getElem?_eq_getElem (show i < ts.length by omega))
    have hj : j = 0 ∨ j = 1 ∨ j = 2 := by omega
    rcases hj with rfl | rfl | rfl
    · rw [Nat.zero_add, Nat.add_zero, c0]; simp [List.getD, show i < ts.length by omega]
    · rw [Nat.zero_add, c1]; simp [List.getD, show i < ts.length by omega]
    · rw [Nat.zero_add, c2]; simp [List.getD, show i < ts.length by omega]
  · have hr' : ts[i]? = some r := by
      have hi := (List.getElem?_eq_some_iff.1 hr).1
      rw [List.getElem?_take] at hr
      split at hr
      · exact hr
      · cases hr
    simp [List.getD, hr']
theorem OwMem.suf {w : World} {base g cap n : Nat} {ts : List DMem} (h : OwMem w base (.slice (some ⟨g, 0, none⟩) n cap) ts) (hn : n = ts.length) (k : Nat) (hk : k ≤ n) (hc : n ≤ cap) (hm : cap ≤ maxLen) : VMem w (.slice (some ⟨g, k * 3, none⟩) (n - k) (cap - k)) (ts.drop k) := by
  have hl : (ts.drop k).length = n - k := by rw [List.length_drop]; omega
  have hg : g < w.heap.size := (h.lt g (by simp [Value.ownBlock])).2
  refine ⟨fun i j => if j = 0 then .int .i64 (ts.getD (k + i) ⟨0, 0, 0⟩).id else if j = 1 then .int .i64 (ts.getD (k + i) ⟨0, 0, 0⟩).st else .int .i64 (ts.getD (k + i) ⟨0, 0, 0⟩).life, ⟨_, cap - k, by rw [hl], by omega, by unfold maxLen at *; omega, fun _ => ⟨g, k * 3, rfl, hg, fun i hi j hj => ?_⟩⟩, fun i r hr => ?_⟩
  · rw [hl] at hi
    obtain ⟨c0, c1, c2, _⟩ := h.cells hn (List.getElem?_eq_getElem (show k + i < ts.length by omega))
    have e0 : k * 3 + i * 3 = (k + i) * 3 := by omega
    have hj : j = 0 ∨ j = 1 ∨ j = 2 := by omega
    rcases hj with rfl | rfl | rfl
    · rw [e0, Nat.add_zero, c0]; simp [List.getD, show k + i < ts.length by omega]
    · rw [e0, c1]; simp [List.getD, show k + i < ts.length by omega]
    · rw [e0, c2]; simp [List.getD, show k + i < ts.length by omega]
  · rw [List.getElem?_drop] at hr
    simp [List.getD, hr]

end Go.Proofs.Ytmodliaieienfaa
