
/- Timers in memory of their own: rows of two cells, read, stored into, swapped. -/
import Derived.Test.YtnklnhnjmikooaaGreatHpA
import Derived.Laws.OwnMore
import Derived.OwnWalk
import Derived.Maps.AppendAt
namespace Go.Proofs.YtnklnhnjmikooaaGreat
open Go.RowKit

/-- Timers, cell by cell. -/
def tc (ts : List DTim) : List Value := ts.flatMap fun t => [.int .i64 t.id, .int .i64 t.due]
theorem tc_len (ts : List DTim) : (tc ts).length = ts.length * 2 := by
  induction ts with
  | nil => rfl
  | cons t ts ih => simp [tc] at ih ⊢; omega
theorem tc_cons (t : DTim) (ts : List DTim) : tc (t :: ts) = .int .i64 t.id :: .int .i64 t.due :: tc ts := by simp [tc]
theorem tc_append (xs ys : List DTim) : tc (xs ++ ys) = tc xs ++ tc ys := by simp [tc]
theorem tc_get {ts : List DTim} {i : Nat} {t : DTim} (h : ts[i]? = some t) : (tc ts)[i * 2]? = some (.int .i64 t.id) ∧ (tc ts)[i * 2 + 1]? = some (.int .i64 t.due) := by
  induction ts generalizing i with
  | nil => simp at h
  | cons u us ih =>
    rw [tc_cons]
    match i with
    | 0 =>
      simp only [List.getElem?_cons_zero, Option.some.injEq] at h
      subst h
      exact ⟨rfl, rfl⟩
    | i + 1 =>
      have := ih (i := i) (by simpa using h)
      rw [show (i + 1) * 2 = i * 2 + 1 + 1 by omega]
      simpa using this
theorem tc_set (ts : List DTim) (i : Nat) (t : DTim) : ((tc ts).set (i * 2) (.int .i64 t.id)).set (i * 2 + 1) (.int .i64 t.due) = tc (ts.set i t) := by
  induction ts generalizing i with
  | nil => rfl
  | cons u us ih =>
    match i with
    | 0 => simp [tc_cons]
    | i + 1 =>
      rw [show (i + 1) * 2 = i * 2 + 1 + 1 by omega, tc_cons]
      simp only [List.set_cons_succ, tc_cons]
      rw [ih i]
theorem tc_take (ts : List DTim) (n : Nat) : (tc ts).take (n * 2) = tc (ts.take n) := by
  induction ts generalizing n with
  | nil => simp [tc]
  | cons u us ih =>
    match n with
    | 0 => simp [tc]
    | n + 1 =>
      rw [show (n + 1) * 2 = n * 2 + 1 + 1 by omega, tc_cons]
      simp only [List.take_succ_cons, tc_cons, ih n]

/-- The value v is a row of timers of the call's own, from block base on. -/
def OwT (w : World) (base : Nat) (v : Value) (ts : List DTim) : Prop := w.ownsRow base 114 2 v ts.length (tc ts)

theorem OwT.cells {w : World} {base g cap n : Nat} {ts : List DTim} (h : OwT w base (.slice (some ⟨g, 0, none⟩) n cap) ts) (hn : n = ts.length) {i : Nat} {t : DTim} (ht : ts[i]? = some t) :
    w.cell? ⟨g, i * 2, none⟩ = some (.int .i64 t.id) ∧ w.cell? ⟨g, i * 2 + 1, none⟩ = some (.int .i64 t.due) ∧ w.frozen? ⟨g, i * 2, none⟩ = false ∧ w.frozen? ⟨g, i * 2 + 1, none⟩ = false := by
  subst hn
  have hi := (List.getElem?_eq_some_iff.1 ht).1
  obtain ⟨h1, h2⟩ := tc_get ht
  exact ⟨(World.ownsRow.cellAt h (i * 2) (by omega)).trans h1, (World.ownsRow.cellAt h (i * 2 + 1) (by omega)).trans h2, World.ownsRow.frozenAt h _, World.ownsRow.frozenAt h _⟩
theorem OwT.v {w : World} {base : Nat} {v : Value} {ts : List DTim} (h : OwT w base v ts) : VTims w v ts := by
  obtain ⟨hl, hh⟩ := h
  rcases hh with ⟨rfl, h0⟩ | ⟨g, cap, cur, rfl, hb, hg, hn, hm, hs, ht⟩
  · have : ts = [] := List.eq_nil_of_length_eq_zero h0
    subst this
    exact ⟨fun _ _ => .bool true, ⟨none, 0, rfl, Nat.le_refl _, Nat.zero_le _, fun h => absurd h (by simp)⟩, fun i r hr => by simp at hr⟩
  · have hw : w.ownsRow base 114 2 (.slice (some ⟨g, 0, none⟩) ts.length cap) ts.length (tc ts) := ⟨hl, .inr ⟨g, cap, cur, rfl, hb, hg, hn, hm, hs, ht⟩⟩
    refine ⟨fun i j => if j = 0 then .int .i64 (ts.getD i ⟨0, 0⟩).id else .int .i64 (ts.getD i ⟨0, 0⟩).due, ⟨_, cap, rfl, hn, hm, fun hpos => ⟨g, 0, rfl, (Array.getElem?_eq_some_iff.1 hg).1, fun i hi j hj => ?_⟩⟩, fun i r hr => by simp [List.getD, hr]⟩
    obtain ⟨c0, c1, _⟩ := OwT.cells hw rfl (List.getElem?_eq_getElem hi)
    have hj : j = 0 ∨ j = 1 := by omega
    rcases hj with rfl | rfl
    · rw [Nat.zero_add, Nat.add_zero, c0]
      simp [List.getD, hi]
    · rw [Nat.zero_add, c1]
      simp [List.getD, hi]
theorem OwT.set {w : World} {base g cap n : Nat} {ts : List DTim} (h : OwT w base (.slice (some ⟨g, 0, none⟩) n cap) ts) (hn : n = ts.length) (i : Nat) (hi : i < n) (t : DTim) :
    OwT ((w.setCell ⟨g, i * 2, none⟩ (.int .i64 t.id)).setCell ⟨g, i * 2 + 1, none⟩ (.int .i64 t.due)) base (.slice (some ⟨g, 0, none⟩) n cap) (ts.set i t) := by
  subst hn
  have h1 := (World.ownsRow.stored h (i * 2) (.int .i64 t.id)).1
  have h2 := (World.ownsRow.stored h1 (i * 2 + 1) (.int .i64 t.due)).1
  rw [tc_set] at h2
  unfold OwT
  simpa using h2

/-- The two at i and j, each in the other's place. -/
def swapL (ts : List DTim) (i j : Nat) : List DTim := match ts[i]?, ts[j]? with | some a, some b => (ts.set i b).set j a | _, _ => ts
theorem swapL_eq {ts : List DTim} {i j : Nat} {a b : DTim} (h1 : ts[i]? = some a) (h2 : ts[j]? = some b) : swapL ts i j = (ts.set i b).set j a := by simp [swapL, h1, h2]
theorem swapL_len (ts : List DTim) (i j : Nat) : (swapL ts i j).length = ts.length := by
  unfold swapL
  split <;> simp

/-- Where the timers that are worked on lie: a box at h, and a row of the call's own. -/
structure HP (w : World) (base h : Nat) (a : Option Addr) (cap : Nat) (ts : List DTim) : Prop where
  box : w.heap[h]? = some (.cells #[.slice a ts.length cap] 169 (0, 0))
  row : OwT w base (.slice a ts.length cap) ts
  ne : (Value.slice a ts.length cap).ownBlock ≠ some h
  low : base ≤ h

theorem HP.cell {w : World} {base h cap : Nat} {a : Option Addr} {ts : List DTim} (p : HP w base h a cap ts) : w.cell? ⟨h, 0, none⟩ = some (.slice a ts.length cap) ∧ w.frozen? ⟨h, 0, none⟩ = false := at_block p.box 0 _ rfl

end Go.Proofs.YtnklnhnjmikooaaGreat
