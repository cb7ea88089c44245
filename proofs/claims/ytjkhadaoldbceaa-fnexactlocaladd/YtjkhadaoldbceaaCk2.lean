
/- Checks: what is done to one, plain; rows of bytes that a call owns; checks in boxes. -/
import Derived.Test.YtjkhadaoldbceaaCk1
import Derived.Test.YtjkhadaoldbceaaElG
import Derived.Deep.CutRange
namespace Go.Proofs.Ytjkhadaoldbceaa
open Go.RowKit

theorem hideR {p : Prop} (h : p) : Hid p := h
theorem rv_shape {w : World} {v : Value} {xs : List Int} (h : RV w v xs) : ∃ a c, v = .slice a xs.length c := by
  obtain ⟨a, c, h1, _⟩ := h
  exact ⟨a, c, h1⟩
/-- The value owns these bytes. -/
def OwB (w : World) (base : Nat) (v : Value) (xs : List Int) : Prop := Ow w base v xs ∧ ∀ x ∈ xs, 0 ≤ x ∧ x ≤ 255
section
variable {w w' W W' : World} {b0 : Nat} {v v2 : Value} {xs : List Int} {row : Option Nat}
theorem OwB.rv (h : OwB w b0 v xs) : RV w v xs := Ow.rv h.1 h.2
theorem OwB.shape (h : OwB w b0 v xs) : ∃ a c, v = .slice a xs.length c := rv_shape h.rv
theorem OwB.ext (h : OwB w b0 v xs) (e : Ext w w') : OwB w' b0 v xs := ⟨Ow.ext h.1 e, h.2⟩
theorem OwB.keep (h : OwB w b0 v xs) (e : w.grownBy w' row) (hn : v.ownBlock = none ∨ v.ownBlock ≠ row) : OwB w' b0 v xs := ⟨World.ownsRow.kept h.1 e hn, h.2⟩
theorem OwB.lt (h : OwB w b0 v xs) (k : Nat) (hk : v.ownBlock = some k) : b0 ≤ k ∧ k < w.heap.size := World.ownsRow.lt h.1 k hk
theorem OwB.nil (w : World) (b0 : Nat) : OwB w b0 (.slice none 0 0) [] := ⟨World.ownsRow_nil _ _ _ _, by simp⟩
theorem OwB.base {b' : Nat} (h : OwB w b0 v xs) (hb : b' ≤ b0) : OwB w b' v xs := ⟨ow_base h.1 hb, h.2⟩
theorem keep_ltB (o : OwB W b0 v xs) (h : W.grownBy W' v2.ownBlock) (hg : ∀ k, v2.ownBlock = some k → k < b0) : OwB W' b0 v xs := o.keep h (by
  cases hv : v.ownBlock with
  | none => exact .inl rfl
  | some k =>
    right
    intro e
    have := (o.lt k hv).1
    have := hg k e.symm
    omega)
/-- A block of another type is none of this row. -/
theorem ne_rowB {b : Nat} {cs : Array Value} {t : TypeId} (o : OwB W b0 v xs) (h : W.heap[b]? = some (.cells cs t (0, 0))) (ht : t ≠ 5) : some b ≠ v.ownBlock := by
  intro e
  rcases o.1.2 with ⟨hv, _⟩ | ⟨k, c, cur, hv, _, hg, _⟩
  · rw [hv] at e; cases e
  · rw [hv] at e
    simp only [Value.ownBlock, Option.some.injEq] at e
    subst e
    rw [h] at hg
    simp only [Option.some.injEq, Obj.cells.injEq] at hg
    exact ht hg.2.1
end
theorem cells6 {w : World} {g : Nat} {v0 v1 v2 v3 v4 v5 : Value} {t : TypeId} (h : w.heap[g]? = some (.cells #[v0, v1, v2, v3, v4, v5] t (0, 0))) : w.cell? ⟨g, 0, none⟩ = some v0 ∧ w.cell? ⟨g, 1, none⟩ = some v1 ∧ w.cell? ⟨g, 2, none⟩ = some v2 ∧ w.cell? ⟨g, 3, none⟩ = some v3 ∧ w.cell? ⟨g, 4, none⟩ = some v4 ∧ w.cell? ⟨g, 5, none⟩ = some v5 := ⟨(at_block h 0 _ rfl).1, (at_block h 1 _ rfl).1, (at_block h 2 _ rfl).1, (at_block h 3 _ rfl).1, (at_block h 4 _ rfl).1, (at_block h 5 _ rfl).1⟩
theorem chk_set {w : World} {b : Nat} {t : TypeId} {a0 a1 a2 a3 a4 a5 : Value} (h : w.heap[b]? = some (.cells #[a0, a1, a2, a3, a4, a5] t (0, 0))) (v0 v1 v2 v3 v4 v5 : Value) : ((((((w.setCell ⟨b, 0, none⟩ v0).setCell ⟨b, 1, none⟩ v1).setCell ⟨b, 2, none⟩ v2).setCell ⟨b, 3, none⟩ v3).setCell ⟨b, 4, none⟩ v4).setCell ⟨b, 5, none⟩ v5).heap[b]? = some (.cells #[v0, v1, v2, v3, v4, v5] t (0, 0)) := set_block (set_block (set_block (set_block (set_block (set_block h 0 v0) 1 v1) 2 v2) 3 v3) 4 v4) 5 v5
theorem chk_below {B : Nat} {w0 w : World} {b : Nat} (h : Below B w0 w) (hb : B ≤ b) (v0 v1 v2 v3 v4 v5 : Value) : Below B w0 ((((((w.setCell ⟨b, 0, none⟩ v0).setCell ⟨b, 1, none⟩ v1).setCell ⟨b, 2, none⟩ v2).setCell ⟨b, 3, none⟩ v3).setCell ⟨b, 4, none⟩ v4).setCell ⟨b, 5, none⟩ v5) := (((((h.setCell hb _).setCell hb _).setCell hb _).setCell hb _).setCell hb _).setCell hb _
theorem chk_own {w : World} {base b : Nat} {v : Value} {xs : List Int} (h : OwB w base v xs) (hb : v.ownBlock = none ∨ v.ownBlock ≠ some b) (v0 v1 v2 v3 v4 v5 : Value) : OwB ((((((w.setCell ⟨b, 0, none⟩ v0).setCell ⟨b, 1, none⟩ v1).setCell ⟨b, 2, none⟩ v2).setCell ⟨b, 3, none⟩ v3).setCell ⟨b, 4, none⟩ v4).setCell ⟨b, 5, none⟩ v5) base v xs := (((((h.keep (set_grown _ _ _ _) hb).keep (set_grown _ _ _ _) hb).keep (set_grown _ _ _ _) hb).keep (set_grown _ _ _ _) hb).keep (set_grown _ _ _ _) hb).keep (set_grown _ _ _ _) hb

def zeroChk : DChk := ⟨[], 0, 0, 0, 0, 0⟩
def newPD (ts : List Int) (t m : Int) : DChk × Bool := if chkB ⟨ts, t, m, 2, 0, 0⟩ then (⟨ts, t, m, 2, 0, 0⟩, true) else (zeroChk, false)
def passD (C : DChk) : DChk × Bool := (⟨C.name, C.ttl, C.most, 0, 0, 0⟩, C.st != 0)
def failS (C : DChk) : Int := if C.most ≤ C.fails + 1 ∨ C.st = 2 then 2 else 1
def failD (C : DChk) : DChk × Bool := (⟨C.name, C.ttl, C.most, failS C, C.age, min (C.fails + 1) C.most⟩, C.st != failS C)
def tickA (C : DChk) (n : Int) : Int := min (C.age + min n 1000) 1000
def tickD (C : DChk) (n : Int) : DChk × Bool := if C.ttl = 0 then (C, false) else if C.ttl ≤ tickA C n then (⟨C.name, C.ttl, C.most, 2, tickA C n, C.fails⟩, C.st != 2) else (⟨C.name, C.ttl, C.most, C.st, tickA C n, C.fails⟩, false)
def passPD (C : DChk) : DChk × Bool := if chkB C then passD C else (zeroChk, false)
def failPD (C : DChk) : DChk × Bool := if chkB C then failD C else (zeroChk, false)
def tickPD (C : DChk) (n : Int) : DChk × Bool := if chkB C && decide (0 ≤ n) then tickD C n else (zeroChk, false)
theorem passPD_len (C : DChk) (h : C.name.length ≤ 1048576) : (passPD C).1.name.length ≤ 1048576 := by
  unfold passPD passD
  split
  · exact h
  · simp [zeroChk]
theorem failPD_len (C : DChk) (h : C.name.length ≤ 1048576) : (failPD C).1.name.length ≤ 1048576 := by
  unfold failPD failD
  split
  · exact h
  · simp [zeroChk]
theorem tickPD_len (C : DChk) (n : Int) (h : C.name.length ≤ 1048576) : (tickPD C n).1.name.length ≤ 1048576 := by
  unfold tickPD
  split
  · unfold tickD
    split
    · exact h
    · split <;> exact h
  · simp [zeroChk]
theorem newPD_len (ts : List Int) (t m : Int) (h : ts.length ≤ 1048576) : (newPD ts t m).1.name.length ≤ 1048576 := by
  unfold newPD
  split
  · exact h
  · simp [zeroChk]
/-- What holds of the numbers of a check. -/
theorem chkB_num {C : DChk} (h : chkB C = true) : 0 ≤ C.ttl ∧ C.ttl ≤ 1000 ∧ 1 ≤ C.most ∧ C.most ≤ 5 ∧ 0 ≤ C.st ∧ C.st ≤ 2 ∧ 0 ≤ C.age ∧ C.age ≤ 1000 ∧ 0 ≤ C.fails ∧ C.fails ≤ C.most := by
  unfold chkB at h
  simp only [Bool.and_eq_true, decide_eq_true_eq] at h
  omega

/-- A check in a box, its name owned. -/
def ChB (g base : Nat) (C : DChk) (tv : Value) (w : World) : Prop := w.heap[g]? = some (.cells #[tv, .int .i64 C.ttl, .int .i64 C.most, .int .i64 C.st, .int .i64 C.age, .int .i64 C.fails] 43 (0, 0)) ∧ OwB w base tv C.name
theorem ChB.nb {g base : Nat} {C : DChk} {tv : Value} {w : World} (h : ChB g base C tv w) : tv.ownBlock = none ∨ tv.ownBlock ≠ some g := .inr (fun e => ne_rowB h.2 h.1 (by decide) e.symm)
theorem grown_drewN (w : World) (q : Nat) (r : Option Nat) : w.grownBy (w.drewN q) r := ⟨rfl, rfl, rfl, Nat.le_refl _, fun _ _ _ => rfl⟩
theorem ChB.drew {g base : Nat} {C : DChk} {tv : Value} {w : World} (h : ChB g base C tv w) (q : Nat) : ChB g base C tv (w.drewN q) := ⟨h.1, h.2.ext (ext_drewN _ _)⟩
theorem ChB.st {g base : Nat} {C : DChk} {tv : Value} {w : World} (h : ChB g base C tv w) (s : Int) : ChB g base ⟨C.name, C.ttl, C.most, s, C.age, C.fails⟩ tv (w.setCell ⟨g, 3, none⟩ (.int .i64 s)) ∧ w.grownBy (w.setCell ⟨g, 3, none⟩ (.int .i64 s)) (some g) := ⟨⟨set_block h.1 3 _, h.2.keep (set_grown _ _ _ _) h.nb⟩, set_grown _ _ _ _⟩
theorem ChB.age {g base : Nat} {C : DChk} {tv : Value} {w : World} (h : ChB g base C tv w) (s : Int) : ChB g base ⟨C.name, C.ttl, C.most, C.st, s, C.fails⟩ tv (w.setCell ⟨g, 4, none⟩ (.int .i64 s)) ∧ w.grownBy (w.setCell ⟨g, 4, none⟩ (.int .i64 s)) (some g) := ⟨⟨set_block h.1 4 _, h.2.keep (set_grown _ _ _ _) h.nb⟩, set_grown _ _ _ _⟩
theorem ChB.fails {g base : Nat} {C : DChk} {tv : Value} {w : World} (h : ChB g base C tv w) (s : Int) : ChB g base ⟨C.name, C.ttl, C.most, C.st, C.age, s⟩ tv (w.setCell ⟨g, 5, none⟩ (.int .i64 s)) ∧ w.grownBy (w.setCell ⟨g, 5, none⟩ (.int .i64 s)) (some g) := ⟨⟨set_block h.1 5 _, h.2.keep (set_grown _ _ _ _) h.nb⟩, set_grown _ _ _ _⟩

theorem run_minC (x y : Int) (W : World) : (Builtin.min_ #[3, 3] 3 #[.int .i64 x, .int .i64 y]).run Try.prog W = .ok (.int .i64 (min x y)) W := by
  simp [Builtin.min_, Builtin.min2, go_sem]
  rw [Int.min_def]
  split <;> split <;> omega
end Go.Proofs.Ytjkhadaoldbceaa
