/- Operations as text: plain mathematics. -/
import Derived.Test.YtfhebefepgnmnaaDoorWk8
import Derived.Test.YtfhebefepgnmnaaDoorOp2
import Derived.Laws.EntriesVeiled
namespace Go.Proofs.YtfhebefepgnmnaaDoor
open Go.RowKit

/-- What stands behind a name. -/
def restL (d : DOp) : Nat → List Int
  | 0 => []
  | 1 => 32 :: d.key ++ 32 :: quoteL d.val
  | 2 => 32 :: d.key ++ 32 :: quoteL d.val ++ 32 :: decL d.n.toNat
  | 3 => 32 :: d.key
  | 4 => 32 :: decL d.n.toNat
  | 5 => 32 :: decL d.n.toNat
  | 6 => 32 :: d.key ++ 32 :: quoteL d.val ++ 32 :: decL d.n.toNat
  | 7 => 32 :: d.key ++ 32 :: decL d.n.toNat
  | _ => []
/-- An operation as text. -/
def opTL (d : DOp) : List Int := if opB d then nameL d.kind.toNat ++ restL d d.kind.toNat else []

theorem nameS_str (k : Nat) (h : k < 8) : Lib.strCells (nameS k) = B8 (nameL k) := by
  rcases lt8 h with rfl | rfl | rfl | rfl | rfl | rfl | rfl | rfl <;> rfl

theorem toks_nil (w : World) : VToks w (.slice none 0 0) [] := .inl ⟨rfl, none, 0, rfl⟩

theorem rb_of {w : World} {v : Value} {xs : List Int} {B : Nat} (h : RV w v xs) (hB : w.heap.size ≤ B) : ∀ w', Below B w w' → RV w' v xs := fun _ b =>
  h.ext ⟨b.os, b.tape, b.output, b.size, fun k hk _ => b.block k (Nat.lt_of_lt_of_le hk hB)⟩

theorem tok_key {w W : World} {B : Nat} {v : Value} {xs : List Int} (h : RV w v xs) (hB : w.heap.size = B) (b : Below B w W) (hl : xs.length ≤ 20) : TokOk B W (tKey v xs) :=
  ⟨Nat.zero_le _, Nat.zero_le _, by show xs.length ≤ _; omega, fun w' b' => rb_of h (Nat.le_of_eq hB) w' (b.trans b')⟩
theorem tok_val {w W : World} {B : Nat} {v : Value} {xs : List Int} (h : RV w v xs) (hB : w.heap.size = B) (b : Below B w W) (hl : xs.length ≤ 20) : TokOk B W (tVal v xs) :=
  ⟨Nat.le_succ _, Nat.zero_le _, by show xs.length ≤ _; omega, fun w' b' => rb_of h (Nat.le_of_eq hB) w' (b.trans b')⟩
theorem tok_nr (B : Nat) (w : World) (n : Nat) (hn : n ≤ 1000000) : TokOk B w (tNum n) :=
  ⟨Nat.le_refl 2, by show n ≤ _; omega, Nat.zero_le _, fun _ _ => ⟨none, 0, rfl, Rd.nil _ _, Nat.le_refl _, Nat.zero_le _⟩⟩

/-- A name and tokens behind it, from nothing on. -/
theorem words_of (k : Nat) (hk : k < 8) (B : Nat) (w : World) (hB : B ≤ w.heap.size) (v : Value) (ts : List DTok) (hv : VToks w v ts) (hl : ts.length ≤ 3) (hok : ∀ t ∈ ts, TokOk B w t) (hp : PowTab B w) :
    Calls Tryd.prog 19 #[.slice none 0 0, .string (nameS k), v] w fun e w' => ∃ v', e = .returned v' ∧ Ow w' B v' (nameL k ++ toksL ts) ∧ Bk B w w' := by
  refine (putWordsV B (.slice none 0 0) [] (nameS k) (nameL k) v ts w (World.ownsRow_nil _ _ _ _) hB (by simp) (nameS_str k hk) (by have := nameL_len k; omega) hv (by omega) hok hp).mono ?_
  rintro e w' ⟨v', rfl, o, b⟩
  exact ⟨v', rfl, by simpa using o, b⟩

theorem Forms.set {w : World} {k g j : Nat} {u : Value} (h : Forms w k) (hg : g < k) : Forms (w.setCell ⟨g, j, none⟩ u) k := by
  obtain ⟨⟨t1, h1⟩, ⟨t2, h2⟩, ⟨t3, h3⟩, ⟨t4, h4⟩⟩ := h
  exact ⟨⟨t1, set_other _ _ _ (by omega) h1⟩, ⟨t2, set_other _ _ _ (by omega) h2⟩, ⟨t3, set_other _ _ _ (by omega) h3⟩, ⟨t4, set_other _ _ _ (by omega) h4⟩⟩
theorem ext_set {V W : World} {g j : Nat} {u : Value} (h : Ext V W) (hg : V.heap.size ≤ g) : Ext V (W.setCell ⟨g, j, none⟩ u) :=
  ⟨h.os, h.tape, h.output, by simpa using h.size, fun k hk e => by
    rw [Below.heap_setCell _ _ _ _ (show k ≠ g by omega)]
    exact h.block k hk e⟩

end Go.Proofs.YtfhebefepgnmnaaDoor
