/- The contract of strconv.AppendInt at base ten, out of the library's, at a number that is not below nought. -/
import Derived.Test.YtheojmjnpemkbaaDoorSh
import Derived.Test.YtheojmjnpemkbaaDoorRows
import Derived.Test.YtheojmjnpemkbaaDoorDe8
import Derived.Test.YtheojmjnpemkbaaDoorVal0
namespace Go.Proofs.YtheojmjnpemkbaaDoor
open Go.RowKit Go.Shelf

/-- The name of the library's table of powers of ten. -/
def powName : String := (Rows.fnExactStateTextRow.laid.map Prod.fst).getD 2 default

/-- The table reads as its initialiser lays it, whatever is done from block B on. -/
def PowTab (B : Nat) (w : World) : Prop := Lib.TabBelow Tryd.prog B w powName .u64 Lib.pow10Tab

theorem PowTab.on {B : Nat} {w w' : World} (h : PowTab B w) (b : Below B w w') : PowTab B w' := Lib.TabBelow.on h b

theorem appendIntV (B : Nat) (u : Nat) (v : Value) (xs : List Int) (w : World) (hu : u ≤ 9223372036854775807) (hown : Ow w B v xs) (hB : B ≤ w.heap.size) (hl : xs.length ≤ 4294967296) (ht : PowTab B w) :
    Calls Tryd.prog 72 #[v, .int .i64 (u : Int), .int .i64 10] w fun e w' => ∃ v', e = .returned v' ∧ Ow w' B v' (xs ++ decL u) ∧ Below B w w' ∧ Lib.OthersKept 5 none w w' := by
  refine (Any.strconv_AppendInt_10 Tryd.laysM176 B xs.length (u : Int) (by omega) (by omega) v (B8 xs) w hown hB (by omega) ht).mono ?_
  rintro e w' ⟨v', rfl, h1, h2, h3⟩
  refine ⟨v', rfl, ?_, h2, h3⟩
  have e1 : xs.length + (Lib.itoa (u : Int)).length = (xs ++ decL u).length := by
    rw [Lib.itoa_nonneg]
    simp [decL]
  have e2 : B8 xs ++ Lib.byteCells (Lib.itoa (u : Int)) = B8 (xs ++ decL u) := by
    rw [← decL_cells]
    simp
  show w'.ownsRow B 5 1 v' (xs ++ decL u).length (B8 (xs ++ decL u))
  rw [← e1, ← e2]
  exact h1

end Go.Proofs.YtheojmjnpemkbaaDoor
