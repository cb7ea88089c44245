/- Decimal numerals as bytes: plain mathematics. -/
import Derived.Test.YtheojmjnpemkbaaDoorBytes
import Derived.Lib.ItoaMem
import Derived.Lib.ItoaLen
import Derived.Lib.UnsafeStr
namespace Go.Proofs.YtheojmjnpemkbaaDoor
open Go.RowKit

/-- The decimal numeral of u, as bytes. -/
def decL (u : Nat) : List Int := (Lib.decDigits u).map fun b => (b.toNat : Int)

theorem decL_cells (u : Nat) : B8 (decL u) = Lib.byteCells (Lib.itoa (u : Int)) := by
  rw [Lib.itoa_nonneg]
  simp [decL, Lib.byteCells]
theorem decL_lt {u : Nat} (h : u < 10) : decL u = [48 + (u : Int)] := by
  rw [decL, Lib.decDigits_one h]
  simp
  omega
theorem decL_ge {u : Nat} (h : ¬ u < 10) : decL u = decL (u / 10) ++ [48 + ((u % 10 : Nat) : Int)] := by
  have e : Lib.decDigits u = Lib.decDigits (u / 10) ++ [UInt8.ofNat (48 + u % 10)] := by
    rw [Lib.decDigits, dif_neg h]
  rw [decL, e]
  simp [decL]
  omega
theorem decL_rng (u : Nat) : ∀ x ∈ decL u, 0 ≤ x ∧ x ≤ 255 := by
  intro x hx
  simp only [decL, List.mem_map] at hx
  obtain ⟨b, _, rfl⟩ := hx
  have := b.toNat_lt
  omega
theorem decL_len (u : Nat) (h : u ≤ 9223372036854775807) : (decL u).length ≤ 21 := by
  have := Lib.itoa_length_le (u : Int) (by omega) (by omega)
  rw [Lib.itoa_nonneg] at this
  simpa [decL] using this
theorem decL_pos (u : Nat) : 0 < (decL u).length := by
  by_cases h : u < 10
  · rw [decL_lt h]; simp
  · rw [decL_ge h]; simp

end Go.Proofs.YtheojmjnpemkbaaDoor
