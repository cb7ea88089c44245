/- Arguments opened: a list of numbers that came in reads as data. -/
import Derived.Test.YtfdklcmhafhbeaaOpenS
import Derived.Test.YtfdklcmhafhbeaaLiU
import Derived.Test.YtfdklcmhafhbeaaRows
namespace Go.Proofs.Ytfdklcmhafhbeaa
open Go.ChangeShapes Go.WideShapes Go.ChangeAt Go.RowKit Go.Joins

theorem vl_of_SL {α : Type} {f : α → Value} {w : World} {v : Value} {xs : List α} {C : Nat → Nat → Value} (h : SL w 1 v xs.length C) (hC : ∀ (i : Nat) (x : α), xs[i]? = some x → C i 0 = f x) : VL f w v xs := by
  obtain ⟨a, cap, hv, h1, h2, h3⟩ := h
  refine ⟨a, cap, hv, h1, h2, fun hn => ?_⟩
  obtain ⟨b, o, ha, hb, hc⟩ := h3 hn
  refine ⟨b, o, ha, hb, fun i x hx => ?_⟩
  have := hc i (List.getElem?_eq_some_iff.1 hx).1 0 (by omega)
  rw [Nat.mul_one, Nat.add_zero] at this
  rw [this, hC i x hx]

section
variable {H : Type} {enc : TypeId × Value → H} {W : World} {fuel : Nat} {v : Value} {y : DataW H × List MemPlace}

set_option maxRecDepth 100000 in
theorem ints_of_trod (h : DataW.trod enc Try.prog W 0 (fun _ => true) true fuel 22 [v] = some y) : ∃ xs, VL fI W v xs := by
  obtain ⟨n, C, hS, m, D, hD⟩ := sl_of_trod (k := 1) Try.underlying22 (by kernel_rfl) (by omega) h
  obtain ⟨rs, hl, hr⟩ := list_of (p := fun i (d : Int) => C i 0 = fI d) n (fun i hi => by
    have hf : DataW.trod enc Try.prog W 0 (fun _ => true) true m 3 [C i 0] = some (D i) := hD i hi
    obtain ⟨q, e, _, _⟩ := int_of_trod hf
    exact ⟨q, e⟩)
  exact ⟨rs, vl_of_SL (by rw [hl]; exact hS) hr⟩
end
theorem open_Ints {H : Type} {enc : TypeId × Value → H} {W : World} {r : Reach} {b0 : Nat} {v : Value} {d : DataW H} {p : List MemPlace}
    (hv : Value.okWide Try.prog W r b0 22 v) (h : DataW.Trod enc Try.prog W 0 (fun _ => true) true 22 v d p) : ∃ xs, VL fI W v xs := by
  obtain ⟨a, len, cap, rfl⟩ := okWide_slice Try.underlying22 hv
  obtain ⟨fuel, hf⟩ := h
  exact ints_of_trod hf

end Go.Proofs.Ytfdklcmhafhbeaa
