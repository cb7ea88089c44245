
/- A region that draws its order, whose operations only read, and whose calls may make memory: walked once, in the order of the text, over the class of the worlds that grew out of one. It holds over every program. -/
import Derived.Test.YtnklnhnjmikooaaGreatVal0
import Derived.BigQuiet
import Derived.WalkMore
namespace Go.Proofs.YtnklnhnjmikooaaGreat
open Go.RowKit

/-- A world that grew out of w: nothing of w turned. -/
structure BW (w : World) where
  u : World
  h : Below w.heap.size w u

theorem bw_ne (w : World) : Nonempty (BW w) := ⟨⟨w, Below.refl _ _⟩⟩

theorem below_drew1 (w : World) : Below w.heap.size w { w with drawn := w.drawn + 1 } := below_drewN (Below.refl _ w) 1

theorem wp_region_bw {P : Program} {id : Nat} {Q : Exit → Act → World → Prop} {a : Act} {w : World} {l : List Oper} (hm : P.follows .mixedOrders = true) (hB : Region.lexB .any l.toArray = true)
    (h : wpQuiet P l.toArray (fun w' => ∃ p : BW w, w' = p.u) (fun a' => ∀ w', (∃ p : BW w, w' = p.u) → Q .normal a' w') l a) : (Code.region id l.toArray true).wp P Q a w :=
  wp_region_quiet (C := fun w' => ∃ p : BW w, w' = p.u) hm hB ⟨⟨_, below_drew1 w⟩, rfl⟩ (by simpa using h)

theorem bw_same {P : Program} {f : FuncId} {args : Array Value} {w : World} {p : BW w} {v : Value}
    (h : Calls P f args p.u fun e w' => e = .returned v ∧ w' = p.u) : Calls P f args p.u fun e w'' => e = .returned v ∧ ∃ q : BW w, w'' = q.u :=
  h.mono fun _ _ ⟨he, hm⟩ => ⟨he, p, hm⟩
theorem bw_below {P : Program} {f : FuncId} {args : Array Value} {w : World} {p : BW w} {v : Value}
    (h : Calls P f args p.u fun e w' => e = .returned v ∧ Below p.u.heap.size p.u w') : Calls P f args p.u fun e w'' => e = .returned v ∧ ∃ q : BW w, w'' = q.u :=
  h.mono fun _ _ ⟨he, hm⟩ => ⟨he, ⟨_, p.h.trans (hm.mono p.h.size)⟩, rfl⟩
theorem bw_cell {w : World} {g i : Nat} {v : Value} (h : w.cell? ⟨g, i, none⟩ = some v) (p : BW w) : p.u.cell? ⟨g, i, none⟩ = some v := World.grownBy.cell (ext_below p.h) h (by simp)
theorem bw_ext {w : World} (p : BW w) : Ext w p.u := ext_below p.h

end Go.Proofs.YtnklnhnjmikooaaGreat
