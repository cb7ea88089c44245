/- What a call that appends to bytes of its own leaves: nothing below its own blocks has turned, and no block that holds no bytes. It holds over every program. -/
import Derived.Test.YtheojmjnpemkbaaDoorVal0
import Derived.Lib.OthersKept
namespace Go.Proofs.YtheojmjnpemkbaaDoor
open Go.RowKit

structure Bk (B : Nat) (w w' : World) : Prop where
  below : Below B w w'
  kept : Lib.OthersKept 5 none w w'

theorem Bk.refl (B : Nat) (w : World) : Bk B w w := ⟨Below.refl _ _, Lib.OthersKept.refl _ _ _⟩
theorem Bk.trans {B : Nat} {a b c : World} (h : Bk B a b) (k : Bk B b c) : Bk B a c := ⟨h.below.trans k.below, h.kept.trans k.kept⟩
theorem Bk.size {B : Nat} {a b : World} (h : Bk B a b) : a.heap.size ≤ b.heap.size := h.below.size
theorem Bk.alloc {B : Nat} {a b : World} (h : Bk B a b) (hB : B ≤ b.heap.size) (o : Obj) : Bk B a (b.alloc o) := ⟨h.below.alloc hB o, h.kept.alloc o⟩
theorem Bk.drewN {B : Nat} {a b : World} (h : Bk B a b) (q : Nat) : Bk B a (b.drewN q) := ⟨below_drewN h.below q, h.kept⟩
theorem Bk.grown {B : Nat} {a b c : World} {v : Value} {xs : List Int} (h : Bk B a b) (ho : Ow b B v xs) (hB : B ≤ b.heap.size) (hg : b.grownBy c v.ownBlock) : Bk B a c :=
  ⟨h.below.grown hg hB (fun k hk => (ho.lt k hk).1), h.kept.grown hg fun g hg => by
    rcases ho.2 with ⟨rfl, _⟩ | ⟨g', cap, cur, rfl, _, hc, _⟩
    · simp [Value.ownBlock] at hg
    · simp [Value.ownBlock] at hg
      subst hg
      exact ⟨cur, _, hc⟩⟩
theorem Bk.of {w w' : World} {B : Nat} (h : Below w.heap.size w w') (hB : B ≤ w.heap.size) : Bk B w w' :=
  ⟨h.mono hB, fun k _ hk _ _ => (h.block k (Array.getElem?_eq_some_iff.1 hk).1).trans hk⟩
/-- A block that holds no bytes. -/
theorem Bk.block {B g : Nat} {w w' : World} {cs : Array Value} {t : TypeId} {fz : Nat × Nat} (h : Bk B w w') (hg : w.heap[g]? = some (.cells cs t fz)) (ht : t ≠ 5) : w'.heap[g]? = some (.cells cs t fz) :=
  h.kept g _ hg (by simp) (fun c fz' e => by cases e; exact ht rfl)

end Go.Proofs.YtheojmjnpemkbaaDoor
