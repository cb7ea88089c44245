
/- Probers in boxes; ProberNew and ProbeAck as plain functions; the specification's l11own. -/
import Derived.Test.YtmodliaieienfaaPr3
import Derived.Test.YtmodliaieienfaaLiB
import Derived.Deep.CutRange
namespace Go.Proofs.Ytmodliaieienfaa
open Go.RowKit

def zeroPro : DPro := ⟨[], 0, 0, 0, 0, 0⟩
def newPD (s : Int) : DPro × Bool := if s < 0 ∨ 2147483647 < s then (zeroPro, false) else (⟨[], 0, s, 0, 0, 0⟩, true)
/-- Who answers is let go. -/
def ackD (P : DPro) (id : Int) : DPro × Bool := if P.state = 0 ∨ P.who ≠ id then (P, false) else (⟨P.order, P.next, P.seed, 0, 0, 0⟩, true)
def ackPD (P : DPro) (id : Int) (h : Decidable (ProP P) := Classical.propDecidable (ProP P)) : DPro × Bool := @ite _ (ProP P) h (ackD P id) (zeroPro, false)
theorem ackPD_no {P : DPro} {id : Int} (h : ¬ ProP P) : ackPD P id = (zeroPro, false) := by unfold ackPD; exact if_neg h
theorem ackPD_yes {P : DPro} {id : Int} (h : ProP P) : ackPD P id = ackD P id := by unfold ackPD; exact if_pos h
theorem ackD_order (P : DPro) (id : Int) : (ackD P id).1.order = P.order := by unfold ackD; split <;> rfl
theorem ackPD_len (P : DPro) (id : Int) (hl : P.order.length ≤ 1048576) : (ackPD P id).1.order.length ≤ 1048576 := by
  by_cases h : ProP P
  · rw [ackPD_yes h, ackD_order]; exact hl
  · rw [ackPD_no h]; simp [zeroPro]
theorem OwI.keep {w w' : World} {base : Nat} {v : Value} {row : Option Nat} {ts : List Int} (h : OwI w base v ts) (e : w.grownBy w' row) (hn : v.ownBlock = none ∨ v.ownBlock ≠ row) : OwI w' base v ts := World.ownsRow.kept h e hn
theorem OwI.lt {w : World} {base : Nat} {v : Value} {ts : List Int} (h : OwI w base v ts) (k : Nat) (hk : v.ownBlock = some k) : base ≤ k ∧ k < w.heap.size := World.ownsRow.lt h k hk
theorem OwI.nil (w : World) (base : Nat) : OwI w base (.slice none 0 0) [] := World.ownsRow_nil _ _ _ _
/-- A box with a prober, all six cells laid anew. -/
theorem pro_set {w : World} {b : Nat} {t : TypeId} {a0 a1 a2 a3 a4 a5 : Value} (h : w.heap[b]? = some (.cells #[a0, a1, a2, a3, a4, a5] t (0, 0))) (v0 v1 v2 v3 v4 v5 : Value) : ((((((w.setCell ⟨b, 0, none⟩ v0).setCell ⟨b, 1, none⟩ v1).setCell ⟨b, 2, none⟩ v2).setCell ⟨b, 3, none⟩ v3).setCell ⟨b, 4, none⟩ v4).setCell ⟨b, 5, none⟩ v5).heap[b]? = some (.cells #[v0, v1, v2, v3, v4, v5] t (0, 0)) := set_block (set_block (set_block (set_block (set_block (set_block h 0 v0) 1 v1) 2 v2) 3 v3) 4 v4) 5 v5
theorem pro_below {B : Nat} {w0 w : World} {b : Nat} (h : Below B w0 w) (hb : B ≤ b) (v0 v1 v2 v3 v4 v5 : Value) : Below B w0 ((((((w.setCell ⟨b, 0, none⟩ v0).setCell ⟨b, 1, none⟩ v1).setCell ⟨b, 2, none⟩ v2).setCell ⟨b, 3, none⟩ v3).setCell ⟨b, 4, none⟩ v4).setCell ⟨b, 5, none⟩ v5) := (((((h.setCell hb _).setCell hb _).setCell hb _).setCell hb _).setCell hb _).setCell hb _
theorem pro_own {w : World} {base b : Nat} {v : Value} {xs : List Int} (h : OwI w base v xs) (hb : v.ownBlock = none ∨ v.ownBlock ≠ some b) (v0 v1 v2 v3 v4 v5 : Value) : OwI ((((((w.setCell ⟨b, 0, none⟩ v0).setCell ⟨b, 1, none⟩ v1).setCell ⟨b, 2, none⟩ v2).setCell ⟨b, 3, none⟩ v3).setCell ⟨b, 4, none⟩ v4).setCell ⟨b, 5, none⟩ v5) base v xs := (((((h.keep (set_grown _ _ _ _) hb).keep (set_grown _ _ _ _) hb).keep (set_grown _ _ _ _) hb).keep (set_grown _ _ _ _) hb).keep (set_grown _ _ _ _) hb).keep (set_grown _ _ _ _) hb

/-- What a box that holds a prober holds behind an answer. -/
def ProB (gt base : Nat) (R : DPro) (tv : Value) (w : World) : Prop := w.heap[gt]? = some (.cells #[tv, .int .i64 R.next, .int .i64 R.seed, .int .i64 R.state, .int .i64 R.who, .int .i64 R.wait] 25 (0, 0)) ∧ OwI w base tv R.order

end Go.Proofs.Ytmodliaieienfaa
