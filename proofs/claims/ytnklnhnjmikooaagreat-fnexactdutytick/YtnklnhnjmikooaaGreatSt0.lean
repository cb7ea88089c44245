
/- States of the catalog as data, and how their values read in memory. It holds over every program. -/
import Derived.Test.YtnklnhnjmikooaaGreatOp0
namespace Go.Proofs.YtnklnhnjmikooaaGreat
open Go.RowKit

theorem Ext.re (w : World) : Ext w w := ⟨rfl, rfl, rfl, Nat.le_refl _, fun _ _ _ => rfl⟩

structure DRow where
  key : List Int
  val : List Int
  turned : Int
  holder : Int
structure DTomb where
  key : List Int
  index : Int
structure DSess where
  id : Int
  del : Bool
structure DLast where
  client : Int
  req : Int
  code : Int
  index : Int
structure DState where
  index : Int
  rows : List DRow
  tombs : List DTomb
  lost : Int
  sess : List DSess
  lasts : List DLast

/-- The slice v has n elements of k cells each; C i j is cell j of element i. -/
def SL (w : World) (k : Nat) (v : Value) (n : Nat) (C : Nat → Nat → Value) : Prop :=
  ∃ a cap, v = .slice a n cap ∧ n ≤ cap ∧ cap ≤ maxLen ∧ (0 < n → ∃ b o, a = some ⟨b, o, none⟩ ∧ b < w.heap.size ∧ ∀ i, i < n → ∀ j, j < k → w.cell? ⟨b, o + i * k + j, none⟩ = some (C i j))

theorem SL.ext {w w' : World} {k n : Nat} {v : Value} {C : Nat → Nat → Value} (h : SL w k v n C) (e : Ext w w') : SL w' k v n C := by
  obtain ⟨a, cap, hv, h1, h2, h3⟩ := h
  refine ⟨a, cap, hv, h1, h2, fun hn => ?_⟩
  obtain ⟨b, o, ha, hb, hc⟩ := h3 hn
  refine ⟨b, o, ha, Nat.lt_of_lt_of_le hb e.size, fun i hi j hj => ?_⟩
  exact World.grownBy.cell e (hc i hi j hj) (by simp)

def VRows (w : World) (v : Value) (rs : List DRow) : Prop := ∃ C, SL w 4 v rs.length C ∧ ∀ i r, rs[i]? = some r → RV w (C i 0) r.key ∧ RV w (C i 1) r.val ∧ C i 2 = .int .i64 r.turned ∧ C i 3 = .int .i64 r.holder
def VTombs (w : World) (v : Value) (rs : List DTomb) : Prop := ∃ C, SL w 2 v rs.length C ∧ ∀ i r, rs[i]? = some r → RV w (C i 0) r.key ∧ C i 1 = .int .i64 r.index
def VSess (w : World) (v : Value) (rs : List DSess) : Prop := ∃ C, SL w 2 v rs.length C ∧ ∀ i r, rs[i]? = some r → C i 0 = .int .i64 r.id ∧ C i 1 = .bool r.del
def VLasts (w : World) (v : Value) (rs : List DLast) : Prop := ∃ C, SL w 4 v rs.length C ∧ ∀ i r, rs[i]? = some r → C i 0 = .int .i64 r.client ∧ C i 1 = .int .i64 r.req ∧ C i 2 = .int .i64 r.code ∧ C i 3 = .int .i64 r.index

def VState (w : World) (v : Value) (S : DState) : Prop := ∃ rv tv sv lv, v = .agg #[.int .i64 S.index, rv, tv, .int .i64 S.lost, sv, lv] ∧ VRows w rv S.rows ∧ VTombs w tv S.tombs ∧ VSess w sv S.sess ∧ VLasts w lv S.lasts

theorem VRows.ext {w w' : World} {v : Value} {rs : List DRow} (h : VRows w v rs) (e : Ext w w') : VRows w' v rs := by
  obtain ⟨C, h1, h2⟩ := h
  exact ⟨C, h1.ext e, fun i r hr => ⟨(h2 i r hr).1.ext e, (h2 i r hr).2.1.ext e, (h2 i r hr).2.2⟩⟩
theorem VTombs.ext {w w' : World} {v : Value} {rs : List DTomb} (h : VTombs w v rs) (e : Ext w w') : VTombs w' v rs := by
  obtain ⟨C, h1, h2⟩ := h
  exact ⟨C, h1.ext e, fun i r hr => ⟨(h2 i r hr).1.ext e, (h2 i r hr).2⟩⟩
theorem VSess.ext {w w' : World} {v : Value} {rs : List DSess} (h : VSess w v rs) (e : Ext w w') : VSess w' v rs := by
  obtain ⟨C, h1, h2⟩ := h
  exact ⟨C, h1.ext e, h2⟩
theorem VLasts.ext {w w' : World} {v : Value} {rs : List DLast} (h : VLasts w v rs) (e : Ext w w') : VLasts w' v rs := by
  obtain ⟨C, h1, h2⟩ := h
  exact ⟨C, h1.ext e, h2⟩
theorem VState.ext {w w' : World} {v : Value} {S : DState} (h : VState w v S) (e : Ext w w') : VState w' v S := by
  obtain ⟨rv, tv, sv, lv, hv, h1, h2, h3, h4⟩ := h
  exact ⟨rv, tv, sv, lv, hv, h1.ext e, h2.ext e, h3.ext e, h4.ext e⟩

end Go.Proofs.YtnklnhnjmikooaaGreat
