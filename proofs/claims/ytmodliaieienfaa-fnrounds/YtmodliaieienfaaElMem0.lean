
/- Lists of the struct Member as data, and how their values read in memory. -/
import Derived.Test.YtmodliaieienfaaTo0
namespace Go.Proofs.Ytmodliaieienfaa
open Go.RowKit

structure DMem where
  id : Int
  st : Int
  life : Int

def VMem (w : World) (v : Value) (ts : List DMem) : Prop := ∃ C, SL w 3 v ts.length C ∧ ∀ i r, ts[i]? = some r → C i 0 = .int .i64 r.id ∧ C i 1 = .int .i64 r.st ∧ C i 2 = .int .i64 r.life
theorem VMem.ext {w w' : World} {v : Value} {ts : List DMem} (h : VMem w v ts) (e : Ext w w') : VMem w' v ts := by
  obtain ⟨C, h1, h2⟩ := h
  exact ⟨C, h1.ext e, h2⟩
theorem VMem.shape {w : World} {v : Value} {ts : List DMem} (h : VMem w v ts) : ∃ a cap, v = .slice a ts.length cap := by
  obtain ⟨C, ⟨a, cap, hv, _⟩, _⟩ := h
  exact ⟨a, cap, hv⟩
/-- One element's cells, wherever memory grew. -/
theorem VMem.at {w w' : World} {a : Option Addr} {n cap : Nat} {ts : List DMem} (h : VMem w (.slice a n cap) ts) (e : Ext w w') {i : Nat} {r : DMem} (hr : ts[i]? = some r) : ∃ b o, a = some ⟨b, o, none⟩ ∧ w'.cell? ⟨b, o + i * 3, none⟩ = some (.int .i64 r.id) ∧ w'.cell? ⟨b, o + i * 3 + 1, none⟩ = some (.int .i64 r.st) ∧ w'.cell? ⟨b, o + i * 3 + 2, none⟩ = some (.int .i64 r.life) := by
  obtain ⟨C, ⟨a', cap', hv, h1, h2, h3⟩, hC⟩ := h
  simp only [Value.slice.injEq] at hv
  obtain ⟨rfl, rfl, rfl⟩ := hv
  have hi := (List.getElem?_eq_some_iff.1 hr).1
  obtain ⟨b, o, ha, hb, hc⟩ := h3 (by omega)
  obtain ⟨e0, e1, e2⟩ := hC i r hr
  refine ⟨b, o, ha, ?_, ?_, ?_⟩
  · have := World.grownBy.cell e (hc i hi 0 (by omega)) (by simp); rw [e0] at this; simpa using this
  · have := World.grownBy.cell e (hc i hi 1 (by omega)) (by simp); rw [e1] at this; simpa using this
  · have := World.grownBy.cell e (hc i hi 2 (by omega)) (by simp); rw [e2] at this; simpa using this

end Go.Proofs.Ytmodliaieienfaa
