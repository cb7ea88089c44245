
/- Plain lemmas on slices of bytes in memory: what a slice value reads as, and that it stays so while memory grows. They hold over every program. -/
import Derived.WalkKit
import Derived.WalkSpells
import Derived.Deep.QuietTactic
import Derived.BigQuiet
import Derived.Laws.AppendOwnNone
namespace Go.Proofs.YtnklnhnjmikooaaGreat
open Go.RowKit

/-- The slice at 'a' of length n reads as the bytes xs in w. -/
structure Rd (w : World) (a : Option Addr) (n : Nat) (xs : List Int) : Prop where
  len : xs.length = n
  cell : ∀ i, i < n → ∃ b o, a = some ⟨b, o, none⟩ ∧ w.cell? ⟨b, o + i, none⟩ = some (.int .u8 (xs.getD i 0))
  rng : ∀ x ∈ xs, 0 ≤ x ∧ x ≤ 255

abbrev B8 (xs : List Int) : List Value := xs.map (Value.int .u8)

theorem Rd.below {w w' : World} {a : Option Addr} {n B : Nat} {xs : List Int} (h : Rd w a n xs) (hb : Below B w w') (hB : w.heap.size ≤ B) : Rd w' a n xs :=
  ⟨h.len, fun i hi => by
    obtain ⟨b, o, ha, hc⟩ := h.cell i hi
    exact ⟨b, o, ha, (hb.cell (p := ⟨b, o + i, none⟩) (Nat.lt_of_lt_of_le (World.block_lt_of_cell? w _ hc) hB)).trans hc⟩, h.rng⟩

theorem Rd.grown {w w' : World} {a : Option Addr} {n : Nat} {xs : List Int} (h : Rd w a n xs) (hb : w.grownBy w' none) : Rd w' a n xs :=
  ⟨h.len, fun i hi => by
    obtain ⟨b, o, ha, hc⟩ := h.cell i hi
    exact ⟨b, o, ha, hb.cell hc (by simp)⟩, h.rng⟩

theorem Rd.nil (w : World) (a : Option Addr) : Rd w a 0 [] := ⟨rfl, fun i hi => absurd hi (by omega), fun x hx => by cases hx⟩

theorem Rd.pos {w : World} {a : Option Addr} {n : Nat} {xs : List Int} (h : Rd w a n xs) (hn : 0 < n) : ∃ b o, a = some ⟨b, o, none⟩ ∧ b < w.heap.size ∧ ∀ i, i < n → w.cell? ⟨b, o + i, none⟩ = some (.int .u8 (xs.getD i 0)) := by
  obtain ⟨b, o, rfl, hc⟩ := h.cell 0 hn
  refine ⟨b, o, rfl, World.block_lt_of_cell? w _ hc, fun i hi => ?_⟩
  obtain ⟨b', o', ha, hc'⟩ := h.cell i hi
  simp only [Option.some.injEq, Addr.mk.injEq, and_true] at ha
  obtain ⟨rfl, rfl⟩ := ha
  exact hc'

theorem own_rd {w : World} {base : Nat} {v : Value} {n : Nat} {xs : List Int} (h : w.ownsRow base 5 1 v n (B8 xs)) (hr : ∀ x ∈ xs, 0 ≤ x ∧ x ≤ 255) : ∃ a cap, v = .slice a n cap ∧ Rd w a n xs ∧ n ≤ cap := by
  have hl : xs.length = n := by simpa using h.1
  rcases h.2 with ⟨rfl, rfl⟩ | ⟨g, cap, cur, rfl, hb, hg, hnc, hcm, hcs, htake⟩
  · exact ⟨none, 0, rfl, ⟨hl, fun i hi => absurd hi (by omega), hr⟩, Nat.le_refl _⟩
  · refine ⟨_, cap, rfl, ⟨hl, fun i hi => ⟨g, 0, rfl, ?_⟩, hr⟩, hnc⟩
    rw [Nat.zero_add, h.cellAt i (by omega)]
    simp [List.getD, show i < xs.length by omega]

/-- The cells of a slice that reads as xs, as the laws on append want them. -/
theorem Rd.news {w : World} {b o n : Nat} {xs : List Int} (h : Rd w (some ⟨b, o, none⟩) n xs) : ∀ j u, (B8 xs)[j]? = some u → w.cell? ((⟨b, o, none⟩ : Addr).add j) = some u := by
  intro j u hu
  have hj : j < xs.length := by
    have := (List.getElem?_eq_some_iff.1 hu).1
    simpa using this
  obtain ⟨b', o', ha, hc⟩ := h.cell j (by have := h.len; omega)
  simp only [Option.some.injEq, Addr.mk.injEq, and_true] at ha
  obtain ⟨rfl, rfl⟩ := ha
  rw [Addr.add_lit, hc]
  simpa [List.getD, hj] using hu

theorem own_take_set (xs : List Int) (k n : Nat) (hl : xs.length = n) (hk : k < n) :
    ((B8 (xs.take k)) ++ List.replicate (n - k) (Value.int .u8 0)).set k (.int .u8 (xs.getD k 0)) = B8 (xs.take (k + 1)) ++ List.replicate (n - (k + 1)) (Value.int .u8 0) := by
  apply List.ext_getElem?
  intro j
  have h1 : (B8 (xs.take k)).length = k := by simp; omega
  have h2 : (B8 (xs.take (k + 1))).length = k + 1 := by simp; omega
  rw [List.getElem?_set]
  by_cases e : k = j
  · subst e
    rw [if_pos rfl, if_pos (by simp; omega), List.getElem?_append_left (by omega)]
    simp [List.getD, show k < xs.length by omega]
  · rw [if_neg e]
    by_cases hj : j < k
    · rw [List.getElem?_append_left (by omega), List.getElem?_append_left (by omega)]
      simp [hj, show j < k + 1 by omega]
    · rw [List.getElem?_append_right (by omega), List.getElem?_append_right (by omega), h1, h2]
      simp only [List.getElem?_replicate]
      by_cases hj2 : j < n
      · rw [if_pos (by omega), if_pos (by omega)]
      · rw [if_neg (by omega), if_neg (by omega)]

end Go.Proofs.YtnklnhnjmikooaaGreat
