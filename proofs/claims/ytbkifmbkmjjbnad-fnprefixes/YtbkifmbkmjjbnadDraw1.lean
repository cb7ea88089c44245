/- The draws of chapter 1's laws on prefixes: pairs of short texts, and a number. -/
import Derived.Test.YtbkifmbkmjjbnadCur2
import Derived.Test.YtbkifmbkmjjbnadConv
namespace Go.Proofs.Ytbkifmbkmjjbnad
open Go.RowKit

theorem below_row {B g : Nat} {w0 w w' : World} (hb : Below B w0 w) (hs : B ≤ w.heap.size) (hg : w.grownBy w' (some g)) (hB : B ≤ g) : Below B w0 w' :=
  hb.grown hg hs (fun k hk => by simp only [Option.some.injEq] at hk; omega)

theorem Ow.row {w w' : World} {base g : Nat} {v : Value} {xs : List Int} (o : Ow w base v xs) (hg : w.grownBy w' (some g)) (hb : g < base) : Ow w' base v xs :=
  o.kept hg (by
    right
    intro e
    have := (o.lt g e).1
    omega)

/-- Two short texts. -/
def PairPost (m k : Nat) (w : World) (e : Ending) (w' : World) : Prop :=
  ∃ v u xs ys, e = .returned (.tuple #[v, u]) ∧ xs.length ≤ m ∧ ys.length ≤ k ∧ (∀ x ∈ xs, 0 ≤ x ∧ x ≤ 255) ∧ (∀ x ∈ ys, 0 ≤ x ∧ x ≤ 255) ∧ RV w' v xs ∧ RV w' u ys ∧ Below w.heap.size w w'

theorem take_rng {xs : List Int} (h : ∀ y ∈ xs, 0 ≤ y ∧ y ≤ 255) (k : Nat) : ∀ y ∈ xs.take k, 0 ≤ y ∧ y ≤ 255 := fun y hy => h y (List.mem_of_mem_take hy)
theorem app_rng {xs ys : List Int} (h : ∀ y ∈ xs, 0 ≤ y ∧ y ≤ 255) (h' : ∀ y ∈ ys, 0 ≤ y ∧ y ≤ 255) : ∀ y ∈ xs ++ ys, 0 ≤ y ∧ y ≤ 255 := fun y hy => by
  rcases List.mem_append.1 hy with hy | hy
  · exact h y hy
  · exact h' y hy

set_option maxHeartbeats 2000000 in
theorem drawCommon (a : Option Addr) (n cap : Nat) (xs : List Int) (w : World) (hr : Rd w a n xs) (hm : n ≤ maxLen) :
    Calls Try.prog 4 #[.slice a n cap] w (PairPost 6 9 w) := by
  go_enter Try.func4, Try.ntmps4
  go_wp2_with fail
  refine (newC a n cap xs w hr hm).mono ?_
  rintro e w1 ⟨rfl, hc1, hb1⟩
  have hl1 : w.heap.size < w1.heap.size := by
    obtain ⟨_, _, _, _, _, _, hb, _⟩ := hc1
    exact (Array.getElem?_eq_some_iff.1 hb).1
  go_wp2_with fail
  refine (someC w.heap.size w.heap.size 6 w1 hc1 (by omega) hl1).mono ?_
  rintro e w2 ⟨v2, ys, rfl, hy6, hyr, ho2, hc2, hg2⟩
  have hb2 := below_row hb1 hb1.size hg2 (Nat.le_refl _)
  have hs2 := hg2.size
  obtain ⟨a2, cap2, rfl, hd2, hle2, hcm2⟩ := Ow.rv ho2 hyr
  have hcm2' : cap2 ≤ 9223372036854775807 := by unfold maxLen at hcm2; omega
  have hE2 : Ext w2 (w2.alloc (.cells #[] 5)) := World.grownBy_alloc _ _ _
  go_wp2_with fail
  refine (belowC w.heap.size w.heap.size (ys.length + 1) _ (hc2.ext hE2) (by omega)).mono ?_
  rintro e w3 ⟨r, hr0, hr1, hr2, rfl, hc3, hg3⟩
  have hr3 : r ≤ ys.length := by have := hr1 (by omega); omega
  clear hr1 hr2
  obtain ⟨k, rfl⟩ := Int.eq_ofNat_of_zero_le hr0
  have hk : k ≤ ys.length := by omega
  have hkc : (k : Int) ≤ (cap2 : Int) := by omega
  have ho2' : Ow w3 w1.heap.size _ ys := (ho2.ext hE2).row hg3 hl1
  have hoe : Ow w3 w2.heap.size (.slice (some ⟨w2.heap.size, 0, none⟩) 0 0) [] := (ow_empty w2).row hg3 (by omega)
  have hrd3 : Rd w3 a2 k (ys.take k) := by
    obtain ⟨a3, cap3, he3, hd3, _, _⟩ := Ow.rv ho2' hyr
    simp only [Value.slice.injEq] at he3
    rw [he3.1]
    exact rd_head hd3 k hk
  have hs3 := hg3.size
  have hs3' : w2.heap.size ≤ w3.heap.size := by have := hg3.size; simp at this; omega
  have hb3 := below_row (hb2.alloc hb2.size _) (by simp; omega) hg3 (Nat.le_refl _)
  clear hs3
  go_wp2_with (at_builtin; refine wpList_append_bytes _ rfl (.tmp 11) (.tmp 18) 22 rfl w2.heap.size info5 Try.underlying22 _ [] rfl hoe a2 k _ (ys.take k) rfl hrd3 (by simp; omega) hs3' ?_; intro v4 w4 ho4 hg4)
  have hc4 : Cur w4 w.heap.size w.heap.size := hc3.row hoe (by omega) hg4
  have hs4 := hg4.size
  have ho2'' : Ow w4 w1.heap.size _ ys := ho2'.kept hg4 (apart_of ho2 (Nat.le_refl _) hoe)
  have hb4 := hb3.grown hg4 hb3.size (fun k hk => by have := (hoe.lt k hk).1; omega)
  clear hg4 hoe hrd3 hc3 hg3
  go_wp2_with fail
  refine (someC w.heap.size w.heap.size 3 w4 hc4 (by omega) (by omega)).mono ?_
  rintro e w5 ⟨v5, zs, rfl, hz3, hzr, ho5, hc5, hg5⟩
  have hb5 := below_row hb4 hb4.size hg5 (Nat.le_refl _)
  have ho4' : Ow w5 w2.heap.size v4 _ := ho4.row hg5 (by omega)
  have ho25 : Ow w5 w1.heap.size _ ys := ho2''.row hg5 hl1
  have hs5 := hg5.size
  obtain ⟨a5, cap5, rfl, hd5, _, _⟩ := Ow.rv ho5 hzr
  simp only [List.nil_append] at ho4' ho4
  have hkl : (ys.take k).length ≤ 6 := by simp; omega
  clear hg5 hc5
  go_wp2_with (at_builtin; refine wpList_append_bytes _ rfl (.tmp 19) (.tmp 21) 22 rfl w2.heap.size info5 Try.underlying22 _ (ys.take k) rfl ho4' a5 zs.length cap5 zs rfl hd5 (by omega) (by omega) ?_; intro v6 w6 ho6 hg6)
  go_ret2
  refine ⟨_, _, ys, ys.take k ++ zs, rfl, hy6, by simp; omega, hyr, app_rng (take_rng hyr k) hzr, ?_, ho6.rv (app_rng (take_rng hyr k) hzr), ?_⟩
  · exact (Ow.rv (ho25.kept hg6 (apart_of ho2 (Nat.le_refl _) ho4')) hyr)
  · exact hb5.grown hg6 hb5.size (fun k hk => by have := (ho4'.lt k hk).1; omega)

end Go.Proofs.Ytbkifmbkmjjbnad
