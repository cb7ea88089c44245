/- Contracts of the library's Grow of nothing and Concat at tokens, as the program reaches them. -/
import Derived.Test.YtfhebefepgnmnaaDoorPw8
import Derived.Lib.AppendZeros
import Derived.Lib.AppendZerosOnto
namespace Go.Proofs.YtfhebefepgnmnaaDoor
open Go.RowKit

abbrev zTok : Value := .agg #[.int .i64 0, .int .i64 0, .slice none 0 0, .int .i64 0]
theorem info_T : (Tryd.prog.info? 52).map (fun i => (i.zero, i.size, i.bytes)) = some (some zTok, 4, 48) := by kernel_rfl

/-- The value v owns n tokens, cell by cell. -/
abbrev OwK (w : World) (base : Nat) (v : Value) (n : Nat) (cs : List Value) : Prop := w.ownsRow base 52 4 v n cs

set_option maxRecDepth 10000 in
set_option maxHeartbeats 1000000 in
theorem growT (m : Nat) (w : World) (h0 : 0 < m) (hm : m ≤ 1000) :
    Calls Tryd.prog 43 #[.slice none 0 0, .int .i64 m] w fun e w' => ∃ v, e = .returned v ∧ OwK w' w.heap.size v 0 [] ∧ Below w.heap.size w w' := by
  obtain ⟨i0, hi, hz0, hz1, hz2⟩ := info_parts info_T
  have hpos : (0 : Int) < (m : Int) := by omega
  have hold : (Builtin.firstCells i0.size 0 (.slice none 0 0)).run Tryd.prog w.drew = .ok ([] : List Value).toArray w.drew := by
    simp [Builtin.firstCells]
  have hrz : ∀ ty, (Builtin.append_ #[44, 3] ty #[.slice none 0 0, .int .i64 (m : Int)]).run Tryd.prog w =
      .ok (.slice (some ⟨w.heap.size, 0, none⟩) m (grownCap w m 0 52)) (w.drew.alloc (.cells (([] : List Value).toArray ++ Builtin.zeroCells zTok.cells m ++ Builtin.zeroCells zTok.cells (grownCap w m 0 52 - m)) 52)) := fun ty => by
    have h := Lib.run_append_grow_zeros (P := Tryd.prog) w 44 3 ty 52 i0 zTok .i64 .i64 Tryd.underlying44 Tryd.underlying3 hi hz0 none 0 0 [] hold m h0 (by omega) (by omega) (by omega) (by rw [hz2]; omega)
      (growslice_fits (by omega) (by rw [hz2]; omega))
    simpa using h
  have hGn : m ≤ grownCap w m 0 52 := grownCap_ge w _ _ _
  have hGm : grownCap w m 0 52 ≤ maxLen := grownCap_le_maxLen w m 0 52 (by unfold maxLen; omega)
  obtain ⟨G, hG⟩ : ∃ G, G = grownCap w m 0 52 := ⟨_, rfl⟩
  rw [← hG] at hrz hGn hGm
  obtain ⟨cs, hcs⟩ : ∃ cs, cs = (([] : List Value).toArray ++ Builtin.zeroCells zTok.cells m ++ Builtin.zeroCells zTok.cells (G - m)) := ⟨_, rfl⟩
  rw [← hcs] at hrz
  have hz4 : zTok.cells.size = 4 := rfl
  have hsz : cs.size = G * 4 := by
    rw [hcs]
    simp only [Array.size_append, List.size_toArray, List.length_nil, size_zeroCells, hz4]
    omega
  have HW : Hid (OwK (w.drew.alloc (.cells cs 52)) w.heap.size (.slice (some ⟨w.heap.size, 0, none⟩) 0 G) 0 []) := World.ownsRow_made w.drew cs G (Nat.le_refl _) hGm hsz
  have hG63 : G ≤ 9223372036854775807 := by unfold maxLen at hGm; omega
  clear hold hG hcs hGm hsz hz4
  go_enter Tryd.func43, Tryd.ntmps43
  go_wp2_with (at_builtin; refine Lib.wpList_append_run _ rfl _ _ _ _ rfl _ _ rfl rfl _ _ (hrz _) ?_)
  all_goals
    go_ret
    exact ⟨_, rfl, HW.out, ((Below.refl _ w).drew).alloc (Nat.le_refl _) _⟩

/-- The slice at a reads as the cells cs of n tokens. -/
structure RdT (w : World) (a : Addr) (n : Nat) (cs : List Value) : Prop where
  len : cs.length = n * 4
  cell : ∀ (j : Nat) u, cs[j]? = some u → w.cell? (a.add j) = some u
  one : ∀ u ∈ cs, u.oneCell' = true

theorem RdT.ext {w w' : World} {a : Addr} {n : Nat} {cs : List Value} (h : RdT w a n cs) (x : Ext w w') : RdT w' a n cs :=
  ⟨h.len, fun j u hj => World.grownBy.cell x (h.cell j u hj) (by simp), h.one⟩

set_option maxHeartbeats 2000000 in
theorem concT (g : Nat) (a0 a1 : Addr) (n0 n1 c0 c1 : Nat) (X0 X1 : List Value) (w : World) (h0 : 0 < n0) (h0' : n0 ≤ 8) (h1 : 0 < n1) (h1' : n1 ≤ 8)
    (hg : ∃ t, w.heap[g]? = some (.cells #[.slice (some a0) n0 c0, .slice (some a1) n1 c1] t (0, 0))) (r0 : RdT w a0 n0 X0) (r1 : RdT w a1 n1 X1) :
    Calls Tryd.prog 37 #[.slice (some ⟨g, 0, none⟩) 2 2] w fun e w' => ∃ v, e = .returned v ∧ OwK w' w.heap.size v (n0 + n1) (X0 ++ X1) ∧ Below w.heap.size w w' := by
  obtain ⟨i0, hi, hz0, hz1, hz2⟩ := info_parts info_T
  obtain ⟨t, hg⟩ := hg
  obtain ⟨q0, _⟩ := at_block hg 0 _ rfl
  obtain ⟨q1, _⟩ := at_block hg 1 _ rfl
  have HG : Hid (w.heap[g]? = some (.cells #[.slice (some a0) n0 c0, .slice (some a1) n1 c1] t (0, 0))) := hg
  clear hg
  have R0 : Hid (RdT w a0 n0 X0) := r0
  have R1 : Hid (RdT w a1 n1 X1) := r1
  clear r0 r1
  have hp0 : (0 : Int) < (n0 : Int) := by omega
  have hp1 : (0 : Int) < (n1 : Int) := by omega
  go_enter Tryd.func37, Tryd.ntmps37
  go_wp2
  refine wp_loop_rounds 3 ?_
  rw [rounds_succ]
  go_wp2
  rw [rounds_succ]
  go_wp2
  rw [rounds_succ]
  go_wp2_with (go_at_call 43; refine (growT (n0 + n1) _ (by omega) (by omega)).mono ?_; rintro e w1 ⟨v1, rfl, o1, b1⟩)
  have HQ : Hid (∀ W, Below w.heap.size w W → W.cell? ⟨g, 0, none⟩ = some (.slice (some a0) n0 c0) ∧ W.cell? ⟨g, 1, none⟩ = some (.slice (some a1) n1 c1)) := fun W b => by
    have hh := below_blk b (Array.getElem?_eq_some_iff.1 HG.out).1 HG.out
    exact ⟨(at_block hh 0 _ rfl).1, (at_block hh 1 _ rfl).1⟩
  obtain ⟨z0, z1⟩ := HQ.out w1 b1
  have r0 := R0.out.ext (ext_below b1)
  refine wp_loop_rounds 3 ?_
  rw [rounds_succ]
  go_wp2_with (at_builtin; refine wpList_append_own _ rfl _ _ 44 rfl w.heap.size 52 i0 zTok 4 48 Tryd.underlying44 hi hz0 hz1 hz2 rfl (by decide) v1 0 [] rfl o1 a0 n0 c0 X0 rfl r0.len r0.cell r0.one (by unfold maxLen; omega) (by omega) b1.size ?_; intro v2 w2 o2 g2 _; refine Hid.out ?_)
  refine Lib.hid ?_
  have b2 : Below w.heap.size w w2 := b1.grown g2 b1.size (fun k hk => (o1.lt k hk).1)
  obtain ⟨y0, y1⟩ := HQ.out w2 b2
  have r1 := R1.out.ext (ext_below b2)
  rw [Nat.zero_add, List.nil_append] at o2
  clear z0 z1 r0 g2
  go_wp2
  rw [rounds_succ]
  go_wp2_with (at_builtin; refine wpList_append_own _ rfl _ _ 44 rfl w.heap.size 52 i0 zTok 4 48 Tryd.underlying44 hi hz0 hz1 hz2 rfl (by decide) v2 n0 X0 rfl o2 a1 n1 c1 X1 rfl r1.len r1.cell r1.one (by unfold maxLen; omega) (by omega) b2.size ?_; intro v3 w3 o3 g3 _; refine Hid.out ?_)
  refine Lib.hid ?_
  have b3 : Below w.heap.size w w3 := b2.grown g3 b2.size (fun k hk => (o2.lt k hk).1)
  clear y0 y1 r1 g3
  go_wp2
  rw [rounds_succ]
  go_wp2
  go_ret
  exact ⟨v3, rfl, o3, b3⟩

end Go.Proofs.YtfhebefepgnmnaaDoor
