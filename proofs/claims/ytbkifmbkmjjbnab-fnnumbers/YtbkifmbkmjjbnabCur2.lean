/- Draws from a cursor: yes or no, some bytes, a number out of a list, a number. -/
import Derived.Test.YtbkifmbkmjjbnabCur
namespace Go.Proofs.Ytbkifmbkmjjbnab
open Go.RowKit

set_option maxHeartbeats 2000000 in
theorem onceC (B g : Nat) (n : Int) (w : World) (hc : Cur w B g) (hn : n ≤ 9223372036854775807) :
    Calls Try.prog 17 #[.pointer (some ⟨g, 0, none⟩), .int .i64 n] w fun e w' => ∃ y : Bool, e = .returned (.bool y) ∧ Cur w' B g ∧ w.grownBy w' (some g) := by
  go_enter Try.func17, Try.ntmps17
  go_wp2_with fail
  refine (belowC B g n w hc hn).mono ?_
  rintro e w1 ⟨r, hr0, hr1, hr2, rfl, hc1, hg1⟩
  clear hr1 hr2
  go_wp2
  go_ret
  exact ⟨_, rfl, hc1, hg1⟩

/-- Bytes that a draw made: few, in memory of its own. -/
def SomePost (most : Nat) (w : World) (B g : Nat) (e : Ending) (w' : World) : Prop :=
  ∃ v xs, e = .returned v ∧ xs.length ≤ most ∧ (∀ x ∈ xs, 0 ≤ x ∧ x ≤ 255) ∧ Ow w' w.heap.size v xs ∧ Cur w' B g ∧ w.grownBy w' (some g)

theorem grown_own {w w1 w' : World} {v : Value} {xs : List Int} {g : Nat} (h : w.grownBy w1 (some g)) (o : Ow w1 w.heap.size v xs) (k : w1.grownBy w' v.ownBlock) : w.grownBy w' (some g) :=
  ⟨k.os.trans h.os, k.tape.trans h.tape, k.output.trans h.output, Nat.le_trans h.size k.size, fun i hi e => (k.block i (Nat.lt_of_lt_of_le hi h.size) (fun e' => by have := (o.lt i e'.symm).1; omega)).trans (h.block i hi e)⟩

theorem snoc_rng {xs : List Int} {x : Int} (h : ∀ y ∈ xs, 0 ≤ y ∧ y ≤ 255) (h0 : 0 ≤ x) (h1 : x ≤ 255) : ∀ y ∈ xs ++ [x], 0 ≤ y ∧ y ≤ 255 := by
  intro y hy
  rcases List.mem_append.1 hy with hy | hy
  · exact h y hy
  · simp only [List.mem_cons, List.not_mem_nil, or_false] at hy
    subst hy
    exact ⟨h0, h1⟩

set_option maxHeartbeats 2000000 in
theorem someC (B g most : Nat) (w : World) (hc : Cur w B g) (hmost : most ≤ 1000) (hgs : g < w.heap.size) :
    Calls Try.prog 13 #[.pointer (some ⟨g, 0, none⟩), .int .i64 most] w (SomePost most w B g) := by
  go_enter Try.func13, Try.ntmps13
  go_wp2_with fail
  refine (belowC B g (most + 1) w hc (by omega)).mono ?_
  rintro e w1 ⟨r, hr0, hr1, hr2, rfl, hc1, hg1⟩
  have hr3 : r ≤ most := by have := hr1 (by omega); omega
  clear hr1 hr2
  obtain ⟨m, rfl⟩ := Int.eq_ofNat_of_zero_le hr0
  clear hr0
  go_wp2
  go_loopw [5, 7] (fun v i wr => ∃ (k : Nat) (xs : List Int), k ≤ m ∧ i = .int .i64 k ∧ xs.length = k ∧ (∀ x ∈ xs, 0 ≤ x ∧ x ≤ 255) ∧ Ow wr w.heap.size v xs ∧ Cur wr B g ∧ w.grownBy wr (some g)) (fun _ i _ => m - (intOf i).toNat)
  case atStart => exact ⟨0, [], Nat.zero_le _, rfl, rfl, (fun x hx => by cases hx), World.ownsRow_nil _ _ _ _, hc1, hg1⟩
  case round =>
    obtain ⟨k, xs, hk, rfl, hlen, hrng, ho, hcr, hgr⟩ := hrel
    clear hc1 hg1
    by_cases hlt : k < m
    · have HL : Hid (xs.length = k) := hlen
      have hxl : xs.length ≤ 1000 := by omega
      clear hlen
      go_wp2_with fail
      refine (byteC B g wr hcr).mono ?_
      rintro e w2 ⟨x, hx0, hx1, rfl, hc2, hg2⟩
      have ho2 : Ow w2 w.heap.size _ xs := ho.kept hg2 (by
        right
        intro e
        have := (ho.lt g e).1
        omega)
      have hg3 := grown_tr hgr hg2
      have hs3 := hg3.size
      clear hg2 ho hcr hgr
      go_wp2_with (at_builtin; refine wpList_append_bytes _ rfl (.tmp 17) (.tmp 21) 22 rfl w.heap.size info5 Try.underlying22 _ xs rfl (ho2.alloc _) (some ⟨w2.heap.size, 0, none⟩) 1 1 [x] rfl (rd_one w2 x hx0 hx1) (by omega) (by simp; omega) ?_; intro v3 w3 ho3 hg4)
      have hE : Ext w2 (w2.alloc (.cells #[.int .u8 x] 5)) := World.grownBy_alloc _ _ _
      have hc3 : Cur w3 B g := (hc2.ext hE).row (ho2.alloc _) hgs hg4
      have hg5 : w.grownBy w3 (some g) := grown_own (grown_tr hg3 (ext_row hE _)) (ho2.alloc _) hg4
      clear hg4 hc2 ho2 hE hg3
      go_wp2
      go_roundw
      case rel => exact ⟨k + 1, xs ++ [x], by omega, by go_num, by simp [HL.out], snoc_rng hrng hx0 hx1, ho3, hc3, hg5⟩
      case measure => simp [intOf]; omega
    · have hkm : k = m := by omega
      subst hkm
      go_wp2
      go_ret
      exact ⟨_, xs, rfl, by omega, hrng, ho, hcr, hgr⟩

/-- It is an int. -/
def IsInt (z : Int) : Prop := -9223372036854775808 ≤ z ∧ z ≤ 9223372036854775807

set_option maxHeartbeats 2000000 in
theorem pickC (B g b m : Nat) (w : World) (hc : Cur w B g) (hm0 : 0 < m) (hm : m ≤ 100) (hne : b ≠ g) (hz : ∀ j, j < m → ∃ z, IsInt z ∧ w.cell? ⟨b, j, none⟩ = some (.int .i64 z)) :
    Calls Try.prog 22 #[.pointer (some ⟨g, 0, none⟩), .slice (some ⟨b, 0, none⟩) m m] w fun e w' => ∃ q, IsInt q ∧ e = .returned (.int .i64 q) ∧ Cur w' B g ∧ w.grownBy w' (some g) := by
  have HZ : Hid (∀ j, j < m → ∃ z, IsInt z ∧ w.cell? ⟨b, j, none⟩ = some (.int .i64 z)) := hz
  clear hz
  go_enter Try.func22, Try.ntmps22
  go_wp2_with fail
  refine (belowC B g m w hc (by omega)).mono ?_
  rintro e w1 ⟨r, hr0, hr1, hr2, rfl, hc1, hg1⟩
  have hr3 : r < m := hr1 (by omega)
  clear hr1 hr2
  obtain ⟨j, rfl⟩ := Int.eq_ofNat_of_zero_le hr0
  obtain ⟨z, hzi, hzc⟩ := HZ.out j (by omega)
  have hcz : w1.cell? ⟨b, j, none⟩ = some (.int .i64 z) := hg1.cell hzc (by simpa using hne)
  clear HZ hzc
  go_wp2
  go_ret
  exact ⟨z, hzi, rfl, hc1, hg1⟩

theorem lit_cells (w : World) (zs : List Int) (cs : Array Value) (t : TypeId) (hcs : cs.toList = zs.map (Value.int .i64)) (hz : ∀ z ∈ zs, IsInt z) :
    ∀ j, j < zs.length → ∃ z, IsInt z ∧ (w.alloc (.cells cs t)).cell? ⟨w.heap.size, j, none⟩ = some (.int .i64 z) := by
  intro j hj
  refine ⟨zs[j], hz _ (List.getElem_mem hj), ?_⟩
  rw [cell_of_row _ w.heap.size j cs t (0, 0) (heap_alloc_new w _)]
  have : cs[j]? = (zs.map (Value.int .i64))[j]? := by rw [← hcs]; simp
  rw [this]
  simp [hj]

set_option maxHeartbeats 4000000 in
set_option maxRecDepth 100000 in
theorem numC (B g : Nat) (w : World) (hc : Cur w B g) (hgs : g < w.heap.size) :
    Calls Try.prog 14 #[.pointer (some ⟨g, 0, none⟩)] w fun e w' => ∃ q, IsInt q ∧ e = .returned (.int .i64 q) ∧ Cur w' B g ∧ w.grownBy w' (some g) := by
  go_enter Try.func14, Try.ntmps14
  go_wp2_with fail
  refine (belowC B g 6 w hc (by omega)).mono ?_
  rintro e w1 ⟨r, hr0, hr1, hr2, rfl, hc1, hg1⟩
  have hs1 := hg1.size
  clear hr1 hr2
  by_cases h0 : r = 0
  · subst h0
    go_wp2_with fail
    have hE : ∀ o, Ext w1 (w1.alloc o) := fun o => World.grownBy_alloc _ _ _
    refine (pickC B g w1.heap.size 8 _ (hc1.ext (hE _)) (by omega) (by omega) (by omega) ?_).mono ?_
    · exact lit_cells w1 [0, 1, 127, 128, 16383, 16384, 2147483647, 2147483646] _ _ rfl (by intro z hz; simp only [List.mem_cons, List.not_mem_nil, or_false] at hz; unfold IsInt; omega)
    · rintro e w2 ⟨q, hq, rfl, hc2, hg2⟩
      go_wp2
      go_ret
      exact ⟨q, hq, rfl, hc2, grown_tr hg1 (grown_tr (ext_row (hE _) _) hg2)⟩
  · have h0' : (r == 0) = false := by simpa using h0
    by_cases h1 : r = 1
    · subst h1
      clear h0'
      go_wp2_with fail
      have hE : ∀ o, Ext w1 (w1.alloc o) := fun o => World.grownBy_alloc _ _ _
      refine (pickC B g w1.heap.size 5 _ (hc1.ext (hE _)) (by omega) (by omega) (by omega) ?_).mono ?_
      · exact lit_cells w1 [-1, 2147483648, 4611686018427387904, -9223372036854775808, 9223372036854775807] _ _ rfl (by intro z hz; simp only [List.mem_cons, List.not_mem_nil, or_false] at hz; unfold IsInt; omega)
      · rintro e w2 ⟨q, hq, rfl, hc2, hg2⟩
        go_wp2
        go_ret
        exact ⟨q, hq, rfl, hc2, grown_tr hg1 (grown_tr (ext_row (hE _) _) hg2)⟩
    · have h1' : (r == 1) = false := by simpa using h1
      go_wp2_with fail
      refine (belowC B g 40000 w1 hc1 (by omega)).mono ?_
      rintro e w2 ⟨q, hq0, hq1, hq2, rfl, hc2, hg2⟩
      have hq3 := hq1 (by omega)
      clear hq1 hq2
      go_wp2
      go_ret
      exact ⟨q, ⟨by omega, by omega⟩, rfl, hc2, grown_tr hg1 hg2⟩

end Go.Proofs.Ytbkifmbkmjjbnab
