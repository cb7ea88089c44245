/- Draws of two members: DrawBeats. The program's Beats, told of numbers. -/
import Derived.Test.YtocloajmkeicjaaDr0
namespace Go.Proofs.Ytocloajmkeicjaa
open Go.RowKit

set_option maxRecDepth 20000 in
set_option maxHeartbeats 4000000 in
theorem drawB (a : Option Addr) (n cap : Nat) (xs : List Int) (w : World) (hr : Rd w a n xs) (hm : n ≤ maxLen) :
    Calls Try.prog 4 #[.slice a n cap] w fun e w' => ∃ m1 m2 : DMem, e = .returned (.tuple #[.agg #[.int .i64 m1.id, .int .i64 m1.st, .int .i64 m1.life], .agg #[.int .i64 m2.id, .int .i64 m2.st, .int .i64 m2.life]]) ∧ memInt m1 ∧ memInt m2 ∧ Below w.heap.size w w' := by
  have hE : ∀ w : World, ∀ o, Ext w (w.alloc o) := fun w o => World.grownBy_alloc _ _ _
  have HR : Hid (Rd w a n xs) := hr
  have HMM : Hid (n ≤ maxLen) := hm
  clear hr hm
  go_enter Try.func4, Try.ntmps4
  go_wp2_with fail
  generalize hW : World.alloc (World.alloc w _) _ = W
  have XW : Ext w W := by rw [← hW]; exact (hE _ _).tr (hE _ _)
  have R0 : W.heap[w.heap.size]? = some (.cells #[.int .i64 0, .int .i64 0, .int .i64 0] 24 (0, 0)) := by rw [← hW, Below.heap_alloc _ _ _ (by simp)]; exact heap_alloc_new w _
  have R1 : W.heap[w.heap.size + 1]? = some (.cells #[.int .i64 0, .int .i64 0, .int .i64 0] 24 (0, 0)) := by rw [← hW]; simpa using heap_alloc_new (World.alloc w (.cells #[.int .i64 0, .int .i64 0, .int .i64 0] 24 (0, 0))) (.cells #[.int .i64 0, .int .i64 0, .int .i64 0] 24 (0, 0))
  have sW : W.heap.size = w.heap.size + 2 := by rw [← hW]; simp
  clear hW
  refine (newC a n cap xs W (HR.out.grown XW) HMM.out).mono ?_
  rintro e w1 ⟨rfl, hc1, b1⟩
  have HC1 : Hid (Cur w1 W.heap.size W.heap.size) := hc1
  have R01 := ext_blk (ext_below b1) R0
  have R11 := ext_blk (ext_below b1) R1
  have B1 : Below w.heap.size w w1 := (ext_bel XW).trans (b1.mono (by omega))
  have s1 := (cur_in hc1).1
  have sg1 : w.heap.size ≠ W.heap.size ∧ w.heap.size + 1 ≠ W.heap.size ∧ w.heap.size + 1 < W.heap.size := by omega
  clear hc1 b1 R0 R1 sW
  generalize W.heap.size = g at *
  go_wp2_with fail
  refine (saidC g g w1 HC1.out).mono ?_
  rintro e w2 ⟨m1, rfl, hm1, hc2, hg2⟩
  have HM1 : Hid (memInt m1) := hm1
  have HC2 : Hid (Cur w2 g g) := hc2
  have R02 := grown_blk hg2 (by omega) R01
  have R12 := grown_blk hg2 (by omega) R11
  have B2 : Below w.heap.size w w2 := B1.grown hg2 B1.size (fun k hk => by cases hk; omega)
  have s2 : g < w2.heap.size := (cur_in hc2).1
  clear hm1 hc2 hg2 R01 R11 HC1
  go_wp2_with fail
  generalize hV : w2.alloc _ = V
  have XV : Ext w2 V := by rw [← hV]; exact hE _ _
  have A0 : V.heap[w2.heap.size]? = some (.cells #[.int .i64 m1.id, .int .i64 m1.st, .int .i64 m1.life] 24 (0, 0)) := by rw [← hV]; exact heap_alloc_new w2 _
  clear hV
  refine (saidC g g V (HC2.out.ext XV)).mono ?_
  rintro e w3 ⟨m2, rfl, hm2, hc3, hg3⟩
  have HM2 : Hid (memInt m2) := hm2
  have HC3 : Hid (Cur w3 g g) := hc3
  have R03 := grown_blk hg3 (by omega) (ext_blk XV R02)
  have R13 := grown_blk hg3 (by omega) (ext_blk XV R12)
  have A3 := grown_blk hg3 (by omega) A0
  have BV : Below w.heap.size w V := B2.trans ((ext_bel XV).mono B2.size)
  have B3 : Below w.heap.size w w3 := BV.grown hg3 BV.size (fun k hk => by cases hk; omega)
  have s3 : w2.heap.size < w3.heap.size := (Array.getElem?_eq_some_iff.1 A3).1
  clear hm2 hc3 hg3 R02 R12 A0 HC2 BV XV
  go_wp2_with fail
  generalize hV : w3.alloc _ = U
  have XU : Ext w3 U := by rw [← hV]; exact hE _ _
  have C0 : U.heap[w3.heap.size]? = some (.cells #[.int .i64 m2.id, .int .i64 m2.st, .int .i64 m2.life] 24 (0, 0)) := by rw [← hV]; exact heap_alloc_new w3 _
  clear hV
  refine (onceC g g 2 U (HC3.out.ext XU) (by omega)).mono ?_
  rintro e w4 ⟨y, rfl, hc4, hg4⟩
  have R04 := grown_blk hg4 (by omega) (ext_blk XU R03)
  have R14 := grown_blk hg4 (by omega) (ext_blk XU R13)
  have A4 := grown_blk hg4 (by omega) (ext_blk XU A3)
  have C4 := grown_blk hg4 (by omega) C0
  have BU : Below w.heap.size w U := B3.trans ((ext_bel XU).mono B3.size)
  have B4 : Below w.heap.size w w4 := BU.grown hg4 BU.size (fun k hk => by cases hk; omega)
  clear hc4 hg4 R03 R13 A3 C0 HC3 BU XU
  have n1 : w2.heap.size ≠ w.heap.size := by omega
  have n2 : w2.heap.size ≠ w.heap.size + 1 := by omega
  have n3 : w3.heap.size ≠ w.heap.size := by omega
  have n4 : w3.heap.size ≠ w.heap.size + 1 := by omega
  have n5 : w3.heap.size ≠ w2.heap.size := by omega
  have hb3 : w.heap.size ≤ w3.heap.size := by omega
  generalize w2.heap.size = ba at *
  generalize w3.heap.size = bb at *
  obtain ⟨ai, aS, al⟩ := m1
  obtain ⟨bi, bs, bl⟩ := m2
  have HB4 : Hid (Below w.heap.size w w4) := B4
  obtain ⟨x0, x1, x2⟩ : w4.cell? ⟨ba, 0, none⟩ = some (.int .i64 ai) ∧ w4.cell? ⟨ba, 1, none⟩ = some (.int .i64 aS) ∧ w4.cell? ⟨ba, 2, none⟩ = some (.int .i64 al) := ⟨(at_block A4 0 _ rfl).1, (at_block A4 1 _ rfl).1, (at_block A4 2 _ rfl).1⟩
  obtain ⟨z0, z1, z2, f0⟩ : w4.cell? ⟨bb, 0, none⟩ = some (.int .i64 bi) ∧ w4.cell? ⟨bb, 1, none⟩ = some (.int .i64 bs) ∧ w4.cell? ⟨bb, 2, none⟩ = some (.int .i64 bl) ∧ w4.frozen? ⟨bb, 0, none⟩ = false := ⟨(at_block C4 0 _ rfl).1, (at_block C4 1 _ rfl).1, (at_block C4 2 _ rfl).1, (at_block C4 0 _ rfl).2⟩
  obtain ⟨r0, g0⟩ := at_block R04 0 _ rfl
  obtain ⟨r1, g1⟩ := at_block R04 1 _ rfl
  obtain ⟨r2, g2⟩ := at_block R04 2 _ rfl
  obtain ⟨t0, h0⟩ := at_block R14 0 _ rfl
  obtain ⟨t1, h1⟩ := at_block R14 1 _ rfl
  obtain ⟨t2, h2⟩ := at_block R14 2 _ rfl
  have k1 : w.heap.size ≠ ba := Ne.symm n1
  have k2 : w.heap.size + 1 ≠ ba := Ne.symm n2
  have k3 : w.heap.size ≠ bb := Ne.symm n3
  have k4 : w.heap.size + 1 ≠ bb := Ne.symm n4
  have k5 : ba ≠ bb := Ne.symm n5
  have HMA : Hid (memInt ⟨ai, aS, al⟩) := HM1.out
  have HMB : Hid (memInt ⟨bi, bs, bl⟩ ∧ memInt ⟨ai, bs, bl⟩) := ⟨HM2.out, HM1.out.1, HM2.out.2⟩
  clear R04 R14 A4 C4 B1 B2 B3 B4 s1 s2 s3 XW HM1 HM2
  cases y
  · go_wp2_with fail
    go_region
    all_goals
      go_wp2
      refine bodyPost_ret (v := .tuple #[.agg #[.int .i64 ai, .int .i64 aS, .int .i64 al], .agg #[.int .i64 bi, .int .i64 bs, .int .i64 bl]]) (by simp [results, Try.results4, go_sem, *]) rfl ?_
      refine ⟨⟨ai, aS, al⟩, ⟨bi, bs, bl⟩, rfl, HMA.out, HMB.out.1, ?_⟩
      exact below_drewN ((((((HB4.out.setCell (Nat.le_refl _) _).setCell (Nat.le_refl _) _).setCell (Nat.le_refl _) _).setCell (Nat.le_succ _) _).setCell (Nat.le_succ _) _).setCell (Nat.le_succ _) _) 1
  · go_wp2_with fail
    go_region
    all_goals
      go_wp2
      refine bodyPost_ret (v := .tuple #[.agg #[.int .i64 ai, .int .i64 aS, .int .i64 al], .agg #[.int .i64 ai, .int .i64 bs, .int .i64 bl]]) (by simp [results, Try.results4, go_sem, *]) rfl ?_
      refine ⟨⟨ai, aS, al⟩, ⟨ai, bs, bl⟩, rfl, HMA.out, HMB.out.2, ?_⟩
      exact below_drewN (((((((HB4.out.setCell hb3 _).setCell (Nat.le_refl _) _).setCell (Nat.le_refl _) _).setCell (Nat.le_refl _) _).setCell (Nat.le_succ _) _).setCell (Nat.le_succ _) _).setCell (Nat.le_succ _) _) 1

end Go.Proofs.Ytocloajmkeicjaa
