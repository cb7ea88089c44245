
/- Whatever bytes come in: of the table that they draw each other one that lives is asked once in a round of a new prober, and nothing that was there turns. No condition. -/
import Derived.Test.YtmodliaieienfaaDrV
import Derived.Test.YtmodliaieienfaaPr8
import Derived.Test.YtmodliaieienfaaDrU
import Derived.Test.YtmodliaieienfaaLiB
import Derived.Test.YtmodliaieienfaaCurO
import Derived.Test.YtmodliaieienfaaElG
import Derived.Deep.CutRange
import Derived.Test.YtmodliaieienfaaInf
import Derived.Test.YtmodliaieienfaaVal0
import Derived.Test.YtmodliaieienfaaMd
import Derived.Test.YtmodliaieienfaaMdI
import Derived.Test.YtmodliaieienfaaQB
import Derived.Test.YtmodliaieienfaaMd2
import Derived.Test.YtmodliaieienfaaPr4a
import Derived.Test.YtmodliaieienfaaLiA
import Derived.Test.YtmodliaieienfaaPr3
import Derived.Test.YtmodliaieienfaaPr2a
import Derived.Lib.SliceRun
import Derived.Test.YtmodliaieienfaaPr6
import Derived.Test.YtmodliaieienfaaMdL
import Derived.Deep.RegionHeld3
import Derived.RangeFuncNested
import Derived.RangeFuncBound
import Derived.RangeFuncCalls
import Derived.RangeFuncLeaves
import Derived.RangeFuncFrom
import Derived.RangeFuncBox
import Derived.ScopeJumps
import Derived.Test.YtmodliaieienfaaPr7
import Derived.Shelf.Abstract
import Derived.Shelf.RegionOpen
import Derived.WalkKit
import Derived.OwnWalkIn
import Derived.TacticsInMore
import Derived.LoopNIn
import Derived.LoopIn
import Derived.WalkMore
import Derived.Test.YtmodliaieienfaaMs2
import Derived.BigQuiet
import Derived.Test.YtmodliaieienfaaRows
import Derived.ProofKit
import Derived.OpenShut
import Derived.ChangeOld
import Derived.Carry
namespace Go.Proofs.Ytmodliaieienfaa
open Go.RowKit

set_option maxRecDepth 20000 in
set_option maxHeartbeats 4000000 in
theorem bentTC (B g : Nat) (w : World) (hc : Cur w B g) : Calls Try.prog 13 #[.pointer (some ⟨g, 0, none⟩)] w (TabBent w B g) := by
  have hE : ∀ w : World, ∀ o, Ext w (w.alloc o) := fun w o => World.grownBy_alloc _ _ _
  have HC : Hid (Cur w B g) := hc
  have HGL : Hid (g < w.heap.size) := (cur_in hc).1
  clear hc
  go_enter Try.func13, Try.ntmps13
  go_wp2_with fail
  generalize hW : w.alloc _ = W
  have XW : Ext w W := by rw [← hW]; exact hE _ _
  have R0 : W.heap[w.heap.size]? = some (.cells #[.int .i64 0, .slice none 0 0] 28 (0, 0)) := by rw [← hW]; exact heap_alloc_new w _
  clear hW
  refine (tableC B g W (HC.out.ext XW)).mono ?_
  rintro e w1 ⟨T, tv, rfl, o1, p1, l1, c1, g1⟩
  obtain ⟨gr, cap, htv, hbg, hnc, hcm⟩ := o1.at p1
  obtain ⟨t0, ts0, hts⟩ : ∃ t0 ts0, T.mems = t0 :: ts0 := by
    cases h : T.mems with
    | nil => rw [h] at p1; simp at p1
    | cons a b => exact ⟨a, b, rfl⟩
  have HM2 : Hid (∀ V, V = w1.alloc (.cells #[.int .i64 T.self, tv] 28 (0, 0)) → TabQ w B g w.heap.size w1.heap.size T.self T.mems tv V) := fun V hV => by
    subst hV
    have hs1 := (Array.getElem?_eq_some_iff.1 (grown_blk g1 (by have := HGL.out; omega) R0)).1
    exact ⟨heap_alloc_new w1 _, (o1.ext (hE _ _)).base XW.size, c1.ext (hE _ _), grown_tr (grown_tr (ext_row XW _) g1) (ext_row (hE _ _) _), ext_blk (hE _ _) (grown_blk g1 (by have := HGL.out; omega) R0), HGL.out, Nat.le_trans XW.size g1.size, Nat.le_refl _, by omega⟩
  have HL : Hid (T.mems.length ≤ 12) := l1
  have HCP : Hid (T.mems.length ≤ cap ∧ cap ≤ maxLen) := ⟨hnc, hcm⟩
  have hcp0 : (cap : Int) ≤ 9223372036854775807 := by unfold maxLen at hcm; omega
  have hln0 : 0 < T.mems.length := p1
  have hln1 : (T.mems.length : Int) ≤ (cap : Int) := by omega
  have HTS : Hid (T.mems = t0 :: ts0) := hts
  subst htv
  clear R0 o1 c1 g1 l1 p1 hts hbg hnc hcm XW
  go_upto_region 2 with fail
  generalize hV : w1.alloc _ = V
  have HT0 := hideR2 (HM2.out V hV.symm)
  clear hV HM2
  generalize w1.heap.size = gt at *
  generalize hls : T.mems.length = ln at *
  have HLS : Hid (T.mems.length = ln) := hls
  clear hls
  go_wp2_with fail
  refine (onceC B g 7 V HT0.out.cur (by omega)).mono ?_
  rintro e w2 ⟨y, rfl, hc2, hg2⟩
  have HT2 := hideR2 (HT0.out.draw hc2 hg2)
  have hne1 : w.heap.size ≠ gt := HT2.out.nr
  have hne2 : gt ≠ w.heap.size := Ne.symm HT2.out.nr
  clear hc2 hg2 HT0
  cases y
  · have HF : Hid (TabBent w B g (.returned (.agg #[.int .i64 T.self, .slice (some ⟨gr, 0, none⟩) ln cap])) ((w2.setCell ⟨w.heap.size, 0, none⟩ (.int .i64 T.self)).setCell ⟨w.heap.size, 1, none⟩ (.slice (some ⟨gr, 0, none⟩) ln cap))) := HT2.out.bent (by rw [HLS.out]) (by rw [HLS.out]; have := HL.out; omega)
    obtain ⟨x0, x1⟩ := two_cells HT2.out.box
    obtain ⟨r0, f0⟩ := at_block HT2.out.res 0 _ rfl
    obtain ⟨r1, f1⟩ := at_block HT2.out.res 1 _ rfl
    go_wp2
    exact bodyPost_ret (v := .agg #[.int .i64 T.self, .slice (some ⟨gr, 0, none⟩) ln cap]) (by simp [results, Try.results13, go_sem, *]) rfl HF.out
  go_wp2_with fail
  refine (belowC B g 5 w2 HT2.out.cur (by omega)).mono ?_
  rintro e w3 ⟨r, hr0, hr1, _, rfl, hc3, hg3⟩
  have hr5 : r < 5 := hr1 (by omega)
  have HT3 := hideR2 (HT2.out.draw hc3 hg3)
  have hs3 : g < w3.heap.size := (cur_in hc3).1
  clear hc3 hg3 HT2 hr1
  by_cases e0 : r = 0
  · subst e0
    have HLC : Hid (∀ j, j < 3 → ∃ z, IsInt z ∧ (w3.alloc (.cells #[.int .i64 (-1), .int .i64 11, .int .i64 12] 3)).cell? ⟨w3.heap.size, j, none⟩ = some (.int .i64 z)) := lit_cells w3 [-1, 11, 12] _ 3 rfl (by unfold IsInt; simp)
    have HTA := hideR2 (HT3.out.ext (hE w3 (.cells #[.int .i64 (-1), .int .i64 11, .int .i64 12] 3)))
    go_wp2_with fail
    refine (pickC B g w3.heap.size 3 _ HTA.out.cur (by omega) (by omega) (by omega) HLC.out).mono ?_
    rintro e w4 ⟨q, hq, rfl, hc4, hg4⟩
    have HT4 := hideR2 (HTA.out.draw hc4 hg4)
    have HT5 := hideR2 (HT4.out.setSelf q)
    clear hc4 hg4 HTA HLC
    have HF : Hid (TabBent w B g (.returned (.agg #[.int .i64 q, .slice (some ⟨gr, 0, none⟩) ln cap])) (((w4.setCell ⟨gt, 0, none⟩ (.int .i64 q)).setCell ⟨w.heap.size, 0, none⟩ (.int .i64 q)).setCell ⟨w.heap.size, 1, none⟩ (.slice (some ⟨gr, 0, none⟩) ln cap))) := HT5.out.bent (by rw [HLS.out]) (by rw [HLS.out]; have := HL.out; omega)
    obtain ⟨x0, k0⟩ := at_block HT4.out.box 0 _ rfl
    obtain ⟨x1, k1⟩ := at_block HT4.out.box 1 _ rfl
    obtain ⟨r0, f0⟩ := at_block HT4.out.res 0 _ rfl
    obtain ⟨r1, f1⟩ := at_block HT4.out.res 1 _ rfl
    go_wp2
    exact bodyPost_ret (v := .agg #[.int .i64 q, .slice (some ⟨gr, 0, none⟩) ln cap]) (by simp [results, Try.results13, go_sem, *]) rfl HF.out
  by_cases e1 : r = 1
  · subst e1
    obtain ⟨x0, x1⟩ := two_cells HT3.out.box
    go_upto_region 9 with fail
    have HCW : Hid (Cur w3.drew B g) := HT3.out.cur.ext (ext_drewN _ 1)
    go_region_law
      (first
        | (have zz := HTB; clear zz; refine step_append_Mem rfl (.tmp 25) (.tmp 28) 26 Try.underlying26 rfl w.heap.size (.slice (some ⟨gr, 0, none⟩) ln cap) T.mems rfl HTB.out.own (some ⟨w4.heap.size, 0, none⟩) 1 1 [m] rfl (VMem.one w4 m) (by have := HL.out; have := HLS.out; simp; omega) (by have := HTB.out.gr.size; exact this) ?_; intro v5 w5 o5 g5 _; have HO5 : Hid (OwMem w5 w.heap.size v5 (T.mems ++ [m])) := o5; have HT5 : Hid (TabQ w B g w.heap.size gt T.self (T.mems ++ [m]) v5 (w5.setCell ⟨gt, 1, none⟩ v5)) := (tabq_app HTB.out o5 g5); have y1 := (at_block (tabq_box HTB.out g5) 1 _ rfl); obtain ⟨y1a, y1b⟩ := y1; have y0 := (at_block (tabq_box HTB.out g5) 0 _ rfl).1; obtain ⟨va5, vc5, hv5⟩ := o5.v.shape; obtain ⟨l5, hl5⟩ : ∃ l5, l5 = (T.mems ++ [m]).length := ⟨_, rfl⟩; rw [← hl5] at hv5; have HL5 : Hid (l5 = (T.mems ++ [m]).length) := hl5; clear hl5; subst hv5; have HR5 := hideR2 (tabq_res HTB.out g5); clear o5 g5)
        | (go_simp; go_at_call 30; refine (memC B g _ HCW.out).mono ?_; rintro e w4 ⟨m, rfl, hm, hc4, hg4⟩; have HT4 := hideR2 ((HT3.out.ext (ext_drewN w3 1)).draw hc4 hg4); have HTB := hideR2 (HT4.out.ext (hE w4 (.cells #[.int .i64 m.id, .int .i64 m.st, .int .i64 m.life] 40))); obtain ⟨z0, z1⟩ := two_cells HT4.out.box; obtain ⟨z2, z3⟩ := two_cells HTB.out.box; clear hm hc4 hg4))
    all_goals
      have HF : Hid (TabBent w B g (.returned (.agg #[.int .i64 T.self, .slice va5 l5 vc5])) (((w5.setCell ⟨gt, 1, none⟩ (.slice va5 l5 vc5)).setCell ⟨w.heap.size, 0, none⟩ (.int .i64 T.self)).setCell ⟨w.heap.size, 1, none⟩ (.slice va5 l5 vc5))) := HT5.out.bent (by rw [HL5.out]) (by have := HL.out; have := HLS.out; simp; omega)
      obtain ⟨r0, f0⟩ := at_block HR5.out 0 _ rfl
      obtain ⟨r1, f1⟩ := at_block HR5.out 1 _ rfl
      go_wp2
      exact bodyPost_ret (v := .agg #[.int .i64 T.self, .slice va5 l5 vc5]) (by simp [results, Try.results13, go_sem, *]) rfl HF.out
  by_cases e2 : r = 2
  · subst e2
    obtain ⟨x0, x1⟩ := two_cells HT3.out.box
    have kx := fun o => World.grownBy.cell (World.grownBy_alloc w3 o none) x1 (by simp)
    have HLC : Hid (∀ j, j < 3 → ∃ z, IsInt z ∧ ((w3.alloc (.cells #[.int .i64 (-1), .int .i64 (1), .int .i64 (4)] 3)).drew).cell? ⟨w3.heap.size, j, none⟩ = some (.int .i64 z)) := lit_cells w3 [-1, 1, 4] _ 3 rfl (by unfold IsInt; simp)
    have HTA := hideR2 ((HT3.out.ext (hE w3 (.cells #[.int .i64 (-1), .int .i64 (1), .int .i64 (4)] 3))).ext (ext_drewN _ 1))
    have HM0 : Hid (T.mems[0]? = some t0) := by rw [HTS.out]; rfl
    have hng : w3.heap.size ≠ g := by omega
    go_upto_region 11 with fail
    go_region_law (go_simp; go_at_call 29; refine (pickC B g w3.heap.size 3 _ HTA.out.cur (by omega) (by omega) hng HLC.out).mono ?_; rintro e w4 ⟨q, hq, rfl, hc4, hg4⟩; have HT4 := hideR2 (HTA.out.draw hc4 hg4); obtain ⟨z0, z1⟩ := two_cells HT4.out.box; obtain ⟨u0, u1, u2, v0, v1, v2⟩ := HT4.out.own.cells HLS.out.symm HM0.out; simp only [Nat.zero_mul, Nat.zero_add] at u0 u1 u2 v0 v1 v2; have P4 := (HT4.out.own.put1 HLS.out.symm HM0.out q); simp only [Nat.zero_mul, Nat.zero_add] at P4; have HT5 := hideR2 (HT4.out.turn P4 (set_grown _ _ _ _) rfl); obtain ⟨y0, y1⟩ := two_cells HT5.out.box; obtain ⟨r0, f0⟩ := at_block HT5.out.res 0 _ rfl; obtain ⟨r1, f1⟩ := at_block HT5.out.res 1 _ rfl; clear hc4 hg4 P4)
    all_goals
      have HF : Hid (TabBent w B g (.returned (.agg #[.int .i64 T.self, .slice (some ⟨gr, 0, none⟩) ln cap])) (((w4.setCell ⟨gr, 1, none⟩ (.int .i64 q)).setCell ⟨w.heap.size, 0, none⟩ (.int .i64 T.self)).setCell ⟨w.heap.size, 1, none⟩ (.slice (some ⟨gr, 0, none⟩) ln cap))) := HT5.out.bent (by rw [List.length_set, HLS.out]) (by rw [List.length_set, HLS.out]; have := HL.out; omega)
      go_wp2
      exact bodyPost_ret (v := .agg #[.int .i64 T.self, .slice (some ⟨gr, 0, none⟩) ln cap]) (by simp [results, Try.results13, go_sem, *]) rfl HF.out
  by_cases e3 : r = 3
  · subst e3
    obtain ⟨x0, x1⟩ := two_cells HT3.out.box
    have kx := fun o => World.grownBy.cell (World.grownBy_alloc w3 o none) x1 (by simp)
    have HLC : Hid (∀ j, j < 3 → ∃ z, IsInt z ∧ ((w3.alloc (.cells #[.int .i64 (-1), .int .i64 (1000), .int .i64 (1001)] 3)).drew).cell? ⟨w3.heap.size, j, none⟩ = some (.int .i64 z)) := lit_cells w3 [-1, 1000, 1001] _ 3 rfl (by unfold IsInt; simp)
    have HTA := hideR2 ((HT3.out.ext (hE w3 (.cells #[.int .i64 (-1), .int .i64 (1000), .int .i64 (1001)] 3))).ext (ext_drewN _ 1))
    have HM0 : Hid (T.mems[0]? = some t0) := by rw [HTS.out]; rfl
    have hng : w3.heap.size ≠ g := by omega
    go_upto_region 13 with fail
    go_region_law (go_simp; go_at_call 29; refine (pickC B g w3.heap.size 3 _ HTA.out.cur (by omega) (by omega) hng HLC.out).mono ?_; rintro e w4 ⟨q, hq, rfl, hc4, hg4⟩; have HT4 := hideR2 (HTA.out.draw hc4 hg4); obtain ⟨z0, z1⟩ := two_cells HT4.out.box; obtain ⟨u0, u1, u2, v0, v1, v2⟩ := HT4.out.own.cells HLS.out.symm HM0.out; simp only [Nat.zero_mul, Nat.zero_add] at u0 u1 u2 v0 v1 v2; have P4 := (HT4.out.own.put2 HLS.out.symm HM0.out q); simp only [Nat.zero_mul, Nat.zero_add] at P4; have HT5 := hideR2 (HT4.out.turn P4 (set_grown _ _ _ _) rfl); obtain ⟨y0, y1⟩ := two_cells HT5.out.box; obtain ⟨r0, f0⟩ := at_block HT5.out.res 0 _ rfl; obtain ⟨r1, f1⟩ := at_block HT5.out.res 1 _ rfl; clear hc4 hg4 P4)
    all_goals
      have HF : Hid (TabBent w B g (.returned (.agg #[.int .i64 T.self, .slice (some ⟨gr, 0, none⟩) ln cap])) (((w4.setCell ⟨gr, 2, none⟩ (.int .i64 q)).setCell ⟨w.heap.size, 0, none⟩ (.int .i64 T.self)).setCell ⟨w.heap.size, 1, none⟩ (.slice (some ⟨gr, 0, none⟩) ln cap))) := HT5.out.bent (by rw [List.length_set, HLS.out]) (by rw [List.length_set, HLS.out]; have := HL.out; omega)
      go_wp2
      exact bodyPost_ret (v := .agg #[.int .i64 T.self, .slice (some ⟨gr, 0, none⟩) ln cap]) (by simp [results, Try.results13, go_sem, *]) rfl HF.out
  have e4 : r = 4 := by omega
  subst e4
  obtain ⟨x0, k0⟩ := at_block HT3.out.box 0 _ rfl
  obtain ⟨x1, k1⟩ := at_block HT3.out.box 1 _ rfl
  obtain ⟨r0, f0⟩ := at_block HT3.out.res 0 _ rfl
  obtain ⟨r1, f1⟩ := at_block HT3.out.res 1 _ rfl
  have hl1 : (1 : Int) ≤ (ln : Int) := by omega
  have HT9 := HT3
  have HL0 : Hid (ts0.length = ln - 1 ∧ 0 < ln ∧ ln ≤ cap) := by have h1 := HLS.out; rw [HTS.out, List.length_cons] at h1; exact ⟨by omega, by omega, by omega⟩
  have HF1 : Hid (cap = 1 → TabBent w B g (.returned (.agg #[.int .i64 T.self, .slice (some ⟨gr, 0, none⟩) (ln - 1) 0])) (((w3.setCell ⟨gt, 1, none⟩ (.slice (some ⟨gr, 0, none⟩) (ln - 1) 0)).setCell ⟨w.heap.size, 0, none⟩ (.int .i64 T.self)).setCell ⟨w.heap.size, 1, none⟩ (.slice (some ⟨gr, 0, none⟩) (ln - 1) 0))) := fun hc => by
    have h1 : ln - 1 = 0 := by have := HL0.out; omega
    rw [h1]
    obtain ⟨_, h2, h3⟩ := HT9.out.cut (.slice (some ⟨gr, 0, none⟩) 0 0) (.int .i64 T.self) (.slice (some ⟨gr, 0, none⟩) 0 0)
    exact ⟨⟨T.self, []⟩, _, 0, rfl, fun V _ => vmem_nil V _, Nat.zero_le _, h2, h3⟩
  have HF2 : Hid (TabBent w B g (.returned (.agg #[.int .i64 T.self, .slice (some ⟨gr, 3, none⟩) (ln - 1) (cap - 1)])) (((w3.setCell ⟨gt, 1, none⟩ (.slice (some ⟨gr, 3, none⟩) (ln - 1) (cap - 1))).setCell ⟨w.heap.size, 0, none⟩ (.int .i64 T.self)).setCell ⟨w.heap.size, 1, none⟩ (.slice (some ⟨gr, 3, none⟩) (ln - 1) (cap - 1)))) := by
    rw [← HL0.out.1]
    obtain ⟨h1, h2, h3⟩ := HT9.out.cut (.slice (some ⟨gr, 3, none⟩) ts0.length (cap - 1)) (.int .i64 T.self) (.slice (some ⟨gr, 3, none⟩) ts0.length (cap - 1))
    refine ⟨⟨T.self, ts0⟩, _, cap - 1, rfl, fun V hV => ?_, by have := HL0.out; have := HL.out; have := HLS.out; show ts0.length ≤ 13; omega, h2, h3⟩
    have h4 := (own_hi h1 hV).v
    rw [HTS.out] at h4
    have := vmem_tail h4
    simpa using this
  clear HT9
  go_wp2
  · exact bodyPost_ret (v := .agg #[.int .i64 T.self, .slice (some ⟨gr, 0, none⟩) (ln - 1) 0]) (by simp [results, Try.results13, go_sem, *]) rfl (HF1.out (by omega))
  · exact bodyPost_ret (v := .agg #[.int .i64 T.self, .slice (some ⟨gr, 3, none⟩) (ln - 1) (cap - 1)]) (by simp [results, Try.results13, go_sem, *]) rfl HF2.out

end Go.Proofs.Ytmodliaieienfaa

namespace Go.Proofs.Ytmodliaieienfaa
open Go.RowKit

theorem ProP.w {P : DPro} (h : ProP P) : ProW P := ⟨by have := h.1; omega, h.2.1, h.2.2.1⟩
def nextPD (P : DPro) (T : DTab) (h : Decidable (ProP P ∧ TabP T) := Classical.propDecidable (ProP P ∧ TabP T)) (k : Decidable (TabP T) := Classical.propDecidable (TabP T)) : DPro × Int := @ite _ (ProP P ∧ TabP T) h (nextL (othersD T k) 2 P) (zeroPro, -1)
theorem nextPD_no {P : DPro} {T : DTab} (h : ¬ (ProP P ∧ TabP T)) : nextPD P T = (zeroPro, -1) := by unfold nextPD; exact if_neg h
theorem nextPD_yes {P : DPro} {T : DTab} (h : ProP P ∧ TabP T) : nextPD P T = nextL (othersD T) 2 P := by unfold nextPD; exact if_pos h
def ptickPD (P : DPro) (T : DTab) (h : Decidable (ProP P ∧ TabP T) := Classical.propDecidable (ProP P ∧ TabP T)) (k : Decidable (TabP T) := Classical.propDecidable (TabP T)) : DPro × Int × Int := @ite _ (ProP P ∧ TabP T) h (tickPD (othersD T k) P) (zeroPro, 0, 0)
theorem ptickPD_no {P : DPro} {T : DTab} (h : ¬ (ProP P ∧ TabP T)) : ptickPD P T = (zeroPro, 0, 0) := by unfold ptickPD; exact if_neg h
theorem ptickPD_yes {P : DPro} {T : DTab} (h : ProP P ∧ TabP T) : ptickPD P T = tickPD (othersD T) P := by unfold ptickPD; exact if_pos h
theorem nextL_len {l : List Int} (hl : l.length ≤ 1048576) : ∀ (k : Nat) (P : DPro), P.order.length ≤ 1048576 → (nextL l k P).1.order.length ≤ 1048576
  | 0, _, h => h
  | k + 1, P, h => by
    rw [nextL]
    split
    · exact h
    · exact nextL_len hl k _ (by show (shufL l P.seed).1.length ≤ _; rw [shufL_len]; exact hl)
theorem nextPD_len (P : DPro) (T : DTab) (hp : P.order.length ≤ 1048576) (ht : T.mems.length ≤ 1048576) : (nextPD P T).1.order.length ≤ 1048576 := by
  by_cases h : ProP P ∧ TabP T
  · rw [nextPD_yes h]; exact nextL_len (others_len ht) 2 P hp
  · rw [nextPD_no h]; simp [zeroPro]
theorem ptickPD_len (P : DPro) (T : DTab) (hp : P.order.length ≤ 1048576) (ht : T.mems.length ≤ 1048576) : (ptickPD P T).1.order.length ≤ 1048576 := by
  by_cases h : ProP P ∧ TabP T
  · rw [ptickPD_yes h]
    unfold tickPD
    split
    · split
      · exact nextL_len (others_len ht) 2 P hp
      · exact nextL_len (others_len ht) 2 P hp
    · split
      · split <;> exact hp
      · split <;> exact hp
  · rw [ptickPD_no h]; simp [zeroPro]

end Go.Proofs.Ytmodliaieienfaa

namespace Go.Proofs.Ytmodliaieienfaa
open Go.RowKit

theorem scanL_le {l os : List Int} : ∀ (n j : Nat), os.length - j = n → ∀ {x : Int} {k : Nat}, scanL l (os.drop j) j = some (x, k) → k ≤ os.length
  | 0, j, hn, x, k, h => by rw [scanL_end (by omega)] at h; cases h
  | n + 1, j, hn, x, k, h => by
    have hj : j < os.length := by omega
    rw [scanL_at (List.getElem?_eq_getElem hj)] at h
    split at h
    · simp only [Option.some.injEq, Prod.mk.injEq] at h
      omega
    · exact scanL_le n (j + 1) (by omega) h
theorem nextL_w {l : List Int} (hl : l.length ≤ 1048576) : ∀ (m : Nat) (P : DPro), ProW P → ProW (nextL l m P).1
  | 0, _, h => h
  | m + 1, P, h => by
    cases hg : goOn l P with
    | some p =>
      obtain ⟨x, k⟩ := p
      rw [nextL, hg]
      have hk : k ≤ P.order.length := scanL_le _ P.next.toNat rfl hg
      exact ⟨h.1, ⟨by show (0 : Int) ≤ (k : Int); omega, by show (k : Int) ≤ (P.order.length : Nat); omega⟩, h.2.2⟩
    | none =>
      rw [nextL, hg]
      exact nextL_w hl m _ (anew_w h hl)
theorem tick_w {l : List Int} (hl : l.length ≤ 1048576) {P : DPro} (h : ProW P) (h0 : 0 ≤ P.wait) (h4 : P.wait ≤ 4) : ProW (tickPD l P).1 ∧ 0 ≤ (tickPD l P).1.wait ∧ (tickPD l P).1.wait ≤ 4 ∨ (tickPD l P).1.wait = (nextL l 2 P).1.wait ∧ ProW (tickPD l P).1 := by
  have hn := nextL_w hl 2 P h
  unfold tickPD
  split
  · split
    · exact .inr ⟨rfl, hn⟩
    · exact .inl ⟨hn, Int.le_refl _, by show (0 : Int) ≤ 4; omega⟩
  · split
    · split
      · exact .inl ⟨h, by show 0 ≤ P.wait + 1; omega, by show P.wait + 1 ≤ 4; omega⟩
      · exact .inl ⟨h, Int.le_refl _, by show (0 : Int) ≤ 4; omega⟩
    · split
      · exact .inl ⟨h, by show 0 ≤ P.wait + 1; omega, by show P.wait + 1 ≤ 4; omega⟩
      · exact .inl ⟨h, Int.le_refl _, by show (0 : Int) ≤ 4; omega⟩
theorem nextL_wait {l : List Int} : ∀ (m : Nat) (P : DPro), (nextL l m P).1.wait = P.wait
  | 0, _ => rfl
  | m + 1, P => by
    cases hg : goOn l P with
    | some p => obtain ⟨x, k⟩ := p; rw [nextL, hg]
    | none => rw [nextL, hg]; exact nextL_wait m _
theorem tick_ok {l : List Int} (hl : l.length ≤ 1048576) {P : DPro} (h : ProW P) (h0 : 0 ≤ P.wait) (h4 : P.wait ≤ 4) : ProW (tickPD l P).1 ∧ 0 ≤ (tickPD l P).1.wait ∧ (tickPD l P).1.wait ≤ 4 := by
  rcases tick_w hl h h0 h4 with h' | ⟨h1, h2⟩
  · exact h'
  · rw [h1, nextL_wait]; exact ⟨h2, h0, h4⟩

/-- What a draw of a prober leaves. -/
def ProDrawn (w : World) (B g : Nat) (e : Ending) (w' : World) : Prop := ∃ (P : DPro) (pv : Value), e = .returned (.agg #[pv, .int .i64 P.next, .int .i64 P.seed, .int .i64 P.state, .int .i64 P.who, .int .i64 P.wait]) ∧ OwI w' w.heap.size pv P.order ∧ P.order.length ≤ 1048576 ∧ Cur w' B g ∧ w.grownBy w' (some g)
theorem Cur.below {w w' : World} {B g b : Nat} (h : Cur w B g) (k : Below b w w') (hg : g < b) : Cur w' B g := by
  obtain ⟨a, n, cap, xs, i, hh, hb, h3, h4, h5, h6, h7⟩ := h
  refine ⟨a, n, cap, xs, i, hh, by rw [k.block g hg]; exact hb, h3, h4, h5, ?_, h7⟩
  refine ⟨h6.len, fun j hj => ?_, h6.rng⟩
  obtain ⟨c, o', ha, hc⟩ := h6.cell j hj
  have hb' := h7 _ ha
  simp only at hb'
  refine ⟨c, o', ha, ?_⟩
  rw [← hc]
  unfold World.cell?
  rw [k.block c (by omega)]
theorem grown_low {a b c : World} {g k : Nat} (x : a.grownBy b (some g)) (y : Below k b c) (h : a.heap.size ≤ k) : a.grownBy c (some g) :=
  ⟨y.os.trans x.os, y.tape.trans x.tape, y.output.trans x.output, Nat.le_trans x.size y.size, fun j hj hn => (y.block j (by omega)).trans (x.block j hj hn)⟩

end Go.Proofs.Ytmodliaieienfaa

namespace Go.Proofs.Ytmodliaieienfaa
open Go.RowKit

set_option maxRecDepth 20000 in
set_option maxHeartbeats 4000000 in
theorem drawPC (B g : Nat) (T : DTab) (a : Option Addr) (c : Nat) (w : World) (hc : Cur w B g) (hT : ∀ W, w.grownBy W (some g) → VMem W (.slice a T.mems.length c) T.mems) (hl : T.mems.length ≤ 13) :
    Calls Try.prog 15 #[.pointer (some ⟨g, 0, none⟩), .agg #[.int .i64 T.self, .slice a T.mems.length c]] w (ProDrawn w B g) := by
  have hE : ∀ w : World, ∀ o, Ext w (w.alloc o) := fun w o => World.grownBy_alloc _ _ _
  have HC : Hid (Cur w B g) := hc
  have HGL : Hid (g < w.heap.size) := (cur_in hc).1
  have HT : Hid (∀ W, w.grownBy W (some g) → VTab W (.agg #[.int .i64 T.self, .slice a T.mems.length c]) T) := fun W h => ⟨_, rfl, hT W h⟩
  obtain ⟨n, hn⟩ : ∃ n, n = T.mems.length := ⟨_, rfl⟩
  have HL : Hid (T.mems.length ≤ 13) := hl
  rw [← hn] at HT ⊢
  clear hc hT hn hl
  go_enter Try.func15, Try.ntmps15
  go_wp2_with fail
  generalize hW : World.alloc (World.alloc w _) _ = W
  have XW : Ext w W := by rw [← hW]; exact (hE _ _).tr (hE _ _)
  have Q0 : W.heap[w.heap.size]? = some (.cells #[.int .i64 T.self, .slice a n c] 28 (0, 0)) := by rw [← hW, Below.heap_alloc _ _ _ (by simp)]; exact heap_alloc_new w _
  have R0 : W.heap[w.heap.size + 1]? = some (.cells #[.slice none 0 0, .int .i64 0, .int .i64 0, .int .i64 0, .int .i64 0, .int .i64 0] 25 (0, 0)) := by rw [← hW]; simpa using heap_alloc_new (World.alloc w _) (.cells #[.slice none 0 0, .int .i64 0, .int .i64 0, .int .i64 0, .int .i64 0, .int .i64 0] 25 (0, 0))
  clear hW
  refine (belowC B g 999 W (HC.out.ext XW) (by omega)).mono ?_
  rintro e w1 ⟨s, hs0, hs1, _, rfl, hc1, hg1⟩
  have hs9 : s < 999 := hs1 (by omega)
  have G1 : w.grownBy w1 (some g) := grown_tr (ext_row XW _) hg1
  have Q1 := grown_blk hg1 (by have := HGL.out; omega) Q0
  have R1 := grown_blk hg1 (by have := HGL.out; omega) R0
  have hsz : w.heap.size + 1 < w1.heap.size := (Array.getElem?_eq_some_iff.1 R1).1
  have HM2 : Hid (∀ V, V = w1.alloc (.cells #[.slice none 0 0, .int .i64 0, .int .i64 s, .int .i64 0, .int .i64 0, .int .i64 0] 25 (0, 0)) → NxSt w1 w1.heap.size w1.heap.size ⟨[], 0, s, 0, 0, 0⟩ (.slice none 0 0) V ∧ Cur V B g) := fun V hV => by
    subst hV
    exact ⟨⟨heap_alloc_new w1 _, OwI.nil _ _, (Below.refl _ w1).alloc (Nat.le_refl _) _⟩, hc1.ext (hE _ _)⟩
  have HG1 : Hid (w.grownBy w1 (some g)) := G1
  have HC1 : Hid (Cur w1 B g) := hc1
  have HQ1 := hideR2 Q1
  have HR1 := hideR2 R1
  have HSZ : Hid (w.heap.size + 1 < w1.heap.size) := hsz
  have HS9 : Hid (ProW ⟨[], 0, s, 0, 0, 0⟩) := ⟨Nat.zero_le _, ⟨Int.le_refl _, Int.le_refl _⟩, hs0, by show s ≤ 2147483647; omega⟩
  clear Q0 R0 Q1 R1 hc1 hg1 G1 XW hs1
  go_upto_region 2 with fail
  generalize hV : w1.alloc _ = V
  obtain ⟨N0, C0⟩ := HM2.out V hV.symm
  have HN0 := hideR2 N0
  clear hV HM2 N0
  go_wp2_with fail
  refine (belowC B g 9 V C0 (by omega)).mono ?_
  rintro e w3 ⟨k9, hk0, hk1, _, rfl, hc3, hg3⟩
  have hk9 : k9 < 9 := hk1 (by omega)
  obtain ⟨nn, rfl⟩ := Int.eq_ofNat_of_zero_le hk0
  have hgl1 : g < w1.heap.size := by have := HGL.out; omega
  have HN3 : Hid (∃ W0, w.grownBy W0 (some g) ∧ Cur w3 B g ∧ NxSt W0 w1.heap.size w1.heap.size ⟨[], 0, s, 0, 0, 0⟩ (.slice none 0 0) w3 ∧ W0.heap[w.heap.size]? = some (.cells #[.int .i64 T.self, .slice a n c] 28 (0, 0)) ∧ W0.heap[w.heap.size + 1]? = some (.cells #[.slice none 0 0, .int .i64 0, .int .i64 0, .int .i64 0, .int .i64 0, .int .i64 0] 25 (0, 0)) ∧ w1.heap.size ≤ W0.heap.size) := by
    have hb : w3.heap[w1.heap.size]? = some (.cells #[.slice none 0 0, .int .i64 0, .int .i64 s, .int .i64 0, .int .i64 0, .int .i64 0] 25 (0, 0)) := grown_blk hg3 (by omega) HN0.out.box
    have hx : w.grownBy w3 (some g) := grown_tr (grown_low HG1.out HN0.out.low (by have := HSZ.out; omega)) hg3
    have h1 := HN0.out.low
    refine ⟨w3, hx, hc3, ⟨hb, OwI.nil _ _, Below.refl _ _⟩, ?_, ?_, Nat.le_of_lt (Array.getElem?_eq_some_iff.1 hb).1⟩
    · exact grown_blk hg3 (by have := HGL.out; omega) ((h1.block _ (by have := HSZ.out; omega)).trans HQ1.out)
    · exact grown_blk hg3 (by have := HGL.out; omega) ((h1.block _ (by have := HSZ.out; omega)).trans HR1.out)
  clear hk0 hk1 hc3 hg3 C0
  go_wp2
  go_loopw [7] (fun i wr => ∃ (k : Nat) (P : DPro) (pv : Value), k ≤ nn ∧ i = .int .i64 k ∧ Hid (ProW P ∧ 0 ≤ P.wait ∧ P.wait ≤ 4) ∧ Hid (∃ W0, w.grownBy W0 (some g) ∧ Cur W0 B g ∧ NxSt W0 w1.heap.size w1.heap.size P pv wr ∧ W0.heap[w.heap.size]? = some (.cells #[.int .i64 T.self, .slice a n c] 28 (0, 0)) ∧ W0.heap[w.heap.size + 1]? = some (.cells #[.slice none 0 0, .int .i64 0, .int .i64 0, .int .i64 0, .int .i64 0, .int .i64 0] 25 (0, 0)) ∧ w1.heap.size ≤ W0.heap.size)) (fun i _ => nn - (intOf i).toNat)
  case atStart =>
    obtain ⟨W0, h1, h2, h3, h4, h5, h6⟩ := HN3.out
    have h7 : w3.heap.size = w3.heap.size := rfl
    exact ⟨0, _, _, Nat.zero_le _, rfl, ⟨HS9.out, Int.le_refl _, by show (0 : Int) ≤ 4; omega⟩, ⟨w3, grown_low h1 h3.low (by have := HSZ.out; omega), h2, ⟨h3.box, h3.own, Below.refl _ _⟩, (h3.low.block _ (by have := HSZ.out; omega)).trans h4, (h3.low.block _ (by have := HSZ.out; omega)).trans h5, Nat.le_of_lt (Array.getElem?_eq_some_iff.1 h3.box).1⟩⟩
  case round =>
    obtain ⟨k, P, pv, hk, rfl, hP, hS⟩ := hrel
    obtain ⟨W0, hG, hC, hN, hQ, hR, hz⟩ := hS.out
    have hsz := HSZ.out
    have hq : wr.heap[w.heap.size]? = some (.cells #[.int .i64 T.self, .slice a n c] 28 (0, 0)) := (hN.low.block _ (by omega)).trans hQ
    have hr : wr.heap[w.heap.size + 1]? = some (.cells #[.slice none 0 0, .int .i64 0, .int .i64 0, .int .i64 0, .int .i64 0, .int .i64 0] 25 (0, 0)) := (hN.low.block _ (by omega)).trans hR
    have hgw : w.grownBy wr (some g) := grown_low hG hN.low (by omega)
    have hcw : Cur wr B g := hC.below hN.low (by omega)
    have HN := hideR2 hN
    have HGW := hideR2 hgw
    have HCW := hideR2 hcw
    have HQW := hideR2 hq
    have HRW := hideR2 hr
    clear hN hQ hR hG hC hS hq hr hgw hcw hz
    by_cases hlt : k < nn
    · have hlt' : (k : Int) < (nn : Int) := by omega
      obtain ⟨x0, x1⟩ := two_cells HQW.out
      have HSW : Hid (w1.heap.size ≤ wr.heap.size) := Nat.le_of_lt (Array.getElem?_eq_some_iff.1 HN.out.box).1
      go_wp2_with fail
      refine (sTickV w1.heap.size w1.heap.size P pv _ T wr HN.out.box HN.out.own hP.out.1 hP.out.2.1 hP.out.2.2 (HT.out wr HGW.out) (by have := HL.out; omega) (Nat.le_refl _) HSW.out).mono ?_
      rintro e w5 ⟨rfl, qv, N5⟩
      have HP5 : Hid (ProW (tickPD (othersD T) P).1 ∧ 0 ≤ (tickPD (othersD T) P).1.wait ∧ (tickPD (othersD T) P).1.wait ≤ 4) := tick_ok (others_len (by have := HL.out; omega)) hP.out.1 hP.out.2.1 hP.out.2.2
      have HN5 : Hid (NxSt wr w1.heap.size w1.heap.size (tickPD (othersD T) P).1 qv w5) := N5
      clear N5
      go_wp2
      go_roundw
      case rel => exact ⟨k + 1, _, qv, by omega, by go_num, HP5, ⟨wr, HGW.out, HCW.out, HN5.out, HQW.out, HRW.out, HSW.out⟩⟩
      case measure => simp [intOf]; omega
    · have hkn : k = nn := by omega
      subst hkn
      obtain ⟨x0, x1, x2, x3, x4, x5⟩ := cells6 HN.out.box
      obtain ⟨r0, f0⟩ := at_block HRW.out 0 _ rfl
      obtain ⟨r1, f1⟩ := at_block HRW.out 1 _ rfl
      obtain ⟨r2, f2⟩ := at_block HRW.out 2 _ rfl
      obtain ⟨r3, f3⟩ := at_block HRW.out 3 _ rfl
      obtain ⟨r4, f4⟩ := at_block HRW.out 4 _ rfl
      obtain ⟨r5, f5⟩ := at_block HRW.out 5 _ rfl
      obtain ⟨pa, pc, hpv⟩ := HN.out.own.shape
      obtain ⟨pn, hpn⟩ : ∃ pn, pn = P.order.length := ⟨_, rfl⟩
      rw [← hpn] at hpv
      subst hpv
      have hne1 : w.heap.size + 1 ≠ w1.heap.size := by omega
      have hne2 : w1.heap.size ≠ w.heap.size + 1 := by omega
      have HF : Hid (ProDrawn w B g (.returned (.agg #[.slice pa pn pc, .int .i64 P.next, .int .i64 P.seed, .int .i64 P.state, .int .i64 P.who, .int .i64 P.wait])) ((((((wr.setCell ⟨w.heap.size + 1, 0, none⟩ (.slice pa pn pc)).setCell ⟨w.heap.size + 1, 1, none⟩ (.int .i64 P.next)).setCell ⟨w.heap.size + 1, 2, none⟩ (.int .i64 P.seed)).setCell ⟨w.heap.size + 1, 3, none⟩ (.int .i64 P.state)).setCell ⟨w.heap.size + 1, 4, none⟩ (.int .i64 P.who)).setCell ⟨w.heap.size + 1, 5, none⟩ (.int .i64 P.wait))) := by
        have hs : wr.grownBy ((((((wr.setCell ⟨w.heap.size + 1, 0, none⟩ (.slice pa pn pc)).setCell ⟨w.heap.size + 1, 1, none⟩ (.int .i64 P.next)).setCell ⟨w.heap.size + 1, 2, none⟩ (.int .i64 P.seed)).setCell ⟨w.heap.size + 1, 3, none⟩ (.int .i64 P.state)).setCell ⟨w.heap.size + 1, 4, none⟩ (.int .i64 P.who)).setCell ⟨w.heap.size + 1, 5, none⟩ (.int .i64 P.wait)) (some (w.heap.size + 1)) := ((((((set_grown _ _ _ _).trans (set_grown _ _ _ _)).trans (set_grown _ _ _ _)).trans (set_grown _ _ _ _)).trans (set_grown _ _ _ _)).trans (set_grown _ _ _ _))
        exact ⟨P, _, rfl, (HN.out.own.keep hs (pro_ne HN.out.own HRW.out)).base (by omega), hP.out.1.1, HCW.out.off hs (by have := HGL.out; omega), grown_both HGW.out hs (by omega)⟩
      clear hpn hsz hs0 hs9 hgl1 HN HQW HN0 HQ1 HR1 HN3 HRW hP hk hk9
      generalize w1.heap.size = gt at *
      generalize w.heap.size + 1 = rb at *
      go_wp2
      exact bodyPost_ret (v := .agg #[.slice pa pn pc, .int .i64 P.next, .int .i64 P.seed, .int .i64 P.state, .int .i64 P.who, .int .i64 P.wait]) (by simp [results, Try.results15, go_sem, *]) rfl HF.out

end Go.Proofs.Ytmodliaieienfaa

namespace Go.Proofs.Ytmodliaieienfaa
open Go.RowKit

theorem step_append_il {ops : Array Oper} {o : Oper} {a : Act} {w : World} {K : Act → World → Prop} {Q : Exit → Act → World → Prop} {E : Prop} (hgd : o.guard = none) (s x : Operand)
    (ho : o.op = .call { callee := .builtin .append, args := #[s, x], argTypes := #[23, 23] })
    (base : Nat) (v : Value) (xs : List Int) (hs : a.eval s = v) (hown : OwI w base v xs) (ao : Option Addr) (m c : Nat) (ys : List Int) (hx : a.eval x = .slice ao m c) (hy : VL fI w (.slice ao m c) ys)
    (hb : xs.length + ys.length ≤ 2097152) (hbase : base ≤ w.heap.size)
    (h : ∀ v' w', OwI w' base v' (xs ++ ys) → w.grownBy w' v.ownBlock → K (a.put o.dst v') w') :
    if Region.wanted o (yielded ops a.tmps) = true then Oper.wp Try.prog o a w K Q else E := by
  have hw : Region.wanted o (yielded ops a.tmps) = true := by simp [Region.wanted, hgd]
  rw [if_pos hw]
  have key : ∃ v' w', (Builtin.append_ #[23, 23] o.type #[v, .slice ao m c]).run Try.prog w = .ok v' w' ∧ OwI w' base v' (xs ++ ys) ∧ w.grownBy w' v.ownBlock := by
    cases ao with
    | none =>
      obtain ⟨a', cap', e, h1, h2, h3⟩ := hy
      simp only [Value.slice.injEq] at e
      obtain ⟨e1, e2, e3⟩ := e
      have h0 : ys.length = 0 := by
        rcases Nat.eq_zero_or_pos ys.length with h' | h'
        · exact h'
        · obtain ⟨b, o', e', _⟩ := h3 h'
          rw [← e1] at e'
          cases e'
      have hnil := List.eq_nil_of_length_eq_zero h0
      subst hnil
      rw [e2, List.append_nil]
      exact ⟨v, w, runNothingI w base _ v _ c _ hown, hown, ⟨rfl, rfl, rfl, Nat.le_refl _, fun _ _ _ => rfl⟩⟩
    | some ad =>
      obtain ⟨i0, hi, hz0, hz1, hz2⟩ := info_parts info_3
      obtain ⟨rfl, hn⟩ := vl_news hy
      obtain ⟨v', w', hrun, r1, r2, _, r4⟩ := run_append_own_at (P := Try.prog) w base 23 o.type 3 i0 _ 1 8 Try.underlying23 hi hz0 hz1 hz2 rfl (by decide) v xs.length (xs.map fI) hown ad ys.length c (ys.map fI) (by simp) hn (by intro u hu; obtain ⟨z, _, rfl⟩ := List.mem_map.1 hu; rfl) (by unfold maxLen; omega) (by omega) hbase
      refine ⟨v', w', hrun, ?_, r2⟩
      unfold OwI
      rw [List.map_append, List.length_append]
      exact r1
  obtain ⟨v', w', hrun, r1, r2⟩ := key
  unfold Oper.wp execOp
  simp only [ho, resolve, invoke, builtin, Sem.run_bind, Sem.run_pure, Result.andThen_ok, List.map_toArray, List.map_cons, List.map_nil, hs, hx, hrun]
  exact h v' w' r1 r2

end Go.Proofs.Ytmodliaieienfaa

namespace Go.Proofs.Ytmodliaieienfaa
open Go.RowKit

theorem OwI.keepC {w w' : World} {base g : Nat} {v : Value} {ts : List Int} (h : OwI w base v ts) (e : w.grownBy w' (some g)) (hg : g < base) : OwI w' base v ts := World.ownsRow.kept h e (by
  cases hv : v.ownBlock with
  | none => exact .inl rfl
  | some k =>
    right
    have := (World.ownsRow.lt h k hv).1
    simp only [ne_eq, Option.some.injEq]
    omega)
theorem Cur.rowI {w w' : World} {B g : Nat} {v : Value} {base : Nat} {xs : List Int} (h : Cur w B g) (o : OwI w base v xs) (hg : g < base) (k : w.grownBy w' v.ownBlock) : Cur w' B g := by
  cases hv : v.ownBlock with
  | none => rw [hv] at k; exact h.ext k
  | some x =>
    rw [hv] at k
    exact h.off k (by have := (World.ownsRow.lt o x hv).1; omega)
theorem lit_own (w : World) (base : Nat) (h : base ≤ w.heap.size) (x : Int) : OwI (w.alloc (.cells #[.int .i64 x] 3)) base (.slice (some ⟨w.heap.size, 0, none⟩) 1 1) [x] := World.ownsRow_lit w #[.int .i64 x] 1 h (by unfold maxLen; decide) rfl

/-- What a draw of a list leaves. -/
def ShufDrawn (w : World) (e : Ending) (w' : World) : Prop := ∃ tv xs s, e = .returned (.tuple #[tv, .int .i64 s]) ∧ VL fI w' tv xs ∧ xs.length ≤ 13 ∧ IsInt s ∧ Below w.heap.size w w'

end Go.Proofs.Ytmodliaieienfaa

namespace Go.Proofs.Ytmodliaieienfaa
open Go.RowKit

/-- What lies below b is as it was, but for the cursor. -/
structure GrU (b g : Nat) (w w' : World) : Prop where
  os : w'.os = w.os
  tape : w'.tape = w.tape
  output : w'.output = w.output
  size : w.heap.size ≤ w'.heap.size
  block : ∀ k, k < b → k ≠ g → w'.heap[k]? = w.heap[k]?
theorem GrU.refl (b g : Nat) (w : World) : GrU b g w w := ⟨rfl, rfl, rfl, Nat.le_refl _, fun _ _ _ => rfl⟩
theorem GrU.cur {b g : Nat} {w w1 w2 : World} (h : GrU b g w w1) (k : w1.grownBy w2 (some g)) (hb : b ≤ w1.heap.size) : GrU b g w w2 := ⟨k.os.trans h.os, k.tape.trans h.tape, k.output.trans h.output, Nat.le_trans h.size k.size, fun j hj hn => (k.block j (by omega) (by simpa using hn)).trans (h.block j hj hn)⟩
theorem GrU.ext {b g : Nat} {w w1 w2 : World} (h : GrU b g w w1) (k : Ext w1 w2) (hb : b ≤ w1.heap.size) : GrU b g w w2 := h.cur (ext_row k _) hb
theorem GrU.row {b g r : Nat} {w w1 w2 : World} (h : GrU b g w w1) (k : w1.grownBy w2 (some r)) (hb : b ≤ w1.heap.size) (hr : b ≤ r) : GrU b g w w2 := ⟨k.os.trans h.os, k.tape.trans h.tape, k.output.trans h.output, Nat.le_trans h.size k.size, fun j hj hn => (k.block j (by omega) (by simp; omega)).trans (h.block j hj hn)⟩
/-- A drawn prober in its box, before it is bent. -/
structure ProQ (w : World) (b B g : Nat) (vs : Array Value) (a : Option Addr) (n c : Nat) (xs : List Int) (W : World) : Prop where
  box : W.heap[w.heap.size]? = some (.cells vs 25 (0, 0))
  res : W.heap[w.heap.size + 1]? = some (.cells #[.slice none 0 0, .int .i64 0, .int .i64 0, .int .i64 0, .int .i64 0, .int .i64 0] 25 (0, 0))
  own : OwI W b (.slice a n c) xs
  cur : Cur W B g
  gr : GrU b g w W
  lt : g < b
  bw : b ≤ w.heap.size
variable {w W W' : World} {b B g : Nat} {vs : Array Value} {a : Option Addr} {n c : Nat} {xs : List Int}
theorem ProQ.sz (h : ProQ w b B g vs a n c xs W) : w.heap.size + 1 < W.heap.size := (Array.getElem?_eq_some_iff.1 h.res).1
theorem ProQ.draw (h : ProQ w b B g vs a n c xs W) (hc : Cur W' B g) (hg : W.grownBy W' (some g)) : ProQ w b B g vs a n c xs W' := by
  have h1 := h.lt
  have h2 := h.bw
  have h3 := h.sz
  exact ⟨grown_blk hg (by omega) h.box, grown_blk hg (by omega) h.res, h.own.keepC hg h.lt, hc, h.gr.cur hg (by omega), h.lt, h.bw⟩
theorem ProQ.ext (h : ProQ w b B g vs a n c xs W) (e : Ext W W') : ProQ w b B g vs a n c xs W' := by
  have h2 := h.bw
  have h3 := h.sz
  exact ⟨ext_blk e h.box, ext_blk e h.res, h.own.ext e, h.cur.ext e, h.gr.ext e (by omega), h.lt, h.bw⟩
theorem ProQ.set (h : ProQ w b B g vs a n c xs W) (i : Nat) (v : Value) : ProQ w b B g (vs.setIfInBounds i v) a n c xs (W.setCell ⟨w.heap.size, i, none⟩ v) := by
  have h1 := h.lt
  have h2 := h.bw
  have h3 := h.sz
  exact ⟨set_block h.box i v, set_other _ _ _ (by omega) h.res, h.own.keep (set_grown _ _ _ _) (pro_ne h.own h.box), h.cur.off (set_grown _ _ _ _) (by omega), h.gr.row (set_grown _ _ _ _) (by omega) h.bw, h.lt, h.bw⟩
/-- What a draw of a prober that may be bent leaves. -/
def ProBent (b B g : Nat) (w : World) (e : Ending) (w' : World) : Prop := ∃ (a : Option Addr) (n c : Nat) (i1 i2 i3 i4 i5 : Int), e = .returned (.agg #[.slice a n c, .int .i64 i1, .int .i64 i2, .int .i64 i3, .int .i64 i4, .int .i64 i5]) ∧ Cur w' B g ∧ GrU b g w w'
theorem ProQ.fin {vs' : Array Value} (h : ProQ w b B g vs' a n c xs W) (a' : Option Addr) (n' c' : Nat) (i1 i2 i3 i4 i5 : Int) : ProBent b B g w (.returned (.agg #[.slice a' n' c', .int .i64 i1, .int .i64 i2, .int .i64 i3, .int .i64 i4, .int .i64 i5])) ((((((W.setCell ⟨w.heap.size + 1, 0, none⟩ (.slice a' n' c')).setCell ⟨w.heap.size + 1, 1, none⟩ (.int .i64 i1)).setCell ⟨w.heap.size + 1, 2, none⟩ (.int .i64 i2)).setCell ⟨w.heap.size + 1, 3, none⟩ (.int .i64 i3)).setCell ⟨w.heap.size + 1, 4, none⟩ (.int .i64 i4)).setCell ⟨w.heap.size + 1, 5, none⟩ (.int .i64 i5)) := by
  have h1 := h.lt
  have h2 := h.bw
  have h3 := h.sz
  have hs : W.grownBy ((((((W.setCell ⟨w.heap.size + 1, 0, none⟩ (.slice a' n' c')).setCell ⟨w.heap.size + 1, 1, none⟩ (.int .i64 i1)).setCell ⟨w.heap.size + 1, 2, none⟩ (.int .i64 i2)).setCell ⟨w.heap.size + 1, 3, none⟩ (.int .i64 i3)).setCell ⟨w.heap.size + 1, 4, none⟩ (.int .i64 i4)).setCell ⟨w.heap.size + 1, 5, none⟩ (.int .i64 i5)) (some (w.heap.size + 1)) := ((((((set_grown _ _ _ _).trans (set_grown _ _ _ _)).trans (set_grown _ _ _ _)).trans (set_grown _ _ _ _)).trans (set_grown _ _ _ _)).trans (set_grown _ _ _ _))
  exact ⟨a', n', c', i1, i2, i3, i4, i5, rfl, h.cur.off hs (by omega), h.gr.row hs (by omega) (by omega)⟩

/-- The order has grown. -/
theorem proq_app {v : Value} {ys : List Int} (h : ProQ w b B g vs a n c xs W) (o : OwI W' b v ys) (hg : W.grownBy W' (Value.slice a n c).ownBlock) : (W'.heap[w.heap.size]? = some (.cells vs 25 (0, 0)) ∧ W'.heap[w.heap.size + 1]? = some (.cells #[.slice none 0 0, .int .i64 0, .int .i64 0, .int .i64 0, .int .i64 0, .int .i64 0] 25 (0, 0))) ∧ ∀ {a' : Option Addr} {n' c' : Nat}, v = .slice a' n' c' → ProQ w b B g vs a' n' c' ys W' := by
  have h1 := h.lt
  have h2 := h.bw
  have h3 := h.sz
  cases hv : (Value.slice a n c).ownBlock with
  | none =>
    rw [hv] at hg
    refine ⟨⟨ext_blk hg h.box, ext_blk hg h.res⟩, fun e => ?_⟩
    subst e
    exact ⟨ext_blk hg h.box, ext_blk hg h.res, o, h.cur.ext hg, h.gr.ext hg (by omega), h.lt, h.bw⟩
  | some k =>
    rw [hv] at hg
    have hk := (h.own.lt k hv).1
    have n1 : w.heap.size ≠ k := fun e => by
      rcases pro_ne h.own h.box with h' | h'
      · rw [hv] at h'; cases h'
      · exact h' (by rw [hv, e])
    have n2 : w.heap.size + 1 ≠ k := fun e => by
      rcases pro_ne h.own h.res with h' | h'
      · rw [hv] at h'; cases h'
      · exact h' (by rw [hv, e])
    refine ⟨⟨grown_blk hg n1 h.box, grown_blk hg n2 h.res⟩, fun e => ?_⟩
    subst e
    exact ⟨grown_blk hg n1 h.box, grown_blk hg n2 h.res, o, h.cur.off hg (by omega), h.gr.row hg (by omega) hk, h.lt, h.bw⟩

set_option maxRecDepth 20000 in
set_option maxHeartbeats 4000000 in
theorem bentPC (b B g : Nat) (P : DPro) (pv : Value) (w : World) (hc : Cur w B g) (ho : OwI w b pv P.order) (hl : P.order.length ≤ 1048576) (hg : g < b) (hb : b ≤ w.heap.size) :
    Calls Try.prog 14 #[.pointer (some ⟨g, 0, none⟩), .agg #[pv, .int .i64 P.next, .int .i64 P.seed, .int .i64 P.state, .int .i64 P.who, .int .i64 P.wait]] w (ProBent b B g w) := by
  have hE : ∀ w : World, ∀ o, Ext w (w.alloc o) := fun w o => World.grownBy_alloc _ _ _
  obtain ⟨a, c, rfl⟩ := ho.shape
  obtain ⟨n, hn⟩ : ∃ n, n = P.order.length := ⟨_, rfl⟩
  have HNN : Hid (n = P.order.length) := hn
  have HL : Hid (P.order.length ≤ 1048576) := hl
  rw [← hn] at ho ⊢
  have HB : Hid (b ≤ w.heap.size) := hb
  have HM0 : Hid (∀ W, W = (w.alloc (.cells #[.slice a n c, .int .i64 P.next, .int .i64 P.seed, .int .i64 P.state, .int .i64 P.who, .int .i64 P.wait] 25 (0, 0))).alloc (.cells #[.slice none 0 0, .int .i64 0, .int .i64 0, .int .i64 0, .int .i64 0, .int .i64 0] 25 (0, 0)) → ProQ w b B g #[.slice a n c, .int .i64 P.next, .int .i64 P.seed, .int .i64 P.state, .int .i64 P.who, .int .i64 P.wait] a n c P.order W) := fun W hW => by
    subst hW
    have XW := (hE w (.cells #[.slice a n c, .int .i64 P.next, .int .i64 P.seed, .int .i64 P.state, .int .i64 P.who, .int .i64 P.wait] 25 (0, 0))).tr (hE _ (.cells #[.slice none 0 0, .int .i64 0, .int .i64 0, .int .i64 0, .int .i64 0, .int .i64 0] 25 (0, 0)))
    exact ⟨al2_0 w _ _, al2_1 w _ _, ho.ext XW, hc.ext XW, (GrU.refl b g w).ext XW hb, hg, hb⟩
  clear hc ho hl hn hg hb
  go_enter Try.func14, Try.ntmps14
  go_wp2_with fail
  generalize hW : World.alloc (World.alloc w _) _ = W
  have HQ0 := hideR2 (HM0.out W hW.symm)
  clear hW HM0
  refine (onceC B g 8 W HQ0.out.cur (by omega)).mono ?_
  rintro e w2 ⟨y, rfl, hc2, hg2⟩
  have HQ2 := hideR2 (HQ0.out.draw hc2 hg2)
  have hn1 : w.heap.size ≠ w.heap.size + 1 := by omega
  have hn2 : w.heap.size + 1 ≠ w.heap.size := by omega
  clear hc2 hg2 HQ0
  cases y
  · have HF : Hid _ := HQ2.out.fin a n c (P.next) (P.seed) (P.state) (P.who) (P.wait)
    obtain ⟨b0, k0⟩ := at_block HQ2.out.box 0 _ rfl
    obtain ⟨b1, k1⟩ := at_block HQ2.out.box 1 _ rfl
    obtain ⟨b2, k2⟩ := at_block HQ2.out.box 2 _ rfl
    obtain ⟨b3, k3⟩ := at_block HQ2.out.box 3 _ rfl
    obtain ⟨b4, k4⟩ := at_block HQ2.out.box 4 _ rfl
    obtain ⟨b5, k5⟩ := at_block HQ2.out.box 5 _ rfl
    obtain ⟨r0, f0⟩ := at_block HQ2.out.res 0 _ rfl
    obtain ⟨r1, f1⟩ := at_block HQ2.out.res 1 _ rfl
    obtain ⟨r2, f2⟩ := at_block HQ2.out.res 2 _ rfl
    obtain ⟨r3, f3⟩ := at_block HQ2.out.res 3 _ rfl
    obtain ⟨r4, f4⟩ := at_block HQ2.out.res 4 _ rfl
    obtain ⟨r5, f5⟩ := at_block HQ2.out.res 5 _ rfl
    go_wp2
    exact bodyPost_ret (v := .agg #[.slice a n c, .int .i64 P.next, .int .i64 P.seed, .int .i64 P.state, .int .i64 P.who, .int .i64 P.wait]) (by simp [results, Try.results14, go_sem, *]) rfl HF.out
  go_wp2_with fail
  refine (belowC B g 6 w2 HQ2.out.cur (by omega)).mono ?_
  rintro e w3 ⟨r, hr0, hr1, _, rfl, hc3, hg3⟩
  have hr6 : r < 6 := hr1 (by omega)
  have HQ3 := hideR2 (HQ2.out.draw hc3 hg3)
  have hs3 : g < w3.heap.size := (cur_in hc3).1
  clear hc3 hg3 HQ2 hr1
  by_cases e0 : r = 0
  · subst e0
    have HLC : Hid (∀ j, j < 3 → ∃ z, IsInt z ∧ (w3.alloc (.cells #[.int .i64 (-1), .int .i64 (0), .int .i64 (99)] 3)).cell? ⟨w3.heap.size, j, none⟩ = some (.int .i64 z)) := lit_cells w3 [-1, 0, 99] _ 3 rfl (by unfold IsInt; simp)
    have HQA := hideR2 (HQ3.out.ext (hE w3 (.cells #[.int .i64 (-1), .int .i64 (0), .int .i64 (99)] 3)))
    have hng : w3.heap.size ≠ g := by omega
    go_wp2_with fail
    refine (pickC B g w3.heap.size 3 _ HQA.out.cur (by omega) (by omega) hng HLC.out).mono ?_
    rintro e w4 ⟨q, hq, rfl, hc4, hg4⟩
    have HQ4 := hideR2 (HQA.out.draw hc4 hg4)
    have HQ5 := hideR2 (HQ4.out.set 1 (.int .i64 q))
    clear hc4 hg4 HQA HLC
    have HF : Hid _ := HQ5.out.fin a n c (q) (P.seed) (P.state) (P.who) (P.wait)
    obtain ⟨b0, k0⟩ := at_block HQ4.out.box 0 _ rfl
    obtain ⟨b1, k1⟩ := at_block HQ4.out.box 1 _ rfl
    obtain ⟨b2, k2⟩ := at_block HQ4.out.box 2 _ rfl
    obtain ⟨b3, k3⟩ := at_block HQ4.out.box 3 _ rfl
    obtain ⟨b4, k4⟩ := at_block HQ4.out.box 4 _ rfl
    obtain ⟨b5, k5⟩ := at_block HQ4.out.box 5 _ rfl
    obtain ⟨r0, f0⟩ := at_block HQ4.out.res 0 _ rfl
    obtain ⟨r1, f1⟩ := at_block HQ4.out.res 1 _ rfl
    obtain ⟨r2, f2⟩ := at_block HQ4.out.res 2 _ rfl
    obtain ⟨r3, f3⟩ := at_block HQ4.out.res 3 _ rfl
    obtain ⟨r4, f4⟩ := at_block HQ4.out.res 4 _ rfl
    obtain ⟨r5, f5⟩ := at_block HQ4.out.res 5 _ rfl
    go_wp2
    exact bodyPost_ret (v := .agg #[.slice a n c, .int .i64 q, .int .i64 P.seed, .int .i64 P.state, .int .i64 P.who, .int .i64 P.wait]) (by simp [results, Try.results14, go_sem, *]) rfl HF.out
  by_cases e1 : r = 1
  · subst e1
    obtain ⟨x0, _⟩ := at_block HQ3.out.box 0 _ rfl
    have HCW : Hid (Cur w3.drew B g) := HQ3.out.cur.ext (ext_drewN _ 1)
    go_upto_region 8 with fail
    go_region_law
      (first
        | (have zz := HQB; clear zz; refine step_append_il rfl (.tmp 24) (.tmp 28) rfl b (.slice a n c) P.order rfl HQB.out.own (some ⟨w4.heap.size, 0, none⟩) 1 1 [IntKind.i64.wrap (z - 1)] rfl (lit_own w4 w4.heap.size (Nat.le_refl _) (IntKind.i64.wrap (z - 1))).vl (by have := HL.out; simp; omega) (by have := HQB.out.sz; have := HB.out; omega) ?_; intro v5 w5 o5 g5; have HQ5 := hideR2 (proq_app HQB.out o5 g5); obtain ⟨va5, vc5, hv5⟩ := o5.shape; obtain ⟨l5, hl5⟩ : ∃ l5, l5 = (P.order ++ [IntKind.i64.wrap (z - 1)]).length := ⟨_, rfl⟩; rw [← hl5] at hv5; clear hl5; subst hv5; obtain ⟨b0, k0⟩ := at_block HQ5.out.1.1 0 _ rfl; obtain ⟨b1, k1⟩ := at_block HQ5.out.1.1 1 _ rfl; obtain ⟨b2, k2⟩ := at_block HQ5.out.1.1 2 _ rfl; obtain ⟨b3, k3⟩ := at_block HQ5.out.1.1 3 _ rfl; obtain ⟨b4, k4⟩ := at_block HQ5.out.1.1 4 _ rfl; obtain ⟨b5, k5⟩ := at_block HQ5.out.1.1 5 _ rfl; obtain ⟨r0, f0⟩ := at_block HQ5.out.1.2 0 _ rfl; obtain ⟨r1, f1⟩ := at_block HQ5.out.1.2 1 _ rfl; obtain ⟨r2, f2⟩ := at_block HQ5.out.1.2 2 _ rfl; obtain ⟨r3, f3⟩ := at_block HQ5.out.1.2 3 _ rfl; obtain ⟨r4, f4⟩ := at_block HQ5.out.1.2 4 _ rfl; obtain ⟨r5, f5⟩ := at_block HQ5.out.1.2 5 _ rfl; clear o5 g5)
        | (go_simp; go_at_call 28; refine (belowC B g 14 _ HCW.out (by omega)).mono ?_; rintro e w4 ⟨z, hz0, hz1, _, rfl, hc4, hg4⟩; have hz14 : z < 14 := hz1 (by omega); have HQ4 := hideR2 ((HQ3.out.ext (ext_drewN w3 1)).draw hc4 hg4); have HQB := hideR2 (HQ4.out.ext (hE w4 (.cells #[.int .i64 (IntKind.i64.wrap (z - 1))] 3))); have z0 := (at_block HQ4.out.box 0 _ rfl).1; have z1 := (at_block HQB.out.box 0 _ rfl).1; clear hc4 hg4 hz1))
    all_goals
      have HQ6 := hideR2 ((HQ5.out.2 rfl).set 0 (.slice va5 l5 vc5))
      have HF : Hid _ := HQ6.out.fin va5 l5 vc5 (P.next) (P.seed) (P.state) (P.who) (P.wait)
      go_wp2
      exact bodyPost_ret (v := .agg #[.slice va5 l5 vc5, .int .i64 P.next, .int .i64 P.seed, .int .i64 P.state, .int .i64 P.who, .int .i64 P.wait]) (by simp [results, Try.results14, go_sem, *]) rfl HF.out
  by_cases e2 : r = 2
  · subst e2
    go_wp2_with fail
    refine (belowC B g 5 w3 HQ3.out.cur (by omega)).mono ?_
    rintro e w4 ⟨z, hz0, hz1, _, rfl, hc4, hg4⟩
    have hz5 : z < 5 := hz1 (by omega)
    have HQ4 := hideR2 (HQ3.out.draw hc4 hg4)
    have HQ5 := hideR2 (HQ4.out.set 3 (.int .i64 (z - 1)))
    clear hc4 hg4 hz1
    have HF : Hid _ := HQ5.out.fin a n c (P.next) (P.seed) ((z - 1)) (P.who) (P.wait)
    obtain ⟨b0, k0⟩ := at_block HQ4.out.box 0 _ rfl
    obtain ⟨b1, k1⟩ := at_block HQ4.out.box 1 _ rfl
    obtain ⟨b2, k2⟩ := at_block HQ4.out.box 2 _ rfl
    obtain ⟨b3, k3⟩ := at_block HQ4.out.box 3 _ rfl
    obtain ⟨b4, k4⟩ := at_block HQ4.out.box 4 _ rfl
    obtain ⟨b5, k5⟩ := at_block HQ4.out.box 5 _ rfl
    obtain ⟨r0, f0⟩ := at_block HQ4.out.res 0 _ rfl
    obtain ⟨r1, f1⟩ := at_block HQ4.out.res 1 _ rfl
    obtain ⟨r2, f2⟩ := at_block HQ4.out.res 2 _ rfl
    obtain ⟨r3, f3⟩ := at_block HQ4.out.res 3 _ rfl
    obtain ⟨r4, f4⟩ := at_block HQ4.out.res 4 _ rfl
    obtain ⟨r5, f5⟩ := at_block HQ4.out.res 5 _ rfl
    go_wp2
    exact bodyPost_ret (v := .agg #[.slice a n c, .int .i64 P.next, .int .i64 P.seed, .int .i64 (z - 1), .int .i64 P.who, .int .i64 P.wait]) (by simp [results, Try.results14, go_sem, *]) rfl HF.out
  by_cases e3 : r = 3
  · subst e3
    have HLC : Hid (∀ j, j < 3 → ∃ z, IsInt z ∧ (w3.alloc (.cells #[.int .i64 (-1), .int .i64 (3), .int .i64 (12)] 3)).cell? ⟨w3.heap.size, j, none⟩ = some (.int .i64 z)) := lit_cells w3 [-1, 3, 12] _ 3 rfl (by unfold IsInt; simp)
    have HQA := hideR2 (HQ3.out.ext (hE w3 (.cells #[.int .i64 (-1), .int .i64 (3), .int .i64 (12)] 3)))
    have hng : w3.heap.size ≠ g := by omega
    go_wp2_with fail
    refine (pickC B g w3.heap.size 3 _ HQA.out.cur (by omega) (by omega) hng HLC.out).mono ?_
    rintro e w4 ⟨q, hq, rfl, hc4, hg4⟩
    have HQ4 := hideR2 (HQA.out.draw hc4 hg4)
    have HQ5 := hideR2 (HQ4.out.set 4 (.int .i64 q))
    clear hc4 hg4 HQA HLC
    have HF : Hid _ := HQ5.out.fin a n c (P.next) (P.seed) (P.state) (q) (P.wait)
    obtain ⟨b0, k0⟩ := at_block HQ4.out.box 0 _ rfl
    obtain ⟨b1, k1⟩ := at_block HQ4.out.box 1 _ rfl
    obtain ⟨b2, k2⟩ := at_block HQ4.out.box 2 _ rfl
    obtain ⟨b3, k3⟩ := at_block HQ4.out.box 3 _ rfl
    obtain ⟨b4, k4⟩ := at_block HQ4.out.box 4 _ rfl
    obtain ⟨b5, k5⟩ := at_block HQ4.out.box 5 _ rfl
    obtain ⟨r0, f0⟩ := at_block HQ4.out.res 0 _ rfl
    obtain ⟨r1, f1⟩ := at_block HQ4.out.res 1 _ rfl
    obtain ⟨r2, f2⟩ := at_block HQ4.out.res 2 _ rfl
    obtain ⟨r3, f3⟩ := at_block HQ4.out.res 3 _ rfl
    obtain ⟨r4, f4⟩ := at_block HQ4.out.res 4 _ rfl
    obtain ⟨r5, f5⟩ := at_block HQ4.out.res 5 _ rfl
    go_wp2
    exact bodyPost_ret (v := .agg #[.slice a n c, .int .i64 P.next, .int .i64 P.seed, .int .i64 P.state, .int .i64 q, .int .i64 P.wait]) (by simp [results, Try.results14, go_sem, *]) rfl HF.out
  by_cases e4 : r = 4
  · subst e4
    have HLC : Hid (∀ j, j < 5 → ∃ z, IsInt z ∧ (w3.alloc (.cells #[.int .i64 (-1), .int .i64 (1), .int .i64 (3), .int .i64 (4), .int .i64 (5)] 3)).cell? ⟨w3.heap.size, j, none⟩ = some (.int .i64 z)) := lit_cells w3 [-1, 1, 3, 4, 5] _ 3 rfl (by unfold IsInt; simp)
    have HQA := hideR2 (HQ3.out.ext (hE w3 (.cells #[.int .i64 (-1), .int .i64 (1), .int .i64 (3), .int .i64 (4), .int .i64 (5)] 3)))
    have hng : w3.heap.size ≠ g := by omega
    go_wp2_with fail
    refine (pickC B g w3.heap.size 5 _ HQA.out.cur (by omega) (by omega) hng HLC.out).mono ?_
    rintro e w4 ⟨q, hq, rfl, hc4, hg4⟩
    have HQ4 := hideR2 (HQA.out.draw hc4 hg4)
    have HQ5 := hideR2 (HQ4.out.set 5 (.int .i64 q))
    clear hc4 hg4 HQA HLC
    have HF : Hid _ := HQ5.out.fin a n c (P.next) (P.seed) (P.state) (P.who) (q)
    obtain ⟨b0, k0⟩ := at_block HQ4.out.box 0 _ rfl
    obtain ⟨b1, k1⟩ := at_block HQ4.out.box 1 _ rfl
    obtain ⟨b2, k2⟩ := at_block HQ4.out.box 2 _ rfl
    obtain ⟨b3, k3⟩ := at_block HQ4.out.box 3 _ rfl
    obtain ⟨b4, k4⟩ := at_block HQ4.out.box 4 _ rfl
    obtain ⟨b5, k5⟩ := at_block HQ4.out.box 5 _ rfl
    obtain ⟨r0, f0⟩ := at_block HQ4.out.res 0 _ rfl
    obtain ⟨r1, f1⟩ := at_block HQ4.out.res 1 _ rfl
    obtain ⟨r2, f2⟩ := at_block HQ4.out.res 2 _ rfl
    obtain ⟨r3, f3⟩ := at_block HQ4.out.res 3 _ rfl
    obtain ⟨r4, f4⟩ := at_block HQ4.out.res 4 _ rfl
    obtain ⟨r5, f5⟩ := at_block HQ4.out.res 5 _ rfl
    go_wp2
    exact bodyPost_ret (v := .agg #[.slice a n c, .int .i64 P.next, .int .i64 P.seed, .int .i64 P.state, .int .i64 P.who, .int .i64 q]) (by simp [results, Try.results14, go_sem, *]) rfl HF.out
  · have e5 : r = 5 := by omega
    subst e5
    have HLC : Hid (∀ j, j < 3 → ∃ z, IsInt z ∧ (w3.alloc (.cells #[.int .i64 (-1), .int .i64 (2147483647), .int .i64 (2147483648)] 3)).cell? ⟨w3.heap.size, j, none⟩ = some (.int .i64 z)) := lit_cells w3 [-1, 2147483647, 2147483648] _ 3 rfl (by unfold IsInt; simp)
    have HQA := hideR2 (HQ3.out.ext (hE w3 (.cells #[.int .i64 (-1), .int .i64 (2147483647), .int .i64 (2147483648)] 3)))
    have hng : w3.heap.size ≠ g := by omega
    go_wp2_with fail
    refine (pickC B g w3.heap.size 3 _ HQA.out.cur (by omega) (by omega) hng HLC.out).mono ?_
    rintro e w4 ⟨q, hq, rfl, hc4, hg4⟩
    have HQ4 := hideR2 (HQA.out.draw hc4 hg4)
    have HQ5 := hideR2 (HQ4.out.set 2 (.int .i64 q))
    clear hc4 hg4 HQA HLC
    have HF : Hid _ := HQ5.out.fin a n c (P.next) (q) (P.state) (P.who) (P.wait)
    obtain ⟨b0, k0⟩ := at_block HQ4.out.box 0 _ rfl
    obtain ⟨b1, k1⟩ := at_block HQ4.out.box 1 _ rfl
    obtain ⟨b2, k2⟩ := at_block HQ4.out.box 2 _ rfl
    obtain ⟨b3, k3⟩ := at_block HQ4.out.box 3 _ rfl
    obtain ⟨b4, k4⟩ := at_block HQ4.out.box 4 _ rfl
    obtain ⟨b5, k5⟩ := at_block HQ4.out.box 5 _ rfl
    obtain ⟨r0, f0⟩ := at_block HQ4.out.res 0 _ rfl
    obtain ⟨r1, f1⟩ := at_block HQ4.out.res 1 _ rfl
    obtain ⟨r2, f2⟩ := at_block HQ4.out.res 2 _ rfl
    obtain ⟨r3, f3⟩ := at_block HQ4.out.res 3 _ rfl
    obtain ⟨r4, f4⟩ := at_block HQ4.out.res 4 _ rfl
    obtain ⟨r5, f5⟩ := at_block HQ4.out.res 5 _ rfl
    go_wp2
    exact bodyPost_ret (v := .agg #[.slice a n c, .int .i64 P.next, .int .i64 q, .int .i64 P.state, .int .i64 P.who, .int .i64 P.wait]) (by simp [results, Try.results14, go_sem, *]) rfl HF.out

end Go.Proofs.Ytmodliaieienfaa

namespace Go.Proofs.Ytmodliaieienfaa
open Go.RowKit

theorem gru_blk {b g k : Nat} {w w' : World} {o : Obj} (h : GrU b g w w') (hk : k < b) (hn : k ≠ g) (hb : w.heap[k]? = some o) : w'.heap[k]? = some o := (h.block k hk hn).trans hb
theorem np_fin {w w1 w2 V w4 w5 w6 w7 : World} {g : Nat} (hb : Below w.heap.size w V) (hX : Ext w2 V) (h4 : V.drew.grownBy w4 (some g)) (h5 : GrU V.heap.size g w4 w5) (hg : w.heap.size + 1 < g) (hg1 : g < w1.heap.size)
    (h6 : w5.grownBy w6 (some w.heap.size)) (h7 : w6.grownBy w7 (some (w.heap.size + 1))) : Below w.heap.size w w7 ∧ Hi w1.heap.size w2 w7 := by
  have sX := hX.size
  have s4 : V.heap.size ≤ w4.heap.size := h4.size
  have s5 := h5.size
  have s6 := h6.size
  have bX := hb.size
  have e4 : ∀ k, k < V.heap.size → k ≠ g → w4.heap[k]? = V.heap[k]? := fun k hk hn => h4.block k hk (by simpa using hn)
  have e7 : ∀ k, k < V.heap.size → k ≠ g → k ≠ w.heap.size → k ≠ w.heap.size + 1 → w7.heap[k]? = V.heap[k]? := fun k hk hn n1 n2 =>
    (h7.block k (by omega) (by simpa using n2)).trans ((h6.block k (by omega) (by simpa using n1)).trans ((h5.block k hk hn).trans (e4 k hk hn)))
  refine ⟨⟨h7.os.trans (h6.os.trans (h5.os.trans (h4.os.trans hb.os))), h7.tape.trans (h6.tape.trans (h5.tape.trans (h4.tape.trans hb.tape))), h7.output.trans (h6.output.trans (h5.output.trans (h4.output.trans hb.output))), by have := h7.size; omega, fun k hk => (e7 k (by omega) (by omega) (by omega) (by omega)).trans (hb.block k hk)⟩, fun k hk hx => (e7 k (by omega) (by omega) (by omega) (by omega)).trans (hX.block k hx (by simp))⟩
/-- What a draw of a prober and a table leaves. -/
def NpDrawn (w : World) (e : Ending) (w' : World) : Prop := ∃ (T : DTab) (a : Option Addr) (c : Nat) (pa : Option Addr) (pn pc : Nat) (i1 i2 i3 i4 i5 : Int), e = .returned (.tuple #[.agg #[.slice pa pn pc, .int .i64 i1, .int .i64 i2, .int .i64 i3, .int .i64 i4, .int .i64 i5], .agg #[.int .i64 T.self, .slice a T.mems.length c]]) ∧ VMem w' (.slice a T.mems.length c) T.mems ∧ T.mems.length ≤ 13 ∧ Below w.heap.size w w'

set_option maxRecDepth 20000 in
set_option maxHeartbeats 2000000 in
theorem drawNP (a : Option Addr) (n cap : Nat) (xs : List Int) (w : World) (hr : Rd w a n xs) (hm : n ≤ maxLen) :
    Calls Try.prog 4 #[.slice a n cap] w (NpDrawn w) := by
  have hE : ∀ w : World, ∀ o, Ext w (w.alloc o) := fun w o => World.grownBy_alloc _ _ _
  have HR : Hid (Rd w a n xs) := hr
  have HMM : Hid (n ≤ maxLen) := hm
  clear hr hm
  go_enter Try.func4, Try.ntmps4
  go_wp2_with fail
  generalize hW : World.alloc (World.alloc w _) _ = W
  have XW : Ext w W := by rw [← hW]; exact (hE _ _).tr (hE _ _)
  have R0 : W.heap[w.heap.size]? = some (.cells #[.slice none 0 0, .int .i64 0, .int .i64 0, .int .i64 0, .int .i64 0, .int .i64 0] 25 (0, 0)) := by rw [← hW, Below.heap_alloc _ _ _ (by simp)]; exact heap_alloc_new w _
  have R1 : W.heap[w.heap.size + 1]? = some (.cells #[.int .i64 0, .slice none 0 0] 28 (0, 0)) := by rw [← hW]; simpa using heap_alloc_new (World.alloc w _) (.cells #[.int .i64 0, .slice none 0 0] 28 (0, 0))
  have sW : W.heap.size = w.heap.size + 2 := by rw [← hW]; simp
  clear hW
  refine (newC a n cap xs W (HR.out.grown XW) HMM.out).mono ?_
  rintro e w1 ⟨rfl, hc1, b1⟩
  have HC1 : Hid (Cur w1 W.heap.size W.heap.size) := hc1
  have B1 : Below w.heap.size w w1 := (ext_bel XW).trans (b1.mono XW.size)
  have R01 := ext_blk (ext_below b1) R0
  have R11 := ext_blk (ext_below b1) R1
  have hs1 := (cur_in hc1).1
  clear hc1 b1 R0 R1 XW
  have HSWW : Hid (W.heap.size = w.heap.size + 2) := sW
  clear sW
  generalize W.heap.size = g at *
  go_wp2_with fail
  refine (bentTC g g w1 HC1.out).mono ?_
  rintro e w2 ⟨T, ta, tc, rfl, hV2, hl2, hc2, hg2⟩
  have HV2 : Hid (∀ W, Hi w1.heap.size w2 W → VMem W (.slice ta T.mems.length tc) T.mems) := hV2
  have HL2 : Hid (T.mems.length ≤ 13) := hl2
  have sW := HSWW.out
  have B2 : Below w.heap.size w w2 := B1.grown hg2 B1.size (fun k hk => by cases hk; omega)
  have R02 := grown_blk hg2 (by omega) R01
  have R12 := grown_blk hg2 (by omega) R11
  have hg2s : g < w2.heap.size := (cur_in hc2).1
  have HGS0 : Hid (w.heap.size + 1 < w2.heap.size ∧ g < w2.heap.size ∧ w.heap.size + 1 < g ∧ g < w1.heap.size) := ⟨by omega, by omega, by omega, by omega⟩
  obtain ⟨tn, htn⟩ : ∃ tn, tn = T.mems.length := ⟨_, rfl⟩
  have HTN : Hid (tn = T.mems.length) := htn
  have HM3 : Hid (∀ V, V = w2.alloc (.cells #[.int .i64 T.self, .slice ta tn tc] 28 (0, 0)) → V.heap[w2.heap.size]? = some (.cells #[.int .i64 T.self, .slice ta tn tc] 28 (0, 0)) ∧ V.heap[w.heap.size]? = some (.cells #[.slice none 0 0, .int .i64 0, .int .i64 0, .int .i64 0, .int .i64 0, .int .i64 0] 25 (0, 0)) ∧ V.heap[w.heap.size + 1]? = some (.cells #[.int .i64 0, .slice none 0 0] 28 (0, 0)) ∧ Cur V g g ∧ Ext w2 V ∧ Below w.heap.size w V ∧ w2.heap.size < V.heap.size) := fun V hV => by
    subst hV
    exact ⟨heap_alloc_new w2 _, ext_blk (hE _ _) R02, ext_blk (hE _ _) R12, hc2.ext (hE _ _), hE _ _, B2.trans ((ext_bel (hE w2 _)).mono B2.size), by simp⟩
  rw [← htn] at HV2 ⊢
  clear hV2 hl2 hc2 hg2 R01 R11 R02 R12 B1 htn sW hs1 hg2s
  go_upto_region 3 with fail
  generalize hV : w2.alloc _ = V
  obtain ⟨q0, q1, q2, q3, q4, q5, q6⟩ := HM3.out V hV.symm
  have HB3 := hideR2 q0
  have HP3 := hideR2 q1
  have HT3 := hideR2 q2
  have HC3 := hideR2 q3
  have HX3 := hideR2 q4
  have HW3 := hideR2 q5
  have HSV := hideR2 q6
  have HGS : Hid (w.heap.size + 1 < w2.heap.size ∧ g < w2.heap.size ∧ w.heap.size + 1 < g ∧ g < w1.heap.size) := HGS0.out
  obtain ⟨x0, x1⟩ := two_cells HB3.out
  clear hV HM3 q0 q1 q2 q3 q4 q5 q6
  have HVW : Hid (∀ W, V.drew.grownBy W (some g) → VMem W (.slice ta T.mems.length tc) T.mems) := fun W h => by rw [← HTN.out]; exact HV2.out W (hi_grown HGS.out.2.2.2 (grown_tr (ext_row (HX3.out.tr (ext_drewN V 1)) _) h))
  have n1 : w2.heap.size ≠ w.heap.size := by have := HGS.out; omega
  have n2 : w2.heap.size ≠ w.heap.size + 1 := by have := HGS.out; omega
  have n3 : w.heap.size ≠ w2.heap.size := Ne.symm n1
  have n4 : w.heap.size + 1 ≠ w2.heap.size := Ne.symm n2
  go_region_held3 (fun w' => w'.cell? ⟨w2.heap.size, 0, none⟩ = some (.int .i64 T.self) ∧ w'.cell? ⟨w2.heap.size, 1, none⟩ = some (.slice ta tn tc)) (first | (simp [*]; done) | go_keep)
    (first
      | (have zz := HO4; clear zz; go_at_call 14; refine (bentPC V.heap.size g g P4 _ w4 HC4.out HO4.out HL4.out HGV.out HS4.out).mono ?_; rintro e w5 ⟨pa, pn, pc, i1, i2, i3, i4, i5, rfl, hc5, hu5⟩; have HB5 := hideR2 (gru_blk hu5 (by exact HSV.out) (by have := HGS.out; omega) (grown_blk HG4.out (by have := HGS.out; omega) (ext_blk (ext_drewN V 1) HB3.out))); have HP5 := hideR2 (gru_blk hu5 (by have := HGS.out; have := HSV.out; omega) (by have := HGS.out; omega) (grown_blk HG4.out (by have := HGS.out; omega) (ext_blk (ext_drewN V 1) HP3.out))); have HT5 := hideR2 (gru_blk hu5 (by have := HGS.out; have := HSV.out; omega) (by have := HGS.out; omega) (grown_blk HG4.out (by have := HGS.out; omega) (ext_blk (ext_drewN V 1) HT3.out))); have HU5 := hideR2 hu5; obtain ⟨z0, z1⟩ := two_cells HB5.out; obtain ⟨r0, f0⟩ := at_block HP5.out 0 _ rfl; obtain ⟨r1, f1⟩ := at_block HP5.out 1 _ rfl; obtain ⟨r2, f2⟩ := at_block HP5.out 2 _ rfl; obtain ⟨r3, f3⟩ := at_block HP5.out 3 _ rfl; obtain ⟨r4, f4⟩ := at_block HP5.out 4 _ rfl; obtain ⟨r5, f5⟩ := at_block HP5.out 5 _ rfl; obtain ⟨s0, k0⟩ := at_block HT5.out 0 _ rfl; obtain ⟨s1, k1⟩ := at_block HT5.out 1 _ rfl; clear hc5 hu5)
      | (go_at_call 15; rw [HTN.out]; refine (drawPC g g T ta tc V.drew (HC3.out.ext (ext_drewN V 1)) HVW.out HL2.out).mono ?_; rintro e w4 ⟨P4, pv4, rfl, o4, l4, c4, g4⟩; have HO4 : Hid (OwI w4 V.heap.size pv4 P4.order) := o4; have HL4 := hideR2 l4; have HC4 : Hid (Cur w4 g g) := c4; have HG4 : Hid (V.drew.grownBy w4 (some g)) := g4; have HGV : Hid (g < V.heap.size) := (by have := HGS.out; have := HSV.out; exact Nat.lt_trans HGS.out.2.1 HSV.out); have HS4 : Hid (V.heap.size ≤ w4.heap.size) := g4.size; obtain ⟨y0, y1⟩ := two_cells (grown_blk g4 (by have := HGS.out; omega) (ext_blk (ext_drewN V 1) HB3.out)); obtain ⟨va4, vc4, hv4⟩ := o4.shape; subst hv4; clear o4 l4 c4 g4))
  rename_i hHeld
  clear hHeld
  have h6 : w5.grownBy ((((((w5.setCell ⟨w.heap.size, 0, none⟩ (.slice pa pn pc)).setCell ⟨w.heap.size, 1, none⟩ (.int .i64 i1)).setCell ⟨w.heap.size, 2, none⟩ (.int .i64 i2)).setCell ⟨w.heap.size, 3, none⟩ (.int .i64 i3)).setCell ⟨w.heap.size, 4, none⟩ (.int .i64 i4)).setCell ⟨w.heap.size, 5, none⟩ (.int .i64 i5)) (some w.heap.size) := (((((set_grown _ _ _ _).trans (set_grown _ _ _ _)).trans (set_grown _ _ _ _)).trans (set_grown _ _ _ _)).trans (set_grown _ _ _ _)).trans (set_grown _ _ _ _)
  have h7 : ((((((w5.setCell ⟨w.heap.size, 0, none⟩ (.slice pa pn pc)).setCell ⟨w.heap.size, 1, none⟩ (.int .i64 i1)).setCell ⟨w.heap.size, 2, none⟩ (.int .i64 i2)).setCell ⟨w.heap.size, 3, none⟩ (.int .i64 i3)).setCell ⟨w.heap.size, 4, none⟩ (.int .i64 i4)).setCell ⟨w.heap.size, 5, none⟩ (.int .i64 i5)).grownBy ((((((((w5.setCell ⟨w.heap.size, 0, none⟩ (.slice pa pn pc)).setCell ⟨w.heap.size, 1, none⟩ (.int .i64 i1)).setCell ⟨w.heap.size, 2, none⟩ (.int .i64 i2)).setCell ⟨w.heap.size, 3, none⟩ (.int .i64 i3)).setCell ⟨w.heap.size, 4, none⟩ (.int .i64 i4)).setCell ⟨w.heap.size, 5, none⟩ (.int .i64 i5)).setCell ⟨w.heap.size + 1, 0, none⟩ (.int .i64 T.self)).setCell ⟨w.heap.size + 1, 1, none⟩ (.slice ta T.mems.length tc)) (some (w.heap.size + 1)) := (set_grown _ _ _ _).trans (set_grown _ _ _ _)
  have F7 := np_fin HW3.out HX3.out HG4.out HU5.out HGS.out.2.2.1 HGS.out.2.2.2 h6 h7
  have P6 : ((((((w5.setCell ⟨w.heap.size, 0, none⟩ (.slice pa pn pc)).setCell ⟨w.heap.size, 1, none⟩ (.int .i64 i1)).setCell ⟨w.heap.size, 2, none⟩ (.int .i64 i2)).setCell ⟨w.heap.size, 3, none⟩ (.int .i64 i3)).setCell ⟨w.heap.size, 4, none⟩ (.int .i64 i4)).setCell ⟨w.heap.size, 5, none⟩ (.int .i64 i5)).heap[w.heap.size]? = some (.cells #[.slice pa pn pc, .int .i64 i1, .int .i64 i2, .int .i64 i3, .int .i64 i4, .int .i64 i5] 25 (0, 0)) := set_block (set_block (set_block (set_block (set_block (set_block HP5.out 0 _) 1 _) 2 _) 3 _) 4 _) 5 _
  have P7 := grown_blk h7 (by omega) P6
  have T6 := grown_blk h6 (by omega) HT5.out
  have T7 : ((((((((w5.setCell ⟨w.heap.size, 0, none⟩ (.slice pa pn pc)).setCell ⟨w.heap.size, 1, none⟩ (.int .i64 i1)).setCell ⟨w.heap.size, 2, none⟩ (.int .i64 i2)).setCell ⟨w.heap.size, 3, none⟩ (.int .i64 i3)).setCell ⟨w.heap.size, 4, none⟩ (.int .i64 i4)).setCell ⟨w.heap.size, 5, none⟩ (.int .i64 i5)).setCell ⟨w.heap.size + 1, 0, none⟩ (.int .i64 T.self)).setCell ⟨w.heap.size + 1, 1, none⟩ (.slice ta T.mems.length tc)).heap[w.heap.size + 1]? = some (.cells #[.int .i64 T.self, .slice ta T.mems.length tc] 28 (0, 0)) := set_block (set_block T6 0 _) 1 _
  clear P6 T6 h6 h7
  generalize ((((((((w5.setCell ⟨w.heap.size, 0, none⟩ (.slice pa pn pc)).setCell ⟨w.heap.size, 1, none⟩ (.int .i64 i1)).setCell ⟨w.heap.size, 2, none⟩ (.int .i64 i2)).setCell ⟨w.heap.size, 3, none⟩ (.int .i64 i3)).setCell ⟨w.heap.size, 4, none⟩ (.int .i64 i4)).setCell ⟨w.heap.size, 5, none⟩ (.int .i64 i5)).setCell ⟨w.heap.size + 1, 0, none⟩ (.int .i64 T.self)).setCell ⟨w.heap.size + 1, 1, none⟩ (.slice ta T.mems.length tc)) = U at F7 P7 T7 ⊢
  have HF : Hid (NpDrawn w (.returned (.tuple #[.agg #[.slice pa pn pc, .int .i64 i1, .int .i64 i2, .int .i64 i3, .int .i64 i4, .int .i64 i5], .agg #[.int .i64 T.self, .slice ta T.mems.length tc]])) U) := ⟨T, ta, tc, pa, pn, pc, i1, i2, i3, i4, i5, rfl, by have := HV2.out U F7.2; rw [HTN.out] at this; exact this, HL2.out, F7.1⟩
  clear r0 f0 r1 f1 r2 f2 r3 f3 r4 f4 r5 f5 s0 k0 s1 k1 z0 z1 y0 y1 x0 x1 F7
  obtain ⟨r0, f0⟩ := at_block P7 0 _ rfl
  obtain ⟨r1, f1⟩ := at_block P7 1 _ rfl
  obtain ⟨r2, f2⟩ := at_block P7 2 _ rfl
  obtain ⟨r3, f3⟩ := at_block P7 3 _ rfl
  obtain ⟨r4, f4⟩ := at_block P7 4 _ rfl
  obtain ⟨r5, f5⟩ := at_block P7 5 _ rfl
  obtain ⟨s0, k0⟩ := at_block T7 0 _ rfl
  obtain ⟨s1, k1⟩ := at_block T7 1 _ rfl
  clear P7 T7 f0 f1 f2 f3 f4 f5 k0 k1 n1 n2 n3 n4
  go_wp2
  exact bodyPost_ret (v := .tuple #[.agg #[.slice pa pn pc, .int .i64 i1, .int .i64 i2, .int .i64 i3, .int .i64 i4, .int .i64 i5], .agg #[.int .i64 T.self, .slice ta T.mems.length tc]]) (by simp [results, Try.results4, go_sem, *]) rfl HF.out

end Go.Proofs.Ytmodliaieienfaa

namespace Go.Proofs.Ytmodliaieienfaa
open Go.RowKit

/-- It lies within. -/
def inB (n lo hi : Int) : Bool := decide (lo ≤ n) && decide (n ≤ hi)

set_option maxHeartbeats 1000000 in
theorem withinV (n lo hi : Int) (w : World) : Calls Try.prog 20 #[.int .i64 n, .int .i64 lo, .int .i64 hi] w fun e w' => e = .returned (.bool (inB n lo hi)) ∧ w' = w := by
  by_cases h0 : lo ≤ n
  · by_cases h1 : n ≤ hi
    · have HK : Hid (inB n lo hi = true) := by unfold Hid inB; simp [h0, h1]
      go_enter Try.func20, Try.ntmps20
      go_wp2
      go_ret
      exact ⟨by rw [HK.out]; rfl, rfl⟩
    · have HK : Hid (inB n lo hi = false) := by unfold Hid inB; simp [h1]
      have h1' : decide (n ≤ hi) = false := decide_eq_false h1
      go_enter Try.func20, Try.ntmps20
      go_wp2
      go_ret
      exact ⟨by rw [HK.out]; rfl, rfl⟩
  · have HK : Hid (inB n lo hi = false) := by unfold Hid inB; simp [h0]
    have h0' : decide (lo ≤ n) = false := decide_eq_false h0
    go_enter Try.func20, Try.ntmps20
    go_wp2
    go_ret
    exact ⟨by rw [HK.out]; rfl, rfl⟩

end Go.Proofs.Ytmodliaieienfaa

namespace Go.Proofs.Ytmodliaieienfaa
open Go.RowKit

theorem memB_in (m : DMem) : memB m = (inB m.id 0 11 && (inB m.st 0 3 && inB m.life 0 1000)) := by
  unfold memB inB
  rw [show decide (m.id < 12) = decide (m.id ≤ 11) by rw [decide_eq_decide]; omega]
  simp only [Bool.and_assoc]

set_option maxHeartbeats 2000000 in
theorem iMemberOkV (m : DMem) (w : World) :
    Calls Try.prog 33 #[.agg #[.int .i64 m.id, .int .i64 m.st, .int .i64 m.life]] w fun e w' => e = .returned (.bool (memB m)) ∧ Below w.heap.size w w' := by
  have hB : ∀ w : World, ∀ o, Below w.heap.size w (w.alloc o) := fun w o => (Below.refl _ w).alloc (Nat.le_refl _) _
  have HM : Hid (memB m = (inB m.id 0 11 && (inB m.st 0 3 && inB m.life 0 1000))) := memB_in m
  generalize memB m = mb at HM ⊢
  obtain ⟨i, s, l⟩ := m
  simp only at HM ⊢
  go_enter Try.func33, Try.ntmps33
  cases h1 : inB i 0 11
  · have HK : Hid (mb = false) := by show _ = _; rw [HM.out, h1]; rfl
    clear HM
    go_wp2_with (go_at_call 20; refine (withinV _ _ _ _).mono ?_; rintro e w1 ⟨rfl, rfl⟩; rw [h1])
    go_ret
    exact ⟨by rw [HK.out]; rfl, hB _ _⟩
  cases h2 : inB s 0 3
  · have HK : Hid (mb = false) := by show _ = _; rw [HM.out, h2]; simp
    clear HM
    go_wp2_with (go_at_call 20; refine (withinV _ _ _ _).mono ?_; rintro e w1 ⟨rfl, rfl⟩; first | rw [h1] | rw [h2])
    go_ret
    exact ⟨by rw [HK.out]; rfl, hB _ _⟩
  have HK : Hid (mb = inB l 0 1000) := by show _ = _; rw [HM.out, h1, h2]; simp
  obtain ⟨b3, h3⟩ : ∃ b3, inB l 0 1000 = b3 := ⟨_, rfl⟩
  rw [h3] at HK
  clear HM
  go_wp2_with (go_at_call 20; refine (withinV _ _ _ _).mono ?_; rintro e w1 ⟨rfl, rfl⟩; first | rw [h1] | rw [h2] | rw [h3])
  go_ret
  exact ⟨by rw [HK.out]; rfl, hB _ _⟩

set_option maxHeartbeats 2000000 in
theorem selfOkV (m : DMem) (w : World) :
    Calls Try.prog 35 #[.agg #[.int .i64 m.id, .int .i64 m.st, .int .i64 m.life]] w fun e w' => e = .returned (.bool (ownB m)) ∧ Below w.heap.size w w' := by
  have hB : ∀ w : World, ∀ o, Below w.heap.size w (w.alloc o) := fun w o => (Below.refl _ w).alloc (Nat.le_refl _) _
  have HO : Hid (ownB m = (decide (m.st = 0) || decide (m.st = 3) || decide (m.life = 1000))) := rfl
  generalize ownB m = ob at HO ⊢
  obtain ⟨ti, ts, tl⟩ := m
  simp only at HO ⊢
  go_enter Try.func35, Try.ntmps35
  by_cases e1 : ts = 0
  · have HR : Hid (ob = true) := by show _ = _; rw [HO.out, decide_eq_true e1]; simp
    subst e1
    go_wp2
    go_ret
    exact ⟨by rw [HR.out]; rfl, hB _ _⟩
  have e1' : (ts == 0) = false := by simpa using e1
  by_cases e2 : ts = 3
  · have HR : Hid (ob = true) := by show _ = _; rw [HO.out, decide_eq_true e2]; simp
    subst e2
    go_wp2
    go_ret
    exact ⟨by rw [HR.out]; rfl, hB _ _⟩
  have e2' : (ts == 3) = false := by simpa using e2
  have HR : Hid (ob = (tl == 1000)) := by show _ = _; rw [HO.out, decide_eq_false e1, decide_eq_false e2]; simp; rfl
  generalize hd : (tl == 1000) = d at HR
  clear e1 e2
  go_wp2
  go_ret
  exact ⟨by rw [HR.out]; rfl, hB _ _⟩

end Go.Proofs.Ytmodliaieienfaa

namespace Go.Proofs.Ytmodliaieienfaa
open Go.RowKit

/-- As cmp.Compare answers. -/
def cmpI (x y : Int) : Int := if x < y then -1 else if y < x then 1 else 0

theorem isNaNV (x : Int) (w : World) : Calls Try.prog 58 #[.int .i64 x] w fun e w' => e = .returned (.bool false) ∧ w' = w := by
  go_enter Try.func58, Try.ntmps58
  go_wp2
  go_ret
  exact ⟨rfl, rfl⟩

theorem compareIV (x y : Int) (w : World) : Calls Try.prog 48 #[.int .i64 x, .int .i64 y] w fun e w' => e = .returned (.int .i64 (cmpI x y)) ∧ w' = w := by
  by_cases h1 : x < y
  · have HC : Hid (cmpI x y = -1) := if_pos h1
    go_enter Try.func48, Try.ntmps48
    go_wp2_with (go_at_call 58; refine (isNaNV _ _).mono ?_; rintro e w1 ⟨rfl, rfl⟩)
    go_ret
    exact ⟨by rw [HC.out]; rfl, rfl⟩
  · have d1 : decide (x < y) = false := decide_eq_false h1
    by_cases h2 : y < x
    · have HC : Hid (cmpI x y = 1) := (if_neg h1).trans (if_pos h2)
      go_enter Try.func48, Try.ntmps48
      go_wp2_with (go_at_call 58; refine (isNaNV _ _).mono ?_; rintro e w1 ⟨rfl, rfl⟩)
      go_ret
      exact ⟨by rw [HC.out]; rfl, rfl⟩
    · have d2 : decide (y < x) = false := decide_eq_false h2
      have HC : Hid (cmpI x y = 0) := (if_neg h1).trans (if_neg h2)
      go_enter Try.func48, Try.ntmps48
      go_wp2_with (go_at_call 58; refine (isNaNV _ _).mono ?_; rintro e w1 ⟨rfl, rfl⟩)
      go_ret
      exact ⟨by rw [HC.out]; rfl, rfl⟩

end Go.Proofs.Ytmodliaieienfaa

namespace Go.Proofs.Ytmodliaieienfaa
open Go.RowKit

/-- What findMember answers: where it is, or where it would have to be put. -/
def FndM (ls : List DMem) (id : Int) (w : World) (e : Ending) (w' : World) : Prop :=
  ∃ (t : Nat) (fb : Bool), e = .returned (.tuple #[.int .i64 t, .bool fb]) ∧ Below w.heap.size w w' ∧ (fb = true → placeM ls id = t) ∧ (fb = false → placeM ls id = -1 ∧ insK ls id = t)

theorem cmpMemV (c r co id : Int) (w : World) : Calls Try.prog 47 #[.agg #[.int .i64 c, .int .i64 r, .int .i64 co], .int .i64 id] w fun e w' => e = .returned (.int .i64 (cmpI c id)) ∧ Below w.heap.size w w' := by
  have hB : ∀ w : World, ∀ o, Below w.heap.size w (w.alloc o) := fun w o => (Below.refl _ w).alloc (Nat.le_refl _) _
  go_enter Try.func47, Try.ntmps47
  go_wp2_with (go_at_call 48; refine (compareIV _ _ _).mono ?_; rintro e w1 ⟨rfl, rfl⟩)
  go_ret
  exact ⟨rfl, hB _ _⟩

set_option maxHeartbeats 4000000 in
theorem bsearchM (v : Value) (ls : List DMem) (client : Int) (w : World) (h : VMem w v ls) (hn4 : ls.length ≤ 12) (hasc : AscM ls) :
    Calls Try.prog 46 #[v, .int .i64 client, .func (.func 47) #[] #[]] w fun e w' =>
      FndM ls client w e w' := by
  have hE : ∀ w : World, ∀ o, Ext w (w.alloc o) := fun w o => World.grownBy_alloc _ _ _
  obtain ⟨C, ⟨a, cap, rfl, h1, h2, h3⟩, hC⟩ := h
  have HC : Hid (∀ i r, ls[i]? = some r → C i 0 = .int .i64 r.id ∧ C i 1 = .int .i64 r.st ∧ C i 2 = .int .i64 r.life) := hC
  have HAS : Hid (AscM ls) := hasc
  obtain ⟨n, hnn⟩ : ∃ n, n = ls.length := ⟨_, rfl⟩
  rw [← hnn] at h1 h3 hn4 ⊢
  have HN : Hid (n = ls.length) := hnn
  clear hnn hC hasc
  unfold maxLen at h2
  have H3 : Hid (0 < n → ∃ b o, a = some ⟨b, o, none⟩ ∧ b < w.heap.size ∧ ∀ i, i < n → ∀ j, j < 3 → w.cell? ⟨b, o + i * 3 + j, none⟩ = some (C i j)) := h3
  clear h3
  go_enter Try.func46, Try.ntmps46
  go_wp2
  go_loopw [9, 10] (fun i j wr => ∃ p q : Nat, p ≤ q ∧ q ≤ n ∧ i = .int .i64 p ∧ j = .int .i64 q ∧ Below w.heap.size w wr ∧ Hid (∀ t s, t < p → ls[t]? = some s → s.id < client) ∧ Hid (∀ t s, q ≤ t → ls[t]? = some s → client ≤ s.id)) (fun i j _ => (intOf j).toNat - (intOf i).toNat)
  case atStart => exact ⟨0, n, Nat.zero_le _, Nat.le_refl _, rfl, rfl, Below.refl _ _, fun t s ht => absurd ht (by omega), fun t s ht hs => absurd (List.getElem?_eq_some_iff.1 hs).1 (by have := HN.out; omega)⟩
  case round =>
    obtain ⟨p, q, hpq, hqn, rfl, rfl, hb, hlo, hhi⟩ := hrel
    by_cases hlt : p < q
    · obtain ⟨b, o, rfl, hbl, hc⟩ := H3.out (by omega)
      obtain ⟨m, hm⟩ : ∃ m, m = (p + q) / 2 := ⟨_, rfl⟩
      have hm1 : m < n := by omega
      have hm2 : p ≤ m := by omega
      have hm3 : m < q := by omega
      obtain ⟨s, hs⟩ : ∃ s, ls[m]? = some s := ⟨_, List.getElem?_eq_getElem (by have := HN.out; omega)⟩
      obtain ⟨e0, e1, e2⟩ := HC.out m s hs
      have X := ext_below hb
      have c0 := World.grownBy.cell X (hc m hm1 0 (by omega)) (by simp)
      have c1 := World.grownBy.cell X (hc m hm1 1 (by omega)) (by simp)
      have c2 := World.grownBy.cell X (hc m hm1 2 (by omega)) (by simp)
      rw [e0, Nat.add_zero, hm] at c0
      rw [e1, hm] at c1
      rw [e2, hm] at c2
      have hlt' : (p : Int) < (q : Int) := by omega
      have HM : Hid (m = (p + q) / 2) := hm
      have HS : Hid (ls[m]? = some s) := hs
      clear hc hs hm e0 e1 e2
      by_cases hcl : s.id < client
      · have HCM : Hid (cmpI s.id client = -1) := if_pos hcl
        have HLO : Hid (∀ t s, t < m + 1 → ls[t]? = some s → s.id < client) := fun t s' ht hs' => by
          by_cases e : t = m
          · subst e
            rw [HS.out] at hs'
            cases hs'
            exact hcl
          · have := HAS.out t m s' s (by omega) hs' HS.out
            omega
        clear hlo hcl
        go_wp2_with (go_at_call 47; refine (cmpMemV _ _ _ _ _).mono ?_; rintro e w2 ⟨rfl, b2⟩; rw [HCM.out])
        go_roundw
        case rel => exact ⟨m + 1, q, by omega, hqn, by rw [HM.out]; go_num, rfl, hb.trans (b2.mono hb.size), HLO, hhi⟩
        case measure => simp [intOf]; omega
      · have HCM : Hid (0 ≤ cmpI s.id client) := by
          show 0 ≤ (if s.id < client then -1 else if client < s.id then 1 else 0)
          rw [if_neg hcl]
          split <;> omega
        have HHI : Hid (∀ t s, m ≤ t → ls[t]? = some s → client ≤ s.id) := fun t s' ht hs' => by
          by_cases e : t = m
          · subst e
            rw [HS.out] at hs'
            cases hs'
            omega
          · have := HAS.out m t s s' (by omega) HS.out hs'
            omega
        obtain ⟨cv, hcv⟩ : ∃ cv, cmpI s.id client = cv := ⟨_, rfl⟩
        have HCV : Hid (cmpI s.id client = cv) := hcv
        have dcv : decide (cv < 0) = false := decide_eq_false (by have := HCM.out; omega)
        clear hhi hcl hcv
        go_wp2_with (go_at_call 47; refine (cmpMemV _ _ _ _ _).mono ?_; rintro e w2 ⟨rfl, b2⟩; rw [HCV.out])
        go_roundw
        case rel => exact ⟨p, m, by omega, by omega, rfl, by rw [HM.out]; go_num, hb.trans (b2.mono hb.size), hlo, HHI⟩
        case measure => simp [intOf]; omega
    · obtain rfl : q = p := by omega
      clear hlt hpq
      by_cases hqn' : q < n
      · obtain ⟨b, o, rfl, hbl, hc⟩ := H3.out (by omega)
        obtain ⟨s, hs⟩ : ∃ s, ls[q]? = some s := ⟨_, List.getElem?_eq_getElem (by have := HN.out; omega)⟩
        obtain ⟨e0, e1, e2⟩ := HC.out q s hs
        have X := ext_below hb
        have c0 := World.grownBy.cell X (hc q hqn' 0 (by omega)) (by simp)
        have c1 := World.grownBy.cell X (hc q hqn' 1 (by omega)) (by simp)
        have c2 := World.grownBy.cell X (hc q hqn' 2 (by omega)) (by simp)
        rw [e0, Nat.add_zero] at c0
        rw [e1] at c1
        rw [e2] at c2
        have hlt' : (q : Int) < (n : Int) := by omega
        have HLO : Hid (∀ t s, t < q → ls[t]? = some s → s.id < client) := hlo
        have HHI : Hid (∀ t s, q ≤ t → ls[t]? = some s → client ≤ s.id) := hhi
        clear hc e0 e1 e2 hlo hhi
        by_cases hcl : s.id = client
        · have HF : Hid (placeM ls client = (q : Int)) := placeM_some hs hcl (fun i y hi hy => by have := HLO.out i y hi hy; omega)
          have HCM : Hid (cmpI s.id client = 0) := by
            show (if s.id < client then -1 else if client < s.id then 1 else 0) = (0 : Int)
            rw [if_neg (by omega), if_neg (by omega)]
          clear hcl hs
          go_wp2_with (go_at_call 47; refine (cmpMemV _ _ _ _ _).mono ?_; rintro e w2 ⟨rfl, b2⟩; rw [HCM.out])
          go_ret2
          exact ⟨q, true, rfl, hb.trans (b2.mono hb.size), fun _ => HF.out, (fun h => by cases h)⟩
        · have HF : Hid (placeM ls client = -1) := placeM_none (fun i y hy => (fun e => by
            by_cases h1 : i < q
            · have := HLO.out i y h1 hy; omega
            · by_cases h2 : i = q
              · subst h2
                rw [hs] at hy
                cases hy
                exact hcl e
              · have h3 := HAS.out q i s y (by omega) hs hy
                have h4 := HHI.out q s (Nat.le_refl _) hs
                omega))
          have HIK : Hid (insK ls client = q) := insK_at (fun j u hj hu => HLO.out j u hj hu) (.inr ⟨s, hs, by have := HHI.out q s (Nat.le_refl _) hs; omega⟩) (by have := HN.out; omega)
          obtain ⟨cv, hcv⟩ : ∃ cv, cmpI s.id client = cv := ⟨_, rfl⟩
          have HCV : Hid (cmpI s.id client = cv) := hcv
          have dcv : (cv == 0) = false := by
            have : cv ≠ 0 := by
              rw [← hcv]
              show (if s.id < client then -1 else if client < s.id then 1 else 0) ≠ (0 : Int)
              split
              · omega
              · rw [if_pos (by omega)]; omega
            simpa using this
          clear hcl hs hcv
          go_wp2_with (go_at_call 47; refine (cmpMemV _ _ _ _ _).mono ?_; rintro e w2 ⟨rfl, b2⟩; rw [HCV.out])
          go_ret2
          exact ⟨q, false, rfl, hb.trans (b2.mono hb.size), (fun h => by cases h), fun _ => ⟨HF.out, HIK.out⟩⟩
      · obtain rfl : q = n := by omega
        have HF : Hid (placeM ls client = -1) := placeM_none (fun i y hy => (fun e => by
          have := hlo.out i y (by have := (List.getElem?_eq_some_iff.1 hy).1; have := HN.out; omega) hy
          omega))
        have HIK : Hid (insK ls client = q) := insK_at (fun j u hj hu => hlo.out j u hj hu) (.inl HN.out) (by have := HN.out; omega)
        clear hlo hhi
        go_wp2
        go_ret2
        exact ⟨q, false, rfl, hb, (fun h => by cases h), fun _ => ⟨HF.out, HIK.out⟩⟩

theorem findMV (v : Value) (ls : List DMem) (id : Int) (w : World) (h : VMem w v ls) (hn4 : ls.length ≤ 12) (hasc : AscM ls) :
    Calls Try.prog 34 #[v, .int .i64 id] w fun e w' => FndM ls id w e w' := by
  go_enter Try.func34, Try.ntmps34
  go_wp2_with (go_at_call 46; refine (bsearchM v ls id w h hn4 hasc).mono ?_; rintro e w1 ⟨t, fb, rfl, b1, f1, f2⟩)
  go_ret2
  exact ⟨t, fb, rfl, b1, f1, f2⟩

end Go.Proofs.Ytmodliaieienfaa

namespace Go.Proofs.Ytmodliaieienfaa
open Go.RowKit

theorem cells2 {w : World} {g : Nat} {v0 v1 : Value} {t : TypeId} (h : w.heap[g]? = some (.cells #[v0, v1] t (0, 0))) : w.cell? ⟨g, 0, none⟩ = some v0 ∧ w.cell? ⟨g, 1, none⟩ = some v1 := ⟨(at_block h 0 _ rfl).1, (at_block h 1 _ rfl).1⟩
theorem cells3 {w : World} {g : Nat} {v0 v1 v2 : Value} {t : TypeId} (h : w.heap[g]? = some (.cells #[v0, v1, v2] t (0, 0))) : w.cell? ⟨g, 0, none⟩ = some v0 ∧ w.cell? ⟨g, 1, none⟩ = some v1 ∧ w.cell? ⟨g, 2, none⟩ = some v2 := ⟨(at_block h 0 _ rfl).1, (at_block h 1 _ rfl).1, (at_block h 2 _ rfl).1⟩

/-- The least name that may stand at k. -/
def LeastAt (ts : List DMem) (k : Nat) (L : Int) : Prop := (k = 0 ∧ L = 0) ∨ ∃ (k' : Nat) (p : DMem), k = k' + 1 ∧ ts[k']? = some p ∧ L = p.id + 1
theorem LeastAt.iff {ts : List DMem} {k : Nat} {L : Int} {s : DMem} (h : LeastAt ts k L) (hs : ts[k]? = some s) (hm : memB s = true) : MemAt ts k ↔ ¬ s.id < L := by
  have h0 : 0 ≤ s.id := by
    simp only [memB, Bool.and_eq_true, decide_eq_true_eq] at hm
    exact hm.1.1.1.1.1
  rcases h with ⟨rfl, rfl⟩ | ⟨k', p, rfl, hp, rfl⟩
  · exact ⟨fun _ => by omega, fun _ t ht => by rw [hs] at ht; cases ht; exact ⟨hm, fun p hp => absurd hp (by omega)⟩⟩
  · constructor
    · intro h
      have := (h s hs).2 p (by omega) (by rw [Nat.add_sub_cancel]; exact hp)
      omega
    · intro h t ht
      rw [hs] at ht
      cases ht
      refine ⟨hm, fun p' _ hp' => ?_⟩
      rw [Nat.add_sub_cancel, hp] at hp'
      cases hp'
      omega

set_option maxRecDepth 20000 in
set_option maxHeartbeats 8000000 in
theorem iTableOkV (v : Value) (T : DTab) (w : World) (h : VTab w v T) (hn : T.mems.length ≤ 1048576) :
    Calls Try.prog 21 #[v] w fun e w' => e = .returned (.bool (tB (TabP T))) ∧ Below w.heap.size w w' := by
  have hB : ∀ w : World, ∀ o, Below w.heap.size w (w.alloc o) := fun w o => (Below.refl _ w).alloc (Nat.le_refl _) _
  obtain ⟨tv, rfl, h⟩ := h
  obtain ⟨a, cap, rfl⟩ := h.shape
  obtain ⟨n, hnn⟩ : ∃ n, n = T.mems.length := ⟨_, rfl⟩
  have HV : Hid (VMem w (.slice a T.mems.length cap) T.mems) := h
  have HN : Hid (n = T.mems.length) := hnn
  rw [← hnn] at HV hn ⊢
  clear h hnn
  have hml2 : (n : Int) ≤ 1048576 := by omega
  go_enter Try.func21, Try.ntmps21
  by_cases g1 : (12 : Int) < n
  · have HK : Hid (tB (TabP T) = false) := tB_false (fun h => by have := h.1; have := HN.out; omega)
    have d1 : decide ((n : Int) > 12) = true := decide_eq_true g1
    go_wp2
    go_ret
    exact ⟨by rw [HK.out]; rfl, hB _ _⟩
  have d1 : decide ((n : Int) > 12) = false := decide_eq_false (by omega)
  have H12 : Hid (n ≤ 12) := by show n ≤ 12; omega
  go_wp2
  have P0 := heap_alloc_new w (.cells #[.int .i64 T.self, .slice a n cap] 28 (0, 0))
  have B0 := hB w (.cells #[.int .i64 T.self, .slice a n cap] 28 (0, 0))
  have HP0 : Hid ((w.alloc (.cells #[.int .i64 T.self, .slice a n cap] 28 (0, 0))).heap[w.heap.size]? = some (.cells #[.int .i64 T.self, .slice a n cap] 28 (0, 0))) := P0
  clear P0
  go_loopw [3, 15] (fun le i wr => ∃ (k : Nat) (L : Int), k ≤ n ∧ le = .int .i64 L ∧ i = .int .i64 k ∧ Hid (∀ j, j < k → MemAt T.mems j) ∧ Hid (LeastAt T.mems k L) ∧ Below w.heap.size w wr ∧ Hid (wr.heap[w.heap.size]? = some (.cells #[.int .i64 T.self, .slice a n cap] 28 (0, 0)))) (fun _ i _ => n - (intOf i).toNat)
  case atStart => exact ⟨0, 0, Nat.zero_le _, rfl, rfl, fun j hj => absurd hj (by omega), .inl ⟨rfl, rfl⟩, B0, HP0⟩
  case round =>
    obtain ⟨k, L, hk, rfl, rfl, hall, hle, hb, hbx⟩ := hrel
    clear B0 HP0 d1 g1
    by_cases hlt : k < n
    · obtain ⟨s, hs⟩ : ∃ s, T.mems[k]? = some s := ⟨_, List.getElem?_eq_getElem (by have := HN.out; omega)⟩
      obtain ⟨b, o, rfl, c0, c1, c2⟩ := HV.out.at (ext_below hb) hs
      have hlt' : (k : Int) < (n : Int) := by omega
      have HE : Hid (∀ W', Calls Try.prog 33 #[.agg #[.int .i64 s.id, .int .i64 s.st, .int .i64 s.life]] W' fun e w' => e = .returned (.bool (memB s)) ∧ Below W'.heap.size W' w') := fun W' => iMemberOkV s W'
      go_upto_region 7 with fail
      generalize hV : wr.alloc _ = V
      have HBV : Hid (Below w.heap.size w V) := by rw [← hV]; exact hb.alloc hb.size _
      have HBX : Hid (V.heap[w.heap.size]? = some (.cells #[.int .i64 T.self, .slice (some ⟨b, o, none⟩) n cap] 28 (0, 0))) := by rw [← hV]; exact below_blk (hB wr _) (Array.getElem?_eq_some_iff.1 hbx.out).1 hbx.out
      obtain ⟨y0, y1, y2⟩ : V.cell? ⟨wr.heap.size, 0, none⟩ = some (.int .i64 s.id) ∧ V.cell? ⟨wr.heap.size, 1, none⟩ = some (.int .i64 s.st) ∧ V.cell? ⟨wr.heap.size, 2, none⟩ = some (.int .i64 s.life) := by rw [← hV]; exact cells3 (heap_alloc_new wr _)
      clear hV c0 c1 c2
      cases hm : memB s
      · have HK : Hid (tB (TabP T) = false) := tB_false (fun h => by have := (h.2.1 k (by have := HN.out; omega) s hs).1; rw [hm] at this; cases this)
        rw [hm] at HE
        clear hm
        as_aux_lemma =>
          go_wp2_with (go_at_call 33; refine (HE.out _).mono ?_; rintro e w2 ⟨rfl, b2⟩; have z0 := World.grownBy.cell (ext_below b2) y0 (by simp))
          go_ret
          exact ⟨by rw [HK.out]; rfl, HBV.out.trans (b2.mono HBV.out.size)⟩
      · rw [hm] at HE
        have HI : Hid (MemAt T.mems k ↔ ¬ s.id < L) := hle.out.iff hs hm
        have hid : 0 ≤ s.id ∧ s.id < 12 := by
          simp only [memB, Bool.and_eq_true, decide_eq_true_eq] at hm
          exact ⟨hm.1.1.1.1.1, hm.1.1.1.1.2⟩
        obtain ⟨hid0, hid1⟩ := hid
        clear hm
        cases hc : decide (s.id < L)
        · have HA : Hid (∀ j, j < k + 1 → MemAt T.mems j) := fun j hj => by
            by_cases ej : j = k
            · subst ej
              exact HI.out.2 (of_decide_eq_false hc)
            · exact hall.out j (by omega)
          have HLE : Hid (LeastAt T.mems (k + 1) (s.id + 1)) := .inr ⟨k, s, rfl, hs, rfl⟩
          as_aux_lemma =>
            go_wp2_with (go_at_call 33; refine (HE.out _).mono ?_; rintro e w2 ⟨rfl, b2⟩; have z0 := World.grownBy.cell (ext_below b2) y0 (by simp))
            go_roundw
            case rel => exact ⟨k + 1, s.id + 1, by omega, by go_num, by go_num, HA, HLE, HBV.out.trans (b2.mono HBV.out.size), below_blk b2 (Array.getElem?_eq_some_iff.1 HBX.out).1 HBX.out⟩
            case measure => simp [intOf]; omega
        · have HK : Hid (tB (TabP T) = false) := tB_false (fun h => HI.out.1 (h.2.1 k (by have := HN.out; omega)) (of_decide_eq_true hc))
          as_aux_lemma =>
            go_wp2_with (go_at_call 33; refine (HE.out _).mono ?_; rintro e w2 ⟨rfl, b2⟩; have z0 := World.grownBy.cell (ext_below b2) y0 (by simp))
            go_ret
            exact ⟨by rw [HK.out]; rfl, HBV.out.trans (b2.mono HBV.out.size)⟩
    · have hkn : n = k := by omega
      subst hkn
      have HALL : Hid (T.mems.length ≤ 12 ∧ ∀ i, i < T.mems.length → MemAt T.mems i) := ⟨by have := HN.out; have := H12.out; omega, fun i hi => hall.out i (by have := HN.out; omega)⟩
      obtain ⟨q0, q1⟩ := cells2 hbx.out
      go_wp2_with fail
      refine (findMV _ T.mems T.self wr (HV.out.ext (ext_below hb)) HALL.out.1 (ascM_of HALL.out.2)).mono ?_
      rintro e w2 ⟨t, fb, rfl, b2, f1, f2⟩
      have HF1 : Hid (fb = true → placeM T.mems T.self = t) := f1
      have HF2 : Hid (fb = false → placeM T.mems T.self = -1 ∧ insK T.mems T.self = t) := f2
      have hb2 := hb.trans (b2.mono hb.size)
      have hbx2 := below_blk b2 (Array.getElem?_eq_some_iff.1 hbx.out).1 hbx.out
      clear q0 q1 f1 f2
      obtain ⟨q0, q1⟩ := cells2 hbx2
      cases fb
      · have HK : Hid (tB (TabP T) = false) := tB_false (fun h => by
          obtain ⟨i, t, ht, he, hf, _⟩ := h.2.2
          have := placeM_some ht he hf
          have := (HF2.out rfl).1
          omega)
        clear HF1 HF2
        go_wp2
        go_ret
        exact ⟨by rw [HK.out]; rfl, hb2⟩
      · rcases placeM_cases T.mems T.self with ⟨hp, hno⟩ | ⟨i, u, hu, he, hf, hp⟩
        · exact absurd (HF1.out rfl) (by omega)
        have hit : i = t := by have := HF1.out rfl; omega
        subst hit
        have hin : i < n := by have := (List.getElem?_eq_some_iff.1 hu).1; have := HN.out; omega
        have hin' : (i : Int) < (n : Int) := by omega
        obtain ⟨b, o, rfl, c0, c1, c2⟩ := HV.out.at (ext_below hb2) hu
        have HK : Hid (tB (TabP T) = ownB u) := by
          show _ = _
          cases ho : ownB u
          · refine tB_false (fun h => ?_)
            obtain ⟨i', t', ht', he', hf', ho'⟩ := h.2.2
            have e1 := placeM_some ht' he' hf'
            have : i' = i := by omega
            subst this
            rw [hu] at ht'
            cases ht'
            rw [ho] at ho'
            cases ho'
          · exact tB_true ⟨HALL.out.1, HALL.out.2, i, u, hu, he, hf, ho⟩
        have HS : Hid (∀ W', Calls Try.prog 35 #[.agg #[.int .i64 u.id, .int .i64 u.st, .int .i64 u.life]] W' fun e w' => e = .returned (.bool (ownB u)) ∧ Below W'.heap.size W' w') := fun W' => selfOkV u W'
        generalize ownB u = ob at HK HS
        clear hp hf he HF1 HF2
        go_wp2_with (go_at_call 35; refine (HS.out _).mono ?_; rintro e w3 ⟨rfl, b3⟩)
        go_ret
        exact ⟨by rw [HK.out]; rfl, hb2.trans (b3.mono hb2.size)⟩

end Go.Proofs.Ytmodliaieienfaa

namespace Go.Proofs.Ytmodliaieienfaa
open Go.RowKit

set_option maxRecDepth 20000 in
set_option maxHeartbeats 4000000 in
theorem iMemberOfV (v : Value) (T : DTab) (id : Int) (w : World) (h : VTab w v T) (hn : T.mems.length ≤ 1048576) :
    Calls Try.prog 25 #[v, .int .i64 id] w fun e w' => e = .returned (.tuple #[.agg #[.int .i64 (ofD T id).1.id, .int .i64 (ofD T id).1.st, .int .i64 (ofD T id).1.life], .bool (ofD T id).2]) ∧ Below w.heap.size w w' := by
  have HT : Hid (VTab w v T) := h
  have HN : Hid (T.mems.length ≤ 1048576) := hn
  obtain ⟨tv, rfl, h⟩ := h
  obtain ⟨a, cap, rfl⟩ := h.shape
  obtain ⟨R, hR⟩ : ∃ R, R = ofD T id := ⟨_, rfl⟩
  rw [← hR]
  have HR : Hid (R = ofD T id) := hR
  obtain ⟨n, hnn⟩ : ∃ n, n = T.mems.length := ⟨_, rfl⟩
  have HNN : Hid (n = T.mems.length) := hnn
  rw [← hnn] at HT h ⊢
  have HV : Hid (VMem w (.slice a n cap) T.mems) := h
  clear h hR hnn hn
  go_enter Try.func25, Try.ntmps25
  go_wp2_with fail
  have PA := al2_0 w (.cells #[.int .i64 T.self, .slice a n cap] 28 (0, 0)) (.cells #[.int .i64 0, .int .i64 0, .int .i64 0] 40 (0, 0))
  have PR := al2_1 w (.cells #[.int .i64 T.self, .slice a n cap] 28 (0, 0)) (.cells #[.int .i64 0, .int .i64 0, .int .i64 0] 40 (0, 0))
  have BW : Below w.heap.size w ((w.alloc (.cells #[.int .i64 T.self, .slice a n cap] 28 (0, 0))).alloc (.cells #[.int .i64 0, .int .i64 0, .int .i64 0] 40 (0, 0))) := ((Below.refl _ w).alloc (Nat.le_refl _) _).alloc (by simp) _
  generalize (w.alloc (.cells #[.int .i64 T.self, .slice a n cap] 28 (0, 0))).alloc (.cells #[.int .i64 0, .int .i64 0, .int .i64 0] 40 (0, 0)) = W at PA PR BW ⊢
  refine (iTableOkV _ T W (HT.out.ext (ext_below BW)) HN.out).mono ?_
  rintro e w1 ⟨rfl, b1⟩
  have B1 := BW.trans (b1.mono BW.size)
  have PA1 := below_blk b1 (Array.getElem?_eq_some_iff.1 PA).1 PA
  have PR1 := below_blk b1 (Array.getElem?_eq_some_iff.1 PR).1 PR
  clear PA PR BW b1
  obtain ⟨q0, q1⟩ := cells2 PA1
  cases t0 : tB (TabP T)
  · have HK : Hid (R = (⟨0, 0, 0⟩, false)) := by show _ = _; rw [HR.out]; exact ofD_no (fun h' => by rw [tB_true h'] at t0; cases t0)
    obtain ⟨r0, f0⟩ := at_block PR1 0 _ rfl
    obtain ⟨r1, f1⟩ := at_block PR1 1 _ rfl
    obtain ⟨r2, f2⟩ := at_block PR1 2 _ rfl
    clear t0
    go_wp2
    refine bodyPost_ret (v := .tuple #[.agg #[.int .i64 0, .int .i64 0, .int .i64 0], .bool false]) (by simp [results, Try.results25, go_sem, *]) rfl ?_
    rw [HK.out]
    exact ⟨rfl, ((B1.setCell (by simp) _).setCell (by simp) _).setCell (by simp) _⟩
  have HTP : Hid (TabP T) := tB_iff.1 t0
  clear t0
  go_wp2_with fail
  refine (findMV _ T.mems id w1 (HV.out.ext (ext_below B1)) HTP.out.1 (ascM_of HTP.out.2.1)).mono ?_
  rintro e w2 ⟨tt, fb, rfl, b2, f1, f2⟩
  have HF1 : Hid (fb = true → placeM T.mems id = tt) := f1
  have HF2 : Hid (fb = false → placeM T.mems id = -1 ∧ insK T.mems id = tt) := f2
  clear f1 f2
  have B2 := B1.trans (b2.mono B1.size)
  have PA2 := below_blk b2 (Array.getElem?_eq_some_iff.1 PA1).1 PA1
  have PR2 := below_blk b2 (Array.getElem?_eq_some_iff.1 PR1).1 PR1
  clear PA1 PR1 b2 q0 q1 B1
  obtain ⟨q0, q1⟩ := cells2 PA2
  obtain ⟨r0, f0⟩ := at_block PR2 0 _ rfl
  obtain ⟨r1, f1⟩ := at_block PR2 1 _ rfl
  obtain ⟨r2, f2⟩ := at_block PR2 2 _ rfl
  rcases placeM_cases T.mems id with ⟨hpl, hno⟩ | ⟨i, t, ht, he, hf, hpl⟩
  · have HK : Hid (R = (⟨0, 0, 0⟩, false)) := by show _ = _; rw [HR.out]; exact ofD_none HTP.out hpl
    cases fb
    case true => exact absurd (HF1.out rfl) (by omega)
    clear hpl hno HF1 HF2
    go_wp2
    refine bodyPost_ret (v := .tuple #[.agg #[.int .i64 0, .int .i64 0, .int .i64 0], .bool false]) (by simp [results, Try.results25, go_sem, *]) rfl ?_
    rw [HK.out]
    exact ⟨rfl, ((B2.setCell (by simp) _).setCell (by simp) _).setCell (by simp) _⟩
  · have hin : i < n := by have := (List.getElem?_eq_some_iff.1 ht).1; have := HNN.out; omega
    have hin' : (i : Int) < (n : Int) := by omega
    have HK : Hid (R = (t, true)) := by show _ = _; rw [HR.out]; exact ofD_some HTP.out hpl ht
    obtain ⟨b, o, rfl, c0, c1, c2⟩ := HV.out.at (ext_below B2) ht
    cases fb
    case false => exact absurd (HF2.out rfl).1 (by omega)
    have hit : i = tt := by have := HF1.out rfl; omega
    subst hit
    clear hpl hf he HF1 HF2
    go_wp2
    refine bodyPost_ret (v := .tuple #[.agg #[.int .i64 t.id, .int .i64 t.st, .int .i64 t.life], .bool true]) (by simp [results, Try.results25, go_sem, *]) rfl ?_
    rw [HK.out]
    exact ⟨rfl, ((B2.setCell (by simp) _).setCell (by simp) _).setCell (by simp) _⟩

end Go.Proofs.Ytmodliaieienfaa

namespace Go.Proofs.Ytmodliaieienfaa
open Go.RowKit

/-- A new prober, behind i askings. -/
def rdP (T : DTab) (s : Int) (i : Nat) (h : Decidable (TabP T) := Classical.propDecidable (TabP T)) : DPro :=
  match i with
  | 0 => ⟨[], 0, s, 0, 0, 0⟩
  | i + 1 => ⟨(shufL (othersD T h) s).1, ((i + 1 : Nat) : Int), (shufL (othersD T h) s).2, 0, 0, 0⟩
theorem shufL_perm (xs : List Int) (s : Int) : (shufL xs s).1.Perm xs := shufN_perm _ _ _ (by omega)
theorem asc_nodup {ls : List DMem} (h : AscM ls) : (ls.map fun t => t.id).Nodup := by
  unfold List.Nodup
  rw [List.pairwise_iff_getElem]
  intro i j hi hj hij e
  rw [List.length_map] at hi hj
  rw [List.getElem_map, List.getElem_map] at e
  have := h i j _ _ hij (List.getElem?_eq_getElem hi) (List.getElem?_eq_getElem hj)
  omega
theorem nodup_at {xs : List Int} (h : xs.Nodup) {i j : Nat} {x y : Int} (hi : xs[i]? = some x) (hj : xs[j]? = some y) (hij : i < j) : x ≠ y := by
  unfold List.Nodup at h
  rw [List.pairwise_iff_getElem] at h
  obtain ⟨h1, rfl⟩ := List.getElem?_eq_some_iff.1 hi
  obtain ⟨h2, rfl⟩ := List.getElem?_eq_some_iff.1 hj
  exact h i j h1 h2 hij
theorem others_nodup {T : DTab} (h : TabP T) : (othersD T).Nodup := by
  unfold othersD exceptL
  rw [liveD_yes h]
  refine List.Nodup.sublist List.filter_sublist ?_
  unfold liveL
  exact List.Nodup.sublist (List.Sublist.map _ List.filter_sublist) (asc_nodup (ascM_of h.2.1))
theorem mem_tab {T : DTab} (h : TabP T) {i : Nat} {t : DMem} (hi : T.mems[i]? = some t) : 0 ≤ t.id ∧ t.id < 12 := by
  have hm := (h.2.1 i (List.getElem?_eq_some_iff.1 hi).1 t hi).1
  unfold memB at hm
  simp only [Bool.and_eq_true, decide_eq_true_eq] at hm
  exact ⟨hm.1.1.1.1.1, hm.1.1.1.1.2⟩
theorem others_mem {T : DTab} (h : TabP T) {x : Int} (hx : x ∈ othersD T) : x ≠ T.self ∧ ∃ (i : Nat) (t : DMem), T.mems[i]? = some t ∧ t.id = x ∧ t.st ≤ 1 ∧ (0 ≤ x ∧ x < 12) := by
  unfold othersD exceptL at hx
  obtain ⟨h1, h2⟩ := List.mem_filter.1 hx
  rw [liveD_yes h] at h1
  unfold liveL at h1
  obtain ⟨t, ht, rfl⟩ := List.mem_map.1 h1
  obtain ⟨h3, h4⟩ := List.mem_filter.1 ht
  obtain ⟨i, hi⟩ := List.getElem?_of_mem h3
  exact ⟨by simpa using h2, i, t, hi, rfl, by simpa using h4, mem_tab h hi⟩
theorem rdP_ok {T : DTab} (h : TabP T) {s : Int} (hs : 0 ≤ s ∧ s ≤ 2147483647) : ∀ i, i ≤ (othersD T).length → ProP (rdP T s i)
  | 0, _ => by
    refine ⟨Nat.zero_le _, ⟨Int.le_refl _, Int.le_refl _⟩, hs, ⟨Int.le_refl _, by show (0 : Int) ≤ 2; omega⟩, ⟨Int.le_refl _, by show (0 : Int) ≤ 4; omega⟩, ⟨Int.le_refl _, by show (0 : Int) < 12; omega⟩, ?_, .inr ⟨rfl, rfl⟩⟩
    intro i hi
    exact absurd hi (Nat.not_lt_zero _)
  | i + 1, hi => by
    have hp := shufL_perm (othersD T) s
    have hl : (shufL (othersD T) s).1.length = (othersD T).length := shufL_len _ _
    have h12 : (othersD T).length ≤ 12 := Nat.le_trans (except_len _ _) (by rw [liveD_yes h]; exact Nat.le_trans (liveL_len _) h.1)
    refine ⟨by show (shufL (othersD T) s).1.length ≤ 12; omega, ⟨by show (0 : Int) ≤ ((i + 1 : Nat) : Int); omega, by show ((i + 1 : Nat) : Int) ≤ ((shufL (othersD T) s).1.length : Nat); omega⟩, shufN_bd _ _ _ hs, ⟨Int.le_refl _, by show (0 : Int) ≤ 2; omega⟩, ⟨Int.le_refl _, by show (0 : Int) ≤ 4; omega⟩, ⟨Int.le_refl _, by show (0 : Int) < 12; omega⟩, ?_, .inr ⟨rfl, rfl⟩⟩
    intro j hj x hx
    have hx' : (shufL (othersD T) s).1[j]? = some x := hx
    obtain ⟨_, _, _, _, _, _, hb⟩ := others_mem h (hp.mem_iff.1 (List.mem_of_getElem? hx'))
    refine ⟨hb.1, hb.2, fun k y hk hy e => ?_⟩
    have hy' : (shufL (othersD T) s).1[k]? = some y := hy
    exact nodup_at ((hp.nodup_iff).2 (others_nodup h)) hy' hx' hk e
/-- One asking more. -/
theorem rd_next {T : DTab} (h : TabP T) {s : Int} (hs : 0 ≤ s ∧ s ≤ 2147483647) {i : Nat} {x : Int} (hx : (shufL (othersD T) s).1[i]? = some x) : nextPD (rdP T s i) T = (rdP T s (i + 1), x) := by
  have hl : (shufL (othersD T) s).1.length = (othersD T).length := shufL_len _ _
  have hi : i < (othersD T).length := by have := (List.getElem?_eq_some_iff.1 hx).1; omega
  rw [nextPD_yes ⟨rdP_ok h hs i (by omega), h⟩]
  have hmem : x ∈ othersD T := (shufL_perm (othersD T) s).mem_iff.1 (List.mem_of_getElem? hx)
  have hcon : (othersD T).contains x = true := by simpa using hmem
  cases i with
  | zero =>
    have h0 : goOn (othersD T) (rdP T s 0) = none := rfl
    have h1 : goOn (othersD T) (anew (othersD T) (rdP T s 0)) = some (x, 1) := by
      show scanL (othersD T) ((shufL (othersD T) s).1.drop 0) 0 = _
      rw [scanL_at hx, if_pos hcon]
    rw [nextL, h0]
    show nextL (othersD T) 1 _ = _
    rw [nextL, h1]
    rfl
  | succ j =>
    have h1 : goOn (othersD T) (rdP T s (j + 1)) = some (x, j + 1 + 1) := by
      show scanL (othersD T) ((shufL (othersD T) s).1.drop (((j + 1 : Nat) : Int).toNat)) (((j + 1 : Nat) : Int).toNat) = _
      rw [Int.toNat_natCast, scanL_at hx, if_pos hcon]
    rw [nextL, h1]
    rfl

end Go.Proofs.Ytmodliaieienfaa

namespace Go.Proofs.Ytmodliaieienfaa
open Go.RowKit

set_option maxHeartbeats 2000000 in
theorem at1 (a : Option Addr) (n cap : Nat) (xs : List Int) (w : World) (hr : Rd w a n xs) (hm : n ≤ maxLen) : Calls Try.prog 6 #[.slice a n cap, .int .i64 1] w fun e w' => ∃ x : Int, 0 ≤ x ∧ x ≤ 255 ∧ e = .returned (.int .i64 x) ∧ w' = w := by
  have hml : n ≤ 9223372036854775807 := by unfold maxLen at hm; omega
  by_cases h0 : n = 0
  · subst h0
    go_enter Try.func6, Try.ntmps6
    go_wp2
    go_ret
    exact ⟨0, by omega, by omega, rfl, rfl⟩
  · obtain ⟨b, o, rfl, hbl, hc⟩ := hr.pos (by omega)
    have hz : ¬ (n : Int) = 0 := by omega
    have hz2 : ((n : Int) == 0) = false := by simp; omega
    have hn0 : (0 : Int) < n := by omega
    have h1 : 0 ≤ (1 : Int) % n ∧ (1 : Int) % n < n := ⟨Int.emod_nonneg _ (by omega), Int.emod_lt_of_pos _ hn0⟩
    obtain ⟨j, hj⟩ := Int.eq_ofNat_of_zero_le h1.1
    have hjn : j < n := by omega
    have ck := hc j hjn
    have hx := hr.rng (xs.getD j 0) (by
      have hl := hr.len
      rw [List.getD_eq_getElem?_getD, List.getElem?_eq_getElem (by omega)]
      exact List.getElem_mem _)
    generalize xs.getD j 0 = y at ck hx
    obtain ⟨hx0, hx1⟩ := hx
    have hjn' : (j : Int) < n := by omega
    have hj2 : (1 : Int).tmod n = (j : Int) := by rw [Int.tmod_eq_emod_of_nonneg (by omega)]; exact hj
    clear hc
    go_enter Try.func6, Try.ntmps6
    go_wp2
    go_ret
    exact ⟨y, hx0, hx1, by first | rfl | simp, rfl⟩

theorem others_of {T : DTab} (h : TabP T) {x : Int} (hx : x ∈ othersD T) : ∃ t, ofD T x = (t, true) ∧ t.st ≤ 1 := by
  obtain ⟨_, i, t, hi, he, hs, _⟩ := others_mem h hx
  rcases placeM_cases T.mems x with ⟨_, hn⟩ | ⟨j, u, hj, hu, _, hp⟩
  · exact absurd he (hn i t hi)
  · have ha := ascM_of h.2.1
    have hij : i = j := by
      rcases Nat.lt_trichotomy i j with hl | hl | hl
      · have := ha i j t u hl hi hj; omega
      · exact hl
      · have := ha j i u t hl hj hi; omega
    subst hij
    rw [hi] at hj
    cases hj
    exact ⟨t, ofD_some h hp hi, hs⟩
set_option maxRecDepth 20000 in
set_option maxHeartbeats 2000000 in
theorem lifeV (v : Value) (T : DTab) (id : Int) (t : DMem) (w : World) (h : VTab w v T) (hn : T.mems.length ≤ 1048576) (ho : ofD T id = (t, true)) :
    Calls Try.prog 11 #[v, .int .i64 id] w fun e w' => e = .returned (.agg #[.int .i64 t.id, .int .i64 t.st, .int .i64 t.life]) ∧ Below w.heap.size w w' := by
  have HT : Hid (VTab w v T) := h
  have HO : Hid (ofD T id = (t, true)) := ho
  have HN : Hid (T.mems.length ≤ 1048576) := hn
  obtain ⟨tv, rfl, h⟩ := h
  obtain ⟨a, cap, rfl⟩ := h.shape
  clear h ho hn
  generalize T.mems.length = n at HT ⊢
  go_enter Try.func11, Try.ntmps11
  go_wp2_with fail
  generalize hW : World.alloc (World.alloc w _) _ = W
  have BW : Below w.heap.size w W := by rw [← hW]; exact ((Below.refl _ w).alloc (Nat.le_refl _) _).alloc (by simp) _
  have P1 : W.heap[w.heap.size + 1]? = some (.cells #[.int .i64 0, .int .i64 0, .int .i64 0] 40 (0, 0)) := by rw [← hW]; simpa using heap_alloc_new (World.alloc w _) (.cells #[.int .i64 0, .int .i64 0, .int .i64 0] 40 (0, 0))
  clear hW
  refine (iMemberOfV _ T id W (HT.out.ext (ext_below BW)) HN.out).mono ?_
  rintro e w1 ⟨rfl, b1⟩
  rw [HO.out]
  have P2 := below_blk b1 (Array.getElem?_eq_some_iff.1 P1).1 P1
  have B1 := BW.trans (b1.mono BW.size)
  have hs := (Array.getElem?_eq_some_iff.1 P2).1
  clear P1 b1 BW
  obtain ⟨r0, f0⟩ := at_block P2 0 _ rfl
  obtain ⟨r1, f1⟩ := at_block P2 1 _ rfl
  obtain ⟨r2, f2⟩ := at_block P2 2 _ rfl
  clear P2
  go_wp2
  refine bodyPost_ret (v := .agg #[.int .i64 t.id, .int .i64 t.st, .int .i64 t.life]) (by simp [results, Try.results11, go_sem, *]) rfl ?_
  exact ⟨rfl, (((B1.setCell (by simp) _).setCell (by simp) _).setCell (by simp) _).alloc (by simp; omega) _⟩

theorem run_state (W : World) (i s l : Int) : (Instr.field 40 (.agg #[.int .i64 i, .int .i64 s, .int .i64 l]) 1).run Try.prog W = .ok (.int .i64 s) W := by
  simp [Instr.field, asAgg, go_sem]
theorem ne_rowR {W : World} {base b : Nat} {v : Value} {ts : List Int} {cs : Array Value} {t : TypeId} (o : OwI W base v ts) (h : W.heap[b]? = some (.cells cs t (0, 0))) (ht : t ≠ 3) : some b ≠ v.ownBlock := by
  intro e
  rcases o.2 with ⟨hv, _⟩ | ⟨k, c, cur, hv, _, hg, _⟩
  · rw [hv] at e; cases e
  · rw [hv] at e
    simp only [Value.ownBlock, Option.some.injEq] at e
    subst e
    rw [h] at hg
    simp only [Option.some.injEq, Obj.cells.injEq] at hg
    exact ht hg.2.1
/-- What stands in memory behind i askings. -/
structure RdS (w1 : World) (gt gp : Nat) (T : DTab) (ta : Option Addr) (tn tc : Nat) (P : DPro) (ls : List Int) (sv : Value) (W : World) : Prop where
  tab : W.heap[gt]? = some (.cells #[.int .i64 T.self, .slice ta tn tc] 28 (0, 0))
  pro : ∃ tv, W.heap[gp]? = some (.cells #[tv, .int .i64 P.next, .int .i64 P.seed, .int .i64 P.state, .int .i64 P.who, .int .i64 P.wait] 25 (0, 0)) ∧ VL fI W tv P.order
  seen : OwI W w1.heap.size sv ls
  bel : Below w1.heap.size w1 W
  le : w1.heap.size ≤ gp
theorem RdS.ext {w1 W W' : World} {gt gp : Nat} {T : DTab} {ta : Option Addr} {tn tc : Nat} {P : DPro} {ls : List Int} {sv : Value} (h : RdS w1 gt gp T ta tn tc P ls sv W) (e : Ext W W') : RdS w1 gt gp T ta tn tc P ls sv W' := by
  obtain ⟨tv, h1, h2⟩ := h.pro
  exact ⟨ext_blk e h.tab, ⟨tv, ext_blk e h1, h2.ext e⟩, h.seen.ext e, h.bel.trans ((ext_bel e).mono h.bel.size), h.le⟩
/-- One asking more: what was said is noted, and the prober put in its place. -/
theorem rd_step {w1 W w7 w8 : World} {gt gp gx : Nat} {T : DTab} {ta : Option Addr} {tn tc : Nat} {P P' : DPro} {ls ls' : List Int} {sv sv' tv : Value} {O : Obj}
    (h : RdS w1 gt gp T ta tn tc P ls sv W) (X : Ext W w7) (o : OwI w7 W.heap.size tv P'.order)
    (hx : w7.heap[gx]? = some (.cells #[tv, .int .i64 P'.next, .int .i64 P'.seed, .int .i64 P'.state, .int .i64 P'.who, .int .i64 P'.wait] 25 (0, 0)))
    (g8 : (w7.alloc O).grownBy w8 sv.ownBlock) (o8 : OwI w8 w1.heap.size sv' ls') :
    w8.heap[gx]? = some (.cells #[tv, .int .i64 P'.next, .int .i64 P'.seed, .int .i64 P'.state, .int .i64 P'.who, .int .i64 P'.wait] 25 (0, 0)) ∧ (∃ c0 c1 c2 c3 c4 c5, w8.heap[gp]? = some (.cells #[c0, c1, c2, c3, c4, c5] 25 (0, 0))) ∧
    RdS w1 gt gp T ta tn tc P' ls' sv' ((((((w8.setCell ⟨gp, 0, none⟩ tv).setCell ⟨gp, 1, none⟩ (.int .i64 P'.next)).setCell ⟨gp, 2, none⟩ (.int .i64 P'.seed)).setCell ⟨gp, 3, none⟩ (.int .i64 P'.state)).setCell ⟨gp, 4, none⟩ (.int .i64 P'.who)).setCell ⟨gp, 5, none⟩ (.int .i64 P'.wait)) := by
  have XA : Ext w7 (w7.alloc O) := World.grownBy_alloc _ _ _
  have H7 := (h.ext X).ext XA
  have kp : ∀ (b : Nat) (cs : Array Value) (t : TypeId), (w7.alloc O).heap[b]? = some (.cells cs t (0, 0)) → t ≠ 3 → w8.heap[b]? = some (.cells cs t (0, 0)) := fun b cs t hbb ht => (g8.block b (Array.getElem?_eq_some_iff.1 hbb).1 (ne_rowR H7.seen hbb ht)).trans hbb
  have x8 := kp gx _ _ (ext_blk XA hx) (by decide)
  have t8 := kp gt _ _ H7.tab (by decide)
  obtain ⟨tv0, p7, _⟩ := H7.pro
  have p8 := kp gp _ _ p7 (by decide)
  have oT : OwI w8 W.heap.size tv P'.order := (o.ext XA).keep g8 (by
    cases hv : tv.ownBlock with
    | none => exact .inl rfl
    | some k =>
      right
      intro e
      have h1 := (o.lt k hv).1
      have h2 := (h.seen.lt k e.symm).2
      omega)
  have b8 : Below w1.heap.size w1 w8 := H7.bel.grown g8 H7.bel.size (fun k hk => (H7.seen.lt k hk).1)
  have hs : w8.grownBy ((((((w8.setCell ⟨gp, 0, none⟩ tv).setCell ⟨gp, 1, none⟩ (.int .i64 P'.next)).setCell ⟨gp, 2, none⟩ (.int .i64 P'.seed)).setCell ⟨gp, 3, none⟩ (.int .i64 P'.state)).setCell ⟨gp, 4, none⟩ (.int .i64 P'.who)).setCell ⟨gp, 5, none⟩ (.int .i64 P'.wait)) (some gp) := (((((set_grown _ _ _ _).trans (set_grown _ _ _ _)).trans (set_grown _ _ _ _)).trans (set_grown _ _ _ _)).trans (set_grown _ _ _ _)).trans (set_grown _ _ _ _)
  have ntp : gt ≠ gp := fun e => by
    rw [e] at t8
    rw [t8] at p8
    simp only [Option.some.injEq, Obj.cells.injEq] at p8
    exact absurd p8.2.1 (by decide)
  exact ⟨x8, ⟨_, _, _, _, _, _, p8⟩, grown_blk hs ntp t8, ⟨tv, pro_set p8 _ _ _ _ _ _, (pro_own oT (.inr (Ne.symm (ne_rowR oT p8 (by decide)))) _ _ _ _ _ _).vl⟩, pro_own o8 (.inr (Ne.symm (ne_rowR o8 p8 (by decide)))) _ _ _ _ _ _, pro_below b8 h.le _ _ _ _ _ _, h.le⟩

end Go.Proofs.Ytmodliaieienfaa

namespace Go.Proofs.Ytmodliaieienfaa
open Go.RowKit

set_option maxHeartbeats 2000000 in
theorem indexIV (v : Value) (xs : List Int) (y : Int) (w : World) (h : VL fI w v xs) :
    Calls Try.prog 45 #[v, .int .i64 y] w fun e w' => (∃ r : Int, e = .returned (.int .i64 r) ∧ decide (r ≥ 0) = decide (y ∈ xs)) ∧ w' = w := by
  obtain ⟨a, cap, rfl, h1, h2, h3⟩ := h
  obtain ⟨n, hnn⟩ : ∃ n, n = xs.length := ⟨_, rfl⟩
  rw [← hnn] at h1 h3 ⊢
  have HN : Hid (n = xs.length) := hnn
  clear hnn
  unfold maxLen at h2
  have H3 : Hid (0 < n → ∃ b o, a = some ⟨b, o, none⟩ ∧ b < w.heap.size ∧ ∀ (i : Nat) (x : Int), xs[i]? = some x → w.cell? ⟨b, o + i, none⟩ = some (fI x)) := h3
  clear h3
  obtain ⟨ob, hob⟩ : ∃ ob, ob = decide (y ∈ xs) := ⟨_, rfl⟩
  have HO : Hid (ob = decide (y ∈ xs)) := hob
  rw [← hob]
  clear hob
  go_enter Try.func45, Try.ntmps45
  go_wp2
  go_loopw [8] (fun i wr => ∃ k : Nat, k ≤ n ∧ i = .int .i64 k ∧ wr = w ∧ Hid (∀ (j : Nat) z, j < k → xs[j]? = some z → y ≠ z)) (fun i _ => n - (intOf i).toNat)
  case atStart => exact ⟨0, Nat.zero_le _, rfl, rfl, fun j y hj => absurd hj (by omega)⟩
  case round =>
    obtain ⟨k, hk, rfl, rfl, hall⟩ := hrel
    by_cases hlt : k < n
    · obtain ⟨b, o, rfl, hbl, hc⟩ := H3.out (by omega)
      obtain ⟨x, hx⟩ : ∃ x, xs[k]? = some x := ⟨_, List.getElem?_eq_getElem (by have := HN.out; omega)⟩
      have hck : wr.cell? ⟨b, o + k, none⟩ = some (.int .i64 x) := hc k x hx
      have hlt' : (k : Int) < (n : Int) := by omega
      have HS : Hid (xs[k]? = some x) := hx
      clear hc hx
      cases K1 : (y == x)
      case true =>
        have HF : Hid (ob = true) := HO.out.trans (decide_eq_true (by rw [eq_of_beq K1]; exact List.mem_of_getElem? HS.out))
        go_wp2
        go_ret
        exact ⟨⟨k, rfl, by rw [HF.out]; simp⟩, rfl⟩
      case false =>
        have HA : Hid (∀ (j : Nat) z, j < k + 1 → xs[j]? = some z → y ≠ z) := fun j z hj hz => by
          by_cases e : j = k
          · subst e
            rw [HS.out] at hz
            cases hz
            exact fun e => by rw [e] at K1; simp at K1
          · exact hall.out j z (by omega) hz
        clear hall
        go_wp2
        go_roundw
        case rel => exact ⟨k + 1, by omega, by go_num, trivial, HA⟩
        case measure => simp [intOf]; omega
    · have hkn : k = n := by omega
      subst hkn
      have HF : Hid (ob = false) := HO.out.trans (decide_eq_false (fun hm => by
        obtain ⟨j, hj, e⟩ := List.mem_iff_getElem.1 hm
        exact hall.out j y (by have := HN.out; omega) (by rw [List.getElem?_eq_getElem hj, e]) rfl))
      go_wp2
      go_ret
      exact ⟨⟨-1, rfl, by rw [HF.out]; rfl⟩, rfl⟩

set_option maxHeartbeats 1000000 in
theorem containsIV (v : Value) (xs : List Int) (y : Int) (w : World) (h : VL fI w v xs) :
    Calls Try.prog 32 #[v, .int .i64 y] w fun e w' => e = .returned (.bool (decide (y ∈ xs))) ∧ w' = w := by
  go_enter Try.func32, Try.ntmps32
  go_wp2_with fail
  refine (indexIV v xs y w h).mono ?_
  rintro e w2 ⟨⟨r, rfl, hr⟩, rfl⟩
  have HR : Hid (decide (r ≥ 0) = decide (y ∈ xs)) := hr
  clear hr
  go_wp2
  go_ret
  exact ⟨by rw [← HR.out]; rfl, rfl⟩

/-- A list's beginning reads as such. -/
theorem vl_take {w : World} {b o cap n : Nat} {xs : List Int} (h : VL fI w (.slice (some ⟨b, o, none⟩) n cap) xs) (k : Nat) (hk : k ≤ n) : VL fI w (.slice (some ⟨b, o, none⟩) k cap) (xs.take k) := by
  obtain ⟨a', cap', e, h1, h2, h3⟩ := h
  simp only [Value.slice.injEq] at e
  obtain ⟨rfl, rfl, rfl⟩ := e
  refine ⟨_, _, by rw [List.length_take, Nat.min_eq_left hk], by rw [List.length_take]; omega, h2, fun h0 => ?_⟩
  rw [List.length_take] at h0
  obtain ⟨b', o', e', hb, hc⟩ := h3 (by omega)
  refine ⟨b', o', e', hb, fun i x hx => hc i x ?_⟩
  rw [List.getElem?_take] at hx
  split at hx
  · exact hx
  · cases hx

/-- The order may be there. -/
def OrdB (xs : List Int) : Prop := xs.length ≤ 12 ∧ ∀ i, i < xs.length → OrdAt xs i
theorem ordAt_iff {xs : List Int} {k : Nat} {x : Int} (hx : xs[k]? = some x) : OrdAt xs k ↔ (inB x 0 11 = true ∧ x ∉ xs.take k) := by
  unfold OrdAt inB
  constructor
  · intro h
    obtain ⟨h0, h1, h2⟩ := h x hx
    refine ⟨by rw [decide_eq_true h0, decide_eq_true (show x ≤ 11 by omega)]; rfl, fun hm => ?_⟩
    obtain ⟨j, hj, e⟩ := List.mem_iff_getElem.1 hm
    rw [List.length_take] at hj
    have hg : xs[j]? = some x := by
      rw [List.getElem_take] at e
      rw [List.getElem?_eq_getElem (by omega), e]
    exact h2 j x (by omega) hg rfl
  · rintro ⟨h0, h1⟩ z hz
    rw [hx] at hz
    cases hz
    rw [Bool.and_eq_true, decide_eq_true_eq, decide_eq_true_eq] at h0
    refine ⟨h0.1, by omega, fun j y hj hy e => h1 ?_⟩
    rw [← e]
    exact List.mem_of_getElem? (i := j) (by rw [List.getElem?_take, if_pos hj]; exact hy)

set_option maxRecDepth 20000 in
set_option maxHeartbeats 2000000 in
theorem orderOkV (v : Value) (xs : List Int) (w : World) (h : VL fI w v xs) :
    Calls Try.prog 19 #[v] w fun e w' => e = .returned (.bool (tB (OrdB xs))) ∧ w' = w := by
  obtain ⟨a, cap, rfl⟩ := vl_shape h
  obtain ⟨n, hnn⟩ : ∃ n, n = xs.length := ⟨_, rfl⟩
  have hml : n ≤ 9223372036854775807 := by
    obtain ⟨a', cap', e, h1, h2, _⟩ := h
    unfold maxLen at h2
    omega
  have hcp : n ≤ cap := by
    obtain ⟨a', cap', e, h1, h2, _⟩ := h
    simp only [Value.slice.injEq] at e
    omega
  have hcl : cap ≤ 9223372036854775807 := by
    obtain ⟨a', cap', e, h1, h2, _⟩ := h
    unfold maxLen at h2
    simp only [Value.slice.injEq] at e
    omega
  have HV : Hid (VL fI w (.slice a n cap) xs) := by rw [hnn]; exact h
  have HN : Hid (n = xs.length) := hnn
  obtain ⟨R, hR⟩ : ∃ R, R = tB (OrdB xs) := ⟨_, rfl⟩
  rw [← hR]
  rw [← hnn] at ⊢
  have HNO : Hid (¬ OrdB xs → R = false) := fun h => by rw [hR]; exact tB_false h
  have HYE : Hid (OrdB xs → R = true) := fun h => by rw [hR]; exact tB_true h
  clear hR h hnn
  by_cases g1 : n > 12
  · have HK : Hid (R = false) := HNO.out (fun h => by have := HN.out; have := h.1; omega)
    have d1 : decide ((n : Int) > 12) = true := decide_eq_true (by omega)
    go_enter Try.func19, Try.ntmps19
    go_wp2
    go_ret
    exact ⟨by rw [HK.out]; rfl, rfl⟩
  have d1 : decide ((n : Int) > 12) = false := decide_eq_false (by omega)
  go_enter Try.func19, Try.ntmps19
  go_wp2
  go_loopw [10] (fun i wr => ∃ k : Nat, k ≤ n ∧ i = .int .i64 k ∧ wr = w ∧ Hid (∀ j, j < k → OrdAt xs j)) (fun i _ => n - (intOf i).toNat)
  case atStart => exact ⟨0, Nat.zero_le _, rfl, rfl, fun j hj => absurd hj (by omega)⟩
  case round =>
    obtain ⟨k, hk, rfl, rfl, hall⟩ := hrel
    by_cases hlt : k < n
    · obtain ⟨x, hx⟩ : ∃ x, xs[k]? = some x := ⟨_, List.getElem?_eq_getElem (by have := HN.out; omega)⟩
      obtain ⟨b, o, rfl, hc⟩ := HV.out.get hx
      have ck := hc k x hx
      have hlt' : (k : Int) < (n : Int) := by omega
      have HS : Hid (xs[k]? = some x) := hx
      have HT : Hid (VL fI wr (.slice (some ⟨b, o, none⟩) k cap) (xs.take k)) := vl_take HV.out k (by omega)
      clear hc hx
      cases K1 : inB x 0 11
      · have HF : Hid (R = false) := HNO.out (fun h => by have := ((ordAt_iff HS.out).1 (h.2 k (by have := HN.out; omega))).1; rw [K1] at this; cases this)
        go_wp2_with (go_at_call 20; refine (withinV _ _ _ _).mono ?_; rintro e w1 ⟨rfl, rfl⟩; rw [K1])
        go_ret
        exact ⟨by rw [HF.out]; rfl, rfl⟩
      cases K2 : decide (x ∈ xs.take k)
      · have HA : Hid (∀ j, j < k + 1 → OrdAt xs j) := fun j hj => by
          by_cases e : j = k
          · subst e
            exact (ordAt_iff HS.out).2 ⟨K1, of_decide_eq_false K2⟩
          · exact hall.out j (by omega)
        clear hall
        go_wp2_with (first | (go_at_call 20; refine (withinV _ _ _ _).mono ?_; rintro e w1 ⟨rfl, rfl⟩; rw [K1]) | (go_at_call 32; refine (containsIV _ _ _ _ HT.out).mono ?_; rintro e w1 ⟨rfl, rfl⟩; rw [K2]))
        go_roundw
        case rel => exact ⟨k + 1, by omega, by go_num, trivial, HA⟩
        case measure => simp [intOf]; omega
      · have HF : Hid (R = false) := HNO.out (fun h => ((ordAt_iff HS.out).1 (h.2 k (by have := HN.out; omega))).2 (of_decide_eq_true K2))
        go_wp2_with (first | (go_at_call 20; refine (withinV _ _ _ _).mono ?_; rintro e w1 ⟨rfl, rfl⟩; rw [K1]) | (go_at_call 32; refine (containsIV _ _ _ _ HT.out).mono ?_; rintro e w1 ⟨rfl, rfl⟩; rw [K2]))
        go_ret
        exact ⟨by rw [HF.out]; rfl, rfl⟩
    · have hkn : k = n := by omega
      subst hkn
      have HF : Hid (R = true) := HYE.out ⟨by have := HN.out; omega, fun i hi => hall.out i (by have := HN.out; omega)⟩
      go_wp2
      go_ret
      exact ⟨by rw [HF.out]; rfl, rfl⟩

end Go.Proofs.Ytmodliaieienfaa

namespace Go.Proofs.Ytmodliaieienfaa
open Go.RowKit

set_option maxHeartbeats 1000000 in
theorem seedOkV (s : Int) (w : World) : Calls Try.prog 16 #[.int .i64 s] w fun e w' => e = .returned (.bool (inB s 0 2147483647)) ∧ w' = w := by
  go_enter Try.func16, Try.ntmps16
  go_wp2_with fail
  refine (withinV _ _ _ _).mono ?_
  rintro e w1 ⟨rfl, rfl⟩
  go_wp2
  go_ret
  exact ⟨rfl, rfl⟩

theorem seed_no {s : Int} (h : s < 0 ∨ 2147483647 < s) : inB s 0 2147483647 = false := by
  unfold inB
  rcases h with h | h
  · rw [decide_eq_false (by omega)]; rfl
  · rw [decide_eq_false (p := s ≤ 2147483647) (by omega)]; simp
theorem seed_yes {s : Int} (h : ¬ (s < 0 ∨ 2147483647 < s)) : inB s 0 2147483647 = true := by
  unfold inB
  rw [decide_eq_true (by omega), decide_eq_true (p := s ≤ 2147483647) (by omega)]; rfl

set_option maxHeartbeats 1000000 in
theorem iMixV (s : Int) (w : World) (_h1 : -9223372036854775808 ≤ s) (_h2 : s ≤ 9223372036854775807) : Calls Try.prog 50 #[.int .i64 s] w fun e w' => e = .returned (.int .i64 (mixF s)) ∧ w' = w := by
  by_cases h : s < 0 ∨ 2147483647 < s
  · have HM : Hid (mixF s = 0) := if_pos h
    have h1 := seed_no h
    clear h
    go_enter Try.func50, Try.ntmps50
    go_wp2_with (go_at_call 16; refine (seedOkV _ _).mono ?_; rintro e w1 ⟨rfl, rfl⟩; rw [h1])
    go_ret
    exact ⟨by rw [HM.out]; rfl, rfl⟩
  · have HM : Hid (mixF s = (16807 * s + 11) % 2147483647) := by show _ = _; rw [Int.mul_comm]; exact if_neg h
    have h1 := seed_yes h
    have h0 : 0 ≤ s := by omega
    have h2 : s ≤ 2147483647 := by omega
    clear h
    go_enter Try.func50, Try.ntmps50
    go_wp2_with (go_at_call 16; refine (seedOkV _ _).mono ?_; rintro e w1 ⟨rfl, rfl⟩; rw [h1])
    go_ret
    exact ⟨by rw [HM.out]; rfl, rfl⟩

end Go.Proofs.Ytmodliaieienfaa

namespace Go.Proofs.Ytmodliaieienfaa
open Go.RowKit

/-- The seven tests of ProberOk, one behind the other. -/
theorem proP_iff (P : DPro) : ProP P ↔ (OrdB P.order ∧ inB P.next 0 P.order.length = true ∧ inB P.seed 0 2147483647 = true ∧ inB P.state 0 2 = true ∧ inB P.who 0 11 = true ∧ inB P.wait 0 4 = true ∧ (P.state ≠ 0 ∨ (P.who = 0 ∧ P.wait = 0))) := by
  unfold ProP OrdB inB
  simp only [Bool.and_eq_true, decide_eq_true_eq]
  constructor
  · rintro ⟨h1, h2, h3, h4, h5, h6, h7, h8⟩
    exact ⟨⟨h1, h7⟩, h2, h3, h4, ⟨h6.1, by omega⟩, h5, h8⟩
  · rintro ⟨⟨h1, h7⟩, h2, h3, h4, h6, h5, h8⟩
    exact ⟨h1, h2, h3, h4, h5, ⟨h6.1, by omega⟩, h7, h8⟩

set_option maxRecDepth 20000 in
set_option maxHeartbeats 4000000 in
theorem iProberOkV (v : Value) (P : DPro) (w : World) (h : VPro w v P) (_hn : P.order.length ≤ 1048576) :
    Calls Try.prog 8 #[v] w fun e w' => e = .returned (.bool (tB (ProP P))) ∧ Below w.heap.size w w' := by
  have hB : ∀ w : World, ∀ o, Below w.heap.size w (w.alloc o) := fun w o => (Below.refl _ w).alloc (Nat.le_refl _) _
  have hE : ∀ w : World, ∀ o, Ext w (w.alloc o) := fun w o => World.grownBy_alloc _ _ _
  obtain ⟨ov, rfl, ho⟩ := h
  obtain ⟨a, cap, rfl⟩ := vl_shape ho
  obtain ⟨n, hnn⟩ : ∃ n, n = P.order.length := ⟨_, rfl⟩
  have HV : Hid (VL fI w (.slice a n cap) P.order) := by rw [hnn]; exact ho
  obtain ⟨R, hR⟩ : ∃ R, R = tB (ProP P) := ⟨_, rfl⟩
  rw [← hR]
  have HI := proP_iff P
  rw [← hnn] at HI ⊢
  have HNO : Hid (¬ ProP P → R = false) := fun h => by rw [hR]; exact tB_false h
  have HYE : Hid (ProP P → R = true) := fun h => by rw [hR]; exact tB_true h
  rw [HI] at HNO HYE
  have hml : (n : Int) ≤ 1048576 := by omega
  clear ho hnn hR HI _hn
  obtain ⟨os, nx, sd, st, wh, wt⟩ := P
  simp only at HNO HYE HV ⊢
  go_enter Try.func8, Try.ntmps8
  cases t0 : tB (OrdB os)
  · have HK : Hid (R = false) := HNO.out (fun h => by have := tB_true h.1; rw [t0] at this; cases this)
    clear HNO HYE
    go_wp2_with (go_at_call 19; refine (orderOkV _ os _ (HV.out.ext (hE _ _))).mono ?_; rintro e w1 ⟨rfl, rfl⟩; rw [t0])
    go_ret
    exact ⟨by rw [HK.out]; rfl, hB _ _⟩
  cases t1 : inB nx 0 n
  · have HK : Hid (R = false) := HNO.out (fun h => by have := h.2.1; rw [t1] at this; cases this)
    clear HNO HYE
    go_wp2_with (first | (go_at_call 19; refine (orderOkV _ os _ (HV.out.ext (hE _ _))).mono ?_; rintro e w1 ⟨rfl, rfl⟩; rw [t0]) | (go_at_call 20; refine (withinV _ _ _ _).mono ?_; rintro e w1 ⟨rfl, rfl⟩; rw [t1]))
    go_ret
    exact ⟨by rw [HK.out]; rfl, hB _ _⟩
  cases t2 : inB sd 0 2147483647
  · have HK : Hid (R = false) := HNO.out (fun h => by have := h.2.2.1; rw [t2] at this; cases this)
    clear HNO HYE
    go_wp2_with (first | (go_at_call 19; refine (orderOkV _ os _ (HV.out.ext (hE _ _))).mono ?_; rintro e w1 ⟨rfl, rfl⟩; rw [t0]) | (go_at_call 20; refine (withinV _ _ _ _).mono ?_; rintro e w1 ⟨rfl, rfl⟩; rw [t1]) | (go_at_call 16; refine (seedOkV _ _).mono ?_; rintro e w1 ⟨rfl, rfl⟩; rw [t2]))
    go_ret
    exact ⟨by rw [HK.out]; rfl, hB _ _⟩
  cases t3 : inB st 0 2
  · have HK : Hid (R = false) := HNO.out (fun h => by have := h.2.2.2.1; rw [t3] at this; cases this)
    clear HNO HYE
    go_wp2_with (first | (go_at_call 19; refine (orderOkV _ os _ (HV.out.ext (hE _ _))).mono ?_; rintro e w1 ⟨rfl, rfl⟩; rw [t0]) | (go_at_call 20; refine (withinV _ _ _ _).mono ?_; rintro e w1 ⟨rfl, rfl⟩; rw [t1]) | (go_at_call 16; refine (seedOkV _ _).mono ?_; rintro e w1 ⟨rfl, rfl⟩; rw [t2]) | (go_at_call 20; refine (withinV _ _ _ _).mono ?_; rintro e w1 ⟨rfl, rfl⟩; rw [t3]))
    go_ret
    exact ⟨by rw [HK.out]; rfl, hB _ _⟩
  cases t4 : inB wh 0 11
  · have HK : Hid (R = false) := HNO.out (fun h => by have := h.2.2.2.2.1; rw [t4] at this; cases this)
    clear HNO HYE
    go_wp2_with (first | (go_at_call 19; refine (orderOkV _ os _ (HV.out.ext (hE _ _))).mono ?_; rintro e w1 ⟨rfl, rfl⟩; rw [t0]) | (go_at_call 20; refine (withinV _ _ _ _).mono ?_; rintro e w1 ⟨rfl, rfl⟩; rw [t1]) | (go_at_call 16; refine (seedOkV _ _).mono ?_; rintro e w1 ⟨rfl, rfl⟩; rw [t2]) | (go_at_call 20; refine (withinV _ _ _ _).mono ?_; rintro e w1 ⟨rfl, rfl⟩; rw [t3]) | (go_at_call 20; refine (withinV _ _ _ _).mono ?_; rintro e w1 ⟨rfl, rfl⟩; rw [t4]))
    go_ret
    exact ⟨by rw [HK.out]; rfl, hB _ _⟩
  cases t5 : inB wt 0 4
  · have HK : Hid (R = false) := HNO.out (fun h => by have := h.2.2.2.2.2.1; rw [t5] at this; cases this)
    clear HNO HYE
    go_wp2_with (first | (go_at_call 19; refine (orderOkV _ os _ (HV.out.ext (hE _ _))).mono ?_; rintro e w1 ⟨rfl, rfl⟩; rw [t0]) | (go_at_call 20; refine (withinV _ _ _ _).mono ?_; rintro e w1 ⟨rfl, rfl⟩; rw [t1]) | (go_at_call 16; refine (seedOkV _ _).mono ?_; rintro e w1 ⟨rfl, rfl⟩; rw [t2]) | (go_at_call 20; refine (withinV _ _ _ _).mono ?_; rintro e w1 ⟨rfl, rfl⟩; rw [t3]) | (go_at_call 20; refine (withinV _ _ _ _).mono ?_; rintro e w1 ⟨rfl, rfl⟩; rw [t4]) | (go_at_call 20; refine (withinV _ _ _ _).mono ?_; rintro e w1 ⟨rfl, rfl⟩; rw [t5]))
    go_ret
    exact ⟨by rw [HK.out]; rfl, hB _ _⟩
  have HOB : Hid (OrdB os) := tB_iff.1 t0
  have HALL : Hid (st ≠ 0 ∨ (wh = 0 ∧ wt = 0) → R = true) := fun h => HYE.out ⟨HOB.out, t1, t2, t3, t4, t5, h⟩
  have HNOT : Hid (¬ (st ≠ 0 ∨ (wh = 0 ∧ wt = 0)) → R = false) := fun h => HNO.out (fun h' => h h'.2.2.2.2.2.2)
  clear HNO HYE
  by_cases e1 : st = 0
  · have e1' : (st != 0) = false := by simp [e1]
    by_cases e2 : wh = 0
    · have e2' : (wh == 0) = true := by simp [e2]
      by_cases e3 : wt = 0
      · have e3' : (wt == 0) = true := by simp [e3]
        have HK : Hid (R = true) := HALL.out (.inr ⟨e2, e3⟩)
        clear e1 e2 e3
        go_wp2_with (first | (go_at_call 19; refine (orderOkV _ os _ (HV.out.ext (hE _ _))).mono ?_; rintro e w1 ⟨rfl, rfl⟩; rw [t0]) | (go_at_call 20; refine (withinV _ _ _ _).mono ?_; rintro e w1 ⟨rfl, rfl⟩; rw [t1]) | (go_at_call 16; refine (seedOkV _ _).mono ?_; rintro e w1 ⟨rfl, rfl⟩; rw [t2]) | (go_at_call 20; refine (withinV _ _ _ _).mono ?_; rintro e w1 ⟨rfl, rfl⟩; rw [t3]) | (go_at_call 20; refine (withinV _ _ _ _).mono ?_; rintro e w1 ⟨rfl, rfl⟩; rw [t4]) | (go_at_call 20; refine (withinV _ _ _ _).mono ?_; rintro e w1 ⟨rfl, rfl⟩; rw [t5]))
        go_ret
        exact ⟨by rw [HK.out]; rfl, hB _ _⟩
      · have e3' : (wt == 0) = false := by simp [e3]
        have HK : Hid (R = false) := HNOT.out (fun h => h.elim (fun h => h e1) (fun h => e3 h.2))
        clear e1 e2 e3
        go_wp2_with (first | (go_at_call 19; refine (orderOkV _ os _ (HV.out.ext (hE _ _))).mono ?_; rintro e w1 ⟨rfl, rfl⟩; rw [t0]) | (go_at_call 20; refine (withinV _ _ _ _).mono ?_; rintro e w1 ⟨rfl, rfl⟩; rw [t1]) | (go_at_call 16; refine (seedOkV _ _).mono ?_; rintro e w1 ⟨rfl, rfl⟩; rw [t2]) | (go_at_call 20; refine (withinV _ _ _ _).mono ?_; rintro e w1 ⟨rfl, rfl⟩; rw [t3]) | (go_at_call 20; refine (withinV _ _ _ _).mono ?_; rintro e w1 ⟨rfl, rfl⟩; rw [t4]) | (go_at_call 20; refine (withinV _ _ _ _).mono ?_; rintro e w1 ⟨rfl, rfl⟩; rw [t5]))
        go_ret
        exact ⟨by rw [HK.out]; rfl, hB _ _⟩
    · have e2' : (wh == 0) = false := by simp [e2]
      have HK : Hid (R = false) := HNOT.out (fun h => h.elim (fun h => h e1) (fun h => e2 h.1))
      clear e1 e2
      go_wp2_with (first | (go_at_call 19; refine (orderOkV _ os _ (HV.out.ext (hE _ _))).mono ?_; rintro e w1 ⟨rfl, rfl⟩; rw [t0]) | (go_at_call 20; refine (withinV _ _ _ _).mono ?_; rintro e w1 ⟨rfl, rfl⟩; rw [t1]) | (go_at_call 16; refine (seedOkV _ _).mono ?_; rintro e w1 ⟨rfl, rfl⟩; rw [t2]) | (go_at_call 20; refine (withinV _ _ _ _).mono ?_; rintro e w1 ⟨rfl, rfl⟩; rw [t3]) | (go_at_call 20; refine (withinV _ _ _ _).mono ?_; rintro e w1 ⟨rfl, rfl⟩; rw [t4]) | (go_at_call 20; refine (withinV _ _ _ _).mono ?_; rintro e w1 ⟨rfl, rfl⟩; rw [t5]))
      go_ret
      exact ⟨by rw [HK.out]; rfl, hB _ _⟩
  · have e1' : (st != 0) = true := by simp [e1]
    have HK : Hid (R = true) := HALL.out (.inl e1)
    clear e1
    go_wp2_with (first | (go_at_call 19; refine (orderOkV _ os _ (HV.out.ext (hE _ _))).mono ?_; rintro e w1 ⟨rfl, rfl⟩; rw [t0]) | (go_at_call 20; refine (withinV _ _ _ _).mono ?_; rintro e w1 ⟨rfl, rfl⟩; rw [t1]) | (go_at_call 16; refine (seedOkV _ _).mono ?_; rintro e w1 ⟨rfl, rfl⟩; rw [t2]) | (go_at_call 20; refine (withinV _ _ _ _).mono ?_; rintro e w1 ⟨rfl, rfl⟩; rw [t3]) | (go_at_call 20; refine (withinV _ _ _ _).mono ?_; rintro e w1 ⟨rfl, rfl⟩; rw [t4]) | (go_at_call 20; refine (withinV _ _ _ _).mono ?_; rintro e w1 ⟨rfl, rfl⟩; rw [t5]))
    go_ret
    exact ⟨by rw [HK.out]; rfl, hB _ _⟩

end Go.Proofs.Ytmodliaieienfaa

namespace Go.Proofs.Ytmodliaieienfaa
open Go.RowKit

set_option maxHeartbeats 1000000 in
theorem cloneIV (v : Value) (xs : List Int) (w : World) (h : VL fI w v xs) (hn : xs.length ≤ 1048576) :
    Calls Try.prog 36 #[v] w fun e w' => ∃ v', e = .returned v' ∧ OwI w' w.heap.size v' xs ∧ Below w.heap.size w w' := by
  obtain ⟨a, cap, rfl⟩ := vl_shape h
  obtain ⟨n, hnn⟩ : ∃ n, n = xs.length := ⟨_, rfl⟩
  rw [← hnn] at h ⊢
  have HN : Hid (n = xs.length) := hnn
  have HV : Hid (VL fI w (.slice a n cap) xs) := h
  have hn1 : (n : Int) ≤ 1048576 := by omega
  have hnl := fun w => Lib.run_eql_slice_nil (P := Try.prog) w 23 3 a n cap 0 0 Try.underlying23
  cases a with
  | none =>
    have h0 : xs = [] := by
      obtain ⟨a', cap', e, _, _, h3⟩ := h
      simp only [Value.slice.injEq] at e
      refine List.eq_nil_of_length_eq_zero ?_
      rcases Nat.eq_zero_or_pos xs.length with h' | h'
      · exact h'
      · obtain ⟨b, o, e', _⟩ := h3 h'
        rw [← e.1] at e'
        cases e'
    subst h0
    clear hnn h
    go_enter Try.func36, Try.ntmps36
    go_wp2
    go_ret
    exact ⟨_, rfl, World.ownsRow_nil _ _ _ _, Below.refl _ _⟩
  | some ad =>
    clear hnn h
    have HE : Hid (OwI (w.alloc (.cells #[] 3)) w.heap.size (.slice (some ⟨w.heap.size, 0, none⟩) 0 0) []) := World.ownsRow_lit w #[] 0 (Nat.le_refl _) (Nat.zero_le _) rfl
    go_enter Try.func36, Try.ntmps36
    go_wp2_with (at_builtin; refine wpList_append_il _ rfl (.tmp 5) (.tmp 6) rfl w.heap.size _ [] rfl HE.out (some ad) n cap xs rfl (HV.out.ext (World.grownBy_alloc _ _ _)) (by have := HN.out; simp; omega) (by simp) ?_; intro v1 w1 hown1 hg1)
    go_ret
    refine ⟨_, rfl, hown1, ?_⟩
    exact ((Below.refl _ _).alloc (Nat.le_refl _) _).grown hg1 (by simp) (fun k hk => by cases hk; exact Nat.le_refl _)

end Go.Proofs.Ytmodliaieienfaa

namespace Go.Proofs.Ytmodliaieienfaa
open Go.RowKit

set_option maxHeartbeats 2000000 in
theorem copyPV (v : Value) (P : DPro) (w : World) (h : VPro w v P) (hl : P.order.length ≤ 1048576) :
    Calls Try.prog 22 #[v] w fun e w' => ∃ tv, e = .returned (.agg #[tv, .int .i64 P.next, .int .i64 P.seed, .int .i64 P.state, .int .i64 P.who, .int .i64 P.wait]) ∧ OwI w' w.heap.size tv P.order ∧ Below w.heap.size w w' := by
  obtain ⟨ov, rfl, ho⟩ := h
  obtain ⟨a, cap, rfl⟩ := vl_shape ho
  obtain ⟨n, hnn⟩ : ∃ n, n = P.order.length := ⟨_, rfl⟩
  have HV : Hid (VL fI w (.slice a n cap) P.order) := by rw [hnn]; exact ho
  have HN : Hid (n = P.order.length) := hnn
  rw [← hnn] at hl ⊢
  clear ho hnn
  obtain ⟨os, nx, sd, st, wh, wt⟩ := P
  simp only at HV HN ⊢
  go_enter Try.func22, Try.ntmps22
  go_upto_region 1 with fail
  generalize hW : World.alloc (World.alloc w _) _ = W
  have XW : Ext w W := by rw [← hW]; exact Ext.tr (World.grownBy_alloc w _ none) (World.grownBy_alloc _ _ none)
  have P0 : W.heap[w.heap.size]? = some (.cells #[.slice a n cap, .int .i64 nx, .int .i64 sd, .int .i64 st, .int .i64 wh, .int .i64 wt] 25 (0, 0)) := by rw [← hW, Below.heap_alloc _ _ _ (by simp)]; exact heap_alloc_new w _
  have P1 : W.heap[w.heap.size + 1]? = some (.cells #[.slice none 0 0, .int .i64 0, .int .i64 0, .int .i64 0, .int .i64 0, .int .i64 0] 25 (0, 0)) := by rw [← hW]; simpa using heap_alloc_new (World.alloc w _) (.cells #[.slice none 0 0, .int .i64 0, .int .i64 0, .int .i64 0, .int .i64 0, .int .i64 0] 25 (0, 0))
  have sW : w.heap.size + 1 < W.heap.size := (Array.getElem?_eq_some_iff.1 P1).1
  clear hW
  have HP : Hid (W.heap[w.heap.size]? = some (.cells #[.slice a n cap, .int .i64 nx, .int .i64 sd, .int .i64 st, .int .i64 wh, .int .i64 wt] 25 (0, 0)) ∧ W.heap[w.heap.size + 1]? = some (.cells #[.slice none 0 0, .int .i64 0, .int .i64 0, .int .i64 0, .int .i64 0, .int .i64 0] 25 (0, 0))) := ⟨P0, P1⟩
  obtain ⟨x0, f0⟩ := at_block P0 0 _ rfl
  clear P0 P1
  go_wp2_with fail
  refine (cloneIV _ os W (HV.out.ext XW) (by have := HN.out; omega)).mono ?_
  rintro e w1 ⟨v1, rfl, O1, b1⟩
  obtain ⟨a1, c1, hv1⟩ : ∃ a1 c1, v1 = .slice a1 n c1 := (by have := O1.shape; rw [← HN.out] at this; exact this)
  subst hv1
  have X1 : Ext W w1 := ext_below b1
  obtain ⟨z0, y0⟩ := at_block (ext_blk X1 HP.out.1) 0 _ rfl
  clear x0 f0 b1
  go_upto_region 2 with fail
  have Q0 : (w1.setCell ⟨w.heap.size, 0, none⟩ (.slice a1 n c1)).heap[w.heap.size]? = some (.cells #[.slice a1 n c1, .int .i64 nx, .int .i64 sd, .int .i64 st, .int .i64 wh, .int .i64 wt] 25 (0, 0)) := set_block (ext_blk X1 HP.out.1) 0 _
  have Q1 : (w1.setCell ⟨w.heap.size, 0, none⟩ (.slice a1 n c1)).heap[w.heap.size + 1]? = some (.cells #[.slice none 0 0, .int .i64 0, .int .i64 0, .int .i64 0, .int .i64 0, .int .i64 0] 25 (0, 0)) := set_other _ _ _ (by omega) (ext_blk X1 HP.out.2)
  have nb : ∀ b, b < W.heap.size → (Value.slice a1 n c1).ownBlock = none ∨ (Value.slice a1 n c1).ownBlock ≠ some b := fun b hb => by
    cases hv : (Value.slice a1 n c1).ownBlock with
    | none => exact .inl rfl
    | some k => exact .inr (by have := (O1.lt k hv).1; simp; omega)
  have OO : OwI (w1.setCell ⟨w.heap.size, 0, none⟩ (.slice a1 n c1)) W.heap.size (.slice a1 n c1) os := O1.keep (set_grown _ _ _ _) (nb _ (by omega))
  have BB : Below w.heap.size w (w1.setCell ⟨w.heap.size, 0, none⟩ (.slice a1 n c1)) := (ext_bel (XW.tr X1)).setCell (Nat.le_refl _) _
  have hsW : w.heap.size ≤ W.heap.size := by omega
  have NB := nb (w.heap.size + 1) (by omega)
  generalize w1.setCell ⟨w.heap.size, 0, none⟩ (.slice a1 n c1) = U at Q0 Q1 OO BB ⊢
  have HOO : Hid (OwI U W.heap.size (.slice a1 n c1) os) := OO
  have HBB : Hid (Below w.heap.size w U) := BB
  clear z0 y0 X1 O1 nb OO BB
  obtain ⟨p0, p1, p2, p3, p4, p5⟩ := cells6 Q0
  obtain ⟨r0, f0⟩ := at_block Q1 0 _ rfl
  obtain ⟨r1, f1⟩ := at_block Q1 1 _ rfl
  obtain ⟨r2, f2⟩ := at_block Q1 2 _ rfl
  obtain ⟨r3, f3⟩ := at_block Q1 3 _ rfl
  obtain ⟨r4, f4⟩ := at_block Q1 4 _ rfl
  obtain ⟨r5, f5⟩ := at_block Q1 5 _ rfl
  clear Q0 Q1
  go_wp2
  refine bodyPost_ret (v := .agg #[.slice a1 n c1, .int .i64 nx, .int .i64 sd, .int .i64 st, .int .i64 wh, .int .i64 wt]) (by simp [results, Try.results22, go_sem, *]) rfl ?_
  exact ⟨_, rfl, (pro_own HOO.out NB _ _ _ _ _ _).base hsW, pro_below HBB.out (Nat.le_succ _) _ _ _ _ _ _⟩

end Go.Proofs.Ytmodliaieienfaa

namespace Go.Proofs.Ytmodliaieienfaa
open Go.RowKit

/-- A row's beginning, and stores behind it. -/
theorem OwI.head {w : World} {base g cap n : Nat} {ys : List Int} (h : OwI w base (.slice (some ⟨g, 0, none⟩) n cap) ys) (hn : n = ys.length) (i : Nat) (hi : i ≤ n) : OwI w base (.slice (some ⟨g, 0, none⟩) i cap) (ys.take i) := by
  have hil : (ys.take i).length = i := by rw [List.length_take]; omega
  unfold OwI at h ⊢
  rw [hil]
  rw [← hn] at h
  obtain ⟨h1, h2⟩ := h
  refine ⟨by simp; omega, .inr ?_⟩
  rcases h2 with ⟨e, _⟩ | ⟨g', c', cur, e, hb, hg, hc, hm, hs, ht⟩
  · cases e
  · simp only [Value.slice.injEq, Option.some.injEq, Addr.mk.injEq] at e
    obtain ⟨⟨rfl, _⟩, _, rfl⟩ := e
    refine ⟨_, _, cur, rfl, hb, hg, by omega, hm, hs, ?_⟩
    rw [List.map_take, ← ht, List.take_take]
    congr 1
    omega
theorem OwI.tail {w : World} {base g cap i : Nat} {zs : List Int} (h : OwI w base (.slice (some ⟨g, 0, none⟩) i cap) zs) (j : Nat) (hj : i ≤ j) (v : Value) : OwI (w.setCell ⟨g, j, none⟩ v) base (.slice (some ⟨g, 0, none⟩) i cap) zs := by
  unfold OwI at h ⊢
  obtain ⟨h1, h2⟩ := h
  refine ⟨h1, .inr ?_⟩
  rcases h2 with ⟨e, _⟩ | ⟨g', c', cur, e, hb, hg, hc, hm, hs, ht⟩
  · cases e
  · simp only [Value.slice.injEq, Option.some.injEq, Addr.mk.injEq] at e
    obtain ⟨⟨rfl, _⟩, hzi, rfl⟩ := e
    refine ⟨_, _, cur.setIfInBounds j v, by rw [hzi], hb, set_block hg j v, hc, hm, by rw [Array.size_setIfInBounds]; exact hs, ?_⟩
    rw [Array.toList_setIfInBounds, List.take_set_of_le (by omega)]
    exact ht
theorem OwI.tails {base g cap i : Nat} {zs : List Int} : ∀ (vs : List Value) (j : Nat) (w : World), OwI w base (.slice (some ⟨g, 0, none⟩) i cap) zs → i ≤ j → OwI (w.setCells g j vs) base (.slice (some ⟨g, 0, none⟩) i cap) zs ∧ w.grownBy (w.setCells g j vs) (some g)
  | [], _, w, h, _ => ⟨h, World.grownBy.refl _ _⟩
  | v :: r, j, w, h, hj => by
    have := OwI.tails r (j + 1) (w.setCell ⟨g, j, none⟩ v) (h.tail j hj v) (by omega)
    exact ⟨this.1, (set_grown _ _ _ _).trans this.2⟩

set_option maxHeartbeats 1000000 in
theorem isOneV (x y : Int) (g : Nat) (w : World) (hg : w.cell? ⟨g, 0, none⟩ = some (.int .i64 y)) : Calls Try.prog 52 #[.int .i64 x, .pointer (some ⟨g, 0, none⟩)] w fun e w' => e = .returned (.bool (x == y)) ∧ w' = w := by
  go_enter Try.func52, Try.ntmps52
  go_wp2
  go_ret
  exact ⟨rfl, rfl⟩

/-- Where a number lies first. -/
def PlaceP (xs : List Int) (y r : Int) : Prop := (r = -1 ∧ ∀ (j : Nat) z, xs[j]? = some z → z ≠ y) ∨ ∃ k : Nat, r = k ∧ xs[k]? = some y ∧ ∀ (j : Nat) z, j < k → xs[j]? = some z → z ≠ y

set_option maxHeartbeats 2000000 in
theorem indexOneV (v : Value) (xs : List Int) (y : Int) (g : Nat) (w : World) (h : VL fI w v xs) (hg : w.cell? ⟨g, 0, none⟩ = some (.int .i64 y)) :
    Calls Try.prog 59 #[v, .func (.func 52) #[] #[.pointer (some ⟨g, 0, none⟩)]] w fun e w' => (∃ r : Int, e = .returned (.int .i64 r) ∧ PlaceP xs y r) ∧ w' = w := by
  obtain ⟨a, cap, rfl, h1, h2, h3⟩ := h
  obtain ⟨n, hnn⟩ : ∃ n, n = xs.length := ⟨_, rfl⟩
  rw [← hnn] at h1 h3 ⊢
  have HN : Hid (n = xs.length) := hnn
  clear hnn
  unfold maxLen at h2
  have H3 : Hid (0 < n → ∃ b o, a = some ⟨b, o, none⟩ ∧ b < w.heap.size ∧ ∀ (i : Nat) (x : Int), xs[i]? = some x → w.cell? ⟨b, o + i, none⟩ = some (fI x)) := h3
  clear h3
  go_enter Try.func59, Try.ntmps59
  go_wp2
  go_loopw [8] (fun i wr => ∃ k : Nat, k ≤ n ∧ i = .int .i64 k ∧ wr = w ∧ Hid (∀ (j : Nat) z, j < k → xs[j]? = some z → z ≠ y)) (fun i _ => n - (intOf i).toNat)
  case atStart => exact ⟨0, Nat.zero_le _, rfl, rfl, fun j y hj => absurd hj (by omega)⟩
  case round =>
    obtain ⟨k, hk, rfl, rfl, hall⟩ := hrel
    by_cases hlt : k < n
    · obtain ⟨b, o, rfl, hbl, hc⟩ := H3.out (by omega)
      obtain ⟨x, hx⟩ : ∃ x, xs[k]? = some x := ⟨_, List.getElem?_eq_getElem (by have := HN.out; omega)⟩
      have hck : wr.cell? ⟨b, o + k, none⟩ = some (.int .i64 x) := hc k x hx
      have hlt' : (k : Int) < (n : Int) := by omega
      have HS : Hid (xs[k]? = some x) := hx
      clear hc hx
      cases K1 : (x == y)
      case true =>
        have HF : Hid (xs[k]? = some y) := by rw [← eq_of_beq K1]; exact HS.out
        go_wp2_with (go_at_call 52; refine (isOneV x y g _ hg).mono ?_; rintro e w2 ⟨rfl, rfl⟩; rw [K1])
        go_ret
        exact ⟨⟨k, rfl, .inr ⟨k, rfl, HF.out, hall.out⟩⟩, rfl⟩
      case false =>
        have HA : Hid (∀ (j : Nat) z, j < k + 1 → xs[j]? = some z → z ≠ y) := fun j z hj hz => by
          by_cases e : j = k
          · subst e
            rw [HS.out] at hz
            cases hz
            exact fun e => by rw [e] at K1; simp at K1
          · exact hall.out j z (by omega) hz
        clear hall
        go_wp2_with (go_at_call 52; refine (isOneV x y g _ hg).mono ?_; rintro e w2 ⟨rfl, rfl⟩; rw [K1])
        go_roundw
        case rel => exact ⟨k + 1, by omega, by go_num, trivial, HA⟩
        case measure => simp [intOf]; omega
    · have hkn : k = n := by omega
      subst hkn
      go_wp2
      go_ret
      exact ⟨⟨-1, rfl, .inl ⟨rfl, fun j z hz => hall.out j z (by have := (List.getElem?_eq_some_iff.1 hz).1; have := HN.out; omega) hz⟩⟩, rfl⟩

theorem except_same {xs : List Int} {y : Int} (h : ∀ (j : Nat) z, xs[j]? = some z → z ≠ y) : exceptL xs y = xs := by
  unfold exceptL
  rw [List.filter_eq_self]
  intro z hz
  obtain ⟨j, hj⟩ := List.getElem?_of_mem hz
  simpa using h j z hj
theorem except_first {xs : List Int} {y : Int} {k : Nat} (h : ∀ (j : Nat) z, j < k → xs[j]? = some z → z ≠ y) : exceptL (xs.take k) y = xs.take k := except_same (fun j z hz => by
  rw [List.getElem?_take] at hz
  split at hz
  · exact h j z ‹_› hz
  · cases hz)
theorem zero3 (w : World) : (zeroValue 3).run Try.prog w = .ok (.int .i64 0) w := by kernel_rfl

set_option maxRecDepth 20000 in
set_option maxHeartbeats 4000000 in
theorem deleteOneV (v : Value) (xs : List Int) (y : Int) (gy base : Nat) (w : World) (h : OwI w base v xs) (hg : w.cell? ⟨gy, 0, none⟩ = some (.int .i64 y)) (hgy : v.ownBlock = none ∨ v.ownBlock ≠ some gy) (hn : xs.length ≤ 1048576) :
    Calls Try.prog 51 #[v, .func (.func 52) #[] #[.pointer (some ⟨gy, 0, none⟩)]] w fun e w' => ∃ v', e = .returned v' ∧ OwI w' base v' (exceptL xs y) ∧ w.grownBy w' v.ownBlock := by
  obtain ⟨a, cap, hv⟩ := h.shape
  obtain ⟨n, hnn⟩ : ∃ n, n = xs.length := ⟨_, rfl⟩
  rw [← hnn] at hv hn
  subst hv
  have HO : Hid (OwI w base (.slice a n cap) xs) := h
  have HN : Hid (n = xs.length) := hnn
  have HV : Hid (VL fI w (.slice a n cap) xs) := h.vl
  have hn1 : (n : Int) ≤ 1048576 := by omega
  clear hnn h
  go_enter Try.func51, Try.ntmps51
  go_wp2_with fail
  refine (indexOneV _ xs y gy w HV.out hg).mono ?_
  rintro e w1 ⟨⟨r, rfl, hp⟩, hw⟩
  have hw' := hw.symm
  clear hw
  subst hw'
  rcases hp with ⟨rfl, hno⟩ | ⟨k, rfl, hk, hfst⟩
  · have HE : Hid (exceptL xs y = xs) := except_same hno
    clear hno
    go_wp2
    go_ret
    exact ⟨_, rfl, by rw [HE.out]; exact HO.out, World.grownBy.refl _ _⟩
  have hkn : k < n := by have := (List.getElem?_eq_some_iff.1 hk).1; have := HN.out; omega
  obtain ⟨g, hgg⟩ : ∃ g, a = some ⟨g, 0, none⟩ := by
    rcases HO.out.2 with ⟨h0, _⟩ | ⟨g, c, cur, hv, _⟩
    · simp only [Value.slice.injEq] at h0; omega
    · simp only [Value.slice.injEq] at hv; exact ⟨g, hv.1⟩
  subst hgg
  have hcap : n ≤ cap ∧ cap ≤ 9223372036854775807 := by
    rcases HO.out.2 with ⟨h0, _⟩ | ⟨g', c, cur, hv, _, _, h1, h2, _⟩
    · cases h0
    · simp only [Value.slice.injEq] at hv
      unfold maxLen at h2
      have := HN.out
      omega
  obtain ⟨hc1, hc2⟩ := hcap
  have hne : gy ≠ g := by
    rcases hgy with h | h
    · cases h
    · intro e; exact h (by rw [e]; rfl)
  have hk1 : ((k : Int) == -1) = false := by simp
  have HK0 : Hid (k = (exceptL (xs.take (k + 1)) y).length ∧ (xs.take k) = exceptL (xs.take (k + 1)) y) := by
    rw [except_take hk, if_pos rfl, List.append_nil, except_first hfst]
    exact ⟨by rw [List.length_take]; have := HN.out; omega, rfl⟩
  clear hk hfst hgy
  go_wp2
  go_loopw [5, 6] (fun iv jv wr => ∃ (i j : Nat) (ys : List Int), iv = .int .i64 i ∧ jv = .int .i64 j ∧ i < j ∧ j ≤ n ∧ Hid (n = ys.length) ∧ Hid (ys.take i = exceptL (xs.take j) y) ∧ Hid (∀ q, j ≤ q → ys[q]? = xs[q]?) ∧ Hid (OwI wr base (.slice (some ⟨g, 0, none⟩) n cap) ys) ∧ Hid (w.grownBy wr (some g))) (fun _ jv _ => n - (intOf jv).toNat)
  case atStart => exact ⟨k, k + 1, xs, rfl, by go_num, by omega, by omega, HN, HK0.out.2, fun q _ => rfl, HO, World.grownBy.refl _ _⟩
  case round =>
    obtain ⟨i, j, ys, rfl, rfl, hij, hjn, hyl, htk, hrest, hO, hG⟩ := hrel
    have hgw : wr.cell? ⟨gy, 0, none⟩ = some (.int .i64 y) := World.grownBy.cell hG.out hg (by simpa using hne)
    by_cases hlt : j < n
    · obtain ⟨x, hx⟩ : ∃ x, xs[j]? = some x := ⟨_, List.getElem?_eq_getElem (by have := HN.out; omega)⟩
      obtain ⟨cj, _⟩ := hO.out.get hyl.out j hlt
      have hyx : ys.getD j 0 = x := by rw [List.getD_eq_getElem?_getD, hrest.out j (Nat.le_refl _), hx]; rfl
      rw [hyx] at cj
      have hlt' : (j : Int) < (n : Int) := by omega
      have hin : (i : Int) < (n : Int) := by omega
      have hin' : i < n := by omega
      obtain ⟨ci, fi⟩ := hO.out.get hyl.out i hin'
      cases K1 : (x == y)
      · have HT : Hid (∀ zs : List Int, zs = ys.set i x → zs.take (i + 1) = exceptL (xs.take (j + 1)) y) := fun zs hz => by
          rw [hz, except_take hx, if_neg (fun e => by rw [e] at K1; simp at K1), ← htk.out, List.take_add_one, List.getElem?_set_self (by have := hyl.out; omega), List.take_set_of_le (Nat.le_refl _)]
          rfl
        have HR2 : Hid (∀ q, j + 1 ≤ q → (ys.set i x)[q]? = xs[q]?) := fun q hq => by rw [List.getElem?_set_ne (by omega)]; exact hrest.out q (by omega)
        obtain ⟨O2, G2⟩ := hO.out.put hyl.out i x
        have HO2 : Hid (OwI (wr.setCell ⟨g, i, none⟩ (.int .i64 x)) base (.slice (some ⟨g, 0, none⟩) n cap) (ys.set i x)) := O2
        have HG2 : Hid (w.grownBy (wr.setCell ⟨g, i, none⟩ (.int .i64 x)) (some g)) := hG.out.trans G2
        have HL2 : Hid (n = (ys.set i x).length) := by show _ = _; rw [List.length_set]; exact hyl.out
        clear O2 G2 hyx hx
        go_wp2_with (go_at_call 52; refine (isOneV x y gy _ hgw).mono ?_; rintro e w2 ⟨rfl, rfl⟩; rw [K1])
        go_roundw
        case rel => exact ⟨i + 1, j + 1, ys.set i x, by go_num, by go_num, by omega, by omega, HL2, HT.out _ rfl, HR2, HO2, HG2⟩
        case measure => simp [intOf]; omega
      · have HT : Hid (ys.take i = exceptL (xs.take (j + 1)) y) := by
          show _ = _
          rw [except_take hx, if_pos (eq_of_beq K1), List.append_nil]
          exact htk.out
        have HR2 : Hid (∀ q, j + 1 ≤ q → ys[q]? = xs[q]?) := fun q hq => hrest.out q (by omega)
        clear hyx hx
        go_wp2_with (go_at_call 52; refine (isOneV x y gy _ hgw).mono ?_; rintro e w2 ⟨rfl, rfl⟩; rw [K1])
        go_roundw
        case rel => exact ⟨i, j + 1, ys, rfl, by go_num, by omega, by omega, hyl, HT, HR2, hO, hG⟩
        case measure => simp [intOf]; omega
    · have hjn' : j = n := by omega
      subst hjn'
      have hcl : ∀ ty, (Builtin.clear_ #[23] ty #[.slice (some ⟨g, i, none⟩) (j - i) (cap - i)]).run Try.prog wr = .ok (.tuple #[]) (wr.setCells g i (List.replicate (j - i) (.int .i64 0))) := fun ty => Lib.run_clear_slice wr _ 3 ty _ Try.underlying23 zero3 rfl rfl g i _ _ (by omega) (fun q hq => by rw [(hO.out.get hyl.out (i + q) (by omega)).1]; rfl) (fun q hq => (hO.out.get hyl.out (i + q) (by omega)).2)
      have hci : i ≤ cap := by omega
      have HF : Hid (OwI (wr.setCells g i (List.replicate (j - i) (.int .i64 0))) base (.slice (some ⟨g, 0, none⟩) i cap) (exceptL xs y) ∧ wr.grownBy (wr.setCells g i (List.replicate (j - i) (.int .i64 0))) (some g)) := by
        have h1 := hO.out.head hyl.out i (by omega)
        rw [htk.out, HN.out, List.take_length] at h1
        exact OwI.tails _ _ _ h1 (Nat.le_refl _)
      have HF2 : Hid (w.grownBy (wr.setCells g i (List.replicate (j - i) (.int .i64 0))) (some g)) := hG.out.trans HF.out.2
      generalize wr.setCells g i (List.replicate (j - i) (.int .i64 0)) = WF at *
      go_wp2
      go_ret
      exact ⟨_, rfl, HF.out.1, HF2.out⟩

set_option maxHeartbeats 2000000 in
theorem withoutV (v : Value) (xs : List Int) (y : Int) (base : Nat) (w : World) (h : OwI w base v xs) (hn : xs.length ≤ 1048576) :
    Calls Try.prog 39 #[v, .int .i64 y] w fun e w' => ∃ v', e = .returned v' ∧ OwI w' base v' (exceptL xs y) ∧ w.grownBy w' v.ownBlock := by
  have HO : Hid (OwI w base v xs) := h
  have HNB : Hid (v.ownBlock = none ∨ v.ownBlock ≠ some w.heap.size) := by
    cases hv : v.ownBlock with
    | none => exact .inl rfl
    | some k => exact .inr (by have := (World.ownsRow.lt h k hv).2; simp; omega)
  obtain ⟨a, cap, rfl⟩ := h.shape
  obtain ⟨n, hnn⟩ : ∃ n, n = xs.length := ⟨_, rfl⟩
  rw [← hnn] at HO HNB ⊢
  clear hnn h
  go_enter Try.func39, Try.ntmps39
  go_wp2_with fail
  refine (deleteOneV _ xs y w.heap.size base _ (HO.out.ext (World.grownBy_alloc _ _ _)) (cell_of_row _ w.heap.size 0 _ _ (0, 0) (heap_alloc_new w _)) HNB.out hn).mono ?_
  rintro e w2 ⟨v', rfl, o2, g2⟩
  have HG : Hid (w.grownBy w2 (Value.slice a n cap).ownBlock) := ⟨g2.os, g2.tape, g2.output, Nat.le_trans (by simp) g2.size, fun k hk hne => (g2.block k (by simp; omega) hne).trans (Below.heap_alloc _ _ _ hk)⟩
  have HO2 : Hid (OwI w2 base v' (exceptL xs y)) := o2
  obtain ⟨a2, c2, rfl⟩ := o2.shape
  clear g2 o2
  go_wp2
  go_ret
  exact ⟨_, rfl, HO2.out, HG.out⟩

end Go.Proofs.Ytmodliaieienfaa

namespace Go.Proofs.Ytmodliaieienfaa
open Go.RowKit

set_option maxRecDepth 20000 in
set_option maxHeartbeats 4000000 in
theorem iLiveV (v : Value) (T : DTab) (w : World) (h : VTab w v T) (hn : T.mems.length ≤ 1048576) :
    Calls Try.prog 9 #[v] w fun e w' => ∃ lv, e = .returned lv ∧ OwI w' w.heap.size lv (liveD T) ∧ Below w.heap.size w w' := by
  have hE : ∀ w : World, ∀ o, Ext w (w.alloc o) := fun w o => World.grownBy_alloc _ _ _
  have hB : ∀ w : World, ∀ o, Below w.heap.size w (w.alloc o) := fun w o => (Below.refl _ w).alloc (Nat.le_refl _) _
  have HT : Hid (VTab w v T) := h
  have HN : Hid (T.mems.length ≤ 1048576) := hn
  obtain ⟨tv, rfl, h⟩ := h
  obtain ⟨a, cap, rfl⟩ := h.shape
  obtain ⟨n, hnn⟩ : ∃ n, n = T.mems.length := ⟨_, rfl⟩
  have HNN : Hid (n = T.mems.length) := hnn
  rw [← hnn] at HT h ⊢
  have HV : Hid (VMem w (.slice a n cap) T.mems) := h
  have hml : (n : Int) ≤ 1048576 := by omega
  clear h hnn hn
  go_enter Try.func9, Try.ntmps9
  go_wp2_with fail
  refine (iTableOkV _ T _ (HT.out.ext (hE _ _)) HN.out).mono ?_
  rintro e w1 ⟨rfl, b1⟩
  have B1 := (hB w _).trans (b1.mono (by simp))
  have PA1 := below_blk b1 (by simp) (heap_alloc_new w _)
  clear b1
  obtain ⟨q0, q1⟩ := cells2 PA1
  cases t0 : tB (TabP T)
  · have HK : Hid (liveD T = []) := liveD_no (fun h' => by rw [tB_true h'] at t0; cases t0)
    clear t0
    go_wp2
    go_ret
    refine ⟨_, rfl, ?_, B1⟩
    rw [HK.out]
    exact World.ownsRow_nil _ _ _ _
  have HTP : Hid (TabP T) := tB_iff.1 t0
  clear t0
  have HPA : Hid (w1.heap[w.heap.size]? = some (.cells #[.int .i64 T.self, .slice a n cap] 28 (0, 0))) := PA1
  go_wp2
  go_loopw [3, 12] (fun lv i wr => ∃ k : Nat, k ≤ n ∧ i = .int .i64 k ∧ ∃ xs, Hid (xs = liveL (T.mems.take k)) ∧ xs.length ≤ k ∧ Hid (OwI wr w.heap.size lv xs) ∧ Below w.heap.size w wr ∧ Hid (wr.heap[w.heap.size]? = some (.cells #[.int .i64 T.self, .slice a n cap] 28 (0, 0)))) (fun _ i _ => n - (intOf i).toNat)
  case atStart => exact ⟨0, Nat.zero_le _, rfl, [], by show _ = _; simp [liveL], Nat.le_refl _, World.ownsRow_nil _ _ _ _, B1, HPA⟩
  case round =>
    obtain ⟨k, hk, rfl, xs, hxs, hxl, ho, hb, hbx⟩ := hrel
    clear q0 q1 PA1 B1 HPA
    obtain ⟨q0, q1⟩ := cells2 hbx.out
    obtain ⟨la, lc, rfl⟩ := ho.out.shape
    by_cases hlt : k < n
    · obtain ⟨s, hs⟩ : ∃ s, T.mems[k]? = some s := ⟨_, List.getElem?_eq_getElem (by have := HNN.out; omega)⟩
      obtain ⟨b, o, rfl, c0, c1, c2⟩ := HV.out.at (ext_below hb) hs
      have hlt' : (k : Int) < (n : Int) := by omega
      have HNX := liveL_next hs
      rw [← hxs.out] at HNX
      have hst : 0 ≤ s.st := by
        have := (HTP.out.2.1 k (by have := HNN.out; omega) s hs).1
        simp only [memB, Bool.and_eq_true, decide_eq_true_eq] at this
        exact this.1.1.1.2
      have HNX' : Hid (liveL (T.mems.take (k + 1)) = xs ++ (if s.st ≤ 1 then [s.id] else [])) := HNX
      clear HNX
      have sz := hb.size
      have hBV : ∀ ob, Below w.heap.size w (wr.alloc ob) := fun ob => hb.alloc hb.size _
      have hbxV : ∀ ob, (wr.alloc ob).heap[w.heap.size]? = some (.cells #[.int .i64 T.self, .slice (some ⟨b, o, none⟩) n cap] 28 (0, 0)) := fun ob => ext_blk (hE wr ob) hbx.out
      have HOV : Hid (∀ ob, OwI (wr.alloc ob) w.heap.size (.slice la xs.length lc) xs) := fun ob => ho.out.ext (hE _ _)
      have HST : Hid (0 ≤ s.st) := hst
      clear hst
      go_upto_region 7 with fail
      have y0 : (wr.alloc (.cells #[.int .i64 s.id, .int .i64 s.st, .int .i64 s.life] 40 (0, 0))).cell? ⟨wr.heap.size, 0, none⟩ = some (.int .i64 s.id) := (cells3 (heap_alloc_new wr _)).1
      have y1 : (wr.alloc (.cells #[.int .i64 s.id, .int .i64 s.st, .int .i64 s.life] 40 (0, 0))).cell? ⟨wr.heap.size, 1, none⟩ = some (.int .i64 s.st) := (cells3 (heap_alloc_new wr _)).2.1
      have BV := hBV (.cells #[.int .i64 s.id, .int .i64 s.st, .int .i64 s.life] 40 (0, 0))
      have BX := hbxV (.cells #[.int .i64 s.id, .int .i64 s.st, .int .i64 s.life] 40 (0, 0))
      have OV := HOV.out (.cells #[.int .i64 s.id, .int .i64 s.st, .int .i64 s.life] 40 (0, 0))
      generalize wr.alloc (.cells #[.int .i64 s.id, .int .i64 s.st, .int .i64 s.life] 40 (0, 0)) = V at y0 y1 BV BX OV ⊢
      have HBV : Hid (Below w.heap.size w V) := BV
      have HBX : Hid (V.heap[w.heap.size]? = some (.cells #[.int .i64 T.self, .slice (some ⟨b, o, none⟩) n cap] 28 (0, 0))) := BX
      have HOW : Hid (OwI V w.heap.size (.slice la xs.length lc) xs) := OV
      clear c0 c1 c2 hBV hbxV HOV BV BX OV q0 q1
      by_cases e1 : s.st ≤ 1
      case neg =>
        have HX : Hid (xs = liveL (T.mems.take (k + 1))) := by show _ = _; rw [HNX'.out, if_neg e1, List.append_nil]
        have d0 : (s.st == 0) = false := by have : s.st ≠ 0 := by omega
                                            simpa using this
        have d1 : (s.st == 1) = false := by have : s.st ≠ 1 := by omega
                                            simpa using this
        clear HNX' e1
        go_wp2
        go_roundw
        case rel => exact ⟨k + 1, by omega, by go_num, xs, HX, by omega, HOW, HBV.out, HBX⟩
        case measure => simp [intOf]; omega
      have HX : Hid (xs ++ [s.id] = liveL (T.mems.take (k + 1))) := by show _ = _; rw [HNX'.out, if_pos e1]
      have kc : ∀ z, (V.alloc (.cells #[.int .i64 z] 3 (0, 0))).cell? ⟨V.heap.size, 0, none⟩ = some (.int .i64 z) := fun z => (at_block (heap_alloc_new V _) 0 _ rfl).1
      have sV := HBV.out.size
      have HOA : Hid (OwI (V.alloc (.cells #[.int .i64 s.id] 3 (0, 0))) w.heap.size (.slice la xs.length lc) xs) := HOW.out.ext (hE _ _)
      have HFIN : Hid (∀ v' w', OwI w' w.heap.size v' (xs ++ [s.id]) → (V.alloc (.cells #[.int .i64 s.id] 3 (0, 0))).grownBy w' (Value.slice la xs.length lc).ownBlock → Below w.heap.size w w' ∧ w'.heap[w.heap.size]? = some (.cells #[.int .i64 T.self, .slice (some ⟨b, o, none⟩) n cap] 28 (0, 0))) := by
        intro v' w' o' g'
        have hA := ext_blk (hE V (.cells #[.int .i64 s.id] 3 (0, 0))) HBX.out
        refine ⟨(HBV.out.alloc HBV.out.size _).grown g' (by simp; omega) (fun j hj => (World.ownsRow.lt HOA.out j hj).1), (g'.block _ (Array.getElem?_eq_some_iff.1 hA).1 (fun e => ?_)).trans hA⟩
        rcases HOA.out.2 with ⟨hv, _⟩ | ⟨gg, cc, cur, hv, _, hg, _⟩
        · rw [hv] at e; cases e
        · rw [hv] at e
          simp only [Value.ownBlock, Option.some.injEq] at e
          subst e
          rw [hA] at hg
          cases hg
      have hst2 : s.st = 0 ∨ s.st = 1 := by have := HST.out; omega
      obtain ⟨d0, hd0⟩ : ∃ d0, (s.st == 0) = d0 := ⟨_, rfl⟩
      clear HNX' e1 ho
      cases d0
      · have hd1 : (s.st == 1) = true := by
          have : s.st ≠ 0 := by simpa using hd0
          have : s.st = 1 := by omega
          simpa using this
        clear hst2
        go_wp2_with (at_builtin; refine wpList_append_i1 _ rfl _ _ rfl w.heap.size (.slice la xs.length lc) xs rfl HOA.out V.heap.size s.id rfl (kc _) (by omega) (by simp; omega) ?_; intro v' w' o' g'; obtain ⟨bb, pp⟩ := HFIN.out v' w' o' g'; have oo : Hid (OwI w' w.heap.size v' (xs ++ [s.id])) := o')
        go_roundw
        case rel => exact ⟨k + 1, by omega, by go_num, _, HX, by simp; omega, oo, bb, pp⟩
        case measure => simp [intOf]; omega
      · clear hst2
        go_wp2_with (at_builtin; refine wpList_append_i1 _ rfl _ _ rfl w.heap.size (.slice la xs.length lc) xs rfl HOA.out V.heap.size s.id rfl (kc _) (by omega) (by simp; omega) ?_; intro v' w' o' g'; obtain ⟨bb, pp⟩ := HFIN.out v' w' o' g'; have oo : Hid (OwI w' w.heap.size v' (xs ++ [s.id])) := o')
        go_roundw
        case rel => exact ⟨k + 1, by omega, by go_num, _, HX, by simp; omega, oo, bb, pp⟩
        case measure => simp [intOf]; omega
    · have hkn : k = n := by omega
      subst hkn
      have HR : Hid (liveD T = xs) := by
        show _ = _
        rw [liveD_yes HTP.out, hxs.out, List.take_of_length_le (by have := HNN.out; omega)]
      go_wp2
      go_ret
      refine ⟨_, rfl, ?_, hb⟩
      rw [HR.out]
      exact ho.out

end Go.Proofs.Ytmodliaieienfaa

namespace Go.Proofs.Ytmodliaieienfaa
open Go.RowKit

theorem hideR {p : Prop} (h : p) : Hid p := h
variable {w Ws W W' : World} {D R : DPro} {av sv xv gv : Value} {s x g base : Nat} {G G' : List Int}
/-- A block of another type is none of this row. -/
theorem ne_rowN {W : World} {base b : Nat} {v : Value} {ts : List Int} {cs : Array Value} {t : TypeId} (o : OwI W base v ts) (h : W.heap[b]? = some (.cells cs t (0, 0))) (ht : t ≠ 3) : some b ≠ v.ownBlock := by
  intro e
  rcases o.2 with ⟨hv, _⟩ | ⟨k, c, cur, hv, _, hg, _⟩
  · rw [hv] at e; cases e
  · rw [hv] at e
    simp only [Value.ownBlock, Option.some.injEq] at e
    subst e
    rw [h] at hg
    simp only [Option.some.injEq, Obj.cells.injEq] at hg
    exact ht hg.2.1
theorem keep_ltN {W W' : World} {base g : Nat} {v : Value} {ts : List Int} {n c : Nat} (o : OwI W base v ts) (h : W.grownBy W' (Value.slice (some ⟨g, 0, none⟩) n c).ownBlock) (hg : g < base) : OwI W' base v ts := o.keep h (by
  cases hv : v.ownBlock with
  | none => exact .inl rfl
  | some k =>
    right
    have := (o.lt k hv).1
    simp only [Value.ownBlock, ne_eq, Option.some.injEq]
    omega)
theorem cells6_kept {w w' : World} {g : Nat} {v0 v1 v2 v3 v4 v5 : Value} (h : w.cell? ⟨g, 0, none⟩ = some v0 ∧ w.cell? ⟨g, 1, none⟩ = some v1 ∧ w.cell? ⟨g, 2, none⟩ = some v2 ∧ w.cell? ⟨g, 3, none⟩ = some v3 ∧ w.cell? ⟨g, 4, none⟩ = some v4 ∧ w.cell? ⟨g, 5, none⟩ = some v5) (e : Ext w w') : w'.cell? ⟨g, 0, none⟩ = some v0 ∧ w'.cell? ⟨g, 1, none⟩ = some v1 ∧ w'.cell? ⟨g, 2, none⟩ = some v2 ∧ w'.cell? ⟨g, 3, none⟩ = some v3 ∧ w'.cell? ⟨g, 4, none⟩ = some v4 ∧ w'.cell? ⟨g, 5, none⟩ = some v5 := ⟨World.grownBy.cell e h.1 (by simp), World.grownBy.cell e h.2.1 (by simp), World.grownBy.cell e h.2.2.1 (by simp), World.grownBy.cell e h.2.2.2.1 (by simp), World.grownBy.cell e h.2.2.2.2.1 (by simp), World.grownBy.cell e h.2.2.2.2.2 (by simp)⟩

end Go.Proofs.Ytmodliaieienfaa

namespace Go.Proofs.Ytmodliaieienfaa
open Go.RowKit

set_option maxRecDepth 20000 in
set_option maxHeartbeats 2000000 in
theorem iOthersV (v : Value) (T : DTab) (w : World) (h : VTab w v T) (hn : T.mems.length ≤ 1048576) :
    Calls Try.prog 24 #[v] w fun e w' => ∃ v', e = .returned v' ∧ OwI w' w.heap.size v' (othersD T) ∧ Below w.heap.size w w' := by
  have hE : ∀ w : World, ∀ o, Ext w (w.alloc o) := fun w o => World.grownBy_alloc _ _ _
  have HT : Hid (VTab w v T) := h
  have HN : Hid (T.mems.length ≤ 1048576) := hn
  obtain ⟨tv, rfl, ht⟩ := h
  obtain ⟨a, cap, rfl⟩ := ht.shape
  obtain ⟨n, hnn⟩ : ∃ n, n = T.mems.length := ⟨_, rfl⟩
  rw [← hnn] at HT ⊢
  obtain ⟨R, hR⟩ : ∃ R, R = othersD T := ⟨_, rfl⟩
  have HR : Hid (R = exceptL (liveD T) T.self) := hR
  rw [← hR]
  clear ht hnn hn hR
  go_enter Try.func24, Try.ntmps24
  go_upto_region 1 with fail
  generalize hW : w.alloc _ = W
  have XW : Hid (Ext w W) := by rw [← hW]; exact hE _ _
  have P0 : W.heap[w.heap.size]? = some (.cells #[.int .i64 T.self, .slice a n cap] 28 (0, 0)) := by rw [← hW]; exact heap_alloc_new w _
  clear hW
  obtain ⟨c0, c1⟩ := two_cells P0
  have HP0 : Hid (W.heap[w.heap.size]? = some (.cells #[.int .i64 T.self, .slice a n cap] 28 (0, 0))) := P0
  clear P0
  go_region_held3 (fun w' => w'.cell? ⟨w.heap.size, 0, none⟩ = some (.int .i64 T.self) ∧ w'.cell? ⟨w.heap.size, 1, none⟩ = some (.slice a n cap)) (first | (simp [*]; done) | go_keep)
    (first
      | (have zz := HO1; clear zz; go_at_call 39; refine (withoutV _ (liveD T) T.self _ _ HO1.out (live_len HN.out)).mono ?_; rintro e w2 ⟨v2, rfl, o2, g2⟩; rw [← HR.out] at o2; obtain ⟨a2, e2, rfl⟩ := o2.shape; have HO2 : Hid (OwI w2 w.heap.size (.slice a2 R.length e2) R) := o2.base (by have := XW.out.size; exact this); have HB2 : Hid (Below w.heap.size w w2) := HB1.out.grown g2 HB1.out.size (fun k hk => Nat.le_trans XW.out.size (World.ownsRow.lt HO1.out k hk).1); obtain ⟨d0, d1⟩ := two_cells ((g2.block _ (Array.getElem?_eq_some_iff.1 HP1.out).1 (ne_rowN HO1.out HP1.out (by decide))).trans HP1.out); clear o2 g2)
      | (go_at_call 9; refine (iLiveV _ T _ (HT.out.ext (XW.out.tr (ext_drewN W 1))) HN.out).mono ?_; rintro e w1 ⟨v1, rfl, o1, b1⟩; obtain ⟨a1, e1, rfl⟩ := o1.shape; have HO1 : Hid (OwI w1 W.heap.size (.slice a1 (liveD T).length e1) (liveD T)) := o1; have XW1 : Hid (Ext W w1) := (ext_drewN W 1).tr (ext_below b1); have HB1 : Hid (Below w.heap.size w w1) := ext_bel (XW.out.tr XW1.out); have HP1 := hideR (ext_blk XW1.out HP0.out); obtain ⟨b0, b1'⟩ := two_cells HP1.out; clear o1 b1))
  all_goals
    go_wp2
    go_ret
    exact ⟨_, rfl, HO2.out, HB2.out⟩

end Go.Proofs.Ytmodliaieienfaa

namespace Go.Proofs.Ytmodliaieienfaa
open Go Go.RowKit

/-- How the body of the round is left: by a return alone. -/
def oncePost {α : Type} (Ix : α → World → Prop) (x : α) (W : World) : Exit → Act → World → Prop
  | .ret, _, W' => KeepsOthers W W' ∧ Ix x W'
  | _, _, _ => False

theorem wp_range_once {P : Program} {α : Type} {g : Operand} {ps : Array Tmp} {assign body : Code} {Q : Exit → Act → World → Prop} {a : Act} {w : World}
    {gf : Nat} {lb : Array Value} (hg : a.eval g = .func (.func gf) #[] lb) (eg : ∀ args w, (callFunc gf args).run P w = .ok (.enter gf args) w) (gt : Nat) (hgt : gt < w.heap.size)
    {encs : α → Array Value} (hps : ∀ x, (encs x).size = ps.size)
    (Jn : World → Prop) (Jy Ix : α → World → Prop) (oJn : OwnFrom w.heap.size (fun (_ : Unit) W => Jn W)) (oJy : OwnFrom w.heap.size Jy) (oIx : OwnFrom w.heap.size Ix)
    (hseq : ∀ (l : Nat) (W1 : World) (R : Ending → World → Prop), w.heap.size ≤ l → Ext w W1 →
      (∀ W', W1.grownBy W' (some gt) → Jn W' → R (.returned (.tuple #[])) W') →
      (∀ x W', W1.grownBy W' (some gt) → Jy x W' → YieldAt Fence.wide 1 P l (encs x) W' fun e W'' => e = .returned (.bool false) ∧ R (.returned (.tuple #[])) W'') →
      CallsIn Fence.wide 2 P gf (#[.func (.yield l) #[] #[]] ++ lb) W1 R)
    (a₁ : α → Act)
    (hassign : ∀ (l : Nat) (x : α) (W : World) (K : Act → World → Prop), K (a₁ x) W →
      assign.wpIn (Fence.wide.inRound l) 1 P (Exit.then K (fun _ _ _ => False)) { tmps := (ps.zip (encs x)).foldl (fun t (p, v) => t.setIfInBounds p v) a.tmps, defers := [] } W)
    (hbody : ∀ (l : Nat) (x : α) (W : World), Jy x W → body.wpIn (Fence.wide.inRound l) 1 P (oncePost Ix x W) (a₁ x) W)
    (hdone : ∀ (D : Nat) (W : World), w.heap.size ≤ D → Jn W → W.heap[D]? = some (.deferred (some [])) → Q .normal { a with defers := { target := .collected D, args := #[] } :: a.defers } W)
    (hstop : ∀ (D : Nat) (x : α) (W : World), w.heap.size ≤ D → Ix x W → W.heap[D]? = some (.deferred (some [])) → Q .ret { a with defers := { target := .collected D, args := #[] } :: a.defers } W) :
    (Code.rangeFunc g ps assign body).wp P Q a w := by
  refine (wpIn_wide (n := 3)).1 (wpIn_rangeFunc ?_)
  intro fn hfn
  obtain ⟨rec, hrec⟩ : ∃ rec : LoopState → Option Code → Loop, rec = fun st pe => { state := st, pending := pe, fn, tmps := a.tmps, params := ps, assign, body, defers := w.heap.size } := ⟨_, rfl⟩
  obtain ⟨W1, hW1⟩ : ∃ W1, (w.alloc (.deferred (some []))).alloc (.loop (rec .ready none)) = W1 := ⟨_, rfl⟩
  have hL1 : W1.heap[w.heap.size + 1]? = some (.loop (rec .ready none)) := by
    rw [← hW1]; have := World.alloc_heap_new (w.alloc (.deferred (some []))) (.loop (rec .ready none)); rwa [World.size_alloc] at this
  have hK1 : W1.heap[w.heap.size]? = some (.deferred (some [])) := by
    rw [← hW1]; exact (Below.heap_alloc _ _ _ (by simp)).trans (World.alloc_heap_new w _)
  have hX1 : Ext w W1 := by rw [← hW1]; exact Ext.tr (World.grownBy_alloc w _ none) (World.grownBy_alloc _ _ none)
  have hs1 : w.heap.size + 1 < W1.heap.size := (Array.getElem?_eq_some_iff.1 hL1).1
  refine ⟨w.heap.size + 1, [{ target := .collected w.heap.size, args := #[] }], W1, { target := .fn (.func gf) lb, args := #[.func (.yield (w.heap.size + 1)) #[] #[]] }, W1, gf,
    #[.func (.yield (w.heap.size + 1)) #[] #[]] ++ lb, W1, ?_, ?_, fun _ _ => trivial, ?_, fun _ => by omega, ?_⟩
  · rw [← hW1, hrec]; exact run_enterLoop_outer _ _ _ _ _
  · simp only [resolve, hg]
    simp [go_sem]
  · simp [invoke, go_sem, eg]
  · refine (hseq (w.heap.size + 1) W1 (fun e W2 => (∃ v, e = .returned v) ∧ ((Jn W2 ∧ W2.heap[w.heap.size + 1]? = some (.loop (rec .ready none)) ∧ W2.heap[w.heap.size]? = some (.deferred (some []))) ∨
        (∃ x, Ix x W2 ∧ W2.heap[w.heap.size + 1]? = some (.loop (rec .done (some .ret))) ∧ W2.heap[w.heap.size]? = some (.deferred (some []))))) (by omega) hX1 ?_ ?_).mono ?_
    · intro W' hg' hj
      exact ⟨⟨_, rfl⟩, .inl ⟨hj, (hg'.block _ hs1 (by simp; omega)).trans hL1, (hg'.block _ (by omega) (by simp; omega)).trans hK1⟩⟩
    · intro x W hg' hj
      have hl : W.heap[w.heap.size + 1]? = some (.loop (rec .ready none)) := (hg'.block _ hs1 (by simp; omega)).trans hL1
      have hk : W.heap[w.heap.size]? = some (.deferred (some [])) := (hg'.block _ (by omega) (by simp; omega)).trans hK1
      have hlt : w.heap.size + 1 < W.heap.size := (Array.getElem?_eq_some_iff.1 hl).1
      have hy := run_yield (P := P) (args := encs x) hl (by rw [hrec]; exact hps x)
      rw [hrec] at hy
      refine ⟨fn, _, assign, body, hy, roundIn_of_wpIn hfn (hassign _ x W _ ⟨_, run_beginRound hl (by rw [hrec]), ?_⟩)⟩
      have hl2 : (W.putObj (w.heap.size + 1) (.loop { rec .ready none with state := .busy })).heap[w.heap.size + 1]? = some (.loop { rec .ready none with state := .busy }) := World.putObj_heap_same hlt
      have hk2 : (W.putObj (w.heap.size + 1) (.loop { rec .ready none with state := .busy })).heap[w.heap.size]? = some (.deferred (some [])) := (World.putObj_heap_other (by omega)).trans hk
      refine wpIn_mono (hbody _ x _ (oJy.putObj _ hj (by omega) hl rfl)) ?_
      rintro e a3 W3 hp
      cases e with
      | ret =>
        obtain ⟨hk3, hi3⟩ := hp
        have hl3 := hk3.same _ _ hl2 rfl
        have hr := run_endRound (P := P) (some .ret) hl3
        rw [hrec] at hr
        refine ⟨_, _, hr, rfl, ⟨_, rfl⟩, .inr ⟨x, oIx.putObj _ hi3 (by omega) hl3 rfl, ?_, ?_⟩⟩
        · rw [hrec]; exact World.putObj_heap_same (Array.getElem?_eq_some_iff.1 hl3).1
        · exact (World.putObj_heap_other (by omega)).trans (hk3.same _ _ hk2 rfl)
      | normal => exact hp.elim
      | exit id => exact hp.elim
      | goto t => exact hp.elim
      | panic ch => exact hp.elim
      | outgrown => exact hp.elim
    · rintro e W2 ⟨⟨v, rfl⟩, (⟨hi, hl, hk⟩ | ⟨x, hi, hl, hk⟩)⟩
      · exact ⟨none, _, by have := run_endLoop (P := P) hl (by rw [hrec]; simp); rw [hrec] at this; exact this, hdone _ _ (Nat.le_refl _) (oJn.putObj (s := ()) _ hi (by omega) hl rfl) ((World.putObj_heap_other (by omega)).trans hk)⟩
      · exact ⟨some .ret, _, by have := run_endLoop (P := P) hl (by rw [hrec]; simp); rw [hrec] at this; exact this, wpIn_ret (hstop _ x _ (Nat.le_refl _) (oIx.putObj _ hi (by omega) hl rfl) ((World.putObj_heap_other (by omega)).trans hk))⟩

end Go.Proofs.Ytmodliaieienfaa

namespace Go.Proofs.Ytmodliaieienfaa
open Go.RowKit Go.Shelf
attribute [local go_sem] Oper.semAt_some

theorem gdrew {A B : World} {r : Option Nat} (h : A.grownBy B r) : A.grownBy B.drew r := ⟨h.os, h.tape, h.output, h.size, h.block⟩
set_option maxHeartbeats 1000000 in
theorem leftV (gt : Nat) (oa : Option Addr) (on oc : Nat) (w : World) :
    Calls Try.prog 37 #[.pointer (some ⟨gt, 0, none⟩), .slice oa on oc] w fun e w' => e = .returned (.func (.func 49) #[] #[.pointer (some ⟨w.heap.size, 0, none⟩), .pointer (some ⟨w.heap.size + 1, 0, none⟩)]) ∧ w' = (w.alloc (.cells #[.pointer (some ⟨gt, 0, none⟩)] 65)).alloc (.cells #[.slice oa on oc] 23) := by

  go_enter Try.func37, Try.ntmps37
  go_wp2
  go_ret
  exact ⟨by simp, rfl⟩

def nextOf (gt : Nat) (W : World) : Nat := (intOf ((W.cell? ⟨gt, 1, none⟩).getD undef)).toNat

set_option maxRecDepth 100000 in
set_option maxHeartbeats 4000000 in
theorem left1_in (l gt Bp Bo base b2 : Nat) (P : DPro) (tv ov : Value) (ls : List Int) (W : World) (R : Ending → World → Prop) (hP : ProW P)
    (hb : W.heap[gt]? = some (.cells #[tv, .int .i64 P.next, .int .i64 P.seed, .int .i64 P.state, .int .i64 P.who, .int .i64 P.wait] 25 (0, 0))) (ho : OwI W base tv P.order) (hl : OwI W b2 ov ls)
    (hBp : W.cell? ⟨Bp, 0, none⟩ = some (.pointer (some ⟨gt, 0, none⟩))) (hBo : W.cell? ⟨Bo, 0, none⟩ = some ov) (np : Bp ≠ gt) (no : Bo ≠ gt)
    (hn : goOn ls P = none → ∀ W', W.grownBy W' (some gt) → W'.heap[gt]? = some (.cells #[tv, .int .i64 P.order.length, .int .i64 P.seed, .int .i64 P.state, .int .i64 P.who, .int .i64 P.wait] 25 (0, 0)) → R (.returned (.tuple #[])) W')
    (hy : ∀ x k, goOn ls P = some (x, k) → ∀ W', W.grownBy W' (some gt) → W'.heap[gt]? = some (.cells #[tv, .int .i64 (k : Nat), .int .i64 P.seed, .int .i64 P.state, .int .i64 P.who, .int .i64 P.wait] 25 (0, 0)) → YieldAt Fence.wide 1 Try.prog l #[.int .i64 x] W' fun e W'' => e = .returned (.bool false) ∧ R (.returned (.tuple #[])) W'') :
    CallsIn Fence.wide 2 Try.prog 49 #[.func (.yield l) #[] #[], .pointer (some ⟨Bp, 0, none⟩), .pointer (some ⟨Bo, 0, none⟩)] W R := by
  obtain ⟨os, nx, sd, st, wh, wt⟩ := P
  obtain ⟨hP1, ⟨hP2, hP3⟩, _⟩ := hP
  simp only at hb ho hn hy hP1 hP2 hP3
  obtain ⟨j0, rfl⟩ := Int.eq_ofNat_of_zero_le hP2
  simp only [goOn, Int.toNat_natCast] at hn hy
  obtain ⟨n, hnn⟩ : ∃ n, n = os.length := ⟨_, rfl⟩
  obtain ⟨ta, tc, rfl⟩ := ho.shape
  obtain ⟨oa, oc, rfl⟩ := hl.shape
  rw [← hnn] at hb hn hP1 hP3 hy ho
  have HNN : Hid (n = os.length) := hnn
  have HO : Hid (OwI W base (.slice ta n tc) os) := ho
  have HL : Hid (OwI W b2 (.slice oa ls.length oc) ls) := hl
  have HB : Hid (∃ v1, W.heap[gt]? = some (.cells #[.slice ta n tc, v1, .int .i64 sd, .int .i64 st, .int .i64 wh, .int .i64 wt] 25 (0, 0))) := ⟨_, hb⟩
  have HNn : Hid (scanL ls (os.drop j0) j0 = none → ∀ W', W.grownBy W' (some gt) → W'.heap[gt]? = some (.cells #[.slice ta n tc, .int .i64 n, .int .i64 sd, .int .i64 st, .int .i64 wh, .int .i64 wt] 25 (0, 0)) → R (.returned (.tuple #[])) W') := hn
  have HY : Hid (∀ x k, scanL ls (os.drop j0) j0 = some (x, k) → ∀ W', W.grownBy W' (some gt) → W'.heap[gt]? = some (.cells #[.slice ta n tc, .int .i64 (k : Nat), .int .i64 sd, .int .i64 st, .int .i64 wh, .int .i64 wt] 25 (0, 0)) → YieldAt Fence.wide 1 Try.prog l #[.int .i64 x] W' fun e W'' => e = .returned (.bool false) ∧ R (.returned (.tuple #[])) W'') := hy
  have HNB : Hid ((Value.slice ta n tc).ownBlock = none ∨ (Value.slice ta n tc).ownBlock ≠ some gt) := pro_ne ho hb
  have HNL : Hid ((Value.slice oa ls.length oc).ownBlock = none ∨ (Value.slice oa ls.length oc).ownBlock ≠ some gt) := pro_ne hl hb
  have hmo : Try.prog.follows .mixedOrders = true := by kernel_rfl
  have HX0 : Hid (W.heap[gt]? = some (.cells #[.slice ta n tc, .int .i64 j0, .int .i64 sd, .int .i64 st, .int .i64 wh, .int .i64 wt] 25 (0, 0))) := hb
  have hn1 : (n : Int) ≤ 1048576 := by omega
  have hj0 : j0 ≤ n := by omega
  clear hb ho hl hn hy hnn HB
  refine callsIn_of_wp Try.func49 rfl trivial ?_ rfl
  simp only [Try.ntmps49, List.size_toArray, List.length_cons, List.length_nil, Nat.reduceAdd, Nat.reduceSub, Array.replicate_succ, Array.replicate_zero, List.push_toArray, List.append_toArray, List.nil_append, List.cons_append]
  gi_wp2
  gi_loopw [4] (fun idv wr => ∃ j : Nat, j ≤ n ∧ Hid (scanL ls (os.drop j) j = scanL ls (os.drop j0) j0) ∧ Hid (wr.heap[gt]? = some (.cells #[.slice ta n tc, .int .i64 j, .int .i64 sd, .int .i64 st, .int .i64 wh, .int .i64 wt] 25 (0, 0))) ∧ Hid (W.grownBy wr (some gt))) (fun _ wr => n - nextOf gt wr)
  case atStart => exact ⟨j0, hj0, rfl, HX0, World.grownBy.refl _ _⟩
  case round =>
    obtain ⟨j, hj, hsc, hbx, hG⟩ := hrel
    have cp := World.grownBy.cell hG.out hBp (by simpa using np)
    have co := World.grownBy.cell hG.out hBo (by simpa using no)
    obtain ⟨x0, _⟩ := at_block hbx.out 0 _ rfl
    obtain ⟨x1, f1⟩ := at_block hbx.out 1 _ rfl
    have hmu : nextOf gt wr = j := by unfold nextOf; rw [x1]; simp [intOf]
    by_cases hlt : j < n
    · obtain ⟨x, hx⟩ : ∃ x, os[j]? = some x := ⟨_, List.getElem?_eq_getElem (by have := HNN.out; omega)⟩
      have OW : OwI wr base (.slice ta n tc) os := HO.out.keep hG.out HNB.out
      obtain ⟨g, hgg⟩ : ∃ g, ta = some ⟨g, 0, none⟩ := by
        rcases OW.2 with ⟨h0, _⟩ | ⟨g, c, cur, hv, _⟩
        · simp only [Value.slice.injEq] at h0; omega
        · simp only [Value.slice.injEq] at hv; exact ⟨g, hv.1⟩
      subst hgg
      obtain ⟨cx, _⟩ := OW.get HNN.out j hlt
      have hgx : os.getD j 0 = x := by rw [List.getD_eq_getElem?_getD, hx]; rfl
      rw [hgx] at cx
      have hlt' : (j : Int) < (n : Int) := by omega
      have HSA : Hid (scanL ls (os.drop j0) j0 = if ls.contains x then some (x, j + 1) else scanL ls (os.drop (j + 1)) (j + 1)) := by show _ = _; rw [← hsc.out]; exact scanL_at hx
      have GX : Hid (W.grownBy ((wr.setCell ⟨gt, 1, none⟩ (.int .i64 ((j : Int) + 1))).drew.drew) (some gt)) := gdrew (gdrew (hG.out.trans (set_grown _ _ _ _)))
      have BX : Hid (((wr.setCell ⟨gt, 1, none⟩ (.int .i64 ((j : Int) + 1))).drew.drew).heap[gt]? = some (.cells #[.slice (some ⟨g, 0, none⟩) n tc, .int .i64 ((j + 1 : Nat) : Int), .int .i64 sd, .int .i64 st, .int .i64 wh, .int .i64 wt] 25 (0, 0))) := set_block (w := wr) hbx.out 1 _
      have VB : Hid (VL fI ((wr.setCell ⟨gt, 1, none⟩ (.int .i64 ((j : Int) + 1))).drew.drew) (.slice oa ls.length oc) ls) := (HL.out.keep GX.out HNL.out).vl
      have cp1 : ((wr.setCell ⟨gt, 1, none⟩ (.int .i64 ((j : Int) + 1))).drew.drew).cell? ⟨Bp, 0, none⟩ = some (.pointer (some ⟨gt, 0, none⟩)) := World.grownBy.cell GX.out hBp (by simpa using np)
      have co1 : ((wr.setCell ⟨gt, 1, none⟩ (.int .i64 ((j : Int) + 1))).drew.drew).cell? ⟨Bo, 0, none⟩ = some (.slice oa ls.length oc) := World.grownBy.cell GX.out hBo (by simpa using no)
      clear OW hgx hx
      gi_wp2
      gi_region_o
      gi_wp2
      gi_region_o
      gi_wp2_with fail
      generalize (wr.setCell ⟨gt, 1, none⟩ (.int .i64 ((j : Int) + 1))).drew.drew = V at *
      refine ⟨trivial, callsIn_wide.2 ?_⟩
      refine (containsIV _ ls x V VB.out).mono ?_
      rintro e w3 ⟨rfl, hw⟩
      have hw' := hw.symm
      clear hw
      subst hw'
      cases hcn : decide (x ∈ ls)
      · have HS2 : Hid (scanL ls (os.drop (j + 1)) (j + 1) = scanL ls (os.drop j0) j0) := by
          show _ = _
          rw [HSA.out, if_neg (by have := of_decide_eq_false hcn; simpa using this)]
        have hm2 : nextOf gt V = j + 1 := by unfold nextOf; rw [(at_block BX.out 1 _ rfl).1]; simp [intOf]
        gi_wp2
        refine ⟨fun _ h => (by cases h), ?_⟩
        gi_wp2
        go_roundw
        case rel => exact ⟨j + 1, by omega, HS2, BX, GX⟩
        case measure => rw [hmu, hm2]; omega
      · have HS2 : Hid (scanL ls (os.drop j0) j0 = some (x, j + 1)) := by
          show _ = _
          rw [HSA.out, if_pos (by have := of_decide_eq_true hcn; simpa using this)]
        obtain ⟨fn, tmps, assign, body, hyy, hR⟩ := HY.out x (j + 1) HS2.out V GX.out BX.out
        gi_wp2
        refine hR.mono ?_
        rintro e W3 ⟨rfl, hR3⟩
        have HR3 : Hid (R (.returned (.tuple #[])) W3) := hR3
        clear hR3 hR hyy
        gi_wp2
        refine bodyPost_ret (results_none rfl _ _ _) rfl ?_
        exact HR3.out
    · have hjn : j = n := by omega
      subst hjn
      have HE : Hid (scanL ls (os.drop j0) j0 = none) := by show _ = _; rw [← hsc.out]; exact scanL_end (by have := HNN.out; omega)
      gi_wp2
      gi_region_o
      gi_wp2
      go_end0
      exact HNn.out HE.out _ (gdrew hG.out) hbx.out

end Go.Proofs.Ytmodliaieienfaa

namespace Go.Proofs.Ytmodliaieienfaa
open Go.RowKit

set_option maxRecDepth 20000 in
set_option maxHeartbeats 1500000 in
theorem iShuffleV (v : Value) (xs : List Int) (s : Int) (w : World) (h : VL fI w v xs) (_h1 : -9223372036854775808 ≤ s) (_h2 : s ≤ 9223372036854775807) :
    Calls Try.prog 38 #[v, .int .i64 s] w fun e w' => ∃ tv, e = .returned (.tuple #[tv, .int .i64 (shufD xs s).2]) ∧ OwI w' w.heap.size tv (shufD xs s).1 ∧ Below w.heap.size w w' := by
  obtain ⟨a, cap, rfl⟩ := vl_shape h
  obtain ⟨n, hnn⟩ : ∃ n, n = xs.length := ⟨_, rfl⟩
  have hml : n ≤ 9223372036854775807 := by
    obtain ⟨a', cap', e, h1, h2, _⟩ := h
    unfold maxLen at h2
    omega
  have HV : Hid (VL fI w (.slice a n cap) xs) := by rw [hnn]; exact h
  have HN : Hid (n = xs.length) := hnn
  obtain ⟨R, hR⟩ : ∃ R, R = shufD xs s := ⟨_, rfl⟩
  rw [← hR]
  rw [← hnn] at ⊢
  have HNIL : Hid (OwI w w.heap.size (.slice none 0 0) []) := World.ownsRow_nil _ _ _ _
  by_cases g1 : n > 12
  · have HK : Hid (R = ([], 0)) := by show _ = _; rw [hR]; exact if_pos (by rw [← hnn]; exact .inl g1)
    have d1 : decide ((n : Int) > 12) = true := decide_eq_true (by omega)
    clear hR h hnn
    go_enter Try.func38, Try.ntmps38
    go_wp2
    go_ret2
    rw [HK.out]
    exact ⟨_, rfl, HNIL.out, Below.refl _ _⟩
  have d1 : decide ((n : Int) > 12) = false := decide_eq_false (by omega)
  by_cases g2 : s < 0 ∨ 2147483647 < s
  · have HK : Hid (R = ([], 0)) := by show _ = _; rw [hR]; exact if_pos (by rw [← hnn]; exact .inr g2)
    have h1 := seed_no g2
    clear hR h hnn g2
    go_enter Try.func38, Try.ntmps38
    go_wp2_with (go_at_call 16; refine (seedOkV _ _).mono ?_; rintro e w1 ⟨rfl, rfl⟩; rw [h1])
    go_ret2
    rw [HK.out]
    exact ⟨_, rfl, HNIL.out, Below.refl _ _⟩
  have h1 := seed_yes g2
  have hs0 : 0 ≤ s := by omega
  have hs1 : s ≤ 2147483647 := by omega
  have HR : Hid (R = shufN (n - 1) xs s) := by show _ = _; rw [hR, hnn]; exact if_neg (by rw [← hnn]; omega)
  have hn1 : (n : Int) ≤ 12 := by omega
  clear h hnn hR g1 g2
  go_enter Try.func38, Try.ntmps38
  go_upto_region 4 with (go_at_call 16; refine (seedOkV _ _).mono ?_; rintro e w1 ⟨rfl, hw1⟩; have hw2 := hw1.symm; clear hw1; subst hw2; rw [h1])
  refine (cloneIV _ xs w HV.out (by have := HN.out; omega)).mono ?_
  rintro e w1 ⟨v1, rfl, o1, b1⟩
  obtain ⟨a1, c1, hv1⟩ : ∃ a1 c1, v1 = .slice a1 n c1 := (by have := o1.shape; rw [← HN.out] at this; exact this)
  subst hv1
  have HO1 : Hid (OwI w1 w.heap.size (.slice a1 n c1) xs) := o1
  have HB1 : Hid (Below w.heap.size w w1) := b1
  clear o1 b1
  go_wp2
  go_loopw [1, 7] (fun sv i wr => ∃ (j sd : Int) (ys : List Int), i = .int .i64 j ∧ sv = .int .i64 sd ∧ -1 ≤ j ∧ j < n ∧ 0 ≤ sd ∧ sd ≤ 2147483647 ∧ Hid (R = shufN j.toNat ys sd) ∧ Hid (n = ys.length) ∧ Hid (OwI wr w.heap.size (.slice a1 n c1) ys) ∧ Hid (Below w.heap.size w wr)) (fun _ i _ => (intOf i).toNat)
  case atStart => exact ⟨(n : Int) - 1, s, xs, rfl, rfl, by omega, by omega, hs0, hs1, by show _ = _; rw [HR.out]; congr 1; omega, HN, HO1, HB1⟩
  case round =>
    obtain ⟨j, sd, ys, rfl, rfl, hj0, hj1, hd0, hd1, hRR, hys, hO, hB⟩ := hrel
    by_cases hpos : 1 ≤ j
    · obtain ⟨p, rfl⟩ := Int.eq_ofNat_of_zero_le (show 0 ≤ j by omega)
      have hpn : p < n := by omega
      have hp0 : 0 < p := by omega
      obtain ⟨g, hg⟩ : ∃ g, a1 = some ⟨g, 0, none⟩ := by
        rcases hO.out.2 with ⟨h0, _⟩ | ⟨g, c, cur, hv, _⟩
        · simp only [Value.slice.injEq] at h0; omega
        · simp only [Value.slice.injEq] at hv; exact ⟨g, hv.1⟩
      subst hg
      obtain ⟨m, hm⟩ : ∃ m, m = mixF sd := ⟨_, rfl⟩
      have hmb := mixF_bd sd
      rw [← hm] at hmb
      obtain ⟨hm0, hm1⟩ := hmb
      obtain ⟨q, hq⟩ := Int.eq_ofNat_of_zero_le (Int.emod_nonneg m (show ((p : Int) + 1) ≠ 0 by omega))
      have hqp : q ≤ p := by have := Int.emod_lt_of_pos m (show (0 : Int) < (p : Int) + 1 by omega); omega
      have hqn : q < n := by omega
      have HMX : Hid (m = mixF sd) := hm
      have HSW : Hid (R = shufN (p - 1) (swapL ys p q) m) := by
        show _ = _
        have hp' : p = (p - 1) + 1 := by omega
        rw [hRR.out, Int.toNat_natCast]
        conv => lhs; rw [hp', shufN]
        rw [← hm, ← hp']
        congr 2
        have : ((p - 1 : Nat) : Int) + 2 = (p : Int) + 1 := by omega
        rw [this, hq]
        rfl
      clear hm hRR
      obtain ⟨cp, fp⟩ := hO.out.get hys.out p hpn
      obtain ⟨cq, fq⟩ := hO.out.get hys.out q hqn
      obtain ⟨O2, G2⟩ := hO.out.put hys.out p (ys.getD q 0)
      have hgb := (World.ownsRow.lt hO.out g rfl).1
      have HL2 : Hid (n = (ys.set p (ys.getD q 0)).length) := by show _ = _; rw [List.length_set]; exact hys.out
      obtain ⟨O3, G3⟩ := O2.put HL2.out q (ys.getD p 0)
      have HO3 : Hid (OwI ((wr.setCell ⟨g, p, none⟩ (.int .i64 (ys.getD q 0))).setCell ⟨g, q, none⟩ (.int .i64 (ys.getD p 0))) w.heap.size (.slice (some ⟨g, 0, none⟩) n c1) (swapL ys p q)) := O3
      have HB3 : Hid (Below w.heap.size w ((wr.setCell ⟨g, p, none⟩ (.int .i64 (ys.getD q 0))).setCell ⟨g, q, none⟩ (.int .i64 (ys.getD p 0)))) := (hB.out.setCell hgb _).setCell hgb _
      have HL3 : Hid (n = (swapL ys p q).length) := by show _ = _; rw [swapL_len]; exact hys.out
      obtain ⟨cq', fq'⟩ := O2.get HL2.out q hqn
      have hlp : (p : Int) < (n : Int) := by omega
      have hlq : (q : Int) < (n : Int) := by omega
      have hrem : m.tmod ((p : Int) + 1) = (q : Int) := by rw [Int.tmod_eq_emod_of_nonneg hm0]; exact hq
      have hp1 : ¬ ((p : Int) + 1 = 0) := by omega
      clear O2 G2 O3 G3
      generalize ys.getD p 0 = yp at *
      generalize hyq : ys.getD q 0 = yq at *
      clear hyq
      go_upto_region 9 with (go_at_call 50; refine (iMixV sd _ (by omega) (by omega)).mono ?_; rintro e w9 ⟨he, hw9⟩; rw [← HMX.out] at he; subst he; have hw8 := hw9.symm; clear hw9; subst hw8)
      go_region
      go_wp2
      go_roundw
      case rel => exact ⟨(p : Int) - 1, m, swapL ys p q, by go_num, rfl, by omega, by omega, hm0, by omega, by have := HSW.out; rw [show ((p : Int) - 1).toNat = p - 1 by omega]; exact this, HL3, HO3.out.ext (ext_drewN _ 1), HB3.out.trans (ext_bel (ext_drewN _ 1) |>.mono HB3.out.size)⟩
      case measure => simp [intOf]; omega
    · have hz : j.toNat = 0 := by omega
      have HF : Hid (R = (ys, sd)) := by show _ = _; rw [hRR.out, hz]; rfl
      clear hz
      go_wp2
      go_ret2
      rw [HF.out]
      exact ⟨_, rfl, hO.out, hB.out⟩

end Go.Proofs.Ytmodliaieienfaa

namespace Go.Proofs.Ytmodliaieienfaa
open Go.RowKit

/-- A row of numbers stays where what turns is no row. -/
theorem OwI.off {W W' : World} {base : Nat} {v : Value} {xs : List Int} {row : Option Nat} (h : OwI W base v xs) (hg : W.grownBy W' row) (hr : ∀ r, row = some r → ∃ o : Obj, W.heap[r]? = some o ∧ o.isCells = false) : OwI W' base v xs := by
  refine h.keep hg ?_
  rcases h.2 with ⟨hv, _⟩ | ⟨k, c, cur, hv, _, hk, _⟩
  · left; rw [hv]; rfl
  · right
    rw [hv]
    intro e
    obtain ⟨o, ho, hc⟩ := hr k e.symm
    rw [hk] at ho
    cases ho
    cases hc
theorem blk_off {W W' : World} {row : Option Nat} {b : Nat} {cs : Array Value} {t : TypeId} (h : W.heap[b]? = some (.cells cs t (0, 0))) (hg : W.grownBy W' row) (hr : ∀ r, row = some r → ∃ o : Obj, W.heap[r]? = some o ∧ o.isCells = false) : W'.heap[b]? = some (.cells cs t (0, 0)) := by
  refine (hg.block b (Array.getElem?_eq_some_iff.1 h).1 ?_).trans h
  intro e
  obtain ⟨o, ho, hc⟩ := hr b e.symm
  rw [h] at ho
  cases ho
  cases hc
structure NxM (w : World) (gt base b2 r : Nat) (ov : Value) (ls : List Int) (Ds : List Nat) (Q : DPro) (qv rv : Value) (W : World) : Prop where
  st : NxSt w gt base Q qv W
  res : W.heap[r]? = some (.cells #[rv] 3 (0, 0))
  oth : OwI W b2 ov ls
  mrk : ∀ D ∈ Ds, W.heap[D]? = some (.deferred (some []))
  nq : qv.ownBlock = none ∨ qv.ownBlock ≠ some r
  no : ov.ownBlock = none ∨ ov.ownBlock ≠ some r
  sz : base ≤ W.heap.size
  br : base ≤ r
variable {w W W' : World} {gt base b2 r : Nat} {ov qv rv : Value} {ls : List Int} {Ds : List Nat} {Q : DPro}
theorem NxM.row (h : NxM w gt base b2 r ov ls Ds Q qv rv W) {row : Option Nat} {B : Nat} (hg : W.grownBy W' row) (hr : ∀ x, row = some x → B ≤ x ∧ ∃ o : Obj, W.heap[x]? = some o ∧ o.isCells = false) (hB : base ≤ B) (hD : ∀ D ∈ Ds, D < B) : NxM w gt base b2 r ov ls Ds Q qv rv W' := by
  have hc : ∀ x, row = some x → ∃ o : Obj, W.heap[x]? = some o ∧ o.isCells = false := fun x e => (hr x e).2
  refine ⟨⟨blk_off h.st.box hg hc, h.st.own.off hg hc, h.st.low.grown hg h.sz (fun k hk => Nat.le_trans hB (hr k hk).1)⟩, blk_off h.res hg hc, h.oth.off hg hc, fun D hDm => ?_, h.nq, h.no, Nat.le_trans h.sz hg.size, h.br⟩
  refine (hg.block D (Array.getElem?_eq_some_iff.1 (h.mrk D hDm)).1 ?_).trans (h.mrk D hDm)
  intro e
  have := (hr D e.symm).1
  have := hD D hDm
  omega
theorem NxM.ext (h : NxM w gt base b2 r ov ls Ds Q qv rv W) (e : Ext W W') : NxM w gt base b2 r ov ls Ds Q qv rv W' :=
  ⟨h.st.ext h.sz e, ext_blk e h.res, h.oth.ext e, fun D hD => ext_blk e (h.mrk D hD), h.nq, h.no, Nat.le_trans h.sz e.size, h.br⟩
theorem NxM.less (h : NxM w gt base b2 r ov ls Ds Q qv rv W) {Es : List Nat} (hE : ∀ D ∈ Es, D ∈ Ds) : NxM w gt base b2 r ov ls Es Q qv rv W := ⟨h.st, h.res, h.oth, fun D hD => h.mrk D (hE D hD), h.nq, h.no, h.sz, h.br⟩
theorem NxM.gr (h : NxM w gt base b2 r ov ls Ds Q qv rv W) : r ≠ gt := by
  intro e
  have h1 := h.res
  rw [e, h.st.box] at h1
  simp only [Option.some.injEq, Obj.cells.injEq] at h1
  exact absurd h1.2.1 (by decide)
/-- The box turned: another place. -/
theorem NxM.go (h : NxM w gt base b2 r ov ls Ds Q qv rv W) (hb : base ≤ gt) (hg : W.grownBy W' (some gt)) {k : Int} (hx : W'.heap[gt]? = some (.cells #[qv, .int .i64 k, .int .i64 Q.seed, .int .i64 Q.state, .int .i64 Q.who, .int .i64 Q.wait] 25 (0, 0))) : NxM w gt base b2 r ov ls Ds ⟨Q.order, k, Q.seed, Q.state, Q.who, Q.wait⟩ qv rv W' := by
  refine ⟨⟨hx, h.st.own.keep hg (pro_ne h.st.own h.st.box), h.st.low.grown hg h.sz (fun k hk => by cases hk; exact hb)⟩, (hg.block r (Array.getElem?_eq_some_iff.1 h.res).1 (by simpa using h.gr)).trans h.res, h.oth.keep hg (pro_ne h.oth h.st.box), fun D hD => ?_, h.nq, h.no, Nat.le_trans h.sz hg.size, h.br⟩
  refine (hg.block D (Array.getElem?_eq_some_iff.1 (h.mrk D hD)).1 ?_).trans (h.mrk D hD)
  intro e
  simp only [Option.some.injEq] at e
  have h1 := h.mrk D hD
  rw [e, h.st.box] at h1
  cases h1
theorem NxM.setNext (h : NxM w gt base b2 r ov ls Ds Q qv rv W) (hb : base ≤ gt) (k : Int) : NxM w gt base b2 r ov ls Ds ⟨Q.order, k, Q.seed, Q.state, Q.who, Q.wait⟩ qv rv (W.setCell ⟨gt, 1, none⟩ (.int .i64 k)) := h.go hb (set_grown _ _ _ _) (set_block h.st.box 1 _)
theorem NxM.setRes (h : NxM w gt base b2 r ov ls Ds Q qv rv W) (v : Value) : NxM w gt base b2 r ov ls Ds Q qv v (W.setCell ⟨r, 0, none⟩ v) := by
  have hg := set_grown W r 0 v
  refine ⟨⟨set_other _ _ _ (Ne.symm h.gr) h.st.box, h.st.own.keep hg h.nq, h.st.low.setCell h.br _⟩, set_block h.res 0 v, h.oth.keep hg h.no, fun D hD => ?_, h.nq, h.no, Nat.le_trans h.sz hg.size, h.br⟩
  refine (hg.block D (Array.getElem?_eq_some_iff.1 (h.mrk D hD)).1 ?_).trans (h.mrk D hD)
  intro e
  simp only [Option.some.injEq] at e
  have h1 := h.mrk D hD
  rw [e, h.res] at h1
  cases h1
/-- Another order, another seed. -/
theorem NxM.turn (h : NxM w gt base b2 r ov ls Ds Q qv rv W) (hb : base ≤ gt) {uv : Value} {ys : List Int} {b : Nat} (o : OwI W b uv ys) (hbb : base ≤ b) (hrb : r < b) (s : Int) : NxM w gt base b2 r ov ls Ds ⟨ys, Q.next, s, Q.state, Q.who, Q.wait⟩ uv rv ((W.setCell ⟨gt, 0, none⟩ uv).setCell ⟨gt, 2, none⟩ (.int .i64 s)) := by
  have hg : W.grownBy ((W.setCell ⟨gt, 0, none⟩ uv).setCell ⟨gt, 2, none⟩ (.int .i64 s)) (some gt) := (set_grown _ _ _ _).trans (set_grown _ _ _ _)
  refine ⟨h.st.turn hb (o.base hbb) s, (hg.block r (Array.getElem?_eq_some_iff.1 h.res).1 (by simpa using h.gr)).trans h.res, h.oth.keep hg (pro_ne h.oth h.st.box), fun D hD => ?_, ?_, h.no, Nat.le_trans h.sz hg.size, h.br⟩
  · refine (hg.block D (Array.getElem?_eq_some_iff.1 (h.mrk D hD)).1 ?_).trans (h.mrk D hD)
    intro e
    simp only [Option.some.injEq] at e
    have h1 := h.mrk D hD
    rw [e, h.st.box] at h1
    cases h1
  · cases hv : uv.ownBlock with
    | none => exact .inl rfl
    | some k => exact .inr (by have := (o.lt k hv).1; simp; omega)
/-- A mark is taken. -/
theorem NxM.take (h : NxM w gt base b2 r ov ls Ds Q qv rv W) {D : Nat} {ds : Option (List Deferred)} (hk : W.heap[D]? = some (.deferred ds)) (hb : base ≤ D) (hD : ∀ E ∈ Ds, E < D) (o : Option (List Deferred)) : NxM w gt base b2 r ov ls Ds Q qv rv (W.putObj D (.deferred o)) :=
  h.row (B := D) (grownBy_putObj' W D _) (fun x e => by cases e; exact ⟨Nat.le_refl _, _, hk, rfl⟩) hb hD

end Go.Proofs.Ytmodliaieienfaa

namespace Go.Proofs.Ytmodliaieienfaa
open Go.RowKit Go.Shelf
attribute [local go_sem] Oper.semAt_some

theorem nextL_some {ls : List Int} {P : DPro} {x : Int} {k m : Nat} (h : goOn ls P = some (x, k)) : nextL ls (m + 1) P = (⟨P.order, k, P.seed, P.state, P.who, P.wait⟩, x) := by rw [nextL, h]
theorem nextL_none {ls : List Int} {P : DPro} {m : Nat} (h : goOn ls P = none) : nextL ls (m + 1) P = nextL ls m (anew ls P) := by rw [nextL, h]
theorem shufD_ok {ls : List Int} {s : Int} (h : ls.length ≤ 12) (h0 : 0 ≤ s) (h1 : s ≤ 2147483647) : shufD ls s = shufL ls s := if_neg (by omega)

set_option maxRecDepth 100000 in
set_option maxHeartbeats 8000000 in
theorem iNextV (gt base b2 : Nat) (P : DPro) (pv ov : Value) (ls : List Int) (w : World) (hb : w.heap[gt]? = some (.cells #[pv, .int .i64 P.next, .int .i64 P.seed, .int .i64 P.state, .int .i64 P.who, .int .i64 P.wait] 25 (0, 0))) (ho : OwI w base pv P.order) (hP : ProW P) (hl : OwI w b2 ov ls) (hn : ls.length ≤ 12) (hg : base ≤ gt) (hbs : base ≤ w.heap.size) :
    Calls Try.prog 23 #[.pointer (some ⟨gt, 0, none⟩), ov] w fun e w' => e = .returned (.int .i64 (nextL ls 2 P).2) ∧ ∃ qv, NxSt w gt base (nextL ls 2 P).1 qv w' := by
  obtain ⟨oa, oc, rfl⟩ := hl.shape
  obtain ⟨n, hnn⟩ : ∃ n, n = ls.length := ⟨_, rfl⟩
  have HLN : Hid (ls.length ≤ 12) := hn
  rw [← hnn] at hl ⊢
  obtain ⟨r, hr⟩ : ∃ r, r = w.heap.size := ⟨_, rfl⟩
  have HGT : Hid (gt < w.heap.size) := (Array.getElem?_eq_some_iff.1 hb).1
  have HM0 : Hid (∀ V, V = w.alloc (.cells #[.int .i64 0] 3) → NxM w gt base b2 r (.slice oa n oc) ls [] P pv (.int .i64 0) V) := fun V hV => by
    subst hV
    have lt : ∀ {v : Value} {b : Nat} {xs : List Int}, OwI w b v xs → v.ownBlock = none ∨ v.ownBlock ≠ some r := fun {v b xs} o => by
      cases hv : v.ownBlock with
      | none => exact .inl rfl
      | some k => exact .inr (by have := (o.lt k hv).2; simp; omega)
    exact ⟨⟨ext_blk (World.grownBy_alloc _ _ _) hb, ho.ext (World.grownBy_alloc _ _ _), (Below.refl _ w).alloc hbs _⟩, by rw [hr]; exact heap_alloc_new w _, hl.ext (World.grownBy_alloc _ _ _), fun D hD => (by cases hD), lt ho, lt hl, Nat.le_trans hbs (by simp), by omega⟩
  have HPW : Hid (ProW P) := hP
  have HPW2 : Hid (ProW (anew ls P)) := anew_w hP (by omega)
  have HG : Hid (base ≤ gt) := hg
  have HBR : Hid (base ≤ r) := by rw [hr]; exact hbs
  have HRW : Hid (r = w.heap.size) := hr
  have HB : Hid (base ≤ w.heap.size) := hbs
  clear hb ho hP hl hn hg hbs hnn
  refine callsIn_wide.1 (callsIn_of_wp_marks (n := 3) Try.func23 rfl trivial (wpIn_wide.2 ?_) rfl)
  simp only [Try.ntmps23, List.size_toArray, List.length_cons, List.length_nil, Nat.reduceAdd, Nat.reduceSub, Array.replicate_succ, Array.replicate_zero, List.push_toArray, List.append_toArray, List.nil_append, List.cons_append]
  go_wp2
  generalize hV : w.alloc _ = V
  have HM : Hid (NxM w gt base b2 r (.slice oa n oc) ls [] P pv (.int .i64 0) V) := HM0.out V hV.symm
  have hsv : w.heap.size < V.heap.size := by rw [← hV]; simp
  rw [← hr]
  clear hV HM0 hr
  refine wp_scope_jumps 0 (fun a W => ∃ (u2 u3 u6 u7 u8 u9 u10 u11 u12 u13 u14 u15 u16 u17 u18 u19 u20 u21 u22 u23 u24 u25 u26 u27 u28 u29 u30 u31 : Value) (D0 : Nat) (qv : Value), a = { tmps := #[.pointer (some ⟨gt, 0, none⟩), .slice oa n oc, u2, u3, .pointer (some ⟨r, 0, none⟩), .bool true, u6, u7, u8, u9, u10, u11, u12, u13, u14, u15, u16, u17, u18, u19, u20, u21, u22, u23, u24, u25, u26, u27, u28, u29, u30, u31], defers := [{ target := .collected D0, args := #[] }] } ∧ w.heap.size < D0 ∧ Hid (goOn ls P = none) ∧ Hid (NxM w gt base b2 r (.slice oa n oc) ls [D0] (anew ls P) qv (.int .i64 0) W)) (fun _ _ => 0) rfl ?first ?pass
  case first =>
    go_wp2_with fail
    go_step3
    go_wp2_with fail
    refine (leftV gt oa n oc V).mono ?_
    rintro e V2 ⟨rfl, hV2⟩
    have XV : Ext V V2 := by rw [hV2]; exact Ext.tr (World.grownBy_alloc _ _ none) (World.grownBy_alloc _ _ none)
    have cP : V2.heap[V.heap.size]? = some (.cells #[.pointer (some ⟨gt, 0, none⟩)] 65 (0, 0)) := by rw [hV2, Below.heap_alloc _ _ _ (by simp)]; exact heap_alloc_new V _
    have cO : V2.heap[V.heap.size + 1]? = some (.cells #[.slice oa n oc] 23 (0, 0)) := by rw [hV2]; simpa using heap_alloc_new (V.alloc (.cells #[.pointer (some ⟨gt, 0, none⟩)] 65 (0, 0))) (.cells #[.slice oa n oc] 23 (0, 0))
    have HM2 : Hid (NxM w gt base b2 r (.slice oa n oc) ls [] P pv (.int .i64 0) V2) := HM.out.ext XV
    have HSV : Hid (w.heap.size < V2.heap.size) := Nat.lt_of_lt_of_le hsv XV.size
    have HCC : Hid (V2.heap[V.heap.size]? = some (.cells #[.pointer (some ⟨gt, 0, none⟩)] 65 (0, 0)) ∧ V2.heap[V.heap.size + 1]? = some (.cells #[.slice oa n oc] 23 (0, 0)) ∧ V.heap.size ≠ gt ∧ V.heap.size + 1 ≠ gt) := ⟨cP, cO, by have := HGT.out; omega, by have := HGT.out; omega⟩
    have HDS : Hid (∀ D ∈ ([] : List Nat), D < V2.heap.size) := fun D hD => (Array.getElem?_eq_some_iff.1 (HM2.out.mrk D hD)).1
    clear hV2 XV cP cO
    go_wp2_with fail
    refine wp_range_once (α := Int × Nat) (gf := 49) (lb := #[.pointer (some ⟨V.heap.size, 0, none⟩), .pointer (some ⟨V.heap.size + 1, 0, none⟩)]) rfl (enters_of Try.func49 (by kernel_rfl) rfl) gt (Nat.lt_trans HGT.out HSV.out) (encs := fun y => #[.int .i64 y.1]) (fun _ => rfl)
      (fun W => goOn ls P = none ∧ NxM w gt base b2 r (.slice oa n oc) ls [] (⟨P.order, (P.order.length : Int), P.seed, P.state, P.who, P.wait⟩ : DPro) pv (.int .i64 0) W)
      (fun y W => goOn ls P = some y ∧ NxM w gt base b2 r (.slice oa n oc) ls [] (⟨P.order, (y.2 : Int), P.seed, P.state, P.who, P.wait⟩ : DPro) pv (.int .i64 0) W)
      (fun y W => goOn ls P = some y ∧ NxM w gt base b2 r (.slice oa n oc) ls [] (⟨P.order, (y.2 : Int), P.seed, P.state, P.who, P.wait⟩ : DPro) pv (.int .i64 y.1) W)
      (fun _ A B row hs hg hr => ⟨hs.1, hs.2.row hg hr (Nat.le_of_lt (Nat.lt_of_le_of_lt HB.out HSV.out)) HDS.out⟩) (fun _ A B row hs hg hr => ⟨hs.1, hs.2.row hg hr (Nat.le_of_lt (Nat.lt_of_le_of_lt HB.out HSV.out)) HDS.out⟩) (fun _ A B row hs hg hr => ⟨hs.1, hs.2.row hg hr (Nat.le_of_lt (Nat.lt_of_le_of_lt HB.out HSV.out)) HDS.out⟩)
      ?seq (fun y => { tmps := #[.pointer (some ⟨gt, 0, none⟩), .slice oa n oc, undef, undef, .pointer (some ⟨r, 0, none⟩), .bool false, .int .i64 y.1, .pointer (some ⟨gt, 0, none⟩), .slice oa n oc, .func (.func 49) #[] #[.pointer (some ⟨V.heap.size, 0, none⟩), .pointer (some ⟨V.heap.size + 1, 0, none⟩)], .int .i64 y.1, undef, undef, undef, undef, undef, undef, undef, undef, undef, undef, undef, undef, undef, undef, undef, undef, undef, undef, undef, undef, undef], defers := [] }) ?assign ?body ?done ?stop
    case seq =>
      intro l W1 R _ hX hnn hyy
      have M1 := HM2.out.ext hX
      refine left1_in l gt V.heap.size (V.heap.size + 1) base b2 P pv (.slice oa n oc) ls W1 R HPW.out M1.st.box M1.st.own M1.oth (cell_of_row _ _ 0 _ _ (0, 0) (ext_blk hX HCC.out.1)) (cell_of_row _ _ 0 _ _ (0, 0) (ext_blk hX HCC.out.2.1)) HCC.out.2.2.1 HCC.out.2.2.2 ?_ ?_
      · exact fun hnone W' hg hx => hnn W' hg ⟨hnone, M1.go HG.out hg hx⟩
      · exact fun x k hs W' hg hx => hyy (x, k) W' hg ⟨hs, M1.go HG.out hg hx⟩
    case assign =>
      intro l y W K hK
      gi_wp2
      exact hK
    case body =>
      rintro l ⟨x, k⟩ U ⟨hs, hm⟩
      have HF : Hid (KeepsOthers U (U.setCell ⟨r, 0, none⟩ (.int .i64 x)) ∧ goOn ls P = some (x, k) ∧ NxM w gt base b2 r (.slice oa n oc) ls [] (⟨P.order, (k : Int), P.seed, P.state, P.who, P.wait⟩ : DPro) pv (.int .i64 x) (U.setCell ⟨r, 0, none⟩ (.int .i64 x))) := ⟨KeepsOthers.setCell _ _ _, hs, hm.setRes _⟩
      obtain ⟨c0, f0⟩ := at_block hm.res 0 _ rfl
      clear hs hm
      gi_wp2
      exact HF.out
    case done =>
      rintro D U hD ⟨hnone, hm⟩ hdf
      have HN0 : Hid (goOn ls P = none) := hnone
      have HDF : Hid (U.heap[D]? = some (.deferred (some []))) := hdf
      have HMU : Hid (NxM w gt base b2 r (.slice oa n oc) ls (D :: []) (⟨P.order, (P.order.length : Int), P.seed, P.state, P.who, P.wait⟩ : DPro) pv (.int .i64 0) U) := ⟨hm.st, hm.res, hm.oth, fun E hE => (List.mem_cons.1 hE).elim (fun h => by rw [h]; exact hdf) (fun h => hm.mrk E h), hm.nq, hm.no, hm.sz, hm.br⟩
      obtain ⟨c0, c1, c2, c3, c4, c5⟩ := cells6 hm.st.box
      have HDB : Hid (w.heap.size < D) := Nat.lt_of_lt_of_le HSV.out hD
      have HDD : Hid (∀ E ∈ ([] : List Nat), E < D) := fun E hE => Nat.lt_of_lt_of_le (HDS.out E hE) hD
      have HSD : Hid (0 ≤ P.seed ∧ P.seed ≤ 2147483647) := HPW.out.2.2
      clear hnone hm hdf hD
      go_wp2_with fail
      refine (iShuffleV _ ls P.seed U HMU.out.oth.vl (by have := HSD.out; omega) (by have := HSD.out; omega)).mono ?_
      rintro e U2 ⟨sv, rfl, o2, b2'⟩
      rw [shufD_ok HLN.out HSD.out.1 HSD.out.2] at o2 ⊢
      have M2 := HMU.out.ext (ext_below b2')
      have hrU : r < U.heap.size := (Array.getElem?_eq_some_iff.1 HMU.out.res).1
      have HM3 : Hid (NxM w gt base b2 r (.slice oa n oc) ls (D :: []) (anew ls P) sv (.int .i64 0) (((U2.setCell ⟨gt, 0, none⟩ sv).setCell ⟨gt, 2, none⟩ (.int .i64 (shufL ls P.seed).2)).setCell ⟨gt, 1, none⟩ (.int .i64 0))) := (M2.turn HG.out o2 HMU.out.sz hrU (shufL ls P.seed).2).setNext HG.out 0
      obtain ⟨sa, sc, hsv2⟩ := o2.shape
      subst hsv2
      obtain ⟨d0, g0⟩ := at_block M2.st.box 0 _ rfl
      obtain ⟨d1, g1⟩ := at_block M2.st.box 1 _ rfl
      obtain ⟨d2, g2⟩ := at_block M2.st.box 2 _ rfl
      clear c0 c1 c2 c3 c4 c5 M2 o2 b2'
      go_wp2
      go_step3
      exact ⟨rfl, _, _, _, _, _, _, _, _, _, _, _, _, _, _, _, _, _, _, _, _, _, _, _, _, _, _, _, _, D, _, rfl, HDB.out, HN0, HM3⟩
    case stop =>
      rintro D ⟨x, k⟩ U hD ⟨hs, hm⟩ hdf
      have hm2 := hm.take hdf (Nat.le_trans HB.out (Nat.le_trans (Nat.le_of_lt HSV.out) hD)) (fun E hE => by cases hE) none
      obtain ⟨cr, _⟩ := at_block hm2.res 0 _ rfl
      refine ⟨by simp, .inl ⟨_, _, rfl, run_takeDeferred hdf, ?_⟩⟩
      refine ⟨.int .i64 x, by simp [results, Try.results23, go_sem, cr], ?_⟩
      rw [nextL_some hs]
      exact ⟨rfl, _, hm2.st⟩
  case pass =>
    rintro a W ⟨u2, u3, u6, u7, u8, u9, u10, u11, u12, u13, u14, u15, u16, u17, u18, u19, u20, u21, u22, u23, u24, u25, u26, u27, u28, u29, u30, u31, D0, qv, rfl, hD0, hgo, HM⟩
    have hsv : w.heap.size < W.heap.size := Nat.lt_trans hD0 (Array.getElem?_eq_some_iff.1 (HM.out.mrk D0 (by simp))).1
    go_wp2_with fail
    refine (leftV gt oa n oc W).mono ?_
    rintro e V2 ⟨rfl, hV2⟩
    have XV : Ext W V2 := by rw [hV2]; exact Ext.tr (World.grownBy_alloc _ _ none) (World.grownBy_alloc _ _ none)
    have cP : V2.heap[W.heap.size]? = some (.cells #[.pointer (some ⟨gt, 0, none⟩)] 65 (0, 0)) := by rw [hV2, Below.heap_alloc _ _ _ (by simp)]; exact heap_alloc_new W _
    have cO : V2.heap[W.heap.size + 1]? = some (.cells #[.slice oa n oc] 23 (0, 0)) := by rw [hV2]; simpa using heap_alloc_new (W.alloc (.cells #[.pointer (some ⟨gt, 0, none⟩)] 65 (0, 0))) (.cells #[.slice oa n oc] 23 (0, 0))
    have HM2 : Hid (NxM w gt base b2 r (.slice oa n oc) ls [D0] (anew ls P) qv (.int .i64 0) V2) := HM.out.ext XV
    have HSV : Hid (w.heap.size < V2.heap.size) := Nat.lt_of_lt_of_le hsv XV.size
    have HCC : Hid (V2.heap[W.heap.size]? = some (.cells #[.pointer (some ⟨gt, 0, none⟩)] 65 (0, 0)) ∧ V2.heap[W.heap.size + 1]? = some (.cells #[.slice oa n oc] 23 (0, 0)) ∧ W.heap.size ≠ gt ∧ W.heap.size + 1 ≠ gt) := ⟨cP, cO, by have := HGT.out; omega, by have := HGT.out; omega⟩
    have HDS : Hid (∀ D ∈ ([D0] : List Nat), D < V2.heap.size) := fun D hD => (Array.getElem?_eq_some_iff.1 (HM2.out.mrk D hD)).1
    clear hV2 XV cP cO
    go_wp2_with fail
    refine wp_range_once (α := Int × Nat) (gf := 49) (lb := #[.pointer (some ⟨W.heap.size, 0, none⟩), .pointer (some ⟨W.heap.size + 1, 0, none⟩)]) rfl (enters_of Try.func49 (by kernel_rfl) rfl) gt (Nat.lt_trans HGT.out HSV.out) (encs := fun y => #[.int .i64 y.1]) (fun _ => rfl)
      (fun W => goOn ls (anew ls P) = none ∧ NxM w gt base b2 r (.slice oa n oc) ls [D0] (⟨(anew ls P).order, ((anew ls P).order.length : Int), (anew ls P).seed, (anew ls P).state, (anew ls P).who, (anew ls P).wait⟩ : DPro) qv (.int .i64 0) W)
      (fun y W => goOn ls (anew ls P) = some y ∧ NxM w gt base b2 r (.slice oa n oc) ls [D0] (⟨(anew ls P).order, (y.2 : Int), (anew ls P).seed, (anew ls P).state, (anew ls P).who, (anew ls P).wait⟩ : DPro) qv (.int .i64 0) W)
      (fun y W => goOn ls (anew ls P) = some y ∧ NxM w gt base b2 r (.slice oa n oc) ls [D0] (⟨(anew ls P).order, (y.2 : Int), (anew ls P).seed, (anew ls P).state, (anew ls P).who, (anew ls P).wait⟩ : DPro) qv (.int .i64 y.1) W)
      (fun _ A B row hs hg hr => ⟨hs.1, hs.2.row hg hr (Nat.le_of_lt (Nat.lt_of_le_of_lt HB.out HSV.out)) HDS.out⟩) (fun _ A B row hs hg hr => ⟨hs.1, hs.2.row hg hr (Nat.le_of_lt (Nat.lt_of_le_of_lt HB.out HSV.out)) HDS.out⟩) (fun _ A B row hs hg hr => ⟨hs.1, hs.2.row hg hr (Nat.le_of_lt (Nat.lt_of_le_of_lt HB.out HSV.out)) HDS.out⟩)
      ?seq (fun y => { tmps := #[.pointer (some ⟨gt, 0, none⟩), .slice oa n oc, u2, u3, .pointer (some ⟨r, 0, none⟩), .bool true, .int .i64 y.1, .pointer (some ⟨gt, 0, none⟩), .slice oa n oc, .func (.func 49) #[] #[.pointer (some ⟨W.heap.size, 0, none⟩), .pointer (some ⟨W.heap.size + 1, 0, none⟩)], .int .i64 y.1, u11, u12, u13, u14, u15, u16, u17, u18, u19, u20, u21, u22, u23, u24, u25, u26, u27, u28, u29, u30, u31], defers := [] }) ?assign ?body ?done ?stop
    case seq =>
      intro l W1 R _ hX hnn hyy
      have M1 := HM2.out.ext hX
      refine left1_in l gt W.heap.size (W.heap.size + 1) base b2 (anew ls P) qv (.slice oa n oc) ls W1 R HPW2.out M1.st.box M1.st.own M1.oth (cell_of_row _ _ 0 _ _ (0, 0) (ext_blk hX HCC.out.1)) (cell_of_row _ _ 0 _ _ (0, 0) (ext_blk hX HCC.out.2.1)) HCC.out.2.2.1 HCC.out.2.2.2 ?_ ?_
      · exact fun hnone W' hg hx => hnn W' hg ⟨hnone, M1.go HG.out hg hx⟩
      · exact fun x k hs W' hg hx => hyy (x, k) W' hg ⟨hs, M1.go HG.out hg hx⟩
    case assign =>
      intro l y W K hK
      gi_wp2
      exact hK
    case body =>
      rintro l ⟨x, k⟩ U ⟨hs, hm⟩
      have HF : Hid (KeepsOthers U (U.setCell ⟨r, 0, none⟩ (.int .i64 x)) ∧ goOn ls (anew ls P) = some (x, k) ∧ NxM w gt base b2 r (.slice oa n oc) ls [D0] (⟨(anew ls P).order, (k : Int), (anew ls P).seed, (anew ls P).state, (anew ls P).who, (anew ls P).wait⟩ : DPro) qv (.int .i64 x) (U.setCell ⟨r, 0, none⟩ (.int .i64 x))) := ⟨KeepsOthers.setCell _ _ _, hs, hm.setRes _⟩
      obtain ⟨c0, f0⟩ := at_block hm.res 0 _ rfl
      clear hs hm
      gi_wp2
      exact HF.out
    case done =>
      rintro D U hD ⟨hnone, hm⟩ hdf
      have HN0 : Hid (goOn ls (anew ls P) = none) := hnone
      have HDF : Hid (U.heap[D]? = some (.deferred (some []))) := hdf
      have HMU : Hid (NxM w gt base b2 r (.slice oa n oc) ls (D :: [D0]) (⟨(anew ls P).order, ((anew ls P).order.length : Int), (anew ls P).seed, (anew ls P).state, (anew ls P).who, (anew ls P).wait⟩ : DPro) qv (.int .i64 0) U) := ⟨hm.st, hm.res, hm.oth, fun E hE => (List.mem_cons.1 hE).elim (fun h => by rw [h]; exact hdf) (fun h => hm.mrk E h), hm.nq, hm.no, hm.sz, hm.br⟩
      obtain ⟨c0, c1, c2, c3, c4, c5⟩ := cells6 hm.st.box
      have HDB : Hid (w.heap.size < D) := Nat.lt_of_lt_of_le HSV.out hD
      have HDD : Hid (∀ E ∈ ([D0] : List Nat), E < D) := fun E hE => Nat.lt_of_lt_of_le (HDS.out E hE) hD
      have HSD : Hid (0 ≤ (anew ls P).seed ∧ (anew ls P).seed ≤ 2147483647) := HPW2.out.2.2
      clear hnone hm hdf hD
      go_wp2_with fail
      refine (iShuffleV _ ls (anew ls P).seed U HMU.out.oth.vl (by have := HSD.out; omega) (by have := HSD.out; omega)).mono ?_
      rintro e U2 ⟨sv, rfl, o2, b2'⟩
      rw [shufD_ok HLN.out HSD.out.1 HSD.out.2] at o2 ⊢
      have M2 := HMU.out.ext (ext_below b2')
      have hrU : r < U.heap.size := (Array.getElem?_eq_some_iff.1 HMU.out.res).1
      have HM3 : Hid (NxM w gt base b2 r (.slice oa n oc) ls (D :: [D0]) (anew ls (anew ls P)) sv (.int .i64 0) (((U2.setCell ⟨gt, 0, none⟩ sv).setCell ⟨gt, 2, none⟩ (.int .i64 (shufL ls (anew ls P).seed).2)).setCell ⟨gt, 1, none⟩ (.int .i64 0))) := (M2.turn HG.out o2 HMU.out.sz hrU (shufL ls (anew ls P).seed).2).setNext HG.out 0
      obtain ⟨sa, sc, hsv2⟩ := o2.shape
      subst hsv2
      obtain ⟨d0, g0⟩ := at_block M2.st.box 0 _ rfl
      obtain ⟨d1, g1⟩ := at_block M2.st.box 1 _ rfl
      obtain ⟨d2, g2⟩ := at_block M2.st.box 2 _ rfl
      clear c0 c1 c2 c3 c4 c5 M2 o2 b2'
      have HM4 : Hid (NxM w gt base b2 r (.slice oa n oc) ls (D :: [D0]) (anew ls (anew ls P)) (.slice sa (shufL ls (anew ls P).seed).1.length sc) (.int .i64 (-1)) ((((U2.setCell ⟨gt, 0, none⟩ (.slice sa (shufL ls (anew ls P).seed).1.length sc)).setCell ⟨gt, 2, none⟩ (.int .i64 (shufL ls (anew ls P).seed).2)).setCell ⟨gt, 1, none⟩ (.int .i64 0)).setCell ⟨r, 0, none⟩ (.int .i64 (-1)))) := HM3.out.setRes _
      obtain ⟨dr, gr⟩ := at_block HM3.out.res 0 _ rfl
      go_wp2
      have hdf := HM4.out.mrk D (by simp)
      have hm2 := (HM4.out.less (Es := [D0]) (fun E hE => by simp at hE; simp [hE])).take hdf (Nat.le_trans HB.out (Nat.le_of_lt HDB.out)) (fun E hE => HDD.out E hE) none
      have hd2 := hm2.mrk D0 (by simp)
      have hm3 := (hm2.less (Es := []) (fun E hE => by cases hE)).take hd2 (Nat.le_trans HB.out (Nat.le_of_lt hD0)) (fun E hE => by cases hE) none
      obtain ⟨cr, _⟩ := at_block hm3.res 0 _ rfl
      refine ⟨by simp, .inl ⟨_, _, rfl, run_takeDeferred hdf, ⟨by simp, .inl ⟨_, _, rfl, run_takeDeferred hd2, ?_⟩⟩⟩⟩
      refine ⟨.int .i64 (-1), by simp [results, Try.results23, go_sem, cr], ?_⟩
      rw [nextL_none hgo.out, nextL_none HN0.out, nextL]
      exact ⟨rfl, _, hm3.st⟩
    case stop =>
      rintro D ⟨x, k⟩ U hD ⟨hs, hm⟩ hdf
      have hm2 := hm.take hdf (Nat.le_trans HB.out (Nat.le_trans (Nat.le_of_lt HSV.out) hD)) (fun E hE => Nat.lt_of_lt_of_le (HDS.out E hE) hD) none
      have hd2 := hm2.mrk D0 (by simp)
      have hm3 := (hm2.less (Es := []) (fun E hE => by cases hE)).take hd2 (Nat.le_trans HB.out (Nat.le_of_lt hD0)) (fun E hE => by cases hE) none
      obtain ⟨cr, _⟩ := at_block hm3.res 0 _ rfl
      refine ⟨by simp, .inl ⟨_, _, rfl, run_takeDeferred hdf, ⟨by simp, .inl ⟨_, _, rfl, run_takeDeferred hd2, ?_⟩⟩⟩⟩
      refine ⟨.int .i64 x, by simp [results, Try.results23, go_sem, cr], ?_⟩
      rw [nextL_none hgo.out, nextL_some hs]
      exact ⟨rfl, _, hm3.st⟩

end Go.Proofs.Ytmodliaieienfaa

namespace Go.Proofs.Ytmodliaieienfaa
open Go.RowKit

theorem others12 {T : DTab} (h : TabP T) : (othersD T).length ≤ 12 := Nat.le_trans (except_len _ _) (by rw [liveD_yes h]; exact Nat.le_trans (liveL_len _) h.1)
theorem others_nn {T : DTab} (h : TabP T) : ∀ x ∈ othersD T, 0 ≤ x := fun x hx => by
  have hx1 : x ∈ liveD T := (List.mem_filter.1 hx).1
  rw [liveD_yes h] at hx1
  unfold liveL at hx1
  obtain ⟨t, ht, rfl⟩ := List.mem_map.1 hx1
  obtain ⟨i, hi⟩ := List.getElem?_of_mem (List.mem_filter.1 ht).1
  have := h.2.1 i (List.getElem?_eq_some_iff.1 hi).1
  have hm := (this t hi).1
  unfold memB at hm
  simp only [Bool.and_eq_true, decide_eq_true_eq] at hm
  exact hm.1.1.1.1.1
theorem scanL_mem {l : List Int} : ∀ {os : List Int} {j : Nat} {x : Int} {k : Nat}, scanL l os j = some (x, k) → x ∈ l
  | [], _, _, _, h => by cases h
  | y :: os, j, x, k, h => by
    rw [scanL] at h
    split at h
    · rename_i hc
      simp only [Option.some.injEq, Prod.mk.injEq] at h
      rw [← h.1]
      simpa using hc
    · exact scanL_mem h
theorem nextL_who {l : List Int} : ∀ (m : Nat) (P : DPro), (nextL l m P).2 = -1 ∨ (nextL l m P).2 ∈ l
  | 0, _ => .inl rfl
  | m + 1, P => by
    cases h : goOn l P with
    | some p =>
      obtain ⟨x, k⟩ := p
      right
      rw [nextL, h]
      exact scanL_mem h
    | none =>
      rw [nextL, h]
      exact nextL_who m _

theorem NxSt.drew {w W : World} {gt base : Nat} {P : DPro} {tv : Value} (h : NxSt w gt base P tv W) (hb : base ≤ W.heap.size) : NxSt w gt base P tv W.drew := h.ext hb (ext_drewN _ 1)

end Go.Proofs.Ytmodliaieienfaa

namespace Go.Proofs.Ytmodliaieienfaa
open Go.RowKit

set_option maxRecDepth 20000 in
set_option maxHeartbeats 2000000 in
theorem iNextProbeV (v u : Value) (P : DPro) (T : DTab) (w : World) (h : VPro w v P) (k : VTab w u T) (hn : P.order.length ≤ 1048576) (kn : T.mems.length ≤ 1048576) :
    Calls Try.prog 10 #[v, u] w fun e w' => ∃ tv, e = .returned (.tuple #[.agg #[tv, .int .i64 (nextPD P T).1.next, .int .i64 (nextPD P T).1.seed, .int .i64 (nextPD P T).1.state, .int .i64 (nextPD P T).1.who, .int .i64 (nextPD P T).1.wait], .int .i64 (nextPD P T).2]) ∧ OwI w' w.heap.size tv (nextPD P T).1.order ∧ Below w.heap.size w w' := by
  have hE : ∀ w : World, ∀ o, Ext w (w.alloc o) := fun w o => World.grownBy_alloc _ _ _
  have HT : Hid (VPro w v P) := h
  have HU : Hid (VTab w u T) := k
  have HN : Hid (P.order.length ≤ 1048576 ∧ T.mems.length ≤ 1048576) := ⟨hn, kn⟩
  obtain ⟨ov, rfl, ho⟩ := h
  obtain ⟨a, cap, rfl⟩ := vl_shape ho
  obtain ⟨mv, rfl, hm⟩ := k
  obtain ⟨ma, mc, rfl⟩ := hm.shape
  obtain ⟨R, hR⟩ : ∃ R, R = nextPD P T := ⟨_, rfl⟩
  rw [← hR]
  have HR : Hid (R = nextPD P T) := hR
  obtain ⟨n, hnn⟩ : ∃ n, n = P.order.length := ⟨_, rfl⟩
  have HNN : Hid (n = P.order.length) := hnn
  obtain ⟨mn, hmn⟩ : ∃ mn, mn = T.mems.length := ⟨_, rfl⟩
  rw [← hnn] at HT ⊢
  rw [← hmn] at HU ⊢
  clear ho hm hR hnn hmn hn kn
  go_enter Try.func10, Try.ntmps10
  go_wp2_with fail
  generalize hW : World.alloc (World.alloc (World.alloc w _) _) _ = W
  have XW : Ext w W := by rw [← hW]; exact ((hE _ _).tr (hE _ _)).tr (hE _ _)
  have P0 : W.heap[w.heap.size]? = some (.cells #[.slice a n cap, .int .i64 P.next, .int .i64 P.seed, .int .i64 P.state, .int .i64 P.who, .int .i64 P.wait] 25 (0, 0)) := by rw [← hW, Below.heap_alloc _ _ _ (by simp; omega), Below.heap_alloc _ _ _ (by simp)]; exact heap_alloc_new w _
  have P1 : W.heap[w.heap.size + 1]? = some (.cells #[.int .i64 T.self, .slice ma mn mc] 28 (0, 0)) := by rw [← hW, Below.heap_alloc _ _ _ (by simp)]; simpa using heap_alloc_new (World.alloc w _) (.cells #[.int .i64 T.self, .slice ma mn mc] 28 (0, 0))
  have P2 : W.heap[w.heap.size + 1 + 1]? = some (.cells #[.slice none 0 0, .int .i64 0, .int .i64 0, .int .i64 0, .int .i64 0, .int .i64 0] 25 (0, 0)) := by rw [← hW]; simpa using heap_alloc_new (World.alloc (World.alloc w _) _) (.cells #[.slice none 0 0, .int .i64 0, .int .i64 0, .int .i64 0, .int .i64 0, .int .i64 0] 25 (0, 0))
  clear hW
  refine (iProberOkV _ P W (HT.out.ext XW) HN.out.1).mono ?_
  rintro e w1 ⟨rfl, b1⟩
  have X1 : Ext w w1 := XW.tr (ext_below b1)
  have Q0 := ext_blk (ext_below b1) P0
  have Q1 := ext_blk (ext_below b1) P1
  have Q2 := ext_blk (ext_below b1) P2
  clear P0 P1 P2 b1 XW
  obtain ⟨p0, p1, p2, p3, p4, p5⟩ := cells6 Q0
  obtain ⟨u0, u1⟩ := two_cells Q1
  have HZ : Hid (∀ W', Ext w W' → W'.heap[w.heap.size + 1 + 1]? = some (.cells #[.slice none 0 0, .int .i64 0, .int .i64 0, .int .i64 0, .int .i64 0, .int .i64 0] 25 (0, 0)) → ¬ (ProP P ∧ TabP T) → R = (zeroPro, -1)) := fun _ _ _ hno => by rw [HR.out]; exact nextPD_no hno
  cases t0 : tB (ProP P)
  · have HK : Hid (R = (zeroPro, -1)) := HZ.out w1 X1 Q2 (fun h' => by rw [tB_true h'.1] at t0; cases t0)
    obtain ⟨r0, f0⟩ := at_block Q2 0 _ rfl
    obtain ⟨r1, f1⟩ := at_block Q2 1 _ rfl
    obtain ⟨r2, f2⟩ := at_block Q2 2 _ rfl
    obtain ⟨r3, f3⟩ := at_block Q2 3 _ rfl
    obtain ⟨r4, f4⟩ := at_block Q2 4 _ rfl
    obtain ⟨r5, f5⟩ := at_block Q2 5 _ rfl
    clear t0
    go_wp2
    refine bodyPost_ret (v := .tuple #[.agg #[.slice none 0 0, .int .i64 0, .int .i64 0, .int .i64 0, .int .i64 0, .int .i64 0], .int .i64 (-1)]) (by simp [results, Try.results10, go_sem, *]) rfl ?_
    rw [HK.out]
    exact ⟨_, rfl, OwI.nil _ _, pro_below (ext_bel X1) (by omega) _ _ _ _ _ _⟩
  have HPP : Hid (ProP P) := tB_iff.1 t0
  clear t0
  go_wp2_with fail
  refine (iTableOkV _ T w1 (HU.out.ext X1) HN.out.2).mono ?_
  rintro e w2 ⟨rfl, b2⟩
  have X2 : Ext w w2 := X1.tr (ext_below b2)
  have S0 := ext_blk (ext_below b2) Q0
  have S1 := ext_blk (ext_below b2) Q1
  have S2 := ext_blk (ext_below b2) Q2
  clear p0 p1 p2 p3 p4 p5 u0 u1 Q0 Q1 Q2 b2 X1
  obtain ⟨p0, p1, p2, p3, p4, p5⟩ := cells6 S0
  cases t0 : tB (TabP T)
  · have HK : Hid (R = (zeroPro, -1)) := HZ.out w2 X2 S2 (fun h' => by rw [tB_true h'.2] at t0; cases t0)
    obtain ⟨r0, f0⟩ := at_block S2 0 _ rfl
    obtain ⟨r1, f1⟩ := at_block S2 1 _ rfl
    obtain ⟨r2, f2⟩ := at_block S2 2 _ rfl
    obtain ⟨r3, f3⟩ := at_block S2 3 _ rfl
    obtain ⟨r4, f4⟩ := at_block S2 4 _ rfl
    obtain ⟨r5, f5⟩ := at_block S2 5 _ rfl
    clear t0
    go_wp2
    refine bodyPost_ret (v := .tuple #[.agg #[.slice none 0 0, .int .i64 0, .int .i64 0, .int .i64 0, .int .i64 0, .int .i64 0], .int .i64 (-1)]) (by simp [results, Try.results10, go_sem, *]) rfl ?_
    rw [HK.out]
    exact ⟨_, rfl, OwI.nil _ _, pro_below (ext_bel X2) (by omega) _ _ _ _ _ _⟩
  have HK : Hid (R = nextL (othersD T) 2 P) := by show _ = _; rw [HR.out]; exact nextPD_yes ⟨HPP.out, tB_iff.1 t0⟩
  have HTP : Hid (TabP T) := tB_iff.1 t0
  clear t0 HZ
  go_wp2_with fail
  refine (copyPV _ P w2 (HT.out.ext X2) HN.out.1).mono ?_
  rintro e w3 ⟨tv3, rfl, o3, b3⟩
  obtain ⟨a3, c3, hv3⟩ := o3.shape
  rw [← HNN.out] at hv3
  subst hv3
  have X3 : Ext w w3 := X2.tr (ext_below b3)
  have T1 := ext_blk (ext_below b3) S1
  have T2 := ext_blk (ext_below b3) S2
  have s3 := b3.size
  have sT := (Array.getElem?_eq_some_iff.1 S2).1
  have HO3 : Hid (OwI w3 w2.heap.size (.slice a3 n c3) P.order) := o3
  have s2 := X2.size
  clear p0 p1 p2 p3 p4 p5 S0 S1 S2 b3 o3
  obtain ⟨u0, u1⟩ := two_cells T1
  have ku0 := fun o => World.grownBy.cell (World.grownBy_alloc w3 o none) u0 (by simp)
  have ku1 := fun o => World.grownBy.cell (World.grownBy_alloc w3 o none) u1 (by simp)
  go_wp2_with fail
  clear ku0 ku1
  generalize hU : w3.alloc _ = U
  have XU : Ext w3 U := by rw [← hU]; exact hE _ _
  have PU : U.heap[w3.heap.size]? = some (.cells #[.slice a3 n c3, .int .i64 P.next, .int .i64 P.seed, .int .i64 P.state, .int .i64 P.who, .int .i64 P.wait] 25 (0, 0)) := by rw [← hU]; exact heap_alloc_new w3 _
  clear hU
  refine (iOthersV _ T U (HU.out.ext (X3.tr XU)) HN.out.2).mono ?_
  rintro e U5 ⟨lv, rfl, o5, b5⟩
  have X5 : Ext U U5 := ext_below b5
  have HO5 : Hid (OwI U5 U.heap.size lv (othersD T)) := o5
  obtain ⟨la, lc, hlv⟩ := o5.shape
  obtain ⟨ln, hln⟩ : ∃ ln, ln = (othersD T).length := ⟨_, rfl⟩
  rw [← hln] at hlv
  subst hlv
  have PU5 := ext_blk X5 PU
  clear o5 b5 hln
  go_wp2_with fail
  refine (iNextV w3.heap.size w2.heap.size U.heap.size P _ _ (othersD T) U5 PU5 (HO3.out.ext (XU.tr X5)) HPP.out.w HO5.out (others12 HTP.out) s3 (Nat.le_trans s3 (Nat.le_trans XU.size X5.size))).mono ?_
  rintro e w4 ⟨rfl, qv, S5⟩
  have S4 := (⟨S5.box, S5.own, ((ext_bel X5).mono (Nat.le_trans s3 XU.size)).trans S5.low⟩ : NxSt U w3.heap.size w2.heap.size _ qv w4)
  clear S5 PU5 HO5
  rw [← HK.out] at S4 ⊢
  have hUS := XU.size
  have Q4 : w4.heap[w.heap.size + 1 + 1]? = some (.cells #[.slice none 0 0, .int .i64 0, .int .i64 0, .int .i64 0, .int .i64 0, .int .i64 0] 25 (0, 0)) := (S4.low.block _ (by omega)).trans (ext_blk XU T2)
  have HB4 : Hid (Below w.heap.size w w4) := (ext_bel (X3.tr XU)).trans (S4.low.mono s2)
  have HO4 : Hid (OwI w4 w2.heap.size qv R.1.order) := S4.own
  obtain ⟨qa, qc, hqv⟩ := S4.own.shape
  obtain ⟨ql, hql⟩ : ∃ ql, ql = R.1.order.length := ⟨_, rfl⟩
  rw [← hql] at hqv
  subst hqv
  have NB : (Value.slice qa ql qc).ownBlock = none ∨ (Value.slice qa ql qc).ownBlock ≠ some (w.heap.size + 1 + 1) := by
    cases hv : (Value.slice qa ql qc).ownBlock with
    | none => exact .inl rfl
    | some k => exact .inr (by have := (HO4.out.lt k hv).1; simp; omega)
  obtain ⟨p0, p1, p2, p3, p4, p5⟩ := cells6 S4.box
  obtain ⟨r0, f0⟩ := at_block Q4 0 _ rfl
  obtain ⟨r1, f1⟩ := at_block Q4 1 _ rfl
  obtain ⟨r2, f2⟩ := at_block Q4 2 _ rfl
  obtain ⟨r3, f3⟩ := at_block Q4 3 _ rfl
  obtain ⟨r4, f4⟩ := at_block Q4 4 _ rfl
  obtain ⟨r5, f5⟩ := at_block Q4 5 _ rfl
  obtain ⟨⟨ro, rn, rs, rt, rw', ra⟩, rid⟩ := R
  simp only at p1 p2 p3 p4 p5 HO4 ⊢
  clear S4 PU XU Q4 T1 T2 X3 X2 hql hUS u0 u1
  go_wp2
  refine bodyPost_ret (v := .tuple #[.agg #[.slice qa ql qc, .int .i64 rn, .int .i64 rs, .int .i64 rt, .int .i64 rw', .int .i64 ra], .int .i64 rid]) (by simp [results, Try.results10, go_sem, *]) rfl ?_
  exact ⟨_, rfl, (pro_own HO4.out NB _ _ _ _ _ _).base s2, pro_below HB4.out (by omega) _ _ _ _ _ _⟩

end Go.Proofs.Ytmodliaieienfaa

namespace Go.Proofs.Ytmodliaieienfaa
open Go.RowKit

set_option maxHeartbeats 1000000 in
theorem iProberNewV (s : Int) (w : World) (_h1 : -9223372036854775808 ≤ s) (_h2 : s ≤ 9223372036854775807) :
    Calls Try.prog 5 #[.int .i64 s] w fun e w' => ∃ tv, e = .returned (.tuple #[.agg #[tv, .int .i64 (newPD s).1.next, .int .i64 (newPD s).1.seed, .int .i64 (newPD s).1.state, .int .i64 (newPD s).1.who, .int .i64 (newPD s).1.wait], .bool (newPD s).2]) ∧ OwI w' w.heap.size tv (newPD s).1.order ∧ Below w.heap.size w w' := by
  have hB : ∀ w : World, ∀ o, Below w.heap.size w (w.alloc o) := fun w o => (Below.refl _ w).alloc (Nat.le_refl _) _
  obtain ⟨R, hR⟩ : ∃ R, R = newPD s := ⟨_, rfl⟩
  rw [← hR]
  by_cases h : s < 0 ∨ 2147483647 < s
  · have HK : Hid (R = (zeroPro, false)) := by show _ = _; rw [hR]; exact if_pos h
    have h1 := seed_no h
    clear hR h
    go_enter Try.func5, Try.ntmps5
    go_wp2_with (go_at_call 16; refine (seedOkV _ _).mono ?_; rintro e w1 ⟨rfl, hw1⟩; have hw2 := hw1.symm; clear hw1; subst hw2; rw [h1])
    refine bodyPost_ret (v := .tuple #[.agg #[.slice none 0 0, .int .i64 0, .int .i64 0, .int .i64 0, .int .i64 0, .int .i64 0], .bool false]) (by simp [results, Try.results5, go_sem]) rfl ?_
    rw [HK.out]
    exact ⟨_, rfl, OwI.nil _ _, by first | exact hB _ _ | exact pro_below (hB _ _) (Nat.le_refl _) _ _ _ _ _ _⟩
  · have HK : Hid (R = (⟨[], 0, s, 0, 0, 0⟩, true)) := by show _ = _; rw [hR]; exact if_neg h
    have h1 := seed_yes h
    clear hR h
    go_enter Try.func5, Try.ntmps5
    go_wp2_with (go_at_call 16; refine (seedOkV _ _).mono ?_; rintro e w1 ⟨rfl, hw1⟩; have hw2 := hw1.symm; clear hw1; subst hw2; rw [h1])
    refine bodyPost_ret (v := .tuple #[.agg #[.slice none 0 0, .int .i64 0, .int .i64 s, .int .i64 0, .int .i64 0, .int .i64 0], .bool true]) (by simp [results, Try.results5, go_sem]) rfl ?_
    rw [HK.out]
    exact ⟨_, rfl, OwI.nil _ _, by first | exact hB _ _ | exact pro_below (hB _ _) (Nat.le_refl _) _ _ _ _ _ _⟩

end Go.Proofs.Ytmodliaieienfaa

namespace Go.Proofs.Ytmodliaieienfaa
open Go.RowKit

theorem pro0_ok {s : Int} (h0 : 0 ≤ s) (h1 : s ≤ 255) : ProP ⟨[], 0, s, 0, 0, 0⟩ := by
  refine ⟨Nat.zero_le _, ⟨Int.le_refl _, Int.le_refl _⟩, ⟨h0, by show s ≤ 2147483647; omega⟩, ⟨Int.le_refl _, by show (0 : Int) ≤ 2; omega⟩, ⟨Int.le_refl _, by show (0 : Int) ≤ 4; omega⟩, ⟨Int.le_refl _, by show (0 : Int) < 12; omega⟩, ?_, .inr ⟨rfl, rfl⟩⟩
  intro i hi
  exact absurd hi (Nat.not_lt_zero _)

set_option maxRecDepth 20000 in
set_option maxHeartbeats 1000000 in
theorem law_FnRounds (a : Option Addr) (n cap : Nat) (xs : List Int) (w : World) (hr : Rd w a n xs) (hnc : n ≤ cap) (hm : cap ≤ maxLen) :
    Calls Try.prog 3 #[.slice a n cap] w fun e w' => e = .returned (.bool true) ∧ Below w.heap.size w w' := by
  have hE : ∀ w : World, ∀ o, Ext w (w.alloc o) := fun w o => World.grownBy_alloc _ _ _
  have HR : Hid (Rd w a n xs) := hr
  have HMM : Hid (n ≤ maxLen) := Nat.le_trans hnc hm
  clear hr hnc hm
  go_enter Try.func3, Try.ntmps3
  go_wp2_with fail
  refine (drawNP a n cap xs w HR.out HMM.out).mono ?_
  rintro e w1 ⟨T, ta, tc, pa, pn, pc, i1, i2, i3, i4, i5, rfl, hv1, hl1, b1⟩
  obtain ⟨tn, htn⟩ : ∃ tn, tn = T.mems.length := ⟨_, rfl⟩
  have HTN : Hid (tn = T.mems.length) := htn
  rw [← htn] at hv1 ⊢
  have HV1 : Hid (VMem w1 (.slice ta tn tc) T.mems) := hv1
  have HL1 : Hid (T.mems.length ≤ 1048576) := Nat.le_trans hl1 (by omega)
  have HB1 : Hid (Below w.heap.size w w1) := b1
  clear hv1 hl1 b1 htn
  go_wp2_with fail
  generalize hW : World.alloc (World.alloc w1 _) _ = W
  have XW : Ext w1 W := by rw [← hW]; exact (hE _ _).tr (hE _ _)
  have T0 : W.heap[w1.heap.size + 1]? = some (.cells #[.int .i64 T.self, .slice ta tn tc] 28 (0, 0)) := by rw [← hW]; simpa using heap_alloc_new (World.alloc w1 _) (.cells #[.int .i64 T.self, .slice ta tn tc] 28 (0, 0))
  have HXW : Hid (Ext w1 W) := XW
  have HT0 : Hid (W.heap[w1.heap.size + 1]? = some (.cells #[.int .i64 T.self, .slice ta tn tc] 28 (0, 0))) := T0
  clear hW XW T0
  refine (at1 a n cap xs W (HR.out.grown ((ext_below HB1.out).tr HXW.out)) HMM.out).mono ?_
  rintro e w2 ⟨s, hs0, hs1, rfl, hw2⟩
  have hw2' := hw2.symm
  subst hw2'
  have HNP : newPD s = (⟨[], 0, s, 0, 0, 0⟩, true) := if_neg (by omega)
  have HPN : Hid (∀ V, Calls Try.prog 5 #[.int .i64 s] V fun e w' => ∃ tv, e = .returned (.tuple #[.agg #[tv, .int .i64 0, .int .i64 s, .int .i64 0, .int .i64 0, .int .i64 0], .bool true]) ∧ OwI w' V.heap.size tv [] ∧ Below V.heap.size V w') := fun V => by
    have := iProberNewV s V (by omega) (by omega)
    rw [HNP] at this
    exact this
  clear HNP
  go_wp2_with fail
  refine (HPN.out W).mono ?_
  rintro e w3 ⟨tv, rfl, o3, b3⟩
  obtain ⟨va, vc, hva⟩ := o3.shape
  rw [List.length_nil] at hva
  subst hva
  have HO3 : Hid (OwI w3 W.heap.size (.slice va 0 vc) []) := o3
  have HX3 : Hid (Ext W w3) := ext_below b3
  have HS0 : Hid (0 ≤ s ∧ s ≤ 2147483647) := ⟨hs0, by omega⟩
  clear o3 b3 HPN
  have HVV : Hid (∀ V, V = w3.alloc (.cells #[.slice va 0 vc, .int .i64 0, .int .i64 s, .int .i64 0, .int .i64 0, .int .i64 0] 25 (0, 0)) → VTab V (.agg #[.int .i64 T.self, .slice ta tn tc]) T ∧ V.heap[w1.heap.size + 1]? = some (.cells #[.int .i64 T.self, .slice ta tn tc] 28 (0, 0)) ∧ RdS w1 (w1.heap.size + 1) w3.heap.size T ta tn tc ⟨[], 0, s, 0, 0, 0⟩ [] (.slice none 0 0) V) := fun V hV => by
    have XV : Ext w3 V := by rw [hV]; exact hE _ _
    have q1 := ext_blk (HX3.out.tr XV) HT0.out
    refine ⟨⟨_, rfl, HV1.out.ext (HXW.out.tr (HX3.out.tr XV))⟩, q1, q1, ⟨_, by rw [hV]; exact heap_alloc_new _ _, (HO3.out.ext XV).vl⟩, OwI.nil _ _, ext_bel (HXW.out.tr (HX3.out.tr XV)), Nat.le_trans HXW.out.size HX3.out.size⟩
  have HGP : Hid (w1.heap.size + 1 < w3.heap.size) := Nat.lt_of_lt_of_le (Array.getElem?_eq_some_iff.1 HT0.out).1 HX3.out.size
  go_upto_region 3 with fail
  generalize hV : w3.alloc _ = V
  obtain ⟨q0, q1, q2⟩ := HVV.out V hV.symm
  have HQ0 := hideR2 q0
  have HQ1 := hideR2 q1
  have HQ2 := hideR2 q2
  obtain ⟨x0, x1⟩ := two_cells q1
  obtain ⟨tvp, hp1, hp2⟩ := q2.pro
  clear hV HVV q0 q1 q2
  have HP1 := hideR2 hp1
  have HP2 := hideR2 hp2
  clear hp1 hp2
  go_wp2_with fail
  refine (sTableOkV _ T V HQ0.out HL1.out).mono ?_
  rintro e w4 ⟨rfl, b4⟩
  have X4 : Ext V w4 := ext_below b4
  have HR4 := hideR2 (HQ2.out.ext X4)
  have HQ4 := hideR2 (HQ0.out.ext X4)
  have HP4 := hideR2 (ext_blk X4 HP1.out)
  have HO4 := hideR2 (HP2.out.ext X4)
  have HB4 := hideR2 (HB1.out.trans (HR4.out.bel.mono HB1.out.size))
  obtain ⟨y0, y1⟩ := two_cells HR4.out.tab
  clear b4 X4 HQ2 HQ0 HP1 HP2 HQ1 x0 x1
  by_cases hp : TabP T
  case neg =>
    rw [tB_false hp]
    obtain ⟨z0, z1, z2, z3, z4, z5⟩ := cells6 HP4.out
    go_wp2_with fail
    refine (iProberOkV _ ⟨[], 0, s, 0, 0, 0⟩ w4 ⟨_, rfl, HO4.out⟩ (by simp)).mono ?_
    rintro e w5 ⟨rfl, b5⟩
    rw [tB_true (pro0_ok hs0 hs1)]
    go_wp2
    go_ret
    exact ⟨rfl, HB4.out.trans (b5.mono HB4.out.size)⟩
  rw [tB_true hp]
  have HP := hideR2 hp
  clear hp
  go_wp2_with fail
  refine (iLiveV _ T w4 HQ4.out HL1.out).mono ?_
  rintro e w5 ⟨lv, rfl, o5, b5⟩
  have X5 : Ext w4 w5 := ext_below b5
  obtain ⟨L, hL⟩ : ∃ L, L = liveD T := ⟨_, rfl⟩
  rw [← hL] at o5
  obtain ⟨la, lc, hlv⟩ := o5.shape
  obtain ⟨lm, hlm⟩ : ∃ lm, lm = L.length := ⟨_, rfl⟩
  have HLM : Hid (lm = L.length) := hlm
  have HLL : Hid (L.length ≤ 1048576) := by show _ ≤ _; rw [hL]; exact live_len HL1.out
  have hlm1 : (lm : Int) ≤ 1048576 := by have := HLL.out; omega
  have HOT : Hid (othersD T = exceptL L T.self) := by show _ = _; rw [hL]; rfl
  rw [← hlm] at hlv
  subst hlv
  have HLV : Hid (VL fI w5 (.slice la lm lc) L) := o5.vl
  have HR5 := hideR2 (HR4.out.ext X5)
  obtain ⟨y0, y1⟩ := two_cells HR5.out.tab
  clear hL o5 b5 X5 hlm HR4 HQ4 HP4 HO4 HB4
  go_wp2
  go_loopw [7, 9] (fun cv i wr => ∃ k q : Nat, k ≤ lm ∧ i = .int .i64 k ∧ wr = w5.drewN q ∧ ∃ c : Nat, Hid (c = (exceptL (L.take k) T.self).length) ∧ c ≤ k ∧ cv = .int .i64 c) (fun _ i _ => lm - (intOf i).toNat)
  case atStart => exact ⟨0, 0, Nat.zero_le _, rfl, rfl, 0, by show _ = _; simp [exceptL], Nat.le_refl _, rfl⟩
  case round =>
    obtain ⟨k, q, hk, rfl, rfl, c, hc, hck, rfl⟩ := hrel
    by_cases hlt : k < lm
    · obtain ⟨y, hy⟩ : ∃ y, L[k]? = some y := ⟨_, List.getElem?_eq_getElem (by have := HLM.out; omega)⟩
      obtain ⟨b, o, rfl, hcc⟩ := HLV.out.get hy
      have ck := hcc k y hy
      have hlt' : (k : Int) < (lm : Int) := by omega
      have HNX := except_take (s := T.self) hy
      clear hcc hy
      by_cases e : y = T.self
      · have HX : Hid (c = (exceptL (L.take (k + 1)) T.self).length) := by show _ = _; rw [HNX, if_pos e, List.append_nil]; exact hc.out
        have e' : (y != T.self) = false := by simpa using e
        clear HNX e
        go_wp2_with fail
        go_quiet (fail)
        go_wp2
        go_roundw
        case rel => exact ⟨k + 1, _, by omega, by go_num, by first | rfl | exact World.drewN_drewN _ _ _, c, HX, by omega, rfl⟩
        case measure => simp [intOf]; omega
      · have HX : Hid (c + 1 = (exceptL (L.take (k + 1)) T.self).length) := by show _ = _; rw [HNX, if_neg e, List.length_append]; have := hc.out; simp; omega
        have e' : (y != T.self) = true := by simpa using e
        clear HNX e
        go_wp2_with fail
        go_quiet (fail)
        go_wp2
        go_roundw
        case rel => exact ⟨k + 1, _, by omega, by go_num, by first | rfl | exact World.drewN_drewN _ _ _, c + 1, HX, by omega, by go_num⟩
        case measure => simp [intOf]; omega
    · have hkm : k = lm := by omega
      subst hkm
      have HM : Hid (c = (othersD T).length) := by show _ = _; rw [HOT.out, hc.out, List.take_of_length_le (by have := HLM.out; omega)]
      have hc1 : (c : Int) ≤ 1048576 := by omega
      generalize hq : World.drewN w5 q = w6
      have X6 : Ext w5 w6 := by rw [← hq]; exact ext_drewN _ _
      have HR6 := hideR2 (HR5.out.ext X6)
      clear hq X6 y0 y1 hc hlt hck hk HLV HR5
      obtain ⟨S, hS⟩ : ∃ S, S = (shufL (othersD T) s).1 := ⟨_, rfl⟩
      have HS := hideR2 hS
      have HSL : Hid (S.length = c) := by show _ = _; rw [hS, HM.out]; exact shufL_len _ _
      have HND : Hid (S.Nodup) := by show S.Nodup; rw [hS]; exact ((shufL_perm _ _).nodup_iff).2 (others_nodup HP.out)
      clear hS
      go_wp2
      go_loopw [10, 11] (fun sv i wr => ∃ k : Nat, k ≤ c ∧ i = .int .i64 k ∧ Hid (RdS w1 (w1.heap.size + 1) w3.heap.size T ta tn tc (rdP T s k) (S.take k) sv wr)) (fun _ i _ => c - (intOf i).toNat)
      case atStart => exact ⟨0, Nat.zero_le _, rfl, HR6.out⟩
      case round =>
        obtain ⟨k, hk, rfl, hR⟩ := hrel
        obtain ⟨wo, hwo⟩ : ∃ wo, wo = wr := ⟨_, rfl⟩
        subst hwo
        obtain ⟨sa, scp, hsv⟩ := hR.out.seen.shape
        have hsl : (S.take k).length = k := by rw [List.length_take, HSL.out]; omega
        rw [hsl] at hsv
        subst hsv
        clear hsl
        by_cases hlt : k < c
        · obtain ⟨x, hx⟩ : ∃ x, S[k]? = some x := ⟨_, List.getElem?_eq_getElem (by have := HSL.out; omega)⟩
          have HX := hideR2 hx
          have hx' : (shufL (othersD T) s).1[k]? = some x := by rw [← HS.out]; exact hx
          have hmem : x ∈ othersD T := (shufL_perm (othersD T) s).mem_iff.1 (List.mem_of_getElem? hx')
          obtain ⟨hxs, _, _, _, _, _, hx0, hx12⟩ := others_mem HP.out hmem
          obtain ⟨t, hof, hst⟩ := others_of HP.out hmem
          have HOF := hideR2 hof
          obtain ⟨P, hPP⟩ : ∃ P, P = rdP T s k := ⟨_, rfl⟩
          obtain ⟨P', hPP'⟩ : ∃ P', P' = rdP T s (k + 1) := ⟨_, rfl⟩
          have HNX : Hid (∀ W v u, VPro W v P → VTab W u T → Calls Try.prog 10 #[v, u] W fun e w' => ∃ tv, e = .returned (.tuple #[.agg #[tv, .int .i64 P'.next, .int .i64 P'.seed, .int .i64 P'.state, .int .i64 P'.who, .int .i64 P'.wait], .int .i64 x]) ∧ OwI w' W.heap.size tv P'.order ∧ Below W.heap.size W w') := fun W v u h1 h2 => by
            have hn := rd_next HP.out HS0.out hx'
            rw [← hPP, ← hPP'] at hn
            have hc := iNextProbeV v u P T W h1 h2 (by have := (rdP_ok HP.out HS0.out k (by have := HM.out; omega)).1; rw [← hPP] at this; omega) HL1.out
            rw [hn] at hc
            exact hc
          rw [← hPP] at hR
          have HPK := hideR2 hPP'
          obtain ⟨tvp, hp1, hp2⟩ := hR.out.pro
          have HP2 := hideR2 hp2
          obtain ⟨z0, z1, z2, z3, z4, z5⟩ := cells6 hp1
          obtain ⟨y0, y1⟩ := two_cells hR.out.tab
          have HVT : Hid (∀ W, Ext wo W → VTab W (.agg #[.int .i64 T.self, .slice ta tn tc]) T) := fun W e => ⟨_, rfl, HV1.out.ext ((ext_below hR.out.bel).tr e)⟩
          have hlt' : (k : Int) < (c : Int) := by omega
          clear hx hx' hmem hof hPP hPP' hp1 hp2
          go_wp2_with fail
          refine (HNX.out wo _ _ ⟨_, rfl, HP2.out⟩ (HVT.out wo (ext_below (Below.refl _ wo)))).mono ?_
          rintro e w7 ⟨tv7, rfl, o7, b7⟩
          obtain ⟨va7, vc7, hv7⟩ := o7.shape
          obtain ⟨pn7, hpn7⟩ : ∃ pn7, pn7 = P'.order.length := ⟨_, rfl⟩
          rw [← hpn7] at hv7
          subst hv7
          have HO7 : Hid (OwI w7 wo.heap.size (.slice va7 pn7 vc7) P'.order) := o7
          have HX7 : Hid (Ext wo w7) := ext_below b7
          clear o7 b7 hpn7 z0 z1 z2 z3 z4 z5 y0 y1 HNX HP2
          go_upto_region 17 with fail
          generalize hV7 : w7.alloc _ = V7
          have XV : Ext w7 V7 := by rw [← hV7]; exact hE _ _
          have HG7 : Hid (V7.heap[w7.heap.size]? = some (.cells #[.slice va7 pn7 vc7, .int .i64 P'.next, .int .i64 P'.seed, .int .i64 P'.state, .int .i64 P'.who, .int .i64 P'.wait] 25 (0, 0))) := by rw [← hV7]; exact heap_alloc_new _ _
          have HOV : Hid (OwI V7 wo.heap.size (.slice va7 pn7 vc7) P'.order) := HO7.out.ext XV
          have HXV : Hid (Ext wo V7) := HX7.out.tr XV
          have HSV : Hid (VL fI V7 (.slice sa k scp) (S.take k)) := (hR.out.seen.ext HXV.out).vl
          clear hV7 XV HO7 HX7
          go_wp2
          go_loopw [14] (fun i wo' => ∃ j : Nat, j ≤ k ∧ i = .int .i64 j ∧ wo' = V7) (fun i _ => k - (intOf i).toNat)
          case atStart => exact ⟨0, Nat.zero_le _, rfl, rfl⟩
          case round =>
            obtain ⟨j, hj, rfl, rfl⟩ := hrel
            by_cases hjk : j < k
            · obtain ⟨y, hy⟩ : ∃ y, S[j]? = some y := ⟨_, List.getElem?_eq_getElem (by have := HSL.out; omega)⟩
              have hne := nodup_at HND.out hy HX.out hjk
              have hy2 : (S.take k)[j]? = some y := by rw [List.getElem?_take, if_pos hjk]; exact hy
              obtain ⟨b, o, rfl, hcc⟩ := HSV.out.get hy2
              have ck := hcc j y hy2
              have hjk' : (j : Int) < (k : Int) := by omega
              have e' : (y == x) = false := by simpa using hne
              clear hcc hy2 hy hne
              go_wp2
              go_roundw
              case rel => exact ⟨j + 1, by omega, by go_num, by first | trivial | rfl⟩
              case measure => simp [intOf]; omega
            · have hjj : j = k := by omega
              subst hjj
              obtain ⟨y0, y1⟩ := two_cells (ext_blk HXV.out hR.out.tab)
              have d1 : decide (x < 0) = false := decide_eq_false (by omega)
              have d2 : (x == T.self) = false := by simpa using hxs
              have d3 : decide (t.st > 1) = false := decide_eq_false (by omega)
              clear hst hxs hx0 hx12 hjk hj
              have hfd : ∀ W, (Instr.field 40 (.agg #[.int .i64 t.id, .int .i64 t.st, .int .i64 t.life]) 1).run Try.prog W = .ok (.int .i64 t.st) W := fun W => run_state W _ _ _
              go_wp2_with fail
              refine (lifeV _ T x t _ (HVT.out _ HXV.out) HL1.out HOF.out).mono ?_
              rintro e w8 ⟨rfl, b8⟩
              have X8 : Ext wo w8 := HXV.out.tr (ext_below b8)
              have HX8 := hideR2 X8
              have HO8 := hideR2 (HOV.out.ext (ext_below b8))
              have HG8 := hideR2 (ext_blk (ext_below b8) HG7.out)
              have HS8 := hideR2 (hR.out.seen.ext X8)
              have HSZ := hideR2 (Nat.le_trans hR.out.bel.size X8.size)
              have HTK : Hid (S.take j ++ [x] = S.take (j + 1)) := by show _ = _; rw [List.take_add_one, HX.out]; rfl
              clear b8 X8 y0 y1
              go_wp2_with (at_builtin; refine wpList_append_i1 _ rfl (.tmp 93) (.tmp 95) rfl w1.heap.size _ (S.take j) rfl (HS8.out.ext (hE _ _)) _ x rfl (by simp) (by rw [List.length_take]; have := HSL.out; omega) (by have := HSZ.out; simp; omega) ?_; intro v9 w9 o9 g9; rw [HTK.out] at o9; obtain ⟨x9, ⟨c0, c1, c2, c3, c4, c5, p9⟩, R9⟩ := rd_step hR.out HX8.out HO8.out HG8.out g9 o9; have HR9 := hideR2 R9; obtain ⟨z0, z1, z2, z3, z4, z5⟩ := cells6 x9; obtain ⟨u0, f0⟩ := at_block p9 0 _ rfl; obtain ⟨u1, f1⟩ := at_block p9 1 _ rfl; obtain ⟨u2, f2⟩ := at_block p9 2 _ rfl; obtain ⟨u3, f3⟩ := at_block p9 3 _ rfl; obtain ⟨u4, f4⟩ := at_block p9 4 _ rfl; obtain ⟨u5, f5⟩ := at_block p9 5 _ rfl; clear x9 p9 R9 o9 g9)
              go_roundw
              case rel => exact ⟨j + 1, by omega, by go_num, by rw [← HPK.out]; exact HR9⟩
              case measure => simp [intOf]; omega
        · have hkc : k = c := by omega
          subst hkc
          have hB := hR.out.bel
          go_wp2
          go_ret
          exact ⟨by first | rfl | simp, HB1.out.trans (hB.mono HB1.out.size)⟩

end Go.Proofs.Ytmodliaieienfaa

namespace Go.Proofs.Ytmodliaieienfaa
open Go.ChangeShapes Go.WideShapes Go.ChangeAt Go.RowKit

theorem own : ownKnob Try.prog.godebug = none := by kernel_rfl
theorem laidOut : laidOutB Try.prog = true := by kernel_rfl

/-- What is known of a slice of bytes that came in. -/
def IsRow (w : World) (a : Option Addr) (len cap : Nat) (xs : List Int) : Prop := Rd w a len xs ∧ len ≤ cap ∧ cap ≤ maxLen

theorem isRow_open {H : Type} {enc : TypeId × Value → H} {W : World} {a : Option Addr} {len cap : Nat} {d : DataW H} {p : List MemPlace} (h : DataW.Trod enc Try.prog W 0 (fun _ => true) true 22 (Value.slice a len cap) d p) : ∃ xs, IsRow W a len cap xs := by
  obtain ⟨fuel, hf⟩ := h
  rcases open_ints Try.underlying22 Try.underlying5 (by kernel_rfl) hf with ⟨hcs, _⟩ | ⟨x, l, c, zs, hcs, _, hl, hm, hz, _, hcell, hwz⟩
  · simp [Value.cells] at hcs
    obtain ⟨rfl, rfl, rfl⟩ := hcs
    exact ⟨[], Rd.nil _ _, Nat.le_refl _, Nat.zero_le _⟩
  · simp [Value.cells] at hcs
    obtain ⟨rfl, rfl, rfl⟩ := hcs
    have hz' : zs.length = cap := by simpa using hz
    refine ⟨zs.take len, ⟨by simp; omega, fun i hi => ?_, fun x hx => ?_⟩, hl, hm⟩
    · have hi' : i < zs.length := by omega
      have hc := hcell i hi'
      obtain ⟨b, off, spot⟩ := x
      have hspot : spot = none := by simpa [Addr.add] using World.cell?_spot (hcell 0 (by omega))
      subst hspot
      refine ⟨b, off, rfl, ?_⟩
      rw [Addr.add_lit] at hc
      rw [hc]
      simp [List.getD, hi]
    · have := hwz x (List.mem_of_mem_take hx)
      simp [Lit.wf, IntKind.min, IntKind.max, IntKind.signed, IntKind.bits] at this
      omega

set_option maxRecDepth 100000 in
theorem lifted (os : Os) (started : os.Started) (H : Type) (enc : TypeId × Value → H) :
    ReturnsInHanded {} Try.checked os 3 .any (Rows.fnRoundsSpec.pre6 enc Try.prog Try.f3 Rows.fnRoundsRow.domain false) (Rows.fnRoundsSpec.post enc Try.prog Try.f3 false true false false) := by
  refine returnsInHanded_of_change (C := Try.checked) own started (by kernel_rfl) Try.func3
    (ChangeSpec.witness6 (enc := enc) (C := Try.checked) false ⟨#[], #[.slice none 0 0], []⟩ 8 (by kernel_rfl) (by kernel_rfl) (by kernel_rfl) (by kernel_rfl)) ?_
  intro W base args ds gs before hval0 hW hcnd _
  have hval : ∀ (j : Nat) t v, Try.f3.params[j]? = some t → args[j]? = some v → Value.okWide Try.prog W .any base t v := hval0
  have hW' := hW
  obtain ⟨p, q, hA0, hV, rfl, hfz, hnd⟩ := hW
  have hA : DataW.TrodAll enc Try.prog W 0 (fun _ => true) true Try.f3.params.toList args.toList ds p := hA0
  rw [Try.params3] at hA hval
  obtain ⟨v0, vs0, d0, ds0, p0, q0, hargs, rfl, rfl, h0, r0⟩ := trodAll_cons hA
  obtain ⟨rfl, rfl, rfl⟩ := trodAll_nil r0
  obtain rfl : args = #[v0] := by cases args; simp_all
  obtain ⟨rfl, rfl⟩ := trodVars_none hV
  obtain ⟨a0, len0, cap0, rfl⟩ := okWide_slice Try.underlying22 (hval 0 22 v0 rfl rfl)
  have k0 := h0
  have lt0 : ∀ x ∈ p0, x.block < W.heap.size := by obtain ⟨m, hm⟩ := k0; exact DataW.trod_lt m _ _ _ hm
  obtain ⟨z0, w0⟩ := isRow_open h0
  clear hA0 hval0
  refine (law_FnRounds a0 len0 cap0 z0 W w0.1 w0.2.1 w0.2.2).mono fun e W' ⟨he, bel⟩ => ?_
  subst he
  exact ⟨_, rfl, _, _, _, [], _, [], hW', trodAll_mk1 (shut_bool Try.underlying4 _), (trodAll_cons_mk (Below.trod laidOut (by kernel_rfl) (of_decide_eq_true (by kernel_rfl)) k0 bel lt0) trodAll_mk0), rfl, bel.frame _, fun h => by cases h⟩

theorem over : Rows.fnRoundsRow.holds Try.pinned (OpenSpec.ofChange Rows.fnRoundsSpec) :=
  OpenClaim.holds_of_wide 3 Try.f3 rfl rfl rfl rfl rfl rfl rfl ⟨rfl, rfl, rfl, rfl, rfl⟩ rfl rfl rfl rfl rfl (by kernel_rfl) Try.func3 (by kernel_rfl)
    (of_decide_eq_true (by kernel_rfl)) (by unfold Func.isWrapper; first | (rw [if_pos (by decide +kernel)]; kernel_rfl) | (rw [if_neg (by decide +kernel)]; exact ⟨rfl, rfl⟩))
    (fun os started H enc _ => lifted os started H enc)

theorem proved : Rows.FnRoundsSaid := over
#print axioms proved
end Go.Proofs.Ytmodliaieienfaa

