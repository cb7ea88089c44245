/- Those of a round that are left: the program's iterator. -/
import Derived.Test.YtfdklcmhafhbeaaIt0
import Derived.Test.YtfdklcmhafhbeaaPx3
import Derived.Test.YtfdklcmhafhbeaaPr7
import Derived.Shelf.Abstract
import Derived.Shelf.RegionOpen
import Derived.WalkKit
import Derived.OwnWalkIn
import Derived.TacticsInMore
import Derived.LoopNIn
import Derived.LoopIn
namespace Go.Proofs.Ytfdklcmhafhbeaa
open Go.RowKit Go.Shelf
attribute [local go_sem] Oper.semAt_some

theorem gdrew {A B : World} {r : Option Nat} (h : A.grownBy B r) : A.grownBy B.drew r := ⟨h.os, h.tape, h.output, h.size, h.block⟩
set_option maxHeartbeats 1000000 in
theorem leftV (gt : Nat) (oa : Option Addr) (on oc : Nat) (w : World) :
    Calls Try.prog 57 #[.pointer (some ⟨gt, 0, none⟩), .slice oa on oc] w fun e w' => e = .returned (.func (.func 71) #[] #[.pointer (some ⟨w.heap.size, 0, none⟩), .pointer (some ⟨w.heap.size + 1, 0, none⟩)]) ∧ w' = (w.alloc (.cells #[.pointer (some ⟨gt, 0, none⟩)] 55)).alloc (.cells #[.slice oa on oc] 22) := by

  go_enter Try.func57, Try.ntmps57
  go_wp2
  go_ret
  exact ⟨by simp, rfl⟩

def nextOf (gt : Nat) (W : World) : Nat := (intOf ((W.cell? ⟨gt, 1, none⟩).getD undef)).toNat

set_option maxRecDepth 100000 in
set_option maxHeartbeats 4000000 in
theorem left1_in (l gt Bp Bo base b2 : Nat) (P : DPro) (tv ov : Value) (ls : List Int) (W : World) (R : Ending → World → Prop) (hP : ProW P)
    (hb : W.heap[gt]? = some (.cells #[tv, .int .i64 P.next, .int .i64 P.seed, .int .i64 P.state, .int .i64 P.who, .int .i64 P.wait] 30 (0, 0))) (ho : OwI W base tv P.order) (hl : OwI W b2 ov ls)
    (hBp : W.cell? ⟨Bp, 0, none⟩ = some (.pointer (some ⟨gt, 0, none⟩))) (hBo : W.cell? ⟨Bo, 0, none⟩ = some ov) (np : Bp ≠ gt) (no : Bo ≠ gt)
    (hn : goOn ls P = none → ∀ W', W.grownBy W' (some gt) → W'.heap[gt]? = some (.cells #[tv, .int .i64 P.order.length, .int .i64 P.seed, .int .i64 P.state, .int .i64 P.who, .int .i64 P.wait] 30 (0, 0)) → R (.returned (.tuple #[])) W')
    (hy : ∀ x k, goOn ls P = some (x, k) → ∀ W', W.grownBy W' (some gt) → W'.heap[gt]? = some (.cells #[tv, .int .i64 (k : Nat), .int .i64 P.seed, .int .i64 P.state, .int .i64 P.who, .int .i64 P.wait] 30 (0, 0)) → YieldAt Fence.wide 1 Try.prog l #[.int .i64 x] W' fun e W'' => e = .returned (.bool false) ∧ R (.returned (.tuple #[])) W'') :
    CallsIn Fence.wide 2 Try.prog 71 #[.func (.yield l) #[] #[], .pointer (some ⟨Bp, 0, none⟩), .pointer (some ⟨Bo, 0, none⟩)] W R := by
  obtain ⟨os, nx, sd, st, wh, wt⟩ := P
  obtain ⟨hP1, ⟨hP2, hP3⟩, _⟩ := hP
  simp only at hb ho hn hy hP1 hP2 hP3
  obtain ⟨j0, rfl⟩ := Int.eq_ofNat_of_zero_le hP2
  simp only [goOn, Int.toNat_natCast] at hn hy
  obtain ⟨n, hnn⟩ : ∃ n, n = os.length := ⟨_, rfl⟩
  obtain ⟨ta, tc, rfl⟩ := ho.shape
  obtain ⟨oa, oc, rfl⟩ := hl.shape
  rw [← hnn] at hb hn hP1 hP3 hy ho
  have HNN : Hid (n = os.length) := hnn
  have HO : Hid (OwI W base (.slice ta n tc) os) := ho
  have HL : Hid (OwI W b2 (.slice oa ls.length oc) ls) := hl
  have HB : Hid (∃ v1, W.heap[gt]? = some (.cells #[.slice ta n tc, v1, .int .i64 sd, .int .i64 st, .int .i64 wh, .int .i64 wt] 30 (0, 0))) := ⟨_, hb⟩
  have HNn : Hid (scanL ls (os.drop j0) j0 = none → ∀ W', W.grownBy W' (some gt) → W'.heap[gt]? = some (.cells #[.slice ta n tc, .int .i64 n, .int .i64 sd, .int .i64 st, .int .i64 wh, .int .i64 wt] 30 (0, 0)) → R (.returned (.tuple #[])) W') := hn
  have HY : Hid (∀ x k, scanL ls (os.drop j0) j0 = some (x, k) → ∀ W', W.grownBy W' (some gt) → W'.heap[gt]? = some (.cells #[.slice ta n tc, .int .i64 (k : Nat), .int .i64 sd, .int .i64 st, .int .i64 wh, .int .i64 wt] 30 (0, 0)) → YieldAt Fence.wide 1 Try.prog l #[.int .i64 x] W' fun e W'' => e = .returned (.bool false) ∧ R (.returned (.tuple #[])) W'') := hy
  have HNB : Hid ((Value.slice ta n tc).ownBlock = none ∨ (Value.slice ta n tc).ownBlock ≠ some gt) := pro_ne ho hb
  have HNL : Hid ((Value.slice oa ls.length oc).ownBlock = none ∨ (Value.slice oa ls.length oc).ownBlock ≠ some gt) := pro_ne hl hb
  have hmo : Try.prog.follows .mixedOrders = true := by kernel_rfl
  have HX0 : Hid (W.heap[gt]? = some (.cells #[.slice ta n tc, .int .i64 j0, .int .i64 sd, .int .i64 st, .int .i64 wh, .int .i64 wt] 30 (0, 0))) := hb
  have hn1 : (n : Int) ≤ 1048576 := by omega
  have hj0 : j0 ≤ n := by omega
  clear hb ho hl hn hy hnn HB
  refine callsIn_of_wp Try.func71 rfl trivial ?_ rfl
  simp only [Try.ntmps71, List.size_toArray, List.length_cons, List.length_nil, Nat.reduceAdd, Nat.reduceSub, Array.replicate_succ, Array.replicate_zero, List.push_toArray, List.append_toArray, List.nil_append, List.cons_append]
  gi_wp2
  gi_loopw [4] (fun idv wr => ∃ j : Nat, j ≤ n ∧ Hid (scanL ls (os.drop j) j = scanL ls (os.drop j0) j0) ∧ Hid (wr.heap[gt]? = some (.cells #[.slice ta n tc, .int .i64 j, .int .i64 sd, .int .i64 st, .int .i64 wh, .int .i64 wt] 30 (0, 0))) ∧ Hid (W.grownBy wr (some gt))) (fun _ wr => n - nextOf gt wr)
  case atStart => exact ⟨j0, hj0, rfl, HX0, World.grownBy.refl _ _⟩
  case round =>
    obtain ⟨j, hj, hsc, hbx, hG⟩ := hrel
    have cp := World.grownBy.cell hG.out hBp (by simpa using np)
    have co := World.grownBy.cell hG.out hBo (by simpa using no)
    obtain ⟨x0, _⟩ := at_block hbx.out 0 _ rfl
    obtain ⟨x1, f1⟩ := at_block hbx.out 1 _ rfl
    have hmu : nextOf gt wr = j := by unfold nextOf; rw [x1]; simp [intOf]
    by_cases hlt : j < n
    · obtain ⟨x, hx⟩ : ∃ x, os[j]? = some x := ⟨_, List.getElem?_eq_getElem (by have := HNN.out; omega)⟩
      have OW : OwI wr base (.slice ta n tc) os := HO.out.keep hG.out HNB.out
      obtain ⟨g, hgg⟩ : ∃ g, ta = some ⟨g, 0, none⟩ := by
        rcases OW.2 with ⟨h0, _⟩ | ⟨g, c, cur, hv, _⟩
        · simp only [Value.slice.injEq] at h0; omega
        · simp only [Value.slice.injEq] at hv; exact ⟨g, hv.1⟩
      subst hgg
      obtain ⟨cx, _⟩ := OW.get HNN.out j hlt
      have hgx : os.getD j 0 = x := by rw [List.getD_eq_getElem?_getD, hx]; rfl
      rw [hgx] at cx
      have hlt' : (j : Int) < (n : Int) := by omega
      have HSA : Hid (scanL ls (os.drop j0) j0 = if ls.contains x then some (x, j + 1) else scanL ls (os.drop (j + 1)) (j + 1)) := by show _ = _; rw [← hsc.out]; exact scanL_at hx
      have GX : Hid (W.grownBy ((wr.setCell ⟨gt, 1, none⟩ (.int .i64 ((j : Int) + 1))).drew.drew) (some gt)) := gdrew (gdrew (hG.out.trans (set_grown _ _ _ _)))
      have BX : Hid (((wr.setCell ⟨gt, 1, none⟩ (.int .i64 ((j : Int) + 1))).drew.drew).heap[gt]? = some (.cells #[.slice (some ⟨g, 0, none⟩) n tc, .int .i64 ((j + 1 : Nat) : Int), .int .i64 sd, .int .i64 st, .int .i64 wh, .int .i64 wt] 30 (0, 0))) := set_block (w := wr) hbx.out 1 _
      have VB : Hid (VL fI ((wr.setCell ⟨gt, 1, none⟩ (.int .i64 ((j : Int) + 1))).drew.drew) (.slice oa ls.length oc) ls) := (HL.out.keep GX.out HNL.out).vl
      have cp1 : ((wr.setCell ⟨gt, 1, none⟩ (.int .i64 ((j : Int) + 1))).drew.drew).cell? ⟨Bp, 0, none⟩ = some (.pointer (some ⟨gt, 0, none⟩)) := World.grownBy.cell GX.out hBp (by simpa using np)
      have co1 : ((wr.setCell ⟨gt, 1, none⟩ (.int .i64 ((j : Int) + 1))).drew.drew).cell? ⟨Bo, 0, none⟩ = some (.slice oa ls.length oc) := World.grownBy.cell GX.out hBo (by simpa using no)
      clear OW hgx hx
      gi_wp2
      gi_region_o
      gi_wp2
      gi_region_o
      gi_wp2_with fail
      generalize (wr.setCell ⟨gt, 1, none⟩ (.int .i64 ((j : Int) + 1))).drew.drew = V at *
      refine ⟨trivial, callsIn_wide.2 ?_⟩
      refine (containsIV _ ls x V VB.out).mono ?_
      rintro e w3 ⟨rfl, hw⟩
      have hw' := hw.symm
      clear hw
      subst hw'
      cases hcn : decide (x ∈ ls)
      · have HS2 : Hid (scanL ls (os.drop (j + 1)) (j + 1) = scanL ls (os.drop j0) j0) := by
          show _ = _
          rw [HSA.out, if_neg (by have := of_decide_eq_false hcn; simpa using this)]
        have hm2 : nextOf gt V = j + 1 := by unfold nextOf; rw [(at_block BX.out 1 _ rfl).1]; simp [intOf]
        gi_wp2
        refine ⟨fun _ h => (by cases h), ?_⟩
        gi_wp2
        go_roundw
        case rel => exact ⟨j + 1, by omega, HS2, BX, GX⟩
        case measure => rw [hmu, hm2]; omega
      · have HS2 : Hid (scanL ls (os.drop j0) j0 = some (x, j + 1)) := by
          show _ = _
          rw [HSA.out, if_pos (by have := of_decide_eq_true hcn; simpa using this)]
        obtain ⟨fn, tmps, assign, body, hyy, hR⟩ := HY.out x (j + 1) HS2.out V GX.out BX.out
        gi_wp2
        refine hR.mono ?_
        rintro e W3 ⟨rfl, hR3⟩
        have HR3 : Hid (R (.returned (.tuple #[])) W3) := hR3
        clear hR3 hR hyy
        gi_wp2
        refine bodyPost_ret (results_none rfl _ _ _) rfl ?_
        exact HR3.out
    · have hjn : j = n := by omega
      subst hjn
      have HE : Hid (scanL ls (os.drop j0) j0 = none) := by show _ = _; rw [← hsc.out]; exact scanL_end (by have := HNN.out; omega)
      gi_wp2
      gi_region_o
      gi_wp2
      go_end0
      exact HNn.out HE.out _ (gdrew hG.out) hbx.out

end Go.Proofs.Ytfdklcmhafhbeaa
