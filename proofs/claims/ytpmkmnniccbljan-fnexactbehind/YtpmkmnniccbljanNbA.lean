/- Who is behind: the program's list. -/
import Derived.Test.YtpmkmnniccbljanNdP
import Derived.Test.YtpmkmnniccbljanNdO2
import Derived.Test.YtpmkmnniccbljanNdS
import Derived.RangeFuncBox
import Derived.Maps.AppendAt
namespace Go.Proofs.Ytpmkmnniccbljan
open Go.RowKit Go.Shelf
attribute [local go_sem] Oper.semAt_some

/-- Those of these that lack something. -/
def beh {N : Nat} (mat : List Int) (len : Int) (l : List (Fin N)) : List Int := (l.filter fun y => decide (mat.getD y.val 0 < len)).map fun y => (y.val : Int)
theorem beh_yes {N : Nat} {mat : List Int} {x : Int} {l : List (Fin N)} {y : Fin N} (h : mat.getD y.val 0 < x) : beh mat x (l ++ [y]) = beh mat x l ++ [(y.val : Int)] := by
  unfold beh
  rw [List.filter_append, List.map_append, List.filter_cons, if_pos (decide_eq_true h)]
  rfl
theorem beh_no {N : Nat} {mat : List Int} {x : Int} {l : List (Fin N)} {y : Fin N} (h : ¬ mat.getD y.val 0 < x) : beh mat x (l ++ [y]) = beh mat x l := by
  unfold beh
  rw [List.filter_append, List.map_append, List.filter_cons, if_neg (by simpa using h)]
  simp
theorem beh_le {N : Nat} (mat : List Int) (x : Int) (l : List (Fin N)) : (beh mat x l).length ≤ l.length := by
  unfold beh
  rw [List.length_map]
  exact List.length_filter_le _ _

theorem not_row {W : World} {b : Nat} {t : TypeId} {cur : Array Value} {n₀ k : Nat} {v : Value} {xs : List Value} (h : W.heap[b]? = some (.cells cur t (0, 0))) (ht : t ≠ 3) (hr : W.ownsRow n₀ 3 1 v k xs) : some b ≠ v.ownBlock := by
  rcases hr.2 with ⟨rfl, _⟩ | ⟨g, cap, c, rfl, _, hgb, _⟩
  · simp [Value.ownBlock]
  · intro e
    have e' : b = g := by simpa [Value.ownBlock] using e
    rw [e', hgb] at h
    cases h
    exact ht rfl
/-- A block of another type lies as it lay behind an append, and behind the store of what came of it. -/
theorem blk_appended {W w1 : World} {b Bb : Nat} {t : TypeId} {cur : Array Value} {n₀ k : Nat} {v v' : Value} {xs : List Value} {tmp : Obj} (h : W.heap[b]? = some (.cells cur t (0, 0))) (ht : t ≠ 3) (hr : W.ownsRow n₀ 3 1 v k xs) (hgrow : (W.alloc tmp).grownBy w1 v.ownBlock) (hb : b ≠ Bb) :
    (w1.setCell ⟨Bb, 0, none⟩ v').heap[b]? = some (.cells cur t (0, 0)) := by
  have l := (Array.getElem?_eq_some_iff.1 h).1
  refine set_other Bb 0 v' hb ?_
  exact (hgrow.block b (by simp; omega) (not_row h ht hr)).trans ((Below.heap_alloc W tmp b l).trans h)

set_option maxRecDepth 100000 in
set_option maxHeartbeats 8000000 in
theorem iBehindIn (v : Value) (M : DNode) (s : Int) (w : World) (h : VNode w v M) (hp : NodeP M s) (hr : M.role = 2) :
    Calls Try.prog 22 #[v, .int .i64 s] w fun e w' => ∃ v', e = .returned v' ∧ w'.ownsRow w.heap.size 3 1 v' (beh M.mat M.log.length (oth M.id M.votes.length M.votes.length)).length ((beh M.mat M.log.length (oth M.id M.votes.length M.votes.length)).map fI) ∧ Below w.heap.size w w' := by
  refine (callsIn_wide (n := 3)).1 ?_
  have hE : ∀ w : World, ∀ o, Ext w (w.alloc o) := fun w o => World.grownBy_alloc _ _ _
  obtain ⟨i0, hi0, hz0, hz1, hz2⟩ := info_parts info3
  have H0 : Hid (VNode w v M) := h
  obtain ⟨lv, bv, nv, mv, rfl, hi, hbv, hnv, hmv⟩ := h
  have HI : Hid (VItems w lv M.log) := hi
  have HB : Hid (VL fB w bv M.votes) := hbv
  have HX : Hid (VL fI w nv M.next) := hnv
  have HM : Hid (VL fI w mv M.mat) := hmv
  obtain ⟨ia, ic, rfl⟩ := items_shape hi
  obtain ⟨ba, bc, rfl⟩ := vl_shape hbv
  obtain ⟨na, nc, rfl⟩ := vl_shape hnv
  obtain ⟨ma, mc, rfl⟩ := vl_shape hmv
  clear hi hbv hnv hmv
  have HT : Hid (tB (NodeP M s) = true) := tB_true hp
  have HLM : Hid (M.mat.length = M.votes.length ∧ M.votes.length ≤ 5) := by
    have := hp.1
    unfold NHeadP at this
    exact ⟨by omega, by omega⟩
  have k2 : (M.role != 2) = false := by rw [hr]; rfl
  clear hr hp
  refine callsIn_of_wp_marks Try.func22 rfl trivial ?_ rfl
  simp only [Try.ntmps22, List.size_toArray, List.length_cons, List.length_nil, Nat.reduceAdd, Nat.reduceSub, Array.replicate_succ, Array.replicate_zero, List.push_toArray, List.append_toArray, List.nil_append, List.cons_append]
  gi_wp2
  refine ⟨trivial, ?_⟩
  refine (callsIn_wide.2 (iNodeOkP _ M s _ (H0.out.ext (hE _ _)))).mono ?_
  rintro e w3 ⟨rfl, b3⟩
  rw [HT.out]
  have B3 : Below w.heap.size w w3 := ((Below.refl _ w).alloc (Nat.le_refl _) _).trans (b3.mono (by simp))
  have R3 := below_blk b3 (by simp) (heap_alloc_new w (.cells #[.int .i64 M.id, .int .i64 M.term, .int .i64 M.vote, .slice ia M.log.length ic, .int .i64 M.commit, .int .i64 M.role, .int .i64 M.lead, .int .i64 M.wait, .slice ba M.votes.length bc, .slice na M.next.length nc, .slice ma M.mat.length mc] 31 (0, 0)))
  obtain ⟨d0, _⟩ := at_block R3 0 _ rfl
  obtain ⟨d1, _⟩ := at_block R3 1 _ rfl
  obtain ⟨d2, _⟩ := at_block R3 2 _ rfl
  obtain ⟨d3, _⟩ := at_block R3 3 _ rfl
  obtain ⟨d4, _⟩ := at_block R3 4 _ rfl
  obtain ⟨d5, _⟩ := at_block R3 5 _ rfl
  obtain ⟨d6, _⟩ := at_block R3 6 _ rfl
  obtain ⟨d7, _⟩ := at_block R3 7 _ rfl
  obtain ⟨d8, _⟩ := at_block R3 8 _ rfl
  obtain ⟨d9, _⟩ := at_block R3 9 _ rfl
  obtain ⟨d10, _⟩ := at_block R3 10 _ rfl
  have e0 := overAlloc (.cells #[.slice none 0 0] 24) d0
  have e1 := overAlloc (.cells #[.slice none 0 0] 24) d1
  have e2 := overAlloc (.cells #[.slice none 0 0] 24) d2
  have e3 := overAlloc (.cells #[.slice none 0 0] 24) d3
  have e4 := overAlloc (.cells #[.slice none 0 0] 24) d4
  have e5 := overAlloc (.cells #[.slice none 0 0] 24) d5
  have e6 := overAlloc (.cells #[.slice none 0 0] 24) d6
  have e7 := overAlloc (.cells #[.slice none 0 0] 24) d7
  have e8 := overAlloc (.cells #[.slice none 0 0] 24) d8
  have e9 := overAlloc (.cells #[.slice none 0 0] 24) d9
  have e10 := overAlloc (.cells #[.slice none 0 0] 24) d10
  have z3 : w.heap.size < w3.heap.size := by have := b3.size; simp at this; omega
  clear b3
  gi_wp2
  refine ⟨trivial, ?_⟩
  have X3 : Ext w (w3.alloc (.cells #[.slice none 0 0] 24)) := (ext_below B3).tr (hE _ _)
  refine (callsIn_wide.2 (serverOfV M _ _ _ _ _ (HI.out.ext X3) (HB.out.ext X3) (HX.out.ext X3) (HM.out.ext X3))).mono ?_
  rintro e w4 ⟨g, rfl, hg, hsv, b4⟩
  have hg' : w3.heap.size + 1 ≤ g := by simpa using hg
  have hgl : g < w4.heap.size := (Array.getElem?_eq_some_iff.1 hsv).1
  have B4 : Below w.heap.size w w4 := (B3.alloc (by omega) _).trans (b4.mono (by simp; omega))
  have N4 : w4.heap[w.heap.size]? = some (.cells #[.int .i64 M.id, .int .i64 M.term, .int .i64 M.vote, .slice ia M.log.length ic, .int .i64 M.commit, .int .i64 M.role, .int .i64 M.lead, .int .i64 M.wait, .slice ba M.votes.length bc, .slice na M.next.length nc, .slice ma M.mat.length mc] 31 (0, 0)) := below_blk b4 (by simp; omega) ((Below.heap_alloc w3 _ _ z3).trans R3)
  have O4 : Boxed w4 w3.heap.size 24 (.slice none 0 0) := below_blk b4 (by simp) (heap_alloc_new w3 _)
  have z4 : w3.heap.size < w4.heap.size := O4.lt
  clear R3 hg b4 d0 e0 d1 e1 d2 e2 d3 e3 d4 e4 d5 e5 d6 e6 d7 e7 d8 e8 d9 e9 d10 e10
  gi_wp2
  refine ⟨trivial, ?_⟩
  refine (others_in Fence.wide _ trivial rfl _ _).mono ?_
  rintro e w' ⟨rfl, rfl⟩
  gi_wp2
  have F5 := heap_alloc_new w4 (.cells #[.pointer (some ⟨g, 0, none⟩)] 109 (0, 0))
  have S5 : (w4.alloc (.cells #[.pointer (some ⟨g, 0, none⟩)] 109 (0, 0))).heap[g]? = some (.cells #[.int .i64 M.id, .int .i64 M.votes.length, .int .i64 M.term, .int .i64 M.vote, .slice ia M.log.length ic, .int .i64 M.commit, .int .i64 M.lead, .int .i64 M.wait, .slice none 0 0, .int .i64 M.role, .slice ba M.votes.length bc, .slice na M.next.length nc, .slice ma M.mat.length mc] 76 (0, 0)) := (Below.heap_alloc w4 _ _ hgl).trans hsv
  have N5 : (w4.alloc (.cells #[.pointer (some ⟨g, 0, none⟩)] 109 (0, 0))).heap[w.heap.size]? = some (.cells #[.int .i64 M.id, .int .i64 M.term, .int .i64 M.vote, .slice ia M.log.length ic, .int .i64 M.commit, .int .i64 M.role, .int .i64 M.lead, .int .i64 M.wait, .slice ba M.votes.length bc, .slice na M.next.length nc, .slice ma M.mat.length mc] 31 (0, 0)) := (Below.heap_alloc w4 _ _ (by omega)).trans N4
  have O5 : Boxed (w4.alloc (.cells #[.pointer (some ⟨g, 0, none⟩)] 109 (0, 0))) w3.heap.size 24 (.slice none 0 0) := O4.alloc _
  have B5 : Below w.heap.size w (w4.alloc (.cells #[.pointer (some ⟨g, 0, none⟩)] 109 (0, 0))) := B4.alloc (by omega) _
  generalize (Value.agg #[.int .i64 M.id, .int .i64 M.term, .int .i64 M.vote, .slice ia M.log.length ic, .int .i64 M.commit, .int .i64 M.role, .int .i64 M.lead, .int .i64 M.wait, .slice ba M.votes.length bc, .slice na M.next.length nc, .slice ma M.mat.length mc]) = AG
  refine wpIn_rangeFunc_ownF rfl (by omega) (gf := 80) (lb := #[.pointer (some ⟨w4.heap.size, 0, none⟩)]) rfl trivial (enters_of Try.func80 (by kernel_rfl) rfl)
    (others_stopsC Fence.wide _ trivial rfl (by omega) w4.heap.size g M.votes.length M.id HLM.out.2 _ (by simp) (by simp; omega) (at_block F5 0 _ rfl).1 (at_block S5 0 _ rfl).1 (at_block S5 1 _ rfl).1) KC.tr (kc_b (by simp) (by simp; omega)) (Below.refl _ _) (fun _ => rfl)
    (fun pre W => (∃ v, Boxed W w3.heap.size 24 v ∧ W.ownsRow w.heap.size 3 1 v (beh M.mat M.log.length pre).length ((beh M.mat M.log.length pre).map fI) ∧ True) ∧ (W.heap[w4.heap.size]? = some (.cells #[.pointer (some ⟨g, 0, none⟩)] 109 (0, 0)) ∧ (W.heap[g]? = some (.cells #[.int .i64 M.id, .int .i64 M.votes.length, .int .i64 M.term, .int .i64 M.vote, .slice ia M.log.length ic, .int .i64 M.commit, .int .i64 M.lead, .int .i64 M.wait, .slice none 0 0, .int .i64 M.role, .slice ba M.votes.length bc, .slice na M.next.length nc, .slice ma M.mat.length mc] 76 (0, 0)) ∧ (W.heap[w.heap.size]? = some (.cells #[.int .i64 M.id, .int .i64 M.term, .int .i64 M.vote, .slice ia M.log.length ic, .int .i64 M.commit, .int .i64 M.role, .int .i64 M.lead, .int .i64 M.wait, .slice ba M.votes.length bc, .slice na M.next.length nc, .slice ma M.mat.length mc] 31 (0, 0)) ∧ Below w.heap.size w W))))
    (fun _ _ _ => False)
    (OwnFrom.and (Own.from (holdsRow_own w.heap.size w3.heap.size 24 3 1 (fun pre => (beh M.mat M.log.length pre).length) (fun pre => (beh M.mat M.log.length pre).map fI) (fun _ _ => True)) _) (OwnFrom.and (Own.from (obj_own _ _ _ _) _) (OwnFrom.and (Own.from (obj_own _ _ _ _) _) (OwnFrom.and (Own.from (obj_own _ _ _ _) _) (ownFrom_below (Nat.le_refl _) (by simp; omega))))))
    (fun _ _ _ _ _ hs _ _ => hs)
    ⟨⟨_, O5, World.ownsRow_nil _ _ _ _, trivial⟩, F5, S5, N5, B5⟩
    (fun y => { tmps := #[AG, .int .i64 s, .pointer (some ⟨w.heap.size, 0, none⟩), undef, .slice none 0 0, .pointer (some ⟨w3.heap.size, 0, none⟩), .int .i64 (y.val : Int), AG, .int .i64 s, .bool true, .bool false, .bool false, .pointer (some ⟨w.heap.size, 5, none⟩), .int .i64 M.role, .bool false, .bool false, AG, .pointer (some ⟨g, 0, none⟩), .pointer (some ⟨g, 0, none⟩), .pointer (some ⟨g, 0, none⟩), .func (.func 80) #[] #[.pointer (some ⟨w4.heap.size, 0, none⟩)], .int .i64 (y.val : Int), undef, undef, undef, undef, undef, undef, undef, undef, undef, undef, undef, undef, undef, undef], defers := [] }) ?assign ?body ?done ?stop
  case assign =>
    intro l y W K hK
    gi_wp2
    exact hK
  case body =>
    rintro l pre y W ⟨⟨v, hv, hrow, _⟩, hF, hS, hNb, hB⟩ hpl
    have hy : y.val < M.votes.length := y.isLt
    obtain ⟨a, cap, hvm, m1, m2, m3⟩ := HM.out
    simp only [Value.slice.injEq] at hvm
    obtain ⟨rfl, _, rfl⟩ := hvm
    obtain ⟨b, o, rfl, hbl, hc⟩ := m3 (by have := HLM.out; omega)
    obtain ⟨q, hq⟩ : ∃ q, M.mat[y.val]? = some q := ⟨_, List.getElem?_eq_getElem (by have := HLM.out; omega)⟩
    have hq' : M.mat.getD y.val 0 = q := by simp [List.getD, hq]
    have e10 : W.cell? ⟨w.heap.size, 10, none⟩ = some (.slice (some ⟨b, o, none⟩) M.mat.length mc) := (at_block hNb 10 _ rfl).1
    have e3 : W.cell? ⟨w.heap.size, 3, none⟩ = some (.slice ia M.log.length ic) := (at_block hNb 3 _ rfl).1
    have eq1 : W.cell? ⟨b, o + y.val, none⟩ = some (.int .i64 q) := (hB.cell (p := ⟨b, o + y.val, none⟩) hbl).trans (hc _ _ hq)
    have hyN : (y.val : Int) < (M.mat.length : Int) := by have := HLM.out; omega
    have hcb := hv.cell
    have hmo : Try.prog.follows .mixedOrders = true := by kernel_rfl
    have hpl' := beh_le M.mat M.log.length pre
    have HFS : Hid (W.heap[w4.heap.size]? = _ ∧ W.heap[g]? = _ ∧ W.heap[w.heap.size]? = _ ∧ Below w.heap.size w W) := ⟨hF, hS, hNb, hB⟩
    have hBs := hB.size
    have HV : Hid (Boxed W.drew w3.heap.size 24 v) := hv
    have HROW : Hid (W.drew.ownsRow w.heap.size 3 1 v (beh M.mat M.log.length pre).length ((beh M.mat M.log.length pre).map fI)) := hrow.kept (ext_drewN W 1) (by cases hq : v.ownBlock <;> simp)
    clear hc hq hF hS hNb hB hrow hv m1 m2 m3 F5 S5 N5 O5 B5 O4 N4 hsv B4 B3 X3
    have hlen : (beh M.mat M.log.length pre).length + 1 ≤ 6 := by have := HLM.out; omega
    have HML : Hid ((beh M.mat M.log.length pre).length + 1 ≤ maxLen ∧ ((beh M.mat M.log.length pre).length + 1) * 8 ≤ 140737488355328 ∧ w.heap.size ≤ W.heap.size + 1) := ⟨by unfold maxLen; omega, by omega, by omega⟩
    have HYES : Hid (q < (M.log.length : Int) → beh M.mat M.log.length (pre ++ [y]) = beh M.mat M.log.length pre ++ [(y.val : Int)]) := fun h => beh_yes (by rw [hq']; exact h)
    have HNO : Hid (¬ q < (M.log.length : Int) → beh M.mat M.log.length (pre ++ [y]) = beh M.mat M.log.length pre) := fun h => beh_no (by rw [hq']; exact h)
    clear hq' hpl' hpl hbl
    gi_wp2
    refine (fun (HG : Unit → ?G) => ?main) (fun _ => ?g)
    case main =>
      gi_region_o
      all_goals exact HG ()
    case g =>
      by_cases hle : q < (M.log.length : Int)
      · have HO : Hid (beh M.mat M.log.length (pre ++ [y]) = beh M.mat M.log.length pre ++ [(y.val : Int)]) := HYES.out (by omega)
        clear HYES HNO
        gi_wp2_with (gi_at_builtin; refine wpListIn_append_own _ rfl _ _ 24 rfl w.heap.size 3 i0 (.int .i64 0) 1 8 Try.underlying24 hi0 hz0 hz1 hz2 rfl (by decide) _ _ _ rfl (HROW.out.alloc (.cells #[.int .i64 (y.val : Int)] 3 (0, 0))) ⟨W.heap.size, 0, none⟩ 1 1 [.int .i64 (y.val : Int)] rfl rfl (cell_one_new W.drew (.int .i64 (y.val : Int)) 3) (by simp [Value.oneCell']) HML.out.1 HML.out.2.1 (by simpa using HML.out.2.2) ?_; intro v' w1 hown' hgrow hx9; obtain ⟨g', cap', rfl⟩ := ownsRow_succ hown'; obtain ⟨hv1, hv2, hr2, hk2, hb2⟩ := HV.out.appended (tmp := (.cells #[.int .i64 (y.val : Int)] 3 (0, 0))) (by decide) HROW.out hBs (by omega) hown' hgrow; have hc1 := hv1.cell; have hf1 := hv1.frozen)
        obtain ⟨hF, hS, hNb, hB⟩ := HFS.out
        have hF' := blk_appended (Bb := w3.heap.size) (v' := .slice (some ⟨g', 0, none⟩) ((beh M.mat M.log.length pre).length + 1) cap') (show W.drew.heap[w4.heap.size]? = _ from hF) (by decide) HROW.out (tmp := (.cells #[.int .i64 (y.val : Int)] 3 (0, 0))) hgrow (by omega)
        have hS' := blk_appended (Bb := w3.heap.size) (v' := .slice (some ⟨g', 0, none⟩) ((beh M.mat M.log.length pre).length + 1) cap') (show W.drew.heap[g]? = _ from hS) (by decide) HROW.out (tmp := (.cells #[.int .i64 (y.val : Int)] 3 (0, 0))) hgrow (by omega)
        have hN' := blk_appended (Bb := w3.heap.size) (v' := .slice (some ⟨g', 0, none⟩) ((beh M.mat M.log.length pre).length + 1) cap') (show W.drew.heap[w.heap.size]? = _ from hNb) (by decide) HROW.out (tmp := (.cells #[.int .i64 (y.val : Int)] 3 (0, 0))) hgrow (by omega)
        exact ⟨(KeepsOthers.drew W).trans hk2, ⟨fun _ => (at_block hF' 0 _ rfl).1, fun _ => (at_block hS' 0 _ rfl).1⟩, (by first | exact ⟨_, hv2, by rw [HO.out, List.map_append, List.length_append]; exact hr2, trivial⟩ | exact ⟨_, hv2, by rw [HO.out, List.map_append, List.length_append]; exact hr2⟩), hF', hS', hN', hB.drew.trans hb2⟩
      · have HO : Hid (beh M.mat M.log.length (pre ++ [y]) = beh M.mat M.log.length pre) := HNO.out (by omega)
        clear HYES HNO
        gi_wp2
        obtain ⟨hF, hS, hNb, hB⟩ := HFS.out
        exact ⟨KeepsOthers.drew _, ⟨fun e => e, fun e => e⟩, (by first | exact ⟨v, HV.out, by rw [HO.out]; exact HROW.out, trivial⟩ | exact ⟨v, HV.out, by rw [HO.out]; exact HROW.out⟩), hF, hS, hNb, hB.drew⟩
  case done =>
    rintro D ys W hD rfl ⟨⟨v, hv, hrow, _⟩, hF, hS, hNb, hB⟩ hK
    have hc := hv.cell
    gi_wp2
    refine ⟨by simp, .inl ⟨_, _, rfl, run_takeDeferred hK, ?_⟩⟩
    exact ⟨_, results_tmp rfl _ _ _, v, rfl, ownsRow_putObj hrow _ hK rfl, hB.trans (belowK_b (w := w) (Nat.le_refl _) W D _ _ (by simp at hD; omega) hK rfl rfl)⟩
  case stop =>
    rintro D c pre W _ _ h _
    exact h.elim

end Go.Proofs.Ytpmkmnniccbljan
