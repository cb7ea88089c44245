/- How many servers have a place: the program's count. -/
import Derived.Test.YtpmkmnniccbljanNdO
namespace Go.Proofs.Ytpmkmnniccbljan
open Go.RowKit Go.Shelf
attribute [local go_sem] Oper.semAt_some

/-- How many of these have the place x. -/
def cnt {N : Nat} (mat : List Int) (x : Int) (l : List (Fin N)) : Nat := (l.filter fun y => decide (x ≤ mat.getD y.val 0)).length
theorem cnt_yes {N : Nat} {mat : List Int} {x : Int} {l : List (Fin N)} {y : Fin N} (h : x ≤ mat.getD y.val 0) : cnt mat x (l ++ [y]) = cnt mat x l + 1 := by
  unfold cnt
  rw [List.filter_append, List.length_append, List.filter_cons, if_pos (decide_eq_true h)]
  rfl
theorem cnt_no {N : Nat} {mat : List Int} {x : Int} {l : List (Fin N)} {y : Fin N} (h : ¬ x ≤ mat.getD y.val 0) : cnt mat x (l ++ [y]) = cnt mat x l := by
  unfold cnt
  rw [List.filter_append, List.length_append, List.filter_cons, if_neg (by simpa using h)]
  rfl
theorem cnt_le {N : Nat} (mat : List Int) (x : Int) (l : List (Fin N)) : cnt mat x l ≤ l.length := List.length_filter_le _ _

theorem newCell (W : World) (v : Value) (t : TypeId) : (W.alloc (.cells #[v] t)).cell? ⟨W.heap.size, 0, none⟩ = some v ∧ (W.alloc (.cells #[v] t)).frozen? ⟨W.heap.size, 0, none⟩ = false := at_block (heap_alloc_new W _) 0 _ rfl
theorem overAlloc {W : World} {a : Addr} {v : Value} (o : Obj) (h : W.cell? a = some v) : (W.alloc o).cell? a = some v := cell_kept h (World.grownBy_alloc W o none) (fun r e => by cases e)
theorem frozenAlloc {W : World} {a : Addr} {v : Value} (o : Obj) (h : W.cell? a = some v) (hf : W.frozen? a = false) : (W.alloc o).frozen? a = false := (frozen_kept h (World.grownBy_alloc W o none) (fun r e => by cases e)).trans hf

set_option maxRecDepth 100000 in
set_option maxHeartbeats 4000000 in
theorem backed_in (F : Fence) (n : Nat) (h3 : F.fn 45) (h5 : F.fn 53) (h6 : F.fn 80) (hro : F.round = none) (hn : 3 ≤ n) (g : Nat) (x : Int) (M : DNode) (lv bv nv mv sv : Value) (w : World) (hg : Srv w g M lv bv nv mv sv) (hm : VL fI w mv M.mat) (hl : M.mat.length = M.votes.length) (hN : M.votes.length ≤ 5) :
    CallsIn F n Try.prog 45 #[.pointer (some ⟨g, 0, none⟩), .int .i64 x] w fun e w' => e = .returned (.int .i64 (1 + (cnt M.mat x (oth M.id M.votes.length M.votes.length) : Nat))) ∧ Below w.heap.size w w' := by
  have h1 : 1 ≤ n := by omega
  unfold Srv at hg
  have hgl : g < w.heap.size := (Array.getElem?_eq_some_iff.1 hg).1
  obtain ⟨d0, _⟩ := at_block hg 0 _ rfl
  obtain ⟨d1, _⟩ := at_block hg 1 _ rfl
  obtain ⟨d12, _⟩ := at_block hg 12 _ rfl
  have d12' : w.cell? ⟨g, 12, none⟩ = some mv := d12
  clear hg d12
  obtain ⟨a, cap, rfl, m1, m2, m3⟩ := hm
  obtain ⟨N, hNN⟩ : ∃ N, N = M.votes.length := ⟨_, rfl⟩
  have d1' : w.cell? ⟨g, 1, none⟩ = some (.int .i64 N) := by rw [hNN]; exact d1
  rw [hl, ← hNN] at m1 m3 d12'
  rw [← hNN] at hN ⊢
  have HL : Hid (M.mat.length = N) := by show _ = _; rw [hl, hNN]
  clear d1 hl hNN
  refine callsIn_of_wp_marks Try.func45 rfl h3 ?_ hro
  simp only [Try.ntmps45, List.size_toArray, List.length_cons, List.length_nil, Nat.reduceAdd, Nat.reduceSub, Array.replicate_succ, Array.replicate_zero, List.push_toArray, List.append_toArray, List.nil_append, List.cons_append]
  gi_wp2_with (gi_at_call 53; refine (others_in F (n - 1) h5 hro _ _).mono ?_; rintro e w' ⟨rfl, rfl⟩)
  have cs := newCell w (.pointer (some ⟨g, 0, none⟩)) 69
  have cp := newCell (w.alloc (.cells #[.pointer (some ⟨g, 0, none⟩)] 69)) (.int .i64 x) 3
  have cv := newCell ((w.alloc (.cells #[.pointer (some ⟨g, 0, none⟩)] 69)).alloc (.cells #[.int .i64 x] 3)) (.int .i64 1) 3
  have cf := newCell (((w.alloc (.cells #[.pointer (some ⟨g, 0, none⟩)] 69)).alloc (.cells #[.int .i64 x] 3)).alloc (.cells #[.int .i64 1] 3)) (.pointer (some ⟨g, 0, none⟩)) 109
  simp only [World.size_alloc] at cp cv cf
  have hB0 : Below w.heap.size w ((((w.alloc (.cells #[.pointer (some ⟨g, 0, none⟩)] 69)).alloc (.cells #[.int .i64 x] 3)).alloc (.cells #[.int .i64 1] 3)).alloc (.cells #[.pointer (some ⟨g, 0, none⟩)] 109)) := ((((Below.refl _ w).alloc (Nat.le_refl _) _).alloc (by simp) _).alloc (by simp; omega) _).alloc (by simp; omega) _
  refine wpIn_rangeFunc_ownF hro h1 (gf := 80) (lb := #[.pointer (some ⟨w.heap.size + 1 + 1 + 1, 0, none⟩)]) rfl h6 (enters_of Try.func80 (by kernel_rfl) rfl)
    (others_stops F (n - 1) h6 hro (by omega) (w.heap.size + 1 + 1 + 1) w.heap.size g N M.id hgl hN _ (by simp) (by simp; omega) cf.1 ((hB0.cell (p := ⟨g, 0, none⟩) hgl).trans d0) ((hB0.cell (p := ⟨g, 1, none⟩) hgl).trans d1')) KB.tr (kb_b (by simp; omega) (by simp)) (Below.refl _ _) (fun _ => rfl)
    (fun pre W => (W.cell? ⟨w.heap.size, 0, none⟩ = some (.pointer (some ⟨g, 0, none⟩)) ∧ W.cell? ⟨w.heap.size + 1, 0, none⟩ = some (.int .i64 x) ∧ W.cell? ⟨w.heap.size + 1 + 1, 0, none⟩ = some (.int .i64 (1 + (cnt M.mat x pre : Nat))) ∧ W.frozen? ⟨w.heap.size + 1 + 1, 0, none⟩ = false) ∧ Below w.heap.size w W)
    (fun _ _ _ => False)
    (OwnFrom.and (Own.from (fun s A B row hs hg hr => ⟨cell_kept hs.1 hg hr, cell_kept hs.2.1 hg hr, cell_kept hs.2.2.1 hg hr, (frozen_kept hs.2.2.1 hg hr).trans hs.2.2.2⟩) _) (ownFrom_below (Nat.le_refl _) (by simp; omega)))
    (fun _ _ _ _ _ hs _ _ => hs)
    ⟨⟨overAlloc _ (overAlloc _ (overAlloc _ cs.1)), overAlloc _ (overAlloc _ cp.1), overAlloc _ cv.1, frozenAlloc _ cv.1 cv.2⟩, hB0⟩
    (fun y => { tmps := #[.pointer (some ⟨g, 0, none⟩), .int .i64 x, .pointer (some ⟨w.heap.size, 0, none⟩), .pointer (some ⟨w.heap.size + 1, 0, none⟩), .int .i64 0, .pointer (some ⟨w.heap.size + 1 + 1, 0, none⟩), .int .i64 (y.val : Int), .pointer (some ⟨g, 0, none⟩), .pointer (some ⟨g, 0, none⟩), .pointer (some ⟨g, 0, none⟩), .func (.func 80) #[] #[.pointer (some ⟨w.heap.size + 1 + 1 + 1, 0, none⟩)], .int .i64 (y.val : Int), undef, undef, undef, undef, undef, undef, undef, undef, undef, undef, undef, undef], defers := [] }) ?assign ?body ?done ?stop
  case assign =>
    intro l y W K hK
    gi_wp2
    exact hK
  case body =>
    rintro l pre y W ⟨⟨hcs, hcp, hcv, hfv⟩, hB⟩ hpl
    have hy : y.val < N := y.isLt
    obtain ⟨b, o, rfl, hbl, hc⟩ := m3 (by omega)
    obtain ⟨q, hq⟩ : ∃ q, M.mat[y.val]? = some q := ⟨_, List.getElem?_eq_getElem (by have := HL.out; omega)⟩
    have hq' : M.mat.getD y.val 0 = q := by simp [List.getD, hq]
    have e12 := (hB.cell (p := ⟨g, 12, none⟩) hgl).trans d12'
    have eq1 : W.cell? ⟨b, o + y.val, none⟩ = some (.int .i64 q) := (hB.cell (p := ⟨b, o + y.val, none⟩) hbl).trans (hc _ _ hq)
    have hyN : (y.val : Int) < (N : Int) := by omega
    have hcl := cnt_le M.mat x pre
    have hmo : Try.prog.follows .mixedOrders = true := by kernel_rfl
    have XS := World.grownBy.cell (set_grown W (w.heap.size + 1 + 1) 0 (.int .i64 (1 + (cnt M.mat x pre : Nat) + 1))) hcs (by simp; omega)
    have XP := World.grownBy.cell (set_grown W (w.heap.size + 1 + 1) 0 (.int .i64 (1 + (cnt M.mat x pre : Nat) + 1))) hcp (by simp)
    have XV := World.cell?_setCell_same' W ⟨w.heap.size + 1 + 1, 0, none⟩ (.int .i64 (1 + (cnt M.mat x pre : Nat) + 1)) (by rw [hcv]; rfl)
    have HNO : Hid (¬ x ≤ q → KeepsOthers W W.drew ∧ KB w.heap.size (w.heap.size + 1 + 1 + 1) g W W.drew ∧ ((W.drew.cell? ⟨w.heap.size, 0, none⟩ = some (.pointer (some ⟨g, 0, none⟩)) ∧ W.drew.cell? ⟨w.heap.size + 1, 0, none⟩ = some (.int .i64 x) ∧ W.drew.cell? ⟨w.heap.size + 1 + 1, 0, none⟩ = some (.int .i64 (1 + (cnt M.mat x (pre ++ [y]) : Nat))) ∧ W.drew.frozen? ⟨w.heap.size + 1 + 1, 0, none⟩ = false) ∧ Below w.heap.size w W.drew)) := fun hno =>
      ⟨KeepsOthers.drew _, ⟨(Below.refl _ W).drew, fun e => e⟩, ⟨⟨hcs, hcp, by rw [cnt_no (by rw [hq']; exact hno)]; exact hcv, hfv⟩, hB.drew⟩⟩
    have HYES : Hid (x ≤ q → KeepsOthers W (W.setCell ⟨w.heap.size + 1 + 1, 0, none⟩ (.int .i64 (1 + (cnt M.mat x pre : Nat) + 1))).drew ∧ KB w.heap.size (w.heap.size + 1 + 1 + 1) g W (W.setCell ⟨w.heap.size + 1 + 1, 0, none⟩ (.int .i64 (1 + (cnt M.mat x pre : Nat) + 1))).drew ∧ (((W.setCell ⟨w.heap.size + 1 + 1, 0, none⟩ (.int .i64 (1 + (cnt M.mat x pre : Nat) + 1))).drew.cell? ⟨w.heap.size, 0, none⟩ = some (.pointer (some ⟨g, 0, none⟩)) ∧ (W.setCell ⟨w.heap.size + 1 + 1, 0, none⟩ (.int .i64 (1 + (cnt M.mat x pre : Nat) + 1))).drew.cell? ⟨w.heap.size + 1, 0, none⟩ = some (.int .i64 x) ∧ (W.setCell ⟨w.heap.size + 1 + 1, 0, none⟩ (.int .i64 (1 + (cnt M.mat x pre : Nat) + 1))).drew.cell? ⟨w.heap.size + 1 + 1, 0, none⟩ = some (.int .i64 (1 + (cnt M.mat x (pre ++ [y]) : Nat))) ∧ (W.setCell ⟨w.heap.size + 1 + 1, 0, none⟩ (.int .i64 (1 + (cnt M.mat x pre : Nat) + 1))).drew.frozen? ⟨w.heap.size + 1 + 1, 0, none⟩ = false) ∧ Below w.heap.size w (W.setCell ⟨w.heap.size + 1 + 1, 0, none⟩ (.int .i64 (1 + (cnt M.mat x pre : Nat) + 1))).drew)) := fun hyes =>
      ⟨(KeepsOthers.setCell _ _ _).trans (KeepsOthers.drew _), ⟨((Below.refl _ W).setCell (p := ⟨w.heap.size + 1 + 1, 0, none⟩) (by simp; omega) _).drew, fun e => World.grownBy.cell (set_grown W (w.heap.size + 1 + 1) 0 _) e (by simp)⟩, ⟨⟨XS, XP, by rw [cnt_yes (by rw [hq']; exact hyes)]; rw [show ((1 : Int) + ((cnt M.mat x pre + 1 : Nat) : Int)) = 1 + (cnt M.mat x pre : Nat) + 1 by omega]; exact XV, by rw [frozen_drew_own, World.frozen?_setCell]; exact hfv⟩, (hB.setCell (p := ⟨w.heap.size + 1 + 1, 0, none⟩) (by simp; omega) _).drew⟩⟩
    clear XS XP XV
    have hbd : (cnt M.mat x pre : Int) ≤ 5 := by omega
    by_cases hle : x ≤ q
    · have HY := HYES.out hle
      have HY2 : Hid _ := HY
      clear HY HYES HNO hq' hq hc hcl
      gi_wp2
      gi_region_o
      all_goals gi_wp2
      all_goals exact HY2.out
    · have HY := HNO.out hle
      have HY2 : Hid _ := HY
      clear HY HYES HNO hq' hq hc hcl
      gi_wp2
      gi_region_o
      all_goals gi_wp2
      all_goals exact HY2.out
  case done =>
    rintro D ys W hD rfl ⟨⟨_, _, hcv, _⟩, hB⟩ hK
    gi_wp2
    refine ⟨by simp, .inl ⟨_, _, rfl, run_takeDeferred hK, ?_⟩⟩
    exact ⟨_, results_tmp rfl _ _ _, rfl, hB.trans (belowK_b (w := w) (Nat.le_refl _) W D _ _ (by simp at hD; omega) hK rfl rfl)⟩
  case stop =>
    rintro D c pre W _ _ h _
    exact h.elim

end Go.Proofs.Ytpmkmnniccbljan
