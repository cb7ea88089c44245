/- Whom to ask next: the program's next. -/
import Derived.Test.YtfdklcmhafhbeaaIt2a
import Derived.WalkMore
namespace Go.Proofs.Ytfdklcmhafhbeaa
open Go.RowKit Go.Shelf
attribute [local go_sem] Oper.semAt_some

theorem nextL_some {ls : List Int} {P : DPro} {x : Int} {k m : Nat} (h : goOn ls P = some (x, k)) : nextL ls (m + 1) P = (⟨P.order, k, P.seed, P.state, P.who, P.wait⟩, x) := by rw [nextL, h]
theorem nextL_none {ls : List Int} {P : DPro} {m : Nat} (h : goOn ls P = none) : nextL ls (m + 1) P = nextL ls m (anew ls P) := by rw [nextL, h]
theorem shufD_ok {ls : List Int} {s : Int} (h : ls.length ≤ 12) (h0 : 0 ≤ s) (h1 : s ≤ 2147483647) : shufD ls s = shufL ls s := if_neg (by omega)

set_option maxRecDepth 100000 in
set_option maxHeartbeats 8000000 in
theorem iNextV (gt base b2 : Nat) (P : DPro) (pv ov : Value) (ls : List Int) (w : World) (hb : w.heap[gt]? = some (.cells #[pv, .int .i64 P.next, .int .i64 P.seed, .int .i64 P.state, .int .i64 P.who, .int .i64 P.wait] 30 (0, 0))) (ho : OwI w base pv P.order) (hP : ProW P) (hl : OwI w b2 ov ls) (hn : ls.length ≤ 12) (hg : base ≤ gt) (hbs : base ≤ w.heap.size) :
    Calls Try.prog 35 #[.pointer (some ⟨gt, 0, none⟩), ov] w fun e w' => e = .returned (.int .i64 (nextL ls 2 P).2) ∧ ∃ qv, NxSt w gt base (nextL ls 2 P).1 qv w' := by
  obtain ⟨oa, oc, rfl⟩ := hl.shape
  obtain ⟨n, hnn⟩ : ∃ n, n = ls.length := ⟨_, rfl⟩
  have HLN : Hid (ls.length ≤ 12) := hn
  rw [← hnn] at hl ⊢
  obtain ⟨r, hr⟩ : ∃ r, r = w.heap.size := ⟨_, rfl⟩
  have HGT : Hid (gt < w.heap.size) := (Array.getElem?_eq_some_iff.1 hb).1
  have HM0 : Hid (∀ V, V = w.alloc (.cells #[.int .i64 0] 3) → NxM w gt base b2 r (.slice oa n oc) ls [] P pv (.int .i64 0) V) := fun V hV => by
    subst hV
    have lt : ∀ {v : Value} {b : Nat} {xs : List Int}, OwI w b v xs → v.ownBlock = none ∨ v.ownBlock ≠ some r := fun {v b xs} o => by
      cases hv : v.ownBlock with
      | none => exact .inl rfl
      | some k => exact .inr (by have := (o.lt k hv).2; simp; omega)
    exact ⟨⟨ext_blk (World.grownBy_alloc _ _ _) hb, ho.ext (World.grownBy_alloc _ _ _), (Below.refl _ w).alloc hbs _⟩, by rw [hr]; exact heap_alloc_new w _, hl.ext (World.grownBy_alloc _ _ _), fun D hD => (by cases hD), lt ho, lt hl, Nat.le_trans hbs (by simp), by omega⟩
  have HPW : Hid (ProW P) := hP
  have HPW2 : Hid (ProW (anew ls P)) := anew_w hP (by omega)
  have HG : Hid (base ≤ gt) := hg
  have HBR : Hid (base ≤ r) := by rw [hr]; exact hbs
  have HRW : Hid (r = w.heap.size) := hr
  have HB : Hid (base ≤ w.heap.size) := hbs
  clear hb ho hP hl hn hg hbs hnn
  refine callsIn_wide.1 (callsIn_of_wp_marks (n := 3) Try.func35 rfl trivial (wpIn_wide.2 ?_) rfl)
  simp only [Try.ntmps35, List.size_toArray, List.length_cons, List.length_nil, Nat.reduceAdd, Nat.reduceSub, Array.replicate_succ, Array.replicate_zero, List.push_toArray, List.append_toArray, List.nil_append, List.cons_append]
  go_wp2
  generalize hV : w.alloc _ = V
  have HM : Hid (NxM w gt base b2 r (.slice oa n oc) ls [] P pv (.int .i64 0) V) := HM0.out V hV.symm
  have hsv : w.heap.size < V.heap.size := by rw [← hV]; simp
  rw [← hr]
  clear hV HM0 hr
  refine wp_scope_jumps 0 (fun a W => ∃ (u2 u3 u6 u7 u8 u9 u10 u11 u12 u13 u14 u15 u16 u17 u18 u19 u20 u21 u22 u23 u24 u25 u26 u27 u28 u29 u30 u31 : Value) (D0 : Nat) (qv : Value), a = { tmps := #[.pointer (some ⟨gt, 0, none⟩), .slice oa n oc, u2, u3, .pointer (some ⟨r, 0, none⟩), .bool true, u6, u7, u8, u9, u10, u11, u12, u13, u14, u15, u16, u17, u18, u19, u20, u21, u22, u23, u24, u25, u26, u27, u28, u29, u30, u31], defers := [{ target := .collected D0, args := #[] }] } ∧ w.heap.size < D0 ∧ Hid (goOn ls P = none) ∧ Hid (NxM w gt base b2 r (.slice oa n oc) ls [D0] (anew ls P) qv (.int .i64 0) W)) (fun _ _ => 0) rfl ?first ?pass
  case first =>
    go_wp2_with fail
    go_step3
    go_wp2_with fail
    refine (leftV gt oa n oc V).mono ?_
    rintro e V2 ⟨rfl, hV2⟩
    have XV : Ext V V2 := by rw [hV2]; exact Ext.tr (World.grownBy_alloc _ _ none) (World.grownBy_alloc _ _ none)
    have cP : V2.heap[V.heap.size]? = some (.cells #[.pointer (some ⟨gt, 0, none⟩)] 55 (0, 0)) := by rw [hV2, Below.heap_alloc _ _ _ (by simp)]; exact heap_alloc_new V _
    have cO : V2.heap[V.heap.size + 1]? = some (.cells #[.slice oa n oc] 22 (0, 0)) := by rw [hV2]; simpa using heap_alloc_new (V.alloc (.cells #[.pointer (some ⟨gt, 0, none⟩)] 55 (0, 0))) (.cells #[.slice oa n oc] 22 (0, 0))
    have HM2 : Hid (NxM w gt base b2 r (.slice oa n oc) ls [] P pv (.int .i64 0) V2) := HM.out.ext XV
    have HSV : Hid (w.heap.size < V2.heap.size) := Nat.lt_of_lt_of_le hsv XV.size
    have HCC : Hid (V2.heap[V.heap.size]? = some (.cells #[.pointer (some ⟨gt, 0, none⟩)] 55 (0, 0)) ∧ V2.heap[V.heap.size + 1]? = some (.cells #[.slice oa n oc] 22 (0, 0)) ∧ V.heap.size ≠ gt ∧ V.heap.size + 1 ≠ gt) := ⟨cP, cO, by have := HGT.out; omega, by have := HGT.out; omega⟩
    have HDS : Hid (∀ D ∈ ([] : List Nat), D < V2.heap.size) := fun D hD => (Array.getElem?_eq_some_iff.1 (HM2.out.mrk D hD)).1
    clear hV2 XV cP cO
    go_wp2_with fail
    refine wp_range_once (α := Int × Nat) (gf := 71) (lb := #[.pointer (some ⟨V.heap.size, 0, none⟩), .pointer (some ⟨V.heap.size + 1, 0, none⟩)]) rfl (enters_of Try.func71 (by kernel_rfl) rfl) gt (Nat.lt_trans HGT.out HSV.out) (encs := fun y => #[.int .i64 y.1]) (fun _ => rfl)
      (fun W => goOn ls P = none ∧ NxM w gt base b2 r (.slice oa n oc) ls [] (⟨P.order, (P.order.length : Int), P.seed, P.state, P.who, P.wait⟩ : DPro) pv (.int .i64 0) W)
      (fun y W => goOn ls P = some y ∧ NxM w gt base b2 r (.slice oa n oc) ls [] (⟨P.order, (y.2 : Int), P.seed, P.state, P.who, P.wait⟩ : DPro) pv (.int .i64 0) W)
      (fun y W => goOn ls P = some y ∧ NxM w gt base b2 r (.slice oa n oc) ls [] (⟨P.order, (y.2 : Int), P.seed, P.state, P.who, P.wait⟩ : DPro) pv (.int .i64 y.1) W)
      (fun _ A B row hs hg hr => ⟨hs.1, hs.2.row hg hr (Nat.le_of_lt (Nat.lt_of_le_of_lt HB.out HSV.out)) HDS.out⟩) (fun _ A B row hs hg hr => ⟨hs.1, hs.2.row hg hr (Nat.le_of_lt (Nat.lt_of_le_of_lt HB.out HSV.out)) HDS.out⟩) (fun _ A B row hs hg hr => ⟨hs.1, hs.2.row hg hr (Nat.le_of_lt (Nat.lt_of_le_of_lt HB.out HSV.out)) HDS.out⟩)
      ?seq (fun y => { tmps := #[.pointer (some ⟨gt, 0, none⟩), .slice oa n oc, undef, undef, .pointer (some ⟨r, 0, none⟩), .bool false, .int .i64 y.1, .pointer (some ⟨gt, 0, none⟩), .slice oa n oc, .func (.func 71) #[] #[.pointer (some ⟨V.heap.size, 0, none⟩), .pointer (some ⟨V.heap.size + 1, 0, none⟩)], .int .i64 y.1, undef, undef, undef, undef, undef, undef, undef, undef, undef, undef, undef, undef, undef, undef, undef, undef, undef, undef, undef, undef, undef], defers := [] }) ?assign ?body ?done ?stop
    case seq =>
      intro l W1 R _ hX hnn hyy
      have M1 := HM2.out.ext hX
      refine left1_in l gt V.heap.size (V.heap.size + 1) base b2 P pv (.slice oa n oc) ls W1 R HPW.out M1.st.box M1.st.own M1.oth (cell_of_row _ _ 0 _ _ (0, 0) (ext_blk hX HCC.out.1)) (cell_of_row _ _ 0 _ _ (0, 0) (ext_blk hX HCC.out.2.1)) HCC.out.2.2.1 HCC.out.2.2.2 ?_ ?_
      · exact fun hnone W' hg hx => hnn W' hg ⟨hnone, M1.go HG.out hg hx⟩
      · exact fun x k hs W' hg hx => hyy (x, k) W' hg ⟨hs, M1.go HG.out hg hx⟩
    case assign =>
      intro l y W K hK
      gi_wp2
      exact hK
    case body =>
      rintro l ⟨x, k⟩ U ⟨hs, hm⟩
      have HF : Hid (KeepsOthers U (U.setCell ⟨r, 0, none⟩ (.int .i64 x)) ∧ goOn ls P = some (x, k) ∧ NxM w gt base b2 r (.slice oa n oc) ls [] (⟨P.order, (k : Int), P.seed, P.state, P.who, P.wait⟩ : DPro) pv (.int .i64 x) (U.setCell ⟨r, 0, none⟩ (.int .i64 x))) := ⟨KeepsOthers.setCell _ _ _, hs, hm.setRes _⟩
      obtain ⟨c0, f0⟩ := at_block hm.res 0 _ rfl
      clear hs hm
      gi_wp2
      exact HF.out
    case done =>
      rintro D U hD ⟨hnone, hm⟩ hdf
      have HN0 : Hid (goOn ls P = none) := hnone
      have HDF : Hid (U.heap[D]? = some (.deferred (some []))) := hdf
      have HMU : Hid (NxM w gt base b2 r (.slice oa n oc) ls (D :: []) (⟨P.order, (P.order.length : Int), P.seed, P.state, P.who, P.wait⟩ : DPro) pv (.int .i64 0) U) := ⟨hm.st, hm.res, hm.oth, fun E hE => (List.mem_cons.1 hE).elim (fun h => by rw [h]; exact hdf) (fun h => hm.mrk E h), hm.nq, hm.no, hm.sz, hm.br⟩
      obtain ⟨c0, c1, c2, c3, c4, c5⟩ := cells6 hm.st.box
      have HDB : Hid (w.heap.size < D) := Nat.lt_of_lt_of_le HSV.out hD
      have HDD : Hid (∀ E ∈ ([] : List Nat), E < D) := fun E hE => Nat.lt_of_lt_of_le (HDS.out E hE) hD
      have HSD : Hid (0 ≤ P.seed ∧ P.seed ≤ 2147483647) := HPW.out.2.2
      clear hnone hm hdf hD
      go_wp2_with fail
      refine (iShuffleV _ ls P.seed U HMU.out.oth.vl (by have := HSD.out; omega) (by have := HSD.out; omega)).mono ?_
      rintro e U2 ⟨sv, rfl, o2, b2'⟩
      rw [shufD_ok HLN.out HSD.out.1 HSD.out.2] at o2 ⊢
      have M2 := HMU.out.ext (ext_below b2')
      have hrU : r < U.heap.size := (Array.getElem?_eq_some_iff.1 HMU.out.res).1
      have HM3 : Hid (NxM w gt base b2 r (.slice oa n oc) ls (D :: []) (anew ls P) sv (.int .i64 0) (((U2.setCell ⟨gt, 0, none⟩ sv).setCell ⟨gt, 2, none⟩ (.int .i64 (shufL ls P.seed).2)).setCell ⟨gt, 1, none⟩ (.int .i64 0))) := (M2.turn HG.out o2 HMU.out.sz hrU (shufL ls P.seed).2).setNext HG.out 0
      obtain ⟨sa, sc, hsv2⟩ := o2.shape
      subst hsv2
      obtain ⟨d0, g0⟩ := at_block M2.st.box 0 _ rfl
      obtain ⟨d1, g1⟩ := at_block M2.st.box 1 _ rfl
      obtain ⟨d2, g2⟩ := at_block M2.st.box 2 _ rfl
      clear c0 c1 c2 c3 c4 c5 M2 o2 b2'
      go_wp2
      go_step3
      exact ⟨rfl, _, _, _, _, _, _, _, _, _, _, _, _, _, _, _, _, _, _, _, _, _, _, _, _, _, _, _, _, D, _, rfl, HDB.out, HN0, HM3⟩
    case stop =>
      rintro D ⟨x, k⟩ U hD ⟨hs, hm⟩ hdf
      have hm2 := hm.take hdf (Nat.le_trans HB.out (Nat.le_trans (Nat.le_of_lt HSV.out) hD)) (fun E hE => by cases hE) none
      obtain ⟨cr, _⟩ := at_block hm2.res 0 _ rfl
      refine ⟨by simp, .inl ⟨_, _, rfl, run_takeDeferred hdf, ?_⟩⟩
      refine ⟨.int .i64 x, by simp [results, Try.results35, go_sem, cr], ?_⟩
      rw [nextL_some hs]
      exact ⟨rfl, _, hm2.st⟩
  case pass =>
    rintro a W ⟨u2, u3, u6, u7, u8, u9, u10, u11, u12, u13, u14, u15, u16, u17, u18, u19, u20, u21, u22, u23, u24, u25, u26, u27, u28, u29, u30, u31, D0, qv, rfl, hD0, hgo, HM⟩
    have hsv : w.heap.size < W.heap.size := Nat.lt_trans hD0 (Array.getElem?_eq_some_iff.1 (HM.out.mrk D0 (by simp))).1
    go_wp2_with fail
    refine (leftV gt oa n oc W).mono ?_
    rintro e V2 ⟨rfl, hV2⟩
    have XV : Ext W V2 := by rw [hV2]; exact Ext.tr (World.grownBy_alloc _ _ none) (World.grownBy_alloc _ _ none)
    have cP : V2.heap[W.heap.size]? = some (.cells #[.pointer (some ⟨gt, 0, none⟩)] 55 (0, 0)) := by rw [hV2, Below.heap_alloc _ _ _ (by simp)]; exact heap_alloc_new W _
    have cO : V2.heap[W.heap.size + 1]? = some (.cells #[.slice oa n oc] 22 (0, 0)) := by rw [hV2]; simpa using heap_alloc_new (W.alloc (.cells #[.pointer (some ⟨gt, 0, none⟩)] 55 (0, 0))) (.cells #[.slice oa n oc] 22 (0, 0))
    have HM2 : Hid (NxM w gt base b2 r (.slice oa n oc) ls [D0] (anew ls P) qv (.int .i64 0) V2) := HM.out.ext XV
    have HSV : Hid (w.heap.size < V2.heap.size) := Nat.lt_of_lt_of_le hsv XV.size
    have HCC : Hid (V2.heap[W.heap.size]? = some (.cells #[.pointer (some ⟨gt, 0, none⟩)] 55 (0, 0)) ∧ V2.heap[W.heap.size + 1]? = some (.cells #[.slice oa n oc] 22 (0, 0)) ∧ W.heap.size ≠ gt ∧ W.heap.size + 1 ≠ gt) := ⟨cP, cO, by have := HGT.out; omega, by have := HGT.out; omega⟩
    have HDS : Hid (∀ D ∈ ([D0] : List Nat), D < V2.heap.size) := fun D hD => (Array.getElem?_eq_some_iff.1 (HM2.out.mrk D hD)).1
    clear hV2 XV cP cO
    go_wp2_with fail
    refine wp_range_once (α := Int × Nat) (gf := 71) (lb := #[.pointer (some ⟨W.heap.size, 0, none⟩), .pointer (some ⟨W.heap.size + 1, 0, none⟩)]) rfl (enters_of Try.func71 (by kernel_rfl) rfl) gt (Nat.lt_trans HGT.out HSV.out) (encs := fun y => #[.int .i64 y.1]) (fun _ => rfl)
      (fun W => goOn ls (anew ls P) = none ∧ NxM w gt base b2 r (.slice oa n oc) ls [D0] (⟨(anew ls P).order, ((anew ls P).order.length : Int), (anew ls P).seed, (anew ls P).state, (anew ls P).who, (anew ls P).wait⟩ : DPro) qv (.int .i64 0) W)
      (fun y W => goOn ls (anew ls P) = some y ∧ NxM w gt base b2 r (.slice oa n oc) ls [D0] (⟨(anew ls P).order, (y.2 : Int), (anew ls P).seed, (anew ls P).state, (anew ls P).who, (anew ls P).wait⟩ : DPro) qv (.int .i64 0) W)
      (fun y W => goOn ls (anew ls P) = some y ∧ NxM w gt base b2 r (.slice oa n oc) ls [D0] (⟨(anew ls P).order, (y.2 : Int), (anew ls P).seed, (anew ls P).state, (anew ls P).who, (anew ls P).wait⟩ : DPro) qv (.int .i64 y.1) W)
      (fun _ A B row hs hg hr => ⟨hs.1, hs.2.row hg hr (Nat.le_of_lt (Nat.lt_of_le_of_lt HB.out HSV.out)) HDS.out⟩) (fun _ A B row hs hg hr => ⟨hs.1, hs.2.row hg hr (Nat.le_of_lt (Nat.lt_of_le_of_lt HB.out HSV.out)) HDS.out⟩) (fun _ A B row hs hg hr => ⟨hs.1, hs.2.row hg hr (Nat.le_of_lt (Nat.lt_of_le_of_lt HB.out HSV.out)) HDS.out⟩)
      ?seq (fun y => { tmps := #[.pointer (some ⟨gt, 0, none⟩), .slice oa n oc, u2, u3, .pointer (some ⟨r, 0, none⟩), .bool true, .int .i64 y.1, .pointer (some ⟨gt, 0, none⟩), .slice oa n oc, .func (.func 71) #[] #[.pointer (some ⟨W.heap.size, 0, none⟩), .pointer (some ⟨W.heap.size + 1, 0, none⟩)], .int .i64 y.1, u11, u12, u13, u14, u15, u16, u17, u18, u19, u20, u21, u22, u23, u24, u25, u26, u27, u28, u29, u30, u31], defers := [] }) ?assign ?body ?done ?stop
    case seq =>
      intro l W1 R _ hX hnn hyy
      have M1 := HM2.out.ext hX
      refine left1_in l gt W.heap.size (W.heap.size + 1) base b2 (anew ls P) qv (.slice oa n oc) ls W1 R HPW2.out M1.st.box M1.st.own M1.oth (cell_of_row _ _ 0 _ _ (0, 0) (ext_blk hX HCC.out.1)) (cell_of_row _ _ 0 _ _ (0, 0) (ext_blk hX HCC.out.2.1)) HCC.out.2.2.1 HCC.out.2.2.2 ?_ ?_
      · exact fun hnone W' hg hx => hnn W' hg ⟨hnone, M1.go HG.out hg hx⟩
      · exact fun x k hs W' hg hx => hyy (x, k) W' hg ⟨hs, M1.go HG.out hg hx⟩
    case assign =>
      intro l y W K hK
      gi_wp2
      exact hK
    case body =>
      rintro l ⟨x, k⟩ U ⟨hs, hm⟩
      have HF : Hid (KeepsOthers U (U.setCell ⟨r, 0, none⟩ (.int .i64 x)) ∧ goOn ls (anew ls P) = some (x, k) ∧ NxM w gt base b2 r (.slice oa n oc) ls [D0] (⟨(anew ls P).order, (k : Int), (anew ls P).seed, (anew ls P).state, (anew ls P).who, (anew ls P).wait⟩ : DPro) qv (.int .i64 x) (U.setCell ⟨r, 0, none⟩ (.int .i64 x))) := ⟨KeepsOthers.setCell _ _ _, hs, hm.setRes _⟩
      obtain ⟨c0, f0⟩ := at_block hm.res 0 _ rfl
      clear hs hm
      gi_wp2
      exact HF.out
    case done =>
      rintro D U hD ⟨hnone, hm⟩ hdf
      have HN0 : Hid (goOn ls (anew ls P) = none) := hnone
      have HDF : Hid (U.heap[D]? = some (.deferred (some []))) := hdf
      have HMU : Hid (NxM w gt base b2 r (.slice oa n oc) ls (D :: [D0]) (⟨(anew ls P).order, ((anew ls P).order.length : Int), (anew ls P).seed, (anew ls P).state, (anew ls P).who, (anew ls P).wait⟩ : DPro) qv (.int .i64 0) U) := ⟨hm.st, hm.res, hm.oth, fun E hE => (List.mem_cons.1 hE).elim (fun h => by rw [h]; exact hdf) (fun h => hm.mrk E h), hm.nq, hm.no, hm.sz, hm.br⟩
      obtain ⟨c0, c1, c2, c3, c4, c5⟩ := cells6 hm.st.box
      have HDB : Hid (w.heap.size < D) := Nat.lt_of_lt_of_le HSV.out hD
      have HDD : Hid (∀ E ∈ ([D0] : List Nat), E < D) := fun E hE => Nat.lt_of_lt_of_le (HDS.out E hE) hD
      have HSD : Hid (0 ≤ (anew ls P).seed ∧ (anew ls P).seed ≤ 2147483647) := HPW2.out.2.2
      clear hnone hm hdf hD
      go_wp2_with fail
      refine (iShuffleV _ ls (anew ls P).seed U HMU.out.oth.vl (by have := HSD.out; omega) (by have := HSD.out; omega)).mono ?_
      rintro e U2 ⟨sv, rfl, o2, b2'⟩
      rw [shufD_ok HLN.out HSD.out.1 HSD.out.2] at o2 ⊢
      have M2 := HMU.out.ext (ext_below b2')
      have hrU : r < U.heap.size := (Array.getElem?_eq_some_iff.1 HMU.out.res).1
      have HM3 : Hid (NxM w gt base b2 r (.slice oa n oc) ls (D :: [D0]) (anew ls (anew ls P)) sv (.int .i64 0) (((U2.setCell ⟨gt, 0, none⟩ sv).setCell ⟨gt, 2, none⟩ (.int .i64 (shufL ls (anew ls P).seed).2)).setCell ⟨gt, 1, none⟩ (.int .i64 0))) := (M2.turn HG.out o2 HMU.out.sz hrU (shufL ls (anew ls P).seed).2).setNext HG.out 0
      obtain ⟨sa, sc, hsv2⟩ := o2.shape
      subst hsv2
      obtain ⟨d0, g0⟩ := at_block M2.st.box 0 _ rfl
      obtain ⟨d1, g1⟩ := at_block M2.st.box 1 _ rfl
      obtain ⟨d2, g2⟩ := at_block M2.st.box 2 _ rfl
      clear c0 c1 c2 c3 c4 c5 M2 o2 b2'
      have HM4 : Hid (NxM w gt base b2 r (.slice oa n oc) ls (D :: [D0]) (anew ls (anew ls P)) (.slice sa (shufL ls (anew ls P).seed).1.length sc) (.int .i64 (-1)) ((((U2.setCell ⟨gt, 0, none⟩ (.slice sa (shufL ls (anew ls P).seed).1.length sc)).setCell ⟨gt, 2, none⟩ (.int .i64 (shufL ls (anew ls P).seed).2)).setCell ⟨gt, 1, none⟩ (.int .i64 0)).setCell ⟨r, 0, none⟩ (.int .i64 (-1)))) := HM3.out.setRes _
      obtain ⟨dr, gr⟩ := at_block HM3.out.res 0 _ rfl
      go_wp2
      have hdf := HM4.out.mrk D (by simp)
      have hm2 := (HM4.out.less (Es := [D0]) (fun E hE => by simp at hE; simp [hE])).take hdf (Nat.le_trans HB.out (Nat.le_of_lt HDB.out)) (fun E hE => HDD.out E hE) none
      have hd2 := hm2.mrk D0 (by simp)
      have hm3 := (hm2.less (Es := []) (fun E hE => by cases hE)).take hd2 (Nat.le_trans HB.out (Nat.le_of_lt hD0)) (fun E hE => by cases hE) none
      obtain ⟨cr, _⟩ := at_block hm3.res 0 _ rfl
      refine ⟨by simp, .inl ⟨_, _, rfl, run_takeDeferred hdf, ⟨by simp, .inl ⟨_, _, rfl, run_takeDeferred hd2, ?_⟩⟩⟩⟩
      refine ⟨.int .i64 (-1), by simp [results, Try.results35, go_sem, cr], ?_⟩
      rw [nextL_none hgo.out, nextL_none HN0.out, nextL]
      exact ⟨rfl, _, hm3.st⟩
    case stop =>
      rintro D ⟨x, k⟩ U hD ⟨hs, hm⟩ hdf
      have hm2 := hm.take hdf (Nat.le_trans HB.out (Nat.le_trans (Nat.le_of_lt HSV.out) hD)) (fun E hE => Nat.lt_of_lt_of_le (HDS.out E hE) hD) none
      have hd2 := hm2.mrk D0 (by simp)
      have hm3 := (hm2.less (Es := []) (fun E hE => by cases hE)).take hd2 (Nat.le_trans HB.out (Nat.le_of_lt hD0)) (fun E hE => by cases hE) none
      obtain ⟨cr, _⟩ := at_block hm3.res 0 _ rfl
      refine ⟨by simp, .inl ⟨_, _, rfl, run_takeDeferred hdf, ⟨by simp, .inl ⟨_, _, rfl, run_takeDeferred hd2, ?_⟩⟩⟩⟩
      refine ⟨.int .i64 x, by simp [results, Try.results35, go_sem, cr], ?_⟩
      rw [nextL_none hgo.out, nextL_some hs]
      exact ⟨rfl, _, hm3.st⟩

end Go.Proofs.Ytfdklcmhafhbeaa
