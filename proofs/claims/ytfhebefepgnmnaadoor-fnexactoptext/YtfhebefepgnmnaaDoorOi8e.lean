/- The contract of the program's OpText, kind by kind. -/
import Derived.Test.YtfhebefepgnmnaaDoorOt8
import Derived.Test.YtfhebefepgnmnaaDoorIOp
namespace Go.Proofs.YtfhebefepgnmnaaDoor
open Go.RowKit

set_option maxHeartbeats 4000000 in
theorem iOT_4 (ka va : Option Addr) (kc vc : Nat) (ky vl : List Int) (n : Nat) (w : World) (rk : RV w (.slice ka ky.length kc) ky) (rv : RV w (.slice va vl.length vc) vl) (hB : opB ⟨4, ky, vl, (n : Int)⟩ = true) (hk : ky.length ≤ 20) (hv : vl.length ≤ 20) (hn : n ≤ 1000000) (hp : PowTab w.heap.size w) :
    Calls Tryd.prog 7 #[.agg #[.int .i64 4, .slice ka ky.length kc, .slice va vl.length vc, .int .i64 (n : Int)]] w fun e w' => ∃ v', e = .returned (.tuple #[v', .bool true]) ∧ Ow w' w.heap.size v' (nameL 4 ++ toksL [tNum n]) ∧ Below w.heap.size w w' := by
  have _hu := And.intro hk (And.intro hv hn)
  have hE : ∀ W : World, ∀ o, Ext W (W.alloc o) := fun W o => World.grownBy_alloc _ _ _
  obtain ⟨V, hV⟩ : ∃ V, V = w.alloc (.cells #[.int .i64 4, .slice ka ky.length kc, .slice va vl.length vc, .int .i64 (n : Int)] 28) := ⟨_, rfl⟩
  have q : V.heap[w.heap.size]? = some (.cells #[.int .i64 4, .slice ka ky.length kc, .slice va vl.length vc, .int .i64 (n : Int)] 28 (0, 0)) := by rw [hV]; exact heap_alloc_new w _
  have bV : Below w.heap.size w V := by rw [hV]; exact (Below.refl _ w).alloc (Nat.le_refl _) _
  have RK : Hid (RV w (.slice ka ky.length kc) ky) := rk
  have RW : Hid (RV w (.slice va vl.length vc) vl) := rv
  have HP : Hid (PowTab w.heap.size w) := hp
  have HO : Hid (opB ⟨4, ky, vl, (n : Int)⟩ = true) := hB
  have HOK : Hid (Calls Tryd.prog 17 #[.agg #[.int .i64 4, .slice ka ky.length kc, .slice va vl.length vc, .int .i64 (n : Int)]] V fun e w' => e = .returned (.bool true) ∧ Below V.heap.size V w') := by
    have := iOpOkV (.agg #[.int .i64 4, .slice ka ky.length kc, .slice va vl.length vc, .int .i64 (n : Int)]) ⟨4, ky, vl, (n : Int)⟩ V ⟨_, _, rfl, rk.ext (ext_below bV), rv.ext (ext_below bV)⟩
    rw [hB] at this
    exact this
  have HQ : Hid (∀ W, Ext V W → (W.cell? ⟨w.heap.size, 0, none⟩ = some (.int .i64 4) ∧ W.cell? ⟨w.heap.size, 1, none⟩ = some (.slice ka ky.length kc) ∧ W.cell? ⟨w.heap.size, 2, none⟩ = some (.slice va vl.length vc) ∧ W.cell? ⟨w.heap.size, 3, none⟩ = some (.int .i64 (n : Int)))) := fun W x => by
    have h1 : W.heap[w.heap.size]? = _ := (x.block _ (Array.getElem?_eq_some_iff.1 q).1 (by simp)).trans q
    exact ⟨(at_block h1 0 _ rfl).1, (at_block h1 1 _ rfl).1, (at_block h1 2 _ rfl).1, (at_block h1 3 _ rfl).1⟩
  have HQB : Hid (∀ W, Ext V W → W.heap[w.heap.size]? = some (.cells #[.int .i64 4, .slice ka ky.length kc, .slice va vl.length vc, .int .i64 (n : Int)] 28 (0, 0))) := fun W x => (x.block _ (Array.getElem?_eq_some_iff.1 q).1 (by simp)).trans q
  have HBV : Hid (∀ W, Ext V W → Below w.heap.size w W) := fun W x => ⟨x.os.trans bV.os, x.tape.trans bV.tape, x.output.trans bV.output, Nat.le_trans bV.size x.size, fun j hj => (x.block j (Nat.lt_of_lt_of_le hj bV.size) (by simp)).trans (bV.block j hj)⟩
  obtain ⟨q0, q1, q2, q3⟩ := HQ.out V (World.grownBy.refl _ _)
  have HV := Lib.hid hV
  clear hV q bV rk rv hp hB
  go_enter Tryd.func7, Tryd.ntmps7
  go_upto_region 1 with fail
  rw [← HV.out]
  clear HV
  go_wp2_with fail
  refine HOK.out.mono ?_
  rintro e w1 ⟨rfl, b1⟩
  have X1 : Ext V w1 := ext_below b1
  clear q0 q1 q2 q3
  obtain ⟨q0, q1, q2, q3⟩ := HQ.out w1 X1
  clear b1
  go_upto_region 3 with fail
  have HFO : Hid (∀ W, Ext w1 W → Calls Tryd.prog 18 #[] W fun e w' => ∃ G, G = W.heap.size ∧ e = .returned (.slice (some ⟨G + 3, 0, none⟩) 8 8) ∧ Forms w' G ∧ Ext V w' ∧ w'.cell? ⟨w.heap.size, 0, none⟩ = some (.int .i64 4) ∧ w'.cell? ⟨G + 3, 8, none⟩ = some (.string (nameS 4)) ∧ w'.cell? ⟨G + 3, 9, none⟩ = some (.func (Fn.func 34) #[] #[]) ∧ ∀ o, W.heap[w1.heap.size]? = some o → w'.heap[w1.heap.size]? = some o) := fun W x => by
    refine (opFormsV W).mono ?_
    rintro e w' ⟨rfl, F, b⟩
    obtain ⟨t, ht⟩ := F.row
    have x' : Ext V w' := (X1.tr x).tr (ext_below b)
    exact ⟨_, rfl, rfl, F, x', (HQ.out w' x').1, (at_block ht 8 _ rfl).1, (at_block ht 9 _ rfl).1, fun o ho => (b.block _ (Array.getElem?_eq_some_iff.1 ho).1).trans ho⟩
  have XD : Ext w1 w1.drew := ext_drewN w1 1
  have XA : Ext w1 (w1.alloc (.cells #[.string ⟨#[]⟩, .nilFunc] 40)).drew := (hE w1 _).tr (ext_drewN _ 1)
  have SV := X1.size
  have kq0 : ∀ o, (w1.alloc o).cell? ⟨w.heap.size, 0, none⟩ = some (.int .i64 4) := fun o => World.grownBy.cell (hE w1 o) q0 (by simp)
  go_cut [4] from 8 to 12 (fun s4 wx => ∃ Bx G, s4 = .pointer (some ⟨Bx, 0, none⟩) ∧ wx.heap[Bx]? = some (.cells #[.string (nameS 4), .func (Fn.func 34) #[] #[]] 40 (0, 0)) ∧ Forms wx G ∧ Ext V wx)
  case first =>
    go_region_with (go_at_call 18; refine (HFO.out _ ?_).mono ?_; (first | exact XD | exact XA); rintro e w2 ⟨G, hG, rfl, F2, X2, c0, c1, c2, hk2⟩; have HG : Hid _ := hG; clear hG; have kc0 : ∀ o, (w2.alloc o).cell? ⟨w.heap.size, 0, none⟩ = some (.int .i64 4) := (fun o => World.grownBy.cell (hE w2 o) c0 (by simp)); have kc1 : ∀ o, (w2.alloc o).cell? ⟨G + 3, 8, none⟩ = some (.string (nameS 4)) := (fun o => World.grownBy.cell (hE w2 o) c1 (by simp)); have kc2 : ∀ o, (w2.alloc o).cell? ⟨G + 3, 9, none⟩ = some (.func (Fn.func 34) #[] #[]) := (fun o => World.grownBy.cell (hE w2 o) c2 (by simp)); (first | (have Q2 := hk2 _ (heap_alloc_new w1 (.cells #[.string ⟨#[]⟩, .nilFunc] 40)); obtain ⟨z0, f0⟩ := at_block Q2 0 _ rfl; obtain ⟨z1, f1⟩ := at_block Q2 1 _ rfl; have QH : Hid _ := Q2; clear Q2) | skip); clear hk2)
    all_goals
      go_wp2_with fail
      go_meet
    all_goals first
      | exact ⟨w2.heap.size, G, rfl, heap_alloc_new w2 _, F2.ext (hE _ _), X2.tr (hE _ _)⟩
      | exact ⟨w1.heap.size, G, rfl, set_block (set_block QH.out 0 _) 1 _, (F2.set (by rw [HG.out]; simp)).set (by rw [HG.out]; simp), ext_set (ext_set X2 SV) SV⟩
  obtain ⟨Bx, G, rfl, u, FU, XU⟩ := hcut
  all_goals
    obtain ⟨U, hU⟩ : ∃ U, U = wc := ⟨_, rfl⟩
    rw [← hU] at u FU XU
    have HU := Lib.hid hU
    clear hU
    have HY : Hid (∀ W, Ext U W → W.heap[Bx]? = some (.cells #[.string (nameS 4), .func (Fn.func 34) #[] #[]] 40 (0, 0)) ∧ W.heap[w.heap.size]? = some (.cells #[.int .i64 4, .slice ka ky.length kc, .slice va vl.length vc, .int .i64 (n : Int)] 28 (0, 0))) := fun W x =>
      ⟨(x.block _ (Array.getElem?_eq_some_iff.1 u).1 (by simp)).trans u, HQB.out W (XU.tr x)⟩
    have HX : Hid (∀ W : World, W.heap[Bx]? = some (.cells #[.string (nameS 4), .func (Fn.func 34) #[] #[]] 40 (0, 0)) ∧ W.heap[w.heap.size]? = some (.cells #[.int .i64 4, .slice ka ky.length kc, .slice va vl.length vc, .int .i64 (n : Int)] 28 (0, 0)) → W.cell? ⟨Bx, 0, none⟩ = some (.string (nameS 4)) ∧ W.cell? ⟨Bx, 1, none⟩ = some (.func (Fn.func 34) #[] #[]) ∧ W.cell? ⟨w.heap.size, 0, none⟩ = some (.int .i64 4) ∧ W.cell? ⟨w.heap.size, 1, none⟩ = some (.slice ka ky.length kc) ∧ W.cell? ⟨w.heap.size, 2, none⟩ = some (.slice va vl.length vc) ∧ W.cell? ⟨w.heap.size, 3, none⟩ = some (.int .i64 (n : Int))) := fun W h =>
      ⟨(at_block h.1 0 _ rfl).1, (at_block h.1 1 _ rfl).1, (at_block h.2 0 _ rfl).1, (at_block h.2 1 _ rfl).1, (at_block h.2 2 _ rfl).1, (at_block h.2 3 _ rfl).1⟩
    have HZ : Hid (∀ W, Ext U W → W.cell? ⟨Bx, 0, none⟩ = some (.string (nameS 4)) ∧ W.cell? ⟨Bx, 1, none⟩ = some (.func (Fn.func 34) #[] #[]) ∧ W.cell? ⟨w.heap.size, 0, none⟩ = some (.int .i64 4) ∧ W.cell? ⟨w.heap.size, 1, none⟩ = some (.slice ka ky.length kc) ∧ W.cell? ⟨w.heap.size, 2, none⟩ = some (.slice va vl.length vc) ∧ W.cell? ⟨w.heap.size, 3, none⟩ = some (.int .i64 (n : Int))) := fun W x => HX.out W (HY.out W x)
    have HB : Hid (∀ W, Ext U W → Below w.heap.size w W) := fun W x => HBV.out W (XU.tr x)
    clear q0 q1 q2 q3
    obtain ⟨z0, z1, z2, z3, z4, z5⟩ := HZ.out U (World.grownBy.refl _ _)
    go_upto_region 4 with fail
    rw [← HU.out]
    clear HU
    have XB : Ext U U.drew := ext_drewN U 1
    have FW : Forms U.drew G := FU.ext XB
    go_region_held3 (fun w' => w'.cell? ⟨Bx, 0, none⟩ = some (.string (nameS 4)) ∧ w'.cell? ⟨Bx, 1, none⟩ = some (.func (Fn.func 34) #[] #[]) ∧ w'.cell? ⟨w.heap.size, 0, none⟩ = some (.int .i64 4) ∧ w'.cell? ⟨w.heap.size, 1, none⟩ = some (.slice ka ky.length kc) ∧ w'.cell? ⟨w.heap.size, 2, none⟩ = some (.slice va vl.length vc) ∧ w'.cell? ⟨w.heap.size, 3, none⟩ = some (.int .i64 (n : Int))) (first | (simp [*]; done) | go_keep)
      (first
      | (go_at_call 19; refine (words_of 4 (by omega) w.heap.size w3 B3.size v3 [tNum n] T3 (by simp) ?_ (HP.out.on B3)).mono ?_; (intro t ht; simp only [List.mem_cons, List.not_mem_nil, or_false] at ht; subst ht; exact tok_nr _ _ _ hn); rintro e w4 ⟨v4, rfl, o4, b4⟩; obtain ⟨y0, y1, y2, y3, y4, y5⟩ := HX.out w4 ⟨b4.block K3'.out.1 (by decide), b4.block K3'.out.2 (by decide)⟩)
      | (go_at_call 34; refine (wantNum 4 (n : Int) ka va ky.length kc vl.length vc _).mono ?_; rintro e w3 ⟨v3, rfl, o3, b3⟩; have B3 := HB.out w3 (XB.tr (ext_below b3)); have T3 : VToks w3 v3 [tNum n] := toks_of_own o3 (by simp); have K3 := HY.out w3 (XB.tr (ext_below b3)); obtain ⟨z0, z1, z2, z3, z4, z5⟩ := HX.out w3 K3; have K3' : Hid _ := K3; clear K3))
    all_goals
      go_wp2
      exact bodyPost_ret (v := .tuple #[v4, .bool true]) (by simp [results, Tryd.results7, go_sem]) rfl ⟨v4, rfl, o4, B3.trans b4.below⟩

set_option maxHeartbeats 4000000 in
theorem iOT_5 (ka va : Option Addr) (kc vc : Nat) (ky vl : List Int) (n : Nat) (w : World) (rk : RV w (.slice ka ky.length kc) ky) (rv : RV w (.slice va vl.length vc) vl) (hB : opB ⟨5, ky, vl, (n : Int)⟩ = true) (hk : ky.length ≤ 20) (hv : vl.length ≤ 20) (hn : n ≤ 1000000) (hp : PowTab w.heap.size w) :
    Calls Tryd.prog 7 #[.agg #[.int .i64 5, .slice ka ky.length kc, .slice va vl.length vc, .int .i64 (n : Int)]] w fun e w' => ∃ v', e = .returned (.tuple #[v', .bool true]) ∧ Ow w' w.heap.size v' (nameL 5 ++ toksL [tNum n]) ∧ Below w.heap.size w w' := by
  have _hu := And.intro hk (And.intro hv hn)
  have hE : ∀ W : World, ∀ o, Ext W (W.alloc o) := fun W o => World.grownBy_alloc _ _ _
  obtain ⟨V, hV⟩ : ∃ V, V = w.alloc (.cells #[.int .i64 5, .slice ka ky.length kc, .slice va vl.length vc, .int .i64 (n : Int)] 28) := ⟨_, rfl⟩
  have q : V.heap[w.heap.size]? = some (.cells #[.int .i64 5, .slice ka ky.length kc, .slice va vl.length vc, .int .i64 (n : Int)] 28 (0, 0)) := by rw [hV]; exact heap_alloc_new w _
  have bV : Below w.heap.size w V := by rw [hV]; exact (Below.refl _ w).alloc (Nat.le_refl _) _
  have RK : Hid (RV w (.slice ka ky.length kc) ky) := rk
  have RW : Hid (RV w (.slice va vl.length vc) vl) := rv
  have HP : Hid (PowTab w.heap.size w) := hp
  have HO : Hid (opB ⟨5, ky, vl, (n : Int)⟩ = true) := hB
  have HOK : Hid (Calls Tryd.prog 17 #[.agg #[.int .i64 5, .slice ka ky.length kc, .slice va vl.length vc, .int .i64 (n : Int)]] V fun e w' => e = .returned (.bool true) ∧ Below V.heap.size V w') := by
    have := iOpOkV (.agg #[.int .i64 5, .slice ka ky.length kc, .slice va vl.length vc, .int .i64 (n : Int)]) ⟨5, ky, vl, (n : Int)⟩ V ⟨_, _, rfl, rk.ext (ext_below bV), rv.ext (ext_below bV)⟩
    rw [hB] at this
    exact this
  have HQ : Hid (∀ W, Ext V W → (W.cell? ⟨w.heap.size, 0, none⟩ = some (.int .i64 5) ∧ W.cell? ⟨w.heap.size, 1, none⟩ = some (.slice ka ky.length kc) ∧ W.cell? ⟨w.heap.size, 2, none⟩ = some (.slice va vl.length vc) ∧ W.cell? ⟨w.heap.size, 3, none⟩ = some (.int .i64 (n : Int)))) := fun W x => by
    have h1 : W.heap[w.heap.size]? = _ := (x.block _ (Array.getElem?_eq_some_iff.1 q).1 (by simp)).trans q
    exact ⟨(at_block h1 0 _ rfl).1, (at_block h1 1 _ rfl).1, (at_block h1 2 _ rfl).1, (at_block h1 3 _ rfl).1⟩
  have HQB : Hid (∀ W, Ext V W → W.heap[w.heap.size]? = some (.cells #[.int .i64 5, .slice ka ky.length kc, .slice va vl.length vc, .int .i64 (n : Int)] 28 (0, 0))) := fun W x => (x.block _ (Array.getElem?_eq_some_iff.1 q).1 (by simp)).trans q
  have HBV : Hid (∀ W, Ext V W → Below w.heap.size w W) := fun W x => ⟨x.os.trans bV.os, x.tape.trans bV.tape, x.output.trans bV.output, Nat.le_trans bV.size x.size, fun j hj => (x.block j (Nat.lt_of_lt_of_le hj bV.size) (by simp)).trans (bV.block j hj)⟩
  obtain ⟨q0, q1, q2, q3⟩ := HQ.out V (World.grownBy.refl _ _)
  have HV := Lib.hid hV
  clear hV q bV rk rv hp hB
  go_enter Tryd.func7, Tryd.ntmps7
  go_upto_region 1 with fail
  rw [← HV.out]
  clear HV
  go_wp2_with fail
  refine HOK.out.mono ?_
  rintro e w1 ⟨rfl, b1⟩
  have X1 : Ext V w1 := ext_below b1
  clear q0 q1 q2 q3
  obtain ⟨q0, q1, q2, q3⟩ := HQ.out w1 X1
  clear b1
  go_upto_region 3 with fail
  have HFO : Hid (∀ W, Ext w1 W → Calls Tryd.prog 18 #[] W fun e w' => ∃ G, G = W.heap.size ∧ e = .returned (.slice (some ⟨G + 3, 0, none⟩) 8 8) ∧ Forms w' G ∧ Ext V w' ∧ w'.cell? ⟨w.heap.size, 0, none⟩ = some (.int .i64 5) ∧ w'.cell? ⟨G + 3, 10, none⟩ = some (.string (nameS 5)) ∧ w'.cell? ⟨G + 3, 11, none⟩ = some (.func (Fn.func 34) #[] #[]) ∧ ∀ o, W.heap[w1.heap.size]? = some o → w'.heap[w1.heap.size]? = some o) := fun W x => by
    refine (opFormsV W).mono ?_
    rintro e w' ⟨rfl, F, b⟩
    obtain ⟨t, ht⟩ := F.row
    have x' : Ext V w' := (X1.tr x).tr (ext_below b)
    exact ⟨_, rfl, rfl, F, x', (HQ.out w' x').1, (at_block ht 10 _ rfl).1, (at_block ht 11 _ rfl).1, fun o ho => (b.block _ (Array.getElem?_eq_some_iff.1 ho).1).trans ho⟩
  have XD : Ext w1 w1.drew := ext_drewN w1 1
  have XA : Ext w1 (w1.alloc (.cells #[.string ⟨#[]⟩, .nilFunc] 40)).drew := (hE w1 _).tr (ext_drewN _ 1)
  have SV := X1.size
  have kq0 : ∀ o, (w1.alloc o).cell? ⟨w.heap.size, 0, none⟩ = some (.int .i64 5) := fun o => World.grownBy.cell (hE w1 o) q0 (by simp)
  go_cut [4] from 8 to 12 (fun s4 wx => ∃ Bx G, s4 = .pointer (some ⟨Bx, 0, none⟩) ∧ wx.heap[Bx]? = some (.cells #[.string (nameS 5), .func (Fn.func 34) #[] #[]] 40 (0, 0)) ∧ Forms wx G ∧ Ext V wx)
  case first =>
    go_region_with (go_at_call 18; refine (HFO.out _ ?_).mono ?_; (first | exact XD | exact XA); rintro e w2 ⟨G, hG, rfl, F2, X2, c0, c1, c2, hk2⟩; have HG : Hid _ := hG; clear hG; have kc0 : ∀ o, (w2.alloc o).cell? ⟨w.heap.size, 0, none⟩ = some (.int .i64 5) := (fun o => World.grownBy.cell (hE w2 o) c0 (by simp)); have kc1 : ∀ o, (w2.alloc o).cell? ⟨G + 3, 10, none⟩ = some (.string (nameS 5)) := (fun o => World.grownBy.cell (hE w2 o) c1 (by simp)); have kc2 : ∀ o, (w2.alloc o).cell? ⟨G + 3, 11, none⟩ = some (.func (Fn.func 34) #[] #[]) := (fun o => World.grownBy.cell (hE w2 o) c2 (by simp)); (first | (have Q2 := hk2 _ (heap_alloc_new w1 (.cells #[.string ⟨#[]⟩, .nilFunc] 40)); obtain ⟨z0, f0⟩ := at_block Q2 0 _ rfl; obtain ⟨z1, f1⟩ := at_block Q2 1 _ rfl; have QH : Hid _ := Q2; clear Q2) | skip); clear hk2)
    all_goals
      go_wp2_with fail
      go_meet
    all_goals first
      | exact ⟨w2.heap.size, G, rfl, heap_alloc_new w2 _, F2.ext (hE _ _), X2.tr (hE _ _)⟩
      | exact ⟨w1.heap.size, G, rfl, set_block (set_block QH.out 0 _) 1 _, (F2.set (by rw [HG.out]; simp)).set (by rw [HG.out]; simp), ext_set (ext_set X2 SV) SV⟩
  obtain ⟨Bx, G, rfl, u, FU, XU⟩ := hcut
  all_goals
    obtain ⟨U, hU⟩ : ∃ U, U = wc := ⟨_, rfl⟩
    rw [← hU] at u FU XU
    have HU := Lib.hid hU
    clear hU
    have HY : Hid (∀ W, Ext U W → W.heap[Bx]? = some (.cells #[.string (nameS 5), .func (Fn.func 34) #[] #[]] 40 (0, 0)) ∧ W.heap[w.heap.size]? = some (.cells #[.int .i64 5, .slice ka ky.length kc, .slice va vl.length vc, .int .i64 (n : Int)] 28 (0, 0))) := fun W x =>
      ⟨(x.block _ (Array.getElem?_eq_some_iff.1 u).1 (by simp)).trans u, HQB.out W (XU.tr x)⟩
    have HX : Hid (∀ W : World, W.heap[Bx]? = some (.cells #[.string (nameS 5), .func (Fn.func 34) #[] #[]] 40 (0, 0)) ∧ W.heap[w.heap.size]? = some (.cells #[.int .i64 5, .slice ka ky.length kc, .slice va vl.length vc, .int .i64 (n : Int)] 28 (0, 0)) → W.cell? ⟨Bx, 0, none⟩ = some (.string (nameS 5)) ∧ W.cell? ⟨Bx, 1, none⟩ = some (.func (Fn.func 34) #[] #[]) ∧ W.cell? ⟨w.heap.size, 0, none⟩ = some (.int .i64 5) ∧ W.cell? ⟨w.heap.size, 1, none⟩ = some (.slice ka ky.length kc) ∧ W.cell? ⟨w.heap.size, 2, none⟩ = some (.slice va vl.length vc) ∧ W.cell? ⟨w.heap.size, 3, none⟩ = some (.int .i64 (n : Int))) := fun W h =>
      ⟨(at_block h.1 0 _ rfl).1, (at_block h.1 1 _ rfl).1, (at_block h.2 0 _ rfl).1, (at_block h.2 1 _ rfl).1, (at_block h.2 2 _ rfl).1, (at_block h.2 3 _ rfl).1⟩
    have HZ : Hid (∀ W, Ext U W → W.cell? ⟨Bx, 0, none⟩ = some (.string (nameS 5)) ∧ W.cell? ⟨Bx, 1, none⟩ = some (.func (Fn.func 34) #[] #[]) ∧ W.cell? ⟨w.heap.size, 0, none⟩ = some (.int .i64 5) ∧ W.cell? ⟨w.heap.size, 1, none⟩ = some (.slice ka ky.length kc) ∧ W.cell? ⟨w.heap.size, 2, none⟩ = some (.slice va vl.length vc) ∧ W.cell? ⟨w.heap.size, 3, none⟩ = some (.int .i64 (n : Int))) := fun W x => HX.out W (HY.out W x)
    have HB : Hid (∀ W, Ext U W → Below w.heap.size w W) := fun W x => HBV.out W (XU.tr x)
    clear q0 q1 q2 q3
    obtain ⟨z0, z1, z2, z3, z4, z5⟩ := HZ.out U (World.grownBy.refl _ _)
    go_upto_region 4 with fail
    rw [← HU.out]
    clear HU
    have XB : Ext U U.drew := ext_drewN U 1
    have FW : Forms U.drew G := FU.ext XB
    go_region_held3 (fun w' => w'.cell? ⟨Bx, 0, none⟩ = some (.string (nameS 5)) ∧ w'.cell? ⟨Bx, 1, none⟩ = some (.func (Fn.func 34) #[] #[]) ∧ w'.cell? ⟨w.heap.size, 0, none⟩ = some (.int .i64 5) ∧ w'.cell? ⟨w.heap.size, 1, none⟩ = some (.slice ka ky.length kc) ∧ w'.cell? ⟨w.heap.size, 2, none⟩ = some (.slice va vl.length vc) ∧ w'.cell? ⟨w.heap.size, 3, none⟩ = some (.int .i64 (n : Int))) (first | (simp [*]; done) | go_keep)
      (first
      | (go_at_call 19; refine (words_of 5 (by omega) w.heap.size w3 B3.size v3 [tNum n] T3 (by simp) ?_ (HP.out.on B3)).mono ?_; (intro t ht; simp only [List.mem_cons, List.not_mem_nil, or_false] at ht; subst ht; exact tok_nr _ _ _ hn); rintro e w4 ⟨v4, rfl, o4, b4⟩; obtain ⟨y0, y1, y2, y3, y4, y5⟩ := HX.out w4 ⟨b4.block K3'.out.1 (by decide), b4.block K3'.out.2 (by decide)⟩)
      | (go_at_call 34; refine (wantNum 5 (n : Int) ka va ky.length kc vl.length vc _).mono ?_; rintro e w3 ⟨v3, rfl, o3, b3⟩; have B3 := HB.out w3 (XB.tr (ext_below b3)); have T3 : VToks w3 v3 [tNum n] := toks_of_own o3 (by simp); have K3 := HY.out w3 (XB.tr (ext_below b3)); obtain ⟨z0, z1, z2, z3, z4, z5⟩ := HX.out w3 K3; have K3' : Hid _ := K3; clear K3))
    all_goals
      go_wp2
      exact bodyPost_ret (v := .tuple #[v4, .bool true]) (by simp [results, Tryd.results7, go_sem]) rfl ⟨v4, rfl, o4, B3.trans b4.below⟩

end Go.Proofs.YtfhebefepgnmnaaDoor
