/- The program's TreeLongest. -/
import Derived.Test.YtdeogmkcomdbjaaTk2
import Derived.Test.YtdeogmkcomdbjaaTq1
import Derived.Test.YtdeogmkcomdbjaaIHas
import Derived.BigQuiet
namespace Go.Proofs.Ytdeogmkcomdbjaa
open Go.RowKit Go.Shelf
attribute [local go_sem] Oper.semAt_some

/-- What is carried while keys are told; B is the best so far. -/
structure LgI (w : World) (gb : Nat) (u : Value) (B : List Int × Bool) (V : World) : Prop where
  kb : V.heap[w.heap.size + 1]? = some (.cells #[u] 22 (0, 0))
  best : ∃ a c, V.heap[gb]? = some (.cells #[.slice a B.1.length c] 22 (0, 0)) ∧ Ow V w.heap.size (.slice a B.1.length c) B.1
  r2 : V.heap[gb + 1]? = some (.cells #[.bool B.2] 4 (0, 0))
  bel : Below w.heap.size w V
  lt : w.heap.size + 1 < gb
theorem LgI.cel {w V V' : World} {gb base : Nat} {u : Value} {B : List Int × Bool} (h : LgI w gb u B V) (c : Cel base V V') (hb : w.heap.size ≤ base) : LgI w gb u B V' := by
  obtain ⟨a, cc, h1, h2⟩ := h.best
  exact ⟨c.same _ _ h.kb (.inl rfl), ⟨a, cc, c.same _ _ h1 (.inl rfl), ow_same h2 (fun k _ o ho hc => c.same k o ho (.inl hc))⟩, c.same _ _ h.r2 (.inl rfl), below_cel h.bel c hb, h.lt⟩

set_option maxRecDepth 100000 in
set_option maxHeartbeats 1000000 in
theorem iTreeLongestV {d : Nat} (t : DTree d) (v u : Value) (key : List Int) (w : World) (ht : VTree w t v) (hu : RV w u key) (hsz : szT t ≤ 1048576) (hkl : key.length ≤ 1048576) :
    Calls Try.prog 22 #[v, u] w fun e w' => ∃ gv, e = .returned (.tuple #[gv, .bool (longTD t key).2]) ∧ Ow w' w.heap.size gv (longTD t key).1 ∧ Below w.heap.size w w' := by
  have hE : ∀ w : World, ∀ o, Ext w (w.alloc o) := fun w o => World.grownBy_alloc _ _ _
  have HT : Hid (VTree w t v) := ht
  have HU : Hid (RV w u key) := hu
  have HZ : Hid (szT t ≤ 1048576) := hsz
  have HKL : Hid (key.length ≤ 2097152) := Nat.le_trans hkl (by omega)
  obtain ⟨e1, e2, e3, hv, xv, k1, k2, k3, rfl⟩ := VTree.agg ht
  obtain ⟨ua, uc, hus, _⟩ := hu
  generalize hun : key.length = un at hus
  subst hus
  obtain ⟨ob, hob⟩ : ∃ ob, ob = tB (okT t) := ⟨_, rfl⟩
  obtain ⟨R, hR⟩ : ∃ R, R = longTD t key := ⟨_, rfl⟩
  rw [← hR]
  have HOB := hideK hob
  have HRR : Hid (R = if ob then longK (keysT t []) key else ([], false)) := by show _ = _; rw [hR, hob]; unfold longTD; rfl
  have HAS : Hid (ob = true → (keysT t []).Pairwise (fun x y => ltK x y = true)) := fun h => keys_asc d t _ [] ht (by rw [hob] at h; exact (tB_iff.1 h).2.1)
  clear ht hsz hob hR hun hkl
  refine callsIn_wide.1 (callsIn_of_wp_marks (n := 3) Try.func22 rfl trivial ?_ rfl)
  simp only [Try.ntmps22, List.size_toArray, List.length_cons, List.length_nil, Nat.reduceAdd, Nat.reduceSub, Array.replicate_succ, Array.replicate_zero, List.push_toArray, List.append_toArray, List.nil_append, List.cons_append]
  gi_wp2_with fail
  refine ⟨trivial, callsIn_wide.2 ?_⟩
  generalize hW : World.alloc (World.alloc w _) _ = W
  have XW : Ext w W := by rw [← hW]; exact (hE _ _).tr (hE _ _)
  have P0 : W.heap[w.heap.size]? = some (.cells #[.slice e1 e2 e3, .bool hv, .int .i64 xv, .slice k1 k2 k3] 30 (0, 0)) := by
    rw [← hW, Below.heap_alloc _ _ _ (by simp)]; exact heap_alloc_new w _
  have P1 : W.heap[w.heap.size + 1]? = some (.cells #[.slice ua un uc] 22 (0, 0)) := by
    rw [← hW]; simpa using heap_alloc_new (w.alloc _) (.cells #[.slice ua un uc] 22 (0, 0))
  clear hW
  refine (iTreeOkV t _ W (VTree.ext XW _ _ HT.out) HZ.out).mono ?_
  rintro e9 w1 ⟨rfl, b1⟩
  have X1 : Ext w w1 := XW.tr (ext_below b1)
  have HP0 := hideK (ext_blk (ext_below b1) P0)
  have HP1 := hideK (ext_blk (ext_below b1) P1)
  have HX1 := hideK X1
  have HS1 : Hid (w.heap.size + 1 < w1.heap.size) := (Array.getElem?_eq_some_iff.1 HP1.out).1
  clear P0 P1 XW b1 X1
  rw [← HOB.out]
  cases ob
  · have HK : Hid (R = ([], false)) := HRR.out
    gi_wp2
    exact ⟨_, results_tmp2 rfl _ _ _, _, by rw [HK.out]; rfl, by rw [HK.out]; exact World.ownsRow_nil _ _ _ _, ext_bel HX1.out⟩
  have HK : Hid (R = longK (keysT t []) key) := HRR.out
  have HASC := hideK (HAS.out rfl)
  have XA : Ext w1 ((w1.alloc (.cells #[.slice none 0 0] 22)).alloc (.cells #[.bool false] 4)) := (hE _ _).tr (hE _ _)
  obtain ⟨q0, _⟩ := at_block (ext_blk XA HP0.out) 0 _ rfl
  obtain ⟨q1, _⟩ := at_block (ext_blk XA HP0.out) 1 _ rfl
  obtain ⟨q2, _⟩ := at_block (ext_blk XA HP0.out) 2 _ rfl
  obtain ⟨q3, _⟩ := at_block (ext_blk XA HP0.out) 3 _ rfl
  clear XA
  gi_wp2_with fail
  refine ⟨trivial, callsIn_wide.2 ?_⟩
  refine (keysBehindV (w1.alloc (.cells #[.slice none 0 0] 22)) _ (.slice e1 e2 e3) (.bool hv) (.int .i64 xv) (.slice k1 k2 k3) none 0 0).mono ?_
  rintro e9 V2 ⟨rfl, hV2⟩
  have XV : Ext w1 V2 := by rw [hV2]; exact (((hE _ _).tr (hE _ _)).tr (hE _ _)).tr (hE _ _)
  have R1 : V2.heap[w1.heap.size]? = some (.cells #[.slice none 0 0] 22 (0, 0)) := by
    rw [hV2, Below.heap_alloc _ _ _ (by simp; omega), Below.heap_alloc _ _ _ (by simp; omega), Below.heap_alloc _ _ _ (by simp)]; exact heap_alloc_new w1 _
  have R2 : V2.heap[w1.heap.size + 1]? = some (.cells #[.bool false] 4 (0, 0)) := by
    rw [hV2, Below.heap_alloc _ _ _ (by simp), Below.heap_alloc _ _ _ (by simp)]; simpa using heap_alloc_new (w1.alloc _) (.cells #[.bool false] 4 (0, 0))
  have BT2 : V2.heap[w1.heap.size + 1 + 1]? = some (.cells #[.slice e1 e2 e3, .bool hv, .int .i64 xv, .slice k1 k2 k3] 30 (0, 0)) := by
    rw [hV2, Below.heap_alloc _ _ _ (by simp)]
    simpa using heap_alloc_new ((w1.alloc _).alloc _) (.cells #[.slice e1 e2 e3, .bool hv, .int .i64 xv, .slice k1 k2 k3] 30 (0, 0))
  have BA2 : V2.heap[w1.heap.size + 1 + 2]? = some (.cells #[.slice none 0 0] 22 (0, 0)) := by
    rw [hV2]
    simpa using heap_alloc_new (((w1.alloc _).alloc _).alloc _) (.cells #[.slice none 0 0] 22 (0, 0))
  have HXV := hideK (HX1.out.tr XV)
  have HI0 : Hid (LgI w w1.heap.size (.slice ua un uc) (longK ((keysT t []).take 0) key) V2) := ⟨ext_blk XV HP1.out, ⟨none, 0, R1, World.ownsRow_nil _ _ _ _⟩, R2, ext_bel HXV.out, HS1.out⟩
  have HBT2 := hideK BT2
  have HBA2 := hideK BA2
  clear XV BT2 BA2 hV2 q0 q1 q2 q3 R1 R2
  gi_wp2_with fail
  refine wpIn_range_tells (gf := 44) (lb := #[.pointer (some ⟨w1.heap.size + 1 + 2, 0, none⟩), .pointer (some ⟨w1.heap.size + 1 + 1, 0, none⟩)]) rfl (enters_of Try.func44 (by kernel_rfl) rfl) rfl (keysT t []) w.heap.size (fun b => b = w1.heap.size ∨ b = w1.heap.size + 1) (fun _ => False) ?hX ?tell
    (fun k O1 V => (O1 = fun b => b = w1.heap.size ∨ b = w1.heap.size + 1) ∧ LgI w w1.heap.size (.slice ua un uc) (longK ((keysT t []).take k) key) V) (fun c V => c = .exit 0 ∧ LgI w w1.heap.size (.slice ua un uc) (longK (keysT t []) key) V) ?hI ?hIx ?hO ?h0
    (fun kq => { tmps := #[.agg #[.slice e1 e2 e3, .bool hv, .int .i64 xv, .slice k1 k2 k3], .slice ua un uc, .pointer (some ⟨w.heap.size, 0, none⟩), .pointer (some ⟨w.heap.size + 1, 0, none⟩), .slice none 0 0, .bool false, .pointer (some ⟨w1.heap.size, 0, none⟩), .pointer (some ⟨w1.heap.size + 1, 0, none⟩), kq, .agg #[.slice e1 e2 e3, .bool hv, .int .i64 xv, .slice k1 k2 k3], .bool true, .bool false, .agg #[.slice e1 e2 e3, .bool hv, .int .i64 xv, .slice k1 k2 k3], .func (.func 44) #[] #[.pointer (some ⟨w1.heap.size + 1 + 2, 0, none⟩), .pointer (some ⟨w1.heap.size + 1 + 1, 0, none⟩)], kq, undef, undef, undef, undef, undef, undef, undef, undef, undef, undef], defers := [] }) ?asg ?body ?done ?stop
  case hX => exact fun _ h => h.elim
  case tell =>
    intro W1 hX1
    exact keys1_any d t w W1 _ _ _ _ (w1.heap.size + 1 + 1) (w1.heap.size + 1 + 2) w.heap.size _ [] _ HT.out (Nat.le_refl _) (HXV.out.tr hX1) (ext_blk hX1 HBT2.out) (fun hh => by rcases hh with hh | hh <;> omega) (ext_blk hX1 HBA2.out) ⟨none, 0, rfl, Rd.nil _ _, Nat.le_refl _, Nat.zero_le _⟩ (by have := HZ.out; simp only [List.length_nil]; omega)
  case hI => exact fun k O1 V V' hh hc => ⟨hh.1, hh.2.cel hc HXV.out.size⟩
  case hIx => exact fun c V V' hh hc => ⟨hh.1, hh.2.cel hc HXV.out.size⟩
  case hO =>
    intro k O1 V hh b hb
    rw [hh.1] at hb
    obtain ⟨_, _, hb1, _⟩ := hh.2.best
    have h1 := (Array.getElem?_eq_some_iff.1 hb1).1
    have h2 := (Array.getElem?_eq_some_iff.1 hh.2.r2).1
    have h3 := HS1.out
    rcases hb with rfl | rfl
    · exact ⟨by omega, h1⟩
    · exact ⟨by omega, h2⟩
  case h0 => exact ⟨rfl, HI0.out⟩
  case asg =>
    intro l' kq V K hK
    gi_wp2
    exact hK
  case body =>
    intro l' k xk O1 V0 V kq hl' hxk hI0 hR0 hc0 ho
    have HOO := hideK hI0.1
    have HI := hideK (hI0.2.cel hc0 HXV.out.size)
    have HO : Hid (Ow V w.heap.size kq xk) := ow_low ho hI0.2.bel.size
    have hrg : ∀ y ∈ xk, 0 ≤ y ∧ y ≤ 255 := keys_rng (ah := []) HT.out (fun _ h => by cases h) (List.mem_of_getElem? hxk)
    have HV : Hid (RV V kq xk) := HO.out.rv hrg
    have HXL : Hid (xk.length ≤ 2097152) := by
      have := keys_lenX d t [] 1048576 (by have h2 : szTD d t ≤ 1048576 := HZ.out; simp only [List.length_nil]; omega) xk (List.mem_of_getElem? hxk)
      show _ ≤ _
      omega
    obtain ⟨qa, qc, hq, _⟩ := HV.out
    obtain ⟨qn, hqn⟩ : ∃ qn, qn = xk.length := ⟨_, rfl⟩
    rw [← hqn] at hq
    subst hq
    have HQN := hideK hqn
    have HUV : Hid (RV V (.slice ua un uc) key) := HU.out.ext (ext_below HI.out.bel)
    obtain ⟨y1, _⟩ := at_block HI.out.kb 0 _ rfl
    have HXK := hideK hxk
    clear hI0 hR0 hc0 ho hxk hrg hqn
    gi_wp2_with fail
    refine ⟨trivial, callsIn_wide.2 ?_⟩
    refine (compareE _ _ xk key V HV.out HUV.out).mono ?_
    rintro e9 V3 ⟨rfl, hV3⟩
    have hV3' := hV3.symm
    clear hV3
    subst hV3'
    have hgt := cmpK_gt xk key
    generalize cmpK xk key = cr at hgt ⊢
    cases hlt : ltK key xk
    case true =>
      rw [hlt] at hgt
      have HF : Hid ((∃ O2, Rnd (fun b => O1 b ∨ False) O2 V V) ∧ LgI w w1.heap.size (.slice ua un uc) (longK (keysT t []) key) V) := by
        refine ⟨⟨_, Rnd.refl _ _⟩, ?_⟩
        have h1 := HI.out
        rw [longK, ← last_stop HASC.out HXK.out hlt] at h1
        exact h1
      clear hlt
      gi_wp2
      exact ⟨HF.out.1, rfl, HF.out.2⟩
    rw [hlt] at hgt
    clear hlt
    gi_wp2_with fail
    refine ⟨trivial, callsIn_wide.2 ?_⟩
    refine (iHasV _ _ key xk V HUV.out HV.out HKL.out HXL.out).mono ?_
    rintro e9 V4 ⟨rfl, q4, hV4⟩
    have X4 : Ext V V4 := by rw [hV4]; exact ext_drewN _ _
    have HX4 := hideK X4
    have HI4 := hideK (HI.out.cel (Cel.ext w.heap.size X4) (Nat.le_refl _))
    have HST := hideK (last_step (text := key) HXK.out)
    clear hV4 X4 y1
    cases hhb : hasB key xk
    · have HF : Hid (∃ O2, ((O2 = fun b => b = w1.heap.size ∨ b = w1.heap.size + 1) ∧ LgI w w1.heap.size (.slice ua un uc) (longK ((keysT t []).take (k + 1)) key) V4) ∧ Rnd O1 O2 V V4) := by
        refine ⟨O1, ⟨HOO.out, ?_⟩, (Rnd.refl _ _).ext HX4.out⟩
        rw [longK, HST.out, hhb]
        exact HI4.out
      clear hhb
      gi_wp2
      exact HF.out
    · have hb2 := HI4.out.best
      obtain ⟨ba, bc, hb1, _⟩ := hb2
      obtain ⟨r1, f1⟩ := at_block hb1 0 _ rfl
      obtain ⟨r2, f2⟩ := at_block HI4.out.r2 0 _ rfl
      have HF : Hid (∃ O2, ((O2 = fun b => b = w1.heap.size ∨ b = w1.heap.size + 1) ∧ LgI w w1.heap.size (.slice ua un uc) (longK ((keysT t []).take (k + 1)) key) ((V4.setCell ⟨w1.heap.size, 0, none⟩ (.slice qa qn qc)).setCell ⟨w1.heap.size + 1, 0, none⟩ (.bool true))) ∧ Rnd O1 O2 V ((V4.setCell ⟨w1.heap.size, 0, none⟩ (.slice qa qn qc)).setCell ⟨w1.heap.size + 1, 0, none⟩ (.bool true))) := by
        have nr : ∀ (b : Nat) (cs : Array Value) (t : TypeId), V4.heap[b]? = some (.cells cs t (0, 0)) → t ≠ 5 → ∀ r, (Value.slice qa qn qc).ownBlock = some r → r ≠ b := fun b cs t hb ht r hr e => by
          rcases (HO.out.ext HX4.out).2 with ⟨hv, _⟩ | ⟨g, cap, cur, hv, _, hblk, _⟩
          · rw [hv] at hr; cases hr
          · rw [hv] at hr
            simp only [Value.ownBlock, Option.some.injEq] at hr
            subst hr
            rw [e, hb] at hblk
            simp only [Option.some.injEq, Obj.cells.injEq] at hblk
            exact ht hblk.2.1
        have hlw := HI4.out.lt
        refine ⟨O1, ⟨HOO.out, ?_⟩, ⟨HX4.out.os, HX4.out.tape, HX4.out.output, by simp; exact HX4.out.size, fun j hj hn => ?_, fun j hj => .inl hj⟩⟩
        · rw [longK, HST.out, hhb]
          refine ⟨set_other _ _ _ (by omega) (set_other _ _ _ (by omega) HI4.out.kb), ⟨qa, qc, ?_, ?_⟩, ?_, ?_, hlw⟩
          · show _ = some (Obj.cells #[.slice qa xk.length qc] 22 (0, 0))
            rw [← HQN.out]
            exact set_other (k := w1.heap.size) (w1.heap.size + 1) 0 (.bool true) (by omega) (set_block hb1 0 (.slice qa qn qc))
          · have ho4 : Ow V4 w.heap.size (.slice qa qn qc) xk := HO.out.ext HX4.out
            show Ow _ w.heap.size (.slice qa xk.length qc) xk
            rw [← HQN.out]
            refine ow_same ho4 (fun r hr o ho hc => ?_)
            rw [Below.heap_setCell _ _ _ _ (nr _ _ _ HI4.out.r2 (by decide) r hr), Below.heap_setCell _ _ _ _ (nr _ _ _ hb1 (by decide) r hr)]
            exact ho
          · exact set_block (set_other _ _ _ (by omega) HI4.out.r2) 0 _
          · exact (HI4.out.bel.setCell (by show _ ≤ w1.heap.size; omega) _).setCell (by show _ ≤ w1.heap.size + 1; omega) _
        · rw [HOO.out] at hn
          rw [Below.heap_setCell _ _ _ _ (fun e => hn (.inr e)), Below.heap_setCell _ _ _ _ (fun e => hn (.inl e))]
          exact HX4.out.block j hj (by simp)
      clear hhb hb1
      gi_wp2
      exact HF.out
  case done =>
    intro D O1 V hD hI0 hR0 hDlt nD hdf
    have hL := hI0.2
    rw [longK, last_all rfl] at hL
    clear hI0 hDlt nD
    change LgI w w1.heap.size (.slice ua un uc) (longK (keysT t []) key) V at hL
    obtain ⟨ba, bc, hb1, hb2⟩ := hL.best
    obtain ⟨r1, _⟩ := at_block hb1 0 _ rfl
    obtain ⟨r2, _⟩ := at_block hL.r2 0 _ rfl
    have HDF := hideK hdf
    have HDD : Hid (w.heap.size ≤ D) := Nat.le_trans HXV.out.size hD
    have HFIN : Hid (∀ U, Ext V U → U.heap[D]? = some (.deferred (some [])) → Ow (U.putObj D (.deferred none)) w.heap.size (.slice ba (longK (keysT t []) key).1.length bc) (longK (keysT t []) key).1 ∧ Below w.heap.size w (U.putObj D (.deferred none))) := fun U hU hD' => by
      have hc : Cel w.heap.size V (U.putObj D (.deferred none)) := (Cel.ext _ hU).trans (Cel.put HDD.out hD' rfl _)
      exact ⟨ow_same hb2 (fun k _ o ho hc' => hc.same k o ho (.inl hc')), below_cel hL.bel hc (Nat.le_refl _)⟩
    generalize longK (keysT t []) key = Z at HFIN HK r1 r2
    clear hL hb1 hb2 hdf hD hR0
    gi_wp2
    refine wpIn_wide.2 ?_
    go_quiet (fail)
    go_wp2
    refine wpIn_ret ?_
    refine ⟨by simp, .inl ⟨D, _, rfl, run_takeDeferred (ds := []) (by exact HDF.out), ?_⟩⟩
    obtain ⟨z1, z2⟩ := HFIN.out (World.drewN V _) (ext_drewN V _) HDF.out
    exact ⟨_, results_tmp2 rfl _ _ _, _, by rw [HK.out]; rfl, by rw [HK.out]; exact z1, z2⟩
  case stop =>
    rintro D c O3 V hD ⟨rfl, hL⟩ hR0 hdf
    refine wpIn_exit ?_
    obtain ⟨ba, bc, hb1, hb2⟩ := hL.best
    obtain ⟨r1, _⟩ := at_block hb1 0 _ rfl
    obtain ⟨r2, _⟩ := at_block hL.r2 0 _ rfl
    have HDF := hideK hdf
    have HDD : Hid (w.heap.size ≤ D) := Nat.le_trans HXV.out.size hD
    have HFIN : Hid (∀ U, Ext V U → U.heap[D]? = some (.deferred (some [])) → Ow (U.putObj D (.deferred none)) w.heap.size (.slice ba (longK (keysT t []) key).1.length bc) (longK (keysT t []) key).1 ∧ Below w.heap.size w (U.putObj D (.deferred none))) := fun U hU hD' => by
      have hc : Cel w.heap.size V (U.putObj D (.deferred none)) := (Cel.ext _ hU).trans (Cel.put HDD.out hD' rfl _)
      exact ⟨ow_same hb2 (fun k _ o ho hc' => hc.same k o ho (.inl hc')), below_cel hL.bel hc (Nat.le_refl _)⟩
    generalize longK (keysT t []) key = Z at HFIN HK r1 r2
    clear hL hb1 hb2 hdf hD hR0
    gi_wp2
    refine wpIn_wide.2 ?_
    go_quiet (fail)
    go_wp2
    refine wpIn_ret ?_
    refine ⟨by simp, .inl ⟨D, _, rfl, run_takeDeferred (ds := []) (by exact HDF.out), ?_⟩⟩
    obtain ⟨z1, z2⟩ := HFIN.out (World.drewN V _) (ext_drewN V _) HDF.out
    exact ⟨_, results_tmp2 rfl _ _ _, _, by rw [HK.out]; rfl, by rw [HK.out]; exact z1, z2⟩

end Go.Proofs.Ytdeogmkcomdbjaa
