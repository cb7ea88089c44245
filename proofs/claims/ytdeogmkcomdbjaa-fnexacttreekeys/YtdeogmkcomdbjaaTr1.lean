/- The program's TreeKeys. -/
import Derived.Test.YtdeogmkcomdbjaaTr1a
import Derived.Test.YtdeogmkcomdbjaaIHas
import Derived.Test.YtdeogmkcomdbjaaCmp4
import Derived.BigQuiet
import Derived.OwnWalkIn
namespace Go.Proofs.Ytdeogmkcomdbjaa
open Go.RowKit Go.Shelf
attribute [local go_sem] Oper.semAt_some

theorem ne_txK {w : World} {base n b : Nat} {v : Value} {F : List Value} {cs : Array Value} {t : TypeId} (r : w.ownsRow base 22 1 v n F) (h : w.heap[b]? = some (.cells cs t (0, 0))) (ht : t ≠ 22) : some b ≠ v.ownBlock := by
  intro e
  rcases r.2 with ⟨hv, _⟩ | ⟨g, cap, cur, hv, _, hg, _⟩
  · rw [hv] at e; cases e
  · rw [hv] at e
    simp only [Value.ownBlock, Option.some.injEq] at e
    subst e
    rw [h] at hg
    simp only [Option.some.injEq, Obj.cells.injEq] at hg
    exact ht hg.2.1

set_option maxRecDepth 100000 in
set_option maxHeartbeats 1000000 in
theorem iTreeKeysV {d : Nat} (t : DTree d) (v u : Value) (key : List Int) (w : World) (ht : VTree w t v) (hu : RV w u key) (hsz : szT t ≤ 1048576) (hkl : key.length ≤ 1048576) :
    Calls Try.prog 14 #[v, u] w fun e w' => ∃ lv F, e = .returned lv ∧ TxS w' w.heap.size lv F (keysPD t key) ∧ Apart F ∧ Below w.heap.size w w' := by
  have hE : ∀ w : World, ∀ o, Ext w (w.alloc o) := fun w o => World.grownBy_alloc _ _ _
  have HT : Hid (VTree w t v) := ht
  have HU : Hid (RV w u key) := hu
  have HZ : Hid (szT t ≤ 1048576) := hsz
  have HKL : Hid (key.length ≤ 2097152) := Nat.le_trans hkl (by omega)
  obtain ⟨e1, e2, e3, hv, xv, k1, k2, k3, rfl⟩ := VTree.agg ht
  obtain ⟨ua, uc, hus, _⟩ := hu
  generalize hun : key.length = un at hus
  subst hus
  obtain ⟨ob, hob⟩ : ∃ ob, ob = tB (okT t) := ⟨_, rfl⟩
  obtain ⟨R, hR⟩ : ∃ R, R = keysPD t key := ⟨_, rfl⟩
  rw [← hR]
  have HOB := hideK hob
  have HRR : Hid (R = if ob then keysP t [] key else []) := by show _ = _; rw [hR, hob]; unfold keysPD; rfl
  have HAS : Hid (ob = true → (keysT t []).Pairwise (fun x y => ltK x y = true)) := fun h => keys_asc d t _ [] ht (by rw [hob] at h; exact (tB_iff.1 h).2.1)
  clear ht hsz hob hR hun hkl
  refine callsIn_wide.1 (callsIn_of_wp_marks (n := 3) Try.func14 rfl trivial ?_ rfl)
  simp only [Try.ntmps14, List.size_toArray, List.length_cons, List.length_nil, Nat.reduceAdd, Nat.reduceSub, Array.replicate_succ, Array.replicate_zero, List.push_toArray, List.append_toArray, List.nil_append, List.cons_append]
  gi_wp2_with fail
  refine ⟨trivial, callsIn_wide.2 ?_⟩
  generalize hW : World.alloc (World.alloc w _) _ = W
  have XW : Ext w W := by rw [← hW]; exact (hE _ _).tr (hE _ _)
  have P0 : W.heap[w.heap.size]? = some (.cells #[.slice e1 e2 e3, .bool hv, .int .i64 xv, .slice k1 k2 k3] 30 (0, 0)) := by
    rw [← hW, Below.heap_alloc _ _ _ (by simp)]; exact heap_alloc_new w _
  have P1 : W.heap[w.heap.size + 1]? = some (.cells #[.slice ua un uc] 22 (0, 0)) := by
    rw [← hW]; simpa using heap_alloc_new (w.alloc _) (.cells #[.slice ua un uc] 22 (0, 0))
  clear hW
  refine (iTreeOkV t _ W (VTree.ext XW _ _ HT.out) HZ.out).mono ?_
  rintro e9 w1 ⟨rfl, b1⟩
  have X1 : Ext w w1 := XW.tr (ext_below b1)
  have HP0 := hideK (ext_blk (ext_below b1) P0)
  have HP1 := hideK (ext_blk (ext_below b1) P1)
  have HX1 := hideK X1
  have HS1 : Hid (w.heap.size + 1 < w1.heap.size) := (Array.getElem?_eq_some_iff.1 HP1.out).1
  clear P0 P1 XW b1 X1
  rw [← HOB.out]
  cases ob
  · have HK : Hid (R = []) := HRR.out
    gi_wp2
    exact ⟨_, results_tmp rfl _ _ _, _, [], rfl, by rw [HK.out]; exact TxS.nil _ _, apart_nil, ext_bel HX1.out⟩
  have HK : Hid (R = (keysT t []).filter (fun x => hasB x key)) := HRR.out
  have HRP : Hid (∀ z ∈ key, 0 ≤ z ∧ z ≤ 255) := rv_rng HU.out
  have HASC := hideK (HAS.out rfl)
  have HLX : Hid (∀ y ∈ keysT t [], y.length ≤ 1048576) := fun y hy => keys_lenX d t [] 1048576 (by have h2 : szTD d t ≤ 1048576 := HZ.out; simp only [List.length_nil]; omega) y hy
  have HCN : Hid ((keysT t []).length ≤ 1048577) := by
    show _ ≤ _
    have h1 := keys_len d t []
    have h2 := cntK_le d t
    have h3 : szTD d t ≤ 1048576 := HZ.out
    have h4 : (keysT t []).length = cntKD d t := h1
    omega
  have XA : Ext w1 (w1.alloc (.cells #[.slice none 0 0] 34)) := hE _ _
  obtain ⟨q0, _⟩ := at_block (ext_blk XA HP0.out) 0 _ rfl
  obtain ⟨q1, _⟩ := at_block (ext_blk XA HP0.out) 1 _ rfl
  obtain ⟨q2, _⟩ := at_block (ext_blk XA HP0.out) 2 _ rfl
  obtain ⟨q3, _⟩ := at_block (ext_blk XA HP0.out) 3 _ rfl
  clear XA
  gi_wp2_with fail
  refine ⟨trivial, callsIn_wide.2 ?_⟩
  refine (keysBehindV w1 _ (.slice e1 e2 e3) (.bool hv) (.int .i64 xv) (.slice k1 k2 k3) none 0 0).mono ?_
  rintro e9 V2 ⟨rfl, hV2⟩
  have XV : Ext w1 V2 := by rw [hV2]; exact ((hE _ _).tr (hE _ _)).tr (hE _ _)
  have R1 : V2.heap[w1.heap.size]? = some (.cells #[.slice none 0 0] 34 (0, 0)) := by
    rw [hV2, Below.heap_alloc _ _ _ (by simp; omega), Below.heap_alloc _ _ _ (by simp)]; exact heap_alloc_new w1 _
  have BT2 : V2.heap[w1.heap.size + 1]? = some (.cells #[.slice e1 e2 e3, .bool hv, .int .i64 xv, .slice k1 k2 k3] 30 (0, 0)) := by
    rw [hV2, Below.heap_alloc _ _ _ (by simp)]
    simpa using heap_alloc_new (w1.alloc _) (.cells #[.slice e1 e2 e3, .bool hv, .int .i64 xv, .slice k1 k2 k3] 30 (0, 0))
  have BA2 : V2.heap[w1.heap.size + 2]? = some (.cells #[.slice none 0 0] 22 (0, 0)) := by
    rw [hV2]
    simpa using heap_alloc_new ((w1.alloc _).alloc _) (.cells #[.slice none 0 0] 22 (0, 0))
  have HXV := hideK (HX1.out.tr XV)
  have HI0 : Hid (KyI w w1.heap.size (.slice ua un uc) (.slice none 0 0) [] (((keysT t []).take 0).filter (fun x => hasB x key)) V2) := ⟨ext_blk XV HP1.out, R1, TxS.nil _ _, apart_nil, ext_bel HXV.out, HS1.out⟩
  have HBT2 := hideK BT2
  have HBA2 := hideK BA2
  clear XV BT2 BA2 hV2 q0 q1 q2 q3 R1
  gi_wp2_with fail
  refine wpIn_range_tells (gf := 44) (lb := #[.pointer (some ⟨w1.heap.size + 2, 0, none⟩), .pointer (some ⟨w1.heap.size + 1, 0, none⟩)]) rfl (enters_of Try.func44 (by kernel_rfl) rfl) rfl (keysT t []) w.heap.size (fun b => b = w1.heap.size ∨ some b = (Value.slice none 0 0).ownBlock) (fun _ => False) ?hX ?tell
    (fun k O1 V => ∃ lv F, (O1 = fun b => b = w1.heap.size ∨ some b = lv.ownBlock) ∧ KyI w w1.heap.size (.slice ua un uc) lv F (((keysT t []).take k).filter (fun x => hasB x key)) V) (fun c V => c = .exit 0 ∧ ∃ lv F, KyI w w1.heap.size (.slice ua un uc) lv F ((keysT t []).filter (fun x => hasB x key)) V) ?hI ?hIx ?hO ?h0
    (fun kq => { tmps := #[.agg #[.slice e1 e2 e3, .bool hv, .int .i64 xv, .slice k1 k2 k3], .slice ua un uc, .pointer (some ⟨w.heap.size, 0, none⟩), .pointer (some ⟨w.heap.size + 1, 0, none⟩), .slice none 0 0, .pointer (some ⟨w1.heap.size, 0, none⟩), kq, .agg #[.slice e1 e2 e3, .bool hv, .int .i64 xv, .slice k1 k2 k3], .bool true, .bool false, .agg #[.slice e1 e2 e3, .bool hv, .int .i64 xv, .slice k1 k2 k3], .func (.func 44) #[] #[.pointer (some ⟨w1.heap.size + 2, 0, none⟩), .pointer (some ⟨w1.heap.size + 1, 0, none⟩)], kq, undef, undef, undef, undef, undef, undef, undef, undef, undef, undef, undef, undef], defers := [] }) ?asg ?body ?done ?stop
  case hX => exact fun _ h => h.elim
  case tell =>
    intro W1 hX1
    exact keys1_any d t w W1 _ _ _ _ (w1.heap.size + 1) (w1.heap.size + 2) w.heap.size _ [] _ HT.out (Nat.le_refl _) (HXV.out.tr hX1) (ext_blk hX1 HBT2.out) (fun hh => by rcases hh with hh | hh; omega; cases hh) (ext_blk hX1 HBA2.out) ⟨none, 0, rfl, Rd.nil _ _, Nat.le_refl _, Nat.zero_le _⟩ (by have := HZ.out; simp only [List.length_nil]; omega)
  case hI =>
    rintro k O1 V V' ⟨lv, F, h1, h2⟩ hc
    exact ⟨lv, F, h1, h2.cel hc HXV.out.size⟩
  case hIx =>
    rintro c V V' ⟨h0, lv, F, h2⟩ hc
    exact ⟨h0, lv, F, h2.cel hc HXV.out.size⟩
  case hO =>
    rintro k O1 V ⟨lv, F, h1, h2⟩ b hb
    rw [h1] at hb
    have h3 := (Array.getElem?_eq_some_iff.1 h2.bx).1
    have h4 := HS1.out
    rcases hb with rfl | hb
    · exact ⟨by omega, h3⟩
    · have h5 := World.ownsRow.lt h2.tx.row b hb.symm
      exact ⟨by omega, h5.2⟩
  case h0 => exact ⟨_, _, rfl, HI0.out⟩
  case asg =>
    intro l' kq V K hK
    gi_wp2
    exact hK
  case body =>
    intro l' k xk O1 V0 V kq hl' hxk hI0 hR0 hc0 ho
    obtain ⟨lv, F, hO1, hK0⟩ := hI0
    have HOO := hideK hO1
    have HI := hideK (hK0.cel hc0 HXV.out.size)
    have hg0 := (Array.getElem?_eq_some_iff.1 hK0.bx).1
    have HOL : Hid (∀ (i : Nat) (f : Value), F[i]? = some f → ∀ r, f.ownBlock = some r → r < V0.heap.size) := fun i f hf r hr => by
      obtain ⟨y, hy⟩ : ∃ y, (((keysT t []).take k).filter (fun x => hasB x key))[i]? = some y := ⟨_, List.getElem?_eq_getElem (by rw [← hK0.tx.len]; exact (List.getElem?_eq_some_iff.1 hf).1)⟩
      exact ((hK0.tx.tx i f y hf hy).1.lt r hr).2
    have HO : Hid (Ow V V0.heap.size kq xk) := ho
    have HGV : Hid (w1.heap.size ≤ V0.heap.size) := by show _ ≤ _; omega
    have hrg : ∀ y ∈ xk, 0 ≤ y ∧ y ≤ 255 := keys_rng (ah := []) HT.out (fun _ h => by cases h) (List.mem_of_getElem? hxk)
    have HRX := hideK hrg
    have HV : Hid (RV V kq xk) := HO.out.rv hrg
    have HXL : Hid (xk.length ≤ 2097152) := Nat.le_trans (HLX.out xk (List.mem_of_getElem? hxk)) (by omega)
    obtain ⟨qa, qc, hq, _⟩ := HV.out
    obtain ⟨qn, hqn⟩ : ∃ qn, qn = xk.length := ⟨_, rfl⟩
    rw [← hqn] at hq
    subst hq
    have HQN := hideK hqn
    have HUV : Hid (RV V (.slice ua un uc) key) := HU.out.ext (ext_below HI.out.bel)
    obtain ⟨y1, _⟩ := at_block HI.out.kb 0 _ rfl
    have HXK := hideK hxk
    obtain ⟨la, lc, hlv⟩ := HI.out.tx.shape
    obtain ⟨fl, hfl⟩ : ∃ fl, fl = F.length := ⟨_, rfl⟩
    rw [← hfl] at hlv
    subst hlv
    have HFL : Hid ((((keysT t []).take k).filter (fun x => hasB x key)).length + 1 ≤ 2097152) := by
      show _ ≤ _
      have h1 := List.length_filter_le (fun x => hasB x key) ((keysT t []).take k)
      have h2 := HCN.out
      rw [List.length_take] at h1
      omega
    clear hK0 hR0 hc0 ho hxk hrg hqn hO1 hg0 hfl
    gi_wp2_with fail
    refine ⟨trivial, callsIn_wide.2 ?_⟩
    refine (iHasV _ _ xk key V HV.out HUV.out HXL.out HKL.out).mono ?_
    rintro e9 V4 ⟨rfl, q4, hV4⟩
    have X4 : Ext V V4 := by rw [hV4]; exact ext_drewN _ _
    have HX4 := hideK X4
    have HI4 := hideK (HI.out.cel (Cel.ext w.heap.size X4) (Nat.le_refl _))
    have HST := hideK (filt_step (p := key) HXK.out)
    clear hV4 X4 y1
    cases hhb : hasB xk key
    case false =>
      have HUV4 : Hid (RV V4 (.slice ua un uc) key) := HUV.out.ext HX4.out
      obtain ⟨y1, _⟩ := at_block HI4.out.kb 0 _ rfl
      gi_wp2_with fail
      refine ⟨trivial, callsIn_wide.2 ?_⟩
      refine (compareE _ _ xk key V4 (HV.out.ext HX4.out) HUV4.out).mono ?_
      rintro e9 V3 ⟨rfl, hV3⟩
      have hV3' := hV3.symm
      clear hV3
      subst hV3'
      have hgt := cmpK_gt xk key
      generalize cmpK xk key = cr at hgt ⊢
      cases hlt : ltK key xk
      · rw [hlt] at hgt
        have HF : Hid (∃ O2, (∃ lv F, (O2 = fun b => b = w1.heap.size ∨ some b = lv.ownBlock) ∧ KyI w w1.heap.size (.slice ua un uc) lv F (((keysT t []).take (k + 1)).filter (fun x => hasB x key)) V4) ∧ Rnd O1 O2 V V4) := by
          refine ⟨O1, ⟨_, F, HOO.out, ?_⟩, (Rnd.refl _ _).ext HX4.out⟩
          rw [HST.out, hhb]
          simpa using HI4.out
        clear hlt hhb
        gi_wp2
        exact HF.out
      · rw [hlt] at hgt
        have HF : Hid ((∃ O2, Rnd (fun b => O1 b ∨ False) O2 V V4) ∧ ∃ lv F, KyI w w1.heap.size (.slice ua un uc) lv F ((keysT t []).filter (fun x => hasB x key)) V4) := by
          refine ⟨⟨_, (Rnd.refl _ _).ext HX4.out⟩, .slice la fl lc, F, ?_⟩
          rw [filt_stop HASC.out HRP.out HRX.out HXK.out hhb hlt]
          exact HI4.out
        clear hlt hhb
        gi_wp2
        exact ⟨HF.out.1, rfl, HF.out.2⟩
    obtain ⟨r1, f1⟩ := at_block HI4.out.bx 0 _ rfl
    have HO4 : Hid (Ow V4 V0.heap.size (.slice qa qn qc) xk) := HO.out.ext HX4.out
    have HTX : Hid (TxS (V4.alloc (.cells #[.slice qa qn qc] 22 (0, 0))) w1.heap.size (.slice la fl lc) F (((keysT t []).take k).filter (fun x => hasB x key))) := HI4.out.tx.ext (hE _ _)
    have HCL : Hid ((V4.alloc (.cells #[.slice qa qn qc] 22 (0, 0))).cell? ⟨V4.heap.size, 0, none⟩ = some (.slice qa qn qc)) := (at_block (heap_alloc_new V4 _) 0 _ rfl).1
    have HUU : Hid (Ow (V4.alloc (.cells #[.slice qa qn qc] 22 (0, 0))) V0.heap.size (.slice qa qn qc) xk ∧ ∃ a c, Value.slice qa qn qc = .slice a xk.length c) := ⟨HO4.out.ext (hE _ _), qa, qc, by rw [← HQN.out]⟩
    have HBS : Hid (w1.heap.size ≤ (V4.alloc (.cells #[.slice qa qn qc] 22 (0, 0))).heap.size) := by show _ ≤ _; have := (Array.getElem?_eq_some_iff.1 HI4.out.bx).1; simp; omega
    have HBX4 : Hid ((V4.alloc (.cells #[.slice qa qn qc] 22 (0, 0))).heap[w1.heap.size]? = some (.cells #[.slice la fl lc] 34 (0, 0))) := ext_blk (hE _ _) HI4.out.bx
    have HFS : Hid (∀ v9 w9, TxS w9 w1.heap.size v9 (F ++ [.slice qa qn qc]) (((keysT t []).take k).filter (fun x => hasB x key) ++ [xk]) → (V4.alloc (.cells #[.slice qa qn qc] 22 (0, 0))).grownBy w9 (Value.slice la fl lc).ownBlock → (v9.ownBlock = (Value.slice la fl lc).ownBlock ∨ v9.ownBlock = some (V4.alloc (.cells #[.slice qa qn qc] 22 (0, 0))).heap.size) →
        (∃ a9 l9 c9, v9 = .slice a9 l9 c9) ∧ w9.heap[w1.heap.size]? = some (.cells #[.slice la fl lc] 34 (0, 0)) ∧ ∃ O2, (∃ lv F, (O2 = fun b => b = w1.heap.size ∨ some b = lv.ownBlock) ∧ KyI w w1.heap.size (.slice ua un uc) lv F (((keysT t []).take (k + 1)).filter (fun x => hasB x key)) (w9.setCell ⟨w1.heap.size, 0, none⟩ v9)) ∧ Rnd O1 O2 V (w9.setCell ⟨w1.heap.size, 0, none⟩ v9)) := fun v9 w9 t9 g9 b9 => by
      have nb := ne_txK HTX.out.row HBX4.out (by decide)
      have bx9 := (g9.block w1.heap.size (Array.getElem?_eq_some_iff.1 HBX4.out).1 nb).trans HBX4.out
      have hlt1 := HI4.out.lt
      have row_ge : ∀ r, (Value.slice la fl lc).ownBlock = some r → w1.heap.size ≤ r := fun r hr => (World.ownsRow.lt HI4.out.tx.row r hr).1
      have kb4 : (V4.alloc (.cells #[.slice qa qn qc] 22 (0, 0))).heap[w.heap.size + 1]? = some (.cells #[.slice ua un uc] 22 (0, 0)) := ext_blk (hE _ _) HI4.out.kb
      have kb9 := (g9.block (w.heap.size + 1) (Array.getElem?_eq_some_iff.1 kb4).1 (fun e => by have := row_ge _ e.symm; omega)).trans kb4
      have B4 : Below w.heap.size w (V4.alloc (.cells #[.slice qa qn qc] 22 (0, 0))) := HI4.out.bel.trans ((ext_bel (hE _ _)).mono HI4.out.bel.size)
      have B9 : Below w.heap.size w w9 := B4.grown g9 B4.size (fun r hr => by have := row_ge r hr; omega)
      obtain ⟨a9, c9, hv9⟩ := t9.shape
      refine ⟨⟨a9, _, c9, hv9⟩, bx9, fun b => b = w1.heap.size ∨ some b = v9.ownBlock, ⟨v9, F ++ [.slice qa qn qc], rfl, set_other _ _ _ (by omega) kb9, set_block bx9 0 _, ?_, ?_, B9.setCell (by show w.heap.size ≤ w1.heap.size; omega) _, hlt1⟩, ⟨?_, ?_, ?_, ?_, ?_, ?_⟩⟩
      · rw [HST.out, hhb]
        exact t9.set bx9 (by decide) (by decide) _
      · exact apart_add HI4.out.ap HOL.out (fun r hr => (HO.out.lt r hr).1)
      · exact g9.os.trans HX4.out.os
      · exact g9.tape.trans HX4.out.tape
      · exact g9.output.trans HX4.out.output
      · have h1 := g9.size
        have h2 := HX4.out.size
        simp at h1 ⊢
        omega
      · intro j hj hn
        rw [HOO.out] at hn
        have hj4 : j < V4.heap.size := Nat.lt_of_lt_of_le hj HX4.out.size
        rw [Below.heap_setCell _ _ _ _ (fun e => hn (.inl e)), g9.block j (by simp; omega) (fun e => hn (.inr e)), Below.heap_alloc _ _ _ hj4]
        exact HX4.out.block j hj (by simp)
      · intro j hj
        rw [HOO.out]
        rcases hj with hj | hj
        · exact .inl (.inl hj)
        · rcases b9 with b9 | b9
          · exact .inl (.inr (hj.trans b9))
          · right
            rw [b9] at hj
            simp only [Option.some.injEq] at hj
            have h2 := HX4.out.size
            simp at hj
            omega
    clear hhb
    gi_wp2_with (gi_at_builtin; refine wpListIn_append_tx _ rfl (.tmp 16) (.tmp 18) rfl w1.heap.size V0.heap.size (.slice la fl lc) F _ rfl HTX.out HGV.out V4.heap.size (.slice qa qn qc) xk rfl HCL.out HUU.out HFL.out HBS.out ?_; intro v9 w9 o9 g9 b9; obtain ⟨⟨a9, l9, c9, hv9⟩, bx9, hfin⟩ := HFS.out v9 w9 o9 g9 b9; subst hv9; have HFIN := hideK hfin; obtain ⟨z1, z2⟩ := at_block bx9 0 _ rfl; clear o9 g9 b9 bx9 hfin)
    exact HFIN.out
  case done =>
    intro D O1 V hD hI0 hR0 hDlt nD hdf
    obtain ⟨lv, F, _, hL⟩ := hI0
    rw [List.take_of_length_le (Nat.le_refl _)] at hL
    clear hDlt nD
    have HDF := hideK hdf
    have HDD : Hid (w.heap.size ≤ D) := Nat.le_trans HXV.out.size hD
    obtain ⟨la, lc, hlv⟩ := hL.tx.shape
    obtain ⟨fl, hfl⟩ : ∃ fl, fl = F.length := ⟨_, rfl⟩
    rw [← hfl] at hlv
    subst hlv
    obtain ⟨r1, _⟩ := at_block hL.bx 0 _ rfl
    have HLI := hideK hL
    clear hL hdf hD hR0 hfl
    gi_wp2
    refine ⟨by simp, .inl ⟨D, _, rfl, run_takeDeferred (ds := []) HDF.out, ?_⟩⟩
    have hc : Cel w.heap.size V (V.putObj D (.deferred none)) := Cel.put HDD.out HDF.out rfl _
    have h9 := HLI.out.cel hc (Nat.le_refl _)
    exact ⟨_, results_tmp rfl _ _ _, _, F, rfl, by rw [HK.out]; exact h9.tx.low (by have := h9.lt; omega), h9.ap, h9.bel⟩
  case stop =>
    rintro D c O3 V hD ⟨rfl, lv, F, hL⟩ hR0 hdf
    refine wpIn_exit ?_
    have HDF := hideK hdf
    have HDD : Hid (w.heap.size ≤ D) := Nat.le_trans HXV.out.size hD
    obtain ⟨la, lc, hlv⟩ := hL.tx.shape
    obtain ⟨fl, hfl⟩ : ∃ fl, fl = F.length := ⟨_, rfl⟩
    rw [← hfl] at hlv
    subst hlv
    obtain ⟨r1, _⟩ := at_block hL.bx 0 _ rfl
    have HLI := hideK hL
    clear hL hdf hD hR0 hfl
    gi_wp2
    refine ⟨by simp, .inl ⟨D, _, rfl, run_takeDeferred (ds := []) HDF.out, ?_⟩⟩
    have hc : Cel w.heap.size V (V.putObj D (.deferred none)) := Cel.put HDD.out HDF.out rfl _
    have h9 := HLI.out.cel hc (Nat.le_refl _)
    exact ⟨_, results_tmp rfl _ _ _, _, F, rfl, by rw [HK.out]; exact h9.tx.low (by have := h9.lt; omega), h9.ap, h9.bel⟩

end Go.Proofs.Ytdeogmkcomdbjaa
