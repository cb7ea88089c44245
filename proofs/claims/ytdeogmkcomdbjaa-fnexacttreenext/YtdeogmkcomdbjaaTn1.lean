/- The program's TreeNext. -/
import Derived.Test.YtdeogmkcomdbjaaTk2
import Derived.Test.YtdeogmkcomdbjaaTn0
namespace Go.Proofs.Ytdeogmkcomdbjaa
open Go.RowKit Go.Shelf
attribute [local go_sem] Oper.semAt_some

/-- What is carried while keys are told. -/
structure NxI (w : World) (u : Value) (xs : List (List Int)) (key : List Int) (k : Nat) (O1 : Nat → Prop) (V : World) : Prop where
  own : O1 = fun b => b = w.heap.size + 1 + 1 ∨ b = w.heap.size + 1 + 1 + 1
  kb : V.heap[w.heap.size + 1]? = some (.cells #[u] 22 (0, 0))
  r1 : V.heap[w.heap.size + 1 + 1]? = some (.cells #[.slice none 0 0] 22 (0, 0))
  r2 : V.heap[w.heap.size + 1 + 1 + 1]? = some (.cells #[.bool false] 4 (0, 0))
  bel : Below w.heap.size w V
  no : ∀ j y, j < k → xs[j]? = some y → ltK key y = false
/-- What is left where one is found. -/
structure NxX (w : World) (xs : List (List Int)) (key : List Int) (V : World) : Prop where
  fnd : ∃ x gv, xs.find? (fun x => ltK key x) = some x ∧ V.heap[w.heap.size + 1 + 1]? = some (.cells #[gv] 22 (0, 0)) ∧ Ow V w.heap.size gv x
  r2 : V.heap[w.heap.size + 1 + 1 + 1]? = some (.cells #[.bool true] 4 (0, 0))
  bel : Below w.heap.size w V
theorem NxI.cel {w V V' : World} {u : Value} {xs : List (List Int)} {key : List Int} {k base : Nat} {O1 : Nat → Prop} (h : NxI w u xs key k O1 V) (c : Cel base V V') (hb : w.heap.size ≤ base) : NxI w u xs key k O1 V' :=
  ⟨h.own, c.same _ _ h.kb (.inl rfl), c.same _ _ h.r1 (.inl rfl), c.same _ _ h.r2 (.inl rfl), below_cel h.bel c hb, h.no⟩
theorem NxX.cel {w V V' : World} {xs : List (List Int)} {key : List Int} {base : Nat} (h : NxX w xs key V) (c : Cel base V V') (hb : w.heap.size ≤ base) : NxX w xs key V' := by
  obtain ⟨x, gv, h1, h2, h3⟩ := h.fnd
  exact ⟨⟨x, gv, h1, c.same _ _ h2 (.inl rfl), ow_same h3 (fun k _ o ho hc => c.same k o ho (.inl hc))⟩, c.same _ _ h.r2 (.inl rfl), below_cel h.bel c hb⟩

set_option maxRecDepth 100000 in
set_option maxHeartbeats 1000000 in
theorem iTreeNextV {d : Nat} (t : DTree d) (v u : Value) (key : List Int) (w : World) (ht : VTree w t v) (hu : RV w u key) (hsz : szT t ≤ 1048576) :
    Calls Try.prog 25 #[v, u] w fun e w' => ∃ gv, e = .returned (.tuple #[gv, .bool (nextTD t key).2]) ∧ Ow w' w.heap.size gv (nextTD t key).1 ∧ Below w.heap.size w w' := by
  have hE : ∀ w : World, ∀ o, Ext w (w.alloc o) := fun w o => World.grownBy_alloc _ _ _
  have hl2 : w.heap.size ≤ w.heap.size + 1 + 1 := by omega
  have hl3 : w.heap.size ≤ w.heap.size + 1 + 1 + 1 := by omega
  have HT : Hid (VTree w t v) := ht
  have HU : Hid (RV w u key) := hu
  have HZ : Hid (szT t ≤ 1048576) := hsz
  obtain ⟨e1, e2, e3, hv, xv, k1, k2, k3, rfl⟩ := VTree.agg ht
  obtain ⟨ua, uc, hus, _⟩ := hu
  generalize hun : key.length = un at hus
  subst hus
  obtain ⟨ob, hob⟩ : ∃ ob, ob = tB (okT t) := ⟨_, rfl⟩
  obtain ⟨R, hR⟩ : ∃ R, R = nextTD t key := ⟨_, rfl⟩
  rw [← hR]
  have HOB := hideK hob
  have HRR : Hid (R = if ob then nextK (keysT t []) key else ([], false)) := by show _ = _; rw [hR, hob]; unfold nextTD; rfl
  clear ht hsz hob hR hun
  refine callsIn_wide.1 (callsIn_of_wp_marks (n := 3) Try.func25 rfl trivial ?_ rfl)
  simp only [Try.ntmps25, List.size_toArray, List.length_cons, List.length_nil, Nat.reduceAdd, Nat.reduceSub, Array.replicate_succ, Array.replicate_zero, List.push_toArray, List.append_toArray, List.nil_append, List.cons_append]
  gi_wp2_with fail
  refine ⟨trivial, callsIn_wide.2 ?_⟩
  generalize hW : World.alloc (World.alloc (World.alloc (World.alloc w _) _) _) _ = W
  have XW : Ext w W := by rw [← hW]; exact (((hE _ _).tr (hE _ _)).tr (hE _ _)).tr (hE _ _)
  have P0 : W.heap[w.heap.size]? = some (.cells #[.slice e1 e2 e3, .bool hv, .int .i64 xv, .slice k1 k2 k3] 30 (0, 0)) := by
    rw [← hW, Below.heap_alloc _ _ _ (by simp; omega), Below.heap_alloc _ _ _ (by simp; omega), Below.heap_alloc _ _ _ (by simp)]; exact heap_alloc_new w _
  have P1 : W.heap[w.heap.size + 1]? = some (.cells #[.slice ua un uc] 22 (0, 0)) := by
    rw [← hW, Below.heap_alloc _ _ _ (by simp), Below.heap_alloc _ _ _ (by simp)]; simpa using heap_alloc_new (w.alloc _) (.cells #[.slice ua un uc] 22 (0, 0))
  have P2 : W.heap[w.heap.size + 1 + 1]? = some (.cells #[.slice none 0 0] 22 (0, 0)) := by
    rw [← hW, Below.heap_alloc _ _ _ (by simp)]; simpa using heap_alloc_new ((w.alloc _).alloc _) (.cells #[.slice none 0 0] 22 (0, 0))
  have P3 : W.heap[w.heap.size + 1 + 1 + 1]? = some (.cells #[.bool false] 4 (0, 0)) := by
    rw [← hW]; simpa using heap_alloc_new (((w.alloc _).alloc _).alloc _) (.cells #[.bool false] 4 (0, 0))
  clear hW
  refine (iTreeOkV t _ W (VTree.ext XW _ _ HT.out) HZ.out).mono ?_
  rintro e9 w1 ⟨rfl, b1⟩
  have X1 : Ext w w1 := XW.tr (ext_below b1)
  have HP0 := hideK (ext_blk (ext_below b1) P0)
  have HP1 := hideK (ext_blk (ext_below b1) P1)
  have HP2 := hideK (ext_blk (ext_below b1) P2)
  have HP3 := hideK (ext_blk (ext_below b1) P3)
  have HX1 := hideK X1
  have hs1 : w.heap.size + 1 + 1 + 1 < w1.heap.size := (Array.getElem?_eq_some_iff.1 HP3.out).1
  have HS1 := hideK hs1
  obtain ⟨r1, f1⟩ := at_block HP2.out 0 _ rfl
  obtain ⟨r2, f2⟩ := at_block HP3.out 0 _ rfl
  clear P0 P1 P2 P3 XW b1 X1 hs1
  rw [← HOB.out]
  cases ob
  · have HK : Hid (R = ([], false)) := HRR.out
    have U2 : ((w1.setCell ⟨w.heap.size + 1 + 1, 0, none⟩ (.slice none 0 0)).setCell ⟨w.heap.size + 1 + 1 + 1, 0, none⟩ (.bool false)).heap[w.heap.size + 1 + 1]? = some (.cells #[.slice none 0 0] 22 (0, 0)) := set_other _ _ _ (by omega) (set_block HP2.out 0 _)
    have U3 : ((w1.setCell ⟨w.heap.size + 1 + 1, 0, none⟩ (.slice none 0 0)).setCell ⟨w.heap.size + 1 + 1 + 1, 0, none⟩ (.bool false)).heap[w.heap.size + 1 + 1 + 1]? = some (.cells #[.bool false] 4 (0, 0)) := set_block (set_other _ _ _ (by omega) HP3.out) 0 _
    have UB : Below w.heap.size w ((w1.setCell ⟨w.heap.size + 1 + 1, 0, none⟩ (.slice none 0 0)).setCell ⟨w.heap.size + 1 + 1 + 1, 0, none⟩ (.bool false)) := ((ext_bel HX1.out).setCell hl2 _).setCell hl3 _
    have HU2 := hideK U2
    have HU3 := hideK U3
    have HUB := hideK UB
    clear U2 U3 UB
    gi_wp2
    generalize (w1.setCell ⟨w.heap.size + 1 + 1, 0, none⟩ (.slice none 0 0)).setCell ⟨w.heap.size + 1 + 1 + 1, 0, none⟩ (.bool false) = U at *
    obtain ⟨y1, _⟩ := at_block HU2.out 0 _ rfl
    obtain ⟨y2, _⟩ := at_block HU3.out 0 _ rfl
    exact ⟨.tuple #[.slice none 0 0, .bool false], by simp [results, Try.results25, go_sem, y1, y2], _, by rw [HK.out], by rw [HK.out]; exact World.ownsRow_nil _ _ _ _, HUB.out⟩
  have HK : Hid (R = nextK (keysT t []) key) := HRR.out
  clear r1 f1 r2 f2
  obtain ⟨q0, _⟩ := at_block HP0.out 0 _ rfl
  obtain ⟨q1, _⟩ := at_block HP0.out 1 _ rfl
  obtain ⟨q2, _⟩ := at_block HP0.out 2 _ rfl
  obtain ⟨q3, _⟩ := at_block HP0.out 3 _ rfl
  gi_wp2_with fail
  refine ⟨trivial, callsIn_wide.2 ?_⟩
  refine (keysBehindW w1 (.slice e1 e2 e3) (.bool hv) (.int .i64 xv) (.slice k1 k2 k3) none 0 0).mono ?_
  rintro e9 V2 ⟨rfl, hV2⟩
  have XV : Ext w1 V2 := by rw [hV2]; exact (hE _ _).tr (hE _ _)
  have BT2 : V2.heap[w1.heap.size]? = some (.cells #[.slice e1 e2 e3, .bool hv, .int .i64 xv, .slice k1 k2 k3] 30 (0, 0)) := by
    rw [hV2, Below.heap_alloc _ _ _ (by simp)]
    exact heap_alloc_new w1 _
  have BA2 : V2.heap[w1.heap.size + 1]? = some (.cells #[.slice none 0 0] 22 (0, 0)) := by
    rw [hV2]
    simpa using heap_alloc_new (w1.alloc _) (.cells #[.slice none 0 0] 22 (0, 0))
  have HXV := hideK (HX1.out.tr XV)
  have HI0 : Hid (NxI w (.slice ua un uc) (keysT t []) key 0 (fun b => b = w.heap.size + 1 + 1 ∨ b = w.heap.size + 1 + 1 + 1) V2) := ⟨rfl, ext_blk XV HP1.out, ext_blk XV HP2.out, ext_blk XV HP3.out, ext_bel HXV.out, fun j y hj => absurd hj (Nat.not_lt_zero _)⟩
  have HBT2 := hideK BT2
  have HBA2 := hideK BA2
  clear XV BT2 BA2 hV2 q0 q1 q2 q3
  gi_wp2_with fail
  refine wpIn_range_tells (gf := 44) (lb := #[.pointer (some ⟨w1.heap.size + 1, 0, none⟩), .pointer (some ⟨w1.heap.size, 0, none⟩)]) rfl (enters_of Try.func44 (by kernel_rfl) rfl) rfl (keysT t []) w.heap.size (fun b => b = w.heap.size + 1 + 1 ∨ b = w.heap.size + 1 + 1 + 1) (fun _ => False) ?hX ?tell
    (NxI w (.slice ua un uc) (keysT t []) key) (fun c V => c = .ret ∧ NxX w (keysT t []) key V) ?hI ?hIx ?hO ?h0
    (fun kq => { tmps := #[.agg #[.slice e1 e2 e3, .bool hv, .int .i64 xv, .slice k1 k2 k3], .slice ua un uc, .pointer (some ⟨w.heap.size, 0, none⟩), .pointer (some ⟨w.heap.size + 1, 0, none⟩), .pointer (some ⟨w.heap.size + 1 + 1, 0, none⟩), .pointer (some ⟨w.heap.size + 1 + 1 + 1, 0, none⟩), kq, .agg #[.slice e1 e2 e3, .bool hv, .int .i64 xv, .slice k1 k2 k3], .bool true, .bool false, .agg #[.slice e1 e2 e3, .bool hv, .int .i64 xv, .slice k1 k2 k3], .func (.func 44) #[] #[.pointer (some ⟨w1.heap.size + 1, 0, none⟩), .pointer (some ⟨w1.heap.size, 0, none⟩)], kq, undef, undef, undef, undef, undef], defers := [] }) ?asg ?body ?done ?stop
  case hX => exact fun _ h => h.elim
  case tell =>
    intro W1 hX1
    exact keys1_any d t w W1 _ _ _ _ w1.heap.size (w1.heap.size + 1) w.heap.size _ [] _ HT.out (Nat.le_refl _) (HXV.out.tr hX1) (ext_blk hX1 HBT2.out) (fun hh => by have := HS1.out; rcases hh with hh | hh <;> omega) (ext_blk hX1 HBA2.out) ⟨none, 0, rfl, Rd.nil _ _, Nat.le_refl _, Nat.zero_le _⟩ (by have := HZ.out; simp only [List.length_nil]; omega)
  case hI => exact fun k O1 V V' hh hc => hh.cel hc HXV.out.size
  case hIx => exact fun c V V' hh hc => ⟨hh.1, hh.2.cel hc HXV.out.size⟩
  case hO =>
    intro k O1 V hh b hb
    rw [hh.own] at hb
    have h1 := (Array.getElem?_eq_some_iff.1 hh.r1).1
    have h2 := (Array.getElem?_eq_some_iff.1 hh.r2).1
    rcases hb with rfl | rfl
    · exact ⟨by omega, h1⟩
    · exact ⟨by omega, h2⟩
  case h0 => exact HI0.out
  case asg =>
    intro l' kq V K hK
    gi_wp2
    exact hK
  case body =>
    intro l' k xk O1 V0 V kq hl' hxk hI0 hR0 hc0 ho
    have HI := hideK (hI0.cel hc0 HXV.out.size)
    have hOO := hI0.own
    have HO : Hid (Ow V w.heap.size kq xk) := ow_low ho hI0.bel.size
    have hrg : ∀ y ∈ xk, 0 ≤ y ∧ y ≤ 255 := keys_rng HT.out (fun _ h => by cases h) (List.mem_of_getElem? hxk)
    have HV : Hid (RV V kq xk) := HO.out.rv hrg
    obtain ⟨qa, qc, hq, _⟩ := HV.out
    generalize xk.length = qn at hq
    subst hq
    have HUV : Hid (RV V (.slice ua un uc) key) := HU.out.ext (ext_below HI.out.bel)
    obtain ⟨y1, _⟩ := at_block HI.out.kb 0 _ rfl
    have HXK := hideK hxk
    clear hI0 hR0 hc0 ho hxk hrg
    gi_wp2_with fail
    refine ⟨trivial, callsIn_wide.2 ?_⟩
    refine (compareE _ _ xk key V HV.out HUV.out).mono ?_
    rintro e9 V3 ⟨rfl, hV3⟩
    have hV3' := hV3.symm
    clear hV3
    subst hV3'
    have hgt := cmpK_gt xk key
    generalize cmpK xk key = cr at hgt ⊢
    cases hlt : ltK key xk
    · rw [hlt] at hgt
      have HF : Hid (∃ O2, NxI w (.slice ua un uc) (keysT t []) key (k + 1) O2 V ∧ Rnd O1 O2 V V) := ⟨O1, ⟨HI.out.own, HI.out.kb, HI.out.r1, HI.out.r2, HI.out.bel, fun j y hj hy => by
        by_cases e : j = k
        · subst e
          rw [HXK.out] at hy
          cases hy
          exact hlt
        · exact HI.out.no j y (by omega) hy⟩, Rnd.refl _ _⟩
      clear hlt
      gi_wp2
      exact HF.out
    · rw [hlt] at hgt
      obtain ⟨r1, f1⟩ := at_block HI.out.r1 0 _ rfl
      obtain ⟨r2, f2⟩ := at_block HI.out.r2 0 _ rfl
      have HF : Hid ((∃ O2, Rnd (fun b => O1 b ∨ False) O2 V ((V.setCell ⟨w.heap.size + 1 + 1, 0, none⟩ (.slice qa qn qc)).setCell ⟨w.heap.size + 1 + 1 + 1, 0, none⟩ (.bool true))) ∧ NxX w (keysT t []) key ((V.setCell ⟨w.heap.size + 1 + 1, 0, none⟩ (.slice qa qn qc)).setCell ⟨w.heap.size + 1 + 1 + 1, 0, none⟩ (.bool true))) := by
        have g1 : V.grownBy (V.setCell ⟨w.heap.size + 1 + 1, 0, none⟩ (.slice qa qn qc)) (some (w.heap.size + 1 + 1)) := set_grown _ _ _ _
        have g2 : (V.setCell ⟨w.heap.size + 1 + 1, 0, none⟩ (.slice qa qn qc)).grownBy ((V.setCell ⟨w.heap.size + 1 + 1, 0, none⟩ (.slice qa qn qc)).setCell ⟨w.heap.size + 1 + 1 + 1, 0, none⟩ (.bool true)) (some (w.heap.size + 1 + 1 + 1)) := set_grown _ _ _ _
        have nr : ∀ (b : Nat) (cs : Array Value) (t : TypeId), V.heap[b]? = some (.cells cs t (0, 0)) → t ≠ 5 → ∀ r, (Value.slice qa qn qc).ownBlock = some r → r ≠ b := fun b cs t hb ht r hr e => by
          rcases HO.out.2 with ⟨hv, _⟩ | ⟨g, cap, cur, hv, _, hblk, _⟩
          · rw [hv] at hr; cases hr
          · rw [hv] at hr
            simp only [Value.ownBlock, Option.some.injEq] at hr
            subst hr
            rw [e, hb] at hblk
            simp only [Option.some.injEq, Obj.cells.injEq] at hblk
            exact ht hblk.2.1
        refine ⟨⟨O1, rfl, rfl, rfl, by simp, fun j hj hn => ?_, fun j hj => .inl (.inl hj)⟩, ⟨xk, .slice qa qn qc, find_at HXK.out hlt HI.out.no, ?_, ?_⟩, ?_, ?_⟩
        · rw [HI.out.own] at hn
          rw [Below.heap_setCell _ _ _ _ (fun e => hn (.inl (.inr e))), Below.heap_setCell _ _ _ _ (fun e => hn (.inl (.inl e)))]
        · exact set_other _ _ _ (by omega) (set_block HI.out.r1 0 _)
        · refine ow_same HO.out (fun r hr o ho hc => ?_)
          rw [Below.heap_setCell _ _ _ _ (nr _ _ _ HI.out.r2 (by decide) r hr), Below.heap_setCell _ _ _ _ (nr _ _ _ HI.out.r1 (by decide) r hr)]
          exact ho
        · exact set_block (set_other _ _ _ (by omega) HI.out.r2) 0 _
        · exact (HI.out.bel.setCell hl2 _).setCell hl3 _
      clear hlt
      gi_wp2
      exact ⟨HF.out.1, rfl, HF.out.2⟩
  case done =>
    intro D O1 V hD hI0 hR0 hDlt nD hdf
    have HI := hideK hI0
    have HDF := hideK hdf
    have HDD : Hid (w.heap.size ≤ D) := Nat.le_trans HXV.out.size hD
    have HND : Hid (D ≠ w.heap.size + 1 + 1 ∧ D ≠ w.heap.size + 1 + 1 + 1) := by rw [hI0.own] at nD; exact ⟨fun e => nD (.inl e), fun e => nD (.inr e)⟩
    have HKN : Hid (R = ([], false)) := by
      show _ = _
      rw [HK.out, nextK, find_none (fun j y hj => hI0.no j y (List.getElem?_eq_some_iff.1 hj).1 hj)]
    obtain ⟨r1, f1⟩ := at_block hI0.r1 0 _ rfl
    obtain ⟨r2, f2⟩ := at_block hI0.r2 0 _ rfl
    have U2 : ((V.setCell ⟨w.heap.size + 1 + 1, 0, none⟩ (.slice none 0 0)).setCell ⟨w.heap.size + 1 + 1 + 1, 0, none⟩ (.bool false)).heap[w.heap.size + 1 + 1]? = some (.cells #[.slice none 0 0] 22 (0, 0)) := set_other _ _ _ (by omega) (set_block hI0.r1 0 _)
    have U3 : ((V.setCell ⟨w.heap.size + 1 + 1, 0, none⟩ (.slice none 0 0)).setCell ⟨w.heap.size + 1 + 1 + 1, 0, none⟩ (.bool false)).heap[w.heap.size + 1 + 1 + 1]? = some (.cells #[.bool false] 4 (0, 0)) := set_block (set_other _ _ _ (by omega) hI0.r2) 0 _
    have UB : Below w.heap.size w ((V.setCell ⟨w.heap.size + 1 + 1, 0, none⟩ (.slice none 0 0)).setCell ⟨w.heap.size + 1 + 1 + 1, 0, none⟩ (.bool false)) := (hI0.bel.setCell hl2 _).setCell hl3 _
    have UD : ((V.setCell ⟨w.heap.size + 1 + 1, 0, none⟩ (.slice none 0 0)).setCell ⟨w.heap.size + 1 + 1 + 1, 0, none⟩ (.bool false)).heap[D]? = some (.deferred (some [])) := set_other _ _ _ HND.out.2 (set_other _ _ _ HND.out.1 hdf)
    have HU2 := hideK U2
    have HU3 := hideK U3
    have HUB := hideK UB
    have HUD := hideK UD
    clear U2 U3 UB UD hI0 hR0 hDlt nD hdf hD
    gi_wp2
    generalize ((V.setCell ⟨w.heap.size + 1 + 1, 0, none⟩ (.slice none 0 0)).setCell ⟨w.heap.size + 1 + 1 + 1, 0, none⟩ (.bool false)) = U at *
    have hc := Cel.put HDD.out HUD.out rfl (.deferred none)
    obtain ⟨y1, _⟩ := at_block (hc.same _ _ HU2.out (.inl rfl)) 0 _ rfl
    obtain ⟨y2, _⟩ := at_block (hc.same _ _ HU3.out (.inl rfl)) 0 _ rfl
    refine ⟨by simp, .inl ⟨D, _, rfl, run_takeDeferred HUD.out, ?_⟩⟩
    exact ⟨.tuple #[.slice none 0 0, .bool false], by simp [results, Try.results25, go_sem, y1, y2], _, by rw [HKN.out], by rw [HKN.out]; exact World.ownsRow_nil _ _ _ _, below_cel HUB.out hc (Nat.le_refl _)⟩
  case stop =>
    rintro D c O3 V hD ⟨rfl, hXV⟩ hR0 hdf
    have hc := Cel.put (b := w.heap.size) (Nat.le_trans HXV.out.size hD) hdf rfl (.deferred none)
    have h9 := hXV.cel hc (Nat.le_refl _)
    obtain ⟨x, gv, hf, hg, hog⟩ := h9.fnd
    obtain ⟨y1, _⟩ := at_block hg 0 _ rfl
    obtain ⟨y2, _⟩ := at_block h9.r2 0 _ rfl
    have HKN : R = (x, true) := by rw [HK.out, nextK, hf]
    refine wpIn_ret ?_
    refine ⟨by simp, .inl ⟨D, _, rfl, run_takeDeferred hdf, ?_⟩⟩
    exact ⟨.tuple #[gv, .bool true], by simp [results, Try.results25, go_sem, y1, y2], _, by rw [HKN], by rw [HKN]; exact hog, h9.bel⟩

end Go.Proofs.Ytdeogmkcomdbjaa
