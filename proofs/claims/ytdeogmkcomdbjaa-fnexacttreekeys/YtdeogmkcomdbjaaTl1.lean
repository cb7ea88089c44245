/- The specification's keys of a tree. -/
import Derived.Test.YtdeogmkcomdbjaaTl0
import Derived.Test.YtdeogmkcomdbjaaTe8
import Derived.Test.YtdeogmkcomdbjaaSHas
import Derived.Test.YtdeogmkcomdbjaaStB
import Derived.Deep.RegionHeld3
namespace Go.Proofs.Ytdeogmkcomdbjaa
open Go.RowKit

theorem hideL {p : Prop} (h : p) : Hid p := h
abbrev KeySays {d : Nat} (t : DTree d) : Prop := ∀ (v av pv : Value) (ah p : List Int) (w : World), VTree w t v → RV w av ah → RV w pv p → ah.length + szT t ≤ 2000000 → p.length ≤ 2000000 →
  Calls Try.prog 34 #[v, av, pv] w fun e w' => ∃ lv F, e = .returned lv ∧ TxS w' w.heap.size lv F (keysP t ah p) ∧ Below w.heap.size w w'
/-- A block of another type is none of a list of texts. -/
theorem ne_tx {w : World} {base n b : Nat} {v : Value} {F : List Value} {cs : Array Value} {t : TypeId} (r : w.ownsRow base 22 1 v n F) (h : w.heap[b]? = some (.cells cs t (0, 0))) (ht : t ≠ 22) : some b ≠ v.ownBlock := by
  intro e
  rcases r.2 with ⟨hv, _⟩ | ⟨g, cap, cur, hv, _, hg, _⟩
  · rw [hv] at e; cases e
  · rw [hv] at e
    simp only [Value.ownBlock, Option.some.injEq] at e
    subst e
    rw [h] at hg
    simp only [Option.some.injEq, Obj.cells.injEq] at hg
    exact ht hg.2.1

set_option maxRecDepth 20000 in
set_option maxHeartbeats 1000000 in
theorem l6keys_step {d : Nat} (ed : List Int) (h : Bool) (x : Int) (n : Nat) (kid : Nat → DTree d) (ih : ∀ i, KeySays (kid i)) : KeySays (DTree.node ed h x n kid) := by
  intro v av pv ah p w ht hav hpv hsz hpl
  have hE : ∀ w : World, ∀ o, Ext w (w.alloc o) := fun w o => World.grownBy_alloc _ _ _
  obtain ⟨ev, kv, rfl, re, rk⟩ := VTree.open_ ht
  obtain ⟨ea, ec, rfl, her, _, _⟩ := re
  obtain ⟨C, ⟨a, cap, rfl, h1, h2, h3⟩, hC⟩ := rk
  have HPV : Hid (RV w pv p) := hpv
  obtain ⟨aa, ac, rfl, har, _, _⟩ := hav
  obtain ⟨pa, pc, rfl, _, _, _⟩ := hpv
  have HC : Hid (∀ i, i < n → VTree w (kid i) (.agg #[C i 0, C i 1, C i 2, C i 3])) := hC
  have HI : Hid (∀ i, KeySays (kid i)) := ih
  have H3 : Hid (0 < n → ∃ b o, a = some ⟨b, o, none⟩ ∧ b < w.heap.size ∧ ∀ i, i < n → ∀ j, j < 4 → w.cell? ⟨b, o + i * 4 + j, none⟩ = some (C i j)) := h3
  have hsz' : ah.length + (ed.length + (n + sumN n (fun i => szT (kid i)))) ≤ 2000000 := hsz
  have HSZ : Hid (∀ i, i < n → (ah ++ ed).length + szT (kid i) ≤ 2000000) := fun i hi => by have := sumN_mem (fun i => szT (kid i)) hi; rw [List.length_append]; (try simp only at this); omega
  obtain ⟨f, hff⟩ : ∃ f, f = fun i => keysP (kid i) (ah ++ ed) p := ⟨_, rfl⟩
  have HF : Hid (∀ i, f i = keysP (kid i) (ah ++ ed) p) := fun i => by rw [hff]
  obtain ⟨L0, hL0⟩ : ∃ L0, L0 = if (h && hasB (ah ++ ed) p) then [ah ++ ed] else [] := ⟨_, rfl⟩
  have HQ : Hid (keysP (DTree.node ed h x n kid) ah p = L0 ++ flatN n f) := by show _ = _; rw [keysP_node, hL0, hff]
  have HLN : Hid ((L0 ++ flatN n f).length ≤ 2000001) := by
    show _ ≤ _
    rw [← HQ.out]
    have := keysP_len (DTree.node ed h x n kid) ah p
    omega
  have HL0 : Hid (L0 = if (h && hasB (ah ++ ed) p) then [ah ++ ed] else []) := hL0
  generalize keysP (DTree.node ed h x n kid) ah p = Q at HQ ⊢
  have HER : Hid (Rd w ea ed.length ed) := her
  have HAR : Hid (Rd w aa ah.length ah) := har
  have HBB : Hid (ah.length + ed.length ≤ 2000000 ∧ p.length ≤ 2000000) := ⟨by omega, hpl⟩
  have hn1 : (n : Int) ≤ 2000000 := by omega
  have HRG : Hid (∀ y ∈ ah ++ ed, 0 ≤ y ∧ y ≤ 255) := fun y hy => (List.mem_append.1 hy).elim (har.rng y) (her.rng y)
  clear ht hsz hsz' hff hC ih h3 hL0 her har hpl
  generalize hen : ed.length = en at *
  generalize han : ah.length = an at *
  have HEN := hideL hen
  have HAN := hideL han
  generalize hpn : p.length = pn at *
  have HPN := hideL hpn
  clear hpn
  clear hen han
  unfold maxLen at h2
  go_enter Try.func34, Try.ntmps34
  go_upto_region 2 with fail
  generalize hW : w.alloc _ = W
  have P0 : W.heap[w.heap.size]? = some (.cells #[.slice ea en ec, .bool h, .int .i64 x, .slice a n cap] 30 (0, 0)) := by rw [← hW]; exact heap_alloc_new w _
  have XW : Ext w W := by rw [← hW]; exact hE _ _
  have HP0 := hideL P0
  have HXW := hideL XW
  obtain ⟨p0, _⟩ := at_block P0 0 _ rfl
  clear hW P0 XW
  have HOE : Hid (Ow ((W.drew).alloc (.cells #[] 5)) W.heap.size (.slice (some ⟨W.heap.size, 0, none⟩) 0 0) []) := ow_empty W.drew
  have HRA : Hid (Rd ((W.drew).alloc (.cells #[] 5)) aa an ah) := ((HAR.out.grown HXW.out).grown (ext_drewN W 1)).grown (hE _ _)
  go_region_held3 (fun w' => w'.cell? ⟨w.heap.size, 0, none⟩ = some (.slice ea en ec)) (first | (simp [*]; done) | go_keep)
    (first
      | (have zz := HO1; clear zz; refine step_append_bytes rfl (.tmp 12) (.tmp 14) 22 rfl W.heap.size info5 Try.underlying22 _ ah (by first | rfl | simp [Act.eval, Act.put]) HO1.out ea en ec ed (by first | rfl | simp [Act.eval, Act.put]) (HER.out.grown (HXW.out.tr HX1.out)) (by have := HBB.out; have := HAN.out; omega) (by have := HX1.out.size; exact this) ?_; intro mv w2 o2 g2; have HO2 := hideL o2; have HX2 : Hid (Ext W w2) := (ext_below ((ext_bel HX1.out).grown g2 HX1.out.size (fun k hk => (HO1.out.lt k hk).1))); have kb2 := (at_block (ext_blk HX2.out HP0.out) 0 _ rfl).1; clear o2 g2)
      | (refine step_append_bytes rfl (.tmp 10) (.tmp 11) 22 rfl W.heap.size info5 Try.underlying22 (.slice (some ⟨W.heap.size, 0, none⟩) 0 0) [] (by first | rfl | simp [Act.eval, Act.put]) HOE.out aa an ac ah (by first | rfl | simp [Act.eval, Act.put]) HRA.out (by have := HBB.out; simp; omega) (by simp) ?_; intro v1 w1 o1 g1; rw [List.nil_append] at o1; have HO1 := hideL o1; have HX1 : Hid (Ext W w1) := (ext_below ((((Below.refl _ W).drew).alloc (Nat.le_refl _) _).grown g1 (by simp) (fun k hk => by cases hk; exact Nat.le_refl _))); have kb1 := (at_block (ext_blk HX1.out HP0.out) 0 _ rfl).1; clear o1 g1))
  all_goals
    obtain ⟨ma, mc, hmv, _⟩ := HO2.out.rv HRG.out
    obtain ⟨mn, hmn⟩ : ∃ mn, mn = (ah ++ ed).length := ⟨_, rfl⟩
    rw [← hmn] at hmv
    subst hmv
    have HMN := hideL hmn
    clear hmn
    try clear kb1
    try clear kb2
    obtain ⟨b1, _⟩ := at_block (ext_blk HX2.out HP0.out) 1 _ rfl
    cases h
    case false =>
      have HT0 : Hid (TxS w2 w.heap.size (.slice none 0 0) [] []) := TxS.nil _ _
      have HBX : Hid (w2.heap[w.heap.size]? = some (.cells #[.slice ea en ec, .bool false, .int .i64 x, .slice a n cap] 30 (0, 0))) := ext_blk HX2.out HP0.out
      have HME : Hid (Ow w2 W.heap.size (.slice ma mn mc) (ah ++ ed)) := HO2.out
      have HBW : Hid (Below w.heap.size w w2) := (ext_bel HXW.out).trans ((ext_bel HX2.out).mono HXW.out.size)
      have hL00 : L0 = [] := HL0.out
      subst hL00
      go_wp2
      go_loopw [7, 9] (fun ov iv wr => ∃ k : Nat, k ≤ n ∧ iv = .int .i64 k ∧ ∃ F L, Hid (L = [] ++ flatN k f) ∧ Hid (TxS wr w.heap.size ov F L) ∧ Hid (wr.heap[w.heap.size]? = some (.cells #[.slice ea en ec, .bool false, .int .i64 x, .slice a n cap] 30 (0, 0))) ∧ Hid (Ow wr W.heap.size (.slice ma mn mc) (ah ++ ed)) ∧ Hid (Below w.heap.size w wr)) (fun _ iv _ => n - (intOf iv).toNat)
      case atStart => exact ⟨0, Nat.zero_le _, rfl, _, _, by show _ = _; simp [flatN], HT0, HBX, HME, HBW⟩
      case round =>
        obtain ⟨k, hk, rfl, F, L, hL, hT, hbx, hme, hbw⟩ := hrel
        obtain ⟨p3, _⟩ := at_block hbx.out 3 _ rfl
        by_cases hlt : k < n
        · obtain ⟨b, o, rfl, hbl, hcl⟩ := H3.out (by omega)
          have XR : Ext w wr := ext_below hbw.out
          have hTr := VTree.ext XR _ _ (HC.out k hlt)
          obtain ⟨e1, e2, e3, hv, xv, k1, k2, k3, hag⟩ := hTr.agg
          simp only [Value.agg.injEq, Array.mk.injEq, List.cons.injEq, and_true] at hag
          obtain ⟨g0, g1, g2, g3⟩ := hag
          rw [g0, g1, g2, g3] at hTr
          have q0 := World.grownBy.cell XR (hcl k hlt 0 (by omega)) (by simp)
          have q1 := World.grownBy.cell XR (hcl k hlt 1 (by omega)) (by simp)
          have q2 := World.grownBy.cell XR (hcl k hlt 2 (by omega)) (by simp)
          have q3 := World.grownBy.cell XR (hcl k hlt 3 (by omega)) (by simp)
          rw [Nat.add_zero] at q0
          rw [g0] at q0
          rw [g1] at q1
          rw [g2] at q2
          rw [g3] at q3
          have hlt' : (k : Int) < (n : Int) := by omega
          have HXR := hideL XR
          clear hcl g0 g1 g2 g3 XR
          go_wp2_with fail
          refine (HI.out k _ _ _ (ah ++ ed) p wr hTr (hme.out.rv HRG.out) (HPV.out.ext HXR.out) (HSZ.out k hlt) (by rw [HPN.out]; exact HBB.out.2)).mono ?_
          rintro e w3 ⟨lv, G, rfl, t3, b3⟩
          rw [← HF.out k] at t3
          have X3 : Ext wr w3 := ext_below b3
          have HT3 := hideL t3
          have HTO := hideL (hT.out.ext X3)
          have HBX3 := hideL (ext_blk X3 hbx.out)
          have HME3 := hideL (hme.out.ext X3)
          have HBW3 := hideL (hbw.out.trans (b3.mono hbw.out.size))
          have HLE : Hid (L.length + (f k).length ≤ 2000001) := by
            obtain ⟨r, hr⟩ := flatN_le f (show k + 1 ≤ n by omega)
            have h1 := HLN.out
            rw [hr] at h1
            have h2 : L.length = ([] ++ flatN k f).length := by rw [hL.out]
            simp only [flatN, List.length_append] at h1 h2
            show _ ≤ _
            (try simp only [List.length_append] at h1 h2 ⊢)
            omega
          have HLL : Hid (L ++ f k = [] ++ flatN (k + 1) f) := by show _ = _; rw [hL.out]; simp only [flatN]; rw [List.append_assoc]
          have HWZ : Hid (w.heap.size ≤ wr.heap.size) := hbw.out.size
          clear t3 b3 X3 q0 q1 q2 q3 hTr p3
          go_wp2_with (at_builtin; refine wpList_append_txs _ rfl (.tmp 34) (.tmp 42) rfl w.heap.size wr.heap.size _ _ F G L (f k) rfl rfl HTO.out HT3.out HWZ.out (by have := HLE.out; omega) HBW3.out.size ?_; intro v4 w4 o4 g4)
          have HO4 : Hid (TxS w4 w.heap.size v4 (F ++ G) (L ++ f k)) := o4
          have HBX4 : Hid (w4.heap[w.heap.size]? = some (.cells #[.slice ea en ec, .bool false, .int .i64 x, .slice (some ⟨b, o, none⟩) n cap] 30 (0, 0))) := (g4.block _ (Array.getElem?_eq_some_iff.1 HBX3.out).1 (ne_tx HTO.out.row HBX3.out (by decide))).trans HBX3.out
          have HME4 : Hid (Ow w4 W.heap.size (.slice ma mn mc) (ah ++ ed)) := World.ownsRow.kept HME3.out g4 (ow_far HME3.out HTO.out.row)
          have HBW4 : Hid (Below w.heap.size w w4) := HBW3.out.grown g4 HBW3.out.size (fun j hj => (World.ownsRow.lt HTO.out.row j hj).1)
          clear o4 g4
          go_roundw
          case rel => exact ⟨k + 1, by omega, by go_num, _, _, HLL, HO4, HBX4, HME4, HBW4⟩
          case measure => simp [intOf]; omega
        · have hkn : k = n := by omega
          subst hkn
          have HE : Hid (L = Q) := by show _ = _; rw [HQ.out, hL.out]
          go_wp2
          go_ret
          exact ⟨_, F, rfl, by rw [← HE.out]; exact hT.out, hbw.out⟩
    case true =>
      go_wp2_with fail
      refine (sHasV _ _ (ah ++ ed) p w2 (HO2.out.rv HRG.out) (HPV.out.ext (HXW.out.tr HX2.out)) (by rw [List.length_append, HEN.out, HAN.out]; have := HBB.out; omega) (by have := HPN.out; have := HBB.out; omega)).mono ?_
      rintro e9 w5 ⟨rfl, q5, hw5⟩
      have X5 : Ext w2 w5 := by rw [hw5]; exact ext_drewN _ _
      have HX5 := hideL X5
      clear hw5 X5 b1
      cases hbb : hasB (ah ++ ed) p
      case false =>
        have HT0 : Hid (TxS w5 w.heap.size (.slice none 0 0) [] []) := TxS.nil _ _
        have HBX : Hid (w5.heap[w.heap.size]? = some (.cells #[.slice ea en ec, .bool true, .int .i64 x, .slice a n cap] 30 (0, 0))) := ext_blk HX5.out (ext_blk HX2.out HP0.out)
        have HME : Hid (Ow w5 W.heap.size (.slice ma mn mc) (ah ++ ed)) := HO2.out.ext HX5.out
        have HBW : Hid (Below w.heap.size w w5) := ((ext_bel HXW.out).trans ((ext_bel HX2.out).mono HXW.out.size)).trans ((ext_bel HX5.out).mono (Nat.le_trans HXW.out.size HX2.out.size))
        have hL00 : L0 = [] := by rw [HL0.out, hbb]; rfl
        subst hL00
        clear hbb
        go_wp2
        go_loopw [7, 9] (fun ov iv wr => ∃ k : Nat, k ≤ n ∧ iv = .int .i64 k ∧ ∃ F L, Hid (L = [] ++ flatN k f) ∧ Hid (TxS wr w.heap.size ov F L) ∧ Hid (wr.heap[w.heap.size]? = some (.cells #[.slice ea en ec, .bool true, .int .i64 x, .slice a n cap] 30 (0, 0))) ∧ Hid (Ow wr W.heap.size (.slice ma mn mc) (ah ++ ed)) ∧ Hid (Below w.heap.size w wr)) (fun _ iv _ => n - (intOf iv).toNat)
        case atStart => exact ⟨0, Nat.zero_le _, rfl, _, _, by show _ = _; simp [flatN], HT0, HBX, HME, HBW⟩
        case round =>
          obtain ⟨k, hk, rfl, F, L, hL, hT, hbx, hme, hbw⟩ := hrel
          obtain ⟨p3, _⟩ := at_block hbx.out 3 _ rfl
          by_cases hlt : k < n
          · obtain ⟨b, o, rfl, hbl, hcl⟩ := H3.out (by omega)
            have XR : Ext w wr := ext_below hbw.out
            have hTr := VTree.ext XR _ _ (HC.out k hlt)
            obtain ⟨e1, e2, e3, hv, xv, k1, k2, k3, hag⟩ := hTr.agg
            simp only [Value.agg.injEq, Array.mk.injEq, List.cons.injEq, and_true] at hag
            obtain ⟨g0, g1, g2, g3⟩ := hag
            rw [g0, g1, g2, g3] at hTr
            have q0 := World.grownBy.cell XR (hcl k hlt 0 (by omega)) (by simp)
            have q1 := World.grownBy.cell XR (hcl k hlt 1 (by omega)) (by simp)
            have q2 := World.grownBy.cell XR (hcl k hlt 2 (by omega)) (by simp)
            have q3 := World.grownBy.cell XR (hcl k hlt 3 (by omega)) (by simp)
            rw [Nat.add_zero] at q0
            rw [g0] at q0
            rw [g1] at q1
            rw [g2] at q2
            rw [g3] at q3
            have hlt' : (k : Int) < (n : Int) := by omega
            have HXR := hideL XR
            clear hcl g0 g1 g2 g3 XR
            go_wp2_with fail
            refine (HI.out k _ _ _ (ah ++ ed) p wr hTr (hme.out.rv HRG.out) (HPV.out.ext HXR.out) (HSZ.out k hlt) (by rw [HPN.out]; exact HBB.out.2)).mono ?_
            rintro e w3 ⟨lv, G, rfl, t3, b3⟩
            rw [← HF.out k] at t3
            have X3 : Ext wr w3 := ext_below b3
            have HT3 := hideL t3
            have HTO := hideL (hT.out.ext X3)
            have HBX3 := hideL (ext_blk X3 hbx.out)
            have HME3 := hideL (hme.out.ext X3)
            have HBW3 := hideL (hbw.out.trans (b3.mono hbw.out.size))
            have HLE : Hid (L.length + (f k).length ≤ 2000001) := by
              obtain ⟨r, hr⟩ := flatN_le f (show k + 1 ≤ n by omega)
              have h1 := HLN.out
              rw [hr] at h1
              have h2 : L.length = ([] ++ flatN k f).length := by rw [hL.out]
              simp only [flatN, List.length_append] at h1 h2
              show _ ≤ _
              (try simp only [List.length_append] at h1 h2 ⊢)
              omega
            have HLL : Hid (L ++ f k = [] ++ flatN (k + 1) f) := by show _ = _; rw [hL.out]; simp only [flatN]; rw [List.append_assoc]
            have HWZ : Hid (w.heap.size ≤ wr.heap.size) := hbw.out.size
            clear t3 b3 X3 q0 q1 q2 q3 hTr p3
            go_wp2_with (at_builtin; refine wpList_append_txs _ rfl (.tmp 34) (.tmp 42) rfl w.heap.size wr.heap.size _ _ F G L (f k) rfl rfl HTO.out HT3.out HWZ.out (by have := HLE.out; omega) HBW3.out.size ?_; intro v4 w4 o4 g4)
            have HO4 : Hid (TxS w4 w.heap.size v4 (F ++ G) (L ++ f k)) := o4
            have HBX4 : Hid (w4.heap[w.heap.size]? = some (.cells #[.slice ea en ec, .bool true, .int .i64 x, .slice (some ⟨b, o, none⟩) n cap] 30 (0, 0))) := (g4.block _ (Array.getElem?_eq_some_iff.1 HBX3.out).1 (ne_tx HTO.out.row HBX3.out (by decide))).trans HBX3.out
            have HME4 : Hid (Ow w4 W.heap.size (.slice ma mn mc) (ah ++ ed)) := World.ownsRow.kept HME3.out g4 (ow_far HME3.out HTO.out.row)
            have HBW4 : Hid (Below w.heap.size w w4) := HBW3.out.grown g4 HBW3.out.size (fun j hj => (World.ownsRow.lt HTO.out.row j hj).1)
            clear o4 g4
            go_roundw
            case rel => exact ⟨k + 1, by omega, by go_num, _, _, HLL, HO4, HBX4, HME4, HBW4⟩
            case measure => simp [intOf]; omega
          · have hkn : k = n := by omega
            subst hkn
            have HE : Hid (L = Q) := by show _ = _; rw [HQ.out, hL.out]
            go_wp2
            go_ret
            exact ⟨_, F, rfl, by rw [← HE.out]; exact hT.out, hbw.out⟩
      case true =>
        have hL00 : L0 = [ah ++ ed] := by rw [HL0.out, hbb]; rfl
        subst hL00
        clear hbb
        have HN5 : Hid (Ow w5 W.heap.size (.slice ma mn mc) (ah ++ ed)) := HO2.out.ext HX5.out
        have HBX5 := hideL (ext_blk HX5.out (ext_blk HX2.out HP0.out))
        have HBW5 : Hid (Below w.heap.size w w5) := ((ext_bel HXW.out).trans ((ext_bel HX2.out).mono HXW.out.size)).trans ((ext_bel HX5.out).mono (Nat.le_trans HXW.out.size HX2.out.size))
        go_upto_region 5 with (at_builtin; refine wpList_append_tx _ rfl (.tmp 23) (.tmp 25) rfl w.heap.size W.heap.size _ [] [] rfl ((TxS.nil _ _).ext (hE _ _)) HXW.out.size _ (.slice ma mn mc) (ah ++ ed) rfl (by simp) ⟨HN5.out.ext (hE _ _), _, _, by rw [← HMN.out]⟩ (by simp) (by have := HBW5.out.size; simp; omega) ?_; intro v6 w6 o6 g6)
        have HT6 : Hid (TxS w6 w.heap.size v6 [.slice ma mn mc] [ah ++ ed]) := o6
        have X6 : Ext w5 w6 := ext_below (((Below.refl _ w5).alloc (Nat.le_refl _) _).grown g6 (by simp) (fun k hk => by cases hk))
        have HB6 := hideL (ext_blk X6 HBX5.out)
        have HM6 := hideL (HN5.out.ext X6)
        have HW6 := hideL (HBW5.out.trans ((ext_bel X6).mono HBW5.out.size))
        clear o6 g6 X6
        have HT0 : Hid (TxS w6 w.heap.size v6 [.slice ma mn mc] [ah ++ ed]) := HT6.out
        have HBX : Hid (w6.heap[w.heap.size]? = some (.cells #[.slice ea en ec, .bool true, .int .i64 x, .slice a n cap] 30 (0, 0))) := HB6.out
        have HME : Hid (Ow w6 W.heap.size (.slice ma mn mc) (ah ++ ed)) := HM6.out
        have HBW : Hid (Below w.heap.size w w6) := HW6.out
        skip
        go_wp2
        go_loopw [7, 9] (fun ov iv wr => ∃ k : Nat, k ≤ n ∧ iv = .int .i64 k ∧ ∃ F L, Hid (L = [ah ++ ed] ++ flatN k f) ∧ Hid (TxS wr w.heap.size ov F L) ∧ Hid (wr.heap[w.heap.size]? = some (.cells #[.slice ea en ec, .bool true, .int .i64 x, .slice a n cap] 30 (0, 0))) ∧ Hid (Ow wr W.heap.size (.slice ma mn mc) (ah ++ ed)) ∧ Hid (Below w.heap.size w wr)) (fun _ iv _ => n - (intOf iv).toNat)
        case atStart => exact ⟨0, Nat.zero_le _, rfl, _, _, by show _ = _; simp [flatN], HT0, HBX, HME, HBW⟩
        case round =>
          obtain ⟨k, hk, rfl, F, L, hL, hT, hbx, hme, hbw⟩ := hrel
          obtain ⟨p3, _⟩ := at_block hbx.out 3 _ rfl
          by_cases hlt : k < n
          · obtain ⟨b, o, rfl, hbl, hcl⟩ := H3.out (by omega)
            have XR : Ext w wr := ext_below hbw.out
            have hTr := VTree.ext XR _ _ (HC.out k hlt)
            obtain ⟨e1, e2, e3, hv, xv, k1, k2, k3, hag⟩ := hTr.agg
            simp only [Value.agg.injEq, Array.mk.injEq, List.cons.injEq, and_true] at hag
            obtain ⟨g0, g1, g2, g3⟩ := hag
            rw [g0, g1, g2, g3] at hTr
            have q0 := World.grownBy.cell XR (hcl k hlt 0 (by omega)) (by simp)
            have q1 := World.grownBy.cell XR (hcl k hlt 1 (by omega)) (by simp)
            have q2 := World.grownBy.cell XR (hcl k hlt 2 (by omega)) (by simp)
            have q3 := World.grownBy.cell XR (hcl k hlt 3 (by omega)) (by simp)
            rw [Nat.add_zero] at q0
            rw [g0] at q0
            rw [g1] at q1
            rw [g2] at q2
            rw [g3] at q3
            have hlt' : (k : Int) < (n : Int) := by omega
            have HXR := hideL XR
            clear hcl g0 g1 g2 g3 XR
            go_wp2_with fail
            refine (HI.out k _ _ _ (ah ++ ed) p wr hTr (hme.out.rv HRG.out) (HPV.out.ext HXR.out) (HSZ.out k hlt) (by rw [HPN.out]; exact HBB.out.2)).mono ?_
            rintro e w3 ⟨lv, G, rfl, t3, b3⟩
            rw [← HF.out k] at t3
            have X3 : Ext wr w3 := ext_below b3
            have HT3 := hideL t3
            have HTO := hideL (hT.out.ext X3)
            have HBX3 := hideL (ext_blk X3 hbx.out)
            have HME3 := hideL (hme.out.ext X3)
            have HBW3 := hideL (hbw.out.trans (b3.mono hbw.out.size))
            have HLE : Hid (L.length + (f k).length ≤ 2000001) := by
              obtain ⟨r, hr⟩ := flatN_le f (show k + 1 ≤ n by omega)
              have h1 := HLN.out
              rw [hr] at h1
              have h2 : L.length = ([ah ++ ed] ++ flatN k f).length := by rw [hL.out]
              simp only [flatN, List.length_append] at h1 h2
              show _ ≤ _
              (try simp only [List.length_append] at h1 h2 ⊢)
              omega
            have HLL : Hid (L ++ f k = [ah ++ ed] ++ flatN (k + 1) f) := by show _ = _; rw [hL.out]; simp only [flatN]; rw [List.append_assoc]
            have HWZ : Hid (w.heap.size ≤ wr.heap.size) := hbw.out.size
            clear t3 b3 X3 q0 q1 q2 q3 hTr p3
            go_wp2_with (at_builtin; refine wpList_append_txs _ rfl (.tmp 34) (.tmp 42) rfl w.heap.size wr.heap.size _ _ F G L (f k) rfl rfl HTO.out HT3.out HWZ.out (by have := HLE.out; omega) HBW3.out.size ?_; intro v4 w4 o4 g4)
            have HO4 : Hid (TxS w4 w.heap.size v4 (F ++ G) (L ++ f k)) := o4
            have HBX4 : Hid (w4.heap[w.heap.size]? = some (.cells #[.slice ea en ec, .bool true, .int .i64 x, .slice (some ⟨b, o, none⟩) n cap] 30 (0, 0))) := (g4.block _ (Array.getElem?_eq_some_iff.1 HBX3.out).1 (ne_tx HTO.out.row HBX3.out (by decide))).trans HBX3.out
            have HME4 : Hid (Ow w4 W.heap.size (.slice ma mn mc) (ah ++ ed)) := World.ownsRow.kept HME3.out g4 (ow_far HME3.out HTO.out.row)
            have HBW4 : Hid (Below w.heap.size w w4) := HBW3.out.grown g4 HBW3.out.size (fun j hj => (World.ownsRow.lt HTO.out.row j hj).1)
            clear o4 g4
            go_roundw
            case rel => exact ⟨k + 1, by omega, by go_num, _, _, HLL, HO4, HBX4, HME4, HBW4⟩
            case measure => simp [intOf]; omega
          · have hkn : k = n := by omega
            subst hkn
            have HE : Hid (L = Q) := by show _ = _; rw [HQ.out, hL.out]
            go_wp2
            go_ret
            exact ⟨_, F, rfl, by rw [← HE.out]; exact hT.out, hbw.out⟩

theorem l6keys_any : ∀ (d : Nat) (t : DTree d), KeySays t
  | 0, _ => fun _ _ _ _ _ _ ht => False.elim ht
  | d + 1, (e, h, x, n, kid) => l6keys_step e h x n kid (fun i => l6keys_any d (kid i))

end Go.Proofs.Ytdeogmkcomdbjaa
