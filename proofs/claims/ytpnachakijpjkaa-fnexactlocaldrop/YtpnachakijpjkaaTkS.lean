
/- The specification's LocalTick. -/
import Derived.Test.YtpnachakijpjkaaTkF
import Derived.Test.YtpnachakijpjkaaSl0
import Derived.Test.YtpnachakijpjkaaLo2
namespace Go.Proofs.Ytpnachakijpjkaa
open Go.RowKit

def zeroLoc : DLoc := ⟨[], []⟩
def tickLX (ok : Bool) (L : DLoc) (n : Int) : DLoc × Int := if ok && decide (0 ≤ n) then (⟨L.node, L.svcs.map (tickS n)⟩, ((cntL n L.svcs : Nat) : Int)) else (zeroLoc, 0)
theorem ows_nil (S : Nat → Prop) (w : World) : OwS S w (.slice none 0 0) [] := ⟨⟨World.ownsRow_nil _ _ _ _, by simp⟩, fun b h => by cases h⟩
theorem osd_nil (S : Nat → Prop) (w : World) : OSD S w (.slice none 0 0) [] := .inl ⟨none, 0, rfl, Nat.zero_le _, rfl⟩
theorem locP_chk {L : DLoc} (h : LocP L) {i : Nat} {s : DSvc} (hs : L.svcs[i]? = some s) : s.checks.length ≤ 4 ∧ ∀ (j : Nat) c, s.checks[j]? = some c → chkB c = true := by
  have h1 := (svcAt_iff hs).1 (h.2.2 i (List.getElem?_eq_some_iff.1 hs).1)
  exact ⟨h1.2.2.1, fun j c hc => ((chkAt_iff hc).1 (h1.2.2.2.2 j (List.getElem?_eq_some_iff.1 hc).1)).1⟩

set_option maxRecDepth 20000 in
set_option maxHeartbeats 4000000 in
theorem sLocalTickV (v : Value) (L : DLoc) (n : Int) (w : World) (h : VLoc w v L) (hl : LenLo L) (hn0 : -9223372036854775808 ≤ n) (hn1 : n ≤ 9223372036854775807) :
    Calls Try.prog 28 #[v, .int .i64 n] w fun e w' => ∃ nv sv mid, e = .returned (.tuple #[.agg #[nv, sv], .int .i64 (tickLX (tB (LocP L)) L n).2]) ∧ OwS (Rg w.heap.size mid) w' nv (tickLX (tB (LocP L)) L n).1.node ∧ OSD (Rg mid w'.heap.size) w' sv (tickLX (tB (LocP L)) L n).1.svcs ∧ (w.heap.size ≤ mid ∧ mid ≤ w'.heap.size) ∧ Below w.heap.size w w' := by
  have hE : ∀ w : World, ∀ o, Ext w (w.alloc o) := fun w o => World.grownBy_alloc _ _ _
  have h0 := hidL h
  obtain ⟨nv, sv, rfl, hn, hs⟩ := h
  obtain ⟨na, nc, rfl⟩ := rv_shape hn
  obtain ⟨sa, sc, rfl⟩ := svcs_shape hs
  obtain ⟨nn, hnn⟩ : ∃ nn, nn = L.node.length := ⟨_, rfl⟩
  obtain ⟨m, hm⟩ : ∃ m, m = L.svcs.length := ⟨_, rfl⟩
  have HNN := hidL hnn
  have HM := hidL hm
  rw [← hnn, ← hm] at h0 ⊢
  have HL := hidL hl
  clear hnn hm hn hs hl
  have HLO : Hid (∀ V, Ext w V → Calls Try.prog 9 #[.agg #[.slice na nn nc, .slice sa m sc]] V fun e w' => e = .returned (.bool (tB (LocP L))) ∧ Below V.heap.size V w') := fun V e => sLocalOkV _ L V (h0.out.ext e) HL.out
  have HOW : Hid (∀ V, Ext w V → Calls Try.prog 42 #[.agg #[.slice na nn nc, .slice sa m sc]] V fun e w' => ∃ xa xc xb xd mid, e = .returned (.agg #[.slice xa nn xc, .slice xb m xd]) ∧ OwS (Rg V.heap.size mid) w' (.slice xa nn xc) L.node ∧ OSD (Rg mid w'.heap.size) w' (.slice xb m xd) L.svcs ∧ (V.heap.size ≤ mid ∧ mid ≤ w'.heap.size) ∧ Below V.heap.size V w') := fun V e => (sOwnLV _ L V (h0.out.ext e) HL.out).mono fun e w' ⟨nv, sv, mid, h1, h2, h3, h4, h5⟩ => by
    obtain ⟨xa, xc, rfl⟩ := rv_shape h2.rv
    obtain ⟨xb, xd, rfl⟩ := svcs_shape h3.v
    rw [← HNN.out] at h1 h2
    rw [← HM.out] at h1 h3
    exact ⟨xa, xc, xb, xd, mid, h1, h2, h3, h4, h5⟩
  have HR : Hid (∀ x, tB (LocP L) = x → tickLX (tB (LocP L)) L n = if x && decide (0 ≤ n) then (⟨L.node, L.svcs.map (tickS n)⟩, ((cntL n L.svcs : Nat) : Int)) else (zeroLoc, 0)) := fun x h => by subst h; rfl
  have HLP : Hid (tB (LocP L) = true → LocP L) := fun h => tB_iff.1 h
  obtain ⟨R, hR⟩ : ∃ R, R = tickLX (tB (LocP L)) L n := ⟨_, rfl⟩
  rw [← hR] at HR ⊢
  clear hR
  go_enter Try.func28, Try.ntmps28
  go_upto_region 1 with fail
  generalize hW : World.alloc (World.alloc w _) _ = W
  have PA : W.heap[w.heap.size]? = some (.cells #[.slice na nn nc, .slice sa m sc] 30 (0, 0)) := by rw [← hW]; exact al2a _ _ _
  have PR : W.heap[w.heap.size + 1]? = some (.cells #[.slice none 0 0, .slice none 0 0] 30 (0, 0)) := by rw [← hW]; exact al2b _ _ _
  have BW : Below w.heap.size w W := by rw [← hW]; exact ((Below.refl _ w).alloc (Nat.le_refl _) _).alloc (by simp) _
  have hW2 : Hid (W.heap.size = w.heap.size + 2) := by show _ = _; rw [← hW]; simp
  clear hW
  obtain ⟨⟨x0, x1⟩, _, _⟩ := cells2S PA
  go_wp2_with fail
  refine (HLO.out W (ext_below BW)).mono ?_
  rintro e w1 ⟨rfl, b1⟩
  have PA1 := below_blk b1 (by have := hW2.out; omega) PA
  have PR1 := below_blk b1 (by have := hW2.out; omega) PR
  have B1 := hidL (BW.trans (b1.mono BW.size))
  have SZ1 := hidL b1.size
  have HFAIL : Hid (R = (zeroLoc, 0) → ∃ nv sv mid, (Ending.returned (.tuple #[.agg #[.slice none 0 0, .slice none 0 0], .int .i64 0]) : Ending) = .returned (.tuple #[.agg #[nv, sv], .int .i64 R.2]) ∧ OwS (Rg w.heap.size mid) ((w1.setCell ⟨w.heap.size + 1, 0, none⟩ (.slice none 0 0)).setCell ⟨w.heap.size + 1, 1, none⟩ (.slice none 0 0)) nv R.1.node ∧ OSD (Rg mid ((w1.setCell ⟨w.heap.size + 1, 0, none⟩ (.slice none 0 0)).setCell ⟨w.heap.size + 1, 1, none⟩ (.slice none 0 0)).heap.size) ((w1.setCell ⟨w.heap.size + 1, 0, none⟩ (.slice none 0 0)).setCell ⟨w.heap.size + 1, 1, none⟩ (.slice none 0 0)) sv R.1.svcs ∧ (w.heap.size ≤ mid ∧ mid ≤ ((w1.setCell ⟨w.heap.size + 1, 0, none⟩ (.slice none 0 0)).setCell ⟨w.heap.size + 1, 1, none⟩ (.slice none 0 0)).heap.size) ∧ Below w.heap.size w ((w1.setCell ⟨w.heap.size + 1, 0, none⟩ (.slice none 0 0)).setCell ⟨w.heap.size + 1, 1, none⟩ (.slice none 0 0))) := fun hr => by
    rw [hr]
    exact ⟨_, _, w.heap.size, rfl, ows_nil _ _, osd_nil _ _, ⟨Nat.le_refl _, by simp; have := B1.out.size; omega⟩, (B1.out.setCell (Nat.le_succ _) _).setCell (Nat.le_succ _) _⟩
  clear x0 x1 PA PR BW b1
  obtain ⟨⟨x0, x1⟩, _, _⟩ := cells2S PA1
  obtain ⟨⟨r0, r1⟩, k0, k1⟩ := cells2S PR1
  cases hb : tB (LocP L)
  · have HK : Hid (R = (zeroLoc, 0)) := by show _ = _; rw [HR.out false hb]; rfl
    clear hb HR
    go_wp2
    refine bodyPost_ret (v := .tuple #[.agg #[.slice none 0 0, .slice none 0 0], .int .i64 0]) (by simp [results, Try.results28, go_sem, *]) rfl ?_
    exact HFAIL.out HK.out
  have HB := hidL (HLP.out hb)
  by_cases hn : n < 0
  · have HK : Hid (R = (zeroLoc, 0)) := by show _ = _; rw [HR.out true hb, decide_eq_false (by omega)]; rfl
    have hn' : decide (n < 0) = true := decide_eq_true hn
    clear hb HR
    go_wp2
    refine bodyPost_ret (v := .tuple #[.agg #[.slice none 0 0, .slice none 0 0], .int .i64 0]) (by simp [results, Try.results28, go_sem, *]) rfl ?_
    exact HFAIL.out HK.out
  have HK : Hid (R = (⟨L.node, L.svcs.map (tickS n)⟩, ((cntL n L.svcs : Nat) : Int))) := by show _ = _; rw [HR.out true hb, decide_eq_true (by omega)]; rfl
  have hn' : decide (n < 0) = false := decide_eq_false hn
  clear hb HR HFAIL
  go_wp2_with fail
  refine (HOW.out w1 (ext_below B1.out)).mono ?_
  rintro e w2 ⟨xa, xc, xb, xd, mid, rfl, o2, s2, hm2, b2⟩
  have PR2 := below_blk b2 (Array.getElem?_eq_some_iff.1 PR1).1 PR1
  have B2 := hidL (B1.out.trans (b2.mono B1.out.size))
  have hw1 := (Array.getElem?_eq_some_iff.1 PR1).1
  clear x0 x1 r0 r1 k0 k1
  go_upto_region 4 with fail
  generalize hU : World.alloc w2 _ = U
  have PU : U.heap[w2.heap.size]? = some (.cells #[.slice xa nn xc, .slice xb m xd] 30 (0, 0)) := by rw [← hU]; exact heap_alloc_new _ _
  have XU : Ext w2 U := by rw [← hU]; exact hE _ _
  clear hU
  have HPU := hidL PU
  have HPRU := hidL (ext_blk XU PR2)
  have HBU := hidL (B2.out.trans ((ext_bel XU).mono B2.out.size))
  have HOU := hidL (o2.ext XU)
  have HSU := hidL (ow_osd (s2.ext XU))
  obtain ⟨g6, hg6⟩ : ∃ g6, g6 = w2.heap.size := ⟨_, rfl⟩
  rw [← hg6] at HPU HSU ⊢
  have HSZ : Hid (w.heap.size + 1 < w1.heap.size ∧ w1.heap.size ≤ mid ∧ mid ≤ g6) := ⟨hw1, hm2.1, by omega⟩
  clear hg6 PU XU PR2 o2 s2 hm2 b2 B2 PA1 PR1 hw1
  have HCB : Hid (∀ i s j, L.svcs[i]? = some s → j ≤ s.checks.length → cntL n (L.svcs.take i) + cntC n (s.checks.take j) ≤ 1000) := fun i s j hs hj => by
    have h1 : cntL n (L.svcs.take i) ≤ 4 * (L.svcs.take i).length := cntL_le fun x hx => by
      obtain ⟨a, ha⟩ := List.getElem?_of_mem (List.mem_of_mem_take hx)
      exact (locP_chk HB.out ha).1
    have h2 := cntC_le n (s.checks.take j)
    have h3 := (locP_chk HB.out hs).1
    have h4 := HB.out.2.1
    rw [List.length_take] at h1 h2
    omega
  have hmm : (m : Int) ≤ 1000 := by have := HB.out.2.1; have := HM.out; omega
  go_wp2
  go_loopw [7, 8] (fun q i wr => ∃ k : Nat, k ≤ m ∧ i = .int .i64 k ∧ ∃ z : Nat, q = .int .i64 z ∧ Hid (z = cntL n (L.svcs.take k)) ∧ Hid (OW 57 2 ownV (Rg mid g6) wr (.slice xb m xd) (tkL n L.svcs k 0)) ∧ Hid (Trn (Rg mid g6) U wr)) (fun _ i _ => m - (intOf i).toNat)
  case atStart => exact ⟨0, Nat.zero_le _, rfl, 0, rfl, by simp [Hid, cntL], (by rw [tkL_zero]; exact HSU.out), Trn.refl _ _⟩
  case round =>
    obtain ⟨k, hk, rfl, z, rfl, hz, hO, hT⟩ := hrel
    have PG := hidL ((hT.out.block g6 (Array.getElem?_eq_some_iff.1 HPU.out).1 (fun e => by have := e.2; omega)).trans HPU.out)
    obtain ⟨⟨x0, x1⟩, _, _⟩ := cells2S PG.out
    by_cases hlt : k < m
    · obtain ⟨s, hs⟩ : ∃ s, L.svcs[k]? = some s := ⟨_, List.getElem?_eq_getElem (by have := HM.out; omega)⟩
      have HS := hidL hs
      have hlt' : (k : Int) < (m : Int) := by omega
      have HZN : Hid (z + cntC n s.checks = cntL n (L.svcs.take (k + 1))) := by show _ = _; rw [cntL_next hs, hz.out]
      have HTN : Hid (tkL n L.svcs k s.checks.length = tkL n L.svcs (k + 1) 0) := tkL_next hs
      have HCZ : Hid (∀ j, j ≤ s.checks.length → z + cntC n (s.checks.take j) ≤ 1000) := fun j hj => by rw [hz.out]; exact HCB.out k s j hs hj
      obtain ⟨cl, hcl⟩ : ∃ cl, cl = s.checks.length := ⟨_, rfl⟩
      have HCL := hidL hcl
      have hcm : (cl : Int) ≤ 1000 := by have := (locP_chk HB.out hs).1; omega
      clear hs hcl
      obtain ⟨wo, hwo⟩ : ∃ wo, wo = wr := ⟨_, rfl⟩
      subst hwo
      go_wp2
      go_loopw [7, 9] (fun q i wv => ∃ j : Nat, j ≤ cl ∧ i = .int .i64 j ∧ ∃ y : Nat, q = .int .i64 y ∧ Hid (y = z + cntC n (s.checks.take j)) ∧ Hid (OW 57 2 ownV (Rg mid g6) wv (.slice xb m xd) (tkL n L.svcs k j)) ∧ Hid (Trn (Rg mid g6) U wv)) (fun _ i _ => cl - (intOf i).toNat)
      case atStart => exact ⟨0, Nat.zero_le _, rfl, z, rfl, by simp [Hid, cntC], hO.out, hT.out⟩
      case round =>
        obtain ⟨j, hj, rfl, y, rfl, hy, hO2, hT2⟩ := hrel
        have PG2 := hidL ((hT2.out.block g6 (Array.getElem?_eq_some_iff.1 HPU.out).1 (fun e => by have := e.2; omega)).trans HPU.out)
        clear x0 x1
        obtain ⟨⟨x0, x1⟩, _, _⟩ := cells2S PG2.out
        have hpart := tkL_get (n := n) (i := k) (j := j) HS.out
        rw [if_neg (Nat.lt_irrefl k), if_pos rfl] at hpart
        obtain ⟨ps, hps⟩ : ∃ ps, ps = (⟨s.name, s.checks.mapIdx fun b c => if b < j then (tickD c n).1 else c⟩ : DSvc) := ⟨_, rfl⟩
        rw [← hps] at hpart
        have hpl : ps.checks.length = cl := by rw [hps]; simp [HCL.out]
        have HPS := hidL hps
        have HPART := hidL hpart
        by_cases hjl : j < cl
        · obtain ⟨c, hc⟩ : ∃ c, s.checks[j]? = some c := ⟨_, List.getElem?_eq_getElem (by have := HCL.out; omega)⟩
          have hpc : ps.checks[j]? = some c := by rw [hps, List.getElem?_mapIdx, hc]; simp
          obtain ⟨g, cap, gi, capi, F, nv, hv, hg, q1, hEl, _, hnext⟩ := chk_focus hO2.out hpart hpc
          rw [tkL_len, ← HM.out] at hv
          injection hv with e1 e2 e3
          subst e1 e3
          rw [hpl] at q1 hEl hnext
          have HNEXT := hidL hnext
          have HEL := hidL hEl
          have HC := hidL hc
          have HCK := hidL ((locP_chk HB.out HS.out).2 j c hc)
          have HYN : Hid (cntC n (s.checks.take (j + 1)) = cntC n (s.checks.take j) + (if (tickD c n).2 then 1 else 0)) := cntC_next hc
          have hyb : y ≤ 1000 := by rw [hy.out]; exact HCZ.out j (by have := HCL.out; omega)
          have hjl' : (j : Int) < (cl : Int) := by omega
          have hcapi : (cl : Int) ≤ (capi : Int) := by have := hEl.1.2; omega
          clear hnext hEl hc hpc hpart hps hpl e2
          go_wp2_with fail
          refine (sTickEl gi capi cl j F nv c n wr HEL.out HCK.out (by omega) hn1).mono ?_
          rintro e w5 ⟨rfl, h5, g5⟩
          obtain ⟨p6, t6⟩ := HNEXT.out (tickD c n).1 w5 (by unfold tickD; split; rfl; split <;> rfl) h5 g5
          have HO6 : Hid (OW 57 2 ownV (Rg mid g6) w5 (.slice (some ⟨g, 0, none⟩) m xd) (tkL n L.svcs k (j + 1))) := by
            have h7 := tkL_set (n := n) HS.out HC.out
            rw [← h7]
            rw [HPS.out] at p6
            exact p6
          have HT6 := hidL (hT2.out.trans t6)
          clear h5 g5 p6 t6 x0 x1 q1
          cases hb2 : (tickD c n).2
          · have HY : Hid (y = z + cntC n (s.checks.take (j + 1))) := by show _ = _; rw [HYN.out, hb2, hy.out]; simp
            clear HYN HNEXT HEL
            go_wp2
            go_roundw
            case rel => exact ⟨j + 1, by omega, by go_num, y, rfl, HY, HO6, HT6⟩
            case measure => simp [intOf]; omega
          · have HY : Hid (y + 1 = z + cntC n (s.checks.take (j + 1))) := by show _ = _; rw [HYN.out, hb2, hy.out]; simp; omega
            clear HYN HNEXT HEL
            go_wp2
            go_roundw
            case rel => exact ⟨j + 1, by omega, by go_num, y + 1, by go_num, HY, HO6, HT6⟩
            case measure => simp [intOf]; omega
        · have hjc : j = cl := by omega
          subst hjc
          obtain ⟨g, cap, na', nc', ca', cc', hv, _, q0, q1⟩ := svc_cells hO2.out hpart
          rw [tkL_len, ← HM.out] at hv
          injection hv with e1 e2 e3
          subst e1 e3
          rw [hpl] at q1
          have HY : Hid (y = cntL n (L.svcs.take (k + 1))) := by
            show _ = _
            rw [hy.out, ← HZN.out, List.take_of_length_le (by have := HCL.out; omega)]
          have HO7 : Hid (OW 57 2 ownV (Rg mid g6) wr (.slice (some ⟨g, 0, none⟩) m xd) (tkL n L.svcs (k + 1) 0)) := by
            show OW _ _ _ _ _ _ _
            rw [← HTN.out, ← HCL.out]
            exact hO2.out
          clear hpart hps hpl e2 q0 HZN HTN HCZ
          go_wp2
          go_roundw
          case rel => exact ⟨k + 1, by omega, by go_num, y, rfl, HY, HO7, hT2⟩
          case measure => simp [intOf]; omega
    · have hkm : k = m := by omega
      subst hkm
      have HZ : Hid (((z : Nat) : Int) = ((cntL n L.svcs : Nat) : Int)) := by
        show _ = _
        rw [hz.out, List.take_of_length_le (by have := HM.out; omega)]
      have hall : tkL n L.svcs k 0 = L.svcs.map (tickS n) := by rw [HM.out]; exact tkL_all n L.svcs
      rw [hall] at hO
      have PRr := (hT.out.block _ (Array.getElem?_eq_some_iff.1 HPRU.out).1 (fun e => by have := e.1; have := HSZ.out; omega)).trans HPRU.out
      have hsz := HSZ.out
      have hug := hT.out.size
      have hgl := (Array.getElem?_eq_some_iff.1 HPU.out).1
      have OSr := HOU.out.keep hT.out (fun b h e => by have := h.2; have := e.1; omega)
      have hne : (Value.slice xa nn xc).ownBlock ≠ some (w.heap.size + 1) := OSr.ne PRr (by decide)
      have HW1 : Hid (OwS (Rg w.heap.size mid) ((wr.setCell ⟨w.heap.size + 1, 0, none⟩ (.slice xa nn xc)).setCell ⟨w.heap.size + 1, 1, none⟩ (.slice xb k xd)) (.slice xa nn xc) L.node) := ⟨⟨World.ownsRow.kept (World.ownsRow.kept OSr.1.1 (set_grown _ _ _ _) (.inr hne)) (set_grown _ _ _ _) (.inr hne), OSr.1.2⟩, fun b hb => by have := OSr.2 b hb; exact ⟨by have := this.1; omega, this.2⟩⟩
      have TR : Trn (fun b => b = w.heap.size + 1) wr ((wr.setCell ⟨w.heap.size + 1, 0, none⟩ (.slice xa nn xc)).setCell ⟨w.heap.size + 1, 1, none⟩ (.slice xb k xd)) := (Trn.set (fun b => b = w.heap.size + 1) _ _ _ _ rfl).trans (Trn.set (fun b => b = w.heap.size + 1) _ _ _ _ rfl)
      have hss : ((wr.setCell ⟨w.heap.size + 1, 0, none⟩ (.slice xa nn xc)).setCell ⟨w.heap.size + 1, 1, none⟩ (.slice xb k xd)).heap.size = wr.heap.size := by simp
      have HW2 : Hid (OSD (Rg mid ((wr.setCell ⟨w.heap.size + 1, 0, none⟩ (.slice xa nn xc)).setCell ⟨w.heap.size + 1, 1, none⟩ (.slice xb k xd)).heap.size) ((wr.setCell ⟨w.heap.size + 1, 0, none⟩ (.slice xa nn xc)).setCell ⟨w.heap.size + 1, 1, none⟩ (.slice xb k xd)) (.slice xb k xd) (L.svcs.map (tickS n))) := by
        rw [hss]
        exact osd_of ((hO.out.keep keepsV TR (fun b h e => by have := h.1; omega)).mono (fun b h => ⟨h.1, by have := h.2; omega⟩))
      have HW3 : Hid (Below w.heap.size w ((wr.setCell ⟨w.heap.size + 1, 0, none⟩ (.slice xa nn xc)).setCell ⟨w.heap.size + 1, 1, none⟩ (.slice xb k xd))) := ((Trn.below HBU.out hT.out (by have := HBU.out.size; omega) (fun b h => by have := h.1; omega)).setCell (Nat.le_succ _) _).setCell (Nat.le_succ _) _
      have HW4 := hidL (show w.heap.size ≤ mid ∧ mid ≤ ((wr.setCell ⟨w.heap.size + 1, 0, none⟩ (.slice xa nn xc)).setCell ⟨w.heap.size + 1, 1, none⟩ (.slice xb k xd)).heap.size by rw [hss]; omega)
      obtain ⟨⟨r0, r1⟩, l0, l1⟩ := cells2S PRr
      clear hss TR hne hO hall OSr PRr
      go_wp2
      refine bodyPost_ret (v := .tuple #[.agg #[.slice xa nn xc, .slice xb k xd], .int .i64 z]) (by simp [results, Try.results28, go_sem, *]) rfl ?_
      rw [HK.out]
      exact ⟨_, _, mid, by rw [HZ.out], HW1.out, HW2.out, HW4.out, HW3.out⟩

end Go.Proofs.Ytpnachakijpjkaa
