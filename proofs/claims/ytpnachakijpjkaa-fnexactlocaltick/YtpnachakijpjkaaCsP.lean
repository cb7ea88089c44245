
/- The program's copyService: what the copy owns. -/
import Derived.Test.YtpnachakijpjkaaCsC
import Derived.Test.YtpnachakijpjkaaSvF
import Derived.Test.YtpnachakijpjkaaCv
import Derived.Test.YtpnachakijpjkaaCk3
import Derived.Test.YtpnachakijpjkaaRgS
import Derived.Deep.CutRange
namespace Go.Proofs.Ytpnachakijpjkaa
open Go.RowKit

set_option maxRecDepth 20000 in
set_option maxHeartbeats 4000000 in
theorem copySvcV (v : Value) (d : DSvc) (w : World) (h : VSvc w v d) (hl : LenSv d) :
    Calls Try.prog 68 #[v] w fun e w' => ∃ nv cv mid, e = .returned (.agg #[nv, cv]) ∧ OwS (Rg w.heap.size mid) w' nv d.name ∧ OKD (Rg mid w'.heap.size) w' cv d.checks ∧ (w.heap.size ≤ mid ∧ mid ≤ w'.heap.size) ∧ Below w.heap.size w w' := by
  have hE : ∀ w : World, ∀ o, Ext w (w.alloc o) := fun w o => World.grownBy_alloc _ _ _
  obtain ⟨nv, cv, rfl, hn, hc⟩ := h
  have hrn := rv_rngK hn
  have HL := hidL hl
  obtain ⟨na, nc, rfl⟩ := rv_shape hn
  obtain ⟨ca, cc, rfl⟩ := chks_shape hc
  obtain ⟨nn, hnn⟩ : ∃ nn, nn = d.name.length := ⟨_, rfl⟩
  obtain ⟨n, hnl⟩ : ∃ n, n = d.checks.length := ⟨_, rfl⟩
  have HNL := hidL hnl
  have HNN := hidL hnn
  rw [← hnn] at hn ⊢
  rw [← hnl] at hc ⊢
  have hn1 : (n : Int) ≤ 1048576 := by have := hl.2.1; omega
  have hnn2 : nn ≤ 1048576 := by have := hl.1; omega
  have HV : Hid (RV w (.slice na nn nc) d.name) := hn
  have HC0 := hidL hc
  clear hnl hnn hn hc hl
  go_enter Try.func68, Try.ntmps68
  go_wp2_with fail
  have PA := al2a w (.cells #[.slice na nn nc, .slice ca n cc] 57 (0, 0)) (.cells #[.slice none 0 0, .slice none 0 0] 57 (0, 0))
  have PR := al2b w (.cells #[.slice na nn nc, .slice ca n cc] 57 (0, 0)) (.cells #[.slice none 0 0, .slice none 0 0] 57 (0, 0))
  have BW : Below w.heap.size w ((w.alloc (.cells #[.slice na nn nc, .slice ca n cc] 57 (0, 0))).alloc (.cells #[.slice none 0 0, .slice none 0 0] 57 (0, 0))) := ((Below.refl _ w).alloc (Nat.le_refl _) _).alloc (by simp) _
  have SW : ((w.alloc (.cells #[.slice na nn nc, .slice ca n cc] 57 (0, 0))).alloc (.cells #[.slice none 0 0, .slice none 0 0] 57 (0, 0))).heap.size = w.heap.size + 2 := by simp
  generalize (w.alloc (.cells #[.slice na nn nc, .slice ca n cc] 57 (0, 0))).alloc (.cells #[.slice none 0 0, .slice none 0 0] 57 (0, 0)) = W at PA PR BW SW ⊢
  refine (cloneV (.slice na nn nc) d.name W (HV.out.ext (ext_below BW)) (by have := HNN.out; omega)).mono ?_
  rintro e w1 ⟨v1, rfl, o1, b1⟩
  obtain ⟨a1, c1, rfl⟩ := rv_shape (Ow.rv o1 hrn)
  rw [← HNN.out]
  rw [← HNN.out] at o1
  have B1 := hidL (BW.trans (b1.mono BW.size))
  have S1 : W.heap.size ≤ w1.heap.size := b1.size
  have PA1 := below_blk b1 (by omega) PA
  have PR1 := below_blk b1 (by omega) PR
  have O1 : Hid (OwS (Rg w.heap.size w1.heap.size) w1 (.slice a1 nn c1) d.name) := ows_of o1 hrn (by omega)
  have NB1 : (Value.slice a1 nn c1).ownBlock = none ∨ (Value.slice a1 nn c1).ownBlock ≠ some w.heap.size := by
    cases hv : (Value.slice a1 nn c1).ownBlock with
    | none => exact .inl rfl
    | some k => exact .inr (by have := (World.ownsRow.lt o1 k hv).1; simp; omega)
  obtain ⟨x0, f0⟩ := at_block PA1 0 _ rfl
  obtain ⟨x1, f1⟩ := at_block PA1 1 _ rfl
  have HST : Hid (∀ u : Value, (w1.setCell ⟨w.heap.size, 0, none⟩ u).heap[w.heap.size]? = some (.cells #[u, .slice ca n cc] 57 (0, 0)) ∧ (w1.setCell ⟨w.heap.size, 0, none⟩ u).heap[w.heap.size + 1]? = some (.cells #[.slice none 0 0, .slice none 0 0] 57 (0, 0))) := fun u => ⟨by simpa using set_block PA1 0 u, set_other w.heap.size 0 u (by omega) PR1⟩
  clear PA PR PA1 PR1 b1 o1 BW
  go_upto_region 2 with fail
  have HS2 := HST.out (.slice a1 nn c1)
  have BS : Hid (Below w.heap.size w (w1.setCell ⟨w.heap.size, 0, none⟩ (.slice a1 nn c1))) := B1.out.setCell (Nat.le_refl _) _
  have OS : Hid (OwS (Rg w.heap.size w1.heap.size) (w1.setCell ⟨w.heap.size, 0, none⟩ (.slice a1 nn c1)) (.slice a1 nn c1) d.name) := ⟨⟨World.ownsRow.kept O1.out.1.1 (set_grown _ _ _ _) NB1, hrn⟩, O1.out.2⟩
  have SS : (w1.setCell ⟨w.heap.size, 0, none⟩ (.slice a1 nn c1)).heap.size = w1.heap.size := by simp
  generalize w1.setCell ⟨w.heap.size, 0, none⟩ (.slice a1 nn c1) = w2 at HS2 BS OS SS ⊢
  obtain ⟨PA2, PR2⟩ := HS2
  clear x0 x1 f0 f1 HST B1 O1
  obtain ⟨x0, f0⟩ := at_block PA2 0 _ rfl
  obtain ⟨x1, f1⟩ := at_block PA2 1 _ rfl
  go_wp2_with fail
  refine (cloneKs w (.slice ca n cc) d.checks w2 HC0.out (ext_below BS.out) HL.out.2.1).mono ?_
  rintro e w3 ⟨v3, C, rfl, hr3, b3, hC3⟩
  rw [← HNL.out] at hr3
  have HC := hidL hC3
  have SZ3 := b3.size
  have PA3 := below_blk b3 (Array.getElem?_eq_some_iff.1 PA2).1 PA2
  have PR3 := below_blk b3 (Array.getElem?_eq_some_iff.1 PR2).1 PR2
  have B3 := hidL (BS.out.trans (b3.mono BS.out.size))
  have O3 := hidL (OS.out.ext (ext_below b3))
  obtain ⟨mid, hmid⟩ : ∃ mid, mid = w1.heap.size := ⟨_, rfl⟩
  rw [← hmid] at O3 S1 SS
  have HSM : Hid (w.heap.size + 2 ≤ mid ∧ mid = w2.heap.size) := ⟨by omega, by omega⟩
  clear hmid OS BS x0 x1 f0 f1 hC3
  obtain ⟨a3, c3, hv3⟩ := hr3.shape
  obtain ⟨x0, f0⟩ := at_block PA3 0 _ rfl
  obtain ⟨x1, f1⟩ := at_block PA3 1 _ rfl
  have NBR : ∀ b, v3.ownBlock = some b → w2.heap.size ≤ b ∧ b < w3.heap.size := fun b hb => World.ownsRow.lt hr3 b hb
  have HR4 : Hid (Row w2.heap.size 45 6 (w3.setCell ⟨w.heap.size, 1, none⟩ (.slice a3 n c3)) (.slice a3 n c3) n C) := by
    have := hr3.kept (set_grown w3 w.heap.size 1 (.slice a3 n c3)) (by
      cases hvb : v3.ownBlock with
      | none => exact .inl rfl
      | some k => exact .inr (by have := NBR k hvb; have := HSM.out; simp; omega))
    rw [hv3] at this
    exact this
  have PA4 := hidL (show (w3.setCell ⟨w.heap.size, 1, none⟩ (.slice a3 n c3)).heap[w.heap.size]? = some (.cells #[.slice a1 nn c1, .slice a3 n c3] 57 (0, 0)) by simpa using set_block PA3 1 (.slice a3 n c3))
  have PR4 := hidL (set_other w.heap.size 1 (.slice a3 n c3) (show w.heap.size + 1 ≠ w.heap.size by omega) PR3)
  have B4 : Hid (Below w.heap.size w (w3.setCell ⟨w.heap.size, 1, none⟩ (.slice a3 n c3))) := B3.out.setCell (Nat.le_refl _) _
  have O4 : Hid (OwS (Rg w.heap.size mid) (w3.setCell ⟨w.heap.size, 1, none⟩ (.slice a3 n c3)) (.slice a1 nn c1) d.name) := ⟨⟨World.ownsRow.kept O3.out.1.1 (set_grown _ _ _ _) NB1, hrn⟩, O3.out.2⟩
  have SZ4 : (w3.setCell ⟨w.heap.size, 1, none⟩ (.slice a3 n c3)).heap.size = w3.heap.size := by simp
  rw [hv3]
  clear hr3 NBR hv3 PA3 PR3 B3 O3 b3 PA2 PR2
  go_upto_region 3 with fail
  generalize w3.setCell ⟨w.heap.size, 1, none⟩ (.slice a3 n c3) = w4 at HR4 PA4 PR4 B4 O4 SZ4 ⊢
  clear x0 x1 f0 f1
  have HFIN : Hid (∀ W, Below w.heap.size w W → OwS (Rg w.heap.size mid) W (.slice a1 nn c1) d.name → W.heap[w.heap.size + 1]? = some (.cells #[.slice none 0 0, .slice none 0 0] 57 (0, 0)) → mid ≤ W.heap.size → OW 45 6 ownC (fun b => mid ≤ b ∧ b < W.heap.size) W (.slice a3 n c3) d.checks →
      ∃ nv cv mid', (Ending.returned (.agg #[.slice a1 nn c1, .slice a3 n c3]) : Ending) = .returned (.agg #[nv, cv]) ∧ OwS (Rg w.heap.size mid') ((W.setCell ⟨w.heap.size + 1, 0, none⟩ (.slice a1 nn c1)).setCell ⟨w.heap.size + 1, 1, none⟩ (.slice a3 n c3)) nv d.name ∧ OKD (Rg mid' ((W.setCell ⟨w.heap.size + 1, 0, none⟩ (.slice a1 nn c1)).setCell ⟨w.heap.size + 1, 1, none⟩ (.slice a3 n c3)).heap.size) ((W.setCell ⟨w.heap.size + 1, 0, none⟩ (.slice a1 nn c1)).setCell ⟨w.heap.size + 1, 1, none⟩ (.slice a3 n c3)) cv d.checks ∧ (w.heap.size ≤ mid' ∧ mid' ≤ ((W.setCell ⟨w.heap.size + 1, 0, none⟩ (.slice a1 nn c1)).setCell ⟨w.heap.size + 1, 1, none⟩ (.slice a3 n c3)).heap.size) ∧ Below w.heap.size w ((W.setCell ⟨w.heap.size + 1, 0, none⟩ (.slice a1 nn c1)).setCell ⟨w.heap.size + 1, 1, none⟩ (.slice a3 n c3))) := fun W hb ho hp hm hw => by
    have t : Trn (fun b => b = w.heap.size + 1) W ((W.setCell ⟨w.heap.size + 1, 0, none⟩ (.slice a1 nn c1)).setCell ⟨w.heap.size + 1, 1, none⟩ (.slice a3 n c3)) := (Trn.set (fun b => b = w.heap.size + 1) _ _ _ _ rfl).trans (Trn.set (fun b => b = w.heap.size + 1) _ _ _ _ rfl)
    have hsz : ((W.setCell ⟨w.heap.size + 1, 0, none⟩ (.slice a1 nn c1)).setCell ⟨w.heap.size + 1, 1, none⟩ (.slice a3 n c3)).heap.size = W.heap.size := by simp
    have hne : (Value.slice a1 nn c1).ownBlock ≠ some (w.heap.size + 1) := ho.ne hp (by decide)
    refine ⟨_, _, mid, rfl, ⟨⟨?_, hrn⟩, ho.2⟩, ?_, ⟨by have := HSM.out; omega, by omega⟩, (hb.setCell (Nat.le_succ _) _).setCell (Nat.le_succ _) _⟩
    · exact World.ownsRow.kept (World.ownsRow.kept ho.1.1 (set_grown _ _ _ _) (.inr hne)) (set_grown _ _ _ _) (.inr hne)
    · have h5 := hw.keep keepsC t (fun b hb e => by have := HSM.out; omega)
      rw [← hsz] at h5
      exact okd_iff.2 h5
  rcases HR4.out.blk with ⟨e1, e2⟩ | ⟨g, cap, e1, hg, hcap, hmax, hB⟩
  · cases e1
    have HW := hidL (HFIN.out w4 B4.out O4.out PR4.out (by have := HSM.out; omega) (.inl ⟨none, 0, rfl, Nat.zero_le _, List.eq_nil_of_length_eq_zero HNL.out.symm⟩))
    obtain ⟨x0, f0⟩ := at_block PA4.out 0 _ rfl
    obtain ⟨x1, f1⟩ := at_block PA4.out 1 _ rfl
    obtain ⟨r0, k0⟩ := at_block PR4.out 0 _ rfl
    obtain ⟨r1, k1⟩ := at_block PR4.out 1 _ rfl
    go_wp2
    refine wp_loop_rounds 1 ?_
    rw [rounds_succ]
    go_wp2
    refine bodyPost_ret (v := .agg #[.slice a1 nn c1, .slice none 0 0]) (by simp [results, Try.results68, go_sem, *]) rfl ?_
    exact HW.out
  · cases e1
    have HG : Hid (mid ≤ g ∧ g < w4.heap.size ∧ n ≤ c3 ∧ c3 ≤ maxLen) := ⟨by have := HSM.out; omega, blk_lt hB, hcap, hmax⟩
    have hcap63 : c3 ≤ 9223372036854775807 := by unfold maxLen at hmax; omega
    have HB4 := hidL hB
    obtain ⟨x0, f0⟩ := at_block PA4.out 0 _ rfl
    obtain ⟨x1, f1⟩ := at_block PA4.out 1 _ rfl
    clear hg hB
    go_wp2
    go_loopw [16] (fun i wr => ∃ j : Nat, j ≤ n ∧ i = .int .i64 j ∧ ∃ (F : Nat → Nat → Value) (N : Nat → Nat → Prop), Hid (Blk wr g 45 6 c3 n F) ∧ Hid (PO ownC mid g wr d.checks j F N) ∧ Hid (∀ i, j ≤ i → i < n → ∀ c, c < 6 → F i c = C i c) ∧ Hid (Trn (fun b => b = g) w4 wr)) (fun i _ => n - (intOf i).toNat)
    case atStart => exact ⟨0, Nat.zero_le _, rfl, C, _, HB4.out, PO.start _ _ _ _ _ _, fun _ _ _ _ _ => rfl, Trn.refl _ _⟩
    case round =>
      obtain ⟨j, hj, rfl, F, N, HB, HPO, HRAW, HT⟩ := hrel
      have HSZ : Hid (w4.heap.size ≤ wr.heap.size) := HT.out.size
      have PAr := hidL ((HT.out.block _ (Array.getElem?_eq_some_iff.1 PA4.out).1 (by have := HSM.out; have := HG.out; omega)).trans PA4.out)
      have PRr := hidL ((HT.out.block _ (Array.getElem?_eq_some_iff.1 PR4.out).1 (by have := HSM.out; have := HG.out; omega)).trans PR4.out)
      clear x0 x1 f0 f1
      obtain ⟨x0, f0⟩ := at_block PAr.out 0 _ rfl
      obtain ⟨x1, f1⟩ := at_block PAr.out 1 _ rfl
      by_cases hjl : j < n
      · have hjl' : (j : Int) < (n : Int) := by omega
        obtain ⟨x, hx⟩ : ∃ x, d.checks[j]? = some x := ⟨_, List.getElem?_eq_getElem (by have := HNL.out; omega)⟩
        have HX := hidL hx
        have HBC : Hid (∀ c, c < 6 → wr.cell? ⟨g, j * 6 + c, none⟩ = some (F j c)) := fun c hc => by
          obtain ⟨cur, h1, _, h3⟩ := HB.out
          rw [cell_of_row wr g _ cur _ (0, 0) h1]
          exact h3 j hjl c hc
        obtain ⟨e0, e1, e2, e3, e4, e5⟩ := HC.out j x hx
        have HLX := hidL (HL.out.2.2 j x hx)
        clear hx
        obtain ⟨ma, mc, hmv⟩ := rv_shape e0
        obtain ⟨mn, hmn⟩ : ∃ mn, mn = x.name.length := ⟨_, rfl⟩
        rw [← hmn] at hmv
        have HMN := hidL hmn
        rw [hmv] at e0
        have HE0 := hidL e0
        clear hmn
        have cc0 := HBC.out 0 (by omega)
        rw [Nat.add_zero, HRAW.out j (Nat.le_refl _) hjl 0 (by omega), hmv] at cc0
        have cc1 := HBC.out 1 (by omega)
        rw [HRAW.out j (Nat.le_refl _) hjl 1 (by omega), e1] at cc1
        have cc2 := HBC.out 2 (by omega)
        rw [HRAW.out j (Nat.le_refl _) hjl 2 (by omega), e2] at cc2
        have cc3 := HBC.out 3 (by omega)
        rw [HRAW.out j (Nat.le_refl _) hjl 3 (by omega), e3] at cc3
        have cc4 := HBC.out 4 (by omega)
        rw [HRAW.out j (Nat.le_refl _) hjl 4 (by omega), e4] at cc4
        have cc5 := HBC.out 5 (by omega)
        rw [HRAW.out j (Nat.le_refl _) hjl 5 (by omega), e5] at cc5
        clear e0 e1 e2 e3 e4 e5
        go_upto_region 6 with fail
        generalize hU : World.alloc wr _ = U
        have XU : Ext wr U := by rw [← hU]; exact hE _ _
        have PU : U.heap[wr.heap.size]? = some (.cells #[.slice ma mn mc, .int .i64 x.ttl, .int .i64 x.most, .int .i64 x.st, .int .i64 x.age, .int .i64 x.fails] 45 (0, 0)) := by rw [← hU]; exact heap_alloc_new wr _
        clear hU
        have hgw : g ≠ w.heap.size := by have := HSM.out; have := HG.out; omega
        have hgu : g ≠ wr.heap.size := by have := HSZ.out; have := HG.out; omega
        have z1 := fun p => tw_cell (S := fun b => b = g) (World.grownBy.cell XU x1 (by simp)) (fun e => hgw e.symm) p
        have y0 := fun p => tw_cell (S := fun b => b = g) (at_block PU 0 _ rfl).1 (fun e => by omega) p
        have y1 := fun p => tw_cell (S := fun b => b = g) (at_block PU 1 _ rfl).1 (fun e => by omega) p
        have y2 := fun p => tw_cell (S := fun b => b = g) (at_block PU 2 _ rfl).1 (fun e => by omega) p
        have y3 := fun p => tw_cell (S := fun b => b = g) (at_block PU 3 _ rfl).1 (fun e => by omega) p
        have y4 := fun p => tw_cell (S := fun b => b = g) (at_block PU 4 _ rfl).1 (fun e => by omega) p
        have y5 := fun p => tw_cell (S := fun b => b = g) (at_block PU 5 _ rfl).1 (fun e => by omega) p
        have nonV := tw_ne (fun b => b = g) U
        have HBU : Hid (Blk U g 45 6 c3 n F) := blk_kept HB.out (XU.block g (blk_lt HB.out) (by simp))
        have HXU := hidL XU
        have HTU : Hid (Trn (fun b => b = g) w4 U) := HT.out.trans (Trn.ext XU)
        have HCALL : Hid (∀ V, Trn (fun b => b = g) U V → Calls Try.prog 55 #[.agg #[.slice ma mn mc, .int .i64 x.ttl, .int .i64 x.most, .int .i64 x.st, .int .i64 x.age, .int .i64 x.fails]] V fun e w' => ∃ ta tc, e = .returned (.agg #[.slice ta mn tc, .int .i64 x.ttl, .int .i64 x.most, .int .i64 x.st, .int .i64 x.age, .int .i64 x.fails]) ∧ OwS (Rg V.heap.size w'.heap.size) w' (.slice ta mn tc) x.name ∧ Below V.heap.size V w') := fun V t => by
          have bV : Below w.heap.size w V := Trn.below (Trn.below B4.out HTU.out (by have := HSM.out; omega) (fun b e => by have := HSM.out; have := HG.out; omega)) t (by have := HSM.out; have := HTU.out.size; omega) (fun b e => by have := HSM.out; have := HG.out; omega)
          refine (copyKV _ x V ⟨_, rfl, HE0.out.ext (ext_below bV)⟩ HLX.out).mono ?_
          rintro e w' ⟨tv, rfl, ho, hb⟩
          obtain ⟨ta, tc, rfl⟩ := rv_shape ho.rv
          rw [← HMN.out] at ho ⊢
          exact ⟨ta, tc, rfl, ows_of ho.1 ho.2 (Nat.le_refl _), hb⟩
        clear x0 x1 f0 f1 XU cc0 cc1 cc2 cc3 cc4 cc5 HBC PU
        have hgb : j * 6 + 6 ≤ c3 * 6 := by
          have := HG.out
          have h1 : (j + 1) * 6 ≤ c3 * 6 := Nat.mul_le_mul_right 6 (by omega)
          omega
        have hidx : (j : Int) < (n : Int) := hjl'
        refine wp_region_seg (S := fun w' => ∃ p : TW (fun b => b = g) U, w' = p.u) (by kernel_rfl) (tw_drew _ U) (fun hHeld => ?_)
        refine wpAnyH_seg 0 4 3 (by kernel_rfl) (by kernel_rfl) (by kernel_rfl) (by kernel_rfl) (fun _ _ _ _ _ h => h) hHeld ?_
        simp only [List.drop_zero, List.take_succ_cons, List.take_zero]
        repeat (go_big_quiet_step (fail))
        refine wpQuiet_nil ?_
        refine wpAnyH_one 4 2 (by kernel_rfl) (by kernel_rfl) rfl (fun K hK => ?_)
        go_simp
        go_at_call 55
        refine (HCALL.out _ (Trn.ext (ext_drewN U 1))).mono ?_
        rintro e w5 ⟨ta, tc, rfl, o5, b5⟩
        have BX : Ext U w5 := (ext_drewN U 1).tr (ext_below b5)
        dsimp only
        refine hK.out _ _ ⟨⟨w5, BX.os, BX.size, fun k hk _ => BX.block k hk (by simp)⟩, rfl⟩ (fun hHeld => ?_)
        clear hK K
        try simp only [Act.put, List.setIfInBounds_toArray, List.set_cons_zero, List.set_cons_succ]
        refine wpAnyH_seg 5 1 1 (by kernel_rfl) (by kernel_rfl) (by kernel_rfl) (by kernel_rfl) (fun _ _ _ _ _ h => h) hHeld ?_
        simp only [List.drop_succ_cons, List.drop_zero, List.take_succ_cons, List.take_zero]
        repeat (go_big_quiet_step (fail))
        refine wpQuiet_nil ?_
        have HB5 := blk_kept HBU.out (BX.block g (blk_lt HBU.out) (by simp))
        obtain ⟨⟨u0, d0⟩, f0⟩ := blk_cell HB5 (j * 6) (by omega)
        obtain ⟨⟨u1, d1⟩, f1⟩ := blk_cell HB5 (j * 6 + 1) (by omega)
        obtain ⟨⟨u2, d2⟩, f2⟩ := blk_cell HB5 (j * 6 + 2) (by omega)
        obtain ⟨⟨u3, d3⟩, f3⟩ := blk_cell HB5 (j * 6 + 3) (by omega)
        obtain ⟨⟨u4, d4⟩, f4⟩ := blk_cell HB5 (j * 6 + 4) (by omega)
        obtain ⟨⟨u5, d5⟩, f5⟩ := blk_cell HB5 (j * 6 + 5) (by omega)
        have HX5 := hidL BX
        have HPN : Hid (PO ownC mid g ((((((w5.setCell ⟨g, j * 6, none⟩ (.slice ta mn tc)).setCell ⟨g, j * 6 + 1, none⟩ (.int .i64 x.ttl)).setCell ⟨g, j * 6 + 2, none⟩ (.int .i64 x.most)).setCell ⟨g, j * 6 + 3, none⟩ (.int .i64 x.st)).setCell ⟨g, j * 6 + 4, none⟩ (.int .i64 x.age)).setCell ⟨g, j * 6 + 5, none⟩ (.int .i64 x.fails)) d.checks (j + 1) (fun i => if i = j then (fun c => if c = 0 then (.slice ta mn tc) else if c = 1 then (.int .i64 x.ttl) else if c = 2 then (.int .i64 x.most) else if c = 3 then (.int .i64 x.st) else if c = 4 then (.int .i64 x.age) else (.int .i64 x.fails)) else F i) (fun i => if i = j then (fun b => U.heap.size ≤ b ∧ b < w5.heap.size) else N i)) :=
          (HPO.out.ext keepsC HXU.out).next keepsC BX HX.out ⟨o5, rfl, rfl, rfl, rfl, rfl⟩ (fun b h => h) (by have := HSM.out; have := HTU.out.size; omega) (blk_lt HBU.out) (((((((Trn.refl (fun b => b = g) w5).trans (Trn.set (fun b => b = g) _ _ _ _ rfl)).trans (Trn.set (fun b => b = g) _ _ _ _ rfl)).trans (Trn.set (fun b => b = g) _ _ _ _ rfl)).trans (Trn.set (fun b => b = g) _ _ _ _ rfl)).trans (Trn.set (fun b => b = g) _ _ _ _ rfl)).trans (Trn.set (fun b => b = g) _ _ _ _ rfl))
        have HBN : Hid (Blk ((((((w5.setCell ⟨g, j * 6, none⟩ (.slice ta mn tc)).setCell ⟨g, j * 6 + 1, none⟩ (.int .i64 x.ttl)).setCell ⟨g, j * 6 + 2, none⟩ (.int .i64 x.most)).setCell ⟨g, j * 6 + 3, none⟩ (.int .i64 x.st)).setCell ⟨g, j * 6 + 4, none⟩ (.int .i64 x.age)).setCell ⟨g, j * 6 + 5, none⟩ (.int .i64 x.fails)) g 45 6 c3 n (fun i => if i = j then (fun c => if c = 0 then (.slice ta mn tc) else if c = 1 then (.int .i64 x.ttl) else if c = 2 then (.int .i64 x.most) else if c = 3 then (.int .i64 x.st) else if c = 4 then (.int .i64 x.age) else (.int .i64 x.fails)) else F i)) := by
          obtain ⟨cur, q1, q2, q3⟩ := (blk_put (blk_put (blk_put (blk_put (blk_put (blk_put HB5 j 0 (by omega) (by omega) (.slice ta mn tc)) j 1 (by omega) (by omega) (.int .i64 x.ttl)) j 2 (by omega) (by omega) (.int .i64 x.most)) j 3 (by omega) (by omega) (.int .i64 x.st)) j 4 (by omega) (by omega) (.int .i64 x.age)) j 5 (by omega) (by omega) (.int .i64 x.fails))
          refine ⟨cur, q1, q2, fun i hi c hc => ?_⟩
          rw [q3 i hi c hc]
          by_cases e : i = j
          · subst e
            obtain rfl | rfl | rfl | rfl | rfl | rfl : c = 0 ∨ c = 1 ∨ c = 2 ∨ c = 3 ∨ c = 4 ∨ c = 5 := by omega
            all_goals simp [updK]
          · simp [updK, e]
        have HTN : Hid (Trn (fun b => b = g) w4 ((((((w5.setCell ⟨g, j * 6, none⟩ (.slice ta mn tc)).setCell ⟨g, j * 6 + 1, none⟩ (.int .i64 x.ttl)).setCell ⟨g, j * 6 + 2, none⟩ (.int .i64 x.most)).setCell ⟨g, j * 6 + 3, none⟩ (.int .i64 x.st)).setCell ⟨g, j * 6 + 4, none⟩ (.int .i64 x.age)).setCell ⟨g, j * 6 + 5, none⟩ (.int .i64 x.fails))) := (HTU.out.trans (Trn.ext BX)).trans (((((((Trn.refl (fun b => b = g) w5).trans (Trn.set (fun b => b = g) _ _ _ _ rfl)).trans (Trn.set (fun b => b = g) _ _ _ _ rfl)).trans (Trn.set (fun b => b = g) _ _ _ _ rfl)).trans (Trn.set (fun b => b = g) _ _ _ _ rfl)).trans (Trn.set (fun b => b = g) _ _ _ _ rfl)).trans (Trn.set (fun b => b = g) _ _ _ _ rfl))
        clear HB5 BX b5
        refine wpAnyH_one 6 0 (by kernel_rfl) (by kernel_rfl) rfl (fun K hK => ?_)
        go_simp
        refine hK.out _ _ ⟨⟨((((((w5.setCell ⟨g, j * 6, none⟩ (.slice ta mn tc)).setCell ⟨g, j * 6 + 1, none⟩ (.int .i64 x.ttl)).setCell ⟨g, j * 6 + 2, none⟩ (.int .i64 x.most)).setCell ⟨g, j * 6 + 3, none⟩ (.int .i64 x.st)).setCell ⟨g, j * 6 + 4, none⟩ (.int .i64 x.age)).setCell ⟨g, j * 6 + 5, none⟩ (.int .i64 x.fails)), (HTN.out.os.trans HTU.out.os.symm), (by simpa using HX5.out.size), fun k hk hn => ((((((((((Trn.refl (fun b => b = g) w5).trans (Trn.set (fun b => b = g) _ _ _ _ rfl)).trans (Trn.set (fun b => b = g) _ _ _ _ rfl)).trans (Trn.set (fun b => b = g) _ _ _ _ rfl)).trans (Trn.set (fun b => b = g) _ _ _ _ rfl)).trans (Trn.set (fun b => b = g) _ _ _ _ rfl)).trans (Trn.set (fun b => b = g) _ _ _ _ rfl)) : Trn (fun b => b = g) w5 _).block k (Nat.lt_of_lt_of_le hk HX5.out.size) hn).trans (HX5.out.block k hk (by simp)))⟩, rfl⟩ (fun hHeld => ?_)
        clear hK K
        try simp only [Act.put, List.setIfInBounds_toArray, List.set_cons_zero, List.set_cons_succ]
        refine wpAnyH_endN (by kernel_rfl) ?_
        have HRN : Hid (∀ i, j + 1 ≤ i → i < n → ∀ c, c < 6 → (fun i => if i = j then (fun c => if c = 0 then (.slice ta mn tc) else if c = 1 then (.int .i64 x.ttl) else if c = 2 then (.int .i64 x.most) else if c = 3 then (.int .i64 x.st) else if c = 4 then (.int .i64 x.age) else (.int .i64 x.fails)) else F i) i c = C i c) := fun i hi hn c hc => by
          show (if i = j then _ else F i) c = _
          rw [if_neg (by omega)]
          exact HRAW.out i (by omega) hn c hc
        clear nonV z1 y0 y1 y2 y3 y4 y5 d0 f0 d1 f1 d2 f2 d3 f3 d4 f4 d5 f5 HCALL
        go_wp2
        go_roundw
        case rel => exact ⟨j + 1, by omega, by go_num, _, _, HBN, HPN, HRN, HTN⟩
        case measure => simp [intOf]; omega
      · have hjn : j = n := by omega
        subst hjn
        have hbw : Below w.heap.size w wr := Trn.below B4.out HT.out (by have := HSM.out; omega) (fun b e => by have := HSM.out; have := HG.out; omega)
        have HPD := HPO.out
        rw [HNL.out] at HPD
        have HBD := HB.out
        rw [HNL.out] at HBD
        have HOW := HPD.done (T := 45) (K := 6) HG.out.1 HBD (by have := HG.out; have := HNL.out; omega) HG.out.2.2.2
        rw [← HNL.out] at HOW
        have HW := hidL (HFIN.out wr hbw (O4.out.keep HT.out (fun b hb e => by have := HG.out; have := hb.2; omega)) PRr.out (by have := HSM.out; have := HSZ.out; omega) HOW)
        obtain ⟨r0, k0⟩ := at_block PRr.out 0 _ rfl
        obtain ⟨r1, k1⟩ := at_block PRr.out 1 _ rfl
        clear HPD HBD HOW
        go_wp2
        refine bodyPost_ret (v := .agg #[.slice a1 nn c1, .slice (some ⟨g, 0, none⟩) j c3]) (by simp [results, Try.results68, go_sem, *]) rfl ?_
        exact HW.out

end Go.Proofs.Ytpnachakijpjkaa
