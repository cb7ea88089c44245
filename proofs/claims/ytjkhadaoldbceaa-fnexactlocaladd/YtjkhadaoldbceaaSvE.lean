
/- Copies of services whose parts lie apart. -/
import Derived.Test.YtjkhadaoldbceaaSvD
namespace Go.Proofs.Ytjkhadaoldbceaa
open Go.RowKit

theorem OKD.mono {S T : Nat → Prop} {w : World} {v : Value} {cs : List DChk} (h : OKD S w v cs) (k : ∀ x, S x → T x) : OKD T w v cs := by
  rcases h with h | ⟨g, cap, F, N, hv, hl, hm, hg, hB, hN, hS, hF⟩
  · exact .inl h
  · exact .inr ⟨g, cap, F, N, hv, hl, hm, k g hg, hB, hN, fun i b hb => ⟨k b (hS i b hb).1, (hS i b hb).2⟩, hF⟩
theorem OSD.mono {S T : Nat → Prop} {w : World} {v : Value} {ss : List DSvc} (h : OSD S w v ss) (k : ∀ x, S x → T x) : OSD T w v ss := by
  rcases h with h | ⟨g, cap, F, N, hv, hl, hm, hg, hB, hN, hS, hF⟩
  · exact .inl h
  · exact .inr ⟨g, cap, F, N, hv, hl, hm, k g hg, hB, hN, fun i b hb => ⟨k b (hS i b hb).1, (hS i b hb).2⟩, hF⟩

set_option maxHeartbeats 2000000 in
theorem toSvcD (v : Value) (d : DSvc) (w : World) (h : VSvc w v d) (hl : LenSv d) :
    Calls Try.prog 47 #[v] w fun e w' => ∃ a c b mid, e = .returned (.agg #[.slice a d.name.length c, .slice (some ⟨b, 0, none⟩) d.checks.length d.checks.length]) ∧ OwS (Rg w.heap.size mid) w' (.slice a d.name.length c) d.name ∧ OKD (Rg mid w'.heap.size) w' (.slice (some ⟨b, 0, none⟩) d.checks.length d.checks.length) d.checks ∧ (w.heap.size ≤ mid ∧ mid ≤ w'.heap.size) ∧ Below w.heap.size w w' := by
  obtain ⟨nv, cv, rfl, hn, hc⟩ := h
  have HR : Hid (∀ x ∈ d.name, 0 ≤ x ∧ x ≤ 255) := rv_rngK hn
  have HL : Hid (LenSv d) := hl
  obtain ⟨n, hnn⟩ : ∃ n, n = d.name.length := ⟨_, rfl⟩
  have HN : Hid (n = d.name.length) := hnn
  obtain ⟨m, hmm⟩ : ∃ m, m = d.checks.length := ⟨_, rfl⟩
  have HM : Hid (m = d.checks.length) := hmm
  obtain ⟨na, nc, hnv⟩ := rv_shape hn
  obtain ⟨ca, cc, hcv⟩ := chks_shape hc
  rw [← hnn] at hnv ⊢
  rw [← hmm] at hcv ⊢
  subst hnv
  subst hcv
  clear hnn hmm hl
  have HNV := (show Hid (RV w (.slice na n nc) d.name) from hn)
  have HCV := (show Hid (VChks w (.slice ca m cc) d.checks) from hc)
  clear hn hc
  go_enter Try.func47, Try.ntmps47
  go_wp2_with fail
  generalize hV : World.alloc (World.alloc (World.alloc w _) _) _ = V
  have HB0 : Below w.heap.size w V := by
    rw [← hV]
    exact (((Below.refl _ w).alloc (Nat.le_refl _) _).alloc (by simp) _).alloc (by simp; omega) _
  have A0 : V.heap[w.heap.size]? = some (.cells #[.slice na n nc, .slice ca m cc] 68 (0, 0)) := by
    rw [← hV, Below.heap_alloc _ _ _ (by simp; omega), Below.heap_alloc _ _ _ (by simp)]; exact heap_alloc_new w _
  have A1 : V.heap[w.heap.size + 1]? = some (.cells #[.slice none 0 0, .slice none 0 0] 54 (0, 0)) := by
    rw [← hV, Below.heap_alloc _ _ _ (by simp)]; simpa using heap_alloc_new (World.alloc w _) (.cells #[.slice none 0 0, .slice none 0 0] 54 (0, 0))
  have A2 : V.heap[w.heap.size + 1 + 1]? = some (.cells #[.slice none 0 0, .slice none 0 0] 54 (0, 0)) := by
    rw [← hV]; simpa using heap_alloc_new (World.alloc (World.alloc w _) _) (.cells #[.slice none 0 0, .slice none 0 0] 54 (0, 0))
  have HSZ : Hid (w.heap.size + 2 < V.heap.size) := (Array.getElem?_eq_some_iff.1 A2).1
  clear hV
  refine (toV _ d.name V (HNV.out.ext (ext_below HB0)) HL.out.1).mono ?_
  rintro e w1 ⟨v1, rfl, o1, b1⟩
  obtain ⟨a1, c1, rfl, _, _, _⟩ := Ow.rv o1 HR.out
  rw [← HN.out] at o1 ⊢
  have A0' := ext_blk (ext_below b1) A0
  have A1' := ext_blk (ext_below b1) A1
  have A2' := ext_blk (ext_below b1) A2
  have HO1 : Hid (Ow w1 V.heap.size (.slice a1 n c1) d.name) := o1
  have HX1 : Hid (Ext w w1) := (ext_below HB0).tr (ext_below b1)
  have HS1 : Hid (V.heap.size ≤ w1.heap.size) := b1.size
  clear A0 A1 A2 b1 HB0 o1
  obtain ⟨z0, y0⟩ := at_block A2' 0 _ rfl
  obtain ⟨x1, _⟩ := at_block A0' 1 _ rfl
  have HU : Hid (∀ U, U = w1.setCell ⟨w.heap.size + 1 + 1, 0, none⟩ (.slice a1 n c1) → Below w.heap.size w U ∧ U.heap[w.heap.size]? = some (.cells #[.slice na n nc, .slice ca m cc] 68 (0, 0)) ∧ U.heap[w.heap.size + 1]? = some (.cells #[.slice none 0 0, .slice none 0 0] 54 (0, 0)) ∧ U.heap[w.heap.size + 1 + 1]? = some (.cells #[.slice a1 n c1, .slice none 0 0] 54 (0, 0)) ∧ Ow U V.heap.size (.slice a1 n c1) d.name) := fun U hU => by
    subst hU
    exact ⟨(ext_bel HX1.out).setCell (Nat.le_trans (Nat.le_succ _) (Nat.le_succ _)) _, set_other _ _ _ (by omega) A0', set_other _ _ _ (by omega) A1', set_block A2' 0 _, ow_set HO1.out (by have := HSZ.out; omega)⟩
  clear A0' A1' A2'
  go_upto_region 3 with fail
  generalize hU : w1.setCell _ _ = U
  obtain ⟨BU, B0, B1, B2, O1⟩ := HU.out U hU.symm
  clear hU HU z0 y0 x1
  have HSU : Hid (w.heap.size + 2 < U.heap.size) := (Array.getElem?_eq_some_iff.1 B2).1
  have HO2 := (show Hid (Ow U V.heap.size (.slice a1 n c1) d.name) from O1)
  have HBU := (show Hid (Below w.heap.size w U) from BU)
  clear O1 BU HO1 HX1 HS1
  obtain ⟨x1, _⟩ := at_block B0 1 _ rfl
  go_wp2_with fail
  refine (toS_KD _ d.checks U (HCV.out.ext (ext_below HBU.out)) HL.out.2.1 HL.out.2.2).mono ?_
  rintro e w2 ⟨b5, rfl, o2, b2⟩
  rw [← HM.out] at o2 ⊢
  have HUS : Hid (U.heap.size ≤ w2.heap.size) := b2.size
  have D1 := ext_blk (ext_below b2) B1
  have D2 := ext_blk (ext_below b2) B2
  have HO3 : Hid (OwS (Rg w.heap.size U.heap.size) w2 (.slice a1 n c1) d.name ∧ OKD (Rg U.heap.size w2.heap.size) w2 (.slice (some ⟨b5, 0, none⟩) m m) d.checks ∧ Below w.heap.size w w2) := ⟨((ows_of HO2.out HR.out (Nat.le_refl _)).mono (fun b hb => ⟨by have := HSZ.out; have := hb.1; omega, hb.2⟩)).ext (ext_below b2), o2, HBU.out.trans (b2.mono HBU.out.size)⟩
  have HNM : Hid (∀ b, (Value.slice a1 n c1).ownBlock = some b → V.heap.size ≤ b) := fun b hb => (World.ownsRow.lt HO2.out b hb).1
  obtain ⟨q0, _⟩ := at_block D1 0 _ rfl
  obtain ⟨q1, k1⟩ := at_block D1 1 _ rfl
  obtain ⟨r0, f0⟩ := at_block D2 0 _ rfl
  obtain ⟨r1, f1⟩ := at_block D2 1 _ rfl
  clear x1 B0 B1 B2 o2 b2 D1 D2 HO2 HBU
  have HFIN : Hid (∀ W, w2.grownBy W (some (w.heap.size + 1 + 1)) → ∀ W', W.grownBy W' (some (w.heap.size + 1)) → OwS (Rg w.heap.size U.heap.size) W' (.slice a1 n c1) d.name ∧ OKD (Rg U.heap.size W'.heap.size) W' (.slice (some ⟨b5, 0, none⟩) m m) d.checks ∧ (w.heap.size ≤ U.heap.size ∧ U.heap.size ≤ W'.heap.size) ∧ Below w.heap.size w W') := fun W k W' k' => by
    have h1 := HSZ.out
    have h2 := HSU.out
    have T : Trn (fun b => b = w.heap.size + 1 + 1 ∨ b = w.heap.size + 1) w2 W' := (Trn.one k (fun x e => by cases e; exact .inl rfl)).trans (Trn.one k' (fun x e => by cases e; exact .inr rfl))
    have N : OwS (fun b => V.heap.size ≤ b ∧ b < U.heap.size) w2 (.slice a1 n c1) d.name := ⟨HO3.out.1.1, fun b hb => ⟨HNM.out b hb, (HO3.out.1.2 b hb).2⟩⟩
    have hs2 := HUS.out
    have ts := T.size
    refine ⟨(N.keep T (fun b hb e => by have := hb.1; omega)).mono (fun b hb => ⟨by have := hb.1; omega, hb.2⟩), (HO3.out.2.1.keep T (fun b hb e => by have := hb.1; omega)).mono (fun b hb => ⟨hb.1, by have := hb.2; omega⟩), ⟨by omega, by omega⟩, (HO3.out.2.2.grown k HO3.out.2.2.size (fun j hj => by cases hj; omega)).grown k' (Nat.le_trans HO3.out.2.2.size k.size) (fun j hj => by cases hj; omega)⟩
  clear HO3 HSU HSZ HNM HUS
  go_wp2
  refine bodyPost_ret (v := .agg #[.slice a1 n c1, .slice (some ⟨b5, 0, none⟩) m m]) (by simp [results, Try.results47, go_sem, *]) rfl ?_
  have HR3 := HFIN.out _ (set_grown w2 (w.heap.size + 1 + 1) 1 (.slice (some ⟨b5, 0, none⟩) m m)) _ ((set_grown _ (w.heap.size + 1) 0 (.slice a1 n c1)).trans (set_grown _ _ 1 (.slice (some ⟨b5, 0, none⟩) m m)))
  exact ⟨a1, c1, b5, _, rfl, HR3.1, HR3.2.1, HR3.2.2.1, HR3.2.2.2⟩

set_option maxHeartbeats 4000000 in
theorem toS_SvD (v : Value) (ss : List DSvc) (w : World) (h : VSvcs w v ss) (hn : ss.length ≤ 1048576) (hlen : ∀ (i : Nat) (s : DSvc), ss[i]? = some s → LenSv s) :
    Calls Try.prog 27 #[v] w fun e w' => ∃ b, e = .returned (.slice (some ⟨b, 0, none⟩) ss.length ss.length) ∧ OSD (Rg w.heap.size w'.heap.size) w' (.slice (some ⟨b, 0, none⟩) ss.length ss.length) ss ∧ Below w.heap.size w w' := by
  obtain ⟨C, ⟨a, cap, rfl, h1, h2, h3⟩, hC⟩ := h
  have HC : Hid (∀ i d, ss[i]? = some d → RV w (C i 0) d.name ∧ VChks w (C i 1) d.checks) := hC
  clear hC
  obtain ⟨n, hnn⟩ : ∃ n, n = ss.length := ⟨_, rfl⟩
  rw [← hnn] at h1 h3 hn ⊢
  have HN : Hid (n = ss.length) := hnn
  clear hnn
  have H3 : Hid (0 < n → ∃ b o, a = some ⟨b, o, none⟩ ∧ b < w.heap.size ∧ ∀ i, i < n → ∀ j, j < 2 → w.cell? ⟨b, o + i * 2 + j, none⟩ = some (C i j)) := h3
  clear h3
  have HLN : Hid (∀ (i : Nat) (s : DSvc), ss[i]? = some s → LenSv s) := hlen
  clear hlen
  obtain ⟨i0, hi, hz0, hz1, hz2⟩ := info_parts info_Sv
  have hml : n ≤ maxLen := by unfold maxLen; omega
  have hml2 : (n : Int) ≤ 1048576 := by omega
  go_enter Try.func27, Try.ntmps27
  go_wp2_with (at_make; refine wpList_make_full _ rfl _ _ 27 rfl w.heap.size 54 i0 (.agg #[.slice none 0 0, .slice none 0 0]) 2 Try.underlying27 hi hz0 hz1 _ _ _ _ n rfl rfl rfl rfl ?b1 ?b2 ?b3 ?_)
  case b1 => rw [hz2]; omega
  case b2 => exact hml
  case b3 => exact Nat.le_refl _
  intro w1 hown hgr
  have hb1 : Below w.heap.size w w1 := (Below.refl _ _).grown hgr (Nat.le_refl _) (fun k hk => by cases hk)
  have hbk := blk_made (F := fun _ _ => .bool true) hown
  clear hown hgr
  go_wp2
  go_loopw [4] (fun i wr => ∃ k : Nat, k ≤ n ∧ i = .int .i64 k ∧ Below w.heap.size w wr ∧ ∃ (F : Nat → Nat → Value) (lo : Nat → Nat), Blk wr w.heap.size 54 2 n k F ∧ Hid (w.heap.size < lo 0 ∧ (∀ i, i < 2 * k → lo i ≤ lo (i + 1)) ∧ lo (2 * k) ≤ wr.heap.size) ∧ Hid (∀ i s, i < k → ss[i]? = some s → OwS (Rg (lo (2 * i)) (lo (2 * i + 1))) wr (F i 0) s.name ∧ OKD (Rg (lo (2 * i + 1)) (lo (2 * i + 2))) wr (F i 1) s.checks)) (fun i _ => n - (intOf i).toNat)
  case atStart => exact ⟨0, Nat.zero_le _, rfl, hb1, _, fun _ => w.heap.size + 1, hbk, ⟨Nat.lt_succ_self _, fun i hi => absurd hi (by omega), blk_lt hbk⟩, fun i s hi => absurd hi (by omega)⟩
  case round =>
    obtain ⟨k, hk, rfl, hb, F, lo, hF, hlo, hall⟩ := hrel
    clear hbk hb1
    by_cases hlt : k < n
    · obtain ⟨b, o, rfl, hbl, hc⟩ := H3.out (by omega)
      obtain ⟨s, hs⟩ : ∃ s, ss[k]? = some s := ⟨_, List.getElem?_eq_getElem (by have := HN.out; omega)⟩
      obtain ⟨e0, e1⟩ := HC.out k s hs
      have X := ext_below hb
      have c0 := World.grownBy.cell X (hc k hlt 0 (by omega)) (by simp)
      rw [Nat.add_zero] at c0
      have cr := e0.ext X
      obtain ⟨ca, cc, cx⟩ := rv_shape cr
      rw [cx] at cr c0
      have c1 := World.grownBy.cell X (hc k hlt 1 (by omega)) (by simp)
      have ck := e1.ext X
      obtain ⟨cb, cd, cy⟩ := chks_shape ck
      rw [cy] at ck c1
      have hlt' : (k : Int) < (n : Int) := by omega
      clear hc
      go_wp2_with fail
      refine (toSvcD _ s wr ⟨_, _, rfl, cr, ck⟩ (HLN.out k s hs)).mono ?_
      rintro e w2 ⟨a5, p5, b5, mid, rfl, ok, oc, hmid, b2⟩
      obtain ⟨lo2, hlo2⟩ : ∃ lo2 : Nat → Nat, lo2 = fun i => if i ≤ 2 * k then lo i else if i = 2 * k + 1 then mid else w2.heap.size := ⟨_, rfl⟩
      have l_old : ∀ i, i ≤ 2 * k → lo2 i = lo i := fun i hi => by rw [hlo2]; exact if_pos hi
      have l_mid : lo2 (2 * k + 1) = mid := by rw [hlo2]; show (if 2 * k + 1 ≤ 2 * k then _ else if 2 * k + 1 = 2 * k + 1 then mid else _) = _; rw [if_neg (by omega), if_pos rfl]
      have l_end : lo2 (2 * k + 2) = w2.heap.size := by rw [hlo2]; show (if 2 * k + 2 ≤ 2 * k then _ else if 2 * k + 2 = 2 * k + 1 then mid else _) = _; rw [if_neg (by omega), if_neg (by omega)]
      have HLO : Hid (w.heap.size < lo2 0 ∧ (∀ i, i < 2 * (k + 1) → lo2 i ≤ lo2 (i + 1)) ∧ lo2 (2 * (k + 1)) ≤ w2.heap.size) := by
        refine ⟨by rw [l_old 0 (by omega)]; exact hlo.out.1, fun i hi => ?_, by rw [show 2 * (k + 1) = 2 * k + 2 by omega, l_end]; exact Nat.le_refl _⟩
        have h3 := hlo.out.2.2
        rcases Nat.lt_trichotomy i (2 * k) with h | h | h
        · rw [l_old i (by omega), l_old (i + 1) (by omega)]; exact hlo.out.2.1 i h
        · subst h; rw [l_old _ (Nat.le_refl _), l_mid]; omega
        · have e : i = 2 * k + 1 := by omega
          subst e
          rw [l_mid, l_end]
          exact hmid.2
      have hF2 := blk_kept hF (b2.block _ (blk_lt hF))
      have hgl := blk_lt hF
      have hb2 := hb.trans (b2.mono hb.size)
      obtain ⟨⟨u0, d0⟩, f0⟩ := blk_cell hF2 (k * 2) (by omega)
      obtain ⟨⟨u1, d1⟩, f1⟩ := blk_cell hF2 (k * 2 + 1) (by omega)
      have G := blk_next (blk_set (blk_set hF2 (k * 2) (by omega) (.slice a5 s.name.length p5)) (k * 2 + 1) (by omega) (.slice (some ⟨b5, 0, none⟩) s.checks.length s.checks.length)) (fun j => if j = 0 then .slice a5 s.name.length p5 else .slice (some ⟨b5, 0, none⟩) s.checks.length s.checks.length) (fun j hj => by
        have hj : j = 0 ∨ j = 1 := by omega
        rcases hj with rfl | rfl <;> simp [*, go_sem])
      have HG : Hid (Blk ((w2.setCell ⟨w.heap.size, k * 2, none⟩ (.slice a5 s.name.length p5)).setCell ⟨w.heap.size, k * 2 + 1, none⟩ (.slice (some ⟨b5, 0, none⟩) s.checks.length s.checks.length)) w.heap.size 54 2 n (k + 1) (fun i j => if i = k then (if j = 0 then .slice a5 s.name.length p5 else .slice (some ⟨b5, 0, none⟩) s.checks.length s.checks.length) else F i j)) := G
      have HBF : Hid (Below w.heap.size w ((w2.setCell ⟨w.heap.size, k * 2, none⟩ (.slice a5 s.name.length p5)).setCell ⟨w.heap.size, k * 2 + 1, none⟩ (.slice (some ⟨b5, 0, none⟩) s.checks.length s.checks.length))) := ((hb2.setCell (Nat.le_refl _) _).setCell (Nat.le_refl _) _)
      have TS : Trn (fun b => b = w.heap.size) w2 ((w2.setCell ⟨w.heap.size, k * 2, none⟩ (.slice a5 s.name.length p5)).setCell ⟨w.heap.size, k * 2 + 1, none⟩ (.slice (some ⟨b5, 0, none⟩) s.checks.length s.checks.length)) := ((Trn.refl (fun b => b = w.heap.size) w2).trans (Trn.set _ _ _ _ _ rfl)).trans (Trn.set _ _ _ _ _ rfl)
      have HA : Hid (∀ i r, i < k + 1 → ss[i]? = some r → OwS (Rg (lo2 (2 * i)) (lo2 (2 * i + 1))) ((w2.setCell ⟨w.heap.size, k * 2, none⟩ (.slice a5 s.name.length p5)).setCell ⟨w.heap.size, k * 2 + 1, none⟩ (.slice (some ⟨b5, 0, none⟩) s.checks.length s.checks.length)) ((fun i j => if i = k then (if j = 0 then .slice a5 s.name.length p5 else .slice (some ⟨b5, 0, none⟩) s.checks.length s.checks.length) else F i j) i 0) r.name ∧ OKD (Rg (lo2 (2 * i + 1)) (lo2 (2 * i + 2))) ((w2.setCell ⟨w.heap.size, k * 2, none⟩ (.slice a5 s.name.length p5)).setCell ⟨w.heap.size, k * 2 + 1, none⟩ (.slice (some ⟨b5, 0, none⟩) s.checks.length s.checks.length)) ((fun i j => if i = k then (if j = 0 then .slice a5 s.name.length p5 else .slice (some ⟨b5, 0, none⟩) s.checks.length s.checks.length) else F i j) i 1) r.checks) := fun i r hi hr => by
        have h00 := HLO.out.1
        have nA : ∀ c b x, c ≤ 2 * (k + 1) → Rg (lo2 c) x b → ¬ b = w.heap.size := fun c b x hc hb e => by
          have h1 := lo_mono HLO.out.2.1 c hc
          have := hb.1
          omega
        by_cases e : i = k
        · subst e
          rw [hs] at hr
          cases hr
          have h3 := hlo.out.2.2
          have O := (ok.mono (T := Rg (lo2 (2 * i)) (lo2 (2 * i + 1))) (fun b hb => ⟨by rw [l_old _ (Nat.le_refl _)]; have := hb.1; omega, by rw [l_mid]; exact hb.2⟩)).keep TS (fun b hb => nA _ b _ (by omega) hb)
          have C := (oc.mono (T := Rg (lo2 (2 * i + 1)) (lo2 (2 * i + 2))) (fun b hb => ⟨by rw [l_mid]; exact hb.1, by rw [l_end]; exact hb.2⟩)).keep TS (fun b hb => nA _ b _ (by omega) hb)
          exact ⟨by simpa using O, by simpa using C⟩
        · have hi2 : i < k := by omega
          obtain ⟨q0, q1⟩ := hall.out i r hi2 hr
          have e0 := l_old (2 * i) (by omega)
          have e1 := l_old (2 * i + 1) (by omega)
          have e2 := l_old (2 * i + 2) (by omega)
          rw [← e0, ← e1] at q0
          rw [← e1, ← e2] at q1
          simp only [if_neg e]
          exact ⟨(q0.ext (ext_below b2)).keep TS (fun b hb => nA _ b _ (by omega) hb), (q1.ext (ext_below b2)).keep TS (fun b hb => nA _ b _ (by omega) hb)⟩
      have HSZ := (show Hid (w2.heap.size ≤ ((w2.setCell ⟨w.heap.size, k * 2, none⟩ (.slice a5 s.name.length p5)).setCell ⟨w.heap.size, k * 2 + 1, none⟩ (.slice (some ⟨b5, 0, none⟩) s.checks.length s.checks.length)).heap.size) from TS.size)
      clear TS ok oc hlo l_old l_mid l_end hlo2 hmid
      clear hb hF hall G hb2 hF2 b2
      go_wp2
      go_roundw
      case rel => exact ⟨k + 1, by omega, by go_num, HBF.out, _, lo2, HG.out, ⟨HLO.out.1, HLO.out.2.1, Nat.le_trans HLO.out.2.2 HSZ.out⟩, HA⟩
      case measure => simp [intOf]; omega
    · have hkn : k = n := by omega
      subst hkn
      go_wp2
      go_ret
      refine ⟨_, rfl, .inr ⟨w.heap.size, k, F, fun i b => i < 2 * k ∧ Rg (lo i) (lo (i + 1)) b, ?_, ?_, hml, ⟨Nat.le_refl _, blk_lt hF⟩, by rw [← HN.out]; exact hF, ?_, ?_, ?_⟩, hb⟩
      · rw [← HN.out]
      · rw [← HN.out]; exact Nat.le_refl _
      · intro i j b hij h1 h2
        have m1 := lo_mono2 hlo.out.2.1
        rcases Nat.lt_or_ge i j with h | h
        · have := m1 (i + 1) j (by omega) (by omega); have := h1.2.2; have := h2.2.1; omega
        · have := m1 (j + 1) i (by omega) (by omega); have := h2.2.2; have := h1.2.1; omega
      · intro i b h1
        have m0 := lo_mono hlo.out.2.1 i (by omega)
        have m1 := lo_mono2 hlo.out.2.1 (i + 1) (2 * k) (by omega) (Nat.le_refl _)
        have := h1.2.1
        have := h1.2.2
        have := hlo.out.1
        have := hlo.out.2.2
        refine ⟨⟨by omega, by omega⟩, by omega⟩
      · intro i s hs
        have hi : i < k := by have := (List.getElem?_eq_some_iff.1 hs).1; have := HN.out; omega
        obtain ⟨q0, q1⟩ := hall.out i s hi hs
        exact ⟨q0.mono (fun b hb => ⟨by omega, hb⟩), q1.mono (fun b hb => ⟨by omega, hb⟩)⟩

end Go.Proofs.Ytjkhadaoldbceaa
