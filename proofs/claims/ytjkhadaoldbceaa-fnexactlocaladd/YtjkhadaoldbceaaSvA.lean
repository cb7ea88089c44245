
/- Services: sized, copied, held against one another. -/
import Derived.Test.YtjkhadaoldbceaaSvK
import Derived.Test.YtjkhadaoldbceaaElG
import Derived.Deep.CutRange
namespace Go.Proofs.Ytjkhadaoldbceaa
open Go.RowKit

theorem rv_shape {w : World} {v : Value} {xs : List Int} (h : RV w v xs) : ∃ a c, v = .slice a xs.length c := by
  obtain ⟨a, c, h1, _⟩ := h
  exact ⟨a, c, h1⟩
structure DSvc where
  name : List Int
  checks : List DChk
def VSvc (w : World) (v : Value) (d : DSvc) : Prop := ∃ nv cv, v = .agg #[nv, cv] ∧ RV w nv d.name ∧ VChks w cv d.checks
/-- The slice v reads as the services rs. -/
def VSvcs (w : World) (v : Value) (rs : List DSvc) : Prop := ∃ C, SL w 2 v rs.length C ∧ ∀ i d, rs[i]? = some d → RV w (C i 0) d.name ∧ VChks w (C i 1) d.checks
theorem VSvcs.ext {w w' : World} {v : Value} {rs : List DSvc} (h : VSvcs w v rs) (e : Ext w w') : VSvcs w' v rs := by
  obtain ⟨C, h1, h2⟩ := h
  refine ⟨C, h1.ext e, fun i d hd => ?_⟩
  obtain ⟨e0, e1⟩ := h2 i d hd
  exact ⟨e0.ext e, e1.ext e⟩
def zSv (s : DSvc) : Nat := s.name.length + (s.checks.length + sK s.checks)
def sSv (rs : List DSvc) : Nat := (rs.map zSv).sum
/-- It is not too long to be copied. -/
def LenSv (s : DSvc) : Prop := s.name.length ≤ 1048576 ∧ s.checks.length ≤ 1048576 ∧ ∀ (i : Nat) (c : DChk), s.checks[i]? = some c → c.name.length ≤ 1048576
theorem lenSv_of {s : DSvc} (h : zSv s ≤ 1048576) : LenSv s := by
  unfold zSv at h
  refine ⟨by omega, by omega, fun i c hc => ?_⟩
  have h1 := sum_mem zK s.checks i c hc
  have h2 : (s.checks.map zK).sum = sK s.checks := rfl
  have h3 : zK c = c.name.length := rfl
  omega
def rngSv (s : DSvc) : Prop := (∀ x ∈ s.name, 0 ≤ x ∧ x ≤ 255) ∧ rngKs s.checks
def rngSvs (ss : List DSvc) : Prop := ∀ (i : Nat) (s : DSvc), ss[i]? = some s → rngSv s
theorem rngSvs_of {w : World} {v : Value} {ss : List DSvc} (h : VSvcs w v ss) : rngSvs ss := fun i s hs => by
  obtain ⟨C, _, hC⟩ := h
  exact ⟨rv_rngK (hC i s hs).1, rngKs_of (hC i s hs).2⟩

set_option maxHeartbeats 2000000 in
theorem szSvc (v : Value) (d : DSvc) (l : Int) (w : World) (h : VSvc w v d) (hl0 : 0 ≤ l) (hl : l ≤ 1048576) :
    Calls Try.prog 42 #[v, .int .i64 l] w (SzPost l (zSv d) w) := by
  have hE : ∀ w : World, ∀ o, Ext w (w.alloc o) := fun w o => World.grownBy_alloc _ _ _
  have hB : ∀ w : World, ∀ o, Below w.heap.size w (w.alloc o) := fun w o => (Below.refl _ w).alloc (Nat.le_refl _) _
  obtain ⟨nv, cv, rfl, hn, hc⟩ := h
  have HZ : Hid (zSv d = d.name.length + (d.checks.length + sK d.checks)) := rfl
  obtain ⟨z, hz⟩ : ∃ z, z = zSv d := ⟨_, rfl⟩
  obtain ⟨q, hq⟩ : ∃ q, q = d.checks.length + sK d.checks := ⟨_, rfl⟩
  have HZ2 : Hid (z = d.name.length + q) := by show _ = _; rw [hz, HZ.out, hq]
  have HQ : Hid (q = d.checks.length + sK d.checks) := hq
  rw [← hz]
  clear hz hq HZ
  by_cases h1 : l - d.name.length < 0
  · go_enter Try.func42, Try.ntmps42
    go_wp2_with fail
    refine (szB nv d.name l _ (hn.ext (hE _ _)) hl0 hl).mono ?_
    rintro e w1 ⟨rfl, rfl⟩
    rw [if_pos (by omega)]
    go_wp2
    go_ret
    exact ⟨-1, rfl, .inl ⟨by have := HZ2.out; omega, rfl⟩, hB _ _⟩
  · go_enter Try.func42, Try.ntmps42
    go_wp2_with fail
    refine (szB nv d.name l _ (hn.ext (hE _ _)) hl0 hl).mono ?_
    rintro e w1 ⟨rfl, rfl⟩
    rw [if_neg (by omega)]
    have hl2 : 0 ≤ l - (d.name.length : Int) := by omega
    have hl3 : l - (d.name.length : Int) ≤ 1048576 := by omega
    obtain ⟨l2, hl2e⟩ : ∃ l2, l2 = l - (d.name.length : Int) := ⟨_, rfl⟩
    have HL2 : Hid (l2 = l - (d.name.length : Int)) := hl2e
    rw [← hl2e] at hl2 hl3 ⊢
    clear hl2e
    go_wp2_with fail
    refine (szS_K cv d.checks l2 _ (hc.ext (hE _ _)) hl2 hl3).mono ?_
    rintro e w2 ⟨r, rfl, hr, b2⟩
    rw [← HQ.out] at hr
    have B2 := (hB w _).trans (b2.mono (by simp))
    rcases hr with ⟨g1, rfl⟩ | ⟨g1, g2⟩
    · go_wp2
      go_ret
      exact ⟨-1, rfl, .inl ⟨by have := HZ2.out; have := HL2.out; omega, rfl⟩, B2⟩
    · have hr0 : 0 ≤ r := by omega
      have HR : Hid ((z : Int) ≤ l ∧ r = l - z) := by have := HZ2.out; have := HL2.out; constructor <;> omega
      clear g1 g2
      go_wp2
      go_ret
      exact ⟨r, rfl, .inr ⟨by have := HR.out; omega, HR.out.2⟩, B2⟩

set_option maxHeartbeats 2000000 in
theorem szS_Sv (v : Value) (ss : List DSvc) (l : Int) (w : World) (h : VSvcs w v ss) (hl0 : 0 ≤ l) (hl : l ≤ 1048576) :
    Calls Try.prog 22 #[v, .int .i64 l] w (SzPost l (ss.length + sSv ss) w) := by
  obtain ⟨C, ⟨a, cap, rfl, h1, h2, h3⟩, hC⟩ := h
  have HC : Hid (∀ i d, ss[i]? = some d → RV w (C i 0) d.name ∧ VChks w (C i 1) d.checks) := hC
  clear hC
  unfold maxLen at h2
  obtain ⟨n, hnn⟩ : ∃ n, n = ss.length := ⟨_, rfl⟩
  obtain ⟨q, hqq⟩ : ∃ q, q = sSv ss := ⟨_, rfl⟩
  rw [← hnn] at h1 h3 ⊢
  rw [← hqq]
  have HN : Hid (n = ss.length) := hnn
  have HQ : Hid (q = sSv ss) := hqq
  clear hnn hqq
  have H3 : Hid (0 < n → ∃ b o, a = some ⟨b, o, none⟩ ∧ b < w.heap.size ∧ ∀ i, i < n → ∀ j, j < 2 → w.cell? ⟨b, o + i * 2 + j, none⟩ = some (C i j)) := h3
  clear h3
  by_cases hn : l - n < 0
  · go_enter Try.func22, Try.ntmps22
    go_wp2
    go_ret
    exact ⟨-1, rfl, .inl ⟨by omega, rfl⟩, Below.refl _ _⟩
  go_enter Try.func22, Try.ntmps22
  go_wp2
  go_loopw [1, 5] (fun lv i wr => ∃ k : Nat, k ≤ n ∧ i = .int .i64 k ∧ ∃ L : Int, lv = .int .i64 L ∧ 0 ≤ L ∧ L ≤ 1048576 ∧ Hid (L = l - n - sSv (ss.take k)) ∧ Below w.heap.size w wr) (fun _ i _ => n - (intOf i).toNat)
  case atStart => exact ⟨0, Nat.zero_le _, rfl, l - n, rfl, by omega, by omega, by show _ = _; simp [sSv], Below.refl _ _⟩
  case round =>
    obtain ⟨k, hk, rfl, L, rfl, hL0, hL1, hL, hb⟩ := hrel
    by_cases hlt : k < n
    · obtain ⟨b, o, rfl, hbl, hc⟩ := H3.out (by omega)
      obtain ⟨s, hs⟩ : ∃ s, ss[k]? = some s := ⟨_, List.getElem?_eq_getElem (by have := HN.out; omega)⟩
      obtain ⟨e0, e1⟩ := HC.out k s hs
      have HZ : Hid (sSv (ss.take (k + 1)) = sSv (ss.take k) + zSv s ∧ sSv (ss.take (k + 1)) ≤ q) := ⟨sum_next zSv ss k s hs, by rw [HQ.out]; exact sum_take zSv ss (k + 1)⟩
      have X := ext_below hb
      have c0 := World.grownBy.cell X (hc k hlt 0 (by omega)) (by simp)
      rw [Nat.add_zero] at c0
      have cr := e0.ext X
      obtain ⟨ca, cc, cx⟩ := rv_shape cr
      rw [cx] at cr c0
      have c1 := World.grownBy.cell X (hc k hlt 1 (by omega)) (by simp)
      have ck := e1.ext X
      obtain ⟨cb, cd, cy⟩ := chks_shape ck
      rw [cy] at ck c1
      have hlt' : (k : Int) < (n : Int) := by omega
      clear hc
      go_wp2_with fail
      refine (szSvc _ s L wr ⟨_, _, rfl, cr, ck⟩ hL0 hL1).mono ?_
      rintro e w2 ⟨r, rfl, hr, b2⟩
      have hb2 := hb.trans (b2.mono hb.size)
      rcases hr with ⟨g1, rfl⟩ | ⟨g1, g2⟩
      · go_wp2
        go_ret
        refine ⟨-1, rfl, .inl ⟨?_, rfl⟩, hb2⟩
        have := HZ.out
        have := hL.out
        omega
      · have hr0 : 0 ≤ r := by omega
        have hr1 : r ≤ 1048576 := by omega
        have HR : Hid (r = l - n - sSv (ss.take (k + 1))) := by
          have := HZ.out
          have := hL.out
          show r = _
          omega
        clear g1 g2
        go_wp2
        go_roundw
        case rel => exact ⟨k + 1, by omega, by go_num, r, rfl, hr0, hr1, HR, hb2⟩
        case measure => simp [intOf]; omega
    · have hkn : k = n := by omega
      subst hkn
      have HR : Hid (L = l - (k + q : Nat)) := by
        have := hL.out
        rw [List.take_of_length_le (by have := HN.out; omega)] at this
        have := HQ.out
        show L = _
        omega
      go_wp2
      go_ret
      exact ⟨L, rfl, .inr ⟨by have := HR.out; omega, HR.out⟩, hb⟩

set_option maxHeartbeats 2000000 in
theorem toSvc (v : Value) (d : DSvc) (w : World) (h : VSvc w v d) (hl : LenSv d) :
    Calls Try.prog 47 #[v] w fun e w' => ∃ a c b, e = .returned (.agg #[.slice a d.name.length c, .slice (some ⟨b, 0, none⟩) d.checks.length d.checks.length]) ∧ Ow w' w.heap.size (.slice a d.name.length c) d.name ∧ OKs w' w.heap.size (.slice (some ⟨b, 0, none⟩) d.checks.length d.checks.length) d.checks ∧ Below w.heap.size w w' := by
  obtain ⟨nv, cv, rfl, hn, hc⟩ := h
  have HR : Hid (∀ x ∈ d.name, 0 ≤ x ∧ x ≤ 255) := rv_rngK hn
  have HL : Hid (LenSv d) := hl
  obtain ⟨n, hnn⟩ : ∃ n, n = d.name.length := ⟨_, rfl⟩
  have HN : Hid (n = d.name.length) := hnn
  obtain ⟨m, hmm⟩ : ∃ m, m = d.checks.length := ⟨_, rfl⟩
  have HM : Hid (m = d.checks.length) := hmm
  obtain ⟨na, nc, hnv⟩ := rv_shape hn
  obtain ⟨ca, cc, hcv⟩ := chks_shape hc
  rw [← hnn] at hnv ⊢
  rw [← hmm] at hcv ⊢
  subst hnv
  subst hcv
  clear hnn hmm hl
  have HNV := (show Hid (RV w (.slice na n nc) d.name) from hn)
  have HCV := (show Hid (VChks w (.slice ca m cc) d.checks) from hc)
  clear hn hc
  go_enter Try.func47, Try.ntmps47
  go_wp2_with fail
  generalize hV : World.alloc (World.alloc (World.alloc w _) _) _ = V
  have HB0 : Below w.heap.size w V := by
    rw [← hV]
    exact (((Below.refl _ w).alloc (Nat.le_refl _) _).alloc (by simp) _).alloc (by simp; omega) _
  have A0 : V.heap[w.heap.size]? = some (.cells #[.slice na n nc, .slice ca m cc] 68 (0, 0)) := by
    rw [← hV, Below.heap_alloc _ _ _ (by simp; omega), Below.heap_alloc _ _ _ (by simp)]; exact heap_alloc_new w _
  have A1 : V.heap[w.heap.size + 1]? = some (.cells #[.slice none 0 0, .slice none 0 0] 54 (0, 0)) := by
    rw [← hV, Below.heap_alloc _ _ _ (by simp)]; simpa using heap_alloc_new (World.alloc w _) (.cells #[.slice none 0 0, .slice none 0 0] 54 (0, 0))
  have A2 : V.heap[w.heap.size + 1 + 1]? = some (.cells #[.slice none 0 0, .slice none 0 0] 54 (0, 0)) := by
    rw [← hV]; simpa using heap_alloc_new (World.alloc (World.alloc w _) _) (.cells #[.slice none 0 0, .slice none 0 0] 54 (0, 0))
  have HSZ : Hid (w.heap.size + 2 < V.heap.size) := (Array.getElem?_eq_some_iff.1 A2).1
  clear hV
  refine (toV _ d.name V (HNV.out.ext (ext_below HB0)) HL.out.1).mono ?_
  rintro e w1 ⟨v1, rfl, o1, b1⟩
  obtain ⟨a1, c1, rfl, _, _, _⟩ := Ow.rv o1 HR.out
  rw [← HN.out] at o1 ⊢
  have A0' := ext_blk (ext_below b1) A0
  have A1' := ext_blk (ext_below b1) A1
  have A2' := ext_blk (ext_below b1) A2
  have HO1 : Hid (Ow w1 V.heap.size (.slice a1 n c1) d.name) := o1
  have HX1 : Hid (Ext w w1) := (ext_below HB0).tr (ext_below b1)
  have HS1 : Hid (V.heap.size ≤ w1.heap.size) := b1.size
  clear A0 A1 A2 b1 HB0 o1
  obtain ⟨z0, y0⟩ := at_block A2' 0 _ rfl
  obtain ⟨x1, _⟩ := at_block A0' 1 _ rfl
  have HU : Hid (∀ U, U = w1.setCell ⟨w.heap.size + 1 + 1, 0, none⟩ (.slice a1 n c1) → Below w.heap.size w U ∧ U.heap[w.heap.size]? = some (.cells #[.slice na n nc, .slice ca m cc] 68 (0, 0)) ∧ U.heap[w.heap.size + 1]? = some (.cells #[.slice none 0 0, .slice none 0 0] 54 (0, 0)) ∧ U.heap[w.heap.size + 1 + 1]? = some (.cells #[.slice a1 n c1, .slice none 0 0] 54 (0, 0)) ∧ Ow U V.heap.size (.slice a1 n c1) d.name) := fun U hU => by
    subst hU
    exact ⟨(ext_bel HX1.out).setCell (Nat.le_trans (Nat.le_succ _) (Nat.le_succ _)) _, set_other _ _ _ (by omega) A0', set_other _ _ _ (by omega) A1', set_block A2' 0 _, ow_set HO1.out (by have := HSZ.out; omega)⟩
  clear A0' A1' A2'
  go_upto_region 3 with fail
  generalize hU : w1.setCell _ _ = U
  obtain ⟨BU, B0, B1, B2, O1⟩ := HU.out U hU.symm
  clear hU HU z0 y0 x1
  have HSU : Hid (w.heap.size + 2 < U.heap.size) := (Array.getElem?_eq_some_iff.1 B2).1
  have HO2 := (show Hid (Ow U V.heap.size (.slice a1 n c1) d.name) from O1)
  have HBU := (show Hid (Below w.heap.size w U) from BU)
  clear O1 BU HO1 HX1 HS1
  obtain ⟨x1, _⟩ := at_block B0 1 _ rfl
  go_wp2_with fail
  refine (toS_KO _ d.checks U (HCV.out.ext (ext_below HBU.out)) HL.out.2.1 HL.out.2.2).mono ?_
  rintro e w2 ⟨b5, rfl, o2, b2⟩
  rw [← HM.out] at o2 ⊢
  have D1 := ext_blk (ext_below b2) B1
  have D2 := ext_blk (ext_below b2) B2
  have HO3 : Hid (Ow w2 V.heap.size (.slice a1 n c1) d.name ∧ OKs w2 U.heap.size (.slice (some ⟨b5, 0, none⟩) m m) d.checks ∧ Below w.heap.size w w2) := ⟨HO2.out.ext (ext_below b2), o2, HBU.out.trans (b2.mono HBU.out.size)⟩
  obtain ⟨q0, _⟩ := at_block D1 0 _ rfl
  obtain ⟨q1, k1⟩ := at_block D1 1 _ rfl
  obtain ⟨r0, f0⟩ := at_block D2 0 _ rfl
  obtain ⟨r1, f1⟩ := at_block D2 1 _ rfl
  clear x1 B0 B1 B2 o2 b2 D1 D2 HO2 HBU
  have HFIN : Hid (∀ W, w2.grownBy W (some (w.heap.size + 1 + 1)) → ∀ W', W.grownBy W' (some (w.heap.size + 1)) → Ow W' w.heap.size (.slice a1 n c1) d.name ∧ OKs W' w.heap.size (.slice (some ⟨b5, 0, none⟩) m m) d.checks ∧ Below w.heap.size w W') := fun W k W' k' => by
    have h1 := HSZ.out
    have h2 := HSU.out
    exact ⟨ow_base (ow_row (ow_row HO3.out.1 k (by omega)) k' (by omega)) (by omega), ((HO3.out.2.1.row k (by omega)).row k' (by omega)).base (by omega), (HO3.out.2.2.grown k HO3.out.2.2.size (fun j hj => by cases hj; omega)).grown k' (Nat.le_trans HO3.out.2.2.size k.size) (fun j hj => by cases hj; omega)⟩
  clear HO3 HSU HSZ
  go_wp2
  refine bodyPost_ret (v := .agg #[.slice a1 n c1, .slice (some ⟨b5, 0, none⟩) m m]) (by simp [results, Try.results47, go_sem, *]) rfl ?_
  have HR3 := HFIN.out _ (set_grown w2 (w.heap.size + 1 + 1) 1 (.slice (some ⟨b5, 0, none⟩) m m)) _ ((set_grown _ (w.heap.size + 1) 0 (.slice a1 n c1)).trans (set_grown _ _ 1 (.slice (some ⟨b5, 0, none⟩) m m)))
  exact ⟨a1, c1, b5, rfl, HR3.1, HR3.2.1, HR3.2.2⟩

theorem info_Sv : (Try.prog.info? 54).map (fun i => (i.zero, i.size, i.bytes)) = some (some (.agg #[.slice none 0 0, .slice none 0 0]), 2, 48) := by kernel_rfl

/-- The slice owns these services, their names and checks too, from block base on. -/
def OSvs (w : World) (base : Nat) (v : Value) (ss : List DSvc) : Prop := ∃ b F, v = .slice (some ⟨b, 0, none⟩) ss.length ss.length ∧ base ≤ b ∧ Blk w b 54 2 ss.length ss.length F ∧ ∀ i s, ss[i]? = some s → Ow w base (F i 0) s.name ∧ OKs w base (F i 1) s.checks

set_option maxHeartbeats 4000000 in
theorem toS_Sv (v : Value) (ss : List DSvc) (w : World) (h : VSvcs w v ss) (hn : ss.length ≤ 1048576) (hlen : ∀ (i : Nat) (s : DSvc), ss[i]? = some s → LenSv s) :
    Calls Try.prog 27 #[v] w fun e w' => ∃ b, e = .returned (.slice (some ⟨b, 0, none⟩) ss.length ss.length) ∧ OSvs w' w.heap.size (.slice (some ⟨b, 0, none⟩) ss.length ss.length) ss ∧ Below w.heap.size w w' := by
  obtain ⟨C, ⟨a, cap, rfl, h1, h2, h3⟩, hC⟩ := h
  have HC : Hid (∀ i d, ss[i]? = some d → RV w (C i 0) d.name ∧ VChks w (C i 1) d.checks) := hC
  clear hC
  obtain ⟨n, hnn⟩ : ∃ n, n = ss.length := ⟨_, rfl⟩
  rw [← hnn] at h1 h3 hn ⊢
  have HN : Hid (n = ss.length) := hnn
  clear hnn
  have H3 : Hid (0 < n → ∃ b o, a = some ⟨b, o, none⟩ ∧ b < w.heap.size ∧ ∀ i, i < n → ∀ j, j < 2 → w.cell? ⟨b, o + i * 2 + j, none⟩ = some (C i j)) := h3
  clear h3
  have HLN : Hid (∀ (i : Nat) (s : DSvc), ss[i]? = some s → LenSv s) := hlen
  clear hlen
  obtain ⟨i0, hi, hz0, hz1, hz2⟩ := info_parts info_Sv
  have hml : n ≤ maxLen := by unfold maxLen; omega
  have hml2 : (n : Int) ≤ 1048576 := by omega
  go_enter Try.func27, Try.ntmps27
  go_wp2_with (at_make; refine wpList_make_full _ rfl _ _ 27 rfl w.heap.size 54 i0 (.agg #[.slice none 0 0, .slice none 0 0]) 2 Try.underlying27 hi hz0 hz1 _ _ _ _ n rfl rfl rfl rfl ?b1 ?b2 ?b3 ?_)
  case b1 => rw [hz2]; omega
  case b2 => exact hml
  case b3 => exact Nat.le_refl _
  intro w1 hown hgr
  have hb1 : Below w.heap.size w w1 := (Below.refl _ _).grown hgr (Nat.le_refl _) (fun k hk => by cases hk)
  have hbk := blk_made (F := fun _ _ => .bool true) hown
  clear hown hgr
  go_wp2
  go_loopw [4] (fun i wr => ∃ k : Nat, k ≤ n ∧ i = .int .i64 k ∧ Below w.heap.size w wr ∧ ∃ F, Blk wr w.heap.size 54 2 n k F ∧ Hid (∀ i s, i < k → ss[i]? = some s → Ow wr (w.heap.size + 1) (F i 0) s.name ∧ OKs wr (w.heap.size + 1) (F i 1) s.checks)) (fun i _ => n - (intOf i).toNat)
  case atStart => exact ⟨0, Nat.zero_le _, rfl, hb1, _, hbk, fun i s hi => absurd hi (by omega)⟩
  case round =>
    obtain ⟨k, hk, rfl, hb, F, hF, hall⟩ := hrel
    clear hbk hb1
    by_cases hlt : k < n
    · obtain ⟨b, o, rfl, hbl, hc⟩ := H3.out (by omega)
      obtain ⟨s, hs⟩ : ∃ s, ss[k]? = some s := ⟨_, List.getElem?_eq_getElem (by have := HN.out; omega)⟩
      obtain ⟨e0, e1⟩ := HC.out k s hs
      have X := ext_below hb
      have c0 := World.grownBy.cell X (hc k hlt 0 (by omega)) (by simp)
      rw [Nat.add_zero] at c0
      have cr := e0.ext X
      obtain ⟨ca, cc, cx⟩ := rv_shape cr
      rw [cx] at cr c0
      have c1 := World.grownBy.cell X (hc k hlt 1 (by omega)) (by simp)
      have ck := e1.ext X
      obtain ⟨cb, cd, cy⟩ := chks_shape ck
      rw [cy] at ck c1
      have hlt' : (k : Int) < (n : Int) := by omega
      clear hc
      go_wp2_with fail
      refine (toSvc _ s wr ⟨_, _, rfl, cr, ck⟩ (HLN.out k s hs)).mono ?_
      rintro e w2 ⟨a5, p5, b5, rfl, ok, oc, b2⟩
      have hF2 := blk_kept hF (b2.block _ (blk_lt hF))
      have hgl := blk_lt hF
      have hb2 := hb.trans (b2.mono hb.size)
      obtain ⟨⟨u0, d0⟩, f0⟩ := blk_cell hF2 (k * 2) (by omega)
      obtain ⟨⟨u1, d1⟩, f1⟩ := blk_cell hF2 (k * 2 + 1) (by omega)
      have G := blk_next (blk_set (blk_set hF2 (k * 2) (by omega) (.slice a5 s.name.length p5)) (k * 2 + 1) (by omega) (.slice (some ⟨b5, 0, none⟩) s.checks.length s.checks.length)) (fun j => if j = 0 then .slice a5 s.name.length p5 else .slice (some ⟨b5, 0, none⟩) s.checks.length s.checks.length) (fun j hj => by
        have hj : j = 0 ∨ j = 1 := by omega
        rcases hj with rfl | rfl <;> simp [*, go_sem])
      have HG : Hid (Blk ((w2.setCell ⟨w.heap.size, k * 2, none⟩ (.slice a5 s.name.length p5)).setCell ⟨w.heap.size, k * 2 + 1, none⟩ (.slice (some ⟨b5, 0, none⟩) s.checks.length s.checks.length)) w.heap.size 54 2 n (k + 1) (fun i j => if i = k then (if j = 0 then .slice a5 s.name.length p5 else .slice (some ⟨b5, 0, none⟩) s.checks.length s.checks.length) else F i j)) := G
      have HBF : Hid (Below w.heap.size w ((w2.setCell ⟨w.heap.size, k * 2, none⟩ (.slice a5 s.name.length p5)).setCell ⟨w.heap.size, k * 2 + 1, none⟩ (.slice (some ⟨b5, 0, none⟩) s.checks.length s.checks.length))) := ((hb2.setCell (Nat.le_refl _) _).setCell (Nat.le_refl _) _)
      have HA : Hid (∀ i r, i < k + 1 → ss[i]? = some r → Ow ((w2.setCell ⟨w.heap.size, k * 2, none⟩ (.slice a5 s.name.length p5)).setCell ⟨w.heap.size, k * 2 + 1, none⟩ (.slice (some ⟨b5, 0, none⟩) s.checks.length s.checks.length)) (w.heap.size + 1) ((fun i j => if i = k then (if j = 0 then .slice a5 s.name.length p5 else .slice (some ⟨b5, 0, none⟩) s.checks.length s.checks.length) else F i j) i 0) r.name ∧ OKs ((w2.setCell ⟨w.heap.size, k * 2, none⟩ (.slice a5 s.name.length p5)).setCell ⟨w.heap.size, k * 2 + 1, none⟩ (.slice (some ⟨b5, 0, none⟩) s.checks.length s.checks.length)) (w.heap.size + 1) ((fun i j => if i = k then (if j = 0 then .slice a5 s.name.length p5 else .slice (some ⟨b5, 0, none⟩) s.checks.length s.checks.length) else F i j) i 1) r.checks) := fun i r hi hr => by
        by_cases e : i = k
        · subst e
          rw [hs] at hr
          cases hr
          simp only [if_pos]
          exact ⟨by simpa using ow_row (ow_row (ow_base ok (by omega)) (set_grown _ _ _ _) (by omega)) (set_grown _ _ _ _) (by omega), by simpa using ((oc.base (by omega)).row (set_grown _ _ _ _) (by omega)).row (set_grown _ _ _ _) (by omega)⟩
        · simp only [if_neg e]
          exact ⟨ow_row (ow_row ((hall.out i r (by omega) hr).1.ext (ext_below b2)) (set_grown _ _ _ _) (by omega)) (set_grown _ _ _ _) (by omega), (((hall.out i r (by omega) hr).2.ext (ext_below b2)).row (set_grown _ _ _ _) (by omega)).row (set_grown _ _ _ _) (by omega)⟩
      clear hb hF hall G hb2 hF2 b2
      go_wp2
      go_roundw
      case rel => exact ⟨k + 1, by omega, by go_num, HBF.out, _, HG.out, HA⟩
      case measure => simp [intOf]; omega
    · have hkn : k = n := by omega
      subst hkn
      go_wp2
      go_ret
      have hn := HN.out
      refine ⟨_, rfl, ⟨w.heap.size, F, by rw [hn], Nat.le_refl _, by rw [← hn]; exact hF, fun i s hs => ?_⟩, hb⟩
      have := hall.out i s (by have := (List.getElem?_eq_some_iff.1 hs).1; omega) hs
      exact ⟨ow_base this.1 (Nat.le_succ _), this.2.base (Nat.le_succ _)⟩

set_option maxHeartbeats 2000000 in
theorem eqSvc (v u : Value) (d : DSvc) (w : World) (h : VSvc w v d) (k : VSvc w u d) (hl : LenSv d) :
    Calls Try.prog 57 #[v, u] w fun e w' => e = .returned (.bool true) ∧ Below w.heap.size w w' := by
  have HL : Hid (LenSv d) := hl
  obtain ⟨nv, cv, rfl, hn, hc⟩ := h
  obtain ⟨nu, cu, rfl, kn, kc⟩ := k
  have EE : ∀ o o', Ext w ((w.alloc o).alloc o') := fun o o' => (World.grownBy_alloc _ _ _).trans (World.grownBy_alloc _ _ _)
  have hB2 : ∀ o o', Below w.heap.size w ((w.alloc o).alloc o') := fun o o' => ((Below.refl _ w).alloc (Nat.le_refl _) _).alloc (by simp) _
  have P0 : ∀ o o', ((w.alloc o).alloc o').heap[w.heap.size]? = some o := fun o o' => by rw [Below.heap_alloc _ _ _ (by simp)]; exact heap_alloc_new w o
  have P1 : ∀ o o', ((w.alloc o).alloc o').heap[w.heap.size + 1]? = some o' := fun o o' => by simpa using heap_alloc_new (w.alloc o) o'
  have HC := (show Hid (VChks w cv d.checks ∧ VChks w cu d.checks) from ⟨hc, kc⟩)
  clear hc kc hl
  go_enter Try.func57, Try.ntmps57
  go_wp2_with fail
  refine (eqV_yes nv nu d.name _ (hn.ext (EE _ _)) (kn.ext (EE _ _)) (Nat.le_trans HL.out.1 (by omega))).mono ?_
  rintro e w1 ⟨rfl, q, rfl⟩
  go_wp2_with fail
  refine (eqS_K cv cu d.checks _ (HC.out.1.ext ((EE _ _).tr (ext_drewN _ q))) (HC.out.2.ext ((EE _ _).tr (ext_drewN _ q))) HL.out.2.1 HL.out.2.2).mono ?_
  rintro e w2 ⟨rfl, b2⟩
  go_wp2
  go_ret
  exact ⟨rfl, (below_drewN (hB2 _ _) q).trans (b2.mono (by simp; omega))⟩

set_option maxHeartbeats 4000000 in
theorem eqS_Sv (v u : Value) (ss : List DSvc) (w : World) (h : VSvcs w v ss) (k : VSvcs w u ss) (hn : ss.length ≤ 1048576) (hlen : ∀ (i : Nat) (s : DSvc), ss[i]? = some s → LenSv s) :
    Calls Try.prog 34 #[v, u] w fun e w' => e = .returned (.bool true) ∧ Below w.heap.size w w' := by
  obtain ⟨C, ⟨a, cap, rfl, h1, h2, h3⟩, hC⟩ := h
  obtain ⟨D, ⟨a', cap', rfl, h1', h2', h3'⟩, hD⟩ := k
  have HC : Hid (∀ i d, ss[i]? = some d → RV w (C i 0) d.name ∧ VChks w (C i 1) d.checks) := hC
  have HD : Hid (∀ i d, ss[i]? = some d → RV w (D i 0) d.name ∧ VChks w (D i 1) d.checks) := hD
  clear hC hD
  obtain ⟨n, hnn⟩ : ∃ n, n = ss.length := ⟨_, rfl⟩
  rw [← hnn] at h1 h3 h1' h3' hn ⊢
  have HN : Hid (n = ss.length) := hnn
  clear hnn
  have H3 : Hid (0 < n → ∃ b o, a = some ⟨b, o, none⟩ ∧ b < w.heap.size ∧ ∀ i, i < n → ∀ j, j < 2 → w.cell? ⟨b, o + i * 2 + j, none⟩ = some (C i j)) := h3
  have H3' : Hid (0 < n → ∃ b o, a' = some ⟨b, o, none⟩ ∧ b < w.heap.size ∧ ∀ i, i < n → ∀ j, j < 2 → w.cell? ⟨b, o + i * 2 + j, none⟩ = some (D i j)) := h3'
  clear h3 h3'
  have HLN : Hid (∀ (i : Nat) (s : DSvc), ss[i]? = some s → LenSv s) := hlen
  clear hlen
  have hml2 : (n : Int) ≤ 1048576 := by omega
  go_enter Try.func34, Try.ntmps34
  go_wp2
  go_loopw [5] (fun i wr => ∃ k : Nat, k ≤ n ∧ i = .int .i64 k ∧ Below w.heap.size w wr) (fun i _ => n - (intOf i).toNat)
  case atStart => exact ⟨0, Nat.zero_le _, rfl, Below.refl _ _⟩
  case round =>
    obtain ⟨k, hk, rfl, hb⟩ := hrel
    by_cases hlt : k < n
    · obtain ⟨b, o, rfl, hbl, hc⟩ := H3.out (by omega)
      obtain ⟨b', o', rfl, hbl', hc'⟩ := H3'.out (by omega)
      obtain ⟨s, hs⟩ : ∃ s, ss[k]? = some s := ⟨_, List.getElem?_eq_getElem (by have := HN.out; omega)⟩
      obtain ⟨e0, e1⟩ := HC.out k s hs
      obtain ⟨y0, y1⟩ := HD.out k s hs
      have X := ext_below hb
      have c0 := World.grownBy.cell X (hc k hlt 0 (by omega)) (by simp)
      rw [Nat.add_zero] at c0
      have cr := e0.ext X
      obtain ⟨ca, cc, cx⟩ := rv_shape cr
      rw [cx] at cr c0
      have c1 := World.grownBy.cell X (hc k hlt 1 (by omega)) (by simp)
      have ck := e1.ext X
      obtain ⟨cb, cd, cy⟩ := chks_shape ck
      rw [cy] at ck c1
      have d0 := World.grownBy.cell X (hc' k hlt 0 (by omega)) (by simp)
      rw [Nat.add_zero] at d0
      have dr := y0.ext X
      obtain ⟨da, dc, dx⟩ := rv_shape dr
      rw [dx] at dr d0
      have d1 := World.grownBy.cell X (hc' k hlt 1 (by omega)) (by simp)
      have dk := y1.ext X
      obtain ⟨db, dd, dy⟩ := chks_shape dk
      rw [dy] at dk d1
      have HE : Hid (∀ W', Ext wr W' → Calls Try.prog 57 #[.agg #[.slice ca s.name.length cc, .slice cb s.checks.length cd], .agg #[.slice da s.name.length dc, .slice db s.checks.length dd]] W' fun e w' => e = .returned (.bool true) ∧ Below W'.heap.size W' w') := fun W' e => eqSvc _ _ s W' ⟨_, _, rfl, cr.ext e, ck.ext e⟩ ⟨_, _, rfl, dr.ext e, dk.ext e⟩ (HLN.out k s hs)
      have hlt' : (k : Int) < (n : Int) := by omega
      clear hc hc' X cr dr ck dk
      have c0w := bw_cell c0
      have d0w := bw_cell d0
      have c1w := bw_cell c1
      have d1w := bw_cell d1
      have nonV := bw_ne wr
      go_wp2_with fail
      refine wp_region_bw (by kernel_rfl) (by kernel_rfl) ?_
      repeat (go_big_quiet_step ((go_at_call 57; exact bw_below (HE.out _ (bw_ext _)))))
      refine wpQuiet_nil ?_
      intro _ hw'
      obtain ⟨z, hw''⟩ := hw'
      subst hw''
      go_wp2
      go_roundw
      case rel => exact ⟨k + 1, by omega, by go_num, hb.trans (z.h.mono hb.size)⟩
      case measure => simp [intOf]; omega
    · have hkn : k = n := by omega
      subst hkn
      go_wp2
      go_ret
      exact ⟨rfl, hb⟩

end Go.Proofs.Ytjkhadaoldbceaa
