/- Who helps to ask: plain; the specification's l11helpers. -/
import Derived.Test.YtfdklcmhafhbeaaPr9
import Derived.Test.YtfdklcmhafhbeaaDl0
namespace Go.Proofs.Ytfdklcmhafhbeaa
open Go.RowKit

/-- Those that may help, shuffled, and the seed behind it. -/
def helpS (T : DTab) (P : DPro) (h : Decidable (TabP T) := Classical.propDecidable (TabP T)) : List Int × Int := shufL (exceptL (othersD T h) P.who) P.seed
theorem help_len {T : DTab} {P : DPro} (h : T.mems.length ≤ 1048576) : (helpS T P).1.length ≤ 1048576 := by unfold helpS; rw [shufL_len]; exact Nat.le_trans (except_len _ _) (others_len h)

set_option maxRecDepth 20000 in
set_option maxHeartbeats 4000000 in
theorem sHelpV (gt base : Nat) (P : DPro) (pv tv : Value) (T : DTab) (kk : Int) (w : World) (hb : w.heap[gt]? = some (.cells #[pv, .int .i64 P.next, .int .i64 P.seed, .int .i64 P.state, .int .i64 P.who, .int .i64 P.wait] 30 (0, 0))) (ho : OwI w base pv P.order) (hs0 : 0 ≤ P.seed) (hs1 : P.seed ≤ 2147483647) (hk0 : 0 ≤ kk) (hk3 : kk ≤ 3) (hT : VTab w tv T) (hn : T.mems.length ≤ 1048576) (hg : base ≤ gt) (hbs : base ≤ w.heap.size) :
    Calls Try.prog 39 #[.pointer (some ⟨gt, 0, none⟩), tv, .int .i64 kk] w fun e w' => ∃ lv, e = .returned lv ∧ OwI w' w.heap.size lv ((helpS T P).1.take kk.toNat) ∧ NxSt w gt base ⟨P.order, P.next, (helpS T P).2, P.state, P.who, P.wait⟩ pv w' := by
  have hE : ∀ w : World, ∀ o, Ext w (w.alloc o) := fun w o => World.grownBy_alloc _ _ _
  have hB : ∀ w : World, ∀ o, Below w.heap.size w (w.alloc o) := fun w o => (Below.refl _ w).alloc (Nat.le_refl _) _
  have HT : Hid (VTab w tv T) := hT
  have HN : Hid (T.mems.length ≤ 1048576) := hn
  have HS0 : Hid (NxSt w gt base P pv w) := ⟨hb, ho, Below.refl _ _⟩
  have HSD : Hid (0 ≤ P.seed ∧ P.seed ≤ 2147483647) := ⟨hs0, hs1⟩
  have HG : Hid (base ≤ gt) := hg
  have HBS : Hid (base ≤ w.heap.size) := hbs
  obtain ⟨mv, rfl, h⟩ := hT
  obtain ⟨a, cap, rfl⟩ := h.shape
  obtain ⟨n, hnn⟩ : ∃ n, n = T.mems.length := ⟨_, rfl⟩
  rw [← hnn] at HT ⊢
  obtain ⟨L, hL⟩ : ∃ L, L = othersD T := ⟨_, rfl⟩
  have HL : Hid (L = othersD T) := hL
  have HLL : Hid (L.length ≤ 1048576) := by show _ ≤ _; rw [hL]; exact others_len hn
  obtain ⟨H, hH⟩ : ∃ H, H = helpS T P := ⟨_, rfl⟩
  have HH : Hid (H = shufL (exceptL L P.who) P.seed) := by show _ = _; rw [hH, hL]; rfl
  rw [← hH]
  obtain ⟨kn, rfl⟩ := Int.eq_ofNat_of_zero_le hk0
  clear h hnn hn hL hb ho hs0 hs1 hg hbs hH
  go_enter Try.func39, Try.ntmps39
  go_wp2_with fail
  generalize hW : w.alloc _ = W
  have XW : Ext w W := by rw [← hW]; exact hE _ _
  clear hW
  refine (sOthersV _ T W (HT.out.ext XW) HN.out).mono ?_
  rintro e w1 ⟨lv, rfl, o1, b1⟩
  rw [← HL.out] at o1
  obtain ⟨la, lc, hlv⟩ := o1.shape
  obtain ⟨m, hm⟩ : ∃ m, m = L.length := ⟨_, rfl⟩
  have HM : Hid (m = L.length) := hm
  rw [← hm] at hlv
  subst hlv
  have hmm : (m : Int) ≤ 1048576 := by have := HLL.out; omega
  have HLV : Hid (OwI w1 W.heap.size (.slice la m lc) L) := o1
  have X1 : Ext w w1 := XW.tr (ext_below b1)
  have HX1 : Hid (Ext w w1) := X1
  have HS1 : Hid (NxSt w gt base P pv w1) := HS0.out.ext HBS.out X1
  have HP1 : Hid (w1.heap[gt]? = some (.cells #[pv, .int .i64 P.next, .int .i64 P.seed, .int .i64 P.state, .int .i64 P.who, .int .i64 P.wait] 30 (0, 0))) := HS1.out.box
  clear o1 b1 XW X1 hm
  go_wp2
  go_loopw [8, 9] (fun ov i wr => ∃ k : Nat, k ≤ m ∧ i = .int .i64 k ∧ ∃ xs, Hid (xs = exceptL (L.take k) P.who) ∧ xs.length ≤ k ∧ Hid (OwI wr w1.heap.size ov xs) ∧ Hid (Below w1.heap.size w1 wr)) (fun _ i _ => m - (intOf i).toNat)
  case atStart => exact ⟨0, Nat.zero_le _, rfl, [], by show _ = _; simp [exceptL], Nat.le_refl _, World.ownsRow_nil _ _ _ _, Below.refl _ _⟩
  case round =>
    obtain ⟨k, hk, rfl, xs, hxs, hxl, ho, hb⟩ := hrel
    obtain ⟨oa, oc, rfl⟩ := ho.out.shape
    obtain ⟨lx, hlx⟩ : ∃ lx, lx = xs.length := ⟨_, rfl⟩
    have HLX : Hid (lx = xs.length) := hlx
    have HOX : Hid (OwI wr w1.heap.size (.slice oa lx oc) xs) := by rw [hlx]; exact ho.out
    rw [← hlx] at hxl ⊢
    clear hlx ho
    by_cases hlt : k < m
    · obtain ⟨y, hy⟩ : ∃ y, L[k]? = some y := ⟨_, List.getElem?_eq_getElem (by have := HM.out; omega)⟩
      obtain ⟨b, o, rfl, hc⟩ := (HLV.out.vl.ext (ext_below hb.out)).get hy
      have ck := hc k y hy
      obtain ⟨p0, p1, p2, p3, p4, p5⟩ := cells6 (ext_blk (ext_below hb.out) HP1.out)
      have hlt' : (k : Int) < (m : Int) := by omega
      have HNX := except_take (s := P.who) hy
      rw [← hxs.out] at HNX
      have HY : Hid (L[k]? = some y) := hy
      have HCC : Hid (∀ W', Ext wr W' → W'.cell? ⟨b, o + k, none⟩ = some (.int .i64 y)) := fun W' e => World.grownBy.cell e ck (by simp)
      clear hc hy
      by_cases e : y = P.who
      · have HX : Hid (xs = exceptL (L.take (k + 1)) P.who) := by show _ = _; rw [HNX, if_pos e, List.append_nil]
        have e' : (y != P.who) = false := by simpa using e
        clear HNX e
        go_wp2_with fail
        go_quiet (fail)
        go_wp2
        go_roundw
        case rel => exact ⟨k + 1, by omega, by go_num, xs, HX, by have := HLX.out; omega, HOX.out.ext (ext_drewN _ _), below_drewN hb.out _⟩
        case measure => simp [intOf]; omega
      · have HX : Hid (xs ++ [y] = exceptL (L.take (k + 1)) P.who) := by show _ = _; rw [HNX, if_neg e]
        have e' : (y != P.who) = true := by simpa using e
        clear HNX e
        go_wp2_with fail
        go_quiet (fail)
        generalize hq : World.drewN wr _ = wq
        have XQ : Ext wr wq := by rw [← hq]; exact ext_drewN _ _
        clear hq
        have cq := HCC.out wq XQ
        have HBQ : Hid (Below w1.heap.size w1 wq) := hb.out.trans ((ext_bel XQ).mono hb.out.size)
        have HOQ : Hid (OwI wq w1.heap.size (.slice oa lx oc) xs) := HOX.out.ext XQ
        clear ck p0 p1 p2 p3 p4 p5
        go_wp2_with (at_builtin; refine wpList_append_i1 _ rfl (.tmp 27) (.tmp 32) rfl w1.heap.size _ xs rfl (HOQ.out.ext (hE _ _)) _ y rfl (by simp) (by have := HLX.out; omega) (by have := HBQ.out.size; simp; omega) ?_; intro v2 w2 o2 g2)
        have HO2 : Hid (OwI w2 w1.heap.size v2 (xs ++ [y])) := o2
        have HB2 : Hid (Below w1.heap.size w1 w2) := (HBQ.out.trans ((hB _ _).mono HBQ.out.size)).grown g2 (by have := HBQ.out.size; simp; omega) (fun k hk => (HOX.out.lt k hk).1)
        clear o2 g2
        go_roundw
        case rel => exact ⟨k + 1, by omega, by go_num, xs ++ [y], HX, by simp; have := HLX.out; omega, HO2, HB2⟩
        case measure => simp [intOf]; omega
    · have hkm : m = k := by omega
      subst hkm
      have HF : Hid (H = shufL xs P.seed) := by show _ = _; rw [HH.out, hxs.out, List.take_of_length_le (by have := HM.out; omega)]
      obtain ⟨p0, p1, p2, p3, p4, p5⟩ := cells6 (ext_blk (ext_below hb.out) HP1.out)
      go_wp2_with fail
      refine (sShufV _ xs P.seed wr HOX.out.vl (by have := HLX.out; omega) HSD.out.1 HSD.out.2).mono ?_
      rintro e w3 ⟨sv, rfl, o3, b3⟩
      rw [← HF.out] at o3 ⊢
      obtain ⟨sa, sc, hsv⟩ := o3.shape
      obtain ⟨sn, hsn⟩ : ∃ sn, sn = H.1.length := ⟨_, rfl⟩
      have HSN : Hid (sn = H.1.length) := hsn
      rw [← hsn] at hsv
      subst hsv
      have hsn9 : (sn : Int) ≤ 1048576 := by rw [hsn, HF.out, shufL_len]; have := HLX.out; omega
      have X3 : Ext w1 w3 := (ext_below hb.out).tr (ext_below b3)
      have S3 := HS1.out.ext (Nat.le_trans HBS.out HX1.out.size) X3
      obtain ⟨q2, f2⟩ := at_block S3.box 2 _ rfl
      have nb : (Value.slice sa sn sc).ownBlock = none ∨ (Value.slice sa sn sc).ownBlock ≠ some gt := pro_ne o3 S3.box
      have HO3 : Hid (OwI (w3.setCell ⟨gt, 2, none⟩ (.int .i64 H.2)) wr.heap.size (.slice sa sn sc) H.1) := o3.keep (set_grown _ _ _ _) nb
      have HF3 : Hid (NxSt w gt base ⟨P.order, P.next, H.2, P.state, P.who, P.wait⟩ pv (w3.setCell ⟨gt, 2, none⟩ (.int .i64 H.2))) := ⟨set_block S3.box 2 _, S3.own.keep (set_grown _ _ _ _) (pro_ne S3.own S3.box), S3.low.setCell HG.out _⟩
      clear o3 b3 X3 S3 nb hsn p0 p1 p3 p4 p5
      by_cases hgt : sn > kn
      · have d1 : decide ((sn : Int) > (kn : Int)) = true := decide_eq_true (by omega)
        obtain ⟨g, hgg⟩ : ∃ g, sa = some ⟨g, 0, none⟩ := by
          rcases HO3.out.2 with ⟨h0, _⟩ | ⟨g, c, cur, hv, _⟩
          · simp only [Value.slice.injEq] at h0; omega
          · simp only [Value.slice.injEq] at hv; exact ⟨g, hv.1⟩
        subst hgg
        have hcap : sn ≤ sc ∧ sc ≤ 9223372036854775807 := by
          rcases HO3.out.2 with ⟨h0, _⟩ | ⟨g', c, cur, hv, _, _, h1, h2, _⟩
          · cases h0
          · simp only [Value.slice.injEq] at hv
            unfold maxLen at h2
            have := HSN.out
            omega
        obtain ⟨hc1, hc2⟩ := hcap
        have hkc : kn ≤ sc := by omega
        have HV : Hid (OwI (w3.setCell ⟨gt, 2, none⟩ (.int .i64 H.2)) w.heap.size (.slice (some ⟨g, 0, none⟩) kn sc) (H.1.take kn)) := (HO3.out.head HSN.out kn (by omega)).base (Nat.le_trans HX1.out.size hb.out.size)
        go_wp2
        go_ret
        exact ⟨_, rfl, HV.out, HF3.out⟩
      · have d1 : decide ((sn : Int) > (kn : Int)) = false := decide_eq_false (by omega)
        have HV : Hid (OwI (w3.setCell ⟨gt, 2, none⟩ (.int .i64 H.2)) w.heap.size (.slice sa sn sc) (H.1.take kn)) := by
          rw [List.take_of_length_le (by have := HSN.out; omega)]
          exact HO3.out.base (Nat.le_trans HX1.out.size hb.out.size)
        go_wp2
        go_ret
        exact ⟨_, rfl, HV.out, HF3.out⟩

end Go.Proofs.Ytfdklcmhafhbeaa
