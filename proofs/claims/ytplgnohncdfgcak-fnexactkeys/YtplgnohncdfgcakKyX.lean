/- The contract of the specification's Keys. -/
import Derived.Test.YtplgnohncdfgcakHdX
import Derived.Test.YtplgnohncdfgcakHasX
namespace Go.Proofs.Ytplgnohncdfgcak
open Go.RowKit


/-- What Keys must tell. -/
def kyV (S : DState) (p : List Int) (hD : Decidable (StP S) := Classical.propDecidable (StP S)) : List (List Int) := if tB (StP S) hD = true then keysP (fun r => hasB r.key p) S.rows else []

set_option maxHeartbeats 4000000 in
set_option maxRecDepth 100000 in
theorem sKeysV (hI : SaysOk 39) (v u : Value) (S : DState) (p : List Int) (w : World) (h : VState w v S) (hp : RV w u p) (hpl : p.length ≤ 2097152) :
    Calls Try.prog 28 #[v, u] w fun e w' => ∃ v' F, e = .returned v' ∧ SSG w.heap.size w' v' (kyV S p).length F (at_ (kyV S p)) ∧ Below w.heap.size w w' := by
  have hE : ∀ w : World, ∀ o, Ext w (w.alloc o) := fun w o => World.grownBy_alloc _ _ _
  have hB : ∀ w : World, ∀ o, Below w.heap.size w (w.alloc o) := fun w o => (Below.refl _ w).alloc (Nat.le_refl _) _
  have h0 : Hid (VState w v S) := h
  have HI : Hid (SaysOk 39) := hI
  clear hI
  obtain ⟨rv, tv, sv, lv, rfl, hr, ht, hs, _⟩ := h
  have HP : Hid (RV w u p ∧ p.length ≤ 2097152) := ⟨hp, hpl⟩
  clear hpl
  obtain ⟨pa, pc, rfl, _, _, _⟩ := hp
  go_enter Try.func28, Try.ntmps28
  go_wp2_with fail
  refine (HI.out _ S _ (h0.out.ext (by first | exact hE _ _ | exact (hE _ _).tr (hE _ _)))).mono ?_
  rintro e w1 ⟨rfl, b1⟩
  have R1 := below_blk b1 (by simp) (heap_alloc_new w _)
  have hs1 : w.heap.size + 1 ≤ w1.heap.size := by have := b1.size; simp at this; omega
  have B1 : Below w.heap.size w w1 := (hB w _).trans (b1.mono (by simp))
  clear b1
  cases hok : tB (StP S)
  · have HL : Hid (kyV S p = []) := if_neg (by rw [hok]; simp)
    go_wp2
    go_ret
    exact ⟨_, fun _ => .slice none 0 0, rfl, by rw [HL.out]; exact SSG.nil _ _ _ _, B1⟩
  have HV : Hid (kyV S p = keysP (fun r => hasB r.key p) S.rows) := if_pos hok
  have HST : Hid (StP S) := tB_iff.1 hok
  clear hok
  have R2 := R1
  have B2 := B1
  clear R1 B1
  obtain ⟨C, ⟨a, cap, rfl, h1, h2, h3⟩, hC⟩ := hr
  have HC : Hid (∀ i r, S.rows[i]? = some r → RV w (C i 0) r.key ∧ RV w (C i 1) r.val ∧ C i 2 = .int .i64 r.turned ∧ C i 3 = .int .i64 r.holder) := hC
  clear hC
  obtain ⟨n, hn⟩ : ∃ n, n = S.rows.length := ⟨_, rfl⟩
  rw [← hn] at h1 h3 R2 ⊢
  have HN : Hid (n = S.rows.length) := hn
  clear hn
  unfold maxLen at h2
  have H3 : Hid (0 < n → ∃ b o, a = some ⟨b, o, none⟩ ∧ b < w.heap.size ∧ ∀ i, i < n → ∀ j, j < 4 → w.cell? ⟨b, o + i * 4 + j, none⟩ = some (C i j)) := h3
  clear h3
  go_wp2
  have HB0 : Hid (GI w #[.int .i64 S.index, .slice a n cap, tv, .int .i64 S.lost, sv, lv] w1) := ⟨B2, R2⟩
  generalize hst : #[.int .i64 S.index, .slice a n cap, tv, .int .i64 S.lost, sv, lv] = st at HB0
  have HST2 : Hid (#[.int .i64 S.index, .slice a n cap, tv, .int .i64 S.lost, sv, lv] = st) := hst
  have HKK : Hid (∀ (i : Nat) (r : DRow), S.rows[i]? = some r → r.key.length ≤ 2097152) := fun i r hr => keyB_len' (HST.out.2.2.2.1.2 i (List.getElem?_eq_some_iff.1 hr).1 r hr).1
  have hn20 : n ≤ 20 := by have := HST.out.2.2.2.1.1; have := HN.out; omega
  clear hst B2 R2
  go_loopw [5, 6] (fun vo i wr => ∃ k : Nat, k ≤ n ∧ i = .int .i64 k ∧ Hid (GI w st wr) ∧ Hid (∃ F, SSG w.heap.size wr vo (keysP (fun r => hasB r.key p) (S.rows.take k)).length F (at_ (keysP (fun r => hasB r.key p) (S.rows.take k))))) (fun _ i _ => n - (intOf i).toNat)
  case atStart => exact ⟨0, Nat.zero_le _, rfl, HB0.out, fun _ => .slice none 0 0, SSG.nil _ _ _ _⟩
  case round =>
    obtain ⟨k, hk, rfl, hgi, hss⟩ := hrel
    have rr := hgi.out.r
    rw [← HST2.out] at rr
    obtain ⟨r1, _⟩ := at_block rr 1 _ rfl
    clear rr
    by_cases hlt : k < n
    · obtain ⟨b, o, rfl, hbl, hc⟩ := H3.out (by omega)
      obtain ⟨s, hs⟩ : ∃ s, S.rows[k]? = some s := ⟨_, List.getElem?_eq_getElem (by have := HN.out; omega)⟩
      obtain ⟨e0, _, _, _⟩ := HC.out k s hs
      have X := ext_below hgi.out.b
      have c0 := World.grownBy.cell X (hc k hlt 0 (by omega)) (by simp)
      have HK : Hid (RV wr (C k 0) s.key) := e0.ext X
      obtain ⟨ka, kc, ek, _, _, _⟩ := e0
      rw [Nat.add_zero, ek] at c0
      have HPW : Hid (RV wr (.slice pa p.length pc) p) := HP.out.1.ext X
      have HKR : Hid (Rd wr ka s.key.length s.key) := by
        have := HK.out
        rw [ek] at this
        obtain ⟨_, _, e, hrd, _, _⟩ := this
        cases e
        exact hrd
      have hlt' : (k : Int) < (n : Int) := by omega
      have HNX := keysP_next (fun r => hasB r.key p) S.rows k s hs
      have HKN : Hid (s.key.length ≤ 2097152) := HKK.out k s hs
      have HAL : Hid ((keysP (fun r => hasB r.key p) (S.rows.take k)).length ≤ 20) := by
        show (((S.rows.take k).filter _).map _).length ≤ 20
        rw [List.length_map]
        refine Nat.le_trans (List.length_filter_le _ _) ?_
        rw [List.length_take]
        omega
      generalize keysP (fun r => hasB r.key p) (S.rows.take k) = acc at hss HNX HAL
      rw [ek] at HK
      clear hc X ek
      cases hh : hasB s.key p
      case true =>
        have HNX2 : Hid (keysP (fun r => hasB r.key p) (S.rows.take (k + 1)) = acc ++ [s.key]) := by
          show _ = _
          rw [HNX, if_pos hh]
        have HHH : Hid (hasB s.key p = true) := hh
        clear HNX hh hs
        obtain ⟨kl, hkl⟩ : ∃ kl, s.key.length = kl := ⟨_, rfl⟩
        have HKL : Hid (s.key.length = kl) := hkl
        rw [hkl] at c0 HKR HKN HK
        have HSL : Hid (s.key.length ≤ 2097152) := by rw [hkl]; exact HKN.out
        clear hkl
        go_wp2_with fail
        refine (sHasV _ _ s.key p wr HK.out HPW.out HSL.out HP.out.2).mono ?_
        rintro e w4 ⟨rfl, q4, rfl⟩
        rw [HHH.out]
        have hgiW : Hid (GI w st (wr.drewN q4)) := hB8ext hgi.out (ext_drewN _ _)
        have hssW : Hid (∃ F, SSG w.heap.size (wr.drewN q4) _ acc.length F (at_ acc)) := ⟨hss.out.choose, hss.out.choose_spec.ext (ext_drewN _ _)⟩
        have r1W : (wr.drewN q4).cell? ⟨w.heap.size, 1, none⟩ = some (.slice (some ⟨b, o, none⟩) n cap) := r1
        have c0W : (wr.drewN q4).cell? ⟨b, o + k * 4, none⟩ = some (.slice ka kl kc) := c0
        have HKRW : Hid (Rd (wr.drewN q4) ka kl s.key) := HKR.out.grown (ext_drewN _ _)
        generalize wr.drewN q4 = W at hgiW hssW r1W c0W HKRW ⊢
        clear hgi hss r1 c0 HKR HK HPW
        have r1a : ∀ ob, (W.alloc ob).cell? ⟨w.heap.size, 1, none⟩ = some (.slice (some ⟨b, o, none⟩) n cap) := fun ob => World.grownBy.cell (hE W ob) r1W (by simp)
        have c0a : ∀ ob, (W.alloc ob).cell? ⟨b, o + k * 4, none⟩ = some (.slice ka kl kc) := fun ob => World.grownBy.cell (hE W ob) c0W (by simp)
        obtain ⟨F, hF⟩ := hssW.out
        have HFS : Hid (SSG w.heap.size W _ acc.length F (at_ acc)) := hF
        have HFL : Hid (∀ i, i < acc.length → ∀ q, (F i).ownBlock = some q → q < W.heap.size) := fun i hi q hq => ((hF.tx i hi).lt q hq).2
        have hwz : w.heap.size + 1 ≤ W.heap.size := (Array.getElem?_eq_some_iff.1 hgiW.out.r).1
        clear hssW hF
        go_wp2_with (first
          | (at_builtin; refine wpList_append_bytes _ rfl (.tmp 26) (.tmp 32) 28 rfl W.heap.size info5 Try.underlying28 _ [] rfl (ow_empty W) ka kl kc s.key rfl (HKRW.out.grown (World.grownBy_alloc _ _ _)) (by have := HKN.out; simp; omega) (by simp) ?_; intro v8 w8 ow8 g8; simp only [List.nil_append] at ow8; obtain ⟨a8, c8, rfl⟩ := ow_shape ow8; rw [HKL.out] at ow8 ⊢; have HE8 := grown_alloc g8; have HF8 : Hid (SSG w.heap.size w8 _ acc.length F (at_ acc)) := SSG.far HFS.out HE8 (Nat.le_refl _); have HB8 : Hid (GI w st w8) := hgiW.out.far HE8 (Nat.le_refl _); have HS8 : W.heap.size + 1 ≤ w8.heap.size := grown_size g8; have HOW8 : Hid (Ow w8 W.heap.size (.slice a8 kl c8) s.key) := ow8; clear ow8 g8 HE8)
          | (at_builtin; refine wpList_append_tb _ rfl (.tmp 25) (.tmp 34) rfl w.heap.size _ acc.length _ rfl (HF8.out.ext (hE _ _)).row w8.heap.size (.slice a8 kl c8) rfl (at_block (heap_alloc_new w8 _) 0 _ rfl).1 rfl (by have := HAL.out; omega) (by simp; omega) ?_; intro v9 w9 ow9 g9))
        have X9 : Ext w8 (w8.alloc (.cells #[.slice a8 kl c8] 28 (0, 0))) := hE _ _
        have HG9 : Hid (GI w st w9) := (hB8ext HB8.out X9).row (HF8.out.ext X9).row g9
        have HS9 : Hid (∃ F, SSG w.heap.size w9 v9 (keysP (fun r => hasB r.key p) (S.rows.take (k + 1))).length F (at_ (keysP (fun r => hasB r.key p) (S.rows.take (k + 1))))) := by
          show ∃ F, _
          rw [HNX2.out]
          exact ⟨_, ((HF8.out.ext X9).next (ow_base (HOW8.out.ext X9) (by omega)) (HOW8.out.ext X9) HFL.out ow9 g9).as (by simp) (fun i hi => at_push acc s.key i hi)⟩
        clear X9 ow9 g9 HB8 HF8 HOW8 hgiW
        go_roundw
        case rel => exact ⟨k + 1, by omega, by go_num, HG9.out, HS9.out⟩
        case measure => simp [intOf]; omega
      · have HNX2 : Hid (keysP (fun r => hasB r.key p) (S.rows.take (k + 1)) = acc) := by
          show _ = _
          rw [HNX, if_neg (by rw [hh]; simp)]
          simp
        have HHH : Hid (hasB s.key p = false) := hh
        clear HNX hh hs
        go_wp2_with (go_at_call 62; refine (sHasV _ _ s.key p wr HK.out HPW.out HKN.out HP.out.2).mono ?_; rintro e w4 ⟨rfl, q4, rfl⟩; rw [HHH.out])
        go_roundw
        case rel => exact ⟨k + 1, by omega, by go_num, hB8ext hgi.out (ext_drewN _ _), by rw [HNX2.out]; exact ⟨hss.out.choose, hss.out.choose_spec.ext (ext_drewN _ _)⟩⟩
        case measure => simp [intOf]; omega
    · have hkn : n = k := by omega
      subst hkn
      have HF : Hid (∃ F, SSG w.heap.size wr u5 (kyV S p).length F (at_ (kyV S p))) := by
        have := hss.out
        rw [List.take_of_length_le (by have := HN.out; omega), ← HV.out] at this
        exact this
      clear hss
      go_wp2
      go_ret
      obtain ⟨F, hF⟩ := HF.out
      exact ⟨_, F, rfl, hF, hgi.out.b⟩


theorem keys1V (ka va : Option Addr) (kn kc vn vc : Nat) (ks : List Int) (t h : Int) (pv : Value) (p : List Int) (g : Nat) (w : World) (hk : RV w (.slice ka kn kc) ks) (hp : RV w pv p) (hkl : ks.length ≤ 2097152) (hpl : p.length ≤ 2097152) (hc : w.cell? ⟨g, 0, none⟩ = some pv) :
    Calls Try.prog 63 #[.agg #[.slice ka kn kc, .slice va vn vc, .int .i64 t, .int .i64 h], .pointer (some ⟨g, 0, none⟩)] w fun e w' => e = .returned (.bool (hasB ks p)) ∧ Below w.heap.size w w' := by
  have hB : ∀ w : World, ∀ o, Below w.heap.size w (w.alloc o) := fun w o => (Below.refl _ w).alloc (Nat.le_refl _) _
  have hE : ∀ w : World, ∀ o, Ext w (w.alloc o) := fun w o => World.grownBy_alloc _ _ _
  have HK : Hid (RV w (.slice ka kn kc) ks) := hk
  have HP : Hid (RV w pv p) := hp
  obtain ⟨pa, pc, rfl, _, _, _⟩ := hp
  have hca : ∀ ob, (w.alloc ob).cell? ⟨g, 0, none⟩ = some (.slice pa p.length pc) := fun ob => World.grownBy.cell (hE w ob) hc (by simp)
  clear hk hc
  go_enter Try.func63, Try.ntmps63
  go_wp2_with (go_at_call 64; refine (iHasV _ _ ks p _ (HK.out.ext (hE _ _)) (HP.out.ext (hE _ _)) hkl hpl).mono ?_; rintro e w1 ⟨rfl, q1, rfl⟩)
  go_ret
  exact ⟨rfl, below_drewN (hB _ _) _⟩

set_option maxHeartbeats 4000000 in
set_option maxRecDepth 100000 in
theorem keysKeysV (rv : Value) (rs : List DRow) (pv : Value) (p : List Int) (g : Nat) (w : World) (hr : VRows w rv rs) (hg : w.cell? ⟨g, 0, none⟩ = some pv) (hp : RV w pv p) (hpl : p.length ≤ 2097152) (hn20 : rs.length ≤ 20) (hkl : ∀ (i : Nat) (r : DRow), rs[i]? = some r → r.key.length ≤ 2097152) :
    Calls Try.prog 60 #[rv, .func (.func 63) #[] #[.pointer (some ⟨g, 0, none⟩)]] w fun e w' => ∃ v' F, e = .returned v' ∧ SSG w.heap.size w' v' (keysP (fun r => hasB r.key p) rs).length F (at_ (keysP (fun r => hasB r.key p) rs)) ∧ Below w.heap.size w w' := by
  have hE : ∀ w : World, ∀ o, Ext w (w.alloc o) := fun w o => World.grownBy_alloc _ _ _
  have hB : ∀ w : World, ∀ o, Below w.heap.size w (w.alloc o) := fun w o => (Below.refl _ w).alloc (Nat.le_refl _) _
  obtain ⟨C, ⟨a, cap, rfl, h1, h2, h3⟩, hC⟩ := hr
  have HC : Hid (∀ i r, rs[i]? = some r → RV w (C i 0) r.key ∧ RV w (C i 1) r.val ∧ C i 2 = .int .i64 r.turned ∧ C i 3 = .int .i64 r.holder) := hC
  have HKK : Hid (∀ (i : Nat) (r : DRow), rs[i]? = some r → r.key.length ≤ 2097152) := hkl
  have HG : Hid (w.cell? ⟨g, 0, none⟩ = some pv) := hg
  have HP : Hid (RV w pv p ∧ p.length ≤ 2097152) := ⟨hp, hpl⟩
  clear hp hpl
  clear hC hkl hg
  obtain ⟨n, hn⟩ : ∃ n, n = rs.length := ⟨_, rfl⟩
  rw [← hn] at h1 h3 hn20 ⊢
  have HN : Hid (n = rs.length) := hn
  clear hn
  unfold maxLen at h2
  have H3 : Hid (0 < n → ∃ b o, a = some ⟨b, o, none⟩ ∧ b < w.heap.size ∧ ∀ i, i < n → ∀ j, j < 4 → w.cell? ⟨b, o + i * 4 + j, none⟩ = some (C i j)) := h3
  clear h3
  go_enter Try.func60, Try.ntmps60
  go_wp2
  go_loopw [5, 10] (fun vo i wr => ∃ k : Nat, k ≤ n ∧ i = .int .i64 k ∧ Hid (Below w.heap.size w wr) ∧ Hid (∃ F, SSG w.heap.size wr vo (keysP (fun r => hasB r.key p) (rs.take k)).length F (at_ (keysP (fun r => hasB r.key p) (rs.take k))))) (fun _ i _ => n - (intOf i).toNat)
  case atStart => exact ⟨0, Nat.zero_le _, rfl, Below.refl _ _, fun _ => .slice none 0 0, SSG.nil _ _ _ _⟩
  case round =>
    obtain ⟨k, hk, rfl, hgb, hss⟩ := hrel
    by_cases hlt : k < n
    · obtain ⟨b, o, rfl, hbl, hc⟩ := H3.out (by omega)
      obtain ⟨s, hs⟩ : ∃ s, rs[k]? = some s := ⟨_, List.getElem?_eq_getElem (by have := HN.out; omega)⟩
      obtain ⟨e0, e1, e2, e3⟩ := HC.out k s hs
      have X := ext_below hgb.out
      have c0 := World.grownBy.cell X (hc k hlt 0 (by omega)) (by simp)
      have c1 := World.grownBy.cell X (hc k hlt 1 (by omega)) (by simp)
      have c2 := World.grownBy.cell X (hc k hlt 2 (by omega)) (by simp)
      have c3 := World.grownBy.cell X (hc k hlt 3 (by omega)) (by simp)
      have HK : Hid (RV wr (C k 0) s.key) := e0.ext X
      have HGW : Hid (wr.cell? ⟨g, 0, none⟩ = some pv) := World.grownBy.cell X HG.out (by simp)
      have HPW : Hid (RV wr pv p) := HP.out.1.ext X
      obtain ⟨ka, kc, ek, _, _, _⟩ := e0
      obtain ⟨va, vc, ev, _, _, _⟩ := e1
      rw [Nat.add_zero, ek] at c0
      rw [ev] at c1
      rw [e2] at c2
      rw [e3] at c3
      have HKR : Hid (Rd wr ka s.key.length s.key) := by
        have := HK.out
        rw [ek] at this
        obtain ⟨_, _, e, hrd, _, _⟩ := this
        cases e
        exact hrd
      have hlt' : (k : Int) < (n : Int) := by omega
      have HNX := keysP_next (fun r => hasB r.key p) rs k s hs
      have HKN : Hid (s.key.length ≤ 2097152) := HKK.out k s hs
      have HAL : Hid ((keysP (fun r => hasB r.key p) (rs.take k)).length ≤ 20) := by
        show (((rs.take k).filter _).map _).length ≤ 20
        rw [List.length_map]
        refine Nat.le_trans (List.length_filter_le _ _) ?_
        rw [List.length_take]
        omega
      generalize keysP (fun r => hasB r.key p) (rs.take k) = acc at hss HNX HAL
      rw [ek] at HK
      clear hc e2 e3 X ek ev
      obtain ⟨kl, hkl⟩ : ∃ kl, s.key.length = kl := ⟨_, rfl⟩
      have HKL : Hid (s.key.length = kl) := hkl
      rw [hkl] at c0 HKR HKN HK
      have HSL : Hid (s.key.length ≤ 2097152) := by rw [hkl]; exact HKN.out
      generalize s.val.length = vl at c1
      clear hkl
      cases hh : hasB s.key p
      case true =>
        have HNX2 : Hid (keysP (fun r => hasB r.key p) (rs.take (k + 1)) = acc ++ [s.key]) := by
          show _ = _
          rw [HNX, if_pos hh]
        have HHH : Hid (hasB s.key p = true) := hh
        clear HNX hh hs
        obtain ⟨F, hF⟩ := hss.out
        have HFS : Hid (SSG w.heap.size wr _ acc.length F (at_ acc)) := hF
        have HFL : Hid (∀ i, i < acc.length → ∀ q, (F i).ownBlock = some q → q < wr.heap.size) := fun i hi q hq => ((hF.tx i hi).lt q hq).2
        have hwz : w.heap.size ≤ wr.heap.size := hgb.out.size
        clear hss hF
        go_wp2_with (first
          | (go_at_call 63; refine (keys1V ka va kl kc vl vc s.key s.turned s.holder pv p g _ (HK.out.ext (hE wr _)) (HPW.out.ext (hE wr _)) HSL.out HP.out.2 (World.grownBy.cell (hE wr _) HGW.out (by simp))).mono ?_; rintro e w5 ⟨rfl, b5⟩; rw [HHH.out]; have HB5 : Hid (Below wr.heap.size wr w5) := (hB wr _).trans (b5.mono (by simp)); obtain ⟨y0, _⟩ := at_block (below_blk b5 (by simp) (heap_alloc_new wr _)) 0 _ rfl; have hs5 := HB5.out.size; clear b5)
          | (go_at_call 48; refine (clone ka kl kc s.key w5 (HKR.out.grown (ext_below HB5.out)) HKN.out).mono ?_; rintro e w8 ⟨v8, rfl, ow8, b8⟩; obtain ⟨a8, c8, rfl⟩ := ow_shape ow8; rw [HKL.out] at ow8 ⊢; have HB8 : Hid (Below wr.heap.size wr w8) := HB5.out.trans (b8.mono hs5); have HF8 : Hid (SSG w.heap.size w8 _ acc.length F (at_ acc)) := HFS.out.ext (ext_below HB8.out); have hs8 := b8.size; have HOW8 : Hid (Ow w8 w5.heap.size (.slice a8 kl c8) s.key) := ow8; clear ow8 b8)
          | (at_builtin; refine wpList_append_tb _ rfl (.tmp 17) (.tmp 21) rfl w.heap.size _ acc.length _ rfl (HF8.out.ext (hE _ _)).row w8.heap.size (.slice a8 kl c8) rfl (at_block (heap_alloc_new w8 _) 0 _ rfl).1 rfl (by have := HAL.out; omega) (by simp; omega) ?_; intro v9 w9 ow9 g9))
        have X9 : Ext w8 (w8.alloc (.cells #[.slice a8 kl c8] 28 (0, 0))) := hE _ _
        have HG9 : Hid (Below w.heap.size w w9) := (((hgb.out.trans (HB8.out.mono hgb.out.size))).grown X9 (by omega) (fun k hk => by cases hk)).grown g9 (by simp; omega) (fun k hk => ((HF8.out.ext X9).row.lt k hk).1)
        have HS9 : Hid (∃ F, SSG w.heap.size w9 v9 (keysP (fun r => hasB r.key p) (rs.take (k + 1))).length F (at_ (keysP (fun r => hasB r.key p) (rs.take (k + 1))))) := by
          show ∃ F, _
          rw [HNX2.out]
          exact ⟨_, ((HF8.out.ext X9).next (ow_base (HOW8.out.ext X9) (by omega)) (HOW8.out.ext X9) (fun i hi q hq => by have := HFL.out i hi q hq; omega) ow9 g9).as (by simp) (fun i hi => at_push acc s.key i hi)⟩
        clear X9 ow9 g9 HB8 HF8 HOW8 hgb
        go_roundw
        case rel => exact ⟨k + 1, by omega, by go_num, HG9.out, HS9.out⟩
        case measure => simp [intOf]; omega
      · have HNX2 : Hid (keysP (fun r => hasB r.key p) (rs.take (k + 1)) = acc) := by
          show _ = _
          rw [HNX, if_neg (by rw [hh]; simp)]
          simp
        have HHH : Hid (hasB s.key p = false) := hh
        clear HNX hh hs
        go_wp2_with (go_at_call 63; refine (keys1V ka va kl kc vl vc s.key s.turned s.holder pv p g _ (HK.out.ext (hE wr _)) (HPW.out.ext (hE wr _)) HSL.out HP.out.2 (World.grownBy.cell (hE wr _) HGW.out (by simp))).mono ?_; rintro e w5 ⟨rfl, b5⟩; rw [HHH.out]; have HB5 : Hid (Below wr.heap.size wr w5) := (hB wr _).trans (b5.mono (by simp)); clear b5)
        go_roundw
        case rel => exact ⟨k + 1, by omega, by go_num, hgb.out.trans (HB5.out.mono hgb.out.size), by rw [HNX2.out]; exact ⟨hss.out.choose, hss.out.choose_spec.ext (ext_below HB5.out)⟩⟩
        case measure => simp [intOf]; omega
    · have hkn : n = k := by omega
      subst hkn
      have HF : Hid (∃ F, SSG w.heap.size wr u5 (keysP (fun r => hasB r.key p) rs).length F (at_ (keysP (fun r => hasB r.key p) rs))) := by
        have := hss.out
        rw [List.take_of_length_le (by have := HN.out; omega)] at this
        exact this
      clear hss
      go_wp2
      go_ret
      obtain ⟨F, hF⟩ := HF.out
      exact ⟨_, F, rfl, hF, hgb.out⟩


theorem kyV_kb (S : DState) (p : List Int) (hr : rngSt S) : KB (kyV S p) := by
  unfold kyV
  split
  · rename_i hok
    have hst := tB_iff.1 hok
    refine ⟨?_, fun i hi => ?_, fun i hi => ?_⟩
    · have := keysP_len (fun r => hasB r.key p) S.rows
      have := hst.2.2.2.1.1
      omega
    · obtain ⟨j, r, hj, e⟩ := keysP_in hi
      rw [e]
      exact keyB_20 (hst.2.2.2.1.2 j (List.getElem?_eq_some_iff.1 hj).1 r hj).1
    · obtain ⟨j, r, hj, e⟩ := keysP_in hi
      rw [e]
      exact (hr.1 j r hj).1
  · exact KB.nil

set_option maxHeartbeats 4000000 in
theorem iKeysV (v u : Value) (S : DState) (p : List Int) (w : World) (h : VState w v S) (hp : RV w u p) (hpl : p.length ≤ 2097152) :
    Calls Try.prog 29 #[v, u] w fun e w' => ∃ v' F, e = .returned v' ∧ SSG w.heap.size w' v' (kyV S p).length F (at_ (kyV S p)) ∧ Below w.heap.size w w' := by
  have hE : ∀ w : World, ∀ o, Ext w (w.alloc o) := fun w o => World.grownBy_alloc _ _ _
  have hB : ∀ w : World, ∀ o, Below w.heap.size w (w.alloc o) := fun w o => (Below.refl _ w).alloc (Nat.le_refl _) _
  have hmf : ∀ (fn : Fn) (first cap : Array Value) (w : World), (Instr.makeFunc fn first cap).run Try.prog w = .ok (.func fn first cap) w := fun _ _ _ _ => rfl
  have h0 : Hid (VState w v S) := h
  obtain ⟨rv, tv, sv, lv, rfl, hr, ht, hs, _⟩ := h
  have HRW : Hid (VRows w rv S.rows) := hr
  have HP : Hid (RV w u p ∧ p.length ≤ 2097152) := ⟨hp, hpl⟩
  clear hpl
  obtain ⟨pa, pc, rfl, _, _, _⟩ := hp
  go_enter Try.func29, Try.ntmps29
  go_wp2_with fail
  refine (iStateOkV _ S _ (h0.out.ext (by first | exact hE _ _ | exact (hE _ _).tr (hE _ _)))).mono ?_
  rintro e w1 ⟨rfl, b1⟩
  have R1 := below_blk b1 (by simp; omega) (h2_0 w _ _)
  have T1 := below_blk b1 (by simp) (h2_1 w _ _)
  have hs1 : w.heap.size + 2 ≤ w1.heap.size := by have := b1.size; simp at this; omega
  have B1 : Below w.heap.size w w1 := ((hB w _).alloc (by simp) _).trans (b1.mono (by simp; omega))
  clear b1
  obtain ⟨t0, _⟩ := at_block T1 0 _ rfl
  cases hok : tB (StP S)
  · have HL : Hid (kyV S p = []) := if_neg (by rw [hok]; simp)
    go_wp2
    go_ret
    exact ⟨_, fun _ => .slice none 0 0, rfl, by rw [HL.out]; exact SSG.nil _ _ _ _, B1⟩
  have HL : Hid (kyV S p = keysP (fun r => hasB r.key p) S.rows) := if_pos hok
  have HST : Hid (StP S) := tB_iff.1 hok
  clear hok
  obtain ⟨x1, _⟩ := at_block R1 1 _ rfl
  go_wp2_with fail
  refine (keysKeysV _ S.rows _ p _ w1 (HRW.out.ext (ext_below B1)) t0 (HP.out.1.ext (ext_below B1)) HP.out.2 HST.out.2.2.2.1.1 (fun i r hr => keyB_len' (HST.out.2.2.2.1.2 i (List.getElem?_eq_some_iff.1 hr).1 r hr).1)).mono ?_
  rintro e w2 ⟨v2, F, rfl, hF, b2⟩
  have B2 := B1.trans (b2.mono B1.size)
  have HF2 : Hid (SSG w.heap.size w2 v2 (kyV S p).length F (at_ (kyV S p))) := by
    show SSG _ _ _ _ _ _
    rw [HL.out]
    exact hF.down (by omega)
  clear hF b2
  go_wp2
  go_ret
  exact ⟨_, F, rfl, HF2.out, B2⟩

end Go.Proofs.Ytplgnohncdfgcak
