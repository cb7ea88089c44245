/- The contract of the specification's Turned. -/
import Derived.Test.YtplgnohncdfgcalTxX
import Derived.Test.YtplgnohncdfgcalSFind
namespace Go.Proofs.Ytplgnohncdfgcal
open Go.RowKit

/-- The keys of the tombs that p wants. -/
def keysT (p : DTomb → Bool) (rs : List DTomb) : List (List Int) := (rs.filter p).map (·.key)
theorem keysT_next (p : DTomb → Bool) (rs : List DTomb) (k : Nat) (r : DTomb) (h : rs[k]? = some r) : keysT p (rs.take (k + 1)) = keysT p (rs.take k) ++ (if p r = true then [r.key] else []) := by
  unfold keysT
  rw [List.take_add_one, h]
  simp [List.filter_append, List.filter_cons]
  split <;> simp_all
theorem keysT_len (p : DTomb → Bool) (rs : List DTomb) : (keysT p rs).length ≤ rs.length := by
  unfold keysT
  rw [List.length_map]
  exact List.length_filter_le _ _

/-- What Turned must tell. -/
def trV (S : DState) (c : Int) (hD : Decidable (StP S) := Classical.propDecidable (StP S)) : List (List Int) × Bool :=
  if tB (StP S) hD = true ∧ ¬ c < S.lost then (keysP (fun r => decide (c < r.turned)) S.rows ++ keysT (fun t => decide (c < t.index)) S.tombs, true) else ([], false)

set_option maxHeartbeats 4000000 in
set_option maxRecDepth 100000 in
theorem sTurnedV (hI : SaysOk 42) (v : Value) (S : DState) (c : Int) (w : World) (h : VState w v S) :
    Calls Try.prog 9 #[v, .int .i64 c] w fun e w' => ∃ v' F, e = .returned (.tuple #[v', .bool (trV S c).2]) ∧ SSG w.heap.size w' v' (trV S c).1.length F (at_ (trV S c).1) ∧ Below w.heap.size w w' := by
  have hE : ∀ w : World, ∀ o, Ext w (w.alloc o) := fun w o => World.grownBy_alloc _ _ _
  have hB : ∀ w : World, ∀ o, Below w.heap.size w (w.alloc o) := fun w o => (Below.refl _ w).alloc (Nat.le_refl _) _
  have h0 : Hid (VState w v S) := h
  have HI : Hid (SaysOk 42) := hI
  clear hI
  obtain ⟨rv, tv, sv, lv, rfl, hr, ht, hs, _⟩ := h
  go_enter Try.func9, Try.ntmps9
  go_wp2_with fail
  refine (HI.out _ S _ (h0.out.ext (by first | exact hE _ _ | exact (hE _ _).tr (hE _ _)))).mono ?_
  rintro e w1 ⟨rfl, b1⟩
  have R1 := below_blk b1 (by simp) (heap_alloc_new w _)
  have hs1 : w.heap.size + 1 ≤ w1.heap.size := by have := b1.size; simp at this; omega
  have B1 : Below w.heap.size w w1 := (hB w _).trans (b1.mono (by simp))
  clear b1
  cases hok : tB (StP S)
  · have HL : Hid (trV S c = ([], false)) := if_neg (by rw [hok]; simp)
    go_wp2
    go_ret2
    exact ⟨.slice none 0 0, fun _ => .slice none 0 0, by rw [HL.out]; rfl, by rw [HL.out]; exact SSG.nil _ _ _ _, B1⟩
  have HST : Hid (StP S) := tB_iff.1 hok
  obtain ⟨x3, _⟩ := at_block R1 3 _ rfl
  by_cases hlo : c < S.lost
  · have HL : Hid (trV S c = ([], false)) := if_neg (fun h => h.2 hlo)
    have dlo : decide (c < S.lost) = true := decide_eq_true hlo
    clear hok hlo
    go_wp2
    go_ret2
    exact ⟨.slice none 0 0, fun _ => .slice none 0 0, by rw [HL.out]; rfl, by rw [HL.out]; exact SSG.nil _ _ _ _, B1⟩
  have HV : Hid (trV S c = (keysP (fun r => decide (c < r.turned)) S.rows ++ keysT (fun t => decide (c < t.index)) S.tombs, true)) := if_pos ⟨hok, hlo⟩
  have dlo : decide (c < S.lost) = false := decide_eq_false hlo
  clear hok hlo
  have R2 := R1
  have B2 := B1
  clear R1 B1
  obtain ⟨DD, ⟨a1, capt, rfl, h1t, h2t, h3t⟩, hD⟩ := ht
  have HD : Hid (∀ i r, S.tombs[i]? = some r → RV w (DD i 0) r.key ∧ DD i 1 = .int .i64 r.index) := hD
  clear hD
  obtain ⟨C, ⟨a, cap, rfl, h1, h2, h3⟩, hC⟩ := hr
  have HC : Hid (∀ i r, S.rows[i]? = some r → RV w (C i 0) r.key ∧ RV w (C i 1) r.val ∧ C i 2 = .int .i64 r.turned ∧ C i 3 = .int .i64 r.holder) := hC
  clear hC
  obtain ⟨n, hn⟩ : ∃ n, n = S.rows.length := ⟨_, rfl⟩
  obtain ⟨m, hm⟩ : ∃ m, m = S.tombs.length := ⟨_, rfl⟩
  rw [← hn] at h1 h3 R2 x3 ⊢
  rw [← hm] at h1t h3t R2 x3 ⊢
  have HN : Hid (n = S.rows.length ∧ m = S.tombs.length) := ⟨hn, hm⟩
  clear hn hm
  unfold maxLen at h2 h2t
  have H3t : Hid (0 < m → ∃ b o, a1 = some ⟨b, o, none⟩ ∧ b < w.heap.size ∧ ∀ i, i < m → ∀ j, j < 2 → w.cell? ⟨b, o + i * 2 + j, none⟩ = some (DD i j)) := h3t
  clear h3t
  have H3 : Hid (0 < n → ∃ b o, a = some ⟨b, o, none⟩ ∧ b < w.heap.size ∧ ∀ i, i < n → ∀ j, j < 4 → w.cell? ⟨b, o + i * 4 + j, none⟩ = some (C i j)) := h3
  clear h3
  go_wp2
  have HB0 : Hid (GI w #[.int .i64 S.index, .slice a n cap, .slice a1 m capt, .int .i64 S.lost, sv, lv] w1) := ⟨B2, R2⟩
  generalize hst : #[.int .i64 S.index, .slice a n cap, .slice a1 m capt, .int .i64 S.lost, sv, lv] = st at HB0
  have HST2 : Hid (#[.int .i64 S.index, .slice a n cap, .slice a1 m capt, .int .i64 S.lost, sv, lv] = st) := hst
  have HKK : Hid (∀ (i : Nat) (r : DRow), S.rows[i]? = some r → r.key.length ≤ 2097152) := fun i r hr => keyB_len' (HST.out.2.2.2.1.2 i (List.getElem?_eq_some_iff.1 hr).1 r hr).1
  have hn20 : n ≤ 20 := by have := HST.out.2.2.2.1.1; have := HN.out; omega
  clear hst B2 R2 dlo x3
  go_loopw [6, 7] (fun vo i wr => ∃ k : Nat, k ≤ n ∧ i = .int .i64 k ∧ Hid (GI w st wr) ∧ Hid (∃ F, SSG w.heap.size wr vo (keysP (fun r => decide (c < r.turned)) (S.rows.take k)).length F (at_ (keysP (fun r => decide (c < r.turned)) (S.rows.take k))))) (fun _ i _ => n - (intOf i).toNat)
  case atStart => exact ⟨0, Nat.zero_le _, rfl, HB0.out, fun _ => .slice none 0 0, SSG.nil _ _ _ _⟩
  case round =>
    obtain ⟨k, hk, rfl, hgi, hss⟩ := hrel
    have rr := hgi.out.r
    rw [← HST2.out] at rr
    obtain ⟨r1, _⟩ := at_block rr 1 _ rfl
    clear rr
    by_cases hlt : k < n
    · obtain ⟨b, o, rfl, hbl, hc⟩ := H3.out (by omega)
      obtain ⟨s, hs⟩ : ∃ s, S.rows[k]? = some s := ⟨_, List.getElem?_eq_getElem (by have := HN.out; omega)⟩
      obtain ⟨e0, _, e3, _⟩ := HC.out k s hs
      have X := ext_below hgi.out.b
      have c0 := World.grownBy.cell X (hc k hlt 0 (by omega)) (by simp)
      have c3 := World.grownBy.cell X (hc k hlt 2 (by omega)) (by simp)
      have HK : Hid (RV wr (C k 0) s.key) := e0.ext X
      obtain ⟨ka, kc, ek, _, _, _⟩ := e0
      rw [Nat.add_zero, ek] at c0
      rw [e3] at c3
      have HKR : Hid (Rd wr ka s.key.length s.key) := by
        have := HK.out
        rw [ek] at this
        obtain ⟨_, _, e, hrd, _, _⟩ := this
        cases e
        exact hrd
      have hlt' : (k : Int) < (n : Int) := by omega
      have HNX := keysP_next (fun r => decide (c < r.turned)) S.rows k s hs
      have HKN : Hid (s.key.length ≤ 2097152) := HKK.out k s hs
      have HAL : Hid ((keysP (fun r => decide (c < r.turned)) (S.rows.take k)).length ≤ 20) := by
        show (((S.rows.take k).filter _).map _).length ≤ 20
        rw [List.length_map]
        refine Nat.le_trans (List.length_filter_le _ _) ?_
        rw [List.length_take]
        omega
      generalize keysP (fun r => decide (c < r.turned)) (S.rows.take k) = acc at hss HNX HAL
      clear hc e3 X ek HK
      by_cases hh : c < s.turned
      · have HNX2 : Hid (keysP (fun r => decide (c < r.turned)) (S.rows.take (k + 1)) = acc ++ [s.key]) := by
          show _ = _
          rw [HNX, if_pos (decide_eq_true hh)]
        have dh : decide (c < s.turned) = true := decide_eq_true hh
        clear HNX hh hs
        obtain ⟨kl, hkl⟩ : ∃ kl, s.key.length = kl := ⟨_, rfl⟩
        have HKL : Hid (s.key.length = kl) := hkl
        rw [hkl] at c0 HKR HKN
        clear hkl
        have r1a : ∀ ob, (wr.alloc ob).cell? ⟨w.heap.size, 1, none⟩ = some (.slice (some ⟨b, o, none⟩) n cap) := fun ob => World.grownBy.cell (hE wr ob) r1 (by simp)
        have c0a : ∀ ob, (wr.alloc ob).cell? ⟨b, o + k * 4, none⟩ = some (.slice ka kl kc) := fun ob => World.grownBy.cell (hE wr ob) c0 (by simp)
        obtain ⟨F, hF⟩ := hss.out
        have HFS : Hid (SSG w.heap.size wr _ acc.length F (at_ acc)) := hF
        have HFL : Hid (∀ i, i < acc.length → ∀ q, (F i).ownBlock = some q → q < wr.heap.size) := fun i hi q hq => ((hF.tx i hi).lt q hq).2
        have hwz : w.heap.size + 1 ≤ wr.heap.size := (Array.getElem?_eq_some_iff.1 hgi.out.r).1
        clear hss hF
        go_wp2_with (first
          | (at_builtin; refine wpList_append_bytes _ rfl (.tmp 34) (.tmp 40) 44 rfl wr.heap.size info5 Try.underlying44 _ [] rfl (ow_empty wr) ka kl kc s.key rfl (HKR.out.grown (World.grownBy_alloc _ _ _)) (by have := HKN.out; simp; omega) (by simp) ?_; intro v8 w8 ow8 g8; simp only [List.nil_append] at ow8; obtain ⟨a8, c8, rfl⟩ := ow_shape ow8; rw [HKL.out] at ow8 ⊢; have HE8 := grown_alloc g8; have HF8 : Hid (SSG w.heap.size w8 _ acc.length F (at_ acc)) := SSG.far HFS.out HE8 (Nat.le_refl _); have HB8 : Hid (GI w st w8) := hgi.out.far HE8 (Nat.le_refl _); have HS8 : wr.heap.size + 1 ≤ w8.heap.size := grown_size g8; have HOW8 : Hid (Ow w8 wr.heap.size (.slice a8 kl c8) s.key) := ow8; clear ow8 g8 HE8)
          | (at_builtin; refine wpList_append_tb _ rfl (.tmp 33) (.tmp 42) rfl w.heap.size _ acc.length _ rfl (HF8.out.ext (hE _ _)).row w8.heap.size (.slice a8 kl c8) rfl (at_block (heap_alloc_new w8 _) 0 _ rfl).1 rfl (by have := HAL.out; omega) (by simp; omega) ?_; intro v9 w9 ow9 g9))
        have X9 : Ext w8 (w8.alloc (.cells #[.slice a8 kl c8] 44 (0, 0))) := hE _ _
        have HG9 : Hid (GI w st w9) := (hB8ext HB8.out X9).row (HF8.out.ext X9).row g9
        have HS9 : Hid (∃ F, SSG w.heap.size w9 v9 (keysP (fun r => decide (c < r.turned)) (S.rows.take (k + 1))).length F (at_ (keysP (fun r => decide (c < r.turned)) (S.rows.take (k + 1))))) := by
          show ∃ F, _
          rw [HNX2.out]
          exact ⟨_, ((HF8.out.ext X9).next (ow_base (HOW8.out.ext X9) (by omega)) (HOW8.out.ext X9) HFL.out ow9 g9).as (by simp) (fun i hi => at_push acc s.key i hi)⟩
        clear X9 ow9 g9 HB8 HF8 HOW8 hgi
        go_roundw
        case rel => exact ⟨k + 1, by omega, by go_num, HG9.out, HS9.out⟩
        case measure => simp [intOf]; omega
      · have HNX2 : Hid (keysP (fun r => decide (c < r.turned)) (S.rows.take (k + 1)) = acc) := by
          show _ = _
          rw [HNX, if_neg (by simpa using hh)]
          simp
        have dh : decide (c < s.turned) = false := decide_eq_false hh
        clear HNX hh hs
        go_wp2
        go_roundw
        case rel => exact ⟨k + 1, by omega, by go_num, hgi.out, by rw [HNX2.out]; exact hss.out⟩
        case measure => simp [intOf]; omega
    · have hkn : n = k := by omega
      subst hkn
      have HF0 : Hid (∃ F, SSG w.heap.size wr u6 (keysP (fun r => decide (c < r.turned)) S.rows).length F (at_ (keysP (fun r => decide (c < r.turned)) S.rows))) := by
        have := hss.out
        rw [List.take_of_length_le (by have := HN.out; omega)] at this
        exact this
      have HRL : Hid ((keysP (fun r => decide (c < r.turned)) S.rows).length ≤ 20) := by
        have := keysP_len (fun r => decide (c < r.turned)) S.rows
        have := HN.out
        show _ ≤ 20
        omega
      have hm10 : m ≤ 10 := by have := HST.out.2.2.2.2.1.1; have := HN.out; omega
      have HKKT : Hid (∀ (i : Nat) (r : DTomb), S.tombs[i]? = some r → r.key.length ≤ 2097152) := fun i r hr => keyB_len' (HST.out.2.2.2.2.1.2 i (List.getElem?_eq_some_iff.1 hr).1 r hr).1
      generalize keysP (fun r => decide (c < r.turned)) S.rows = rk at HF0 HRL HV
      have hgi0 : Hid (GI w st wr) := hgi
      clear hss hgi
      go_wp2
      clear r1
      go_loopw [6, 8] (fun vo i wr => ∃ k : Nat, k ≤ m ∧ i = .int .i64 k ∧ Hid (GI w st wr) ∧ Hid (∃ F, SSG w.heap.size wr vo (rk ++ keysT (fun t => decide (c < t.index)) (S.tombs.take k)).length F (at_ (rk ++ keysT (fun t => decide (c < t.index)) (S.tombs.take k))))) (fun _ i _ => m - (intOf i).toNat)
      case atStart => exact ⟨0, Nat.zero_le _, rfl, hgi0.out, (by have h5 := HF0.out; show ∃ F, _; simpa [keysT] using h5)⟩
      case round =>
        obtain ⟨k, hk, rfl, hgi, hss⟩ := hrel
        have rr := hgi.out.r
        rw [← HST2.out] at rr
        obtain ⟨r1, _⟩ := at_block rr 2 _ rfl
        clear rr
        by_cases hlt : k < m
        · obtain ⟨b, o, rfl, hbl, hc⟩ := H3t.out (by omega)
          obtain ⟨s, hs⟩ : ∃ s, S.tombs[k]? = some s := ⟨_, List.getElem?_eq_getElem (by have := HN.out; omega)⟩
          obtain ⟨e0, e3⟩ := HD.out k s hs
          have X := ext_below hgi.out.b
          have c0 := World.grownBy.cell X (hc k hlt 0 (by omega)) (by simp)
          have c3 := World.grownBy.cell X (hc k hlt 1 (by omega)) (by simp)
          have HK : Hid (RV wr (DD k 0) s.key) := e0.ext X
          obtain ⟨ka, kc, ek, _, _, _⟩ := e0
          rw [Nat.add_zero, ek] at c0
          rw [e3] at c3
          have HKR : Hid (Rd wr ka s.key.length s.key) := by
            have := HK.out
            rw [ek] at this
            obtain ⟨_, _, e, hrd, _, _⟩ := this
            cases e
            exact hrd
          have hlt' : (k : Int) < (m : Int) := by omega
          have HNX := keysT_next (fun t => decide (c < t.index)) S.tombs k s hs
          have HKN : Hid (s.key.length ≤ 2097152) := HKKT.out k s hs
          have HAL : Hid ((rk ++ keysT (fun t => decide (c < t.index)) (S.tombs.take k)).length ≤ 30) := by
            show (rk ++ _).length ≤ 30
            have h5 := keysT_len (fun t => decide (c < t.index)) (S.tombs.take k)
            have h6 := HRL.out
            rw [List.length_take] at h5
            rw [List.length_append]
            omega
          have HNX1 : Hid (rk ++ keysT (fun t => decide (c < t.index)) (S.tombs.take (k + 1)) = (rk ++ keysT (fun t => decide (c < t.index)) (S.tombs.take k)) ++ (if (fun t => decide (c < t.index)) s = true then [s.key] else [])) := by
            show _ = _
            rw [HNX, List.append_assoc]
          generalize rk ++ keysT (fun t => decide (c < t.index)) (S.tombs.take k) = acc at hss HNX1 HAL
          clear hc e3 X ek HK HNX
          by_cases hh : c < s.index
          · have HNX2 : Hid (rk ++ keysT (fun t => decide (c < t.index)) (S.tombs.take (k + 1)) = acc ++ [s.key]) := by
              show _ = _
              rw [HNX1.out, if_pos (decide_eq_true hh)]
            have dh : decide (c < s.index) = true := decide_eq_true hh
            clear HNX1 hh hs
            obtain ⟨kl, hkl⟩ : ∃ kl, s.key.length = kl := ⟨_, rfl⟩
            have HKL : Hid (s.key.length = kl) := hkl
            rw [hkl] at c0 HKR HKN
            clear hkl
            have r1a : ∀ ob, (wr.alloc ob).cell? ⟨w.heap.size, 2, none⟩ = some (.slice (some ⟨b, o, none⟩) m capt) := fun ob => World.grownBy.cell (hE wr ob) r1 (by simp)
            have c0a : ∀ ob, (wr.alloc ob).cell? ⟨b, o + k * 2, none⟩ = some (.slice ka kl kc) := fun ob => World.grownBy.cell (hE wr ob) c0 (by simp)
            obtain ⟨F, hF⟩ := hss.out
            have HFS : Hid (SSG w.heap.size wr _ acc.length F (at_ acc)) := hF
            have HFL : Hid (∀ i, i < acc.length → ∀ q, (F i).ownBlock = some q → q < wr.heap.size) := fun i hi q hq => ((hF.tx i hi).lt q hq).2
            have hwz : w.heap.size + 1 ≤ wr.heap.size := (Array.getElem?_eq_some_iff.1 hgi.out.r).1
            clear hss hF
            go_wp2_with (first
              | (at_builtin; refine wpList_append_bytes _ rfl (.tmp 60) (.tmp 66) 44 rfl wr.heap.size info5 Try.underlying44 _ [] rfl (ow_empty wr) ka kl kc s.key rfl (HKR.out.grown (World.grownBy_alloc _ _ _)) (by have := HKN.out; simp; omega) (by simp) ?_; intro v8 w8 ow8 g8; simp only [List.nil_append] at ow8; obtain ⟨a8, c8, rfl⟩ := ow_shape ow8; rw [HKL.out] at ow8 ⊢; have HE8 := grown_alloc g8; have HF8 : Hid (SSG w.heap.size w8 _ acc.length F (at_ acc)) := SSG.far HFS.out HE8 (Nat.le_refl _); have HB8 : Hid (GI w st w8) := hgi.out.far HE8 (Nat.le_refl _); have HS8 : wr.heap.size + 1 ≤ w8.heap.size := grown_size g8; have HOW8 : Hid (Ow w8 wr.heap.size (.slice a8 kl c8) s.key) := ow8; clear ow8 g8 HE8)
              | (at_builtin; refine wpList_append_tb _ rfl (.tmp 59) (.tmp 68) rfl w.heap.size _ acc.length _ rfl (HF8.out.ext (hE _ _)).row w8.heap.size (.slice a8 kl c8) rfl (at_block (heap_alloc_new w8 _) 0 _ rfl).1 rfl (by have := HAL.out; omega) (by simp; omega) ?_; intro v9 w9 ow9 g9))
            have X9 : Ext w8 (w8.alloc (.cells #[.slice a8 kl c8] 44 (0, 0))) := hE _ _
            have HG9 : Hid (GI w st w9) := (hB8ext HB8.out X9).row (HF8.out.ext X9).row g9
            have HS9 : Hid (∃ F, SSG w.heap.size w9 v9 (rk ++ keysT (fun t => decide (c < t.index)) (S.tombs.take (k + 1))).length F (at_ (rk ++ keysT (fun t => decide (c < t.index)) (S.tombs.take (k + 1))))) := by
              show ∃ F, _
              rw [HNX2.out]
              exact ⟨_, ((HF8.out.ext X9).next (ow_base (HOW8.out.ext X9) (by omega)) (HOW8.out.ext X9) HFL.out ow9 g9).as (by simp) (fun i hi => at_push acc s.key i hi)⟩
            clear X9 ow9 g9 HB8 HF8 HOW8 hgi
            go_roundw
            case rel => exact ⟨k + 1, by omega, by go_num, HG9.out, HS9.out⟩
            case measure => simp [intOf]; omega
          · have HNX2 : Hid (rk ++ keysT (fun t => decide (c < t.index)) (S.tombs.take (k + 1)) = acc) := by
              show _ = _
              rw [HNX1.out, if_neg (by simpa using hh)]
              simp
            have dh : decide (c < s.index) = false := decide_eq_false hh
            clear HNX1 hh hs
            go_wp2
            go_roundw
            case rel => exact ⟨k + 1, by omega, by go_num, hgi.out, by rw [HNX2.out]; exact hss.out⟩
            case measure => simp [intOf]; omega
        · have hkn : m = k := by omega
          subst hkn
          have HF : Hid (∃ F, SSG w.heap.size wr u6 (trV S c).1.length F (at_ (trV S c).1)) := by
            have := hss.out
            rw [List.take_of_length_le (by have := HN.out; omega)] at this
            rw [HV.out]
            exact this
          have HV2 : Hid ((trV S c).2 = true) := by show _ = _; rw [HV.out]
          clear hss
          go_wp2
          go_ret2
          obtain ⟨F, hF⟩ := HF.out
          exact ⟨_, F, by rw [HV2.out]; rfl, hF, hgi.out.b⟩

end Go.Proofs.Ytplgnohncdfgcal
