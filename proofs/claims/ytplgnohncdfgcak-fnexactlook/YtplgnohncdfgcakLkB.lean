/- The contract of the program's Look. -/
import Derived.Test.YtplgnohncdfgcakLkA
import Derived.Test.YtplgnohncdfgcakClone
namespace Go.Proofs.Ytplgnohncdfgcak
open Go.RowKit

/-- What a walk through Look knows: the state's box, the result's. -/
structure LI (w : World) (st : Array Value) (wr : World) : Prop where
  b : Below w.heap.size w wr
  r : wr.heap[w.heap.size]? = some (.cells st 38 (0, 0))
  t : wr.heap[w.heap.size + 1]? = some (.cells #[.int .i64 0, .bool false, .slice none 0 0] 31 (0, 0))
theorem LI.below {w : World} {st : Array Value} {wr u : World} (h : LI w st wr) (hb : Below wr.heap.size wr u) : LI w st u :=
  ⟨h.b.trans (hb.mono h.b.size), below_blk hb (Array.getElem?_eq_some_iff.1 h.r).1 h.r, below_blk hb (Array.getElem?_eq_some_iff.1 h.t).1 h.t⟩
theorem LI.sz {w : World} {st : Array Value} {wr : World} (h : LI w st wr) : w.heap.size + 2 ≤ wr.heap.size := (Array.getElem?_eq_some_iff.1 h.t).1

set_option maxHeartbeats 4000000 in
theorem iLookV (v u : Value) (S : DState) (p : List Int) (w : World) (h : VState w v S) (hp : RV w u p) :
    Calls Try.prog 13 #[v, u] w fun e w' => ∃ vv, e = .returned (.agg #[.int .i64 (lkV S p).1, .bool (lkV S p).2.1, vv]) ∧ Ow w' w.heap.size vv (lkV S p).2.2 ∧ Below w.heap.size w w' := by
  have hE : ∀ w : World, ∀ o, Ext w (w.alloc o) := fun w o => World.grownBy_alloc _ _ _
  have hB : ∀ w : World, ∀ o, Below w.heap.size w (w.alloc o) := fun w o => (Below.refl _ w).alloc (Nat.le_refl _) _
  have h0 : Hid (VState w v S) := h
  have HP : Hid (RV w u p) := hp
  obtain ⟨rv, tv, sv, lv, rfl, hr, ht, _, _⟩ := h
  obtain ⟨pa, pc, rfl, _, _, _⟩ := hp
  go_enter Try.func13, Try.ntmps13
  go_wp2_with fail
  refine (iStateOkV _ S _ (h0.out.ext (by first | exact hE _ _ | exact (hE _ _).tr (hE _ _)))).mono ?_
  rintro e w1 ⟨rfl, b1⟩
  have R1 := below_blk b1 (by simp; omega) (h2_0 w _ _)
  have T1 := below_blk b1 (by simp) (h2_1 w _ _)
  have hs1 : w.heap.size + 2 ≤ w1.heap.size := by have := b1.size; simp at this; omega
  have B1 : Below w.heap.size w w1 := ((hB w _).alloc (by simp) _).trans (b1.mono (by simp; omega))
  clear b1
  obtain ⟨t0, g0⟩ := at_block T1 0 _ rfl
  obtain ⟨t1, g1⟩ := at_block T1 1 _ rfl
  obtain ⟨t2, g2⟩ := at_block T1 2 _ rfl
  cases hok : tB (StP S)
  · have HL : Hid (lkV S p = (0, false, [])) := if_neg (by rw [hok]; simp)
    clear hok R1
    go_wp2
    refine bodyPost_ret (v := .agg #[.int .i64 0, .bool false, .slice none 0 0]) (by simp [results, Try.results13, go_sem, t0, t1, t2]) rfl ?_
    refine ⟨_, by rw [HL.out], ?_, ?_⟩
    · rw [HL.out]
      exact World.ownsRow_nil _ _ _ _
    · repeat (refine below_set ?_ (by omega))
      exact B1
  have HKL : Hid (∀ (i : Nat) (r : DRow), S.rows[i]? = some r → r.val.length ≤ 2097152) := fun i r hr => by
    have := ((tB_iff.1 hok).2.2.2.1.2 i (List.getElem?_eq_some_iff.1 hr).1 r hr).2.1
    omega
  cases hkb : keyB p
  · have HL : Hid (lkV S p = (0, false, [])) := if_neg (by rw [hkb]; simp)
    clear hok R1
    go_wp2_with (go_at_call 22; refine (keyOkV _ p _ (HP.out.ext (ext_below B1))).mono ?_; rintro e w3 ⟨rfl, rfl⟩; rw [hkb])
    refine bodyPost_ret (v := .agg #[.int .i64 0, .bool false, .slice none 0 0]) (by simp [results, Try.results13, go_sem, t0, t1, t2]) rfl ?_
    refine ⟨_, by rw [HL.out], ?_, ?_⟩
    · rw [HL.out]
      exact World.ownsRow_nil _ _ _ _
    · repeat (refine below_set ?_ (by omega))
      exact B1
  have HL : Hid (lkV S p = lk0 S p) := if_pos ⟨hok, hkb⟩
  have HKB : Hid (keyB p = true) := hkb
  have HLI : Hid (LI w #[.int .i64 S.index, rv, tv, .int .i64 S.lost, sv, lv] w1) := ⟨B1, R1, T1⟩
  obtain ⟨x1, _⟩ := at_block R1 1 _ rfl
  obtain ⟨C, ⟨a, cap, rfl, h1, h2, h3⟩, hC⟩ := hr
  obtain ⟨D, ⟨a1, capt, rfl, h1t, h2t, h3t⟩, hD⟩ := ht
  have HC : Hid (∀ i r, S.rows[i]? = some r → RV w (C i 0) r.key ∧ RV w (C i 1) r.val ∧ C i 2 = .int .i64 r.turned ∧ C i 3 = .int .i64 r.holder) := hC
  have HD : Hid (∀ i r, S.tombs[i]? = some r → RV w (D i 0) r.key ∧ D i 1 = .int .i64 r.index) := hD
  clear hC hD hok hkb t0 t1 t2 g0 g1 g2 R1 T1
  obtain ⟨n, hn⟩ : ∃ n, n = S.rows.length := ⟨_, rfl⟩
  obtain ⟨m, hm⟩ : ∃ m, m = S.tombs.length := ⟨_, rfl⟩
  rw [← hn] at h1 h3 HLI x1 ⊢
  rw [← hm] at h1t h3t HLI ⊢
  have HN : Hid (n = S.rows.length ∧ m = S.tombs.length) := ⟨hn, hm⟩
  unfold maxLen at h2 h2t
  have H3 : Hid (0 < n → ∃ b o, a = some ⟨b, o, none⟩ ∧ b < w.heap.size ∧ ∀ i, i < n → ∀ j, j < 4 → w.cell? ⟨b, o + i * 4 + j, none⟩ = some (C i j)) := h3
  have H3t : Hid (0 < m → ∃ b o, a1 = some ⟨b, o, none⟩ ∧ b < w.heap.size ∧ ∀ i, i < m → ∀ j, j < 2 → w.cell? ⟨b, o + i * 2 + j, none⟩ = some (D i j)) := h3t
  clear h3 h3t hn hm
  go_wp2_with (go_at_call 22; refine (keyOkV _ p _ (HP.out.ext (ext_below B1))).mono ?_; rintro e w3 ⟨rfl, rfl⟩; rw [HKB.out])
  clear x1
  generalize hst : #[.int .i64 S.index, .slice a n cap, .slice a1 m capt, .int .i64 S.lost, sv, lv] = st at HLI
  have HST : Hid (#[.int .i64 S.index, .slice a n cap, .slice a1 m capt, .int .i64 S.lost, sv, lv] = st) := hst
  clear hst B1 hs1
  go_loopw [21] (fun i wr => ∃ k : Nat, k ≤ n ∧ i = .int .i64 k ∧ Hid (LI w st wr) ∧ Hid (∀ i r, i < k → S.rows[i]? = some r → (fun r : DRow => decide (r.key = p)) r = false)) (fun i _ => n - (intOf i).toNat)
  case atStart => exact ⟨0, Nat.zero_le _, rfl, HLI.out, fun i r hi => absurd hi (by omega)⟩
  case round =>
    obtain ⟨k, hk, rfl, hli, hall⟩ := hrel
    by_cases hlt : k < n
    · obtain ⟨b, o, rfl, hbl, hc⟩ := H3.out (by omega)
      obtain ⟨s, hs⟩ : ∃ s, S.rows[k]? = some s := ⟨_, List.getElem?_eq_getElem (by have := HN.out; omega)⟩
      obtain ⟨e0, e1, e2, e3⟩ := HC.out k s hs
      have X := ext_below hli.out.b
      have c0 := World.grownBy.cell X (hc k hlt 0 (by omega)) (by simp)
      have c1 := World.grownBy.cell X (hc k hlt 1 (by omega)) (by simp)
      have c2 := World.grownBy.cell X (hc k hlt 2 (by omega)) (by simp)
      have c3 := World.grownBy.cell X (hc k hlt 3 (by omega)) (by simp)
      have HK : Hid (RV wr (C k 0) s.key) := e0.ext X
      have HVW : Hid (RV wr (C k 1) s.val) := e1.ext X
      obtain ⟨ka, kc, ek, _, _, _⟩ := e0
      obtain ⟨va, vc, ev, _, _, _⟩ := e1
      rw [ek] at HK
      rw [ev] at HVW
      rw [Nat.add_zero, ek] at c0
      rw [ev] at c1
      rw [e2] at c2
      rw [e3] at c3
      have hlt' : (k : Int) < (n : Int) := by omega
      have HPW : Hid (RV wr (.slice pa p.length pc) p) := HP.out.ext X
      have HVN : Hid (s.val.length ≤ 2097152) := HKL.out k s hs
      have HVR : Hid (Rd wr va s.val.length s.val) := by
        obtain ⟨_, _, e, hrd, _, _⟩ := HVW.out
        cases e
        exact hrd
      clear hc e2 e3 X ek ev HVW
      generalize s.key.length = kl at c0 HK
      by_cases hkp : s.key = p
      · have HF : Hid (lk0 S p = (s.turned, true, s.val)) := by
          show lk0 S p = _
          unfold lk0
          rw [find_at hall.out hs (decide_eq_true hkp)]
        have HEQ : Hid (∀ W', Ext wr W' → Calls Try.prog 47 #[.slice ka kl kc, .slice pa p.length pc] W' fun e w' => e = .returned (.bool true) ∧ ∃ q, w' = W'.drewN q) := fun W' e => by
          have := equalV _ _ s.key p W' (HK.out.ext e) (HPW.out.ext e)
          rw [decide_eq_true hkp] at this
          exact this
        clear hkp hs hall
        obtain ⟨vl, hvl⟩ : ∃ vl, s.val.length = vl := ⟨_, rfl⟩
        have HVL3 : Hid (s.val.length = vl) := hvl
        rw [hvl] at c1 HVN HVR
        clear hvl
        go_wp2_with fail
        refine (HEQ.out _ (hE _ _)).mono ?_
        rintro e w2 ⟨rfl, q, rfl⟩
        have hsz := hli.out.sz
        have HB2 : Hid (Below wr.heap.size wr ((wr.alloc (.cells #[.slice ka kl kc, .slice va vl vc, .int .i64 s.turned, .int .i64 s.holder] 72 (0, 0))).drewN q)) := below_drewN (hB wr _) q
        have HL2 : Hid (LI w st ((wr.alloc (.cells #[.slice ka kl kc, .slice va vl vc, .int .i64 s.turned, .int .i64 s.holder] 72 (0, 0))).drewN q)) := hli.out.below HB2.out
        have K2 : ((wr.alloc (.cells #[.slice ka kl kc, .slice va vl vc, .int .i64 s.turned, .int .i64 s.holder] 72 (0, 0))).drewN q).heap[wr.heap.size]? = some (.cells #[.slice ka kl kc, .slice va vl vc, .int .i64 s.turned, .int .i64 s.holder] 72 (0, 0)) := heap_alloc_new wr _
        have s2 : wr.heap.size + 1 = ((wr.alloc (.cells #[.slice ka kl kc, .slice va vl vc, .int .i64 s.turned, .int .i64 s.holder] 72 (0, 0))).drewN q).heap.size := by simp
        have HVR2 : Hid (Rd ((wr.alloc (.cells #[.slice ka kl kc, .slice va vl vc, .int .i64 s.turned, .int .i64 s.holder] 72 (0, 0))).drewN q) va vl s.val) := HVR.out.grown (ext_below HB2.out)
        generalize (wr.alloc (.cells #[.slice ka kl kc, .slice va vl vc, .int .i64 s.turned, .int .i64 s.holder] 72 (0, 0))).drewN q = V at HL2 K2 s2 HVR2 ⊢
        obtain ⟨v1, _⟩ := at_block K2 1 _ rfl
        obtain ⟨v2, _⟩ := at_block K2 2 _ rfl
        clear HB2 c0 c1 c2 c3 HVR hli
        have HK2 : Hid (V.heap[wr.heap.size]? = some (.cells #[.slice ka kl kc, .slice va vl vc, .int .i64 s.turned, .int .i64 s.holder] 72 (0, 0))) := K2
        clear K2
        have hne : ¬ w.heap.size + 1 = wr.heap.size := by omega
        have hne' : w.heap.size + 1 ≠ wr.heap.size := by omega
        go_wp2_with fail
        go_region_held3 (fun w' => w'.cell? ⟨wr.heap.size, 1, none⟩ = some (.slice va vl vc) ∧ w'.cell? ⟨wr.heap.size, 2, none⟩ = some (.int .i64 s.turned)) (go_keep)
          ((go_at_call 48; refine (clone va vl vc s.val _ (HVR2.out.grown (ext_drewN V 1)) HVN.out).mono ?_; rintro e w9 ⟨vv, rfl, o9, b9⟩; obtain ⟨va9, vc9, rfl⟩ := ow_shape o9; rw [HVL3.out] at o9 ⊢; have HL9 := HL2.out.below ((below_drewN (Below.refl _ V) 1).trans (b9.mono (by simp))); obtain ⟨t0, g0⟩ := at_block HL9.t 0 _ rfl; obtain ⟨t1, g1⟩ := at_block HL9.t 1 _ rfl; obtain ⟨t2, g2⟩ := at_block HL9.t 2 _ rfl; have K9 := below_blk b9 (show wr.heap.size < V.drew.heap.size by simp; omega) (show V.drew.heap[wr.heap.size]? = _ from HK2.out); obtain ⟨y1, _⟩ := at_block K9 1 _ rfl; obtain ⟨y2, _⟩ := at_block K9 2 _ rfl))
        have hb9 := HL9.b
        have hs9 : V.drew.heap.size = wr.heap.size + 1 := s2.symm
        go_wp2
        refine bodyPost_ret (v := .agg #[.int .i64 s.turned, .bool true, .slice va9 vl vc9]) (by simp [results, Try.results13, go_sem, t0, t1, t2]) rfl ?_
        refine ⟨_, by rw [HL.out, HF.out], ?_, ?_⟩
        · rw [HL.out, HF.out]
          rw [← HVL3.out] at o9 ⊢
          refine ow_base (base := V.drew.heap.size) ?_ (by omega)
          repeat (refine ow_set ?_ (by omega))
          exact o9
        · repeat (refine below_set ?_ (by omega))
          exact hb9
      · have HA : Hid (∀ i r, i < k + 1 → S.rows[i]? = some r → (fun r : DRow => decide (r.key = p)) r = false) := fun i r' hi hr' => by
          by_cases e : i = k
          · subst e
            rw [hs] at hr'
            cases hr'
            exact decide_eq_false hkp
          · exact hall.out i r' (by omega) hr'
        have HEQ : Hid (∀ W', Ext wr W' → Calls Try.prog 47 #[.slice ka kl kc, .slice pa p.length pc] W' fun e w' => e = .returned (.bool false) ∧ ∃ q, w' = W'.drewN q) := fun W' e => by
          have := equalV _ _ s.key p W' (HK.out.ext e) (HPW.out.ext e)
          rw [decide_eq_false hkp] at this
          exact this
        clear hkp hs hall
        go_wp2_with (go_at_call 47; refine (HEQ.out _ (hE _ _)).mono ?_; rintro e w2 ⟨rfl, q, rfl⟩)
        go_roundw
        case rel => exact ⟨k + 1, by omega, by go_num, hli.out.below (below_drewN (hB wr _) q), HA⟩
        case measure => simp [intOf]; omega
    · have hkn : n = k := by omega
      subst hkn
      have HN1 : Hid (S.rows.find? (fun r => decide (r.key = p)) = none) := find_no (fun i r hr => hall.out i r (by have := (List.getElem?_eq_some_iff.1 hr).1; have := HN.out; omega) hr)
      have HLI2 : Hid (LI w st wr) := hli
      clear hall hli
      have rr := HLI2.out.r
      rw [← HST.out] at rr
      obtain ⟨r2, _⟩ := at_block rr 2 _ rfl
      clear rr
      go_wp2
      clear r2
      go_loopw [39] (fun i wr => ∃ k : Nat, k ≤ m ∧ i = .int .i64 k ∧ Hid (LI w st wr) ∧ Hid (∀ i r, i < k → S.tombs[i]? = some r → (fun r : DTomb => decide (r.key = p)) r = false)) (fun i _ => m - (intOf i).toNat)
      case atStart => exact ⟨0, Nat.zero_le _, rfl, HLI2.out, fun i r hi => absurd hi (by omega)⟩
      case round =>
        obtain ⟨k, hk, rfl, hli, hall⟩ := hrel
        by_cases hlt : k < m
        · obtain ⟨b, o, rfl, hbl, hc⟩ := H3t.out (by omega)
          obtain ⟨s, hs⟩ : ∃ s, S.tombs[k]? = some s := ⟨_, List.getElem?_eq_getElem (by have := HN.out; omega)⟩
          obtain ⟨e0, e1⟩ := HD.out k s hs
          have X := ext_below hli.out.b
          have c0 := World.grownBy.cell X (hc k hlt 0 (by omega)) (by simp)
          have c1 := World.grownBy.cell X (hc k hlt 1 (by omega)) (by simp)
          have HK : Hid (RV wr (D k 0) s.key) := e0.ext X
          obtain ⟨ka, kc, ek, _, _, _⟩ := e0
          rw [ek] at HK
          rw [Nat.add_zero, ek] at c0
          rw [e1] at c1
          have hlt' : (k : Int) < (m : Int) := by omega
          have HPW : Hid (RV wr (.slice pa p.length pc) p) := HP.out.ext X
          clear hc e1 X ek
          generalize s.key.length = kl at c0 HK
          by_cases hkp : s.key = p
          · have HF : Hid (lk0 S p = (s.index, false, [])) := by
              show lk0 S p = _
              unfold lk0
              rw [HN1.out, find_at hall.out hs (decide_eq_true hkp)]
            have HEQ : Hid (∀ W', Ext wr W' → Calls Try.prog 47 #[.slice ka kl kc, .slice pa p.length pc] W' fun e w' => e = .returned (.bool true) ∧ ∃ q, w' = W'.drewN q) := fun W' e => by
              have := equalV _ _ s.key p W' (HK.out.ext e) (HPW.out.ext e)
              rw [decide_eq_true hkp] at this
              exact this
            clear hkp hs hall
            go_wp2_with fail
            refine (HEQ.out _ (hE _ _)).mono ?_
            rintro e w2 ⟨rfl, q, rfl⟩
            have hsz := hli.out.sz
            have HL2 : Hid (LI w st ((wr.alloc (.cells #[.slice ka kl kc, .int .i64 s.index] 74 (0, 0))).drewN q)) := hli.out.below (below_drewN (hB wr _) q)
            have K2 : ((wr.alloc (.cells #[.slice ka kl kc, .int .i64 s.index] 74 (0, 0))).drewN q).heap[wr.heap.size]? = some (.cells #[.slice ka kl kc, .int .i64 s.index] 74 (0, 0)) := heap_alloc_new wr _
            generalize (wr.alloc (.cells #[.slice ka kl kc, .int .i64 s.index] 74 (0, 0))).drewN q = V at HL2 K2 ⊢
            obtain ⟨v1, _⟩ := at_block K2 1 _ rfl
            obtain ⟨t0, g0⟩ := at_block HL2.out.t 0 _ rfl
            obtain ⟨t1, g1⟩ := at_block HL2.out.t 1 _ rfl
            obtain ⟨t2, g2⟩ := at_block HL2.out.t 2 _ rfl
            have hb9 := HL2.out.b
            clear c0 c1 hli K2
            go_wp2
            refine bodyPost_ret (v := .agg #[.int .i64 s.index, .bool false, .slice none 0 0]) (by simp [results, Try.results13, go_sem, t0, t1, t2]) rfl ?_
            refine ⟨_, by rw [HL.out, HF.out], ?_, ?_⟩
            · rw [HL.out, HF.out]
              exact World.ownsRow_nil _ _ _ _
            · repeat (refine below_set ?_ (by omega))
              exact hb9
          · have HA : Hid (∀ i r, i < k + 1 → S.tombs[i]? = some r → (fun r : DTomb => decide (r.key = p)) r = false) := fun i r' hi hr' => by
              by_cases e : i = k
              · subst e
                rw [hs] at hr'
                cases hr'
                exact decide_eq_false hkp
              · exact hall.out i r' (by omega) hr'
            have HEQ : Hid (∀ W', Ext wr W' → Calls Try.prog 47 #[.slice ka kl kc, .slice pa p.length pc] W' fun e w' => e = .returned (.bool false) ∧ ∃ q, w' = W'.drewN q) := fun W' e => by
              have := equalV _ _ s.key p W' (HK.out.ext e) (HPW.out.ext e)
              rw [decide_eq_false hkp] at this
              exact this
            clear hkp hs hall
            go_wp2_with (go_at_call 47; refine (HEQ.out _ (hE _ _)).mono ?_; rintro e w2 ⟨rfl, q, rfl⟩)
            go_roundw
            case rel => exact ⟨k + 1, by omega, by go_num, hli.out.below (below_drewN (hB wr _) q), HA⟩
            case measure => simp [intOf]; omega
        · have hkm : m = k := by omega
          subst hkm
          have HF : Hid (lk0 S p = (S.lost, false, [])) := by
            show lk0 S p = _
            unfold lk0
            rw [HN1.out, find_no (fun i r hr => hall.out i r (by have := (List.getElem?_eq_some_iff.1 hr).1; have := HN.out; omega) hr)]
          have rr := hli.out.r
          rw [← HST.out] at rr
          obtain ⟨r3, _⟩ := at_block rr 3 _ rfl
          obtain ⟨t0, g0⟩ := at_block hli.out.t 0 _ rfl
          obtain ⟨t1, g1⟩ := at_block hli.out.t 1 _ rfl
          obtain ⟨t2, g2⟩ := at_block hli.out.t 2 _ rfl
          have hb9 := hli.out.b
          clear hall hli rr
          go_wp2
          refine bodyPost_ret (v := .agg #[.int .i64 S.lost, .bool false, .slice none 0 0]) (by simp [results, Try.results13, go_sem, t0, t1, t2]) rfl ?_
          refine ⟨_, by rw [HL.out, HF.out], ?_, ?_⟩
          · rw [HL.out, HF.out]
            exact World.ownsRow_nil _ _ _ _
          · repeat (refine below_set ?_ (by omega))
            exact hb9

end Go.Proofs.Ytplgnohncdfgcak
