
/- The program's DutyTick. -/
import Derived.Test.YtnklnhnjmikooaaGreatTy0
namespace Go.Proofs.YtnklnhnjmikooaaGreat
open Go.RowKit

/-- What a call that answers a duty and operations that shut leaves. -/
def ResT (X : DDuty × List Int) (w : World) (e : Ending) (w' : World) : Prop := ∃ tv ov, e = .returned (.tuple #[.agg #[.int .i64 X.1.ttl, .int .i64 X.1.wh.now, tv], ov]) ∧ OwT w' w.heap.size tv X.1.wh.tms ∧ Row w.heap.size 95 4 w' ov X.2.length (opF X.2) ∧ Below w.heap.size w w'
theorem rowBase {b b' T K : Nat} {w : World} {v : Value} {n : Nat} {F : Nat → Nat → Value} (h : Row b T K w v n F) (hb : b' ≤ b) : Row b' T K w v n F := by
  obtain ⟨q1, q2⟩ := h
  refine ⟨q1, ?_⟩
  rcases q2 with q2 | ⟨g, c, cur, q2, q3, q4⟩
  · exact .inl q2
  · exact .inr ⟨g, c, cur, q2, Nat.le_trans hb q3, q4⟩
theorem info_Op4 : (Tryz.prog.info? 95).map (fun i => (i.zero, i.size, i.bytes)) = some (some (.agg #[.int .i64 0, .slice none 0 0, .slice none 0 0, .int .i64 0]), 4, 64) := by kernel_rfl

set_option maxRecDepth 20000 in
set_option maxHeartbeats 4000000 in
theorem iDutyTickV (v sv : Value) (D : DDuty) (S : DState) (k : Int) (w : World) (h : VDuty w v D) (hs : VState w sv S) (hl : D.wh.tms.length ≤ 1048576) :
    Calls Tryz.prog 17 #[v, sv, .int .i64 k] w (ResT (tickX (tB (DutyP D) && tB (StP S) && inB k 0 (1000000 - D.wh.now)) D S.sess k) w) := by
  have HV0 : Hid (VDuty w v D) := h
  have HS0 : Hid (VState w sv S) := hs
  have HL : Hid (D.wh.tms.length ≤ 1048576) := hl
  obtain ⟨tv, rfl, h⟩ := h
  obtain ⟨ta, tc', rfl⟩ := h.shape
  obtain ⟨n, hn⟩ : ∃ n, n = D.wh.tms.length := ⟨_, rfl⟩
  rw [← hn] at HV0 ⊢
  obtain ⟨rv, uv, sev, lv, rfl, hr, ht, hse, hla⟩ := hs
  have HSE : Hid (VSess w sev S.sess) := hse
  obtain ⟨sea, sec, hsev⟩ : ∃ a c, sev = .slice a S.sess.length c := by
    obtain ⟨C, ⟨a, c, e, _⟩, _⟩ := hse
    exact ⟨a, c, e⟩
  obtain ⟨sm, hsm⟩ : ∃ m, m = S.sess.length := ⟨_, rfl⟩
  rw [← hsm] at hsev
  subst hsev
  clear h hn hl hr ht hse hla hsm
  obtain ⟨c, hc⟩ : ∃ c, c = tB (DutyP D) := ⟨_, rfl⟩
  obtain ⟨d, hd⟩ : ∃ d, d = tB (StP S) := ⟨_, rfl⟩
  have HC : Hid (c = tB (DutyP D)) := hc
  have HD : Hid (d = tB (StP S)) := hd
  rw [← hc, ← hd]
  clear hc hd
  have HSO : Hid (∀ V, Ext w V → Calls Tryz.prog 36 #[.agg #[.int .i64 S.index, rv, uv, .int .i64 S.lost, .slice sea sm sec, lv]] V fun e w' => e = .returned (.bool d) ∧ Below V.heap.size V w') := fun V e => by rw [HD.out]; exact iStateOkV _ S V (HS0.out.ext e)
  have HDO : Hid (∀ V, Ext w V → Calls Tryz.prog 35 #[.agg #[.int .i64 D.ttl, .int .i64 D.wh.now, .slice ta n tc']] V fun e w' => e = .returned (.bool c) ∧ Below V.heap.size V w') := fun V e => by rw [HC.out]; exact iDutyOkV _ D V (HV0.out.ext e)
  obtain ⟨R, hR⟩ : ∃ R, R = tickX (c && d && inB k 0 (1000000 - D.wh.now)) D S.sess k := ⟨_, rfl⟩
  have HR : Hid (R = tickX (c && d && inB k 0 (1000000 - D.wh.now)) D S.sess k) := hR
  rw [← hR]
  clear hR
  go_enter Tryz.func17, Tryz.ntmps17
  go_upto_region 1 with fail
  have PA := al3a w (.cells #[.int .i64 D.ttl, .int .i64 D.wh.now, .slice ta n tc'] 39 (0, 0)) (.cells #[.int .i64 S.index, rv, uv, .int .i64 S.lost, .slice sea sm sec, lv] 48 (0, 0)) (.cells #[.int .i64 0, .int .i64 0, .slice none 0 0] 39 (0, 0))
  have PB := al3b w (.cells #[.int .i64 D.ttl, .int .i64 D.wh.now, .slice ta n tc'] 39 (0, 0)) (.cells #[.int .i64 S.index, rv, uv, .int .i64 S.lost, .slice sea sm sec, lv] 48 (0, 0)) (.cells #[.int .i64 0, .int .i64 0, .slice none 0 0] 39 (0, 0))
  have PR := al3c w (.cells #[.int .i64 D.ttl, .int .i64 D.wh.now, .slice ta n tc'] 39 (0, 0)) (.cells #[.int .i64 S.index, rv, uv, .int .i64 S.lost, .slice sea sm sec, lv] 48 (0, 0)) (.cells #[.int .i64 0, .int .i64 0, .slice none 0 0] 39 (0, 0))
  generalize hW : World.alloc (World.alloc (World.alloc w _) _) _ = W at PA PB PR ⊢
  have BW : Below w.heap.size w W := by rw [← hW]; exact (((Below.refl _ w).alloc (Nat.le_refl _) _).alloc (by simp) _).alloc (by simp; omega) _
  clear hW
  obtain ⟨x0, _⟩ := at_block PA 0 _ rfl
  obtain ⟨x1, _⟩ := at_block PA 1 _ rfl
  obtain ⟨x2, _⟩ := at_block PA 2 _ rfl
  go_wp2_with fail
  refine (HDO.out W (ext_below BW)).mono ?_
  rintro e w1 ⟨rfl, b1⟩
  have PA1 := below_blk b1 (Array.getElem?_eq_some_iff.1 PA).1 PA
  have PB1 := below_blk b1 (Array.getElem?_eq_some_iff.1 PB).1 PB
  have PR1 := below_blk b1 (Array.getElem?_eq_some_iff.1 PR).1 PR
  have HB1 : Hid (Below w.heap.size w w1) := BW.trans (b1.mono BW.size)
  clear b1 PA PB PR BW x0 x1 x2
  cases c
  · have HRZ : Hid (R = (⟨0, ⟨0, []⟩⟩, [])) := HR.out
    obtain ⟨z0, y0⟩ := at_block PR1 0 _ rfl
    obtain ⟨z1, y1⟩ := at_block PR1 1 _ rfl
    obtain ⟨z2, y2⟩ := at_block PR1 2 _ rfl
    clear PA1 PB1 PR1
    go_wp2
    refine bodyPost_ret (v := .tuple #[.agg #[.int .i64 0, .int .i64 0, .slice none 0 0], .slice none 0 0]) (by simp [results, Tryz.results17, go_sem, *]) rfl ?_
    rw [HRZ.out]
    refine ⟨_, _, rfl, World.ownsRow_nil _ _ _ _, Row.nil _ _ _ _ _, ?_⟩
    repeat (first | exact HB1.out | (refine Below.setCell ?_ (by simp <;> omega) _))
  obtain ⟨x0, _⟩ := at_block PB1 0 _ rfl
  obtain ⟨x1, _⟩ := at_block PB1 1 _ rfl
  obtain ⟨x2, _⟩ := at_block PB1 2 _ rfl
  obtain ⟨x3, _⟩ := at_block PB1 3 _ rfl
  obtain ⟨x4, _⟩ := at_block PB1 4 _ rfl
  obtain ⟨x5, _⟩ := at_block PB1 5 _ rfl
  go_wp2_with fail
  refine (HSO.out w1 (ext_below HB1.out)).mono ?_
  rintro e w2 ⟨rfl, b2⟩
  have PA2 := below_blk b2 (Array.getElem?_eq_some_iff.1 PA1).1 PA1
  have PB2 := below_blk b2 (Array.getElem?_eq_some_iff.1 PB1).1 PB1
  have PR2 := below_blk b2 (Array.getElem?_eq_some_iff.1 PR1).1 PR1
  have HB2 : Hid (Below w.heap.size w w2) := HB1.out.trans (b2.mono HB1.out.size)
  clear b2 PA1 PB1 PR1 x0 x1 x2 x3 x4 x5 HB1
  cases d
  · have HRZ : Hid (R = (⟨0, ⟨0, []⟩⟩, [])) := HR.out
    obtain ⟨z0, y0⟩ := at_block PR2 0 _ rfl
    obtain ⟨z1, y1⟩ := at_block PR2 1 _ rfl
    obtain ⟨z2, y2⟩ := at_block PR2 2 _ rfl
    clear PA2 PB2 PR2
    go_wp2
    refine bodyPost_ret (v := .tuple #[.agg #[.int .i64 0, .int .i64 0, .slice none 0 0], .slice none 0 0]) (by simp [results, Tryz.results17, go_sem, *]) rfl ?_
    rw [HRZ.out]
    refine ⟨_, _, rfl, World.ownsRow_nil _ _ _ _, Row.nil _ _ _ _ _, ?_⟩
    repeat (first | exact HB2.out | (refine Below.setCell ?_ (by simp <;> omega) _))
  have HDP : Hid (DutyP D) := tB_iff.1 HC.out.symm
  have HSP : Hid (StP S) := tB_iff.1 HD.out.symm
  have hnow := HDP.out.2.1.1
  have hw : IntKind.i64.wrap (1000000 - D.wh.now) = 1000000 - D.wh.now := wrapS (by omega) (by omega)
  obtain ⟨x0, _⟩ := at_block PA2 0 _ rfl
  obtain ⟨x1, _⟩ := at_block PA2 1 _ rfl
  obtain ⟨x2, _⟩ := at_block PA2 2 _ rfl
  go_wp2_with fail
  refine (withinV _ _ _ _).mono ?_
  rintro e w2 ⟨rfl, rfl⟩
  cases hin : inB k 0 (1000000 - D.wh.now)
  · have HRZ : Hid (R = (⟨0, ⟨0, []⟩⟩, [])) := by show _ = _; rw [HR.out, hin]; rfl
    obtain ⟨z0, y0⟩ := at_block PR2 0 _ rfl
    obtain ⟨z1, y1⟩ := at_block PR2 1 _ rfl
    obtain ⟨z2, y2⟩ := at_block PR2 2 _ rfl
    clear PA2 PB2 PR2 hin x0 x1 x2 hw hnow
    go_wp2
    refine bodyPost_ret (v := .tuple #[.agg #[.int .i64 0, .int .i64 0, .slice none 0 0], .slice none 0 0]) (by simp [results, Tryz.results17, go_sem, *]) rfl ?_
    rw [HRZ.out]
    refine ⟨_, _, rfl, World.ownsRow_nil _ _ _ _, Row.nil _ _ _ _ _, ?_⟩
    repeat (first | exact HB2.out | (refine Below.setCell ?_ (by simp <;> omega) _))
  have HKR : Hid (0 ≤ k ∧ k ≤ 1000000 - D.wh.now) := by simp only [inB, Bool.and_eq_true, decide_eq_true_eq] at hin; exact hin
  obtain ⟨⟨Q, qb⟩, hQ⟩ : ∃ q, q = syncW D S.sess := ⟨_, rfl⟩
  have HQ : Hid ((Q, qb) = syncW D S.sess) := hQ
  have HQP : Hid (WheelP Q ∧ Q.now = D.wh.now) := by have := syncW_p S.sess HDP.out.2.1; rw [← hQ] at this; exact this
  obtain ⟨⟨K, ids⟩, hK⟩ : ∃ q, q = tickD true Q k := ⟨_, rfl⟩
  have HK : Hid ((K, ids) = tickD true Q k) := hK
  have HKP : Hid (WheelP K) := by have := tickD_p HQP.out.1 HKR.out.1 (by have := HQP.out.2; have := HKR.out.2; omega); rw [← hK] at this; exact this
  have HIL : Hid (ids.length ≤ 40) := by have := tickD_len Q k; rw [← hK] at this; exact Nat.le_trans this HQP.out.1.2.1
  have HRZ : Hid (R = (⟨D.ttl, ringS D.ttl ids K⟩, ids)) := by
    show _ = _
    rw [HR.out, hin]
    unfold tickX
    rw [if_pos (show (true && true && true) = true from rfl), ← hQ]
    simp only
    rw [← hK]
  clear hQ hK hin hw hnow HR
  have HPB2 := hideD PB2
  have HPR2 := hideD PR2
  clear PA2 PB2 PR2
  go_wp2_with fail
  refine (keeperV _ D w2 (HV0.out.ext (ext_below HB2.out)) HL.out).mono ?_
  rintro e w3 ⟨k0, a3, c3, rfl, K3, b3⟩
  have HK3 := hideD K3
  have HPB3 := hideD (ext_blk (ext_below b3) HPB2.out)
  have HPR3 := hideD (ext_blk (ext_below b3) HPR2.out)
  have HB3 : Hid (Below w.heap.size w w3) := HB2.out.trans (b3.mono HB2.out.size)
  have HLO := hideD (Array.getElem?_eq_some_iff.1 HPR2.out).1
  have HZ3 := hideD b3.size
  obtain ⟨x4, _⟩ := at_block HPB3.out 4 _ rfl
  clear x0 x1 x2 K3 b3 HPB2 HPR2
  go_wp2_with fail
  refine (ksyncV k0 w2.heap.size c3 D.ttl D.wh.now a3 D.wh.tms _ S.sess w w3 HK3.out HZ3.out HDP.out.2.1 HSE.out HB3.out (by have := HK3.out.low; have := HB2.out.size; omega) (by have := HSP.out.2.2.1.1; omega)).mono ?_
  rintro e w4 ⟨rfl, a4, c4, K4, g4⟩
  rw [show (⟨D.ttl, ⟨D.wh.now, D.wh.tms⟩⟩ : DDuty) = D from rfl, ← HQ.out] at K4 ⊢
  have HK4 : Hid (KB w4 w2.heap.size k0 D.ttl Q.now a4 c4 Q.tms) := K4
  have HPR4 : Hid (w4.heap[w.heap.size + 2]? = some (.cells #[.int .i64 0, .int .i64 0, .slice none 0 0] 39 (0, 0))) := (g4.block _ (Array.getElem?_eq_some_iff.1 HPR3.out).1 (by have := HK3.out.low; have := HLO.out; simp; omega)).trans HPR3.out
  have HB4 : Hid (Below w.heap.size w w4) := HB3.out.grown g4 HB3.out.size (fun k' hk => by cases hk; exact Nat.le_trans HB2.out.size HK3.out.low)
  have HSE4 := hideD g4.size
  clear K4 g4 x4 HK3 HPB3 HPR3 HB3
  have HBW4 : Hid (w2.heap.size ≤ w4.heap.size) := Nat.le_trans HZ3.out HSE4.out
  go_wp2_with fail
  refine (goOnV k0 w2.heap.size c4 D.ttl Q.now a4 Q.tms k w4 HK4.out HBW4.out (Nat.le_trans HQP.out.1.2.1 (by omega))).mono ?_
  rintro e w5 ⟨rgv, rfl, i5, a5, c5, K5, g5⟩
  rw [tB_true (show WheelP ⟨Q.now, Q.tms⟩ from HQP.out.1), show (⟨Q.now, Q.tms⟩ : DWheel) = Q from rfl, ← HK.out] at i5 K5
  have HI5 := hideD i5
  have hrv : ∃ ra rc, rgv = .slice ra ids.length rc := by
    rcases i5.2 with ⟨h1, h2⟩ | ⟨g, c, cur, h1, _⟩
    · exact ⟨none, 0, by rw [h1, h2]⟩
    · exact ⟨_, c, h1⟩
  obtain ⟨ra, rc, rfl⟩ := hrv
  obtain ⟨q, hq⟩ : ∃ q, q = ids.length := ⟨_, rfl⟩
  have HQL := hideD hq
  rw [← hq] at HI5 ⊢
  have HK5 : Hid (KB w5 w2.heap.size k0 D.ttl K.now a5 c5 K.tms) := K5
  have HPR5 : Hid (w5.heap[w.heap.size + 2]? = some (.cells #[.int .i64 0, .int .i64 0, .slice none 0 0] 39 (0, 0))) := (g5.block _ (Array.getElem?_eq_some_iff.1 HPR4.out).1 (by have := HK4.out.low; have := HLO.out; simp; omega)).trans HPR4.out
  have HB5 : Hid (Below w.heap.size w w5) := HB4.out.grown g5 HB4.out.size (fun k' hk => by cases hk; exact Nat.le_trans HB2.out.size HK4.out.low)
  have HBW5 : Hid (w2.heap.size ≤ w5.heap.size) := Nat.le_trans HBW4.out g5.size
  have HK0 : Hid (k0 < w5.heap.size) := (Array.getElem?_eq_some_iff.1 K5.box).1
  have hql : (q : Int) ≤ 40 := by have := HIL.out; omega
  clear i5 K5 g5 hq HK4 HPR4 HB4
  go_wp2_with fail
  go_loopw [9, 42] (fun b i wr => ∃ j : Nat, j ≤ q ∧ i = .int .i64 j ∧ Hid (Row w5.heap.size 95 4 wr b j (opF ids)) ∧ Hid (KSet w2.heap.size k0 D.ttl (ringS D.ttl (ids.take j) K) w5 wr)) (fun _ i _ => q - (intOf i).toNat)
  case atStart => exact ⟨0, Nat.zero_le _, rfl, Row.nil _ _ _ _ _, a5, c5, HK5.out, World.grownBy.refl _ _⟩
  case round =>
    obtain ⟨j, hj, rfl, HROW, HKS⟩ := hrel
    obtain ⟨V, hV⟩ : ∃ V, V = ringS D.ttl (ids.take j) K := ⟨_, rfl⟩
    have HV := hideD hV
    have HVP : Hid (WheelP V) := by rw [hV]; exact ringS_p _ _ HKP.out
    rw [← hV] at HKS
    clear hV
    obtain ⟨HG, HKB⟩ : Hid (w5.grownBy wr (some k0)) ∧ Hid (∃ a2 cap2, KB wr w2.heap.size k0 D.ttl V.now a2 cap2 V.tms) := by
      obtain ⟨a2, cap2, k1, k2⟩ := HKS.out
      exact ⟨k2, a2, cap2, k1⟩
    obtain ⟨oa, oc, hov⟩ := HROW.out.shape
    subst hov
    by_cases hlt : j < q
    · obtain ⟨id, hid⟩ : ∃ id, ids[j]? = some id := ⟨_, List.getElem?_eq_getElem (by have := HQL.out; omega)⟩
      have HID := hideD hid
      have hiw : VL fI wr (.slice ra q rc) ids := OwI.vl (World.ownsRow.kept HI5.out HG.out (by
        right
        intro e
        rcases HI5.out.2 with ⟨h1, _⟩ | ⟨g, c, cur, h1, h2, h3, _⟩
        · rw [h1] at e; cases e
        · rw [h1] at e
          simp only [Value.ownBlock, Option.some.injEq] at e
          subst e
          rw [HK5.out.box] at h3
          simp only [Option.some.injEq, Obj.cells.injEq] at h3
          exact absurd h3.2.1 (by decide)))
      obtain ⟨ra', rc', e1, _, _, hcc⟩ := hiw
      rw [← HQL.out] at e1 hcc
      injection e1 with e2 _ e3
      obtain ⟨b, o, ha, hbl, hc⟩ := hcc (by omega)
      rw [← e2] at ha
      subst ha
      have x0 := hc j id hid
      unfold fI at x0
      have hlt' : (j : Int) < (q : Int) := by omega
      have HONE : Hid (∀ i, i < 1 → ∀ c, c < 4 → ((fun _ c => if c = 0 then .int .i64 5 else if c = 3 then .int .i64 id else .slice none 0 0 : Nat → Nat → Value) i c).oneCell' = true) := fun i _ c hc => by
        obtain rfl | rfl | rfl | rfl : c = 0 ∨ c = 1 ∨ c = 2 ∨ c = 3 := by omega
        all_goals rfl
      have HROW2 : Hid (∀ X, Row w5.heap.size 95 4 (wr.alloc X) (.slice oa j oc) j (opF ids)) := fun X => HROW.out.kept (World.grownBy_alloc _ _ none) (by cases (Value.slice oa j oc).ownBlock <;> simp)
      have HSRC : Hid (Src 4 (wr.alloc (.cells #[.int .i64 5, .slice none 0 0, .slice none 0 0, .int .i64 id] 95 (0, 0))) (some ⟨wr.heap.size, 0, none⟩) 1 (fun _ c => if c = 0 then .int .i64 5 else if c = 3 then .int .i64 id else .slice none 0 0)) := fun _ => ⟨_, rfl, fun i hi c hc => by
        obtain rfl : i = 0 := by omega
        rw [Addr.add_lit]
        obtain rfl | rfl | rfl | rfl : c = 0 ∨ c = 1 ∨ c = 2 ∨ c = 3 := by omega
        · exact (at_block (heap_alloc_new wr _) 0 _ rfl).1
        · exact (at_block (heap_alloc_new wr _) 1 _ rfl).1
        · exact (at_block (heap_alloc_new wr _) 2 _ rfl).1
        · exact (at_block (heap_alloc_new wr _) 3 _ rfl).1⟩
      have HSZ := hideD HG.out.size
      have HKN : Hid (∀ v6 w6, Row w5.heap.size 95 4 w6 v6 (j + 1) (joinF j (opF ids) (fun _ c => if c = 0 then .int .i64 5 else if c = 3 then .int .i64 id else .slice none 0 0)) → (wr.alloc (.cells #[.int .i64 5, .slice none 0 0, .slice none 0 0, .int .i64 id] 95 (0, 0))).grownBy w6 (Value.slice oa j oc).ownBlock → Row w5.heap.size 95 4 w6 v6 (j + 1) (opF ids) ∧ ∃ a2 cap2, KB w6 w2.heap.size k0 D.ttl V.now a2 cap2 V.tms ∧ w5.grownBy w6 (some k0)) := fun v6 w6 r g => by
        obtain ⟨a2, cap2, kb⟩ := HKB.out
        have kb1 := kb.below ((Below.refl _ wr).alloc (Nat.le_refl _) (.cells #[.int .i64 5, .slice none 0 0, .slice none 0 0, .int .i64 id] 95 (0, 0)))
        have hob : ∀ b, (Value.slice oa j oc).ownBlock = some b → w5.heap.size ≤ b := fun b hb => (World.ownsRow.lt HROW.out b hb).1
        have hk0 := HK0.out
        refine ⟨r.congr fun i hi c _ => opF_next HID.out i c hi, a2, cap2, ⟨(g.block k0 (Array.getElem?_eq_some_iff.1 kb1.box).1 (fun e => by have := hob k0 e.symm; omega)).trans kb1.box, kb1.row.kept g ?_, kb1.low⟩, ?_⟩
        · cases hov : (Value.slice oa j oc).ownBlock with
          | none =>
            cases hvv : (Value.slice a2 V.tms.length cap2).ownBlock with
            | none => exact .inl rfl
            | some b => exact .inr (by simp)
          | some b =>
            right
            intro e
            rcases (HROW2.out (.cells #[.int .i64 5, .slice none 0 0, .slice none 0 0, .int .i64 id] 95 (0, 0))).blk with ⟨e1, _⟩ | ⟨g1, c1, e1, _, _, _, cur, h3, _⟩
            · rw [e1] at hov; cases hov
            · rw [e1] at hov
              simp only [Value.ownBlock, Option.some.injEq] at hov
              subst hov
              exact ne_row kb1.row h3 (by decide) e.symm
        · refine ⟨g.os.trans HG.out.os, g.tape.trans HG.out.tape, g.output.trans HG.out.output, Nat.le_trans HG.out.size (Nat.le_trans (by simp) g.size), fun b hb hne => ?_⟩
          have hbw : b < wr.heap.size := Nat.lt_of_lt_of_le hb HG.out.size
          rw [g.block b (by simp; omega) (fun e => by have := hob b e.symm; omega), Below.heap_alloc wr _ b hbw]
          exact HG.out.block b hb hne
      clear hid hc hcc hbl e2 e3 HKS
      go_upto_region 10 with (at_builtin; refine wpList_rowG info_Op4 rfl (by omega) _ rfl (.tmp 46) (.tmp 49) 55 Tryz.underlying55 rfl w5.heap.size (.slice oa j oc) j (opF ids) rfl (HROW2.out _) _ 1 1 _ rfl HSRC.out HONE.out (fun e => by cases e) (by unfold maxLen; omega) (by omega) (by have := HSZ.out; simp; omega) ?_; intro v6 w6 r6 g6 _; obtain ⟨R6, a6, c6, kb6, G6⟩ := HKN.out v6 w6 r6 g6)
      have HR6 := hideD R6
      have HG6 := hideD G6
      have HNX : Hid (ringS D.ttl (ids.take (j + 1)) K = (setD true V id D.ttl).1) := by
        show _ = _
        rw [ringS_next HID.out, ← HV.out]
      have HREN : Hid (Calls Tryz.prog 55 #[.pointer (some ⟨k0, 0, none⟩), .int .i64 id] w6 fun e w' => e = .returned (.tuple #[]) ∧ Hid (w6.grownBy w' (some k0)) ∧ Hid (KSet w2.heap.size k0 D.ttl (ringS D.ttl (ids.take (j + 1)) K) w5 w')) := by
        refine (renewV k0 w2.heap.size c6 D.ttl V.now a6 V.tms id w6 kb6 (Nat.le_trans HBW5.out G6.size) (Nat.le_trans HVP.out.2.1 (by omega))).mono ?_
        rintro e w' ⟨rfl, k⟩
        rw [tB_true (show WheelP ⟨V.now, V.tms⟩ from HVP.out)] at k
        refine ⟨rfl, ?_, ?_⟩
        · obtain ⟨_, _, _, k2⟩ := k
          exact k2
        · rw [HNX.out]
          exact KSet.trans G6 k
      clear R6 kb6 G6 r6 g6 x0 HKN HSRC HROW2 HONE
      obtain ⟨a9, c9, hv6⟩ := HR6.out.shape
      subst hv6
      go_wp2_with fail
      refine HREN.out.mono ?_
      rintro e w7 ⟨rfl, g7, K7⟩
      have HR7 : Hid (Row w5.heap.size 95 4 w7 (.slice a9 (j + 1) c9) (j + 1) (opF ids)) := HR6.out.kept g7.out (by
        right
        intro e
        have := (World.ownsRow.lt HR6.out _ e).1
        have := HK0.out
        omega)
      go_wp2
      go_roundw
      case rel => exact ⟨j + 1, by omega, by go_num, HR7, K7⟩
      case measure => simp [intOf]; omega
    · have hjq : j = q := by omega
      subst hjq
      have HVE : Hid (V = ringS D.ttl ids K) := by
        show _ = _
        rw [HV.out, List.take_of_length_le (by have := HQL.out; omega)]
      obtain ⟨a6, c6, kb6⟩ := HKB.out
      have HKK : Hid (KB wr w2.heap.size k0 D.ttl V.now a6 c6 V.tms) := kb6
      have HPR6 : Hid (wr.heap[w.heap.size + 2]? = some (.cells #[.int .i64 0, .int .i64 0, .slice none 0 0] 39 (0, 0))) := (HG.out.block _ (Array.getElem?_eq_some_iff.1 HPR5.out).1 (by have := HK5.out.low; have := HLO.out; simp; omega)).trans HPR5.out
      have HB6 : Hid (Below w.heap.size w wr) := HB5.out.grown HG.out HB5.out.size (fun k' hk => by cases hk; exact Nat.le_trans HB2.out.size HK5.out.low)
      clear HKB HKS HG kb6
      go_wp2_with fail
      refine (dutyV k0 w2.heap.size c6 D.ttl V.now a6 V.tms wr HKK.out).mono ?_
      rintro e w8 ⟨rfl, b8⟩
      obtain ⟨x0, f0⟩ := at_block (ext_blk (ext_below b8) HPR6.out) 0 _ rfl
      obtain ⟨x1, f1⟩ := at_block (ext_blk (ext_below b8) HPR6.out) 1 _ rfl
      obtain ⟨x2, f2⟩ := at_block (ext_blk (ext_below b8) HPR6.out) 2 _ rfl
      have HK8 := hideD (HKK.out.below b8)
      have HR8 : Hid (Row w5.heap.size 95 4 w8 (.slice oa j oc) j (opF ids)) := HROW.out.kept (ext_below b8) (by cases (Value.slice oa j oc).ownBlock <;> simp)
      have HB8 : Hid (Below w.heap.size w w8) := HB6.out.trans (b8.mono HB6.out.size)
      have HNV : Hid ((Value.slice a6 V.tms.length c6).ownBlock = none ∨ (Value.slice a6 V.tms.length c6).ownBlock ≠ some (w.heap.size + 2)) := by
        right
        intro e
        have h1 := (World.ownsRow.lt HK8.out.row _ e).1
        have h2 := HLO.out
        omega
      have HNO : Hid ((Value.slice oa j oc).ownBlock = none ∨ (Value.slice oa j oc).ownBlock ≠ some (w.heap.size + 2)) := by
        right
        intro e
        have h1 := (World.ownsRow.lt HR8.out _ e).1
        have h2 := HLO.out
        have := HBW5.out
        omega
      have HRX : Hid (R = (⟨D.ttl, V⟩, ids)) := by show _ = _; rw [HRZ.out, HVE.out]
      clear b8 HRZ
      go_wp2
      refine bodyPost_ret (v := .tuple #[.agg #[.int .i64 D.ttl, .int .i64 V.now, .slice a6 V.tms.length c6], .slice oa j oc]) (by simp [results, Tryz.results17, go_sem, *]) rfl ?_
      rw [HRX.out]
      refine ⟨_, _, rfl, baseT ((((HK8.out.row.kept (set_grown _ _ _ _) HNV.out).kept (set_grown _ _ _ _) HNV.out).kept (set_grown _ _ _ _) HNV.out)) HB2.out.size, ?_, ?_⟩
      · show Row _ _ _ _ _ ids.length _
        rw [← HQL.out]
        exact rowBase (((HR8.out.kept (set_grown _ _ _ _) HNO.out).kept (set_grown _ _ _ _) HNO.out).kept (set_grown _ _ _ _) HNO.out) HB5.out.size
      · repeat (first | exact HB8.out | (refine Below.setCell ?_ (by simp <;> omega) _))

end Go.Proofs.YtnklnhnjmikooaaGreat
