
/- The specification's DutyRenew. -/
import Derived.Test.YtgafnajnndbofaaDyT
namespace Go.Proofs.Ytgafnajnndbofaa
open Go.RowKit

set_option maxRecDepth 20000 in
set_option maxHeartbeats 4000000 in
theorem sDutyRenewV (v : Value) (D : DDuty) (id : Int) (w : World) (h : VDuty w v D) (hl : D.wh.tms.length ≤ 1048576) :
    Calls Try.prog 15 #[v, .int .i64 id] w (ResD (renewD (tB (DutyP D)) D id) w) := by
  have HV0 : Hid (VDuty w v D) := h
  have HL : Hid (D.wh.tms.length ≤ 1048576) := hl
  obtain ⟨tv, rfl, h⟩ := h
  obtain ⟨ta, tc', rfl⟩ := h.shape
  obtain ⟨n, hn⟩ : ∃ n, n = D.wh.tms.length := ⟨_, rfl⟩
  rw [← hn] at HV0 ⊢
  clear h hn hl
  cases hok : tB (DutyP D) with
  | false =>
    have HOK : Hid (tB (DutyP D) = false) := hok
    clear hok
    go_enter Try.func15, Try.ntmps15
    go_wp2_with fail
    generalize hW : World.alloc (World.alloc w _) _ = W
    have BW : Below w.heap.size w W := by rw [← hW]; exact ((Below.refl _ w).alloc (Nat.le_refl _) _).alloc (by simp) _
    have PR : W.heap[w.heap.size + 1]? = some (.cells #[.int .i64 0, .int .i64 0, .slice none 0 0] 33 (0, 0)) := by rw [← hW]; simpa using heap_alloc_new (World.alloc w (.cells #[.int .i64 D.ttl, .int .i64 D.wh.now, .slice ta n tc'] 33)) (.cells #[.int .i64 0, .int .i64 0, .slice none 0 0] 33)
    clear hW
    refine (sDutyOkV _ D W (HV0.out.ext (ext_below BW))).mono ?_
    rintro e w1 ⟨rfl, b1⟩
    rw [HOK.out]
    have PR1 := below_blk b1 (Array.getElem?_eq_some_iff.1 PR).1 PR
    have HB1 : Hid (Below w.heap.size w w1) := BW.trans (b1.mono BW.size)
    obtain ⟨z0, y0⟩ := at_block PR1 0 _ rfl
    obtain ⟨z1, y1⟩ := at_block PR1 1 _ rfl
    obtain ⟨z2, y2⟩ := at_block PR1 2 _ rfl
    clear b1 PR PR1 BW
    go_wp2
    refine bodyPost_ret (v := .tuple #[.agg #[.int .i64 0, .int .i64 0, .slice none 0 0], .bool false]) (by simp [results, Try.results15, go_sem, *]) rfl ?_
    refine ⟨_, rfl, World.ownsRow_nil _ _ _ _, ?_⟩
    repeat (first | exact HB1.out | (refine Below.setCell ?_ (by simp) _))
  | true =>
    have HOK : Hid (tB (DutyP D) = true) := hok
    have HD : Hid (DutyP D) := tB_iff.1 hok
    clear hok
    go_enter Try.func15, Try.ntmps15
    go_wp2_with fail
    generalize hW : World.alloc (World.alloc w _) _ = W
    have BW : Below w.heap.size w W := by rw [← hW]; exact ((Below.refl _ w).alloc (Nat.le_refl _) _).alloc (by simp) _
    have PB : W.heap[w.heap.size]? = some (.cells #[.int .i64 D.ttl, .int .i64 D.wh.now, .slice ta n tc'] 33 (0, 0)) := by rw [← hW, Below.heap_alloc _ _ _ (by simp)]; exact heap_alloc_new w _
    have PR : W.heap[w.heap.size + 1]? = some (.cells #[.int .i64 0, .int .i64 0, .slice none 0 0] 33 (0, 0)) := by rw [← hW]; simpa using heap_alloc_new (World.alloc w (.cells #[.int .i64 D.ttl, .int .i64 D.wh.now, .slice ta n tc'] 33)) (.cells #[.int .i64 0, .int .i64 0, .slice none 0 0] 33)
    clear hW
    refine (sDutyOkV _ D W (HV0.out.ext (ext_below BW))).mono ?_
    rintro e w1 ⟨rfl, b1⟩
    rw [HOK.out]
    have PB1 := below_blk b1 (Array.getElem?_eq_some_iff.1 PB).1 PB
    have PR1 := below_blk b1 (Array.getElem?_eq_some_iff.1 PR).1 PR
    have HB1 : Hid (Below w.heap.size w w1) := BW.trans (b1.mono BW.size)
    obtain ⟨z0, _⟩ := at_block PB1 0 _ rfl
    obtain ⟨z1, _⟩ := at_block PB1 1 _ rfl
    obtain ⟨z2, _⟩ := at_block PB1 2 _ rfl
    have HR1 := hideD PR1
    have HLO := hideD (Array.getElem?_eq_some_iff.1 PR1).1
    clear b1 PR PB BW PR1
    go_wp2_with fail
    refine (ownDuV _ D w1 (HV0.out.ext (ext_below HB1.out)) HL.out).mono ?_
    rintro e w2 ⟨a2, c2, rfl, o2, b2⟩
    obtain ⟨m, hm⟩ : ∃ m, m = D.wh.tms.length := ⟨_, rfl⟩
    have HM : Hid (m = D.wh.tms.length) := hm
    have HF : Hid (∀ W, W = w2.alloc (.cells #[.int .i64 D.ttl, .int .i64 D.wh.now, .slice a2 m c2] 33) → DB W w1.heap.size w2.heap.size D.ttl D.wh.now a2 c2 D.wh.tms ∧ Below w.heap.size w W ∧ W.heap[w.heap.size + 1]? = some (.cells #[.int .i64 0, .int .i64 0, .slice none 0 0] 33 (0, 0)) ∧ W.heap[w.heap.size]? = some (.cells #[.int .i64 D.ttl, .int .i64 D.wh.now, .slice ta n tc'] 33 (0, 0))) := fun W hW => by
      subst hW
      rw [hm]
      exact ⟨⟨heap_alloc_new _ _, o2.alloc _, b2.size⟩, (HB1.out.trans (b2.mono HB1.out.size)).alloc (Nat.le_trans HB1.out.size b2.size) _, ext_blk ((ext_below b2).trans (World.grownBy_alloc _ _ _)) HR1.out, ext_blk ((ext_below b2).trans (World.grownBy_alloc _ _ _)) PB1⟩
    rw [← hm]
    have HS2 := hideD b2.size
    clear z0 z1 z2 hm o2 b2 PB1
    go_wp2_with fail
    generalize hV : w2.alloc _ = w3
    obtain ⟨K3, B3, R3, A3⟩ := HF.out w3 hV.symm
    have HS3 := hideD (show w2.heap.size ≤ w3.heap.size by rw [← hV]; simp)
    clear hV HF
    generalize w2.heap.size = k at *
    have HK3 := hideD K3
    have HR3 := hideD R3
    have HB3 := hideD B3
    have HA3 := hideD A3
    obtain ⟨u0, u1, u2⟩ := bx3 K3.box
    rw [← HM.out] at u2
    clear K3 R3 B3 A3
    have HVT : Hid (VTims w3 (.slice a2 m c2) D.wh.tms) := by rw [HM.out]; exact HK3.out.row.v
    obtain ⟨ha0, _, _⟩ := bx3 HA3.out
    have HNV : Hid (∀ (W : World) (a : Option Addr) (c : Nat) (ts : List DTim), OwT W w1.heap.size (.slice a ts.length c) ts → (Value.slice a ts.length c).ownBlock = none ∨ (Value.slice a ts.length c).ownBlock ≠ some (w.heap.size + 1)) := fun W a c ts o => by
      right
      intro e
      have h1 := (World.ownsRow.lt o _ e).1
      have h2 := HLO.out
      omega
    refine (sfindV _ _ id w3 HVT.out).mono ?_
    rintro e w4 ⟨rfl, rfl⟩
    by_cases hpl : placeT D.wh.tms id < 0
    · have hd : decide (placeT D.wh.tms id < 0) = true := decide_eq_true hpl
      have HEQ : Hid (renewD true D id = (D, false)) := by unfold renewD; rw [if_pos rfl, if_pos hpl]; exact rfl
      obtain ⟨x0, f0⟩ := at_block HR3.out 0 _ rfl
      obtain ⟨x1, f1⟩ := at_block HR3.out 1 _ rfl
      obtain ⟨x2, f2⟩ := at_block HR3.out 2 _ rfl
      have HK4 : Hid (OwT w4 w1.heap.size (.slice a2 m c2) D.wh.tms) := by rw [HM.out]; exact HK3.out.row
      have HN4 : Hid ((Value.slice a2 m c2).ownBlock = none ∨ (Value.slice a2 m c2).ownBlock ≠ some (w.heap.size + 1)) := by rw [HM.out]; exact HNV.out _ _ _ _ HK3.out.row
      go_wp2
      refine bodyPost_ret (v := .tuple #[.agg #[.int .i64 D.ttl, .int .i64 D.wh.now, .slice a2 m c2], .bool false]) (by simp [results, Try.results15, go_sem, *]) rfl ?_
      rw [HEQ.out]
      refine ⟨_, rfl, baseT ((((HK4.out.kept (set_grown _ _ _ _) HN4.out).kept (set_grown _ _ _ _) HN4.out).kept (set_grown _ _ _ _) HN4.out)) HB1.out.size, ?_⟩
      repeat (first | exact HB3.out | (refine Below.setCell ?_ (by simp) _))
    · have hd : decide (placeT D.wh.tms id < 0) = false := decide_eq_false hpl
      obtain ⟨⟨R, rb⟩, hR⟩ : ∃ R, R = setD true D.wh id D.ttl := ⟨_, rfl⟩
      have HSR : Hid ((R, rb) = setD true D.wh id D.ttl) := hR
      have HEQ : Hid (renewD true D id = (⟨D.ttl, R⟩, true)) := by unfold renewD; rw [if_pos rfl, if_neg hpl, ← hR]; exact rfl
      clear hpl hR u0 u1 u2
      go_wp2_with fail
      refine (ssetVD k w1.heap.size c2 D.ttl D.wh.now a2 D.wh.tms id D.ttl w4 HK3.out (by have := HD.out.2.2.1; omega) (Nat.le_trans HS2.out HS3.out) HD.out.2.1.1.1 HD.out.2.1.1.2).mono ?_
      rintro e w5 ⟨q, a4, c4, ts', rfl, hq, K4, g4⟩
      have hRR : R = ⟨D.wh.now, ts'⟩ := by
        have h := HSR.out
        rcases hq with ⟨_, e1, e2⟩ | ⟨_, e1, e2⟩
        · unfold setD at h
          rw [if_pos rfl, if_pos e1] at h
          rw [e2]
          exact congrArg Prod.fst h
        · unfold setD at h
          rw [if_pos rfl, if_neg (by rw [show badS D.wh id D.ttl = badS ⟨D.wh.now, D.wh.tms⟩ id D.ttl from rfl, e1]; simp)] at h
          rw [e2]
          exact congrArg Prod.fst h
      subst hRR
      obtain ⟨n4, hn4⟩ : ∃ n, n = ts'.length := ⟨_, rfl⟩
      have HN4 : Hid (n4 = ts'.length) := hn4
      have HK4 : Hid (OwT w5 w1.heap.size (.slice a4 n4 c4) ts') := by rw [hn4]; exact K4.row
      have HNB : Hid ((Value.slice a4 n4 c4).ownBlock = none ∨ (Value.slice a4 n4 c4).ownBlock ≠ some (w.heap.size + 1)) := by rw [hn4]; exact HNV.out _ _ _ _ K4.row
      have HR4 : Hid (w5.heap[w.heap.size + 1]? = some (.cells #[.int .i64 0, .int .i64 0, .slice none 0 0] 33 (0, 0))) := (g4.block _ (Array.getElem?_eq_some_iff.1 HR3.out).1 (by have := HK3.out.low; have := HLO.out; simp; omega)).trans HR3.out
      have HB4 : Hid (Below w.heap.size w w5) := HB3.out.grown g4 HB3.out.size (fun k' hk => by cases hk; exact Nat.le_trans HB1.out.size HK3.out.low)
      obtain ⟨u0, u1, u2⟩ := bx3 K4.box
      rw [← hn4] at u2
      obtain ⟨x0, f0⟩ := at_block HR4.out 0 _ rfl
      obtain ⟨x1, f1⟩ := at_block HR4.out 1 _ rfl
      obtain ⟨x2, f2⟩ := at_block HR4.out 2 _ rfl
      have hkne : w.heap.size + 1 ≠ k := by have := HK3.out.low; have := HLO.out; omega
      have hkne2 : k ≠ w.heap.size + 1 := by omega
      clear K4 g4 HK3 HR3 HB3 hn4 hq ha0
      go_wp2
      refine bodyPost_ret (v := .tuple #[.agg #[.int .i64 D.ttl, .int .i64 D.wh.now, .slice a4 n4 c4], .bool true]) (by simp [results, Try.results15, go_sem, *]) rfl ?_
      rw [HEQ.out]
      refine ⟨_, rfl, baseT ((((HK4.out.kept (set_grown _ _ _ _) HNB.out).kept (set_grown _ _ _ _) HNB.out).kept (set_grown _ _ _ _) HNB.out)) HB1.out.size, ?_⟩
      repeat (first | exact HB4.out | (refine Below.setCell ?_ (by simp) _))

end Go.Proofs.Ytgafnajnndbofaa
