
/- The program's DutyRenew. -/
import Derived.Test.YtgafnajnndbofaaDy6
namespace Go.Proofs.Ytgafnajnndbofaa
open Go.RowKit

set_option maxHeartbeats 2000000 in
theorem dutyV (h base cap : Nat) (ttl now : Int) (a : Option Addr) (ts : List DTim) (w : World) (p : KB w base h ttl now a cap ts) :
    Calls Try.prog 30 #[.pointer (some ⟨h, 0, none⟩)] w fun e w' => e = .returned (.agg #[.int .i64 ttl, .int .i64 now, .slice a ts.length cap]) ∧ Below w.heap.size w w' := by
  obtain ⟨c0, c1, c2, _, _⟩ := p.cells
  have hh : h < w.heap.size := (Array.getElem?_eq_some_iff.1 p.box).1
  obtain ⟨n, hn⟩ : ∃ n, n = ts.length := ⟨_, rfl⟩
  rw [← hn] at c1 ⊢
  clear p hn
  have hne := World.new_ne w _ c0
  go_enter Try.func30, Try.ntmps30
  go_wp2_with fail
  go_region
  all_goals
    go_wp2
    refine bodyPost_ret (v := .agg #[.int .i64 ttl, .int .i64 now, .slice a n cap]) (by simp [results, Try.results30, go_sem, *]) rfl ?_
    refine ⟨rfl, ?_⟩
    repeat (first | exact below_drewN ((Below.refl _ w).alloc (Nat.le_refl _) _) 1 | exact (Below.refl _ w).alloc (Nat.le_refl _) _ | (refine Below.setCell ?_ (by simp) _))

/-- The duty renewed for this one, and whether there was such a timer (c: it may be a duty). -/
def renewD (c : Bool) (D : DDuty) (id : Int) : DDuty × Bool := if c then (if placeT D.wh.tms id < 0 then (D, false) else (⟨D.ttl, (setD true D.wh id D.ttl).1⟩, true)) else (⟨0, ⟨0, []⟩⟩, false)

set_option maxRecDepth 20000 in
set_option maxHeartbeats 4000000 in
theorem iDutyRenewV (v : Value) (D : DDuty) (id : Int) (w : World) (h : VDuty w v D) (hl : D.wh.tms.length ≤ 1048576) :
    Calls Try.prog 16 #[v, .int .i64 id] w (ResD (renewD (tB (DutyP D)) D id) w) := by
  have HV0 : Hid (VDuty w v D) := h
  have HL : Hid (D.wh.tms.length ≤ 1048576) := hl
  obtain ⟨tv, rfl, h⟩ := h
  obtain ⟨ta, tc', rfl⟩ := h.shape
  obtain ⟨n, hn⟩ : ∃ n, n = D.wh.tms.length := ⟨_, rfl⟩
  rw [← hn] at HV0 ⊢
  clear h hn hl
  cases hok : tB (DutyP D) with
  | false =>
    have HOK : Hid (tB (DutyP D) = false) := hok
    clear hok
    go_enter Try.func16, Try.ntmps16
    go_wp2_with fail
    generalize hW : World.alloc (World.alloc w _) _ = W
    have BW : Below w.heap.size w W := by rw [← hW]; exact ((Below.refl _ w).alloc (Nat.le_refl _) _).alloc (by simp) _
    have PR : W.heap[w.heap.size + 1]? = some (.cells #[.int .i64 0, .int .i64 0, .slice none 0 0] 33 (0, 0)) := by rw [← hW]; simpa using heap_alloc_new (World.alloc w (.cells #[.int .i64 D.ttl, .int .i64 D.wh.now, .slice ta n tc'] 33)) (.cells #[.int .i64 0, .int .i64 0, .slice none 0 0] 33)
    clear hW
    refine (iDutyOkV _ D W (HV0.out.ext (ext_below BW))).mono ?_
    rintro e w1 ⟨rfl, b1⟩
    rw [HOK.out]
    have PR1 := below_blk b1 (Array.getElem?_eq_some_iff.1 PR).1 PR
    have HB1 : Hid (Below w.heap.size w w1) := BW.trans (b1.mono BW.size)
    obtain ⟨z0, y0⟩ := at_block PR1 0 _ rfl
    obtain ⟨z1, y1⟩ := at_block PR1 1 _ rfl
    obtain ⟨z2, y2⟩ := at_block PR1 2 _ rfl
    clear b1 PR PR1 BW
    go_wp2
    refine bodyPost_ret (v := .tuple #[.agg #[.int .i64 0, .int .i64 0, .slice none 0 0], .bool false]) (by simp [results, Try.results16, go_sem, *]) rfl ?_
    refine ⟨_, rfl, World.ownsRow_nil _ _ _ _, ?_⟩
    repeat (first | exact HB1.out | (refine Below.setCell ?_ (by simp) _))
  | true =>
    have HOK : Hid (tB (DutyP D) = true) := hok
    have HD : Hid (DutyP D) := tB_iff.1 hok
    clear hok
    go_enter Try.func16, Try.ntmps16
    go_wp2_with fail
    generalize hW : World.alloc (World.alloc w _) _ = W
    have BW : Below w.heap.size w W := by rw [← hW]; exact ((Below.refl _ w).alloc (Nat.le_refl _) _).alloc (by simp) _
    have PB : W.heap[w.heap.size]? = some (.cells #[.int .i64 D.ttl, .int .i64 D.wh.now, .slice ta n tc'] 33 (0, 0)) := by rw [← hW, Below.heap_alloc _ _ _ (by simp)]; exact heap_alloc_new w _
    have PR : W.heap[w.heap.size + 1]? = some (.cells #[.int .i64 0, .int .i64 0, .slice none 0 0] 33 (0, 0)) := by rw [← hW]; simpa using heap_alloc_new (World.alloc w (.cells #[.int .i64 D.ttl, .int .i64 D.wh.now, .slice ta n tc'] 33)) (.cells #[.int .i64 0, .int .i64 0, .slice none 0 0] 33)
    clear hW
    refine (iDutyOkV _ D W (HV0.out.ext (ext_below BW))).mono ?_
    rintro e w1 ⟨rfl, b1⟩
    rw [HOK.out]
    have PB1 := below_blk b1 (Array.getElem?_eq_some_iff.1 PB).1 PB
    have PR1 := below_blk b1 (Array.getElem?_eq_some_iff.1 PR).1 PR
    have HB1 : Hid (Below w.heap.size w w1) := BW.trans (b1.mono BW.size)
    obtain ⟨z0, _⟩ := at_block PB1 0 _ rfl
    obtain ⟨z1, _⟩ := at_block PB1 1 _ rfl
    obtain ⟨z2, _⟩ := at_block PB1 2 _ rfl
    have HR1 := hideD PR1
    have HLO := hideD (Array.getElem?_eq_some_iff.1 PR1).1
    clear b1 PR PB BW PR1
    go_wp2_with fail
    refine (keeperV _ D w1 (HV0.out.ext (ext_below HB1.out)) HL.out).mono ?_
    rintro e w2 ⟨k, a2, c2, rfl, K2, b2⟩
    have HK2 := hideD K2
    have HR2 := hideD (ext_blk (ext_below b2) HR1.out)
    have HB2 : Hid (Below w.heap.size w w2) := HB1.out.trans (b2.mono HB1.out.size)
    have HS1 := hideD (Nat.le_trans (Array.getElem?_eq_some_iff.1 HR1.out).1 b2.size)
    have HS2 := hideD b2.size
    clear z0 z1 z2 PB1 b2 K2 HR1
    go_wp2_with fail
    refine (hasV k w1.heap.size c2 D.ttl D.wh.now a2 D.wh.tms id w2 HK2.out HD.out.2.1).mono ?_
    rintro e w3 ⟨rfl, b3⟩
    have HK3 := hideD (HK2.out.below b3)
    have HR3 := hideD (ext_blk (ext_below b3) HR2.out)
    have HB3 : Hid (Below w.heap.size w w3) := HB2.out.trans (b3.mono HB2.out.size)
    have HS3 := hideD b3.size
    clear b3 HK2 HR2 HB2
    by_cases hpl : placeT D.wh.tms id < 0
    · have hd : decide (placeT D.wh.tms id < 0) = true := decide_eq_true hpl
      rw [hd]
      have HEQ : Hid (renewD true D id = (D, false)) := by unfold renewD; rw [if_pos rfl, if_pos hpl]; exact rfl
      clear hpl hd
      go_wp2_with fail
      refine (dutyV k w1.heap.size c2 D.ttl D.wh.now a2 D.wh.tms w3 HK3.out).mono ?_
      rintro e w4 ⟨rfl, b4⟩
      obtain ⟨x0, f0⟩ := at_block (ext_blk (ext_below b4) HR3.out) 0 _ rfl
      obtain ⟨x1, f1⟩ := at_block (ext_blk (ext_below b4) HR3.out) 1 _ rfl
      obtain ⟨x2, f2⟩ := at_block (ext_blk (ext_below b4) HR3.out) 2 _ rfl
      have HK4 := hideD (HK3.out.below b4)
      have HB4 : Hid (Below w.heap.size w w4) := HB3.out.trans (b4.mono HB3.out.size)
      have HNV : Hid ((Value.slice a2 D.wh.tms.length c2).ownBlock = none ∨ (Value.slice a2 D.wh.tms.length c2).ownBlock ≠ some (w.heap.size + 1)) := by
        right
        intro e
        have h1 := (World.ownsRow.lt HK4.out.row _ e).1
        have := (Array.getElem?_eq_some_iff.1 HR3.out).1
        have h2 := HLO.out
        omega
      clear b4
      go_wp2
      refine bodyPost_ret (v := .tuple #[.agg #[.int .i64 D.ttl, .int .i64 D.wh.now, .slice a2 D.wh.tms.length c2], .bool false]) (by simp [results, Try.results16, go_sem, *]) rfl ?_
      rw [HEQ.out]
      refine ⟨_, rfl, baseT ((((HK4.out.row.kept (set_grown _ _ _ _) HNV.out).kept (set_grown _ _ _ _) HNV.out).kept (set_grown _ _ _ _) HNV.out)) HB1.out.size, ?_⟩
      repeat (first | exact HB4.out | (refine Below.setCell ?_ (by simp) _))
    · have hd : decide (placeT D.wh.tms id < 0) = false := decide_eq_false hpl
      rw [hd]
      obtain ⟨⟨R, rb⟩, hR⟩ : ∃ R, R = setD true D.wh id D.ttl := ⟨_, rfl⟩
      have HSR : Hid ((R, rb) = setD true D.wh id D.ttl) := hR
      have HEQ : Hid (renewD true D id = (⟨D.ttl, R⟩, true)) := by unfold renewD; rw [if_pos rfl, if_neg hpl, ← hR]; exact rfl
      clear hpl hd hR
      go_wp2_with fail
      refine (renewV k w1.heap.size c2 D.ttl D.wh.now a2 D.wh.tms id w3 HK3.out (Nat.le_trans HS2.out HS3.out) HL.out).mono ?_
      rintro e w4 ⟨rfl, a4, c4, K4, g4⟩
      rw [tB_true (show WheelP ⟨D.wh.now, D.wh.tms⟩ from HD.out.2.1), show (⟨D.wh.now, D.wh.tms⟩ : DWheel) = D.wh from rfl, ← HSR.out] at K4
      have HK4 : Hid (KB w4 w1.heap.size k D.ttl R.now a4 c4 R.tms) := K4
      have HR4 : Hid (w4.heap[w.heap.size + 1]? = some (.cells #[.int .i64 0, .int .i64 0, .slice none 0 0] 33 (0, 0))) := (g4.block _ (Array.getElem?_eq_some_iff.1 HR3.out).1 (by have := HK3.out.low; have := HLO.out; simp; omega)).trans HR3.out
      have HB4 : Hid (Below w.heap.size w w4) := HB3.out.grown g4 HB3.out.size (fun k' hk => by cases hk; exact Nat.le_trans HB1.out.size HK3.out.low)
      clear K4 g4 HK3 HR3 HB3
      go_wp2_with fail
      refine (dutyV k w1.heap.size c4 D.ttl R.now a4 R.tms w4 HK4.out).mono ?_
      rintro e w5 ⟨rfl, b5⟩
      obtain ⟨x0, f0⟩ := at_block (ext_blk (ext_below b5) HR4.out) 0 _ rfl
      obtain ⟨x1, f1⟩ := at_block (ext_blk (ext_below b5) HR4.out) 1 _ rfl
      obtain ⟨x2, f2⟩ := at_block (ext_blk (ext_below b5) HR4.out) 2 _ rfl
      have HK5 := hideD (HK4.out.below b5)
      have HB5 : Hid (Below w.heap.size w w5) := HB4.out.trans (b5.mono HB4.out.size)
      have HNV : Hid ((Value.slice a4 R.tms.length c4).ownBlock = none ∨ (Value.slice a4 R.tms.length c4).ownBlock ≠ some (w.heap.size + 1)) := by
        right
        intro e
        have h1 := (World.ownsRow.lt HK5.out.row _ e).1
        have h2 := HLO.out
        omega
      clear b5
      go_wp2
      refine bodyPost_ret (v := .tuple #[.agg #[.int .i64 D.ttl, .int .i64 R.now, .slice a4 R.tms.length c4], .bool true]) (by simp [results, Try.results16, go_sem, *]) rfl ?_
      rw [HEQ.out]
      refine ⟨_, rfl, baseT ((((HK5.out.row.kept (set_grown _ _ _ _) HNV.out).kept (set_grown _ _ _ _) HNV.out).kept (set_grown _ _ _ _) HNV.out)) HB1.out.size, ?_⟩
      repeat (first | exact HB5.out | (refine Below.setCell ?_ (by simp) _))

end Go.Proofs.Ytgafnajnndbofaa
