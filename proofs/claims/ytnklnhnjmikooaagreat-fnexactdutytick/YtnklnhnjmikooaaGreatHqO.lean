
/- The contract of the specification's WheelTick, told of owned rows (gen_hqo.py, out of HqA). -/
import Derived.Test.YtnklnhnjmikooaaGreatHpZ
import Derived.Test.YtnklnhnjmikooaaGreatHpS
import Derived.Test.YtnklnhnjmikooaaGreatHpO
import Derived.Deep.RegionLawGrows
import Derived.Test.YtnklnhnjmikooaaGreatDy6
namespace Go.Proofs.YtnklnhnjmikooaaGreat
open Go.RowKit

/-- A wheel and numbers, to be read. -/
def SResK (R : DWheel × List Int) (w : World) (e : Ending) (w' : World) : Prop := ∃ tv rv, e = .returned (.tuple #[.agg #[.int .i64 R.1.now, tv], rv]) ∧ VTims w' tv R.1.tms ∧ VL fI w' rv R.2 ∧ Below w.heap.size w w'

theorem hideK {p : Prop} (h : p) : Hid p := h
/-- A block of another type is none of this row of numbers. -/
theorem ne_rowI {W : World} {base b : Nat} {v : Value} {xs : List Int} {cs : Array Value} {t : TypeId} (o : OwI W base v xs) (h : W.heap[b]? = some (.cells cs t (0, 0))) (ht : t ≠ 3) : some b ≠ v.ownBlock := by
  intro e
  rcases o.2 with ⟨hv, _⟩ | ⟨k, c, cur, hv, _, hg, _⟩
  · rw [hv] at e; cases e
  · rw [hv] at e
    simp only [Value.ownBlock, Option.some.injEq] at e
    subst e
    rw [h] at hg
    simp only [Option.some.injEq, Obj.cells.injEq] at hg
    exact ht hg.2.1
theorem ne_rowT {W : World} {base b : Nat} {v : Value} {ts : List DTim} {cs : Array Value} {t : TypeId} (o : OwT W base v ts) (h : W.heap[b]? = some (.cells cs t (0, 0))) (ht : t ≠ 114) : some b ≠ v.ownBlock := by
  intro e
  rcases o.2 with ⟨hv, _⟩ | ⟨k, c, cur, hv, _, hg, _⟩
  · rw [hv] at e; cases e
  · rw [hv] at e
    simp only [Value.ownBlock, Option.some.injEq] at e
    subst e
    rw [h] at hg
    simp only [Option.some.injEq, Obj.cells.injEq] at hg
    exact ht hg.2.1
theorem rows_ne {W : World} {b1 b2 : Nat} {v u : Value} {ts : List DTim} {xs : List Int} (o : OwT W b1 v ts) (p : OwI W b2 u xs) : v.ownBlock = none ∨ v.ownBlock ≠ u.ownBlock := by
  rcases o.2 with ⟨hv, _⟩ | ⟨k, c, cur, hv, _, hg, _⟩
  · left; rw [hv]; rfl
  · right
    rw [hv]
    exact ne_rowI p hg (by decide)
theorem rows_ne' {W : World} {b1 b2 : Nat} {v u : Value} {ts : List DTim} {xs : List Int} (o : OwT W b1 v ts) (p : OwI W b2 u xs) : u.ownBlock = none ∨ u.ownBlock ≠ v.ownBlock := by
  rcases p.2 with ⟨hv, _⟩ | ⟨k, c, cur, hv, _, hg, _⟩
  · left; rw [hv]; rfl
  · right
    rw [hv]
    exact ne_rowT o hg (by decide)
theorem WlB.keptI {w w' : World} {base h cap b2 : Nat} {now : Int} {a : Option Addr} {ts : List DTim} {u : Value} {xs : List Int} (p : WlB w base h now a cap ts) (o : OwI w b2 u xs) (hg : w.grownBy w' u.ownBlock) : WlB w' base h now a cap ts :=
  ⟨(hg.block h (Array.getElem?_eq_some_iff.1 p.box).1 (ne_rowI o p.box (by decide))).trans p.box, p.row.kept hg (rows_ne p.row o), p.low⟩

set_option maxRecDepth 20000 in
set_option maxHeartbeats 8000000 in
theorem sTickV (v : Value) (D : DWheel) (n : Int) (w : World) (h : VWheel w v D) (hl : D.tms.length ≤ 1048576) (hnb : -9223372036854775808 ≤ n) (hnb2 : n ≤ 9223372036854775807) : Calls Tryz.prog 51 #[v, .int .i64 n] w (SResK (tickD (tB (WheelP D)) D n) w) := by
  have HV0 : Hid (VWheel w v D) := h
  obtain ⟨tv, rfl, h⟩ := h
  have HVT : Hid (VTims w tv D.tms) := h
  obtain ⟨ta, tc', rfl⟩ := h.shape
  obtain ⟨m, hn⟩ : ∃ m, m = D.tms.length := ⟨_, rfl⟩
  have HM : Hid (m = D.tms.length) := hn
  rw [← hn] at HV0 HVT ⊢
  clear h hn
  cases hok : tB (WheelP D) with
  | false =>
    have HOK : Hid (tB (WheelP D) = false) := hok
    clear hok
    go_enter Tryz.func51, Tryz.ntmps51
    go_wp2_with fail
    generalize hW : World.alloc (World.alloc w _) _ = W
    have BW : Below w.heap.size w W := by rw [← hW]; exact ((Below.refl _ w).alloc (Nat.le_refl _) _).alloc (by simp) _
    have PR : W.heap[w.heap.size + 1]? = some (.cells #[.int .i64 0, .slice none 0 0] 37 (0, 0)) := by rw [← hW]; simpa using heap_alloc_new (World.alloc w (.cells #[.int .i64 D.now, .slice ta m tc'] 37)) (.cells #[.int .i64 0, .slice none 0 0] 37)
    clear hW
    refine (sWheelOkV _ D W (HV0.out.ext (ext_below BW))).mono ?_
    rintro e w1 ⟨rfl, b1⟩
    rw [HOK.out]
    have PR1 := below_blk b1 (Array.getElem?_eq_some_iff.1 PR).1 PR
    have HB1 : Hid (Below w.heap.size w w1) := BW.trans (b1.mono BW.size)
    obtain ⟨z0, y0⟩ := at_block PR1 0 _ rfl
    obtain ⟨z1, y1⟩ := at_block PR1 1 _ rfl
    clear b1 PR PR1 BW
    go_wp2
    refine bodyPost_ret (v := .tuple #[.agg #[.int .i64 0, .slice none 0 0], .slice none 0 0]) (by simp [results, Tryz.results51, go_sem, *]) rfl ?_
    refine ⟨_, _, rfl, OwT.v (base := 0) (ts := []) (World.ownsRow_nil _ _ _ _), OwI.vl (base := 0) (xs := []) (World.ownsRow_nil _ _ _ _), ?_⟩
    first | exact HB1.out | exact HB1.out.setCell (by simp) _ | exact (HB1.out.setCell (by simp) _).setCell (by simp) _
  | true =>
    have HOK : Hid (tB (WheelP D) = true) := hok
    have HD : Hid (WheelP D) := tB_iff.1 hok
    have HL : Hid (D.tms.length ≤ 1048576) := hl
    have hnow := HD.out.1
    obtain ⟨hnow0, hnow1⟩ := hnow
    have hm40 : (m : Int) ≤ 40 := by have := HD.out.2.1; have := HM.out; omega
    clear hok
    go_enter Tryz.func51, Tryz.ntmps51
    go_wp2_with fail
    generalize hW : World.alloc (World.alloc w _) _ = W
    have BW : Below w.heap.size w W := by rw [← hW]; exact ((Below.refl _ w).alloc (Nat.le_refl _) _).alloc (by simp) _
    have PB : W.heap[w.heap.size]? = some (.cells #[.int .i64 D.now, .slice ta m tc'] 37 (0, 0)) := by rw [← hW, Below.heap_alloc _ _ _ (by simp)]; exact heap_alloc_new w _
    have PR : W.heap[w.heap.size + 1]? = some (.cells #[.int .i64 0, .slice none 0 0] 37 (0, 0)) := by rw [← hW]; simpa using heap_alloc_new (World.alloc w (.cells #[.int .i64 D.now, .slice ta m tc'] 37)) (.cells #[.int .i64 0, .slice none 0 0] 37)
    clear hW
    refine (sWheelOkV _ D W (HV0.out.ext (ext_below BW))).mono ?_
    rintro e w1 ⟨rfl, b1⟩
    rw [HOK.out]
    have hbl := (Array.getElem?_eq_some_iff.1 PB).1
    have hrl := (Array.getElem?_eq_some_iff.1 PR).1
    have PB1 := below_blk b1 hbl PB
    have PR1 := below_blk b1 hrl PR
    have hrl1 := (Array.getElem?_eq_some_iff.1 PR1).1
    have HB1 : Hid (Below w.heap.size w w1) := BW.trans (b1.mono BW.size)
    obtain ⟨z0, y0⟩ := at_block PB1 0 _ rfl
    obtain ⟨z1, y1⟩ := at_block PB1 1 _ rfl
    clear b1 PR PB BW hbl hrl
    by_cases hbad : n < 0 ∨ 1000000 - D.now < n
    · have HBAD : Hid ((decide (0 ≤ n) && decide (n ≤ 1000000 - D.now)) = false) := by
        show _ = _
        simp only [Bool.and_eq_false_iff, decide_eq_false_iff_not]
        omega
      have HOWN : Hid (Calls Tryz.prog 69 #[.agg #[.int .i64 D.now, .slice ta m tc']] w1 fun e w' => ∃ tv, e = .returned (.agg #[.int .i64 D.now, tv]) ∧ OwT w' w1.heap.size tv D.tms ∧ Below w1.heap.size w1 w') := ownV _ D w1 (HV0.out.ext (ext_below HB1.out)) HL.out
      have HEQ : Hid (tickD true D n = (D, [])) := by
        unfold tickD
        rw [if_pos rfl, HBAD.out]
        exact rfl
      go_upto_region 3 with fail
      go_cut [21] from 13 to 21 (fun c wx => c = .bool true ∧ wx = w1)
      case first =>
        rcases hbad with hb | hb
        · have hb' : decide (n < 0) = true := by simpa using hb
          go_wp2_with fail
          go_meet
          exact ⟨by simp <;> omega, rfl⟩
        · by_cases hb2 : n < 0
          · have hb' : decide (n < 0) = true := by simpa using hb2
            go_wp2_with fail
            go_meet
            exact ⟨by simp <;> omega, rfl⟩
          · have hb' : decide (n < 0) = false := by simpa using hb2
            go_wp2_with fail
            go_meet
            exact ⟨by simp <;> omega, rfl⟩
      obtain ⟨rfl, hwc⟩ := hcut
      subst hwc
      clear hbad
      go_wp2_with fail
      refine HOWN.out.mono ?_
      rintro e w2 ⟨tv2, rfl, o2, b2⟩
      obtain ⟨a2, c2, rfl⟩ := o2.v.shape
      have PR2 := below_blk b2 hrl1 PR1
      have HB2 : Hid (Below w.heap.size w w2) := HB1.out.trans (b2.mono HB1.out.size)
      obtain ⟨x0, f0⟩ := at_block PR2 0 _ rfl
      obtain ⟨x1, f1⟩ := at_block PR2 1 _ rfl
      have HO2 := o2
      have HNV : Hid ((Value.slice a2 D.tms.length c2).ownBlock = none ∨ (Value.slice a2 D.tms.length c2).ownBlock ≠ some (w.heap.size + 1)) := by
        right
        intro e
        have := (World.ownsRow.lt o2 _ e).1
        omega
      have HOO := hideK o2
      clear o2 HO2 b2 PR2 z0 z1 y0 y1
      go_wp2
      refine bodyPost_ret (v := .tuple #[.agg #[.int .i64 D.now, .slice a2 D.tms.length c2], .slice none 0 0]) (by simp [results, Tryz.results51, go_sem, *]) rfl ?_
      rw [HEQ.out]
      exact ⟨_, _, rfl, OwT.v ((HOO.out.kept (set_grown _ _ _ _) HNV.out).kept (set_grown _ _ _ _) HNV.out), OwI.vl (base := 0) (xs := []) (World.ownsRow_nil _ _ _ _), (HB2.out.setCell (by simp) _).setCell (by simp) _⟩
    · have hb1 : ¬ n < 0 := by omega
      have hb2 : ¬ 1000000 - D.now < n := by omega
      have hb1' : decide (n < 0) = false := by simpa using hb1
      have hb2' : decide (1000000 - D.now < n) = false := by simpa using hb2
      have HGO : Hid ((decide (0 ≤ n) && decide (n ≤ 1000000 - D.now)) = true) := by
        show _ = _
        simp only [Bool.and_eq_true, decide_eq_true_eq]
        omega
      have hn0 : 0 ≤ n := by omega
      have hn1 : n ≤ 1000000 := by omega
      clear hbad
      go_wp2_with fail
      generalize hV : w1.alloc _ = V
      have HBV : Hid (Below w1.heap.size w1 V) := by rw [← hV]; exact (Below.refl _ w1).alloc (Nat.le_refl _) _
      have HWV : Hid (WlB V w1.heap.size w1.heap.size (D.now + n) none 0 []) := by
        rw [← hV]
        exact ⟨heap_alloc_new w1 _, World.ownsRow_nil _ _ _ _, Nat.le_refl _⟩
      clear hV z0 y0 z1 y1 hb1' hb2' hb1 hb2
      go_loopw [7, 8] (fun rv i wr => ∃ k : Nat, k ≤ m ∧ i = .int .i64 k ∧ Hid (OwI wr w1.heap.size rv (((D.tms.take k).filter fun t => decide (t.due ≤ D.now + n)).map fun t => t.id)) ∧ Hid (Below w1.heap.size w1 wr) ∧ ∃ oa oc, Hid (WlB wr w1.heap.size w1.heap.size (D.now + n) oa oc ((D.tms.take k).filter fun t => decide (D.now + n < t.due)))) (fun _ i _ => m - (intOf i).toNat)
      case atStart => exact ⟨0, Nat.zero_le _, rfl, World.ownsRow_nil _ _ _ _, HBV.out, none, 0, HWV⟩
      case round =>
        obtain ⟨k, hk, rfl, HOI, HBR, oa, oc, HWR⟩ := hrel
        obtain ⟨ra, rc, hrv⟩ := HOI.out.shape
        obtain ⟨R1, hR1⟩ : ∃ R1, R1 = ((D.tms.take k).filter fun t => decide (t.due ≤ D.now + n)).map fun t => t.id := ⟨_, rfl⟩
        obtain ⟨F2, hF2⟩ : ∃ F2, F2 = (D.tms.take k).filter fun t => decide (D.now + n < t.due) := ⟨_, rfl⟩
        rw [← hR1] at HOI hrv
        rw [← hF2] at HWR
        obtain ⟨lr, hlr0⟩ : ∃ lr, lr = R1.length := ⟨_, rfl⟩
        rw [← hlr0] at hrv
        subst hrv
        have h40 : D.tms.length ≤ 40 := HD.out.2.1
        have HLR : Hid (R1.length ≤ 100 ∧ F2.length ≤ 100) := by
          refine ⟨?_, ?_⟩
          · rw [hR1, List.length_map]
            have := List.length_filter_le (fun t : DTim => decide (t.due ≤ D.now + n)) (D.tms.take k)
            simp at this
            omega
          · rw [hF2]
            have := List.length_filter_le (fun t : DTim => decide (D.now + n < t.due)) (D.tms.take k)
            simp at this
            omega
        have HR1 := hideK hR1
        have HF2 := hideK hF2
        clear hR1 hF2 hlr0 h40
        have PBR := below_blk HBR.out (by omega) PB1
        obtain ⟨z0, y0⟩ := at_block PBR 0 _ rfl
        obtain ⟨z1, y1⟩ := at_block PBR 1 _ rfl
        have q0 := HWR.out.cells.1
        by_cases hlt : k < m
        · obtain ⟨C, ⟨a', cap', hva, hc1, hc2, hc3⟩, hC⟩ := HVT.out.ext (ext_below (HB1.out.trans (HBR.out.mono HB1.out.size)))
          simp only [Value.slice.injEq] at hva
          obtain ⟨rfl, hmm, rfl⟩ := hva
          clear hmm
          obtain ⟨b0, o0, rfl, hbl0, hc⟩ := hc3 (by have := HM.out; omega)
          obtain ⟨s, hs⟩ : ∃ s, D.tms[k]? = some s := ⟨_, List.getElem?_eq_getElem (by have := HM.out; omega)⟩
          have c0 := hc k (by have := HM.out; omega) 0 (by omega)
          have c1 := hc k (by have := HM.out; omega) 1 (by omega)
          rw [(hC k s hs).1, Nat.add_zero] at c0
          rw [(hC k s hs).2] at c1
          have hlt' : (k : Int) < (m : Int) := by omega
          have HTK : Hid (D.tms.take (k + 1) = D.tms.take k ++ [s]) := by
            obtain ⟨hl', rfl⟩ := List.getElem?_eq_some_iff.1 hs
            rw [List.take_succ_eq_append_getElem hl']
            exact rfl
          clear hc hc3 hC hs hc1 hc2
          by_cases hd : s.due ≤ D.now + n
          · have hd' : decide (s.due ≤ D.now + n) = true := by simpa using hd
            have HN1 : Hid (((D.tms.take (k + 1)).filter fun t => decide (t.due ≤ D.now + n)).map (fun t => t.id) = R1 ++ [s.id]) := by
              rw [HTK.out, List.filter_append, List.map_append, ← HR1.out]
              show _ = _
              simp [hd]
            have HN2 : Hid ((D.tms.take (k + 1)).filter (fun t => decide (D.now + n < t.due)) = F2) := by
              rw [HTK.out, List.filter_append, ← HF2.out]
              show _ = _
              simp [List.filter_cons]
              omega
            go_wp2_with fail
            go_quiet (fail)
            generalize hU : wr.drewN _ = U
            have BU : Below wr.heap.size wr U := by rw [← hU]; exact below_drewN (Below.refl _ _) _
            have HOU : Hid (OwI U w1.heap.size (.slice ra lr rc) R1) := HOI.out.ext (ext_below BU)
            have HWU : Hid (WlB U w1.heap.size w1.heap.size (D.now + n) oa oc F2) := HWR.out.below BU
            have HBU : Hid (Below w1.heap.size w1 U) := HBR.out.trans (BU.mono HBR.out.size)
            have z1u := World.grownBy.cell (ext_below BU) z1 (by simp)
            have c0u := World.grownBy.cell (ext_below BU) c0 (by simp)
            clear hU BU z0 z1 y0 y1 c0 c1 q0
            go_wp2_with (at_builtin; refine wpList_append_i1 _ rfl (.tmp 45) (.tmp 52) rfl w1.heap.size (.slice ra lr rc) R1 rfl (HOU.out.ext (World.grownBy_alloc U _ none)) U.heap.size s.id rfl (by simp [go_sem]) (by have := HLR.out; omega) (by have := HBU.out.size; simp; omega) ?_; intro v5 w5 o5 g5)
            have HO5 : Hid (OwI w5 w1.heap.size v5 (((D.tms.take (k + 1)).filter fun t => decide (t.due ≤ D.now + n)).map fun t => t.id)) := by rw [HN1.out]; exact o5
            have HB5 : Hid (Below w1.heap.size w1 w5) := (HBU.out.alloc HBU.out.size _).grown g5 (by have := HBU.out.size; simp; omega) (fun k hk => (World.ownsRow.lt HOU.out k hk).1)
            have HW5 : Hid (WlB w5 w1.heap.size w1.heap.size (D.now + n) oa oc ((D.tms.take (k + 1)).filter fun t => decide (D.now + n < t.due))) := by
              rw [HN2.out]
              exact (HWU.out.below ((Below.refl _ _).alloc (Nat.le_refl _) _)).keptI (HOU.out.ext (World.grownBy_alloc U _ none)) g5
            clear o5 g5
            go_roundw
            case rel => exact ⟨k + 1, by omega, by go_num, HO5, HB5, oa, oc, HW5⟩
            case measure => simp [intOf]; omega
          · have hd' : decide (s.due ≤ D.now + n) = false := by simpa using hd
            have HN1 : Hid (((D.tms.take (k + 1)).filter fun t => decide (t.due ≤ D.now + n)).map (fun t => t.id) = R1) := by
              rw [HTK.out, List.filter_append, List.map_append, ← HR1.out]
              show _ = _
              simp [hd]
            have HN2 : Hid ((D.tms.take (k + 1)).filter (fun t => decide (D.now + n < t.due)) = F2 ++ [s]) := by
              rw [HTK.out, List.filter_append, ← HF2.out]
              show _ = _
              have : D.now + n < s.due := by omega
              simp [this]
            go_wp2_with fail
            go_quiet (fail)
            generalize hU : wr.drewN _ = U
            have BU : Below wr.heap.size wr U := by rw [← hU]; exact below_drewN (Below.refl _ _) _
            have HOU : Hid (OwI U w1.heap.size (.slice ra lr rc) R1) := HOI.out.ext (ext_below BU)
            have HWU : Hid (WlB U w1.heap.size w1.heap.size (D.now + n) oa oc F2) := HWR.out.below BU
            have HBU : Hid (Below w1.heap.size w1 U) := HBR.out.trans (BU.mono HBR.out.size)
            have z1u := World.grownBy.cell (ext_below BU) z1 (by simp)
            have c0u := World.grownBy.cell (ext_below BU) c0 (by simp)
            have c1u := World.grownBy.cell (ext_below BU) c1 (by simp)
            obtain ⟨u0, u1, uf⟩ := HWU.out.cells
            obtain ⟨lf, hlf0⟩ : ∃ lf, lf = F2.length := ⟨_, rfl⟩
            have HLF := hideK hlf0
            rw [← hlf0] at u1
            clear hU BU z0 z1 y0 y1 c0 c1 q0 hlf0
            have hw1U : w1.heap.size < U.heap.size := (Array.getElem?_eq_some_iff.1 HWU.out.box).1
            have hneU : U.heap.size ≠ w1.heap.size := by omega
            have hneU2 : U.heap.size ≠ w.heap.size := by have := HB1.out.size; omega
            have hneU3 : U.heap.size ≠ b0 := by have := World.block_lt_of_cell? U _ c0u; simp at this; omega
            have kz : ∀ o, (U.alloc o).cell? ⟨w.heap.size, 1, none⟩ = some (.slice (some ⟨b0, o0, none⟩) m tc') := fun o => World.grownBy.cell (World.grownBy_alloc U o none) z1u (by simp)
            have kc0 : ∀ o, (U.alloc o).cell? ⟨b0, o0 + k * 2, none⟩ = some (.int .i64 s.id) := fun o => World.grownBy.cell (World.grownBy_alloc U o none) c0u (by simp)
            have kc1 : ∀ o, (U.alloc o).cell? ⟨b0, o0 + k * 2 + 1, none⟩ = some (.int .i64 s.due) := fun o => World.grownBy.cell (World.grownBy_alloc U o none) c1u (by simp)
            have ku : ∀ o, (U.alloc o).cell? ⟨w1.heap.size, 1, none⟩ = some (.slice oa lf oc) := fun o => World.grownBy.cell (World.grownBy_alloc U o none) u1 (by simp)
            have HROW : Hid (∀ o, OwT (U.alloc o) w1.heap.size (.slice oa lf oc) F2) := fun o => by rw [HLF.out]; exact HWU.out.row.alloc o
            have HFIN : Hid (∀ v5 w5, OwT w5 w1.heap.size v5 (F2 ++ [s]) → (U.alloc (.cells #[.int .i64 s.id, .int .i64 s.due] 114)).grownBy w5 (Value.slice oa lf oc).ownBlock → ∃ a5 c5, v5 = .slice a5 (lf + 1) c5 ∧ w5.cell? ⟨w1.heap.size, 1, none⟩ = some (.slice oa lf oc) ∧ w5.frozen? ⟨w1.heap.size, 1, none⟩ = false ∧ WlB (w5.setCell ⟨w1.heap.size, 1, none⟩ v5) w1.heap.size w1.heap.size (D.now + n) a5 c5 (F2 ++ [s]) ∧ OwI (w5.setCell ⟨w1.heap.size, 1, none⟩ v5) w1.heap.size (.slice ra lr rc) R1 ∧ Below w1.heap.size w1 (w5.setCell ⟨w1.heap.size, 1, none⟩ v5)) := by
              intro v5 w5 o5 g5
              have hbx : w5.heap[w1.heap.size]? = some (.cells #[.int .i64 (D.now + n), .slice oa lf oc] 37 (0, 0)) := by
                have hbU : (U.alloc (.cells #[.int .i64 s.id, .int .i64 s.due] 114)).heap[w1.heap.size]? = some (.cells #[.int .i64 (D.now + n), .slice oa lf oc] 37 (0, 0)) := by
                  rw [Below.heap_alloc U _ _ hw1U, HLF.out]
                  exact HWU.out.box
                exact (g5.block w1.heap.size (by simp; omega) (ne_rowT (HROW.out _) hbU (by decide))).trans hbU
              have hl5 : (F2 ++ [s]).length = lf + 1 := by rw [HLF.out]; simp
              obtain ⟨a5, c5, rfl⟩ := o5.v.shape
              rw [hl5] at o5 ⊢
              have hnb : (Value.slice a5 (lf + 1) c5).ownBlock = none ∨ (Value.slice a5 (lf + 1) c5).ownBlock ≠ some w1.heap.size := by
                right
                exact (ne_rowT o5 hbx (by decide)).symm
              have OU' : OwI (U.alloc (.cells #[.int .i64 s.id, .int .i64 s.due] 114)) w1.heap.size (.slice ra lr rc) R1 := HOU.out.ext (World.grownBy_alloc U _ none)
              have OI5 : OwI w5 w1.heap.size (.slice ra lr rc) R1 := World.ownsRow.kept OU' g5 (rows_ne' (HROW.out _) OU')
              refine ⟨a5, c5, rfl, (at_block hbx 1 _ rfl).1, (at_block hbx 1 _ rfl).2, ⟨?_, ?_, Nat.le_refl _⟩, ?_, ?_⟩
              · rw [set_block hbx 1 (.slice a5 (lf + 1) c5), hl5]
                simp
              · rw [hl5]
                exact o5.kept (set_grown _ _ _ _) hnb
              · exact World.ownsRow.kept OI5 (set_grown _ _ _ _) (.inr (ne_rowI OI5 hbx (by decide)).symm)
              · exact ((HBU.out.alloc HBU.out.size _).grown g5 (by have := HBU.out.size; simp; omega) (fun k hk => (World.ownsRow.lt HWU.out.row k (by rw [← HLF.out]; exact hk)).1)).setCell (Nat.le_refl _) _
            go_wp2_with fail
            go_region_law (refine step_append_tm rfl (.tmp 55) (.tmp 61) 35 Tryz.underlying35 rfl w1.heap.size (.slice oa lf oc) F2 rfl (HROW.out _) (some ⟨U.heap.size, 0, none⟩) 1 1 [s] rfl (one_tims U s) (by have := HLR.out; simp; omega) (by have := HBU.out.size; simp; omega) ?_; intro v5 w5 o5 g5 hat; obtain ⟨a5, c5, rfl, x1, x2, x3, x4, x5⟩ := HFIN.out v5 w5 o5 (grown_undrew g5))
            all_goals
              go_wp2_with fail
              go_roundw
              case rel => exact ⟨k + 1, by omega, by go_num, by rw [HN1.out]; exact x4, x5, a5, c5, by rw [HN2.out]; exact x3⟩
              case measure => simp [intOf]; omega
        · have hkm : k = m := by omega
          have HRR : Hid (tickD true D n = (⟨D.now + n, F2⟩, R1)) := by
            unfold tickD
            rw [if_pos rfl, HGO.out, HR1.out, HF2.out, List.take_of_length_le (by have := HM.out; omega)]
            exact rfl
          have q1 := HWR.out.cells.2.1
          have PRR := below_blk HBR.out hrl1 PR1
          obtain ⟨x0, f0⟩ := at_block PRR 0 _ rfl
          obtain ⟨x1, f1⟩ := at_block PRR 1 _ rfl
          have HBF : Hid (Below w.heap.size w wr) := HB1.out.trans (HBR.out.mono HB1.out.size)
          have HNV : Hid ((Value.slice oa F2.length oc).ownBlock = none ∨ (Value.slice oa F2.length oc).ownBlock ≠ some (w.heap.size + 1)) := .inr (ne_rowT HWR.out.row PRR (by decide)).symm
          have HNR : Hid ((Value.slice ra lr rc).ownBlock = none ∨ (Value.slice ra lr rc).ownBlock ≠ some (w.heap.size + 1)) := .inr (ne_rowI HOI.out PRR (by decide)).symm
          have hnew : w1.heap.size ≠ w.heap.size + 1 := by omega
          have hnew' : w.heap.size + 1 ≠ w1.heap.size := by omega
          clear hkm y0 y1
          obtain ⟨lf, hlf0⟩ : ∃ lf, lf = F2.length := ⟨_, rfl⟩
          have HWW := hideK HWR.out.row
          rw [← hlf0] at q1 HNV HWW
          clear hlf0
          go_wp2
          refine bodyPost_ret (v := .tuple #[.agg #[.int .i64 (D.now + n), .slice oa lf oc], .slice ra lr rc]) (by simp [results, Tryz.results51, go_sem, *]) rfl ?_
          rw [HRR.out]
          exact ⟨_, _, rfl, OwT.v ((HWW.out.kept (set_grown _ _ _ _) HNV.out).kept (set_grown _ _ _ _) HNV.out), OwI.vl (World.ownsRow.kept (World.ownsRow.kept HOI.out (set_grown _ _ _ _) HNR.out) (set_grown _ _ _ _) HNR.out), (HBF.out.setCell (by simp) _).setCell (by simp) _⟩

end Go.Proofs.YtnklnhnjmikooaaGreat

namespace Go.Proofs.YtnklnhnjmikooaaGreat
open Go.RowKit

/-- A wheel and numbers, that the caller owns. -/
def SResO (R : DWheel × List Int) (w : World) (e : Ending) (w' : World) : Prop := ∃ tv rv, e = .returned (.tuple #[.agg #[.int .i64 R.1.now, tv], rv]) ∧ OwT w' w.heap.size tv R.1.tms ∧ OwI w' w.heap.size rv R.2 ∧ Below w.heap.size w w'
theorem baseI {w : World} {b b' : Nat} {v : Value} {xs : List Int} (o : OwI w b v xs) (h : b' ≤ b) : OwI w b' v xs := by
  obtain ⟨hl, hh⟩ := o
  refine ⟨hl, ?_⟩
  rcases hh with hh | ⟨g, c, cur, h1, h2, h3⟩
  · exact .inl hh
  · exact .inr ⟨g, c, cur, h1, Nat.le_trans h h2, h3⟩

set_option maxRecDepth 20000 in
set_option maxHeartbeats 8000000 in
theorem sTickO (v : Value) (D : DWheel) (n : Int) (w : World) (h : VWheel w v D) (hl : D.tms.length ≤ 1048576) (hnb : -9223372036854775808 ≤ n) (hnb2 : n ≤ 9223372036854775807) : Calls Tryz.prog 51 #[v, .int .i64 n] w (SResO (tickD (tB (WheelP D)) D n) w) := by
  have HV0 : Hid (VWheel w v D) := h
  obtain ⟨tv, rfl, h⟩ := h
  have HVT : Hid (VTims w tv D.tms) := h
  obtain ⟨ta, tc', rfl⟩ := h.shape
  obtain ⟨m, hn⟩ : ∃ m, m = D.tms.length := ⟨_, rfl⟩
  have HM : Hid (m = D.tms.length) := hn
  rw [← hn] at HV0 HVT ⊢
  clear h hn
  cases hok : tB (WheelP D) with
  | false =>
    have HOK : Hid (tB (WheelP D) = false) := hok
    clear hok
    go_enter Tryz.func51, Tryz.ntmps51
    go_wp2_with fail
    generalize hW : World.alloc (World.alloc w _) _ = W
    have BW : Below w.heap.size w W := by rw [← hW]; exact ((Below.refl _ w).alloc (Nat.le_refl _) _).alloc (by simp) _
    have PR : W.heap[w.heap.size + 1]? = some (.cells #[.int .i64 0, .slice none 0 0] 37 (0, 0)) := by rw [← hW]; simpa using heap_alloc_new (World.alloc w (.cells #[.int .i64 D.now, .slice ta m tc'] 37)) (.cells #[.int .i64 0, .slice none 0 0] 37)
    clear hW
    refine (sWheelOkV _ D W (HV0.out.ext (ext_below BW))).mono ?_
    rintro e w1 ⟨rfl, b1⟩
    rw [HOK.out]
    have PR1 := below_blk b1 (Array.getElem?_eq_some_iff.1 PR).1 PR
    have HB1 : Hid (Below w.heap.size w w1) := BW.trans (b1.mono BW.size)
    obtain ⟨z0, y0⟩ := at_block PR1 0 _ rfl
    obtain ⟨z1, y1⟩ := at_block PR1 1 _ rfl
    clear b1 PR PR1 BW
    go_wp2
    refine bodyPost_ret (v := .tuple #[.agg #[.int .i64 0, .slice none 0 0], .slice none 0 0]) (by simp [results, Tryz.results51, go_sem, *]) rfl ?_
    refine ⟨_, _, rfl, World.ownsRow_nil _ _ _ _, World.ownsRow_nil _ _ _ _, ?_⟩
    first | exact HB1.out | exact HB1.out.setCell (by simp) _ | exact (HB1.out.setCell (by simp) _).setCell (by simp) _
  | true =>
    have HOK : Hid (tB (WheelP D) = true) := hok
    have HD : Hid (WheelP D) := tB_iff.1 hok
    have HL : Hid (D.tms.length ≤ 1048576) := hl
    have hnow := HD.out.1
    obtain ⟨hnow0, hnow1⟩ := hnow
    have hm40 : (m : Int) ≤ 40 := by have := HD.out.2.1; have := HM.out; omega
    clear hok
    go_enter Tryz.func51, Tryz.ntmps51
    go_wp2_with fail
    generalize hW : World.alloc (World.alloc w _) _ = W
    have BW : Below w.heap.size w W := by rw [← hW]; exact ((Below.refl _ w).alloc (Nat.le_refl _) _).alloc (by simp) _
    have PB : W.heap[w.heap.size]? = some (.cells #[.int .i64 D.now, .slice ta m tc'] 37 (0, 0)) := by rw [← hW, Below.heap_alloc _ _ _ (by simp)]; exact heap_alloc_new w _
    have PR : W.heap[w.heap.size + 1]? = some (.cells #[.int .i64 0, .slice none 0 0] 37 (0, 0)) := by rw [← hW]; simpa using heap_alloc_new (World.alloc w (.cells #[.int .i64 D.now, .slice ta m tc'] 37)) (.cells #[.int .i64 0, .slice none 0 0] 37)
    clear hW
    refine (sWheelOkV _ D W (HV0.out.ext (ext_below BW))).mono ?_
    rintro e w1 ⟨rfl, b1⟩
    rw [HOK.out]
    have hbl := (Array.getElem?_eq_some_iff.1 PB).1
    have hrl := (Array.getElem?_eq_some_iff.1 PR).1
    have PB1 := below_blk b1 hbl PB
    have PR1 := below_blk b1 hrl PR
    have hrl1 := (Array.getElem?_eq_some_iff.1 PR1).1
    have HB1 : Hid (Below w.heap.size w w1) := BW.trans (b1.mono BW.size)
    obtain ⟨z0, y0⟩ := at_block PB1 0 _ rfl
    obtain ⟨z1, y1⟩ := at_block PB1 1 _ rfl
    clear b1 PR PB BW hbl hrl
    by_cases hbad : n < 0 ∨ 1000000 - D.now < n
    · have HBAD : Hid ((decide (0 ≤ n) && decide (n ≤ 1000000 - D.now)) = false) := by
        show _ = _
        simp only [Bool.and_eq_false_iff, decide_eq_false_iff_not]
        omega
      have HOWN : Hid (Calls Tryz.prog 69 #[.agg #[.int .i64 D.now, .slice ta m tc']] w1 fun e w' => ∃ tv, e = .returned (.agg #[.int .i64 D.now, tv]) ∧ OwT w' w1.heap.size tv D.tms ∧ Below w1.heap.size w1 w') := ownV _ D w1 (HV0.out.ext (ext_below HB1.out)) HL.out
      have HEQ : Hid (tickD true D n = (D, [])) := by
        unfold tickD
        rw [if_pos rfl, HBAD.out]
        exact rfl
      go_upto_region 3 with fail
      go_cut [21] from 13 to 21 (fun c wx => c = .bool true ∧ wx = w1)
      case first =>
        rcases hbad with hb | hb
        · have hb' : decide (n < 0) = true := by simpa using hb
          go_wp2_with fail
          go_meet
          exact ⟨by simp <;> omega, rfl⟩
        · by_cases hb2 : n < 0
          · have hb' : decide (n < 0) = true := by simpa using hb2
            go_wp2_with fail
            go_meet
            exact ⟨by simp <;> omega, rfl⟩
          · have hb' : decide (n < 0) = false := by simpa using hb2
            go_wp2_with fail
            go_meet
            exact ⟨by simp <;> omega, rfl⟩
      obtain ⟨rfl, hwc⟩ := hcut
      subst hwc
      clear hbad
      go_wp2_with fail
      refine HOWN.out.mono ?_
      rintro e w2 ⟨tv2, rfl, o2, b2⟩
      obtain ⟨a2, c2, rfl⟩ := o2.v.shape
      have PR2 := below_blk b2 hrl1 PR1
      have HB2 : Hid (Below w.heap.size w w2) := HB1.out.trans (b2.mono HB1.out.size)
      obtain ⟨x0, f0⟩ := at_block PR2 0 _ rfl
      obtain ⟨x1, f1⟩ := at_block PR2 1 _ rfl
      have HO2 := o2
      have HNV : Hid ((Value.slice a2 D.tms.length c2).ownBlock = none ∨ (Value.slice a2 D.tms.length c2).ownBlock ≠ some (w.heap.size + 1)) := by
        right
        intro e
        have := (World.ownsRow.lt o2 _ e).1
        omega
      have HOO := hideK o2
      clear o2 HO2 b2 PR2 z0 z1 y0 y1
      go_wp2
      refine bodyPost_ret (v := .tuple #[.agg #[.int .i64 D.now, .slice a2 D.tms.length c2], .slice none 0 0]) (by simp [results, Tryz.results51, go_sem, *]) rfl ?_
      rw [HEQ.out]
      exact ⟨_, _, rfl, baseT ((HOO.out.kept (set_grown _ _ _ _) HNV.out).kept (set_grown _ _ _ _) HNV.out) HB1.out.size, World.ownsRow_nil _ _ _ _, (HB2.out.setCell (by simp) _).setCell (by simp) _⟩
    · have hb1 : ¬ n < 0 := by omega
      have hb2 : ¬ 1000000 - D.now < n := by omega
      have hb1' : decide (n < 0) = false := by simpa using hb1
      have hb2' : decide (1000000 - D.now < n) = false := by simpa using hb2
      have HGO : Hid ((decide (0 ≤ n) && decide (n ≤ 1000000 - D.now)) = true) := by
        show _ = _
        simp only [Bool.and_eq_true, decide_eq_true_eq]
        omega
      have hn0 : 0 ≤ n := by omega
      have hn1 : n ≤ 1000000 := by omega
      clear hbad
      go_wp2_with fail
      generalize hV : w1.alloc _ = V
      have HBV : Hid (Below w1.heap.size w1 V) := by rw [← hV]; exact (Below.refl _ w1).alloc (Nat.le_refl _) _
      have HWV : Hid (WlB V w1.heap.size w1.heap.size (D.now + n) none 0 []) := by
        rw [← hV]
        exact ⟨heap_alloc_new w1 _, World.ownsRow_nil _ _ _ _, Nat.le_refl _⟩
      clear hV z0 y0 z1 y1 hb1' hb2' hb1 hb2
      go_loopw [7, 8] (fun rv i wr => ∃ k : Nat, k ≤ m ∧ i = .int .i64 k ∧ Hid (OwI wr w1.heap.size rv (((D.tms.take k).filter fun t => decide (t.due ≤ D.now + n)).map fun t => t.id)) ∧ Hid (Below w1.heap.size w1 wr) ∧ ∃ oa oc, Hid (WlB wr w1.heap.size w1.heap.size (D.now + n) oa oc ((D.tms.take k).filter fun t => decide (D.now + n < t.due)))) (fun _ i _ => m - (intOf i).toNat)
      case atStart => exact ⟨0, Nat.zero_le _, rfl, World.ownsRow_nil _ _ _ _, HBV.out, none, 0, HWV⟩
      case round =>
        obtain ⟨k, hk, rfl, HOI, HBR, oa, oc, HWR⟩ := hrel
        obtain ⟨ra, rc, hrv⟩ := HOI.out.shape
        obtain ⟨R1, hR1⟩ : ∃ R1, R1 = ((D.tms.take k).filter fun t => decide (t.due ≤ D.now + n)).map fun t => t.id := ⟨_, rfl⟩
        obtain ⟨F2, hF2⟩ : ∃ F2, F2 = (D.tms.take k).filter fun t => decide (D.now + n < t.due) := ⟨_, rfl⟩
        rw [← hR1] at HOI hrv
        rw [← hF2] at HWR
        obtain ⟨lr, hlr0⟩ : ∃ lr, lr = R1.length := ⟨_, rfl⟩
        rw [← hlr0] at hrv
        subst hrv
        have h40 : D.tms.length ≤ 40 := HD.out.2.1
        have HLR : Hid (R1.length ≤ 100 ∧ F2.length ≤ 100) := by
          refine ⟨?_, ?_⟩
          · rw [hR1, List.length_map]
            have := List.length_filter_le (fun t : DTim => decide (t.due ≤ D.now + n)) (D.tms.take k)
            simp at this
            omega
          · rw [hF2]
            have := List.length_filter_le (fun t : DTim => decide (D.now + n < t.due)) (D.tms.take k)
            simp at this
            omega
        have HR1 := hideK hR1
        have HF2 := hideK hF2
        clear hR1 hF2 hlr0 h40
        have PBR := below_blk HBR.out (by omega) PB1
        obtain ⟨z0, y0⟩ := at_block PBR 0 _ rfl
        obtain ⟨z1, y1⟩ := at_block PBR 1 _ rfl
        have q0 := HWR.out.cells.1
        by_cases hlt : k < m
        · obtain ⟨C, ⟨a', cap', hva, hc1, hc2, hc3⟩, hC⟩ := HVT.out.ext (ext_below (HB1.out.trans (HBR.out.mono HB1.out.size)))
          simp only [Value.slice.injEq] at hva
          obtain ⟨rfl, hmm, rfl⟩ := hva
          clear hmm
          obtain ⟨b0, o0, rfl, hbl0, hc⟩ := hc3 (by have := HM.out; omega)
          obtain ⟨s, hs⟩ : ∃ s, D.tms[k]? = some s := ⟨_, List.getElem?_eq_getElem (by have := HM.out; omega)⟩
          have c0 := hc k (by have := HM.out; omega) 0 (by omega)
          have c1 := hc k (by have := HM.out; omega) 1 (by omega)
          rw [(hC k s hs).1, Nat.add_zero] at c0
          rw [(hC k s hs).2] at c1
          have hlt' : (k : Int) < (m : Int) := by omega
          have HTK : Hid (D.tms.take (k + 1) = D.tms.take k ++ [s]) := by
            obtain ⟨hl', rfl⟩ := List.getElem?_eq_some_iff.1 hs
            rw [List.take_succ_eq_append_getElem hl']
            exact rfl
          clear hc hc3 hC hs hc1 hc2
          by_cases hd : s.due ≤ D.now + n
          · have hd' : decide (s.due ≤ D.now + n) = true := by simpa using hd
            have HN1 : Hid (((D.tms.take (k + 1)).filter fun t => decide (t.due ≤ D.now + n)).map (fun t => t.id) = R1 ++ [s.id]) := by
              rw [HTK.out, List.filter_append, List.map_append, ← HR1.out]
              show _ = _
              simp [hd]
            have HN2 : Hid ((D.tms.take (k + 1)).filter (fun t => decide (D.now + n < t.due)) = F2) := by
              rw [HTK.out, List.filter_append, ← HF2.out]
              show _ = _
              simp [List.filter_cons]
              omega
            go_wp2_with fail
            go_quiet (fail)
            generalize hU : wr.drewN _ = U
            have BU : Below wr.heap.size wr U := by rw [← hU]; exact below_drewN (Below.refl _ _) _
            have HOU : Hid (OwI U w1.heap.size (.slice ra lr rc) R1) := HOI.out.ext (ext_below BU)
            have HWU : Hid (WlB U w1.heap.size w1.heap.size (D.now + n) oa oc F2) := HWR.out.below BU
            have HBU : Hid (Below w1.heap.size w1 U) := HBR.out.trans (BU.mono HBR.out.size)
            have z1u := World.grownBy.cell (ext_below BU) z1 (by simp)
            have c0u := World.grownBy.cell (ext_below BU) c0 (by simp)
            clear hU BU z0 z1 y0 y1 c0 c1 q0
            go_wp2_with (at_builtin; refine wpList_append_i1 _ rfl (.tmp 45) (.tmp 52) rfl w1.heap.size (.slice ra lr rc) R1 rfl (HOU.out.ext (World.grownBy_alloc U _ none)) U.heap.size s.id rfl (by simp [go_sem]) (by have := HLR.out; omega) (by have := HBU.out.size; simp; omega) ?_; intro v5 w5 o5 g5)
            have HO5 : Hid (OwI w5 w1.heap.size v5 (((D.tms.take (k + 1)).filter fun t => decide (t.due ≤ D.now + n)).map fun t => t.id)) := by rw [HN1.out]; exact o5
            have HB5 : Hid (Below w1.heap.size w1 w5) := (HBU.out.alloc HBU.out.size _).grown g5 (by have := HBU.out.size; simp; omega) (fun k hk => (World.ownsRow.lt HOU.out k hk).1)
            have HW5 : Hid (WlB w5 w1.heap.size w1.heap.size (D.now + n) oa oc ((D.tms.take (k + 1)).filter fun t => decide (D.now + n < t.due))) := by
              rw [HN2.out]
              exact (HWU.out.below ((Below.refl _ _).alloc (Nat.le_refl _) _)).keptI (HOU.out.ext (World.grownBy_alloc U _ none)) g5
            clear o5 g5
            go_roundw
            case rel => exact ⟨k + 1, by omega, by go_num, HO5, HB5, oa, oc, HW5⟩
            case measure => simp [intOf]; omega
          · have hd' : decide (s.due ≤ D.now + n) = false := by simpa using hd
            have HN1 : Hid (((D.tms.take (k + 1)).filter fun t => decide (t.due ≤ D.now + n)).map (fun t => t.id) = R1) := by
              rw [HTK.out, List.filter_append, List.map_append, ← HR1.out]
              show _ = _
              simp [hd]
            have HN2 : Hid ((D.tms.take (k + 1)).filter (fun t => decide (D.now + n < t.due)) = F2 ++ [s]) := by
              rw [HTK.out, List.filter_append, ← HF2.out]
              show _ = _
              have : D.now + n < s.due := by omega
              simp [this]
            go_wp2_with fail
            go_quiet (fail)
            generalize hU : wr.drewN _ = U
            have BU : Below wr.heap.size wr U := by rw [← hU]; exact below_drewN (Below.refl _ _) _
            have HOU : Hid (OwI U w1.heap.size (.slice ra lr rc) R1) := HOI.out.ext (ext_below BU)
            have HWU : Hid (WlB U w1.heap.size w1.heap.size (D.now + n) oa oc F2) := HWR.out.below BU
            have HBU : Hid (Below w1.heap.size w1 U) := HBR.out.trans (BU.mono HBR.out.size)
            have z1u := World.grownBy.cell (ext_below BU) z1 (by simp)
            have c0u := World.grownBy.cell (ext_below BU) c0 (by simp)
            have c1u := World.grownBy.cell (ext_below BU) c1 (by simp)
            obtain ⟨u0, u1, uf⟩ := HWU.out.cells
            obtain ⟨lf, hlf0⟩ : ∃ lf, lf = F2.length := ⟨_, rfl⟩
            have HLF := hideK hlf0
            rw [← hlf0] at u1
            clear hU BU z0 z1 y0 y1 c0 c1 q0 hlf0
            have hw1U : w1.heap.size < U.heap.size := (Array.getElem?_eq_some_iff.1 HWU.out.box).1
            have hneU : U.heap.size ≠ w1.heap.size := by omega
            have hneU2 : U.heap.size ≠ w.heap.size := by have := HB1.out.size; omega
            have hneU3 : U.heap.size ≠ b0 := by have := World.block_lt_of_cell? U _ c0u; simp at this; omega
            have kz : ∀ o, (U.alloc o).cell? ⟨w.heap.size, 1, none⟩ = some (.slice (some ⟨b0, o0, none⟩) m tc') := fun o => World.grownBy.cell (World.grownBy_alloc U o none) z1u (by simp)
            have kc0 : ∀ o, (U.alloc o).cell? ⟨b0, o0 + k * 2, none⟩ = some (.int .i64 s.id) := fun o => World.grownBy.cell (World.grownBy_alloc U o none) c0u (by simp)
            have kc1 : ∀ o, (U.alloc o).cell? ⟨b0, o0 + k * 2 + 1, none⟩ = some (.int .i64 s.due) := fun o => World.grownBy.cell (World.grownBy_alloc U o none) c1u (by simp)
            have ku : ∀ o, (U.alloc o).cell? ⟨w1.heap.size, 1, none⟩ = some (.slice oa lf oc) := fun o => World.grownBy.cell (World.grownBy_alloc U o none) u1 (by simp)
            have HROW : Hid (∀ o, OwT (U.alloc o) w1.heap.size (.slice oa lf oc) F2) := fun o => by rw [HLF.out]; exact HWU.out.row.alloc o
            have HFIN : Hid (∀ v5 w5, OwT w5 w1.heap.size v5 (F2 ++ [s]) → (U.alloc (.cells #[.int .i64 s.id, .int .i64 s.due] 114)).grownBy w5 (Value.slice oa lf oc).ownBlock → ∃ a5 c5, v5 = .slice a5 (lf + 1) c5 ∧ w5.cell? ⟨w1.heap.size, 1, none⟩ = some (.slice oa lf oc) ∧ w5.frozen? ⟨w1.heap.size, 1, none⟩ = false ∧ WlB (w5.setCell ⟨w1.heap.size, 1, none⟩ v5) w1.heap.size w1.heap.size (D.now + n) a5 c5 (F2 ++ [s]) ∧ OwI (w5.setCell ⟨w1.heap.size, 1, none⟩ v5) w1.heap.size (.slice ra lr rc) R1 ∧ Below w1.heap.size w1 (w5.setCell ⟨w1.heap.size, 1, none⟩ v5)) := by
              intro v5 w5 o5 g5
              have hbx : w5.heap[w1.heap.size]? = some (.cells #[.int .i64 (D.now + n), .slice oa lf oc] 37 (0, 0)) := by
                have hbU : (U.alloc (.cells #[.int .i64 s.id, .int .i64 s.due] 114)).heap[w1.heap.size]? = some (.cells #[.int .i64 (D.now + n), .slice oa lf oc] 37 (0, 0)) := by
                  rw [Below.heap_alloc U _ _ hw1U, HLF.out]
                  exact HWU.out.box
                exact (g5.block w1.heap.size (by simp; omega) (ne_rowT (HROW.out _) hbU (by decide))).trans hbU
              have hl5 : (F2 ++ [s]).length = lf + 1 := by rw [HLF.out]; simp
              obtain ⟨a5, c5, rfl⟩ := o5.v.shape
              rw [hl5] at o5 ⊢
              have hnb : (Value.slice a5 (lf + 1) c5).ownBlock = none ∨ (Value.slice a5 (lf + 1) c5).ownBlock ≠ some w1.heap.size := by
                right
                exact (ne_rowT o5 hbx (by decide)).symm
              have OU' : OwI (U.alloc (.cells #[.int .i64 s.id, .int .i64 s.due] 114)) w1.heap.size (.slice ra lr rc) R1 := HOU.out.ext (World.grownBy_alloc U _ none)
              have OI5 : OwI w5 w1.heap.size (.slice ra lr rc) R1 := World.ownsRow.kept OU' g5 (rows_ne' (HROW.out _) OU')
              refine ⟨a5, c5, rfl, (at_block hbx 1 _ rfl).1, (at_block hbx 1 _ rfl).2, ⟨?_, ?_, Nat.le_refl _⟩, ?_, ?_⟩
              · rw [set_block hbx 1 (.slice a5 (lf + 1) c5), hl5]
                simp
              · rw [hl5]
                exact o5.kept (set_grown _ _ _ _) hnb
              · exact World.ownsRow.kept OI5 (set_grown _ _ _ _) (.inr (ne_rowI OI5 hbx (by decide)).symm)
              · exact ((HBU.out.alloc HBU.out.size _).grown g5 (by have := HBU.out.size; simp; omega) (fun k hk => (World.ownsRow.lt HWU.out.row k (by rw [← HLF.out]; exact hk)).1)).setCell (Nat.le_refl _) _
            go_wp2_with fail
            go_region_law (refine step_append_tm rfl (.tmp 55) (.tmp 61) 35 Tryz.underlying35 rfl w1.heap.size (.slice oa lf oc) F2 rfl (HROW.out _) (some ⟨U.heap.size, 0, none⟩) 1 1 [s] rfl (one_tims U s) (by have := HLR.out; simp; omega) (by have := HBU.out.size; simp; omega) ?_; intro v5 w5 o5 g5 hat; obtain ⟨a5, c5, rfl, x1, x2, x3, x4, x5⟩ := HFIN.out v5 w5 o5 (grown_undrew g5))
            all_goals
              go_wp2_with fail
              go_roundw
              case rel => exact ⟨k + 1, by omega, by go_num, by rw [HN1.out]; exact x4, x5, a5, c5, by rw [HN2.out]; exact x3⟩
              case measure => simp [intOf]; omega
        · have hkm : k = m := by omega
          have HRR : Hid (tickD true D n = (⟨D.now + n, F2⟩, R1)) := by
            unfold tickD
            rw [if_pos rfl, HGO.out, HR1.out, HF2.out, List.take_of_length_le (by have := HM.out; omega)]
            exact rfl
          have q1 := HWR.out.cells.2.1
          have PRR := below_blk HBR.out hrl1 PR1
          obtain ⟨x0, f0⟩ := at_block PRR 0 _ rfl
          obtain ⟨x1, f1⟩ := at_block PRR 1 _ rfl
          have HBF : Hid (Below w.heap.size w wr) := HB1.out.trans (HBR.out.mono HB1.out.size)
          have HNV : Hid ((Value.slice oa F2.length oc).ownBlock = none ∨ (Value.slice oa F2.length oc).ownBlock ≠ some (w.heap.size + 1)) := .inr (ne_rowT HWR.out.row PRR (by decide)).symm
          have HNR : Hid ((Value.slice ra lr rc).ownBlock = none ∨ (Value.slice ra lr rc).ownBlock ≠ some (w.heap.size + 1)) := .inr (ne_rowI HOI.out PRR (by decide)).symm
          have hnew : w1.heap.size ≠ w.heap.size + 1 := by omega
          have hnew' : w.heap.size + 1 ≠ w1.heap.size := by omega
          clear hkm y0 y1
          obtain ⟨lf, hlf0⟩ : ∃ lf, lf = F2.length := ⟨_, rfl⟩
          have HWW := hideK HWR.out.row
          rw [← hlf0] at q1 HNV HWW
          clear hlf0
          go_wp2
          refine bodyPost_ret (v := .tuple #[.agg #[.int .i64 (D.now + n), .slice oa lf oc], .slice ra lr rc]) (by simp [results, Tryz.results51, go_sem, *]) rfl ?_
          rw [HRR.out]
          exact ⟨_, _, rfl, baseT ((HWW.out.kept (set_grown _ _ _ _) HNV.out).kept (set_grown _ _ _ _) HNV.out) HB1.out.size, baseI (World.ownsRow.kept (World.ownsRow.kept HOI.out (set_grown _ _ _ _) HNR.out) (set_grown _ _ _ _) HNR.out) HB1.out.size, (HBF.out.setCell (by simp) _).setCell (by simp) _⟩

end Go.Proofs.YtnklnhnjmikooaaGreat

