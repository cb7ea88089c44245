
/- The contract of the specification's l7set. -/
import Derived.Test.YtnklnhnjmikooaaGreatHpW
import Derived.Test.YtnklnhnjmikooaaGreatHpS
import Derived.Deep.CutRange
namespace Go.Proofs.YtnklnhnjmikooaaGreat
open Go.RowKit

theorem tw_eq {ts : List DTim} {t : DTim} : ∀ {k : Nat}, (∀ (j : Nat) (u : DTim), j < k → ts[j]? = some u → aheadB u t = true) → (k = ts.length ∨ ∃ u, ts[k]? = some u ∧ aheadB u t = false) → ts.takeWhile (fun u => aheadB u t) = ts.take k ∧ ts.dropWhile (fun u => aheadB u t) = ts.drop k := by
  induction ts with
  | nil =>
    intro k _ _
    simp
  | cons u us ih =>
    intro k h1 h2
    match k with
    | 0 =>
      rcases h2 with h2 | ⟨x, h2, h3⟩
      · simp at h2
      · have : u = x := by simpa using h2
        subst this
        rw [List.takeWhile_cons, List.dropWhile_cons, h3]
        simp
    | k + 1 =>
      have hu := h1 0 u (by omega) rfl
      have := ih (k := k) (fun j x hj hx => h1 (j + 1) x (by omega) (by simpa using hx)) (by
        rcases h2 with h2 | ⟨x, h2, h3⟩
        · left; simpa using h2
        · exact .inr ⟨x, by simpa using h2, h3⟩)
      rw [List.takeWhile_cons, List.dropWhile_cons, hu]
      simp [this.1, this.2]

theorem shapeT {w : World} {base : Nat} {v : Value} {ts : List DTim} (o : OwT w base v ts) : ∃ a c l, l = ts.length ∧ v = .slice a l c := by
  obtain ⟨a, c, h⟩ := o.v.shape
  exact ⟨a, c, _, rfl, h⟩
/-- What setting in a box comes to. -/
def SSet (base h : Nat) (now : Int) (ts : List DTim) (id after : Int) (w : World) (e : Ending) (w' : World) : Prop := ∃ b a' cap' ts', e = .returned (.bool b) ∧ (b = false ∧ badS ⟨now, ts⟩ id after = true ∧ ts' = ts ∨ b = true ∧ badS ⟨now, ts⟩ id after = false ∧ ts' = insT (lessT ts id) ⟨id, now + after⟩) ∧ WlB w' base h now a' cap' ts' ∧ w.grownBy w' (some h)

set_option maxRecDepth 20000 in
set_option maxHeartbeats 8000000 in
theorem ssetV (h base cap : Nat) (now : Int) (a : Option Addr) (ts : List DTim) (id after : Int) (w : World) (p : WlB w base h now a cap ts) (hl : ts.length ≤ 900) (hb : base ≤ w.heap.size) (hn0 : 0 ≤ now) (hn1 : now ≤ 1000000) :
    Calls Tryz.prog 52 #[.pointer (some ⟨h, 0, none⟩), .int .i64 id, .int .i64 after] w (SSet base h now ts id after w) := by
  obtain ⟨ce0, ce1, fe1⟩ := p.cells
  obtain ⟨n, hn⟩ : ∃ n, n = ts.length := ⟨_, rfl⟩
  rw [← hn] at ce1 hl
  have HN : Hid (n = ts.length) := hn
  have HV : Hid (VTims w (.slice a n cap) ts) := by rw [hn]; exact p.row.v
  have HP0 : Hid (WlB w base h now a cap ts) := p
  have hhl : h < w.heap.size := (Array.getElem?_eq_some_iff.1 p.box).1
  have HB : Hid (base ≤ w.heap.size) := hb
  have hl' : (n : Int) ≤ 900 := by omega
  clear hn p hb
  have HRET : Hid (∀ e, e = .returned (.bool false) → badS ⟨now, ts⟩ id after = true → SSet base h now ts id after w e w) := fun e he hbad => ⟨false, a, cap, ts, he, .inl ⟨rfl, hbad, rfl⟩, HP0.out, grown_re _ _⟩
  by_cases t1 : id < 0
  · have HBAD : Hid (badS ⟨now, ts⟩ id after = true) := by show _ = _; simp [badS, t1]
    go_enter Tryz.func52, Tryz.ntmps52
    go_wp2_with fail
    go_ret
    exact HRET.out _ rfl HBAD.out
  have t1' : decide (id < 0) = false := by simpa using t1
  by_cases t2 : 2147483647 < id
  · have HBAD : Hid (badS ⟨now, ts⟩ id after = true) := by show _ = _; simp [badS, t2]
    go_enter Tryz.func52, Tryz.ntmps52
    go_wp2_with fail
    go_ret
    exact HRET.out _ rfl HBAD.out
  have t2' : decide (2147483647 < id) = false := by simpa using t2
  by_cases t3 : after < 1
  · have HBAD : Hid (badS ⟨now, ts⟩ id after = true) := by show _ = _; simp [badS, t3]
    go_enter Tryz.func52, Tryz.ntmps52
    go_wp2_with fail
    go_ret
    exact HRET.out _ rfl HBAD.out
  have t3' : decide (after < 1) = false := by simpa using t3
  by_cases t4 : 1000000 < after
  · have HBAD : Hid (badS ⟨now, ts⟩ id after = true) := by show _ = _; simp [badS, t4]
    go_enter Tryz.func52, Tryz.ntmps52
    go_wp2_with fail
    go_ret
    exact HRET.out _ rfl HBAD.out
  have t4' : decide (1000000 < after) = false := by simpa using t4
  obtain ⟨r, hr⟩ : ∃ r, r = placeT ts id := ⟨_, rfl⟩
  have HR : Hid (r = placeT ts id) := hr
  have HFI : Hid (Calls Tryz.prog 71 #[.slice a n cap, .int .i64 id] w fun e w' => e = .returned (.int .i64 r) ∧ w' = w) := by rw [hr]; exact sfindV _ _ _ _ HV.out
  clear hr
  by_cases t5 : r < 0 ∧ 40 ≤ n
  · obtain ⟨t5a, t5b⟩ := t5
    have HBAD : Hid (badS ⟨now, ts⟩ id after = true) := by
      show _ = _
      simp only [badS, Bool.or_eq_true, Bool.and_eq_true, decide_eq_true_eq]
      exact .inr ⟨by rw [← HR.out]; exact t5a, by rw [← HN.out]; exact t5b⟩
    have t5c : decide (r < 0) = true := by simpa using t5a
    have t5d : (40 : Int) ≤ n := by omega
    go_enter Tryz.func52, Tryz.ntmps52
    go_wp2_with (go_at_call 71; refine HFI.out.mono ?_; rintro e w7 ⟨rfl, hw7⟩; subst hw7)
    go_ret
    exact HRET.out _ rfl HBAD.out
  have HBADN : Hid (badS ⟨now, ts⟩ id after = false) := by
    show _ = _
    have e1 := HR.out
    have e2 := HN.out
    simp only [badS, Bool.or_eq_false_iff, Bool.and_eq_false_iff, decide_eq_false_iff_not]
    rw [← e1, ← e2]
    omega
  have ha0 : (1 : Int) ≤ after := by omega
  have ha1 : after ≤ 1000000 := by omega
  have hcond : (decide (r < 0) && decide ((40 : Int) ≤ n)) = false := by
    simp only [Bool.and_eq_false_iff, decide_eq_false_iff_not]
    omega
  -- up to the stop
  have HST : Hid (Calls Tryz.prog 70 #[.pointer (some ⟨h, 0, none⟩), .int .i64 id] w (SStop base h now ts id w)) := sstopV h base cap now a ts id w HP0.out (by have := HN.out; omega) HB.out
  clear t1 t2 t3 t4
  go_enter Tryz.func52, Tryz.ntmps52
  go_upto_region 1 with fail
  go_cut [40] from 10 to 40 (fun c wx => c = .bool false ∧ wx = w)
  case first =>
    by_cases t6 : r < 0
    · have t6' : decide (r < 0) = true := by simpa using t6
      have t7 : ¬ ((40 : Int) ≤ n) := by omega
      have t7' : decide ((40 : Int) ≤ n) = false := by simpa using t7
      go_wp2_with (go_at_call 71; refine HFI.out.mono ?_; rintro e w7 ⟨rfl, hw7⟩; subst hw7)
      go_meet
      exact ⟨by simp <;> omega, rfl⟩
    · have t6' : decide (r < 0) = false := by simpa using t6
      go_wp2_with (go_at_call 71; refine HFI.out.mono ?_; rintro e w7 ⟨rfl, hw7⟩; subst hw7)
      go_meet
      exact ⟨by simp <;> omega, rfl⟩
  obtain ⟨rfl, rfl⟩ := hcut
  clear t5 hcond t1' t2' t3' t4' HFI
  go_wp2_with fail
  refine HST.out.mono ?_
  rintro e w1 ⟨q, a1, c1, ts1, rfl, hq, p1, g1⟩
  have HLS : Hid (ts1 = lessT ts id) := by
    unfold lessT
    rcases hq with ⟨_, e1, e2⟩ | ⟨_, i, e1, _, e2⟩
    · rw [e1, if_pos (by omega)]; exact e2
    · rw [e1, if_neg (by omega), Int.toNat_natCast]; exact e2
  obtain ⟨n1, hn1'⟩ : ∃ n1, n1 = ts1.length := ⟨_, rfl⟩
  have HN1 : Hid (n1 = ts1.length) := hn1'
  have hn1l : n1 ≤ 900 := by
    rw [hn1', HLS.out]
    unfold lessT
    split
    · rw [← HN.out]; exact hl
    · rw [List.length_eraseIdx]; have := HN.out; split <;> omega
  have hn1i : (n1 : Int) ≤ 900 := by omega
  have HP1 : Hid (WlB w1 base h now a1 c1 ts1) := p1
  have HG1 : Hid (_ ) := hideQ g1
  obtain ⟨c0', c1', f1'⟩ := p1.cells
  rw [← hn1'] at c1'
  have hhl1 : h < w1.heap.size := (Array.getElem?_eq_some_iff.1 p1.box).1
  clear hq p1 g1 hn1' ce0 ce1 fe1 HST
  go_wp2_with fail
  generalize hV : w1.alloc _ = V
  have HBV1 : Hid (Below w1.heap.size w1 V) := by rw [← hV]; exact (Below.refl _ w1).alloc (Nat.le_refl _) _
  have HWB : Hid (WlB V base h now a1 c1 ts1) := HP1.out.below HBV1.out
  have HT0 : Hid (V.cell? ⟨w1.heap.size, 0, none⟩ = some (.int .i64 id) ∧ V.cell? ⟨w1.heap.size, 1, none⟩ = some (.int .i64 (now + after))) := by
    rw [← hV]
    exact ⟨(at_block (heap_alloc_new w1 _) 0 _ rfl).1, (at_block (heap_alloc_new w1 _) 1 _ rfl).1⟩
  have HLT : Hid (ts1.length ≤ 900) := by rw [← HN1.out]; exact hn1l
  have HLA : Hid (∀ j : Nat, ([] : List DTim).length + (ts1.take j).length ≤ 2097152) := fun j => by have := HLT.out; simp; omega
  have HLB : Hid (∀ j : Nat, (ts1.take j).length + [DTim.mk id (now + after)].length ≤ 2097152) := fun j => by have := HLT.out; simp; omega
  have HLC : Hid (∀ j : Nat, (ts1.take j ++ [DTim.mk id (now + after)]).length + (ts1.drop j).length ≤ 2097152) := fun j => by have := HLT.out; simp; omega
  clear hV c0' c1' f1'
  go_loopw [8] (fun i wr => ∃ k : Nat, k ≤ n1 ∧ i = .int .i64 k ∧ Hid (Below V.heap.size V wr) ∧ Hid (∀ (j : Nat) (u : DTim), j < k → ts1[j]? = some u → aheadB u ⟨id, now + after⟩ = true)) (fun i _ => n1 - (intOf i).toNat)
  case atStart => exact ⟨0, Nat.zero_le _, rfl, Below.refl _ _, fun j u hj => absurd hj (by omega)⟩
  case round =>
    obtain ⟨k, hk, rfl, HBR, HALL⟩ := hrel
    have HWR := hideQ (HWB.out.below HBR.out)
    have q1 := HWR.out.cells.2.1
    rw [← HN1.out] at q1
    have zq1 := bw_cell q1
    have nonV := bw_ne wr
    by_cases hlt : k < n1
    · obtain ⟨s, hs⟩ : ∃ s, ts1[k]? = some s := ⟨_, List.getElem?_eq_getElem (by have := HN1.out; omega)⟩
      obtain ⟨g1, ha1⟩ : ∃ g1, a1 = some ⟨g1, 0, none⟩ := by
        rcases HWR.out.row.2 with ⟨_, h0⟩ | ⟨g, c, cur, hv, _⟩
        · have := HN1.out; omega
        · simp only [Value.slice.injEq] at hv
          exact ⟨g, hv.1⟩
      subst ha1
      obtain ⟨e0, e1, _, _⟩ := OwT.cells HWR.out.row rfl hs
      have zs0 := bw_cell e0
      have zs1 := bw_cell e1
      have zt0 := bw_cell (World.grownBy.cell (ext_below HBR.out) HT0.out.1 (by simp))
      have zt1 := bw_cell (World.grownBy.cell (ext_below HBR.out) HT0.out.2 (by simp))
      obtain ⟨b1, K1⟩ : ∃ c, aheadB s ⟨id, now + after⟩ = c := ⟨_, rfl⟩
      have HAH : Hid (∀ z : BW wr, Calls Tryz.prog 93 #[.agg #[.int .i64 s.id, .int .i64 s.due], .agg #[.int .i64 id, .int .i64 (now + after)]] z.u fun e w' => e = .returned (.bool b1) ∧ Below z.u.heap.size z.u w') := fun z => by
        rw [← K1]
        exact saheadV s ⟨id, now + after⟩ _
      have HS : Hid (ts1[k]? = some s) := hs
      have hlt' : (k : Int) < (n1 : Int) := by omega
      have hltd : decide ((k : Int) < (n1 : Int)) = true := by simpa using hlt'
      clear q1 e0 e1 hs
      go_wp2_with fail
      refine wp_region_bw (by kernel_rfl) (by kernel_rfl) ?_
      repeat (go_big_quiet_step ((go_at_call 93; exact bw_below (HAH.out _))))
      refine wpQuiet_nil ?_
      intro _ hw'
      obtain ⟨z, hw''⟩ := hw'
      subst hw''
      have HBZ : Hid (Below V.heap.size V z.u) := HBR.out.trans (z.h.mono HBR.out.size)
      cases b1
      case true =>
        have HA : Hid (∀ (j : Nat) (u : DTim), j < k + 1 → ts1[j]? = some u → aheadB u ⟨id, now + after⟩ = true) := fun j u hj hu => by
          by_cases e : j = k
          · subst e
            rw [HS.out] at hu
            cases hu
            exact K1
          · exact HALL.out j u (by omega) hu
        clear HALL zq1 zs0 zs1 zt0 zt1
        go_wp2
        go_roundw
        case rel => exact ⟨k + 1, by omega, by go_num, HBZ, HA⟩
        case measure => simp [intOf]; omega
      case false =>
        have HEX : Hid (k = ts1.length ∨ ∃ u, ts1[k]? = some u ∧ aheadB u ⟨id, now + after⟩ = false) := .inr ⟨s, HS.out, K1⟩
        clear zq1 zs0 zs1 zt0 zt1 HAH HWR K1
        go_upto_region 9 with fail
        have HTW := hideQ (tw_eq HALL.out HEX.out)
        have HZ : Hid (WlB z.u base h now (some ⟨g1, 0, none⟩) c1 ts1) := HWB.out.below HBZ.out
        generalize hZ : z.u = Z at *
        have HZT : Hid (Z.cell? ⟨w1.heap.size, 0, none⟩ = some (.int .i64 id) ∧ Z.cell? ⟨w1.heap.size, 1, none⟩ = some (.int .i64 (now + after))) := ⟨World.grownBy.cell (ext_below HBZ.out) HT0.out.1 (by simp), World.grownBy.cell (ext_below HBZ.out) HT0.out.2 (by simp)⟩
        have HKP : Hid (∀ U, Below Z.heap.size Z U → U.cell? ⟨h, 1, none⟩ = some (.slice (some ⟨g1, 0, none⟩) n1 c1) ∧ U.frozen? ⟨h, 1, none⟩ = false ∧ U.cell? ⟨w1.heap.size, 0, none⟩ = some (.int .i64 id) ∧ U.cell? ⟨w1.heap.size, 1, none⟩ = some (.int .i64 (now + after))) := fun U hU => by
          have hp := HZ.out.below hU
          refine ⟨?_, hp.cells.2.2, World.grownBy.cell (ext_below hU) HZT.out.1 (by simp), World.grownBy.cell (ext_below hU) HZT.out.2 (by simp)⟩
          rw [HN1.out]
          exact hp.cells.2.1
        have HDONE : Hid (∀ a4 c4 lf w4, lf = (ts1.take k ++ [DTim.mk id (now + after)] ++ ts1.drop k).length → OwT w4 Z.heap.size (.slice a4 lf c4) (ts1.take k ++ [DTim.mk id (now + after)] ++ ts1.drop k) → Below Z.heap.size Z w4 → WlB (w4.setCell ⟨h, 1, none⟩ (.slice a4 lf c4)) base h now a4 c4 (insT (lessT ts id) ⟨id, now + after⟩) ∧ wc.grownBy (w4.setCell ⟨h, 1, none⟩ (.slice a4 lf c4)) (some h)) := fun a4 c4 lf w4 hlf o4 b4 => by
          have hE : insT (lessT ts id) ⟨id, now + after⟩ = ts1.take k ++ [DTim.mk id (now + after)] ++ ts1.drop k := by
            rw [← HLS.out]
            unfold insT
            rw [HTW.out.1, HTW.out.2, List.append_assoc]
            exact rfl
          rw [hE]
          generalize ts1.take k ++ [DTim.mk id (now + after)] ++ ts1.drop k = X at *
          subst hlf
          have hbx := below_blk b4 (Array.getElem?_eq_some_iff.1 HZ.out.box).1 HZ.out.box
          have hlow : base ≤ Z.heap.size := Nat.le_of_lt (Nat.lt_of_le_of_lt HZ.out.low (Array.getElem?_eq_some_iff.1 HZ.out.box).1)
          have hnb : (Value.slice a4 X.length c4).ownBlock = none ∨ (Value.slice a4 X.length c4).ownBlock ≠ some h := by
            right
            intro e
            have h1 := (World.ownsRow.lt o4 _ e).1
            have h2 := (Array.getElem?_eq_some_iff.1 HZ.out.box).1
            omega
          refine ⟨⟨?_, (o4.base hlow).kept (set_grown _ _ _ _) hnb, HZ.out.low⟩, ?_⟩
          · rw [set_block hbx 1 (.slice a4 X.length c4)]
            simp
          · exact (HG1.out.trans (grown_below (HBV1.out.trans ((HBZ.out.trans (b4.mono HBZ.out.size)).mono HBV1.out.size)) _)).trans (set_grown _ _ _ _)
        have zk := HKP.out Z (Below.refl _ _)
        obtain ⟨z1, z2, z3, z4⟩ := zk
        clear hZ
        have hcap : n1 ≤ c1 ∧ c1 ≤ 9223372036854775807 := by
          rcases HZ.out.row.2 with ⟨hv, h0⟩ | ⟨g, c, cur, hv, _, _, hnc, hcm, _⟩
          · simp at hv
          · simp only [Value.slice.injEq, Option.some.injEq, true_and] at hv
            obtain ⟨_, rfl⟩ := hv
            unfold maxLen at hcm
            rw [HN1.out]
            omega
        obtain ⟨hc1, hc2⟩ := hcap
        have HVZ : Hid (VTims Z (.slice (some ⟨g1, 0, none⟩) n1 c1) ts1) := by rw [HN1.out]; exact HZ.out.row.v
        have HTK : Hid (VTims Z (.slice (some ⟨g1, 0, none⟩) k c1) (ts1.take k)) := HVZ.out.take hk
        have hkc : k ≤ c1 := by omega
        have hkn1 : (k : Int) ≤ n1 := by omega
        have hk0' : (0 : Int) ≤ k := by omega
        by_cases hce : c1 = k
        · omega
        · have HTD : Hid (VTims Z (.slice (some ⟨g1, k * 2, none⟩) (n1 - k) (c1 - k)) (ts1.drop k)) := by
            have this := HVZ.out.drop (k := k) hk
            show VTims _ _ _
            simpa using this
          go_upto_region 10 with (at_builtin; refine wpList_append_tm _ rfl (.tmp 72) (.tmp 78) 35 Tryz.underlying35 rfl Z.heap.size (.slice none 0 0) [] rfl (World.ownsRow_nil _ _ _ _) (some ⟨g1, 0, none⟩) k c1 (ts1.take k) rfl HTK.out (HLA.out _) (Nat.le_refl _) ?_; intro v2 w2 o2 g2 _)
          rw [List.nil_append] at o2
          obtain ⟨a2, c2, rfl⟩ := o2.v.shape
          have B2 : Below Z.heap.size Z w2 := (Below.refl _ Z).grown g2 (Nat.le_refl _) (fun k hk => by cases hk)
          obtain ⟨e1, e2, e3, e4⟩ := HKP.out w2 B2
          clear g2
          generalize hlk : (ts1.take k).length = lk at *
          have HLK : Hid ((ts1.take k).length = lk) := hlk
          clear hlk
          go_upto_region 11 with (at_builtin; refine wpList_append_tm _ rfl (.tmp 80) (.tmp 82) 35 Tryz.underlying35 rfl Z.heap.size (.slice a2 lk c2) (ts1.take k) rfl (o2.alloc _) (some ⟨w2.heap.size, 0, none⟩) 1 1 [DTim.mk id (now + after)] rfl (one_tims w2 ⟨id, now + after⟩) (HLB.out _) (Nat.le_trans B2.size (by simp)) ?_; intro v3 w3 o3 g3 _)
          obtain ⟨a3, c3, rfl⟩ := o3.v.shape
          have B3 : Below Z.heap.size Z w3 := (B2.alloc B2.size _).grown g3 (Nat.le_trans B2.size (by simp)) (fun k hk => (World.ownsRow.lt o2 k hk).1)
          obtain ⟨d1, d2, d3, d4⟩ := HKP.out w3 B3
          clear g3 e1 e2 e3 e4 o2
          generalize hlm : (ts1.take k ++ [DTim.mk id (now + after)]).length = lm at *
          have HLM : Hid ((ts1.take k ++ [DTim.mk id (now + after)]).length = lm) := hlm
          clear hlm
          go_upto_region 12 with (at_builtin; refine wpList_append_tm _ rfl (.tmp 85) (.tmp 91) 35 Tryz.underlying35 rfl Z.heap.size (.slice a3 lm c3) (ts1.take k ++ [DTim.mk id (now + after)]) rfl o3 (some ⟨g1, k * 2, none⟩) (n1 - k) (c1 - k) (ts1.drop k) rfl (HTD.out.ext (ext_below B3)) (HLC.out _) B3.size ?_; intro v4 w4 o4 g4 _; obtain ⟨a4, c4, lf, hlf, hv4⟩ := shapeT o4; have HLF := hideQ hlf; clear hlf; subst hv4; have B4 : Below Z.heap.size Z w4 := B3.grown g4 B3.size (fun k hk => (World.ownsRow.lt o3 k hk).1); obtain ⟨x1, x2, x3, x4⟩ := HKP.out w4 B4)
          have HFIN := hideQ (HDONE.out a4 c4 lf w4 HLF.out o4 B4)
          clear o4 g4 o3 d1 d2 d3 d4
          go_wp2_with fail
          go_ret
          exact ⟨true, a4, c4, _, rfl, .inr ⟨rfl, HBADN.out, rfl⟩, HFIN.out.1, HFIN.out.2⟩
    · have hkn : k = n1 := by omega
      have HEX : Hid (k = ts1.length ∨ ∃ u, ts1[k]? = some u ∧ aheadB u ⟨id, now + after⟩ = false) := .inl (by rw [← HN1.out]; exact hkn)
      have hltd : decide ((k : Int) < (n1 : Int)) = false := by simp; omega
      have hltn : ¬ ((k : Int) < (n1 : Int)) := by omega
      clear q1 hkn
      go_wp2_with fail
      refine wp_region_bw (by kernel_rfl) (by kernel_rfl) ?_
      repeat (go_big_quiet_step (fail))
      refine wpQuiet_nil ?_
      intro _ hw'
      obtain ⟨z, hw''⟩ := hw'
      subst hw''
      have HBZ : Hid (Below V.heap.size V z.u) := HBR.out.trans (z.h.mono HBR.out.size)
      clear zq1 HWR
      go_upto_region 9 with fail
      have HTW := hideQ (tw_eq HALL.out HEX.out)
      have HZ : Hid (WlB z.u base h now a1 c1 ts1) := HWB.out.below HBZ.out
      generalize hZ : z.u = Z at *
      have HZT : Hid (Z.cell? ⟨w1.heap.size, 0, none⟩ = some (.int .i64 id) ∧ Z.cell? ⟨w1.heap.size, 1, none⟩ = some (.int .i64 (now + after))) := ⟨World.grownBy.cell (ext_below HBZ.out) HT0.out.1 (by simp), World.grownBy.cell (ext_below HBZ.out) HT0.out.2 (by simp)⟩
      have HKP : Hid (∀ U, Below Z.heap.size Z U → U.cell? ⟨h, 1, none⟩ = some (.slice a1 n1 c1) ∧ U.frozen? ⟨h, 1, none⟩ = false ∧ U.cell? ⟨w1.heap.size, 0, none⟩ = some (.int .i64 id) ∧ U.cell? ⟨w1.heap.size, 1, none⟩ = some (.int .i64 (now + after))) := fun U hU => by
        have hp := HZ.out.below hU
        refine ⟨?_, hp.cells.2.2, World.grownBy.cell (ext_below hU) HZT.out.1 (by simp), World.grownBy.cell (ext_below hU) HZT.out.2 (by simp)⟩
        rw [HN1.out]
        exact hp.cells.2.1
      have HDONE : Hid (∀ a4 c4 lf w4, lf = (ts1.take k ++ [DTim.mk id (now + after)] ++ ts1.drop k).length → OwT w4 Z.heap.size (.slice a4 lf c4) (ts1.take k ++ [DTim.mk id (now + after)] ++ ts1.drop k) → Below Z.heap.size Z w4 → WlB (w4.setCell ⟨h, 1, none⟩ (.slice a4 lf c4)) base h now a4 c4 (insT (lessT ts id) ⟨id, now + after⟩) ∧ wc.grownBy (w4.setCell ⟨h, 1, none⟩ (.slice a4 lf c4)) (some h)) := fun a4 c4 lf w4 hlf o4 b4 => by
        have hE : insT (lessT ts id) ⟨id, now + after⟩ = ts1.take k ++ [DTim.mk id (now + after)] ++ ts1.drop k := by
          rw [← HLS.out]
          unfold insT
          rw [HTW.out.1, HTW.out.2, List.append_assoc]
          exact rfl
        rw [hE]
        generalize ts1.take k ++ [DTim.mk id (now + after)] ++ ts1.drop k = X at *
        subst hlf
        have hbx := below_blk b4 (Array.getElem?_eq_some_iff.1 HZ.out.box).1 HZ.out.box
        have hlow : base ≤ Z.heap.size := Nat.le_of_lt (Nat.lt_of_le_of_lt HZ.out.low (Array.getElem?_eq_some_iff.1 HZ.out.box).1)
        have hnb : (Value.slice a4 X.length c4).ownBlock = none ∨ (Value.slice a4 X.length c4).ownBlock ≠ some h := by
          right
          intro e
          have h1 := (World.ownsRow.lt o4 _ e).1
          have h2 := (Array.getElem?_eq_some_iff.1 HZ.out.box).1
          omega
        refine ⟨⟨?_, (o4.base hlow).kept (set_grown _ _ _ _) hnb, HZ.out.low⟩, ?_⟩
        · rw [set_block hbx 1 (.slice a4 X.length c4)]
          simp
        · exact (HG1.out.trans (grown_below (HBV1.out.trans ((HBZ.out.trans (b4.mono HBZ.out.size)).mono HBV1.out.size)) _)).trans (set_grown _ _ _ _)
      have zk := HKP.out Z (Below.refl _ _)
      obtain ⟨z1, z2, z3, z4⟩ := zk
      clear hZ
      cases a1 with
      | none =>
        have hnc : n1 = 0 ∧ c1 = 0 := by
          rcases HZ.out.row.2 with ⟨hv, h0⟩ | ⟨g, c, cur, hv, _⟩
          · simp only [Value.slice.injEq] at hv
            exact ⟨by rw [HN1.out]; exact h0, hv.2.2⟩
          · simp at hv
        obtain ⟨hn10, hc10⟩ := hnc
        have hk0 : k = 0 := by omega
        have hts1 : ts1 = [] := List.eq_nil_of_length_eq_zero (by rw [← HN1.out]; exact hn10)
        have HTK : Hid (VTims Z (.slice none 0 0) (ts1.take k)) := by rw [hts1]; simp only [List.take_nil]; exact OwT.v (base := 0) (World.ownsRow_nil _ _ _ _)
        have HTD : Hid (VTims Z (.slice none 0 0) (ts1.drop k)) := by rw [hts1]; simp only [List.drop_nil]; exact OwT.v (base := 0) (World.ownsRow_nil _ _ _ _)
        clear hts1
        subst hn10
        subst hc10
        subst hk0
        go_upto_region 10 with (at_builtin; refine wpList_append_tm _ rfl (.tmp 72) (.tmp 78) 35 Tryz.underlying35 rfl Z.heap.size (.slice none 0 0) [] rfl (World.ownsRow_nil _ _ _ _) (none) 0 0 (ts1.take 0) rfl HTK.out (HLA.out _) (Nat.le_refl _) ?_; intro v2 w2 o2 g2 _)
        rw [List.nil_append] at o2
        obtain ⟨a2, c2, rfl⟩ := o2.v.shape
        have B2 : Below Z.heap.size Z w2 := (Below.refl _ Z).grown g2 (Nat.le_refl _) (fun k hk => by cases hk)
        obtain ⟨e1, e2, e3, e4⟩ := HKP.out w2 B2
        clear g2
        generalize hlk : (ts1.take 0).length = lk at *
        have HLK : Hid ((ts1.take 0).length = lk) := hlk
        clear hlk
        go_upto_region 11 with (at_builtin; refine wpList_append_tm _ rfl (.tmp 80) (.tmp 82) 35 Tryz.underlying35 rfl Z.heap.size (.slice a2 lk c2) (ts1.take 0) rfl (o2.alloc _) (some ⟨w2.heap.size, 0, none⟩) 1 1 [DTim.mk id (now + after)] rfl (one_tims w2 ⟨id, now + after⟩) (HLB.out _) (Nat.le_trans B2.size (by simp)) ?_; intro v3 w3 o3 g3 _)
        obtain ⟨a3, c3, rfl⟩ := o3.v.shape
        have B3 : Below Z.heap.size Z w3 := (B2.alloc B2.size _).grown g3 (Nat.le_trans B2.size (by simp)) (fun k hk => (World.ownsRow.lt o2 k hk).1)
        obtain ⟨d1, d2, d3, d4⟩ := HKP.out w3 B3
        clear g3 e1 e2 e3 e4 o2
        generalize hlm : (ts1.take 0 ++ [DTim.mk id (now + after)]).length = lm at *
        have HLM : Hid ((ts1.take 0 ++ [DTim.mk id (now + after)]).length = lm) := hlm
        clear hlm
        go_upto_region 12 with (at_builtin; refine wpList_append_tm _ rfl (.tmp 85) (.tmp 91) 35 Tryz.underlying35 rfl Z.heap.size (.slice a3 lm c3) (ts1.take 0 ++ [DTim.mk id (now + after)]) rfl o3 (none) 0 0 (ts1.drop 0) rfl (HTD.out.ext (ext_below B3)) (HLC.out _) B3.size ?_; intro v4 w4 o4 g4 _; obtain ⟨a4, c4, lf, hlf, hv4⟩ := shapeT o4; have HLF := hideQ hlf; clear hlf; subst hv4; have B4 : Below Z.heap.size Z w4 := B3.grown g4 B3.size (fun k hk => (World.ownsRow.lt o3 k hk).1); obtain ⟨x1, x2, x3, x4⟩ := HKP.out w4 B4)
        have HFIN := hideQ (HDONE.out a4 c4 lf w4 HLF.out o4 B4)
        clear o4 g4 o3 d1 d2 d3 d4
        go_wp2_with fail
        go_ret
        exact ⟨true, a4, c4, _, rfl, .inr ⟨rfl, HBADN.out, rfl⟩, HFIN.out.1, HFIN.out.2⟩
      | some ad =>
        obtain ⟨g1, ha1⟩ : ∃ g1, ad = ⟨g1, 0, none⟩ := by
          rcases HZ.out.row.2 with ⟨hv, h0⟩ | ⟨g, c, cur, hv, _⟩
          · simp at hv
          · simp only [Value.slice.injEq, Option.some.injEq] at hv
            exact ⟨g, hv.1⟩
        subst ha1
        have hcap : n1 ≤ c1 ∧ c1 ≤ 9223372036854775807 := by
          rcases HZ.out.row.2 with ⟨hv, h0⟩ | ⟨g, c, cur, hv, _, _, hnc, hcm, _⟩
          · simp at hv
          · simp only [Value.slice.injEq, Option.some.injEq, true_and] at hv
            obtain ⟨_, rfl⟩ := hv
            unfold maxLen at hcm
            rw [HN1.out]
            omega
        obtain ⟨hc1, hc2⟩ := hcap
        have HVZ : Hid (VTims Z (.slice (some ⟨g1, 0, none⟩) n1 c1) ts1) := by rw [HN1.out]; exact HZ.out.row.v
        have HTK : Hid (VTims Z (.slice (some ⟨g1, 0, none⟩) k c1) (ts1.take k)) := HVZ.out.take hk
        have hkc : k ≤ c1 := by omega
        have hkn1 : (k : Int) ≤ n1 := by omega
        have hk0' : (0 : Int) ≤ k := by omega
        by_cases hce : c1 = k
        · have hnk : n1 = k := by omega
          have HTD : Hid (VTims Z (.slice (some ⟨g1, 0, none⟩) 0 0) (ts1.drop k)) := by
            have : ts1.drop k = [] := List.drop_of_length_le (by rw [← HN1.out]; omega)
            rw [this]
            exact ⟨fun _ _ => .bool true, ⟨_, 0, rfl, Nat.le_refl _, Nat.zero_le _, fun h => absurd h (by simp)⟩, fun i r hr => by simp at hr⟩
          subst hce
          subst hnk
          go_upto_region 10 with (at_builtin; refine wpList_append_tm _ rfl (.tmp 72) (.tmp 78) 35 Tryz.underlying35 rfl Z.heap.size (.slice none 0 0) [] rfl (World.ownsRow_nil _ _ _ _) (some ⟨g1, 0, none⟩) n1 n1 (ts1.take n1) rfl HTK.out (HLA.out _) (Nat.le_refl _) ?_; intro v2 w2 o2 g2 _)
          rw [List.nil_append] at o2
          obtain ⟨a2, c2, rfl⟩ := o2.v.shape
          have B2 : Below Z.heap.size Z w2 := (Below.refl _ Z).grown g2 (Nat.le_refl _) (fun k hk => by cases hk)
          obtain ⟨e1, e2, e3, e4⟩ := HKP.out w2 B2
          clear g2
          generalize hlk : (ts1.take n1).length = lk at *
          have HLK : Hid ((ts1.take n1).length = lk) := hlk
          clear hlk
          go_upto_region 11 with (at_builtin; refine wpList_append_tm _ rfl (.tmp 80) (.tmp 82) 35 Tryz.underlying35 rfl Z.heap.size (.slice a2 lk c2) (ts1.take n1) rfl (o2.alloc _) (some ⟨w2.heap.size, 0, none⟩) 1 1 [DTim.mk id (now + after)] rfl (one_tims w2 ⟨id, now + after⟩) (HLB.out _) (Nat.le_trans B2.size (by simp)) ?_; intro v3 w3 o3 g3 _)
          obtain ⟨a3, c3, rfl⟩ := o3.v.shape
          have B3 : Below Z.heap.size Z w3 := (B2.alloc B2.size _).grown g3 (Nat.le_trans B2.size (by simp)) (fun k hk => (World.ownsRow.lt o2 k hk).1)
          obtain ⟨d1, d2, d3, d4⟩ := HKP.out w3 B3
          clear g3 e1 e2 e3 e4 o2
          generalize hlm : (ts1.take n1 ++ [DTim.mk id (now + after)]).length = lm at *
          have HLM : Hid ((ts1.take n1 ++ [DTim.mk id (now + after)]).length = lm) := hlm
          clear hlm
          go_upto_region 12 with (at_builtin; refine wpList_append_tm _ rfl (.tmp 85) (.tmp 91) 35 Tryz.underlying35 rfl Z.heap.size (.slice a3 lm c3) (ts1.take n1 ++ [DTim.mk id (now + after)]) rfl o3 (some ⟨g1, 0, none⟩) 0 0 (ts1.drop n1) rfl (HTD.out.ext (ext_below B3)) (HLC.out _) B3.size ?_; intro v4 w4 o4 g4 _; obtain ⟨a4, c4, lf, hlf, hv4⟩ := shapeT o4; have HLF := hideQ hlf; clear hlf; subst hv4; have B4 : Below Z.heap.size Z w4 := B3.grown g4 B3.size (fun k hk => (World.ownsRow.lt o3 k hk).1); obtain ⟨x1, x2, x3, x4⟩ := HKP.out w4 B4)
          have HFIN := hideQ (HDONE.out a4 c4 lf w4 HLF.out o4 B4)
          clear o4 g4 o3 d1 d2 d3 d4
          go_wp2_with fail
          go_ret
          exact ⟨true, a4, c4, _, rfl, .inr ⟨rfl, HBADN.out, rfl⟩, HFIN.out.1, HFIN.out.2⟩
        · have HTD : Hid (VTims Z (.slice (some ⟨g1, k * 2, none⟩) (n1 - k) (c1 - k)) (ts1.drop k)) := by
            have this := HVZ.out.drop (k := k) hk
            show VTims _ _ _
            simpa using this
          go_upto_region 10 with (at_builtin; refine wpList_append_tm _ rfl (.tmp 72) (.tmp 78) 35 Tryz.underlying35 rfl Z.heap.size (.slice none 0 0) [] rfl (World.ownsRow_nil _ _ _ _) (some ⟨g1, 0, none⟩) k c1 (ts1.take k) rfl HTK.out (HLA.out _) (Nat.le_refl _) ?_; intro v2 w2 o2 g2 _)
          rw [List.nil_append] at o2
          obtain ⟨a2, c2, rfl⟩ := o2.v.shape
          have B2 : Below Z.heap.size Z w2 := (Below.refl _ Z).grown g2 (Nat.le_refl _) (fun k hk => by cases hk)
          obtain ⟨e1, e2, e3, e4⟩ := HKP.out w2 B2
          clear g2
          generalize hlk : (ts1.take k).length = lk at *
          have HLK : Hid ((ts1.take k).length = lk) := hlk
          clear hlk
          go_upto_region 11 with (at_builtin; refine wpList_append_tm _ rfl (.tmp 80) (.tmp 82) 35 Tryz.underlying35 rfl Z.heap.size (.slice a2 lk c2) (ts1.take k) rfl (o2.alloc _) (some ⟨w2.heap.size, 0, none⟩) 1 1 [DTim.mk id (now + after)] rfl (one_tims w2 ⟨id, now + after⟩) (HLB.out _) (Nat.le_trans B2.size (by simp)) ?_; intro v3 w3 o3 g3 _)
          obtain ⟨a3, c3, rfl⟩ := o3.v.shape
          have B3 : Below Z.heap.size Z w3 := (B2.alloc B2.size _).grown g3 (Nat.le_trans B2.size (by simp)) (fun k hk => (World.ownsRow.lt o2 k hk).1)
          obtain ⟨d1, d2, d3, d4⟩ := HKP.out w3 B3
          clear g3 e1 e2 e3 e4 o2
          generalize hlm : (ts1.take k ++ [DTim.mk id (now + after)]).length = lm at *
          have HLM : Hid ((ts1.take k ++ [DTim.mk id (now + after)]).length = lm) := hlm
          clear hlm
          go_upto_region 12 with (at_builtin; refine wpList_append_tm _ rfl (.tmp 85) (.tmp 91) 35 Tryz.underlying35 rfl Z.heap.size (.slice a3 lm c3) (ts1.take k ++ [DTim.mk id (now + after)]) rfl o3 (some ⟨g1, k * 2, none⟩) (n1 - k) (c1 - k) (ts1.drop k) rfl (HTD.out.ext (ext_below B3)) (HLC.out _) B3.size ?_; intro v4 w4 o4 g4 _; obtain ⟨a4, c4, lf, hlf, hv4⟩ := shapeT o4; have HLF := hideQ hlf; clear hlf; subst hv4; have B4 : Below Z.heap.size Z w4 := B3.grown g4 B3.size (fun k hk => (World.ownsRow.lt o3 k hk).1); obtain ⟨x1, x2, x3, x4⟩ := HKP.out w4 B4)
          have HFIN := hideQ (HDONE.out a4 c4 lf w4 HLF.out o4 B4)
          clear o4 g4 o3 d1 d2 d3 d4
          go_wp2_with fail
          go_ret
          exact ⟨true, a4, c4, _, rfl, .inr ⟨rfl, HBADN.out, rfl⟩, HFIN.out.1, HFIN.out.2⟩

end Go.Proofs.YtnklnhnjmikooaaGreat
