/- The contract of the program's Turned; how great what it tells can be. -/
import Derived.Test.YtplgnohncdfgcalTrB
namespace Go.Proofs.Ytplgnohncdfgcal
open Go.RowKit

theorem keysT_in {p : DTomb → Bool} {rs : List DTomb} {x : List Int} (h : x ∈ keysT p rs) : ∃ (j : Nat) (r : DTomb), rs[j]? = some r ∧ x = r.key := by
  unfold keysT at h
  obtain ⟨r, hr, hk⟩ := List.mem_map.1 h
  obtain ⟨j, hj⟩ := List.mem_iff_getElem?.1 (List.mem_filter.1 hr).1
  exact ⟨j, r, hj, hk.symm⟩
theorem keysP_in' {p : DRow → Bool} {rs : List DRow} {x : List Int} (h : x ∈ keysP p rs) : ∃ (j : Nat) (r : DRow), rs[j]? = some r ∧ x = r.key := by
  unfold keysP at h
  obtain ⟨r, hr, hk⟩ := List.mem_map.1 h
  obtain ⟨j, hj⟩ := List.mem_iff_getElem?.1 (List.mem_filter.1 hr).1
  exact ⟨j, r, hj, hk.symm⟩
theorem at_mem {l : List (List Int)} {i : Nat} (hi : i < l.length) : at_ l i ∈ l := by
  unfold at_
  simp only [List.getD, List.getElem?_eq_getElem hi, Option.getD_some]
  exact List.getElem_mem hi
theorem trV_kb (S : DState) (c : Int) (hr : rngSt S) : KB (trV S c).1 := by
  unfold trV
  split
  · rename_i hok
    have hst := tB_iff.1 hok.1
    refine ⟨?_, fun i hi => ?_, fun i hi => ?_⟩
    · have h1 := keysP_len (fun r => decide (c < r.turned)) S.rows
      have h2 := keysT_len (fun t => decide (c < t.index)) S.tombs
      have h3 := hst.2.2.2.1.1
      have h4 := hst.2.2.2.2.1.1
      rw [List.length_append]
      omega
    · rcases List.mem_append.1 (at_mem hi) with hm | hm
      · obtain ⟨j, r, hj, e⟩ := keysP_in' hm
        rw [e]
        exact keyB_20 (hst.2.2.2.1.2 j (List.getElem?_eq_some_iff.1 hj).1 r hj).1
      · obtain ⟨j, r, hj, e⟩ := keysT_in hm
        rw [e]
        exact keyB_20 (hst.2.2.2.2.1.2 j (List.getElem?_eq_some_iff.1 hj).1 r hj).1
    · rcases List.mem_append.1 (at_mem hi) with hm | hm
      · obtain ⟨j, r, hj, e⟩ := keysP_in' hm
        rw [e]
        exact (hr.1 j r hj).1
      · obtain ⟨j, r, hj, e⟩ := keysT_in hm
        rw [e]
        exact hr.2 j r hj
  · exact KB.nil

/-- What a walk through the tombs knows: the number's box. -/
structure TI (w : World) (c : Int) (wr : World) : Prop where
  b : Below w.heap.size w wr
  t : wr.heap[w.heap.size + 1]? = some (.cells #[.int .i64 c] 3 (0, 0))
theorem TI.ext {w : World} {c : Int} {wr u : World} (h : TI w c wr) (e : Ext wr u) : TI w c u :=
  ⟨h.b.grown e h.b.size (fun k hk => by cases hk), (e.block _ (Array.getElem?_eq_some_iff.1 h.t).1 (by simp)).trans h.t⟩
theorem TI.row {w : World} {c : Int} {wr u : World} {v : Value} {n : Nat} {xs : List Value} (h : TI w c wr) (hr : wr.ownsRow w.heap.size 44 1 v n xs) (e : wr.grownBy u v.ownBlock) : TI w c u := by
  refine ⟨h.b.grown e h.b.size (fun k hk => (hr.lt k hk).1), (e.block _ (Array.getElem?_eq_some_iff.1 h.t).1 (fun e2 => ?_)).trans h.t⟩
  rcases hr.2 with ⟨rfl, _⟩ | ⟨g', cap', cur', rfl, _, h6, _⟩
  · cases e2
  · have e3 : w.heap.size + 1 = g' := Option.some.inj e2
    have h7 := h.t
    rw [e3, h6] at h7
    simp at h7

set_option maxHeartbeats 4000000 in
set_option maxRecDepth 100000 in
theorem iTurnedV (v : Value) (S : DState) (c : Int) (w : World) (h : VState w v S) :
    Calls Try.prog 11 #[v, .int .i64 c] w fun e w' => ∃ v' F, e = .returned (.tuple #[v', .bool (trV S c).2]) ∧ SSG w.heap.size w' v' (trV S c).1.length F (at_ (trV S c).1) ∧ Below w.heap.size w w' := by
  have hE : ∀ w : World, ∀ o, Ext w (w.alloc o) := fun w o => World.grownBy_alloc _ _ _
  have hB : ∀ w : World, ∀ o, Below w.heap.size w (w.alloc o) := fun w o => (Below.refl _ w).alloc (Nat.le_refl _) _
  have hmf : ∀ (fn : Fn) (first cap : Array Value) (w : World), (Instr.makeFunc fn first cap).run Try.prog w = .ok (.func fn first cap) w := fun _ _ _ _ => rfl
  have h0 : Hid (VState w v S) := h
  obtain ⟨rv, tv, sv, lv, rfl, hr, ht, hs, _⟩ := h
  have HRW : Hid (VRows w rv S.rows) := hr
  go_enter Try.func11, Try.ntmps11
  go_wp2_with fail
  refine (iStateOkV _ S _ (h0.out.ext (by first | exact hE _ _ | exact (hE _ _).tr (hE _ _)))).mono ?_
  rintro e w1 ⟨rfl, b1⟩
  have R1 := below_blk b1 (by simp; omega) (h2_0 w _ _)
  have T1 := below_blk b1 (by simp) (h2_1 w _ _)
  have hs1 : w.heap.size + 2 ≤ w1.heap.size := by have := b1.size; simp at this; omega
  have B1 : Below w.heap.size w w1 := ((hB w _).alloc (by simp) _).trans (b1.mono (by simp; omega))
  clear b1
  obtain ⟨t0, _⟩ := at_block T1 0 _ rfl
  obtain ⟨x3, _⟩ := at_block R1 3 _ rfl
  cases hok : tB (StP S)
  · have HL : Hid (trV S c = ([], false)) := if_neg (by rw [hok]; simp)
    go_wp2
    go_ret2
    exact ⟨.slice none 0 0, fun _ => .slice none 0 0, by rw [HL.out]; rfl, by rw [HL.out]; exact SSG.nil _ _ _ _, B1⟩
  have HST : Hid (StP S) := tB_iff.1 hok
  by_cases hlo : c < S.lost
  · have HL : Hid (trV S c = ([], false)) := if_neg (fun h => h.2 hlo)
    have dlo : decide (c < S.lost) = true := decide_eq_true hlo
    clear hok hlo
    go_wp2
    go_ret2
    exact ⟨.slice none 0 0, fun _ => .slice none 0 0, by rw [HL.out]; rfl, by rw [HL.out]; exact SSG.nil _ _ _ _, B1⟩
  have HV : Hid (trV S c = (keysP (fun r => decide (c < r.turned)) S.rows ++ keysT (fun t => decide (c < t.index)) S.tombs, true)) := if_pos ⟨hok, hlo⟩
  have dlo : decide (c < S.lost) = false := decide_eq_false hlo
  clear hok hlo
  obtain ⟨x1, _⟩ := at_block R1 1 _ rfl
  go_wp2_with fail
  refine (keysTurnedV _ S.rows c _ w1 (HRW.out.ext (ext_below B1)) t0 HST.out.2.2.2.1.1 (fun i r hr => keyB_len' (HST.out.2.2.2.1.2 i (List.getElem?_eq_some_iff.1 hr).1 r hr).1)).mono ?_
  rintro e w2 ⟨v2, F2, rfl, hF2, b2⟩
  have B2 := B1.trans (b2.mono B1.size)
  have R2 := below_blk b2 (by omega) R1
  have T2 := below_blk b2 (by omega) T1
  have HF0 : Hid (∃ F, SSG w.heap.size w2 v2 (keysP (fun r => decide (c < r.turned)) S.rows).length F (at_ (keysP (fun r => decide (c < r.turned)) S.rows))) := ⟨F2, hF2.down (by omega)⟩
  clear hF2 b2 R1 T1 x1 x3 t0 dlo
  obtain ⟨DD, ⟨a1, capt, rfl, h1t, h2t, h3t⟩, hD⟩ := ht
  have HD : Hid (∀ i r, S.tombs[i]? = some r → RV w (DD i 0) r.key ∧ DD i 1 = .int .i64 r.index) := hD
  clear hD
  obtain ⟨m, hm⟩ : ∃ m, m = S.tombs.length := ⟨_, rfl⟩
  rw [← hm] at h1t h3t R2 ⊢
  have HN : Hid (m = S.tombs.length) := hm
  clear hm
  unfold maxLen at h2t
  have H3t : Hid (0 < m → ∃ b o, a1 = some ⟨b, o, none⟩ ∧ b < w.heap.size ∧ ∀ i, i < m → ∀ j, j < 2 → w.cell? ⟨b, o + i * 2 + j, none⟩ = some (DD i j)) := h3t
  clear h3t
  obtain ⟨x2, _⟩ := at_block R2 2 _ rfl
  go_wp2
  have HT0 : Hid (TI w c w2) := ⟨B2, T2⟩
  have hm10 : m ≤ 10 := by have := HST.out.2.2.2.2.1.1; have := HN.out; omega
  have HKKT : Hid (∀ (i : Nat) (r : DTomb), S.tombs[i]? = some r → r.key.length ≤ 2097152) := fun i r hr => keyB_len' (HST.out.2.2.2.2.1.2 i (List.getElem?_eq_some_iff.1 hr).1 r hr).1
  have HRL : Hid ((keysP (fun r => decide (c < r.turned)) S.rows).length ≤ 20) := by
    have h5 := keysP_len (fun r => decide (c < r.turned)) S.rows
    have h6 := HST.out.2.2.2.1.1
    show _ ≤ 20
    omega
  generalize keysP (fun r => decide (c < r.turned)) S.rows = rk at HF0 HRL HV
  clear x2 R2 T2 B2 B1 hs1
  go_loopw [6, 25] (fun vo i wr => ∃ k : Nat, k ≤ m ∧ i = .int .i64 k ∧ Hid (TI w c wr) ∧ Hid (∃ F, SSG w.heap.size wr vo (rk ++ keysT (fun t => decide (c < t.index)) (S.tombs.take k)).length F (at_ (rk ++ keysT (fun t => decide (c < t.index)) (S.tombs.take k))))) (fun _ i _ => m - (intOf i).toNat)
  case atStart => exact ⟨0, Nat.zero_le _, rfl, HT0.out, (by have h5 := HF0.out; show ∃ F, _; simpa [keysT] using h5)⟩
  case round =>
    obtain ⟨k, hk, rfl, hti, hss⟩ := hrel
    by_cases hlt : k < m
    · obtain ⟨b, o, rfl, hbl, hc⟩ := H3t.out (by omega)
      obtain ⟨s, hs⟩ : ∃ s, S.tombs[k]? = some s := ⟨_, List.getElem?_eq_getElem (by have := HN.out; omega)⟩
      obtain ⟨e0, e3⟩ := HD.out k s hs
      have X := ext_below hti.out.b
      have c0 := World.grownBy.cell X (hc k hlt 0 (by omega)) (by simp)
      have c3 := World.grownBy.cell X (hc k hlt 1 (by omega)) (by simp)
      have HK : Hid (RV wr (DD k 0) s.key) := e0.ext X
      obtain ⟨ka, kc, ek, _, _, _⟩ := e0
      rw [Nat.add_zero, ek] at c0
      rw [e3] at c3
      have HKR : Hid (Rd wr ka s.key.length s.key) := by
        have := HK.out
        rw [ek] at this
        obtain ⟨_, _, e, hrd, _, _⟩ := this
        cases e
        exact hrd
      have hlt' : (k : Int) < (m : Int) := by omega
      have HNX := keysT_next (fun t => decide (c < t.index)) S.tombs k s hs
      have HKN : Hid (s.key.length ≤ 2097152) := HKKT.out k s hs
      have HAL : Hid ((rk ++ keysT (fun t => decide (c < t.index)) (S.tombs.take k)).length ≤ 30) := by
        show (rk ++ _).length ≤ 30
        have h5 := keysT_len (fun t => decide (c < t.index)) (S.tombs.take k)
        have h6 := HRL.out
        rw [List.length_take] at h5
        rw [List.length_append]
        omega
      have HNX1 : Hid (rk ++ keysT (fun t => decide (c < t.index)) (S.tombs.take (k + 1)) = (rk ++ keysT (fun t => decide (c < t.index)) (S.tombs.take k)) ++ (if (fun t => decide (c < t.index)) s = true then [s.key] else [])) := by
        show _ = _
        rw [HNX, List.append_assoc]
      generalize rk ++ keysT (fun t => decide (c < t.index)) (S.tombs.take k) = acc at hss HNX1 HAL
      clear hc e3 X ek HK HNX
      obtain ⟨kl, hkl⟩ : ∃ kl, s.key.length = kl := ⟨_, rfl⟩
      have HKL : Hid (s.key.length = kl) := hkl
      rw [hkl] at c0 HKR HKN
      clear hkl
      have tsc : ∀ ob, (wr.alloc ob).cell? ⟨w.heap.size + 1, 0, none⟩ = some (.int .i64 c) := fun ob => World.grownBy.cell (hE wr ob) (at_block hti.out.t 0 _ rfl).1 (by simp)
      have hwz : w.heap.size + 2 ≤ wr.heap.size := (Array.getElem?_eq_some_iff.1 hti.out.t).1
      by_cases hh : c < s.index
      · have HNX2 : Hid (rk ++ keysT (fun t => decide (c < t.index)) (S.tombs.take (k + 1)) = acc ++ [s.key]) := by
          show _ = _
          rw [HNX1.out, if_pos (decide_eq_true hh)]
        have dh : decide (c < s.index) = true := decide_eq_true hh
        clear HNX1 hh hs
        obtain ⟨F, hF⟩ := hss.out
        have HFS : Hid (SSG w.heap.size wr _ acc.length F (at_ acc)) := hF
        have HFL : Hid (∀ i, i < acc.length → ∀ q, (F i).ownBlock = some q → q < wr.heap.size) := fun i hi q hq => ((hF.tx i hi).lt q hq).2
        clear hss hF
        go_wp2_with (first
          | (go_at_call 50; refine (clone ka kl kc s.key _ (HKR.out.grown (hE wr _)) HKN.out).mono ?_; rintro e w8 ⟨v8, rfl, ow8, b8⟩; obtain ⟨a8, c8, rfl⟩ := ow_shape ow8; rw [HKL.out] at ow8 ⊢; have HB8 : Hid (Below wr.heap.size wr w8) := (hB wr _).trans (b8.mono (by simp)); have HF8 : Hid (SSG w.heap.size w8 _ acc.length F (at_ acc)) := HFS.out.ext (ext_below HB8.out); have HOW8 : Hid (Ow w8 wr.heap.size (.slice a8 kl c8) s.key) := ow_base ow8 (by simp); have hs8 : wr.heap.size ≤ w8.heap.size := HB8.out.size; clear ow8 b8)
          | (at_builtin; refine wpList_append_tb _ rfl (.tmp 33) (.tmp 37) rfl w.heap.size _ acc.length _ rfl (HF8.out.ext (hE _ _)).row w8.heap.size (.slice a8 kl c8) rfl (at_block (heap_alloc_new w8 _) 0 _ rfl).1 rfl (by have := HAL.out; omega) (by simp; omega) ?_; intro v9 w9 ow9 g9))
        have X9 : Ext w8 (w8.alloc (.cells #[.slice a8 kl c8] 44 (0, 0))) := hE _ _
        have HG9 : Hid (TI w c w9) := ((hti.out.ext (ext_below HB8.out)).ext X9).row (HF8.out.ext X9).row g9
        have HS9 : Hid (∃ F, SSG w.heap.size w9 v9 (rk ++ keysT (fun t => decide (c < t.index)) (S.tombs.take (k + 1))).length F (at_ (rk ++ keysT (fun t => decide (c < t.index)) (S.tombs.take (k + 1))))) := by
          show ∃ F, _
          rw [HNX2.out]
          exact ⟨_, ((HF8.out.ext X9).next (ow_base (HOW8.out.ext X9) (by omega)) (HOW8.out.ext X9) HFL.out ow9 g9).as (by simp) (fun i hi => at_push acc s.key i hi)⟩
        clear X9 ow9 g9 HB8 HF8 HOW8 hti
        go_roundw
        case rel => exact ⟨k + 1, by omega, by go_num, HG9.out, HS9.out⟩
        case measure => simp [intOf]; omega
      · have HNX2 : Hid (rk ++ keysT (fun t => decide (c < t.index)) (S.tombs.take (k + 1)) = acc) := by
          show _ = _
          rw [HNX1.out, if_neg (by simpa using hh)]
          simp
        have dh : decide (c < s.index) = false := decide_eq_false hh
        clear HNX1 hh hs
        go_wp2
        go_roundw
        case rel => exact ⟨k + 1, by omega, by go_num, hti.out.ext (hE _ _), by rw [HNX2.out]; exact ⟨hss.out.choose, hss.out.choose_spec.ext (hE _ _)⟩⟩
        case measure => simp [intOf]; omega
    · have hkn : m = k := by omega
      subst hkn
      have HF : Hid (∃ F, SSG w.heap.size wr u6 (trV S c).1.length F (at_ (trV S c).1)) := by
        have := hss.out
        rw [List.take_of_length_le (by have := HN.out; omega)] at this
        rw [HV.out]
        exact this
      have HV2 : Hid ((trV S c).2 = true) := by show _ = _; rw [HV.out]
      clear hss
      go_wp2
      go_ret2
      obtain ⟨F, hF⟩ := HF.out
      exact ⟨_, F, by rw [HV2.out]; rfl, hF, hti.out.b⟩

end Go.Proofs.Ytplgnohncdfgcal
