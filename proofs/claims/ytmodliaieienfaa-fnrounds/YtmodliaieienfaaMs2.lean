
/- The specification's TableOk. -/
import Derived.Test.YtmodliaieienfaaMs1
import Derived.Test.YtmodliaieienfaaQB
namespace Go.Proofs.Ytmodliaieienfaa
open Go.RowKit

theorem two_cells {w : World} {g : Nat} {v0 v1 : Value} {t : TypeId} (h : w.heap[g]? = some (.cells #[v0, v1] t (0, 0))) : w.cell? ⟨g, 0, none⟩ = some v0 ∧ w.cell? ⟨g, 1, none⟩ = some v1 := ⟨(at_block h 0 _ rfl).1, (at_block h 1 _ rfl).1⟩

set_option maxRecDepth 20000 in
set_option maxHeartbeats 8000000 in
theorem sTableOkV (v : Value) (T : DTab) (w : World) (h : VTab w v T) (hn : T.mems.length ≤ 1048576) :
    Calls Try.prog 7 #[v] w fun e w' => e = .returned (.bool (tB (TabP T))) ∧ Below w.heap.size w w' := by
  have hE : ∀ w : World, ∀ o, Ext w (w.alloc o) := fun w o => World.grownBy_alloc _ _ _
  have hB : ∀ w : World, ∀ o, Below w.heap.size w (w.alloc o) := fun w o => (Below.refl _ w).alloc (Nat.le_refl _) _
  have HT : Hid (VTab w v T) := h
  obtain ⟨tv, rfl, h⟩ := h
  obtain ⟨a, cap, rfl⟩ := h.shape
  obtain ⟨n, hnn⟩ : ∃ n, n = T.mems.length := ⟨_, rfl⟩
  have HV : Hid (VMem w (.slice a T.mems.length cap) T.mems) := h
  have HN : Hid (n = T.mems.length) := hnn
  rw [← hnn] at HV HT hn ⊢
  clear h hnn
  have hml2 : (n : Int) ≤ 1048576 := by omega
  go_enter Try.func7, Try.ntmps7
  by_cases g1 : (12 : Int) < n
  · have HK : Hid (tB (TabP T) = false) := tB_false (fun h => by have := h.1; have := HN.out; omega)
    have d1 : decide ((n : Int) > 12) = true := decide_eq_true g1
    go_wp2
    go_ret
    exact ⟨by rw [HK.out]; rfl, hB _ _⟩
  have d1 : decide ((n : Int) > 12) = false := decide_eq_false (by omega)
  have H12 : Hid (n ≤ 12) := by show n ≤ 12; omega
  go_wp2
  have P0 := heap_alloc_new w (.cells #[.int .i64 T.self, .slice a n cap] 28 (0, 0))
  have B0 := hB w (.cells #[.int .i64 T.self, .slice a n cap] 28 (0, 0))
  have HP0 : Hid ((w.alloc (.cells #[.int .i64 T.self, .slice a n cap] 28 (0, 0))).heap[w.heap.size]? = some (.cells #[.int .i64 T.self, .slice a n cap] 28 (0, 0))) := P0
  clear P0
  go_loopw [3] (fun i wr => ∃ k : Nat, k ≤ n ∧ i = .int .i64 k ∧ Hid (∀ j, j < k → MemAt T.mems j) ∧ Below w.heap.size w wr ∧ Hid (wr.heap[w.heap.size]? = some (.cells #[.int .i64 T.self, .slice a n cap] 28 (0, 0)))) (fun i _ => n - (intOf i).toNat)
  case atStart => exact ⟨0, Nat.zero_le _, rfl, fun j hj => absurd hj (by omega), B0, HP0⟩
  case round =>
    obtain ⟨k, hk, rfl, hall, hb, hbx⟩ := hrel
    clear B0 HP0 d1 g1
    obtain ⟨q0, q1⟩ := two_cells hbx.out
    by_cases hlt : k < n
    · obtain ⟨s, hs⟩ : ∃ s, T.mems[k]? = some s := ⟨_, List.getElem?_eq_getElem (by have := HN.out; omega)⟩
      obtain ⟨b, o, rfl, c0, c1, c2⟩ := HV.out.at (ext_below hb) hs
      have hlt' : (k : Int) < (n : Int) := by omega
      have HE : Hid (∀ W', Calls Try.prog 17 #[.agg #[.int .i64 s.id, .int .i64 s.st, .int .i64 s.life]] W' fun e w' => e = .returned (.bool (memB s)) ∧ Below W'.heap.size W' w') := fun W' => sMemberOkV s W'
      have q0w := bw_cell q0
      have q1w := bw_cell q1
      have c0w := bw_cell c0
      have c1w := bw_cell c1
      have c2w := bw_cell c2
      have nonV := bw_ne wr
      cases hm : memB s
      · have HK : Hid (tB (TabP T) = false) := tB_false (fun h => by have := (h.2.1 k (by have := HN.out; omega) s hs).1; rw [hm] at this; cases this)
        rw [hm] at HE
        clear hm
        as_aux_lemma =>
          go_wp2_with fail
          refine wp_region_bw (by kernel_rfl) (by kernel_rfl) ?_
          repeat (go_big_quiet_step ((go_at_call 17; exact bw_below (HE.out _))))
          refine wpQuiet_nil ?_
          intro _ hw'
          obtain ⟨z, hw''⟩ := hw'
          subst hw''
          go_wp2
          go_ret
          exact ⟨by rw [HK.out]; rfl, hb.trans (z.h.mono hb.size)⟩
      · rw [hm] at HE
        have HM : Hid (memB s = true) := hm
        clear hm
        by_cases hk0 : k = 0
        · subst hk0
          simp only [Nat.zero_mul, Nat.add_zero] at c0w c1w c2w c0 c1 c2
          have HA : Hid (∀ j, j < 0 + 1 → MemAt T.mems j) := fun j hj t ht => by
            obtain rfl : j = 0 := by omega
            rw [hs] at ht
            cases ht
            exact ⟨HM.out, fun p hp => absurd hp (by omega)⟩
          as_aux_lemma =>
            go_wp2_with fail
            refine wp_region_bw (by kernel_rfl) (by kernel_rfl) ?_
            repeat (go_big_quiet_step ((go_at_call 17; exact bw_below (HE.out _))))
            refine wpQuiet_nil ?_
            intro _ hw'
            obtain ⟨z, hw''⟩ := hw'
            subst hw''
            go_wp2
            go_roundw
            case rel => exact ⟨0 + 1, by omega, by go_num, HA, hb.trans (z.h.mono hb.size), below_blk z.h (Array.getElem?_eq_some_iff.1 hbx.out).1 hbx.out⟩
            case measure => simp [intOf]; omega
        · obtain ⟨k', hk'⟩ : ∃ k', k = k' + 1 := ⟨k - 1, by omega⟩
          subst hk'
          obtain ⟨p, hp⟩ : ∃ p, T.mems[k']? = some p := ⟨_, List.getElem?_eq_getElem (by have := HN.out; omega)⟩
          obtain ⟨b2, o2, hbo, p0, _, _⟩ := HV.out.at (ext_below hb) hp
          simp only [Option.some.injEq, Addr.mk.injEq, and_true] at hbo
          obtain ⟨rfl, rfl⟩ := hbo
          have p0w := bw_cell p0
          have hkk : (k' : Int) + 1 < (n : Int) := by omega
          have hk1 : (k' : Int) < (n : Int) := by omega
          have hpos : decide ((k' : Int) + 1 > 0) = true := decide_eq_true (by omega)
          cases hc : decide (p.id ≥ s.id)
          · have HA : Hid (∀ j, j < k' + 1 + 1 → MemAt T.mems j) := fun j hj => by
              by_cases ej : j = k' + 1
              · subst ej
                intro t ht
                rw [hs] at ht
                cases ht
                refine ⟨HM.out, fun p' _ hp' => ?_⟩
                rw [Nat.add_sub_cancel, hp] at hp'
                cases hp'
                have := of_decide_eq_false hc
                omega
              · exact hall.out j (by omega)
            as_aux_lemma =>
              go_wp2_with fail
              refine wp_region_bw (by kernel_rfl) (by kernel_rfl) ?_
              repeat (go_big_quiet_step ((go_at_call 17; exact bw_below (HE.out _))))
              refine wpQuiet_nil ?_
              intro _ hw'
              obtain ⟨z, hw''⟩ := hw'
              subst hw''
              go_wp2
              go_roundw
              case rel => exact ⟨k' + 1 + 1, by omega, by go_num, HA, hb.trans (z.h.mono hb.size), below_blk z.h (Array.getElem?_eq_some_iff.1 hbx.out).1 hbx.out⟩
              case measure => simp [intOf]; omega
          · have HK : Hid (tB (TabP T) = false) := tB_false (fun h => by
              have := (h.2.1 (k' + 1) (by have := HN.out; omega) s hs).2 p (by omega) (by rw [Nat.add_sub_cancel]; exact hp)
              have := of_decide_eq_true hc
              omega)
            as_aux_lemma =>
              go_wp2_with fail
              refine wp_region_bw (by kernel_rfl) (by kernel_rfl) ?_
              repeat (go_big_quiet_step ((go_at_call 17; exact bw_below (HE.out _))))
              refine wpQuiet_nil ?_
              intro _ hw'
              obtain ⟨z, hw''⟩ := hw'
              subst hw''
              go_wp2
              go_ret
              exact ⟨by rw [HK.out]; rfl, hb.trans (z.h.mono hb.size)⟩
    · have hkn : n = k := by omega
      subst hkn
      have HALL : Hid (T.mems.length ≤ 12 ∧ ∀ i, i < T.mems.length → MemAt T.mems i) := ⟨by have := HN.out; have := H12.out; omega, fun i hi => hall.out i (by have := HN.out; omega)⟩
      go_wp2_with fail
      refine (sFindV _ T T.self wr (HT.out.ext (ext_below hb)) (by have := HN.out; omega)).mono ?_
      rintro e w2 ⟨rfl, b2⟩
      have hb2 := hb.trans (b2.mono hb.size)
      have hbx2 := below_blk b2 (Array.getElem?_eq_some_iff.1 hbx.out).1 hbx.out
      clear q0 q1
      obtain ⟨q0, q1⟩ := two_cells hbx2
      rcases placeM_cases T.mems T.self with ⟨hp, hno⟩ | ⟨i, t, ht, he, hf, hp⟩
      · have HK : Hid (tB (TabP T) = false) := tB_false (fun h => by
          obtain ⟨i, t, ht, he, _⟩ := h.2.2
          exact hno i t ht he)
        rw [hp]
        clear hp hno
        go_wp2
        go_ret
        exact ⟨by rw [HK.out]; rfl, hb2⟩
      · have hin : i < n := by have := (List.getElem?_eq_some_iff.1 ht).1; have := HN.out; omega
        have hin' : (i : Int) < (n : Int) := by omega
        obtain ⟨b, o, rfl, c0, c1, c2⟩ := HV.out.at (ext_below hb2) ht
        have HK : Hid (tB (TabP T) = ownB t) := by
          show _ = _
          cases ho : ownB t
          · refine tB_false (fun h => ?_)
            obtain ⟨i', t', ht', he', hf', ho'⟩ := h.2.2
            have : i' = i := by
              rcases Nat.lt_trichotomy i' i with h1 | h1 | h1
              · exact absurd he' (hf i' t' h1 ht')
              · exact h1
              · exact absurd he (hf' i t h1 ht)
            subst this
            rw [ht] at ht'
            cases ht'
            rw [ho] at ho'
            cases ho'
          · exact tB_true ⟨HALL.out.1, HALL.out.2, i, t, ht, he, hf, ho⟩
        have HO : Hid (ownB t = (decide (t.st = 0) || decide (t.st = 3) || decide (t.life = 1000))) := rfl
        rw [hp]
        generalize ownB t = ob at HK HO
        clear hp hf he
        obtain ⟨ti, ts, tl⟩ := t
        simp only at c0 c1 c2 HO
        by_cases e1 : ts = 0
        · have HR : Hid (ob = true) := by show _ = _; rw [HO.out, decide_eq_true e1]; simp
          subst e1
          go_wp2
          go_ret
          exact ⟨by rw [HK.out, HR.out]; rfl, hb2⟩
        have e1' : (ts == 0) = false := by simpa using e1
        by_cases e2 : ts = 3
        · have HR : Hid (ob = true) := by show _ = _; rw [HO.out, decide_eq_true e2]; simp
          subst e2
          go_wp2
          go_ret
          exact ⟨by rw [HK.out, HR.out]; rfl, hb2⟩
        have e2' : (ts == 3) = false := by simpa using e2
        have HR : Hid (ob = (tl == 1000)) := by show _ = _; rw [HO.out, decide_eq_false e1, decide_eq_false e2]; rfl
        clear e1 e2
        go_wp2
        go_ret
        exact ⟨by rw [HK.out, HR.out]; rfl, hb2⟩

end Go.Proofs.Ytmodliaieienfaa
