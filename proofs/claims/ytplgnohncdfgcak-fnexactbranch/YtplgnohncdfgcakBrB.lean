/- The contract of the program's Branch. -/
import Derived.Test.YtplgnohncdfgcakBrA
import Derived.Test.YtplgnohncdfgcakIHas
namespace Go.Proofs.Ytplgnohncdfgcak
open Go.RowKit

theorem max_if (a b : Int) : max a b = if a < b then b else a := by split <;> omega

set_option maxHeartbeats 4000000 in
theorem iBranchV (v u : Value) (S : DState) (p : List Int) (w : World) (h : VState w v S) (hp : RV w u p) (hpl : p.length ≤ 2097152) :
    Calls Try.prog 31 #[v, u] w fun e w' => e = .returned (viewV (brV S p)) ∧ Below w.heap.size w w' := by
  have hE : ∀ w : World, ∀ o, Ext w (w.alloc o) := fun w o => World.grownBy_alloc _ _ _
  have hB : ∀ w : World, ∀ o, Below w.heap.size w (w.alloc o) := fun w o => (Below.refl _ w).alloc (Nat.le_refl _) _
  have h0 : Hid (VState w v S) := h
  have HP : Hid (RV w u p ∧ p.length ≤ 2097152) := ⟨hp, hpl⟩
  clear hpl
  obtain ⟨rv, tv, sv, lv, rfl, hr, ht, _, _⟩ := h
  obtain ⟨pa, pc, rfl, _, _, _⟩ := hp
  go_enter Try.func31, Try.ntmps31
  go_wp2_with fail
  refine (iStateOkV _ S _ (h0.out.ext (by first | exact hE _ _ | exact (hE _ _).tr (hE _ _)))).mono ?_
  rintro e w1 ⟨rfl, b1⟩
  have R1 := below_blk b1 (by simp; omega) (h2_0 w _ _)
  have T1 := below_blk b1 (by simp) (h2_1 w _ _)
  have hs1 : w.heap.size + 2 ≤ w1.heap.size := by have := b1.size; simp at this; omega
  have B1 : Below w.heap.size w w1 := ((hB w _).alloc (by simp) _).trans (b1.mono (by simp; omega))
  clear b1
  cases hok : tB (StP S)
  · have HR : Hid (brV S p = (0, false)) := if_neg (by rw [hok]; simp)
    obtain ⟨t0, g0⟩ := at_block T1 0 _ rfl
    obtain ⟨t1, g1⟩ := at_block T1 1 _ rfl
    obtain ⟨t2, g2⟩ := at_block T1 2 _ rfl
    clear hok R1
    go_wp2
    refine bodyPost_ret (v := viewV (0, false)) (by simp [results, viewV, Try.results31, go_sem, t0, t1, t2]) rfl ?_
    refine ⟨by rw [HR.out], ?_⟩
    repeat (refine below_set ?_ (by omega))
    exact B1
  have HBR : Hid (brV S p = (S.tombs.foldl (brStepT p) (S.rows.foldl (brStepR p) (S.lost, false)).1, (S.rows.foldl (brStepR p) (S.lost, false)).2)) := if_pos hok
  have HKL : Hid (∀ (i : Nat) (r : DRow), S.rows[i]? = some r → r.key.length ≤ 2097152) := fun i r hr => keyB_len ((tB_iff.1 hok).2.2.2.1.2 i (List.getElem?_eq_some_iff.1 hr).1 r hr).1
  have HKT : Hid (∀ (i : Nat) (r : DTomb), S.tombs[i]? = some r → r.key.length ≤ 2097152) := fun i r hr => keyB_len ((tB_iff.1 hok).2.2.2.2.1.2 i (List.getElem?_eq_some_iff.1 hr).1 r hr).1
  clear hok
  obtain ⟨r3, _⟩ := at_block R1 3 _ rfl
  have HB0 : Hid (BI w w1.heap.size #[.int .i64 S.index, rv, tv, .int .i64 S.lost, sv, lv] (S.lost, false) (w1.alloc (.cells #[.int .i64 S.lost, .bool false, .slice none 0 0] 31 (0, 0)))) :=
    ⟨B1.alloc B1.size _, (Below.heap_alloc w1 _ _ (by omega)).trans R1, (Below.heap_alloc w1 _ _ (by omega)).trans T1, heap_alloc_new w1 _, by omega⟩
  obtain ⟨C, ⟨a, cap, rfl, h1, h2, h3⟩, hC⟩ := hr
  obtain ⟨D, ⟨a1, capt, rfl, h1t, h2t, h3t⟩, hD⟩ := ht
  have HC : Hid (∀ i r, S.rows[i]? = some r → RV w (C i 0) r.key ∧ RV w (C i 1) r.val ∧ C i 2 = .int .i64 r.turned ∧ C i 3 = .int .i64 r.holder) := hC
  have HD : Hid (∀ i r, S.tombs[i]? = some r → RV w (D i 0) r.key ∧ D i 1 = .int .i64 r.index) := hD
  have r1a : ∀ ob, (w1.alloc ob).cell? ⟨w.heap.size, 1, none⟩ = some (.slice a S.rows.length cap) := fun ob => World.grownBy.cell (hE w1 ob) (at_block R1 1 _ rfl).1 (by simp)
  clear hC hD R1 T1
  go_wp2
  obtain ⟨n, hn⟩ : ∃ n, n = S.rows.length := ⟨_, rfl⟩
  obtain ⟨m, hm⟩ : ∃ m, m = S.tombs.length := ⟨_, rfl⟩
  rw [← hn] at h1 h3 HB0 ⊢
  clear r1a
  rw [← hm] at h1t h3t HB0 ⊢
  have HN : Hid (n = S.rows.length ∧ m = S.tombs.length) := ⟨hn, hm⟩
  clear hn hm r3
  unfold maxLen at h2 h2t
  have H3 : Hid (0 < n → ∃ b o, a = some ⟨b, o, none⟩ ∧ b < w.heap.size ∧ ∀ i, i < n → ∀ j, j < 4 → w.cell? ⟨b, o + i * 4 + j, none⟩ = some (C i j)) := h3
  have H3t : Hid (0 < m → ∃ b o, a1 = some ⟨b, o, none⟩ ∧ b < w.heap.size ∧ ∀ i, i < m → ∀ j, j < 2 → w.cell? ⟨b, o + i * 2 + j, none⟩ = some (D i j)) := h3t
  clear h3 h3t
  generalize hst : #[.int .i64 S.index, .slice a n cap, .slice a1 m capt, .int .i64 S.lost, sv, lv] = st at HB0
  have HST : Hid (#[.int .i64 S.index, .slice a n cap, .slice a1 m capt, .int .i64 S.lost, sv, lv] = st) := hst
  clear hst
  generalize w1.alloc _ = W at HB0 ⊢
  go_loopw [20] (fun i wr => ∃ k : Nat, k ≤ n ∧ i = .int .i64 k ∧ Hid (BI w w1.heap.size st ((S.rows.take k).foldl (brStepR p) (S.lost, false)) wr)) (fun i _ => n - (intOf i).toNat)
  case atStart => exact ⟨0, Nat.zero_le _, rfl, HB0.out⟩
  case round =>
    obtain ⟨k, hk, rfl, hbi⟩ := hrel
    by_cases hlt : k < n
    · obtain ⟨b, o, rfl, hbl, hc⟩ := H3.out (by omega)
      obtain ⟨s, hs⟩ : ∃ s, S.rows[k]? = some s := ⟨_, List.getElem?_eq_getElem (by have := HN.out; omega)⟩
      obtain ⟨e0, e1, e2, e3⟩ := HC.out k s hs
      have X := ext_below hbi.out.b
      have c0 := World.grownBy.cell X (hc k hlt 0 (by omega)) (by simp)
      have c1 := World.grownBy.cell X (hc k hlt 1 (by omega)) (by simp)
      have c2 := World.grownBy.cell X (hc k hlt 2 (by omega)) (by simp)
      have c3 := World.grownBy.cell X (hc k hlt 3 (by omega)) (by simp)
      have HK : Hid (RV wr (C k 0) s.key) := e0.ext X
      obtain ⟨ka, kc, ek, _, _, _⟩ := e0
      obtain ⟨va, vc, ev, _, _, _⟩ := e1
      rw [ek] at HK
      rw [Nat.add_zero, ek] at c0
      rw [ev] at c1
      rw [e2] at c2
      rw [e3] at c3
      have hlt' : (k : Int) < (n : Int) := by omega
      have HPW : Hid (RV wr (.slice pa p.length pc) p) := HP.out.1.ext X
      have HNX : Hid ((S.rows.take (k + 1)).foldl (brStepR p) (S.lost, false) = brStepR p ((S.rows.take k).foldl (brStepR p) (S.lost, false)) s) := fold_next _ _ _ _ _ hs
      generalize (S.rows.take k).foldl (brStepR p) (S.lost, false) = acc at hbi HNX
      have HSL : Hid (s.key.length ≤ 2097152) := HKL.out k s hs
      clear hc e2 e3 X ek ev
      generalize s.key.length = kl at c0 HK
      cases hh : hasB s.key p
      · have HX : Hid (brStepR p acc s = acc) := if_neg (by rw [hh]; simp)
        go_wp2_with (go_at_call 64; refine (iHasV _ _ s.key p _ (HK.out.ext (hE _ _)) (HPW.out.ext (hE _ _)) HSL.out HP.out.2).mono ?_; rintro e w2 ⟨rfl, q, rfl⟩; rw [hh])
        go_roundw
        case rel => exact ⟨k + 1, by omega, by go_num, by rw [HNX.out, HX.out]; exact (hbi.out.alloc _).drew q⟩
        case measure => simp [intOf]; omega
      · have HX : Hid (brStepR p acc s = (max acc.1 s.turned, true)) := if_pos hh
        go_wp2_with fail
        refine (iHasV _ _ s.key p _ (HK.out.ext (hE _ _)) (HPW.out.ext (hE _ _)) HSL.out HP.out.2).mono ?_
        rintro e w2 ⟨rfl, q, rfl⟩
        rw [hh]
        have HBV : Hid (BI w w1.heap.size st acc _) := (hbi.out.alloc (.cells #[.slice ka kl kc, .slice va s.val.length vc, .int .i64 s.turned, .int .i64 s.holder] 72 (0, 0))).drew q
        obtain ⟨v0, f0⟩ := at_block HBV.out.v 0 _ rfl
        obtain ⟨v1, f1⟩ := at_block HBV.out.v 1 _ rfl
        go_wp2_with fail
        go_roundw
        case rel => exact ⟨k + 1, by omega, by go_num, by rw [HNX.out, HX.out, max_if]; exact HBV.out.has.idx _⟩
        case measure => simp [intOf]; omega
    · have hkn : n = k := by omega
      subst hkn
      have HF : Hid (BI w w1.heap.size st (S.rows.foldl (brStepR p) (S.lost, false)) wr) := by
        have := hbi.out
        rw [List.take_of_length_le (by have := HN.out; omega)] at this
        exact this
      generalize S.rows.foldl (brStepR p) (S.lost, false) = acc0 at HF HBR
      clear hbi
      have rr := HF.out.r
      rw [← HST.out] at rr
      obtain ⟨r2, _⟩ := at_block rr 2 _ rfl
      clear rr
      go_wp2
      clear r2
      go_loopw [39] (fun i wr => ∃ k : Nat, k ≤ m ∧ i = .int .i64 k ∧ Hid (BI w w1.heap.size st ((S.tombs.take k).foldl (brStepT p) acc0.1, acc0.2) wr)) (fun i _ => m - (intOf i).toNat)
      case atStart => exact ⟨0, Nat.zero_le _, rfl, HF.out⟩
      case round =>
        obtain ⟨k, hk, rfl, hbi⟩ := hrel
        by_cases hlt : k < m
        · obtain ⟨b, o, rfl, hbl, hc⟩ := H3t.out (by omega)
          obtain ⟨s, hs⟩ : ∃ s, S.tombs[k]? = some s := ⟨_, List.getElem?_eq_getElem (by have := HN.out; omega)⟩
          obtain ⟨e0, e2⟩ := HD.out k s hs
          have X := ext_below hbi.out.b
          have c0 := World.grownBy.cell X (hc k hlt 0 (by omega)) (by simp)
          have c2 := World.grownBy.cell X (hc k hlt 1 (by omega)) (by simp)
          have HK : Hid (RV wr (D k 0) s.key) := e0.ext X
          obtain ⟨ka, kc, ek, _, _, _⟩ := e0
          rw [ek] at HK
          rw [Nat.add_zero, ek] at c0
          rw [e2] at c2
          have hlt' : (k : Int) < (m : Int) := by omega
          have HPW : Hid (RV wr (.slice pa p.length pc) p) := HP.out.1.ext X
          have HNX : Hid ((S.tombs.take (k + 1)).foldl (brStepT p) acc0.1 = brStepT p ((S.tombs.take k).foldl (brStepT p) acc0.1) s) := fold_next _ _ _ _ _ hs
          generalize (S.tombs.take k).foldl (brStepT p) acc0.1 = acc at hbi HNX
          have HSL : Hid (s.key.length ≤ 2097152) := HKT.out k s hs
          clear hc e2 X ek
          generalize s.key.length = kl at c0 HK
          cases hh : hasB s.key p
          · have HX : Hid (brStepT p acc s = acc) := if_neg (by rw [hh]; simp)
            go_wp2_with (go_at_call 64; refine (iHasV _ _ s.key p _ (HK.out.ext (hE _ _)) (HPW.out.ext (hE _ _)) HSL.out HP.out.2).mono ?_; rintro e w2 ⟨rfl, q, rfl⟩; rw [hh])
            go_roundw
            case rel => exact ⟨k + 1, by omega, by go_num, by rw [HNX.out, HX.out]; exact (hbi.out.alloc _).drew q⟩
            case measure => simp [intOf]; omega
          · have HX : Hid (brStepT p acc s = max acc s.index) := if_pos hh
            go_wp2_with fail
            refine (iHasV _ _ s.key p _ (HK.out.ext (hE _ _)) (HPW.out.ext (hE _ _)) HSL.out HP.out.2).mono ?_
            rintro e w2 ⟨rfl, q, rfl⟩
            rw [hh]
            have HBV : Hid (BI w w1.heap.size st (acc, acc0.2) _) := (hbi.out.alloc (.cells #[.slice ka kl kc, .int .i64 s.index] 74 (0, 0))).drew q
            obtain ⟨v0, f0⟩ := at_block HBV.out.v 0 _ rfl
            obtain ⟨v1, f1⟩ := at_block HBV.out.v 1 _ rfl
            go_wp2_with fail
            go_roundw
            case rel => exact ⟨k + 1, by omega, by go_num, by rw [HNX.out, HX.out, max_if]; exact HBV.out.idx _⟩
            case measure => simp [intOf]; omega
        · have hkm : m = k := by omega
          subst hkm
          have HF2 : Hid (BI w w1.heap.size st (S.tombs.foldl (brStepT p) acc0.1, acc0.2) wr) := by
            have := hbi.out
            rw [List.take_of_length_le (by have := HN.out; omega)] at this
            exact this
          generalize S.tombs.foldl (brStepT p) acc0.1 = ax at HF2 HBR
          clear hbi
          obtain ⟨v0, f0⟩ := at_block HF2.out.v 0 _ rfl
          obtain ⟨v1, f1⟩ := at_block HF2.out.v 1 _ rfl
          obtain ⟨v2, f2⟩ := at_block HF2.out.v 2 _ rfl
          obtain ⟨t0, g0⟩ := at_block HF2.out.t 0 _ rfl
          obtain ⟨t1, g1⟩ := at_block HF2.out.t 1 _ rfl
          obtain ⟨t2, g2⟩ := at_block HF2.out.t 2 _ rfl
          have hne3 : ¬ w.heap.size + 1 = w1.heap.size := by have := HF2.out.n; omega
          have BF := HF2.out.b
          go_wp2
          refine bodyPost_ret (v := viewV (ax, acc0.2)) (by simp [results, viewV, Try.results31, go_sem, t0, t1, t2]) rfl ?_
          refine ⟨by rw [HBR.out], ?_⟩
          repeat (refine below_set ?_ (by omega))
          exact BF

end Go.Proofs.Ytplgnohncdfgcak
