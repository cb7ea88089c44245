/- The program's endOf. -/
import Derived.Test.YtpnfcifkmmcllaaTeG0
import Derived.Test.YtpnfcifkmmcllaaTe2
import Derived.Deep.RegionWith
namespace Go.Proofs.Ytpnfcifkmmcllaa
open Go.RowKit

/-- A part whose number and mark are these. -/
def EndV (v : Value) (a : Int × Bool) : Prop := ∃ e1 e2 e3 k1 k2 k3, v = .agg #[.slice e1 e2 e3, .bool a.2, .int .i64 a.1, .slice k1 k2 k3]

abbrev EndSays {d : Nat} (t : DTree d) : Prop := ∀ (v u : Value) (key : List Int) (w : World), VTree w t v → RV w u key → key.length ≤ 1048576 → szT t ≤ 1048576 →
  Calls Try.prog 26 #[v, u] w fun e w' => ∃ v', e = .returned v' ∧ EndV v' (getK t key) ∧ Below w.heap.size w w'

set_option maxRecDepth 100000 in
set_option maxHeartbeats 2000000 in
theorem endOf_step {d : Nat} (ed : List Int) (h : Bool) (x : Int) (n : Nat) (kid : Nat → DTree d) (ih : ∀ i, EndSays (kid i)) : EndSays (DTree.node ed h x n kid) := by
    intro v u key w ht hu hkl hsz
    have HI : Hid (∀ i, EndSays (kid i)) := ih
    have HU : Hid (RV w u key) := hu
    obtain ⟨ev, kv, rfl, re, C, ⟨ka, kc, rfl, hk1, hk2, hk3⟩, hC⟩ := ht
    obtain ⟨ea, ec, rfl, _, he1, he2⟩ := re
    obtain ⟨ua, uc, rfl, _, hu1, hu2⟩ := hu
    unfold maxLen at hk2 hu2
    have HC : Hid (∀ i, i < n → VTree w (kid i) (.agg #[C i 0, C i 1, C i 2, C i 3])) := hC
    have HZ : Hid (∀ i, i < n → szT (kid i) ≤ 1048576) := fun i hi => by
      have : szT (kid i) ≤ sumN n (fun i => szT (kid i)) := sumN_mem (fun i => szT (kid i)) hi
      have hsz : ed.length + (n + sumN n (fun i => szT (kid i))) ≤ 1048576 := hsz
      omega
    have H3 : Hid (0 < n → ∃ b o, ka = some ⟨b, o, none⟩ ∧ b < w.heap.size ∧ ∀ i, i < n → ∀ j, j < 4 → w.cell? ⟨b, o + i * 4 + j, none⟩ = some (C i j)) := hk3
    clear hk3 hC ih hsz
    obtain ⟨A, hA⟩ : ∃ A, A = getK (DTree.node ed h x n kid) key := ⟨_, rfl⟩
    have HA : Hid (A = getK (DTree.node ed h x n kid) key) := hA
    rw [← hA]
    clear hA
    generalize ed.length = m at *
    have EA2 : Hid (∀ o1 o2, Ext w ((w.alloc o1).alloc o2) ∧ Below w.heap.size w ((w.alloc o1).alloc o2)) := fun o1 o2 => ⟨Ext.tr (World.grownBy_alloc _ _ _) (World.grownBy_alloc _ _ _), ((Below.refl _ w).alloc (Nat.le_refl _) _).alloc (by simp) _⟩
    by_cases hk0 : key.length = 0
    · have HR : Hid (A = (x, h)) := by
        show A = _
        rw [HA.out]
        exact getK_end hk0
      rw [hk0]
      clear hk0
      go_enter Try.func26, Try.ntmps26
      go_wp2_with fail
      refine bodyPost_ret (v := .agg #[.slice ea m ec, .bool h, .int .i64 x, .slice ka n kc]) (by simp [results, Try.results26, go_sem]) rfl ?_
      exact ⟨_, rfl, ⟨ea, m, ec, ka, n, kc, by rw [HR.out]⟩, (EA2.out _ _).2⟩
    · have hk1' : (key.length == 0) = false := by simp; exact fun h => hk0 (by rw [h]; rfl)
      obtain ⟨ub, uo, hua⟩ : ∃ ub uo, ua = some ⟨ub, uo, none⟩ := by
        obtain ⟨a', c', hv, hr, _, _⟩ := HU.out
        simp only [Value.slice.injEq] at hv
        obtain ⟨b', o', e', _, _⟩ := hr.pos (by omega)
        exact ⟨b', o', by rw [hv.1]; exact e'⟩
      subst hua
      have HK0 : Hid (key.length ≠ 0) := hk0
      obtain ⟨kl, hkl'⟩ : ∃ kl, kl = key.length := ⟨_, rfl⟩
      have HKL : Hid (kl = key.length) := hkl'
      rw [← hkl'] at hk0 hk1' hkl hu1 ⊢
      have hk2' : ((kl : Int) == 0) = false := by simp; omega
      rw [← hkl'] at HU
      clear hkl'
      go_enter Try.func26, Try.ntmps26
      go_wp2_with fail
      generalize hW : (w.alloc _).alloc _ = W
      have HW : Hid (Ext w W ∧ Below w.heap.size w W) := by rw [← hW]; exact EA2.out _ _
      have HWR : Hid (W.heap[w.heap.size + 1]? = some (.cells #[.slice none 0 0, .bool false, .int .i64 0, .slice none 0 0] 30 (0, 0))) := by
        rw [← hW]
        have := heap_alloc_new (w.alloc (.cells #[.slice ea m ec, .bool h, .int .i64 x, .slice ka n kc] 30)) (.cells #[.slice none 0 0, .bool false, .int .i64 0, .slice none 0 0] 30)
        show _ = _
        simpa using this
      have HWS : Hid (w.heap.size + 2 ≤ W.heap.size) := by
        rw [← hW]
        show _ ≤ _
        simp
      clear hW
      go_loopw [14] (fun i wr => ∃ k : Nat, k ≤ n ∧ i = .int .i64 k ∧ Ext W wr ∧ Below w.heap.size w wr ∧ Hid (∀ i, i < k → hasB key (edT (kid i)) = false)) (fun i _ => n - (intOf i).toNat)
      case atStart => exact ⟨0, Nat.zero_le _, rfl, Ext.re _, HW.out.2, fun i hi => absurd hi (by omega)⟩
      case round =>
        obtain ⟨k, hk, rfl, hx, hb, hno⟩ := hrel
        have hs2 := hx.size
        have hs1 := HWS.out
        have R0 : wr.heap[w.heap.size + 1]? = _ := (hx.block _ (by omega) (by simp)).trans HWR.out
        by_cases hlt : k < n
        · obtain ⟨b, o, rfl, hbl, hc⟩ := H3.out (by omega)
          have X := HW.out.1.tr hx
          have hT := VTree.ext X _ _ (HC.out k hlt)
          have c0 := World.grownBy.cell X (hc k hlt 0 (by omega)) (by simp)
          have c1 := World.grownBy.cell X (hc k hlt 1 (by omega)) (by simp)
          have c2 := World.grownBy.cell X (hc k hlt 2 (by omega)) (by simp)
          have c3 := World.grownBy.cell X (hc k hlt 3 (by omega)) (by simp)
          rw [Nat.add_zero] at c0
          obtain ⟨e', h', x', n', d', kid', hkk, e1, e2, r0, rk⟩ := hT.cells
          have HRE : Hid (RV wr (C k 0) e') := r0
          obtain ⟨a0, p0, x0, hrd, hq1, hq2⟩ := r0
          obtain ⟨a3, p3, x3, _, _⟩ := rk.slice
          have HT : Hid (∀ U, Ext w U → VTree U (kid k) (.agg #[.slice a0 e'.length p0, .bool h', .int .i64 x', .slice a3 n' p3])) := fun U hU => by
            have := VTree.ext hU _ _ (HC.out k hlt)
            rw [x0, e1, e2, x3] at this
            exact this
          rw [x0] at c0 HRE
          rw [e1] at c1
          rw [e2] at c2
          rw [x3] at c3
          have hlt' : (k : Int) < (n : Int) := by omega
          have HED : Hid (edT (kid k) = e') := hkk.1
          have hel : e'.length ≤ 1048576 := by
            have := HZ.out k hlt
            have := hkk.2.1
            omega
          obtain ⟨pb, hpb⟩ : ∃ pb, pb = hasB key e' := ⟨_, rfl⟩
          have HPB : Hid (hasB key e' = pb) := hpb.symm
          have HXA : Hid (∀ ob, Ext wr (wr.alloc ob)) := fun ob => World.grownBy_alloc _ _ _
          have HXW : Hid (Ext w wr) := X
          clear hkk rk e1 e2 x0 x3 hT hrd hc hpb
          obtain ⟨m', hm'⟩ : ∃ m', m' = e'.length := ⟨_, rfl⟩
          have HM : Hid (m' = e'.length) := hm'
          rw [← hm'] at c0 hel hq1 HT HRE
          clear hm'
          go_wp2_with fail
          refine (iHasV _ _ key e' _ (HU.out.ext (HXW.out.tr (HXA.out _))) (HRE.out.ext (HXA.out _)) (by have := HKL.out; omega) (by have := HM.out; omega)).mono ?_
          rw [HPB.out]
          rintro e w1 ⟨rfl, q, rfl⟩
          cases pb with
          | false =>
            have HN : Hid (∀ i, i < k + 1 → hasB key (edT (kid i)) = false) := fun i hi => by
              by_cases e : i = k
              · subst e; rw [HED.out]; exact HPB.out
              · exact hno.out i (by omega)
            have HBX : Hid (∀ ob, Ext W ((wr.alloc ob).drewN q) ∧ Below w.heap.size w ((wr.alloc ob).drewN q)) := fun ob => ⟨(hx.tr (HXA.out _)).tr (ext_drewN _ _), below_drewN (hb.alloc hb.size _) _⟩
            go_wp2_with fail
            go_roundw
            case rel => exact ⟨k + 1, by omega, by go_num, (HBX.out _).1, (HBX.out _).2, HN⟩
            case measure => simp [intOf]; omega
          | true =>
            have hle : m' ≤ kl := by
              have := ((hasB_iff _ _).1 HPB.out).1
              have := HM.out
              have := HKL.out
              omega
            have HR : Hid (A = getK (kid k) (key.drop m')) := by
              show A = _
              rw [HA.out, HM.out, ← HED.out]
              exact getK_kid HK0.out hlt (by rw [HED.out]; exact HPB.out) hno.out
            generalize hV : (wr.alloc _).drewN q = V
            have HV : Hid (Ext w V ∧ Below w.heap.size w V) := by rw [← hV]; exact ⟨(HXW.out.tr (HXA.out _)).tr (ext_drewN _ _), below_drewN (hb.alloc hb.size _) _⟩
            have HV0 : Hid (V.heap[wr.heap.size]? = some (.cells #[.slice a0 m' p0, .bool h', .int .i64 x', .slice a3 n' p3] 30 (0, 0))) := by
              rw [← hV]
              exact heap_alloc_new wr _
            have HVR : Hid (V.heap[w.heap.size + 1]? = some (.cells #[.slice none 0 0, .bool false, .int .i64 0, .slice none 0 0] 30 (0, 0))) := by
              rw [← hV]
              exact (Below.heap_alloc wr _ (w.heap.size + 1) (by omega)).trans R0
            have HVS : Hid (wr.heap.size < V.heap.size) := by
              rw [← hV]
              show _ < _
              simp
            clear hV c0 c1 c2 c3 hno hx hb X
            have hmi : (m' : Int) ≤ (kl : Int) := by omega
            obtain ⟨u2, hu2', HU2⟩ : ∃ u2, (uc = m' ∧ u2 = .slice (some ⟨ub, uo, none⟩) 0 0 ∨ uc ≠ m' ∧ u2 = .slice (some ⟨ub, uo + m', none⟩) (kl - m') (uc - m')) ∧ Hid (∀ U, Ext w U → RV U u2 (key.drop m')) := by
              by_cases hce : uc = m'
              · exact ⟨_, .inl ⟨hce, rfl⟩, fun U hU => RV.sub0 (HU.out.ext hU) m' (by omega)⟩
              · exact ⟨_, .inr ⟨hce, rfl⟩, fun U hU => by
                  have := RV.sub (HU.out.ext hU) m' hle
                  simpa [Addr.add_lit] using this⟩
            have HKD : Hid ((key.drop m').length ≤ 1048576) := by
              show _ ≤ _
              rw [List.length_drop, ← HKL.out]
              omega
            obtain ⟨d0, _⟩ := at_block HV0.out 0 _ rfl
            obtain ⟨d1, _⟩ := at_block HV0.out 1 _ rfl
            obtain ⟨d2, _⟩ := at_block HV0.out 2 _ rfl
            obtain ⟨d3, _⟩ := at_block HV0.out 3 _ rfl
            have XD : Hid (Ext w V.drew ∧ Below w.heap.size w V.drew) := ⟨HV.out.1.tr (ext_drewN V 1), below_drewN HV.out.2 1⟩
            have hrs := HVS.out
            have hvr := HVR.out
            clear R0
            rcases hu2' with ⟨rfl, rfl⟩ | ⟨hce, rfl⟩
            all_goals
              go_wp2_with fail
              go_region_with (go_at_call 26; refine (HI.out k _ _ (key.drop _) _ (HT.out _ XD.out.1) (HU2.out _ XD.out.1) HKD.out (HZ.out k hlt)).mono ?_; rintro e w5 ⟨v5, rfl, hv5, b5⟩; rw [← HR.out] at hv5; obtain ⟨y1, y2, y3, y4, y5, y6, rfl⟩ := hv5; have R5 := below_blk b5 (by show _ < V.heap.size; omega) (show V.drew.heap[w.heap.size + 1]? = _ from HVR.out); have S5 := below_blk b5 (by show _ < V.heap.size; omega) (show V.drew.heap[wr.heap.size]? = _ from HV0.out); obtain ⟨s0, _⟩ := at_block S5 0 _ rfl; obtain ⟨s1, _⟩ := at_block S5 1 _ rfl; obtain ⟨s2, _⟩ := at_block S5 2 _ rfl; obtain ⟨s3, _⟩ := at_block S5 3 _ rfl; obtain ⟨r0, z0⟩ := at_block R5 0 _ rfl; obtain ⟨r1, z1⟩ := at_block R5 1 _ rfl; obtain ⟨r2, z2⟩ := at_block R5 2 _ rfl; obtain ⟨r3, z3⟩ := at_block R5 3 _ rfl)
            all_goals
              go_wp2_with fail
              refine bodyPost_ret (v := .agg #[.slice y1 y2 y3, .bool A.snd, .int .i64 A.fst, .slice y4 y5 y6]) (by simp [results, Try.results26, go_sem, r0, r1, r2, r3]) rfl ?_
              have B5 : Below w.heap.size w w5 := XD.out.2.trans (b5.mono XD.out.2.size)
              exact ⟨_, rfl, ⟨_, _, _, _, _, _, rfl⟩, (((B5.setCell (by show _ ≤ w.heap.size + 1; omega) _).setCell (by show _ ≤ w.heap.size + 1; omega) _).setCell (by show _ ≤ w.heap.size + 1; omega) _).setCell (by show _ ≤ w.heap.size + 1; omega) _⟩
        · have hkn : k = n := by omega
          subst hkn
          have HR : Hid (A = (0, false)) := by
            show A = _
            rw [HA.out]
            exact getK_none HK0.out hno.out
          have hnn : ¬ ((k : Int) < (k : Int)) := by omega
          obtain ⟨r0, z0⟩ := at_block R0 0 _ rfl
          obtain ⟨r1, z1⟩ := at_block R0 1 _ rfl
          obtain ⟨r2, z2⟩ := at_block R0 2 _ rfl
          obtain ⟨r3, z3⟩ := at_block R0 3 _ rfl
          go_wp2_with fail
          refine bodyPost_ret (v := .agg #[.slice none 0 0, .bool false, .int .i64 0, .slice none 0 0]) (by simp [results, Try.results26, go_sem, r0, r1, r2, r3]) rfl ?_
          exact ⟨_, rfl, ⟨none, 0, 0, none, 0, 0, by rw [HR.out]⟩, (((hb.setCell (by show _ ≤ w.heap.size + 1; omega) _).setCell (by show _ ≤ w.heap.size + 1; omega) _).setCell (by show _ ≤ w.heap.size + 1; omega) _).setCell (by show _ ≤ w.heap.size + 1; omega) _⟩

theorem endOf_anyD : ∀ (d : Nat) (t : DTree d), EndSays t
  | 0, _ => fun _ _ _ _ ht => False.elim ht
  | d + 1, (e, h, x, n, kid) => endOf_step e h x n kid (fun i => endOf_anyD d (kid i))
theorem endOf_any {d : Nat} (t : DTree d) : EndSays t := endOf_anyD d t

end Go.Proofs.Ytpnfcifkmmcllaa
