/- The program's kidsOk. -/
import Derived.Test.YtdeogmkcomdbjaaTe6
import Derived.Deep.CutRange
namespace Go.Proofs.Ytdeogmkcomdbjaa
open Go.RowKit

set_option maxRecDepth 100000 in
set_option maxHeartbeats 2000000 in
theorem kidsOk_step {d : Nat} (ed : List Int) (h : Bool) (x : Int) (n : Nat) (kid : Nat → DTree d) (ih : ∀ i, KoSays (kid i)) : KoSays (DTree.node ed h x n kid) := by
    intro v depth size P g w0 w ht hsz hb0 hg hd0 hd1 hs0 hs1 hP0 hP1 hc hfz
    obtain ⟨ev, kv, rfl, re, C, ⟨ka, kc, rfl, hk1, hk2, hk3⟩, hC⟩ := ht
    have hgl : g < w.heap.size := World.block_lt_of_cell? w _ hc
    unfold maxLen at hk2
    have HC : Hid (∀ i, i < n → VTree w0 (kid i) (.agg #[C i 0, C i 1, C i 2, C i 3])) := hC
    have HI : Hid (∀ i, KoSays (kid i)) := ih
    have HZ : Hid (∀ i, i < n → szT (kid i) ≤ 1048576) := fun i hi => by
      have : szT (kid i) ≤ sumN n (fun i => szT (kid i)) := sumN_mem (fun i => szT (kid i)) hi
      have hsz : ed.length + (n + sumN n (fun i => szT (kid i))) ≤ 1048576 := hsz
      omega
    have H3 : Hid (0 < n → ∃ b o, ka = some ⟨b, o, none⟩ ∧ b < w0.heap.size ∧ ∀ i, i < n → ∀ j, j < 4 → w0.cell? ⟨b, o + i * 4 + j, none⟩ = some (C i j)) := hk3
    obtain ⟨ea, ec, rfl, _, he1, he2⟩ := re
    clear hk3 hC ih hsz
    have HS0 : Hid (w0.heap.size ≤ w.heap.size) := hb0.size
    have HB0 : Hid (Below w0.heap.size w0 w) := hb0
    obtain ⟨m, hm⟩ : ∃ m, m = ed.length := ⟨_, rfl⟩
    rw [← hm]
    clear hm he1
    obtain ⟨Q, hQ⟩ : ∃ Q : Prop, Q = KoP (DTree.node ed h x n kid) depth size P := ⟨_, rfl⟩
    have HQ : Hid (Q = KoP (DTree.node ed h x n kid) depth size P) := hQ
    obtain ⟨cn, hcn⟩ : ∃ cn : Int, cn = P + cntT (DTree.node ed h x n kid) := ⟨_, rfl⟩
    have HCN : Hid (cn = P + 1 + sumN n (fun i => cntT (kid i))) := by show _ = _; rw [hcn, cnt_node]; omega
    rw [← hQ, ← hcn]
    clear hQ hcn
    have hca : ∀ ob, (w.alloc ob).cell? ⟨g, 0, none⟩ = some (.int .i64 P) := fun ob => World.grownBy.cell (World.grownBy_alloc w ob none) hc (by simp)
    have hfa : ∀ ob, (w.alloc ob).frozen? ⟨g, 0, none⟩ = false := fun ob => by
      have := ((Below.refl w.heap.size w).alloc (Nat.le_refl _) ob).frozen (p := ⟨g, 0, none⟩) hgl
      rw [this]; exact hfz
    have GW : ∀ ob u, w.grownBy ((w.setCell ⟨g, 0, none⟩ u).alloc ob) (some g) := fun ob u => (set_grown w g 0 u).trans (World.grownBy_alloc _ ob (some g))
    by_cases hbad : P + 1 ≤ 200 ∧ depth ≤ 24 ∧ size ≤ 20
    case neg =>
      have HR : Hid (¬ Q) := by
        rw [HQ.out]
        rintro ⟨_, q1, q2, q3⟩
        have := cnt_pos (DTree.node ed h x n kid)
        exact hbad ⟨by omega, by omega, by omega⟩
      have HGW : Hid (∀ ob u, w.grownBy ((w.setCell ⟨g, 0, none⟩ u).alloc ob) (some g)) := GW
      clear GW
      have hb3 : 200 < P + 1 ∨ (¬ (200 < P + 1) ∧ 24 < depth) ∨ (¬ (200 < P + 1) ∧ ¬ (24 < depth) ∧ 20 < size) := by omega
      clear hbad
      rcases hb3 with b1 | ⟨b1, b2⟩ | ⟨b1, b2, b3⟩
      all_goals
        go_enter Try.func43, Try.ntmps43
        go_wp2_with fail
        go_ret
        exact .inr ⟨rfl, HR.out, HGW.out _ _⟩
    obtain ⟨q1, q2, q3⟩ := hbad
    have q1' : ¬ ((200 : Int) < P + 1) := by omega
    have q2' : ¬ ((24 : Int) < depth) := by omega
    have q3' : ¬ ((20 : Int) < size) := by omega
    go_enter Try.func43, Try.ntmps43
    go_wp2_with fail
    generalize hW : (w.setCell ⟨g, 0, none⟩ (.int .i64 (P + 1))).alloc _ = W
    have HW : Hid (w.grownBy W (some g)) := by rw [← hW]; exact GW _ _
    have HWC : Hid (W.cell? ⟨g, 0, none⟩ = some (.int .i64 (P + 1)) ∧ W.frozen? ⟨g, 0, none⟩ = false) := by
      rw [← hW]
      have hh : g < (w.setCell ⟨g, 0, none⟩ (.int .i64 (P + 1))).heap.size := by simpa using hgl
      have BB := (Below.refl (w.setCell ⟨g, 0, none⟩ (.int .i64 (P + 1))).heap.size (w.setCell ⟨g, 0, none⟩ (.int .i64 (P + 1)))).alloc (Nat.le_refl _) (.cells #[.slice ea m ec, .bool h, .int .i64 x, .slice ka n kc] 30)
      refine ⟨?_, ?_⟩
      · rw [BB.cell (p := ⟨g, 0, none⟩) hh]
        simp [go_sem, hc]
      · rw [BB.frozen (p := ⟨g, 0, none⟩) hh]
        simp [go_sem, hfz]
    have HWS : Hid (w.heap.size ≤ W.heap.size) := HW.out.size
    clear hW hca hfa GW hc hfz
    go_loopw [9, 32] (fun lv i wr => ∃ k : Nat, k ≤ n ∧ i = .int .i64 k ∧ ∃ ls : Int, lv = .int .i64 ls ∧ 0 ≤ ls ∧ ls ≤ 256 ∧ Hid ((k = 0 ∧ ls = 0) ∨ (0 < k ∧ ls = fstT (kid (k - 1)) + 1)) ∧ ∃ P' : Int, wr.cell? ⟨g, 0, none⟩ = some (.int .i64 P') ∧ wr.frozen? ⟨g, 0, none⟩ = false ∧ 0 ≤ P' ∧ P' ≤ 200 ∧ Hid (P' = P + 1 + sumN k (fun i => cntT (kid i))) ∧ Hid (K6k kid depth size k) ∧ w.grownBy wr (some g)) (fun _ i _ => n - (intOf i).toNat)
    case atStart => exact ⟨0, Nat.zero_le _, rfl, 0, rfl, by omega, by omega, .inl ⟨rfl, rfl⟩, P + 1, HWC.out.1, HWC.out.2, by omega, by omega, by show _ = _; simp [sumN], ⟨fun i hi => absurd hi (by omega), fun i hi => absurd hi (by omega)⟩, HW.out⟩
    case round =>
      obtain ⟨k, hk, rfl, ls, rfl, hls0, hls1, hls, P', hc, hfz, hP0', hP1', hPP, hG, hgw⟩ := hrel
      by_cases hlt : k < n
      · obtain ⟨b, o, rfl, hbl, hcc⟩ := H3.out (by omega)
        have hbw : Below w0.heap.size w0 wr := HB0.out.grown hgw HS0.out (fun k hk => by simp only [Option.some.injEq] at hk; omega)
        have X : Ext w0 wr := ext_below hbw
        have hT := VTree.ext X _ _ (HC.out k hlt)
        have c0 := World.grownBy.cell X (hcc k hlt 0 (by omega)) (by simp)
        have c1 := World.grownBy.cell X (hcc k hlt 1 (by omega)) (by simp)
        have c2 := World.grownBy.cell X (hcc k hlt 2 (by omega)) (by simp)
        have c3 := World.grownBy.cell X (hcc k hlt 3 (by omega)) (by simp)
        rw [Nat.add_zero] at c0
        obtain ⟨e', h', x', n', d', kid', hkk, e1, e2, r0, rk⟩ := hT.cells
        obtain ⟨a0, p0, x0, hrd, hq1, hq2⟩ := r0
        obtain ⟨a3, p3, x3, _, _⟩ := rk.slice
        have HT : Hid (VTree w0 (kid k) (.agg #[.slice a0 e'.length p0, .bool h', .int .i64 x', .slice a3 n' p3])) := by
          have := HC.out k hlt
          rw [x0, e1, e2, x3] at this
          exact this
        rw [x0] at c0
        rw [e1] at c1
        rw [e2] at c2
        rw [x3] at c3
        have hlt' : (k : Int) < (n : Int) := by omega
        have HED : Hid (edT (kid k) = e' ∧ e'.length ≤ szT (kid k) ∧ ∀ root, ownOk root (kid k) = ownF root e' h' x' n') := hkk
        clear hkk rk e1 e2 x0 x3 hT
        have HGA : Hid (∀ ob, w.grownBy (wr.alloc ob) (some g)) := fun ob => hgw.trans (World.grownBy_alloc _ _ _)
        by_cases hm0 : e'.length = 0
        · have HR : Hid (¬ Q) := by rw [HQ.out]; exact K6.badKid hlt (.inl (by rw [HED.out.2.2]; exact fun hh => hh.2.1 rfl hm0))
          rw [hm0] at c0
          clear hrd
          go_wp2_with fail
          go_ret
          exact .inr ⟨rfl, HR.out, HGA.out _⟩
        · obtain ⟨b0, o0, ha0, hbl0, hc0⟩ := hrd.pos (by omega)
          have d0 := hc0 0 (by omega)
          rw [Nat.add_zero] at d0
          subst ha0
          have hy01 := hrd.rng (e'.getD 0 0) (by
            rw [List.getD_eq_getElem?_getD, List.getElem?_eq_getElem (by omega)]
            simp)
          have HFS : Hid (fstT (kid k) = e'.getD 0 0) := by show (edT (kid k)).getD 0 0 = _; rw [HED.out.1]
          have HLE : Hid ((edT (kid k)).length = e'.length) := by show _ = _; rw [HED.out.1]
          have hle : e'.length ≤ 1048576 := by
            have := HZ.out k hlt
            have := HED.out.2.1
            omega
          obtain ⟨y, hy⟩ : ∃ y, y = e'.getD 0 0 := ⟨_, rfl⟩
          rw [← hy] at d0 HFS hy01
          obtain ⟨hy0, hy1⟩ := hy01
          obtain ⟨m', hmm⟩ : ∃ m', m' = e'.length := ⟨_, rfl⟩
          rw [← hmm] at c0 hq1 HT HLE hle
          have hm1 : (0 : Int) < (m' : Int) := by omega
          have hm3 : ((m' : Int) == 0) = false := by simp; omega
          have hm4 : (m' == 0) = false := by simp; omega
          have HM0 : Hid (m' = e'.length) := hmm
          have HNE : Hid (e'.length ≠ 0) := hm0
          have dA0 : ∀ ob, (wr.alloc ob).cell? ⟨b0, o0, none⟩ = some (.int .u8 y) := fun ob => World.grownBy.cell (World.grownBy_alloc wr ob none) d0 (by simp)
          clear hrd hc0 hy hmm hm0 d0 hcc
          by_cases hly : y < ls
          · have HR : Hid (¬ Q) := by
              rw [HQ.out]
              rcases hls.out with ⟨_, h0⟩ | ⟨h0, h1⟩
              · exfalso; omega
              · exact K6.badKid hlt (.inr ⟨h0, by rw [HFS.out]; omega⟩)
            go_wp2_with fail
            go_ret
            exact .inr ⟨rfl, HR.out, HGA.out _⟩
          · have hly' : decide (y < ls) = false := decide_eq_false hly
            have HG2 : Hid (∀ ob ob', w.grownBy ((wr.alloc ob).alloc ob') (some g)) := fun ob ob' => (HGA.out ob).trans (World.grownBy_alloc _ _ _)
            obtain ⟨vb, hvb⟩ : ∃ vb, vb = valP h' x' := ⟨_, rfl⟩
            cases vb with
            | false =>
              have HR : Hid (¬ Q) := by
                rw [HQ.out]
                refine K6.badKid hlt (.inl (by
                  rw [HED.out.2.2]
                  intro hh
                  have : valP h' x' = true := valP_iff.2 ⟨hh.2.2.1, hh.2.2.2.1, hh.2.2.2.2.1⟩
                  rw [← hvb] at this
                  cases this))
              have HV : Hid (valP h' x' = false) := hvb.symm
              clear hvb
              go_wp2_with (go_at_call 42; refine (treeValV _ _ _ _ _).mono ?_; rintro e w5 ⟨rfl, ob5, rfl⟩; rw [HV.out])
              go_ret
              exact .inr ⟨rfl, HR.out, HG2.out _ _⟩
            | true =>
              have HV : Hid (valP h' x' = true) := hvb.symm
              clear hvb
              by_cases hkn : h' = false ∧ n' < 2
              · have HR : Hid (¬ Q) := by
                  rw [HQ.out]
                  refine K6.badKid hlt (.inl (by
                    rw [HED.out.2.2]
                    intro hh
                    have := hh.2.2.2.2.2 rfl hkn.1
                    omega))
                obtain ⟨rfl, hn2⟩ := hkn
                have hn3 : (n' : Int) < 2 := by omega
                go_wp2_with (go_at_call 42; refine (treeValV _ _ _ _ _).mono ?_; rintro e w5 ⟨rfl, ob5, rfl⟩; rw [HV.out])
                go_ret
                exact .inr ⟨rfl, HR.out, HG2.out _ _⟩
              · have HOW : Hid (ownOk false (kid k)) := by
                  rw [HED.out.2.2]
                  have := valP_iff.1 HV.out
                  exact ⟨fun h => Bool.noConfusion h, fun _ => HNE.out, this.1, this.2.1, this.2.2, fun _ hh => Nat.le_of_not_lt fun h2 => hkn ⟨hh, h2⟩⟩
                have HUP : Hid (0 < k → fstT (kid (k - 1)) < fstT (kid k)) := fun h0 => by
                  rcases hls.out with ⟨h1, _⟩ | ⟨_, h1⟩
                  · omega
                  · rw [HFS.out]; omega
                have HREC : Hid (∀ (U : World), w.grownBy U (some g) → wr.grownBy U none → Calls Try.prog 43 #[.agg #[.slice (some ⟨b0, o0, none⟩) m' p0, .bool h', .int .i64 x', .slice a3 n' p3], .int .i64 (depth + 1), .int .i64 (size + m'), .pointer (some ⟨g, 0, none⟩)] U (fun e w' => (e = .returned (.bool true) ∧ w.grownBy w' (some g) ∧ Hid (K6k kid depth size (k + 1)) ∧ ∃ P'' : Int, w'.cell? ⟨g, 0, none⟩ = some (.int .i64 P'') ∧ w'.frozen? ⟨g, 0, none⟩ = false ∧ 0 ≤ P'' ∧ P'' ≤ 200 ∧ Hid (P'' = P + 1 + sumN (k + 1) (fun i => cntT (kid i)))) ∨ (e = .returned (.bool false) ∧ Hid (¬ Q) ∧ w.grownBy w' (some g)))) := by
                  intro U hU hE
                  have hcU : U.cell? ⟨g, 0, none⟩ = some (.int .i64 P') := World.grownBy.cell hE hc (by simp)
                  have hfU : U.frozen? ⟨g, 0, none⟩ = false := by
                    have hgl' := World.block_lt_of_cell? wr _ hc
                    have := hE.block g hgl' (by simp)
                    have e1 : U.frozen? ⟨g, 0, none⟩ = wr.frozen? ⟨g, 0, none⟩ := by simp only [World.frozen?, this]
                    rw [e1]; exact hfz
                  have hbU : Below w0.heap.size w0 U := HB0.out.grown hU HS0.out (fun k hk => by simp only [Option.some.injEq] at hk; omega)
                  refine (HI.out k _ (depth + 1) (size + m') P' g w0 U HT.out (HZ.out k hlt) hbU hg (by omega) (by omega) (by omega) (by omega) hP0' hP1' hcU hfU).mono ?_
                  rintro e w' (⟨rfl, hK, hgr, hc', hf'⟩ | ⟨rfl, hK, hgr⟩)
                  · left
                    obtain ⟨k1, k2, k3, k4⟩ := hK
                    have hle' := HLE.out
                    refine ⟨rfl, hU.trans hgr, hG.out.next ⟨HOW.out, k1, k3, by omega⟩ HUP.out, _, hc', hf', by omega, k2, ?_⟩
                    show _ = _
                    have := hPP.out
                    simp only [sumN]
                    omega
                  · right
                    refine ⟨rfl, ?_, hU.trans hgr⟩
                    show ¬ Q
                    rw [HQ.out]
                    have hle' := HLE.out
                    exact K6.badRec hlt hPP.out (by rw [hle']; exact hK)
                have HE2 : Hid (∀ ob ob', wr.grownBy ((wr.alloc ob).alloc ob') none) := fun ob ob' => (World.grownBy_alloc _ _ _).trans (World.grownBy_alloc _ _ _)
                have dB0 : ∀ ob ob', ((wr.alloc ob).alloc ob').cell? ⟨b0, o0, none⟩ = some (.int .u8 y) := fun ob ob' => World.grownBy.cell (World.grownBy_alloc (wr.alloc ob) ob' none) (dA0 ob) (by simp)
                have hh2 : h' = true ∨ (h' = false ∧ ¬ ((n' : Int) < 2)) := by
                  cases h' with
                  | true => exact .inl rfl
                  | false => exact .inr ⟨rfl, fun hh => hkn ⟨rfl, by omega⟩⟩
                clear hkn
                rcases hh2 with rfl | ⟨rfl, hn2⟩
                all_goals
                  go_wp2_with (go_at_call 42; refine (treeValV _ _ _ _ _).mono ?_; rintro e w5 ⟨rfl, ob5, rfl⟩; rw [HV.out])
                  refine (HREC.out _ (HG2.out _ _) (HE2.out _ _)).mono ?_
                  rintro e w5 (⟨rfl, hgr, hK, P'', hc5, hf5, hp0, hp1, hPP5⟩ | ⟨rfl, hK, hgr⟩)
                  · have HLS : Hid ((k + 1 = 0 ∧ y + 1 = 0) ∨ (0 < k + 1 ∧ y + 1 = fstT (kid (k + 1 - 1)) + 1)) := .inr ⟨by omega, by rw [show k + 1 - 1 = k by omega, HFS.out]⟩
                    have hy2 : 0 ≤ y + 1 := by omega
                    have hy3 : y + 1 ≤ 256 := by omega
                    go_wp2_with fail
                    go_roundw
                    case rel => exact ⟨k + 1, by omega, by go_num, y + 1, rfl, hy2, hy3, HLS, P'', hc5, hf5, hp0, hp1, hPP5, hK, hgr⟩
                    case measure => simp [intOf]; omega
                  · go_wp2_with fail
                    go_ret
                    exact .inr ⟨rfl, hK.out, hgr⟩
      · have hkn : k = n := by omega
        subst hkn
        have HR : Hid Q := by
          rw [HQ.out]
          exact hG.out.done q2 q3 (by have := hPP.out; omega)
        have HPC : Hid (P' = cn) := by
          show _ = _
          rw [HCN.out, hPP.out]
        have hnn : ¬ ((k : Int) < (k : Int)) := by omega
        go_wp2_with fail
        go_ret
        exact .inl ⟨rfl, HR.out, hgw, by rw [← HPC.out]; exact hc, hfz⟩

theorem kidsOk_anyD : ∀ (d : Nat) (t : DTree d), KoSays t
  | 0, _ => fun _ _ _ _ _ _ _ ht => False.elim ht
  | d + 1, (e, h, x, n, kid) => kidsOk_step e h x n kid (fun i => kidsOk_anyD d (kid i))
theorem kidsOk_any {d : Nat} (t : DTree d) : KoSays t := kidsOk_anyD d t

end Go.Proofs.Ytdeogmkcomdbjaa
