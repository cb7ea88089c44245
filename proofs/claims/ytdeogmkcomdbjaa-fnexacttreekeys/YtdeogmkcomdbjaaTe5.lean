/- The specification's TreeOk. -/
import Derived.Test.YtdeogmkcomdbjaaTe5a
import Derived.Deep.CutRange
namespace Go.Proofs.Ytdeogmkcomdbjaa
open Go.RowKit

/-- What holds behind k rounds: the kids so far are as they should be. -/
structure L6k {d : Nat} (kid : Nat → DTree d) (deep : Int) (k : Nat) : Prop where
  ok : ∀ i, i < k → ownOk false (kid i) ∧ kidsG (kid i) ∧ deep + 1 + depT (kid i) ≤ 24
  up : ∀ i, i + 1 < k → fstT (kid i) < fstT (kid (i + 1))

theorem L6k.next {d : Nat} {kid : Nat → DTree d} {deep : Int} {k : Nat} (h : L6k kid deep k) (h1 : ownOk false (kid k) ∧ kidsG (kid k) ∧ deep + 1 + depT (kid k) ≤ 24) (h2 : 0 < k → fstT (kid (k - 1)) < fstT (kid k)) : L6k kid deep (k + 1) :=
  ⟨fun i hi => by
    by_cases e : i = k
    · subst e; exact h1
    · exact h.ok i (by omega), fun i hi => by
    by_cases e : i + 1 = k
    · have := h2 (by omega)
      rw [← e] at this
      simpa using this
    · exact h.up i (by omega)⟩

theorem L6k.done {d : Nat} {kid : Nat → DTree d} {deep left : Int} {ed : List Int} {h : Bool} {x : Int} {n : Nat} (hk : L6k kid deep n) (root : Bool) (ho : ownOk root (DTree.node ed h x n kid)) (hd : deep ≤ 24) (h0 : 0 ≤ left - 1 - sumN n (fun i => cntT (kid i))) : OkRes root (DTree.node ed h x n kid) left deep (left - 1 - sumN n (fun i => cntT (kid i))) := by
  refine .inl ⟨ho, ⟨fun i hi => ⟨(hk.ok i hi).1, (hk.ok i hi).2.1⟩, hk.up⟩, ?_, ?_, ?_⟩
  · rw [cnt_node]; omega
  · have : depT (DTree.node ed h x n kid) ≤ (24 - deep).toNat := dep_all fun i hi => by
      have := (hk.ok i hi).2.2
      omega
    omega
  · rw [cnt_node]; omega

theorem ed_ne0 {d : Nat} {t : DTree d} (h : ownOk false t) : (edT t).length ≠ 0 := by
  match d, t, h with
  | 0, _, h => exact False.elim h
  | d + 1, (e, h', x, n, kid), h => exact h.2.1 rfl

/-- A kid that may not be there, or not behind the one ahead of it. -/
theorem L6.badKid {d : Nat} {kid : Nat → DTree d} {deep left : Int} {ed : List Int} {h : Bool} {x : Int} {n k : Nat} {root : Bool} (hk : k < n) (hb : (edT (kid k)).length = 0 ∨ (0 < k ∧ fstT (kid k) ≤ fstT (kid (k - 1)))) : OkRes root (DTree.node ed h x n kid) left deep (-1) := by
  refine .inr ⟨fun hh => ?_, rfl⟩
  obtain ⟨_, ⟨h1, h2⟩, _, _⟩ := hh
  rcases hb with hb | ⟨h0, hb⟩
  · exact absurd hb (ed_ne0 (h1 k hk).1)
  · have := h2 (k - 1) (by omega)
    rw [show k - 1 + 1 = k by omega] at this
    omega
theorem L6.badRec {d : Nat} {kid : Nat → DTree d} {deep left L : Int} {ed : List Int} {h : Bool} {x : Int} {n k : Nat} {root : Bool} (hk : k < n) (hL : L = left - 1 - sumN k (fun i => cntT (kid i))) (hb : ¬ (ownOk false (kid k) ∧ kidsG (kid k) ∧ (cntT (kid k) : Int) ≤ L ∧ deep + 1 + depT (kid k) ≤ 24)) : OkRes root (DTree.node ed h x n kid) left deep (-1) := by
  refine .inr ⟨fun hh => hb ?_, rfl⟩
  obtain ⟨_, ⟨h1, h2⟩, h3, h4⟩ := hh
  refine ⟨(h1 k hk).1, (h1 k hk).2, ?_, ?_⟩
  · have := sumN_le (fun i => cntT (kid i)) (show k + 1 ≤ n by omega)
    simp only [sumN] at this
    rw [cnt_node] at h3
    omega
  · have := dep_kid (e := ed) (h := h) (x := x) (kid := kid) hk
    omega

set_option maxRecDepth 100000 in
set_option maxHeartbeats 2000000 in
theorem l6ok_step {d : Nat} (ed : List Int) (h : Bool) (x : Int) (n : Nat) (kid : Nat → DTree d) (ih : ∀ i, L6Says (kid i)) : L6Says (DTree.node ed h x n kid) := by
    intro root v left deep w ht h0 h1 h2 h3
    by_cases hill : ownOk root (DTree.node ed h x n kid) ∧ 1 ≤ left ∧ deep ≤ 24
    case neg =>
      refine (l6ok_ill ed h x n kid root v left deep w ht h0 h1 h2 h3 hill).mono ?_
      rintro e w' ⟨rfl, hb⟩
      refine ⟨-1, rfl, .inr ⟨fun hh => hill ⟨hh.1, ?_, ?_⟩, rfl⟩, hb⟩
      · have := cnt_pos (DTree.node ed h x n kid)
        have := hh.2.2.1
        omega
      · have := hh.2.2.2
        omega
    obtain ⟨hown, hl1, hd⟩ := hill
    have HOW : Hid (ownOk root (DTree.node ed h x n kid)) := hown
    have HI : Hid (∀ i, L6Says (kid i)) := ih
    obtain ⟨o1, o2, o3, o4, o5, o6⟩ := hown
    obtain ⟨ev, kv, rfl, re, C, ⟨ka, kc, rfl, hk1, hk2, hk3⟩, hC⟩ := ht
    obtain ⟨ea, ec, rfl, _, he1, he2⟩ := re
    unfold maxLen at he2 hk2
    have HC : Hid (∀ i, i < n → VTree w (kid i) (.agg #[C i 0, C i 1, C i 2, C i 3])) := hC
    have H3 : Hid (0 < n → ∃ b o, ka = some ⟨b, o, none⟩ ∧ b < w.heap.size ∧ ∀ i, i < n → ∀ j, j < 4 → w.cell? ⟨b, o + i * 4 + j, none⟩ = some (C i j)) := hk3
    have Hh0 : h = true ∨ (h = false ∧ x = 0) := by cases h <;> simp_all
    have Hr0 : root = true ∧ ed.length = 0 ∨ root = false ∧ ed.length ≠ 0 ∧ (h = true ∨ 2 ≤ n) := by cases root <;> cases h <;> simp_all
    clear hk3 hC ih o1 o2 o3 o6
    have HM : ∃ m, m = ed.length := ⟨_, rfl⟩
    obtain ⟨m, hm⟩ := HM
    rw [← hm] at he1 Hr0 ⊢
    clear hm
    obtain ⟨Q, hQ⟩ : ∃ Q : Int → Prop, Q = OkRes root (DTree.node ed h x n kid) left deep := ⟨_, rfl⟩
    have HQ : Hid (Q = OkRes root (DTree.node ed h x n kid) left deep) := hQ
    rw [← hQ]
    clear hQ
    go_enter Try.func40, Try.ntmps40
    have hq6 : ¬ (left - 1 < 0) := by omega
    have hq7 : ¬ (24 < deep) := by omega
    go_upto_region 2 with fail
    go_cut [72] from 13 to 72 (fun c wx => c = .bool false ∧ wx = w.alloc (.cells #[.slice ea m ec, .bool h, .int .i64 x, .slice ka n kc] 30))
    case first => as_aux_lemma =>
      rcases Hr0 with ⟨rfl, rfl⟩ | ⟨rfl, hm, Hr0⟩
      · rcases Hh0 with rfl | ⟨rfl, rfl⟩
        · go_wp2_with fail
          go_meet
          exact ⟨by simp <;> omega, rfl⟩
        · go_wp2_with fail
          go_meet
          exact ⟨by simp <;> omega, rfl⟩
      · rcases Hh0 with rfl | ⟨rfl, rfl⟩
        · go_wp2_with fail
          go_meet
          exact ⟨by simp <;> omega, rfl⟩
        · have Hr0 : 2 ≤ n := by simpa using Hr0
          have Hr1 : ¬ ((n : Int) < 2) := by omega
          go_wp2_with fail
          go_meet
          exact ⟨by simp <;> omega, rfl⟩
    obtain ⟨rfl, rfl⟩ := hcut
    clear Hr0 Hh0
    go_wp2_with fail
    generalize hW : w.alloc _ = W
    have HW : Hid (Below w.heap.size w W ∧ Ext w W) := by rw [← hW]; exact ⟨(Below.refl _ w).alloc (Nat.le_refl _) _, World.grownBy_alloc _ _ _⟩
    have HQ3 : Hid (W.cell? ⟨w.heap.size, 3, none⟩ = some (.slice ka n kc)) := by
      rw [← hW]
      exact (at_block (heap_alloc_new w _) 3 _ rfl).1
    clear hW
    go_loopw [2, 9] (fun lv i wr => ∃ k : Nat, k ≤ n ∧ i = .int .i64 k ∧ ∃ L : Int, lv = .int .i64 L ∧ 0 ≤ L ∧ L ≤ 200 ∧ Hid (L = left - 1 - sumN k (fun i => cntT (kid i))) ∧ Hid (L6k kid deep k) ∧ Ext W wr ∧ Below w.heap.size w wr) (fun _ i _ => n - (intOf i).toNat)
    case atStart => exact ⟨0, Nat.zero_le _, rfl, left - 1, rfl, by omega, by omega, by show _ = _; simp [sumN], ⟨fun i hi => absurd hi (by omega), fun i hi => absurd hi (by omega)⟩, Ext.re _, HW.out.1⟩
    case round =>
      obtain ⟨k, hk, rfl, L, rfl, hL0, hL1, hL, hG, hx, hb⟩ := hrel
      have g3 := World.grownBy.cell hx HQ3.out (by simp)
      by_cases hlt : k < n
      · obtain ⟨b, o, rfl, hbl, hc⟩ := H3.out (by omega)
        have X := HW.out.2.tr hx
        have hT := VTree.ext X _ _ (HC.out k hlt)
        have c0 := World.grownBy.cell X (hc k hlt 0 (by omega)) (by simp)
        have c1 := World.grownBy.cell X (hc k hlt 1 (by omega)) (by simp)
        have c2 := World.grownBy.cell X (hc k hlt 2 (by omega)) (by simp)
        have c3 := World.grownBy.cell X (hc k hlt 3 (by omega)) (by simp)
        rw [Nat.add_zero] at c0
        obtain ⟨e', h', x', n', d', kid', hkk, e1, e2, r0, rk⟩ := hT.cells
        obtain ⟨a0, p0, x0, hrd, hq1, hq2⟩ := r0
        obtain ⟨a3, p3, x3, _, _⟩ := rk.slice
        rw [x0, e1, e2, x3] at hT
        rw [x0] at c0
        rw [e1] at c1
        rw [e2] at c2
        rw [x3] at c3
        have hlt' : (k : Int) < (n : Int) := by omega
        have HED : Hid (edT (kid k) = e') := hkk.1
        have HTW : Hid (∀ U, Ext w U → VTree U (kid k) (.agg #[.slice a0 e'.length p0, .bool h', .int .i64 x', .slice a3 n' p3])) := fun U hU => by
          have := VTree.ext hU _ _ (HC.out k hlt)
          rw [x0, e1, e2, x3] at this
          exact this
        clear hkk rk e1 e2 x0 x3 hT
        by_cases hm0 : e'.length = 0
        · have HR : Hid (Q (-1)) := by rw [HQ.out]; exact L6.badKid hlt (.inl (by rw [HED.out]; exact hm0))
          have hm1 : ((e'.length : Nat) : Int) = 0 := by omega
          clear hc hrd
          rw [hm0] at c0
          as_aux_lemma =>
            go_wp2_with fail
            go_quiet (fail)
            go_wp2_with fail
            go_ret
            exact ⟨-1, rfl, HR.out, below_drewN (hb.alloc hb.size _) _⟩
        · have hm1 : ¬ (((e'.length : Nat) : Int) = 0) := by omega
          obtain ⟨b0, o0, ha0, hbl0, hc0⟩ := hrd.pos (by omega)
          have d0 := hc0 0 (by omega)
          rw [Nat.add_zero] at d0
          subst ha0
          have hm2 : (0 : Int) < (e'.length : Nat) := by omega
          obtain ⟨m', hmm⟩ : ∃ m', m' = e'.length := ⟨_, rfl⟩
          rw [← hmm] at c0 hm1 hm2 hq1 HTW
          have HFS : Hid (fstT (kid k) = e'.getD 0 0) := by show (edT (kid k)).getD 0 0 = _; rw [HED.out]
          obtain ⟨y, hy⟩ : ∃ y, y = e'.getD 0 0 := ⟨_, rfl⟩
          rw [← hy] at d0 HFS
          have HX1 : Hid (∀ ob q, Ext W ((wr.alloc ob).drewN q)) := fun ob q => (hx.tr (World.grownBy_alloc _ _ _)).tr (ext_drewN _ _)
          have HB1 : Hid (∀ ob q, Below w.heap.size w ((wr.alloc ob).drewN q)) := fun ob q => below_drewN (hb.alloc hb.size _) _
          clear hmm hy hm0 hc0 hrd HED
          have HREC : Hid (∀ (U : World), Ext W U → Below w.heap.size w U → (0 < k → fstT (kid (k - 1)) < fstT (kid k)) → Calls Try.prog 40 #[.agg #[.slice (some ⟨b0, o0, none⟩) m' p0, .bool h', .int .i64 x', .slice a3 n' p3], .bool false, .int .i64 L, .int .i64 (deep + 1)] U (fun e w' => ∃ r : Int, e = .returned (.int .i64 r) ∧ Ext W w' ∧ Below w.heap.size w w' ∧ (r = -1 ∧ Q (-1) ∨ 0 ≤ r ∧ r ≤ 200 ∧ Hid (r = left - 1 - sumN (k + 1) (fun i => cntT (kid i))) ∧ Hid (L6k kid deep (k + 1))))) := by
            intro U hxU hbU hup
            have HTU : VTree U (kid k) (.agg #[.slice (some ⟨b0, o0, none⟩) m' p0, .bool h', .int .i64 x', .slice a3 n' p3]) := HTW.out U (HW.out.2.tr hxU)
            refine (HI.out k false _ L (deep + 1) U HTU hL0 hL1 (by omega) (by omega)).mono ?_
            rintro e w' ⟨r, rfl, hr, bw⟩
            refine ⟨r, rfl, hxU.tr (ext_below bw), hbU.trans (bw.mono hbU.size), ?_⟩
            rcases hr with ⟨r1, r2, r3, r4, r5⟩ | ⟨r1, r2⟩
            · right
              refine ⟨by omega, by omega, ?_, hG.out.next ⟨r1, r2, r4⟩ hup⟩
              show _ = _
              have := hL.out
              simp only [sumN]
              omega
            · left
              refine ⟨r2, ?_⟩
              rw [HQ.out]
              exact L6.badRec hlt hL.out r1
          have hm3 : ((m' : Int) == 0) = false := by simpa using hm1
          have hm4 : (m' == 0) = false := by simp; omega
          have hm5 : decide (m' = 0) = false := by simp; omega
          have hm6 : decide ((m' : Int) = 0) = false := by simpa using hm1
          by_cases hk0 : k = 0
          · have hkd : decide (0 < k) = false := by simp; omega
            have HUP : Hid (0 < k → fstT (kid (k - 1)) < fstT (kid k)) := fun h => absurd h (by omega)
            clear hc hk0
            as_aux_lemma =>
              go_wp2_with fail
              go_quiet (fail)
              go_wp2_with fail
              refine (HREC.out _ (HX1.out _ _) (HB1.out _ _) HUP.out).mono ?_
              rintro e w5 ⟨r, rfl, x5, b5, ⟨rfl, hr⟩ | ⟨hr0, hr1, hr2, hr3⟩⟩
              · have HR : Hid (Q (-1)) := hr
                clear hr
                go_wp2_with fail
                go_ret
                exact ⟨-1, rfl, HR.out, b5⟩
              · have hr4 : ¬ (r < 0) := by omega
                go_wp2_with fail
                go_roundw
                case rel => exact ⟨k + 1, by omega, by go_num, r, rfl, hr0, hr1, hr2, hr3, x5, b5⟩
                case measure => simp [intOf]; omega
          · obtain ⟨j, hj⟩ : ∃ j, k = j + 1 := ⟨k - 1, by omega⟩
            have HJ : Hid (k = j + 1) := hj
            have hkj : (k : Int) - 1 = (j : Int) := by omega
            have hkd : decide (0 < k) = true := by simp; omega
            have hkd2 : (0 : Int) < (k : Int) := by omega
            have hPT := VTree.ext X _ _ (HC.out j (by omega))
            have pc0 := World.grownBy.cell X (hc j (by omega) 0 (by omega)) (by simp)
            rw [Nat.add_zero] at pc0
            obtain ⟨e9, h9, x9, n9, d9', kid9, hk9, _, _, r9, _⟩ := hPT.cells
            have hp9 : 0 < e9.length := by
              have := ed_ne0 (hG.out.ok j (by omega)).1
              rw [hk9.1] at this
              omega
            obtain ⟨a9, p9, x99, hrd9, hq91, hq92⟩ := r9
            rw [x99] at pc0
            obtain ⟨b9, o9, ha9, hbl9, hc9⟩ := hrd9.pos hp9
            have d9 := hc9 0 hp9
            rw [Nat.add_zero] at d9
            subst ha9
            have HFS9 : Hid (fstT (kid j) = e9.getD 0 0) := by show (edT (kid j)).getD 0 0 = _; rw [hk9.1]
            have hm9 : (0 : Int) < (e9.length : Nat) := by omega
            obtain ⟨m9, hmm9⟩ : ∃ m9, m9 = e9.length := ⟨_, rfl⟩
            rw [← hmm9] at pc0 hq91 hm9
            obtain ⟨y9, hy9⟩ : ∃ y9, y9 = e9.getD 0 0 := ⟨_, rfl⟩
            rw [← hy9] at d9 HFS9
            have EA : ∀ ob, Ext wr (wr.alloc ob) := fun ob => World.grownBy_alloc _ _ _
            have gA3 : ∀ ob, (wr.alloc ob).cell? ⟨w.heap.size, 3, none⟩ = some (.slice (some ⟨b, o, none⟩) n kc) := fun ob => World.grownBy.cell (EA ob) g3 (by simp)
            have pA0 : ∀ ob, (wr.alloc ob).cell? ⟨b, o + j * 4, none⟩ = some (.slice (some ⟨b9, o9, none⟩) m9 p9) := fun ob => World.grownBy.cell (EA ob) pc0 (by simp)
            have dA9 : ∀ ob, (wr.alloc ob).cell? ⟨b9, o9, none⟩ = some (.int .u8 y9) := fun ob => World.grownBy.cell (EA ob) d9 (by simp)
            have dA0 : ∀ ob, (wr.alloc ob).cell? ⟨b0, o0, none⟩ = some (.int .u8 y) := fun ob => World.grownBy.cell (EA ob) d0 (by simp)
            have hjn : (j : Int) < (n : Int) := by omega
            have hj0 : (0 : Int) ≤ (j : Int) := by omega
            clear hc hk9 hPT x99 hrd9 hc9 hmm9 hy9 hp9 EA pc0 d9 hk0 hj
            by_cases hle : y ≤ y9
            · as_aux_lemma =>
                have HR : Hid (Q (-1)) := by
                  rw [HQ.out]
                  refine L6.badKid hlt (.inr ⟨by have := HJ.out; omega, ?_⟩)
                  rw [show k - 1 = j by have := HJ.out; omega, HFS.out, HFS9.out]
                  exact hle
                go_wp2_with fail
                go_quiet (fail)
                go_wp2_with fail
                go_ret
                exact ⟨-1, rfl, HR.out, HB1.out _ _⟩
            · as_aux_lemma =>
                have HUP : Hid (0 < k → fstT (kid (k - 1)) < fstT (kid k)) := fun _ => by
                  rw [show k - 1 = j by have := HJ.out; omega, HFS.out, HFS9.out]
                  omega
                go_wp2_with fail
                go_quiet (fail)
                go_wp2_with fail
                refine (HREC.out _ (HX1.out _ _) (HB1.out _ _) HUP.out).mono ?_
                rintro e w5 ⟨r, rfl, x5, b5, ⟨rfl, hr⟩ | ⟨hr0, hr1, hr2, hr3⟩⟩
                · have HR : Hid (Q (-1)) := hr
                  clear hr
                  go_wp2_with fail
                  go_ret
                  exact ⟨-1, rfl, HR.out, b5⟩
                · have hr4 : ¬ (r < 0) := by omega
                  go_wp2_with fail
                  go_roundw
                  case rel => exact ⟨k + 1, by omega, by go_num, r, rfl, hr0, hr1, hr2, hr3, x5, b5⟩
                  case measure => simp [intOf]; omega
      · as_aux_lemma =>
        have hkn : k = n := by omega
        subst hkn
        have HR : Hid (Q L) := by
          rw [HQ.out, hL.out]
          exact hG.out.done root HOW.out hd (by have := hL.out; omega)
        have hnn : ¬ ((k : Int) < (k : Int)) := by omega
        go_wp2_with fail
        go_ret
        exact ⟨L, rfl, HR.out, hb⟩

theorem l6ok_anyD : ∀ (d : Nat) (t : DTree d), L6Says t
  | 0, _ => fun _ _ _ _ _ ht => False.elim ht
  | d + 1, (e, h, x, n, kid) => l6ok_step e h x n kid (fun i => l6ok_anyD d (kid i))
theorem l6ok_any {d : Nat} (t : DTree d) : L6Says t := l6ok_anyD d t

end Go.Proofs.Ytdeogmkcomdbjaa
