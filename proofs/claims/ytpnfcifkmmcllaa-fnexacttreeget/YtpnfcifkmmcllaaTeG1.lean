/- The specification's l6get. -/
import Derived.Test.YtpnfcifkmmcllaaTeG0
import Derived.Test.YtpnfcifkmmcllaaTe2
namespace Go.Proofs.Ytpnfcifkmmcllaa
open Go.RowKit

abbrev GetSays {d : Nat} (t : DTree d) : Prop := ∀ (v u : Value) (key : List Int) (w : World), VTree w t v → RV w u key → key.length ≤ 1048576 → szT t ≤ 1048576 → kidsG t →
  Calls Try.prog 25 #[v, u] w fun e w' => e = .returned (.tuple #[.int .i64 (getS t key).1, .bool (getS t key).2]) ∧ Below w.heap.size w w'

set_option maxRecDepth 100000 in
set_option maxHeartbeats 2000000 in
theorem l6get_step {d : Nat} (ed : List Int) (h : Bool) (x : Int) (n : Nat) (kid : Nat → DTree d) (ih : ∀ i, GetSays (kid i)) : GetSays (DTree.node ed h x n kid) := by
    intro v u key w ht hu hkl hsz hkg
    have HI : Hid (∀ i, GetSays (kid i)) := ih
    have HU : Hid (RV w u key) := hu
    have HKG : Hid (kidsG (DTree.node ed h x n kid)) := hkg
    obtain ⟨ev, kv, rfl, re, C, ⟨ka, kc, rfl, hk1, hk2, hk3⟩, hC⟩ := ht
    have HRE : Hid (RV w ev ed) := re
    obtain ⟨ea, ec, rfl, _, he1, he2⟩ := re
    obtain ⟨ua, uc, rfl, _, hu1, hu2⟩ := hu
    unfold maxLen at hk2 hu2
    have HC : Hid (∀ i, i < n → VTree w (kid i) (.agg #[C i 0, C i 1, C i 2, C i 3])) := hC
    have HZ : Hid (∀ i, i < n → szT (kid i) ≤ 1048576) := fun i hi => by
      have : szT (kid i) ≤ sumN n (fun i => szT (kid i)) := sumN_mem (fun i => szT (kid i)) hi
      have hsz : ed.length + (n + sumN n (fun i => szT (kid i))) ≤ 1048576 := hsz
      omega
    have H3 : Hid (0 < n → ∃ b o, ka = some ⟨b, o, none⟩ ∧ b < w.heap.size ∧ ∀ i, i < n → ∀ j, j < 4 → w.cell? ⟨b, o + i * 4 + j, none⟩ = some (C i j)) := hk3
    have hml : ed.length ≤ 1048576 := by
      have hsz : ed.length + (n + sumN n (fun i => szT (kid i))) ≤ 1048576 := hsz
      omega
    clear hk3 hC ih hsz hkg
    obtain ⟨A, hA⟩ : ∃ A, A = getS (DTree.node ed h x n kid) key := ⟨_, rfl⟩
    have HA : Hid (A = getS (DTree.node ed h x n kid) key) := hA
    rw [← hA]
    clear hA
    have EA : ∀ ob, Ext w (w.alloc ob) := fun ob => World.grownBy_alloc _ _ _
    obtain ⟨pb, hpb⟩ : ∃ pb, pb = hasB key ed := ⟨_, rfl⟩
    have HPB : Hid (hasB key ed = pb) := hpb.symm
    clear hpb
    go_enter Try.func25, Try.ntmps25
    go_wp2_with fail
    refine (sHasV _ _ key ed _ (HU.out.ext (EA _)) (HRE.out.ext (EA _)) (by omega) (by omega)).mono ?_
    rw [HPB.out]
    rintro e w1 ⟨rfl, q, rfl⟩
    cases pb with
    | false =>
      have HR : Hid (A = (0, false)) := by
        show A = _
        rw [HA.out]
        show (if hasB key ed = true then _ else _) = _
        rw [HPB.out, if_neg (by simp)]
      go_wp2_with fail
      go_ret2
      exact ⟨by rw [HR.out]; rfl, below_drewN ((Below.refl _ w).alloc (Nat.le_refl _) _) _⟩
    | true =>
      have hle : ed.length ≤ key.length := ((hasB_iff _ _).1 HPB.out).1
      have HA2 : Hid (A = getK (DTree.node ed h x n kid) (key.drop ed.length)) := by
        show A = _
        rw [HA.out]
        show (if hasB key ed = true then _ else _) = _
        rw [HPB.out, if_pos rfl]
        rfl
      clear HA
      generalize hW : (w.alloc _).drewN q = W
      have HW : Hid (Below w.heap.size w W ∧ Ext w W) := by rw [← hW]; exact ⟨below_drewN ((Below.refl _ w).alloc (Nat.le_refl _) _) _, (EA _).tr (ext_drewN _ _)⟩
      have hW0 : W.cell? ⟨w.heap.size, 0, none⟩ = some (.slice ea ed.length ec) := by
        rw [← hW]
        exact (at_block (heap_alloc_new w _) 0 _ rfl).1
      have hW1 : W.cell? ⟨w.heap.size, 1, none⟩ = some (.bool h) := by
        rw [← hW]
        exact (at_block (heap_alloc_new w _) 1 _ rfl).1
      have hW2 : W.cell? ⟨w.heap.size, 2, none⟩ = some (.int .i64 x) := by
        rw [← hW]
        exact (at_block (heap_alloc_new w _) 2 _ rfl).1
      have hW3 : W.cell? ⟨w.heap.size, 3, none⟩ = some (.slice ka n kc) := by
        rw [← hW]
        exact (at_block (heap_alloc_new w _) 3 _ rfl).1
      clear hW
      obtain ⟨u2, hu2', HU2⟩ : ∃ u2, (uc = ed.length ∧ u2 = .slice ua 0 0 ∨ uc ≠ ed.length ∧ u2 = .slice (ua.map fun x => x.add ed.length) (key.length - ed.length) (uc - ed.length)) ∧ Hid (RV W u2 (key.drop ed.length)) := by
        by_cases hce : uc = ed.length
        · exact ⟨_, .inl ⟨hce, rfl⟩, RV.sub0 (HU.out.ext HW.out.2) ed.length (by omega)⟩
        · exact ⟨_, .inr ⟨hce, rfl⟩, RV.sub (HU.out.ext HW.out.2) ed.length hle⟩
      obtain ⟨m, hm⟩ : ∃ m, m = ed.length := ⟨_, rfl⟩
      obtain ⟨kl, hkl'⟩ : ∃ kl, kl = key.length := ⟨_, rfl⟩
      rw [← hm] at hW0 hle hu2' hml HU2 HA2 he1 ⊢
      rw [← hkl'] at hkl hle hu2' hu1 ⊢
      have hmi : (m : Int) ≤ (kl : Int) := by omega
      have HKL : Hid (kl = key.length ∧ m = ed.length) := ⟨hkl', hm⟩
      have HDL : Hid ((key.drop m).length = kl - m) := by rw [List.length_drop, hkl']; rfl
      by_cases hkm : kl = m
      · have HR : Hid (A = (x, h)) := by
          show A = _
          rw [HA2.out]
          exact getK_end (by rw [HDL.out]; omega)
        clear hkl' hm
        subst hkm
        rcases hu2' with ⟨rfl, rfl⟩ | ⟨hce, rfl⟩
        all_goals
          go_wp2_with fail
          go_quiet (fail)
          go_wp2_with fail
          go_ret2
          exact ⟨by rw [HR.out]; rfl, below_drewN HW.out.1 _⟩
      · have hce : uc ≠ m := by omega
        obtain rfl : u2 = .slice (ua.map fun x => x.add m) (kl - m) (uc - m) := by
          rcases hu2' with ⟨h1, _⟩ | ⟨_, h1⟩
          · exact absurd h1 hce
          · exact h1
        have hb1 : ((kl - m : Nat) == 0) = false := by simp; omega
        have hb2 : (((kl - m : Nat) : Int) == 0) = false := by simp; omega
        have hb4 : ¬ (kl ≤ m) := by omega
        have hb6 : (0 : Int) < ((kl - m : Nat) : Int) := by omega
        obtain ⟨ub, uo, hua⟩ : ∃ ub uo, ua = some ⟨ub, uo, none⟩ := by
          obtain ⟨a', c', hv, hr, _, _⟩ := HU.out
          simp only [Value.slice.injEq] at hv
          obtain ⟨b', o', e', _, _⟩ := hr.pos (by omega)
          exact ⟨b', o', by rw [hv.1]; exact e'⟩
        subst hua
        have HU3 : Hid (RV W (.slice (some ⟨ub, uo + m, none⟩) (kl - m) (uc - m)) (key.drop m)) := by
          have := HU2.out
          show RV _ _ _
          simpa [Addr.add_lit] using this
        have hy : W.cell? ⟨ub, uo + m, none⟩ = some (.int .u8 ((key.drop m).getD 0 0)) := by
          obtain ⟨a', c', hv, hr, _, _⟩ := HU3.out
          simp only [Value.slice.injEq] at hv
          obtain ⟨b', o', e', _, hc'⟩ := hr.pos (by rw [HDL.out]; omega)
          rw [← hv.1] at e'
          simp only [Option.some.injEq, Addr.mk.injEq, and_true] at e'
          obtain ⟨rfl, rfl⟩ := e'
          have := hc' 0 (by rw [HDL.out]; omega)
          rw [Nat.add_zero] at this
          exact this
        have HKNE : Hid ((key.drop m).length ≠ 0) := by show _ ≠ _; rw [HDL.out]; omega
        have HKLE : Hid ((key.drop m).length ≤ 1048576) := by show _ ≤ _; rw [HDL.out]; omega
        obtain ⟨y, hy'⟩ : ∃ y, y = (key.drop m).getD 0 0 := ⟨_, rfl⟩
        have HY : Hid (y = (key.drop m).getD 0 0) := hy'
        rw [← hy'] at hy
        obtain ⟨kr, hkr⟩ : ∃ kr, kr = key.drop m := ⟨_, rfl⟩
        rw [← hkr] at HU3 HKNE HKLE HY HA2
        clear hkl' hm hu2' HU2 hy' hkr HDL HKL
        go_wp2_with fail
        generalize hkd : kl - m = kd at *
        have HWC : Hid (W.cell? ⟨w.heap.size, 3, none⟩ = some (.slice ka n kc) ∧ W.cell? ⟨ub, uo + m, none⟩ = some (.int .u8 y)) := ⟨hW3, hy⟩
        clear hkd hW0 hW1 hW2 hW3 hy
        go_loopw [6] (fun i wr => ∃ k : Nat, k ≤ n ∧ i = .int .i64 k ∧ Ext W wr ∧ Below w.heap.size w wr ∧ Hid (∀ i, i < k → fstT (kid i) ≠ y)) (fun i _ => n - (intOf i).toNat)
        case atStart => exact ⟨0, Nat.zero_le _, rfl, Ext.re _, HW.out.1, fun i hi => absurd hi (by omega)⟩
        case round =>
          obtain ⟨k, hk, rfl, hx, hb, hno⟩ := hrel
          have g3 := World.grownBy.cell hx HWC.out.1 (by simp)
          have gy := World.grownBy.cell hx HWC.out.2 (by simp)
          by_cases hlt : k < n
          · obtain ⟨b, o, rfl, hbl, hc⟩ := H3.out (by omega)
            have X := HW.out.2.tr hx
            have hT := VTree.ext X _ _ (HC.out k hlt)
            have c0 := World.grownBy.cell X (hc k hlt 0 (by omega)) (by simp)
            have c1 := World.grownBy.cell X (hc k hlt 1 (by omega)) (by simp)
            have c2 := World.grownBy.cell X (hc k hlt 2 (by omega)) (by simp)
            have c3 := World.grownBy.cell X (hc k hlt 3 (by omega)) (by simp)
            rw [Nat.add_zero] at c0
            have HEN : Hid ((edT (kid k)).length ≠ 0) := ed_ne (HKG.out.1 k hlt).1
            obtain ⟨e', h', x', n', d', kid', hkk, e1, e2, r0, rk⟩ := hT.cells
            obtain ⟨a0, p0, x0, hrd, hq1, hq2⟩ := r0
            obtain ⟨a3, p3, x3, _, _⟩ := rk.slice
            have HT : Hid (∀ U, Ext w U → VTree U (kid k) (.agg #[.slice a0 e'.length p0, .bool h', .int .i64 x', .slice a3 n' p3])) := fun U hU => by
              have := VTree.ext hU _ _ (HC.out k hlt)
              rw [x0, e1, e2, x3] at this
              exact this
            rw [x0] at c0
            rw [e1] at c1
            rw [e2] at c2
            rw [x3] at c3
            have hlt' : (k : Int) < (n : Int) := by omega
            have hel : 0 < e'.length := by
              have := HEN.out
              rw [hkk.1] at this
              omega
            obtain ⟨b0, o0, ha0, hbl0, hc0⟩ := hrd.pos hel
            have d0 := hc0 0 hel
            rw [Nat.add_zero] at d0
            subst ha0
            have HFS : Hid (fstT (kid k) = e'.getD 0 0) := by show (edT (kid k)).getD 0 0 = _; rw [hkk.1]
            obtain ⟨z, hz⟩ : ∃ z, z = e'.getD 0 0 := ⟨_, rfl⟩
            rw [← hz] at d0 HFS
            have hel' : (0 : Int) < (e'.length : Nat) := by omega
            generalize e'.length = m' at *
            clear hkk rk e1 e2 x0 x3 hT hrd hc0 hc hz
            by_cases hzy : z = y
            · have HR : Hid (A = getS (kid k) kr) := by
                show A = _
                rw [HA2.out]
                exact getS_found HKG.out HKNE.out hlt (by rw [HFS.out, ← HY.out]; exact hzy)
              subst hzy
              have HXX : Hid (Ext w wr ∧ Ext W wr) := ⟨X, hx⟩
              go_wp2_with fail
              go_quiet (fail)
              go_wp2_with fail
              refine (HI.out k _ _ kr _ (HT.out _ (HXX.out.1.tr (ext_drewN _ _))) (HU3.out.ext (HXX.out.2.tr (ext_drewN _ _))) HKLE.out (HZ.out k hlt) (HKG.out.1 k hlt).2).mono ?_
              rintro e w5 ⟨rfl, b5⟩
              have HB5 : Hid (Below w.heap.size w w5) := (below_drewN hb _).trans (b5.mono (by have := hb.size; simpa using this))
              rw [← HR.out]
              clear b5
              go_wp2_with fail
              go_ret2
              exact ⟨rfl, HB5.out⟩
            · have hzy' : (z == y) = false := by simpa using hzy
              have HN : Hid (∀ i, i < k + 1 → fstT (kid i) ≠ y) := fun i hi => by
                by_cases e : i = k
                · subst e; rw [HFS.out]; exact hzy
                · exact hno.out i (by omega)
              go_wp2_with fail
              go_quiet (fail)
              go_wp2_with fail
              go_roundw
              case rel => exact ⟨k + 1, by omega, by go_num, hx.tr (ext_drewN _ _), below_drewN hb _, HN⟩
              case measure => simp [intOf]; omega
          · have hkn : k = n := by omega
            subst hkn
            have HR : Hid (A = (0, false)) := by
              show A = _
              rw [HA2.out]
              exact getS_none HKG.out HKNE.out (by rw [← HY.out]; exact hno.out)
            have hnn : ¬ ((k : Int) < (k : Int)) := by omega
            go_wp2_with fail
            go_ret2
            exact ⟨by rw [HR.out]; rfl, hb⟩

theorem l6get_anyD : ∀ (d : Nat) (t : DTree d), GetSays t
  | 0, _ => fun _ _ _ _ ht => False.elim ht
  | d + 1, (e, h, x, n, kid) => l6get_step e h x n kid (fun i => l6get_anyD d (kid i))
theorem l6get_any {d : Nat} (t : DTree d) : GetSays t := l6get_anyD d t

end Go.Proofs.Ytpnfcifkmmcllaa
