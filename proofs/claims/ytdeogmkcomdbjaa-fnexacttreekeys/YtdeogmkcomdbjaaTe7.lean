/- The specification's l6long. -/
import Derived.Test.YtdeogmkcomdbjaaTe2
import Derived.Test.YtdeogmkcomdbjaaTe4
namespace Go.Proofs.Ytdeogmkcomdbjaa
open Go.RowKit

abbrev LongSays {d : Nat} (t : DTree d) : Prop := ∀ (v : Value) (w : World), VTree w t v → szT t ≤ 1048576 →
  Calls Try.prog 41 #[v] w fun e w' => e = .returned (.int .i64 ((lngK t + (edT t).length : Nat) : Int)) ∧ Below w.heap.size w w'

set_option maxRecDepth 100000 in
set_option maxHeartbeats 2000000 in
theorem l6long_step {d : Nat} (ed : List Int) (h : Bool) (x : Int) (n : Nat) (kid : Nat → DTree d) (ih : ∀ i, LongSays (kid i)) : LongSays (DTree.node ed h x n kid) := by
    intro v w ht hsz
    have HI : Hid (∀ i, LongSays (kid i)) := ih
    obtain ⟨ev, kv, rfl, re, C, ⟨ka, kc, rfl, hk1, hk2, hk3⟩, hC⟩ := ht
    obtain ⟨ea, ec, rfl, _, he1, he2⟩ := re
    unfold maxLen at hk2
    have HC : Hid (∀ i, i < n → VTree w (kid i) (.agg #[C i 0, C i 1, C i 2, C i 3])) := hC
    have HZ : Hid (∀ i, i < n → szT (kid i) ≤ 1048576) := fun i hi => by
      have : szT (kid i) ≤ sumN n (fun i => szT (kid i)) := sumN_mem (fun i => szT (kid i)) hi
      have hsz : ed.length + (n + sumN n (fun i => szT (kid i))) ≤ 1048576 := hsz
      omega
    have H3 : Hid (0 < n → ∃ b o, ka = some ⟨b, o, none⟩ ∧ b < w.heap.size ∧ ∀ i, i < n → ∀ j, j < 4 → w.cell? ⟨b, o + i * 4 + j, none⟩ = some (C i j)) := hk3
    have hml : ed.length ≤ 1048576 := by
      have hsz : ed.length + (n + sumN n (fun i => szT (kid i))) ≤ 1048576 := hsz
      omega
    have HTOT : Hid ((lngK (DTree.node ed h x n kid) + (edT (DTree.node ed h x n kid)).length : Nat) = maxN n (fun i => lngK (kid i) + (edT (kid i)).length) + ed.length) := rfl
    have HLL : Hid (maxN n (fun i => lngK (kid i) + (edT (kid i)).length) ≤ 1048576) := by
      show _ ≤ _
      have := lng_le (DTree.node ed h x n kid)
      have h2 := HTOT.out
      omega
    rw [HTOT.out]
    obtain ⟨m, hm⟩ : ∃ m, m = ed.length := ⟨_, rfl⟩
    rw [← hm] at he1 hml ⊢
    clear hk3 hC ih hsz hm HTOT
    obtain ⟨f, hf⟩ : ∃ f, f = fun i => lngK (kid i) + (edT (kid i)).length := ⟨_, rfl⟩
    have HF : Hid (f = fun i => lngK (kid i) + (edT (kid i)).length) := hf
    rw [← hf] at HLL ⊢
    obtain ⟨R, hR⟩ : ∃ R : Int, R = ((maxN n f + m : Nat) : Int) := ⟨_, rfl⟩
    have HRR : Hid (R = ((maxN n f + m : Nat) : Int)) := hR
    rw [← hR]
    clear hf hR
    go_enter Try.func41, Try.ntmps41
    go_wp2_with fail
    generalize hW : w.alloc _ = W
    have HW : Hid (Below w.heap.size w W ∧ Ext w W) := by rw [← hW]; exact ⟨(Below.refl _ w).alloc (Nat.le_refl _) _, World.grownBy_alloc _ _ _⟩
    have HQ3 : Hid (W.cell? ⟨w.heap.size, 3, none⟩ = some (.slice ka n kc)) := by
      rw [← hW]
      exact (at_block (heap_alloc_new w _) 3 _ rfl).1
    have HQ0 : Hid (W.cell? ⟨w.heap.size, 0, none⟩ = some (.slice ea m ec)) := by
      rw [← hW]
      exact (at_block (heap_alloc_new w _) 0 _ rfl).1
    clear hW
    go_loopw [3, 4] (fun mv i wr => ∃ k : Nat, k ≤ n ∧ i = .int .i64 k ∧ ∃ M : Nat, mv = .int .i64 M ∧ M ≤ 1048576 ∧ Hid (M = maxN k f) ∧ Ext W wr ∧ Below w.heap.size w wr) (fun _ i _ => n - (intOf i).toNat)
    case atStart => exact ⟨0, Nat.zero_le _, rfl, 0, rfl, by omega, rfl, Ext.re _, HW.out.1⟩
    case round =>
      obtain ⟨k, hk, rfl, M, rfl, hM1, hM, hx, hb⟩ := hrel
      have g3 := World.grownBy.cell hx HQ3.out (by simp)
      have g0 := World.grownBy.cell hx HQ0.out (by simp)
      by_cases hlt : k < n
      · obtain ⟨b, o, rfl, hbl, hc⟩ := H3.out (by omega)
        have X := HW.out.2.tr hx
        have hT := VTree.ext X _ _ (HC.out k hlt)
        have c0 := World.grownBy.cell X (hc k hlt 0 (by omega)) (by simp)
        have c1 := World.grownBy.cell X (hc k hlt 1 (by omega)) (by simp)
        have c2 := World.grownBy.cell X (hc k hlt 2 (by omega)) (by simp)
        have c3 := World.grownBy.cell X (hc k hlt 3 (by omega)) (by simp)
        rw [Nat.add_zero] at c0
        obtain ⟨e', h', x', n', d', kid', hkk, e1, e2, r0, rk⟩ := hT.cells
        obtain ⟨a0, p0, x0, _, _, _⟩ := r0
        obtain ⟨a3, p3, x3, _, _⟩ := rk.slice
        rw [x0, e1, e2, x3] at hT
        rw [x0] at c0
        rw [e1] at c1
        rw [e2] at c2
        rw [x3] at c3
        have hlt' : (k : Int) < (n : Int) := by omega
        have HN : Hid (maxN (k + 1) f = max M (f k)) := by
          show max (maxN k f) (f k) = _
          rw [hM.out]
        have HFK : Hid (f k = lngK (kid k) + (edT (kid k)).length) := by rw [HF.out]; rfl
        have hfk : f k ≤ 1048576 := by
          have := HZ.out k hlt
          have := lng_le (kid k)
          have := HFK.out
          omega
        clear hkk rk e1 e2 x0 x3 hc
        go_wp2_with fail
        refine (HI.out k _ wr hT (HZ.out k hlt)).mono ?_
        rw [← HFK.out]
        rintro e w5 ⟨rfl, b5⟩
        have hb5 := hb.trans (b5.mono hb.size)
        have hx5 := hx.tr (ext_below b5)
        generalize f k = F at *
        clear b5 hb hx g3 g0 c0 c1 c2 c3 hT
        by_cases hgt : (M : Int) < (F : Int)
        · have HR : Hid (F = maxN (k + 1) f) := by
            show _ = _
            rw [HN.out]
            omega
          go_wp2_with fail
          go_roundw
          case rel => exact ⟨k + 1, by omega, by go_num, F, rfl, hfk, HR, hx5, hb5⟩
          case measure => simp [intOf]; omega
        · have HR : Hid (M = maxN (k + 1) f) := by
            show _ = _
            rw [HN.out]
            omega
          go_wp2_with fail
          go_roundw
          case rel => exact ⟨k + 1, by omega, by go_num, M, rfl, hM1, HR, hx5, hb5⟩
          case measure => simp [intOf]; omega
      · have hkn : k = n := by omega
        subst hkn
        have HR : Hid (R = (M : Int) + (m : Int)) := by
          show _ = _
          rw [HRR.out, hM.out]
          omega
        have hnn : ¬ ((k : Int) < (k : Int)) := by omega
        go_wp2_with fail
        go_ret
        exact ⟨by rw [HR.out]; rfl, hb⟩

theorem l6long_anyD : ∀ (d : Nat) (t : DTree d), LongSays t
  | 0, _ => fun _ _ ht => False.elim ht
  | d + 1, (e, h, x, n, kid) => l6long_step e h x n kid (fun i => l6long_anyD d (kid i))
theorem l6long_any {d : Nat} (t : DTree d) : LongSays t := l6long_anyD d t

end Go.Proofs.Ytdeogmkcomdbjaa
