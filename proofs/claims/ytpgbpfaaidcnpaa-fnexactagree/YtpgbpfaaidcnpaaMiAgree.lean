/- The library's Equal at members; the program's Agree. -/
import Derived.Test.YtpgbpfaaidcnpaaMi2
import Derived.Test.YtpgbpfaaidcnpaaMdA
import Derived.Laws.StructEq
namespace Go.Proofs.Ytpgbpfaaidcnpaa
open Go.RowKit

set_option maxRecDepth 20000 in
set_option maxHeartbeats 4000000 in
theorem equalMV (v u : Value) (xs ys : List DMem) (w : World) (h : VMem w v xs) (k : VMem w u ys) (hn : xs.length ≤ 1048576) (hm : ys.length ≤ 1048576) :
    Calls Try.prog 28 #[v, u] w fun e w' => e = .returned (.bool (tB (xs = ys))) ∧ Below w.heap.size w w' := by
  have HVA : Hid (VMem w v xs) := h
  have HVB : Hid (VMem w u ys) := k
  obtain ⟨a, cap, rfl⟩ := h.shape
  obtain ⟨a', cap', rfl⟩ := k.shape
  obtain ⟨n, hnn⟩ : ∃ n, n = xs.length := ⟨_, rfl⟩
  obtain ⟨m, hmm⟩ : ∃ m, m = ys.length := ⟨_, rfl⟩
  have HNN : Hid (n = xs.length) := hnn
  have HMM : Hid (m = ys.length) := hmm
  rw [← hnn] at HVA hn ⊢
  rw [← hmm] at HVB hm ⊢
  have hml : (n : Int) ≤ 1048576 := by omega
  have hml' : (m : Int) ≤ 1048576 := by omega
  clear h k hnn hmm hn hm
  by_cases e1 : n = m
  case neg =>
    have HK : Hid (tB (xs = ys) = false) := tB_false (fun h => e1 (by have := HNN.out; have := HMM.out; simp_all))
    have e1' : (((n : Int)) == ((m : Int))) = false := by simp; omega
    clear e1
    go_enter Try.func28, Try.ntmps28
    go_wp2
    go_ret
    exact ⟨by rw [HK.out]; rfl, Below.refl _ _⟩
  have HNM : Hid (xs.length = ys.length) := by show _ = _; have := HNN.out; have := HMM.out; omega
  subst e1
  go_enter Try.func28, Try.ntmps28
  go_wp2
  go_loopw [13] (fun i wr => ∃ k q : Nat, k ≤ n ∧ i = .int .i64 k ∧ wr = w.drewN q ∧ Hid (∀ (j : Nat) x y, j < k → xs[j]? = some x → ys[j]? = some y → x = y)) (fun i _ => n - (intOf i).toNat)
  case atStart => exact ⟨0, 0, Nat.zero_le _, rfl, rfl, fun j x y hj => absurd hj (by omega)⟩
  case round =>
    obtain ⟨k, q, hk, rfl, rfl, hall⟩ := hrel
    by_cases hlt : k < n
    · obtain ⟨s, hs⟩ : ∃ s, xs[k]? = some s := ⟨_, List.getElem?_eq_getElem (by have := HNN.out; omega)⟩
      obtain ⟨t, ht⟩ : ∃ t, ys[k]? = some t := ⟨_, List.getElem?_eq_getElem (by have := HMM.out; omega)⟩
      obtain ⟨b, o, rfl, c0, c1, c2⟩ := HVA.out.at (Ext.re w) hs
      obtain ⟨b', o', rfl, d0, d1, d2⟩ := HVB.out.at (Ext.re w) ht
      have hlt' : (k : Int) < (n : Int) := by omega
      by_cases hst : s = t
      · subst hst
        have HA2 : Hid (∀ (j : Nat) x y, j < k + 1 → xs[j]? = some x → ys[j]? = some y → x = y) := fun j x y hj hx hy => by
          by_cases ej : j = k
          · subst ej
            rw [hs] at hx
            rw [ht] at hy
            cases hx
            cases hy
            rfl
          · exact hall.out j x y (by omega) hx hy
        go_wp2_with fail
        go_quiet (fail)
        go_wp2
        go_roundw
        case rel => exact ⟨k + 1, _, by omega, by go_num, by first | rfl | exact World.drewN_drewN _ _ _, HA2⟩
        case measure => simp [intOf]; omega
      · have HK : Hid (tB (xs = ys) = false) := tB_false (fun h => hst (by rw [h, ht] at hs; exact (Option.some.inj hs).symm))
        obtain ⟨si, ss, sl⟩ := s
        obtain ⟨ti, ts, tl⟩ := t
        simp only at c0 c1 c2 d0 d1 d2
        by_cases g0 : si = ti
        · subst g0
          by_cases g1 : ss = ts
          · subst g1
            have g2 : (sl == tl) = false := by
              have : sl ≠ tl := fun e => hst (by rw [e])
              simpa using this
            clear hst
            go_wp2_with fail
            go_quiet (fail)
            go_wp2
            go_ret
            exact ⟨by rw [HK.out]; rfl, below_drewN (below_drewN (Below.refl _ _) _) _⟩
          · have g1' : (ss == ts) = false := by simpa using g1
            clear hst
            go_wp2_with fail
            go_quiet (fail)
            go_wp2
            go_ret
            exact ⟨by rw [HK.out]; rfl, below_drewN (below_drewN (Below.refl _ _) _) _⟩
        · have g0' : (si == ti) = false := by simpa using g0
          clear hst
          go_wp2_with fail
          go_quiet (fail)
          go_wp2
          go_ret
          exact ⟨by rw [HK.out]; rfl, below_drewN (below_drewN (Below.refl _ _) _) _⟩
    · have hkn : n = k := by omega
      subst hkn
      have HK : Hid (tB (xs = ys) = true) := tB_true (eq_of_get HNM.out (fun i x y hx hy => hall.out i x y (by have := (List.getElem?_eq_some_iff.1 hx).1; have := HNN.out; omega) hx hy))
      go_wp2
      go_ret
      exact ⟨by rw [HK.out]; rfl, below_drewN (Below.refl _ _) q⟩

set_option maxRecDepth 20000 in
set_option maxHeartbeats 4000000 in
theorem iAgreeV (v u : Value) (A B : DTab) (w : World) (h : VTab w v A) (k : VTab w u B) (hn : A.mems.length ≤ 1048576) (hm : B.mems.length ≤ 1048576) :
    Calls Try.prog 19 #[v, u] w fun e w' => e = .returned (.bool (tB (AgreeP A B))) ∧ Below w.heap.size w w' := by
  have hE : ∀ w : World, ∀ o, Ext w (w.alloc o) := fun w o => World.grownBy_alloc _ _ _
  have HA : Hid (VTab w v A) := h
  have HB : Hid (VTab w u B) := k
  have HN : Hid (A.mems.length ≤ 1048576 ∧ B.mems.length ≤ 1048576) := ⟨hn, hm⟩
  obtain ⟨tv, rfl, h⟩ := h
  obtain ⟨a, cap, rfl⟩ := h.shape
  obtain ⟨uv, rfl, k⟩ := k
  obtain ⟨a', cap', rfl⟩ := k.shape
  obtain ⟨n, hnn⟩ : ∃ n, n = A.mems.length := ⟨_, rfl⟩
  obtain ⟨m, hmm⟩ : ∃ m, m = B.mems.length := ⟨_, rfl⟩
  have HNN : Hid (n = A.mems.length) := hnn
  have HMM : Hid (m = B.mems.length) := hmm
  rw [← hnn] at HA h hn
  rw [← hmm] at HB k hm
  have HVA : Hid (VMem w (.slice a n cap) A.mems) := h
  have HVB : Hid (VMem w (.slice a' m cap') B.mems) := k
  rw [← hnn, ← hmm]
  have hml : (n : Int) ≤ 1048576 := by omega
  have hml' : (m : Int) ≤ 1048576 := by omega
  clear h k hnn hmm hn hm
  go_enter Try.func19, Try.ntmps19
  go_wp2_with fail
  have PA := al2_0 w (.cells #[.int .i64 A.self, .slice a n cap] 32 (0, 0)) (.cells #[.int .i64 B.self, .slice a' m cap'] 32 (0, 0))
  have PB := al2_1 w (.cells #[.int .i64 A.self, .slice a n cap] 32 (0, 0)) (.cells #[.int .i64 B.self, .slice a' m cap'] 32 (0, 0))
  have BW : Below w.heap.size w ((w.alloc (.cells #[.int .i64 A.self, .slice a n cap] 32 (0, 0))).alloc (.cells #[.int .i64 B.self, .slice a' m cap'] 32 (0, 0))) := ((Below.refl _ w).alloc (Nat.le_refl _) _).alloc (by simp) _
  generalize (w.alloc (.cells #[.int .i64 A.self, .slice a n cap] 32 (0, 0))).alloc (.cells #[.int .i64 B.self, .slice a' m cap'] 32 (0, 0)) = W at PA PB BW ⊢
  refine (iTableOkV _ A W (HA.out.ext (ext_below BW)) HN.out.1).mono ?_
  rintro e w1 ⟨rfl, b1⟩
  have B1 := BW.trans (b1.mono BW.size)
  have PA1 := below_blk b1 (Array.getElem?_eq_some_iff.1 PA).1 PA
  have PB1 := below_blk b1 (Array.getElem?_eq_some_iff.1 PB).1 PB
  clear PA PB BW b1
  obtain ⟨q0, q1⟩ := cells2 PA1
  obtain ⟨r0, r1⟩ := cells2 PB1
  cases t0 : tB (TabP A)
  · have HK : Hid (tB (AgreeP A B) = false) := tB_false (fun h => by rw [tB_true h.1] at t0; cases t0)
    clear t0
    go_wp2
    go_ret
    exact ⟨by rw [HK.out]; rfl, B1⟩
  have HTA : Hid (TabP A) := tB_iff.1 t0
  clear t0
  go_wp2_with fail
  refine (iTableOkV _ B w1 (HB.out.ext (ext_below B1)) HN.out.2).mono ?_
  rintro e w2 ⟨rfl, b2⟩
  have B2 := B1.trans (b2.mono B1.size)
  have PA2 := below_blk b2 (Array.getElem?_eq_some_iff.1 PA1).1 PA1
  have PB2 := below_blk b2 (Array.getElem?_eq_some_iff.1 PB1).1 PB1
  clear PA1 PB1 b2 q0 q1 r0 r1 B1
  obtain ⟨q0, q1⟩ := cells2 PA2
  obtain ⟨r0, r1⟩ := cells2 PB2
  cases t0 : tB (TabP B)
  · have HK : Hid (tB (AgreeP A B) = false) := tB_false (fun h => by rw [tB_true h.2.1] at t0; cases t0)
    clear t0
    go_wp2
    go_ret
    exact ⟨by rw [HK.out]; rfl, B2⟩
  have HTB : Hid (TabP B) := tB_iff.1 t0
  clear t0
  go_wp2_with fail
  refine (equalMV _ _ A.mems B.mems w2 (HVA.out.ext (ext_below B2)) (HVB.out.ext (ext_below B2)) HN.out.1 HN.out.2).mono ?_
  rintro e w3 ⟨rfl, b3⟩
  have HK : Hid (tB (AgreeP A B) = tB (A.mems = B.mems)) := by
    show _ = _
    by_cases h : A.mems = B.mems
    · rw [tB_true h, tB_true ⟨HTA.out, HTB.out, h⟩]
    · rw [tB_false h, tB_false (fun h' => h h'.2.2)]
  generalize tB (A.mems = B.mems) = bb at HK
  go_wp2
  go_ret
  exact ⟨by rw [HK.out]; rfl, B2.trans (b3.mono B2.size)⟩

end Go.Proofs.Ytpgbpfaaidcnpaa
