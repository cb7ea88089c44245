/- The size of a tree, counted down. -/
import Derived.Test.YtdeogmkcomdbjaaTe0
import Derived.Test.YtdeogmkcomdbjaaSz0
namespace Go.Proofs.Ytdeogmkcomdbjaa
open Go.RowKit

abbrev SzTSays {d : Nat} (t : DTree d) : Prop := ∀ (v : Value) (l : Int) (w : World), VTree w t v → 0 ≤ l → l ≤ 1048576 → Calls Try.prog 7 #[v, .int .i64 l] w (SzPost l (szT t) w)

set_option maxHeartbeats 1000000 in
theorem szTS {d : Nat} (n : Nat) (kid : Nat → DTree d) (ih : ∀ i, SzTSays (kid i)) (v : Value) (l : Int) (w : World) (h : VKids w n kid v) (hl0 : 0 ≤ l) (hl : l ≤ 1048576) :
    Calls Try.prog 27 #[v, .int .i64 l] w (SzPost l (n + sumN n (fun i => szT (kid i))) w) := by
  obtain ⟨C, ⟨a, cap, rfl, h1, h2, h3⟩, hC⟩ := h
  have HC : Hid (∀ i, i < n → VTree w (kid i) (.agg #[C i 0, C i 1, C i 2, C i 3])) := hC
  clear hC
  unfold maxLen at h2
  have HI : Hid (∀ i, SzTSays (kid i)) := ih
  clear ih
  obtain ⟨f, hff⟩ : ∃ f, f = fun i => szT (kid i) := ⟨_, rfl⟩
  obtain ⟨q, hqq⟩ : ∃ q, q = sumN n f := ⟨_, rfl⟩
  rw [← hff, ← hqq]
  have HF : Hid (f = fun i => szT (kid i)) := hff
  have HQ : Hid (q = sumN n f) := hqq
  clear hff hqq
  have H3 : Hid (0 < n → ∃ b o, a = some ⟨b, o, none⟩ ∧ b < w.heap.size ∧ ∀ i, i < n → ∀ j, j < 4 → w.cell? ⟨b, o + i * 4 + j, none⟩ = some (C i j)) := h3
  clear h3
  by_cases hn : l - n < 0
  · go_enter Try.func27, Try.ntmps27
    go_wp2_with fail
    go_ret
    exact ⟨-1, rfl, .inl ⟨by omega, rfl⟩, Below.refl _ _⟩
  go_enter Try.func27, Try.ntmps27
  go_wp2_with fail
  go_loopw [1, 5] (fun lv i wr => ∃ k : Nat, k ≤ n ∧ i = .int .i64 k ∧ ∃ L : Int, lv = .int .i64 L ∧ 0 ≤ L ∧ L ≤ 1048576 ∧ Hid (L = l - n - sumN k f) ∧ Below w.heap.size w wr) (fun _ i _ => n - (intOf i).toNat)
  case atStart => exact ⟨0, Nat.zero_le _, rfl, l - n, rfl, by omega, by omega, by show _ = _; simp [sumN], Below.refl _ _⟩
  case round =>
    obtain ⟨k, hk, rfl, L, rfl, hL0, hL1, hL, hb⟩ := hrel
    by_cases hlt : k < n
    · obtain ⟨b, o, rfl, hbl, hc⟩ := H3.out (by omega)
      have HZ : Hid (sumN (k + 1) f = sumN k f + szT (kid k) ∧ sumN (k + 1) f ≤ q) := ⟨by rw [HF.out]; rfl, by rw [HQ.out]; exact sumN_le f (by omega)⟩
      have hT := VTree.ext (ext_below hb) _ _ (HC.out k hlt)
      have c0 := World.grownBy.cell (ext_below hb) (hc k hlt 0 (by omega)) (by simp)
      have c1 := World.grownBy.cell (ext_below hb) (hc k hlt 1 (by omega)) (by simp)
      have c2 := World.grownBy.cell (ext_below hb) (hc k hlt 2 (by omega)) (by simp)
      have c3 := World.grownBy.cell (ext_below hb) (hc k hlt 3 (by omega)) (by simp)
      rw [Nat.add_zero] at c0
      obtain ⟨e', h', x', n', d', kid', ht, e1, e2, r0, rk⟩ := hT.cells
      obtain ⟨a0, p0, x0, _, _, _⟩ := r0
      obtain ⟨a3, p3, x3, _, _⟩ := rk.slice
      rw [x0, e1, e2, x3] at hT
      rw [x0] at c0
      rw [e1] at c1
      rw [e2] at c2
      rw [x3] at c3
      have hlt' : (k : Int) < (n : Int) := by omega
      clear hc ht rk e1 e2 x0 x3
      go_wp2_with fail
      refine (HI.out k _ L wr hT hL0 hL1).mono ?_
      rintro e w2 ⟨r, rfl, hr, b2⟩
      have hb2 := hb.trans (b2.mono hb.size)
      rcases hr with ⟨g1, rfl⟩ | ⟨g1, g2⟩
      · have HG := HZ.out
        have HL := hL.out
        have HE : Hid (l - (n + q : Nat) < 0) := by show _ < _; omega
        clear HG HL g1
        go_wp2_with fail
        go_ret
        exact ⟨-1, rfl, .inl ⟨HE.out, rfl⟩, hb2⟩
      · have HR : Hid (r = l - n - sumN (k + 1) f) := by
          have := HZ.out
          have := hL.out
          show r = _
          omega
        have hr0 : 0 ≤ r := by omega
        have hr1 : r ≤ 1048576 := by omega
        clear g1 g2
        go_wp2_with fail
        go_roundw
        case rel => exact ⟨k + 1, by omega, by go_num, r, rfl, hr0, hr1, HR, hb2⟩
        case measure => simp [intOf]; omega
    · have hkn : k = n := by omega
      subst hkn
      have HR : Hid (L = l - (k + q : Nat)) := by
        have := hL.out
        have := HQ.out
        show L = _
        omega
      go_wp2_with fail
      go_ret
      exact ⟨L, rfl, .inr ⟨by have := HR.out; omega, HR.out⟩, hb⟩

set_option maxHeartbeats 1000000 in
theorem szTree_step {d : Nat} (e : List Int) (h : Bool) (x : Int) (n : Nat) (kid : Nat → DTree d) (ih : ∀ i, SzTSays (kid i)) : SzTSays (DTree.node e h x n kid) := by
    intro v l w ht hl0 hl
    obtain ⟨ev, kv, rfl, re, rk⟩ := ht.open_
    have hE : ∀ w : World, ∀ o, Ext w (w.alloc o) := fun w o => World.grownBy_alloc _ _ _
    have hB : ∀ w : World, ∀ o, Below w.heap.size w (w.alloc o) := fun w o => (Below.refl _ w).alloc (Nat.le_refl _) _
    have HI : Hid (∀ i, SzTSays (kid i)) := ih
    clear ih
    obtain ⟨q, hqq⟩ : ∃ q, q = n + sumN n (fun i => szT (kid i)) := ⟨_, rfl⟩
    have hS : szT (DTree.node e h x n kid) = e.length + q := by rw [hqq]; rfl
    rw [hS]
    have HQ : Hid (q = n + sumN n (fun i => szT (kid i))) := hqq
    clear hqq hS
    go_enter Try.func7, Try.ntmps7
    go_wp2_with fail
    refine (szB ev e l _ (re.ext (hE _ _)) hl0 hl).mono ?_
    rintro e w1 ⟨rfl, rfl⟩
    by_cases h1 : l - e.length < 0
    · rw [if_pos (by omega)]
      go_wp2_with fail
      go_ret
      exact ⟨-1, rfl, .inl ⟨by omega, rfl⟩, hB _ _⟩
    · rw [if_neg (by omega)]
      go_wp2_with fail
      refine (szTS n kid HI.out kv (l - e.length) _ (rk.ext (hE _ _)) (by omega) (by omega)).mono ?_
      rw [← HQ.out]
      rintro e w2 ⟨r, rfl, hr, b2⟩
      have hb2 := (hB w (.cells #[ev, .bool h, .int .i64 x, kv] 25)).trans (b2.mono (by simp))
      rcases hr with ⟨g1, rfl⟩ | ⟨g1, g2⟩
      · go_wp2_with fail
        go_ret
        exact ⟨-1, rfl, .inl ⟨by omega, rfl⟩, hb2⟩
      · have hr0 : 0 ≤ r := by omega
        have HR : Hid (0 ≤ l - (e.length + q : Nat) ∧ r = l - (e.length + q : Nat)) := ⟨by omega, by omega⟩
        clear g1 g2
        go_wp2_with fail
        go_ret
        exact ⟨r, rfl, .inr HR.out, hb2⟩

theorem szTree_anyD : ∀ (d : Nat) (t : DTree d), SzTSays t
  | 0, _ => fun _ _ _ ht => False.elim ht
  | d + 1, (e, h, x, n, kid) => szTree_step e h x n kid (fun i => szTree_anyD d (kid i))
theorem szTree_any {d : Nat} (t : DTree d) : SzTSays t := szTree_anyD d t

end Go.Proofs.Ytdeogmkcomdbjaa
