
/- The exact statements' helpers that count sizes of states. -/
import Derived.Test.YtnklnhnjmikooaaGreatTo0
import Derived.Test.YtnklnhnjmikooaaGreatSz0
import Derived.Test.YtnklnhnjmikooaaGreatSum0
namespace Go.Proofs.YtnklnhnjmikooaaGreat
open Go.RowKit

def zR (s : DRow) : Nat := s.key.length + s.val.length
def zT (s : DTomb) : Nat := s.key.length
def sR (rs : List DRow) : Nat := (rs.map zR).sum
def sT (rs : List DTomb) : Nat := (rs.map zT).sum

set_option maxHeartbeats 1000000 in
theorem szEl_R (kv vv : Value) (s : DRow) (l : Int) (w : World) (rk : RV w kv s.key) (rv : RV w vv s.val) (hl0 : 0 ≤ l) (hl : l ≤ 1048576) :
    Calls Tryz.prog 60 #[.agg #[kv, vv, .int .i64 s.turned, .int .i64 s.holder], .int .i64 l] w (SzPost l (s.key.length + s.val.length) w) := by
  have hE : ∀ w : World, ∀ o, Ext w (w.alloc o) := fun w o => World.grownBy_alloc _ _ _
  have hB : ∀ w : World, ∀ o, Below w.heap.size w (w.alloc o) := fun w o => (Below.refl _ w).alloc (Nat.le_refl _) _
  go_enter Tryz.func60, Tryz.ntmps60
  go_wp2_with fail
  refine (szB kv s.key l _ (rk.ext (hE _ _)) hl0 hl).mono ?_
  rintro e w1 ⟨rfl, rfl⟩
  by_cases h1 : l - s.key.length < 0
  · rw [if_pos (by omega)]
    go_wp2
    go_ret
    exact ⟨-1, rfl, .inl ⟨by omega, rfl⟩, hB _ _⟩
  · rw [if_neg (by omega)]
    go_wp2_with fail
    refine (szB vv s.val (l - s.key.length) _ (rv.ext (hE _ _)) (by omega) (by omega)).mono ?_
    rintro e w2 ⟨rfl, rfl⟩
    by_cases h2 : l - s.key.length - s.val.length < 0
    · rw [if_pos (by omega)]
      go_wp2
      go_ret
      exact ⟨-1, rfl, .inl ⟨by omega, rfl⟩, hB _ _⟩
    · rw [if_neg (by omega)]
      go_wp2
      go_ret
      exact ⟨l - s.key.length - s.val.length, rfl, .inr ⟨by omega, by omega⟩, hB _ _⟩

set_option maxHeartbeats 1000000 in
theorem szEl_T (kv : Value) (s : DTomb) (l : Int) (w : World) (rk : RV w kv s.key) (hl0 : 0 ≤ l) (hl : l ≤ 1048576) :
    Calls Tryz.prog 61 #[.agg #[kv, .int .i64 s.index], .int .i64 l] w (SzPost l s.key.length w) := by
  have hE : ∀ w : World, ∀ o, Ext w (w.alloc o) := fun w o => World.grownBy_alloc _ _ _
  have hB : ∀ w : World, ∀ o, Below w.heap.size w (w.alloc o) := fun w o => (Below.refl _ w).alloc (Nat.le_refl _) _
  go_enter Tryz.func61, Tryz.ntmps61
  go_wp2_with fail
  refine (szB kv s.key l _ (rk.ext (hE _ _)) hl0 hl).mono ?_
  rintro e w1 ⟨rfl, rfl⟩
  by_cases h1 : l - s.key.length < 0
  · rw [if_pos (by omega)]
    go_wp2
    go_ret
    exact ⟨-1, rfl, .inl ⟨by omega, rfl⟩, hB _ _⟩
  · rw [if_neg (by omega)]
    go_wp2
    go_ret
    exact ⟨l - s.key.length, rfl, .inr ⟨by omega, rfl⟩, hB _ _⟩

set_option maxHeartbeats 1000000 in
theorem szS_S (v : Value) (ss : List DSess) (l : Int) (w : World) (h : VSess w v ss) (hl0 : 0 ≤ l) (hl : l ≤ 1048576) :
    Calls Tryz.prog 24 #[v, .int .i64 l] w (SzPost l ss.length w) := by
  obtain ⟨C, ⟨a, cap, rfl, h1, h2, _⟩, _⟩ := h
  unfold maxLen at h2
  generalize ss.length = n at *
  by_cases hn : l - n < 0
  · go_enter Tryz.func24, Tryz.ntmps24
    go_wp2
    go_ret
    exact ⟨-1, rfl, .inl ⟨hn, rfl⟩, Below.refl _ _⟩
  · go_enter Tryz.func24, Tryz.ntmps24
    go_wp2
    go_ret
    exact ⟨l - n, rfl, .inr ⟨by omega, rfl⟩, Below.refl _ _⟩

set_option maxHeartbeats 1000000 in
theorem szS_L (v : Value) (ss : List DLast) (l : Int) (w : World) (h : VLasts w v ss) (hl0 : 0 ≤ l) (hl : l ≤ 1048576) :
    Calls Tryz.prog 25 #[v, .int .i64 l] w (SzPost l ss.length w) := by
  obtain ⟨C, ⟨a, cap, rfl, h1, h2, _⟩, _⟩ := h
  unfold maxLen at h2
  generalize ss.length = n at *
  by_cases hn : l - n < 0
  · go_enter Tryz.func25, Tryz.ntmps25
    go_wp2
    go_ret
    exact ⟨-1, rfl, .inl ⟨hn, rfl⟩, Below.refl _ _⟩
  · go_enter Tryz.func25, Tryz.ntmps25
    go_wp2
    go_ret
    exact ⟨l - n, rfl, .inr ⟨by omega, rfl⟩, Below.refl _ _⟩

set_option maxHeartbeats 2000000 in
theorem szS_R (v : Value) (ss : List DRow) (l : Int) (w : World) (h : VRows w v ss) (hl0 : 0 ≤ l) (hl : l ≤ 1048576) :
    Calls Tryz.prog 22 #[v, .int .i64 l] w (SzPost l (ss.length + sR ss) w) := by
  obtain ⟨C, ⟨a, cap, rfl, h1, h2, h3⟩, hC⟩ := h
  have HC : Hid (∀ i r, ss[i]? = some r → RV w (C i 0) r.key ∧ RV w (C i 1) r.val ∧ C i 2 = .int .i64 r.turned ∧ C i 3 = .int .i64 r.holder) := hC
  clear hC
  unfold maxLen at h2
  obtain ⟨n, hnn⟩ : ∃ n, n = ss.length := ⟨_, rfl⟩
  obtain ⟨q, hqq⟩ : ∃ q, q = sR ss := ⟨_, rfl⟩
  rw [← hnn] at h1 h3 ⊢
  rw [← hqq]
  have HN : Hid (n = ss.length) := hnn
  have HQ : Hid (q = sR ss) := hqq
  clear hnn hqq
  have H3 : Hid (0 < n → ∃ b o, a = some ⟨b, o, none⟩ ∧ b < w.heap.size ∧ ∀ i, i < n → ∀ j, j < 4 → w.cell? ⟨b, o + i * 4 + j, none⟩ = some (C i j)) := h3
  clear h3
  by_cases hn : l - n < 0
  · go_enter Tryz.func22, Tryz.ntmps22
    go_wp2
    go_ret
    exact ⟨-1, rfl, .inl ⟨by omega, rfl⟩, Below.refl _ _⟩
  go_enter Tryz.func22, Tryz.ntmps22
  go_wp2
  go_loopw [1, 5] (fun lv i wr => ∃ k : Nat, k ≤ n ∧ i = .int .i64 k ∧ ∃ L : Int, lv = .int .i64 L ∧ 0 ≤ L ∧ L ≤ 1048576 ∧ Hid (L = l - n - sR (ss.take k)) ∧ Below w.heap.size w wr) (fun _ i _ => n - (intOf i).toNat)
  case atStart => exact ⟨0, Nat.zero_le _, rfl, l - n, rfl, by omega, by omega, by show _ = _; simp [sR], Below.refl _ _⟩
  case round =>
    obtain ⟨k, hk, rfl, L, rfl, hL0, hL1, hL, hb⟩ := hrel
    by_cases hlt : k < n
    · obtain ⟨b, o, rfl, hbl, hc⟩ := H3.out (by omega)
      obtain ⟨s, hs⟩ : ∃ s, ss[k]? = some s := ⟨_, List.getElem?_eq_getElem (by have := HN.out; omega)⟩
      obtain ⟨e0, e1, e2, e3⟩ := HC.out k s hs
      have HZ : Hid (sR (ss.take (k + 1)) = sR (ss.take k) + zR s ∧ sR (ss.take (k + 1)) ≤ q) := ⟨sum_next zR ss k s hs, by rw [HQ.out]; exact sum_take zR ss (k + 1)⟩
      have c0 := World.grownBy.cell (ext_below hb) (hc k hlt 0 (by omega)) (by simp)
      have c1 := World.grownBy.cell (ext_below hb) (hc k hlt 1 (by omega)) (by simp)
      have c2 := World.grownBy.cell (ext_below hb) (hc k hlt 2 (by omega)) (by simp)
      have c3 := World.grownBy.cell (ext_below hb) (hc k hlt 3 (by omega)) (by simp)
      have r0 := e0.ext (ext_below hb)
      obtain ⟨a0, p0, x0, _, _, _⟩ := e0
      rw [x0] at r0 c0
      rw [Nat.add_zero] at c0
      have r1 := e1.ext (ext_below hb)
      obtain ⟨a1, p1, x1, _, _, _⟩ := e1
      rw [x1] at r1 c1
      rw [e2] at c2
      rw [e3] at c3
      have hlt' : (k : Int) < (n : Int) := by omega
      clear hc
      go_wp2_with fail
      refine (szEl_R _ _ s L wr r0 r1 hL0 hL1).mono ?_
      rintro e w2 ⟨r, rfl, hr, b2⟩
      have hb2 := hb.trans (b2.mono hb.size)
      have HZS : Hid (zR s = s.key.length + s.val.length) := rfl
      rcases hr with ⟨g1, rfl⟩ | ⟨g1, g2⟩
      · go_wp2
        go_ret
        refine ⟨-1, rfl, .inl ⟨?_, rfl⟩, hb2⟩
        have := HZ.out
        have := HZS.out
        have := hL.out
        omega
      · have hr0 : 0 ≤ r := by omega
        have hr1 : r ≤ 1048576 := by omega
        have HR : Hid (r = l - n - sR (ss.take (k + 1))) := by
          have := HZ.out
          have := HZS.out
          have := hL.out
          show r = _
          omega
        clear g1 g2
        go_wp2
        go_roundw
        case rel => exact ⟨k + 1, by omega, by go_num, r, rfl, hr0, hr1, HR, hb2⟩
        case measure => simp [intOf]; omega
    · have hkn : k = n := by omega
      subst hkn
      have HR : Hid (L = l - (k + q : Nat)) := by
        have := hL.out
        rw [List.take_of_length_le (by have := HN.out; omega)] at this
        have := HQ.out
        show L = _
        omega
      go_wp2
      go_ret
      exact ⟨L, rfl, .inr ⟨by have := HR.out; omega, HR.out⟩, hb⟩

set_option maxHeartbeats 2000000 in
theorem szS_T (v : Value) (ss : List DTomb) (l : Int) (w : World) (h : VTombs w v ss) (hl0 : 0 ≤ l) (hl : l ≤ 1048576) :
    Calls Tryz.prog 23 #[v, .int .i64 l] w (SzPost l (ss.length + sT ss) w) := by
  obtain ⟨C, ⟨a, cap, rfl, h1, h2, h3⟩, hC⟩ := h
  have HC : Hid (∀ i r, ss[i]? = some r → RV w (C i 0) r.key ∧ C i 1 = .int .i64 r.index) := hC
  clear hC
  unfold maxLen at h2
  obtain ⟨n, hnn⟩ : ∃ n, n = ss.length := ⟨_, rfl⟩
  obtain ⟨q, hqq⟩ : ∃ q, q = sT ss := ⟨_, rfl⟩
  rw [← hnn] at h1 h3 ⊢
  rw [← hqq]
  have HN : Hid (n = ss.length) := hnn
  have HQ : Hid (q = sT ss) := hqq
  clear hnn hqq
  have H3 : Hid (0 < n → ∃ b o, a = some ⟨b, o, none⟩ ∧ b < w.heap.size ∧ ∀ i, i < n → ∀ j, j < 2 → w.cell? ⟨b, o + i * 2 + j, none⟩ = some (C i j)) := h3
  clear h3
  by_cases hn : l - n < 0
  · go_enter Tryz.func23, Tryz.ntmps23
    go_wp2
    go_ret
    exact ⟨-1, rfl, .inl ⟨by omega, rfl⟩, Below.refl _ _⟩
  go_enter Tryz.func23, Tryz.ntmps23
  go_wp2
  go_loopw [1, 5] (fun lv i wr => ∃ k : Nat, k ≤ n ∧ i = .int .i64 k ∧ ∃ L : Int, lv = .int .i64 L ∧ 0 ≤ L ∧ L ≤ 1048576 ∧ Hid (L = l - n - sT (ss.take k)) ∧ Below w.heap.size w wr) (fun _ i _ => n - (intOf i).toNat)
  case atStart => exact ⟨0, Nat.zero_le _, rfl, l - n, rfl, by omega, by omega, by show _ = _; simp [sT], Below.refl _ _⟩
  case round =>
    obtain ⟨k, hk, rfl, L, rfl, hL0, hL1, hL, hb⟩ := hrel
    by_cases hlt : k < n
    · obtain ⟨b, o, rfl, hbl, hc⟩ := H3.out (by omega)
      obtain ⟨s, hs⟩ : ∃ s, ss[k]? = some s := ⟨_, List.getElem?_eq_getElem (by have := HN.out; omega)⟩
      obtain ⟨e0, e1⟩ := HC.out k s hs
      have HZ : Hid (sT (ss.take (k + 1)) = sT (ss.take k) + zT s ∧ sT (ss.take (k + 1)) ≤ q) := ⟨sum_next zT ss k s hs, by rw [HQ.out]; exact sum_take zT ss (k + 1)⟩
      have c0 := World.grownBy.cell (ext_below hb) (hc k hlt 0 (by omega)) (by simp)
      have c1 := World.grownBy.cell (ext_below hb) (hc k hlt 1 (by omega)) (by simp)
      have r0 := e0.ext (ext_below hb)
      obtain ⟨a0, p0, x0, _, _, _⟩ := e0
      rw [x0] at r0 c0
      rw [Nat.add_zero] at c0
      rw [e1] at c1
      have hlt' : (k : Int) < (n : Int) := by omega
      clear hc
      go_wp2_with fail
      refine (szEl_T _ s L wr r0 hL0 hL1).mono ?_
      rintro e w2 ⟨r, rfl, hr, b2⟩
      have hb2 := hb.trans (b2.mono hb.size)
      have HZS : Hid (zT s = s.key.length) := rfl
      rcases hr with ⟨g1, rfl⟩ | ⟨g1, g2⟩
      · go_wp2
        go_ret
        refine ⟨-1, rfl, .inl ⟨?_, rfl⟩, hb2⟩
        have := HZ.out
        have := HZS.out
        have := hL.out
        omega
      · have hr0 : 0 ≤ r := by omega
        have hr1 : r ≤ 1048576 := by omega
        have HR : Hid (r = l - n - sT (ss.take (k + 1))) := by
          have := HZ.out
          have := HZS.out
          have := hL.out
          show r = _
          omega
        clear g1 g2
        go_wp2
        go_roundw
        case rel => exact ⟨k + 1, by omega, by go_num, r, rfl, hr0, hr1, HR, hb2⟩
        case measure => simp [intOf]; omega
    · have hkn : k = n := by omega
      subst hkn
      have HR : Hid (L = l - (k + q : Nat)) := by
        have := hL.out
        rw [List.take_of_length_le (by have := HN.out; omega)] at this
        have := HQ.out
        show L = _
        omega
      go_wp2
      go_ret
      exact ⟨L, rfl, .inr ⟨by have := HR.out; omega, HR.out⟩, hb⟩

/-- The size of a state. -/
def zS (S : DState) : Nat := (S.rows.length + sR S.rows) + (S.tombs.length + sT S.tombs) + S.sess.length + S.lasts.length

set_option maxHeartbeats 2000000 in
theorem szSt (v : Value) (S : DState) (l : Int) (w : World) (h : VState w v S) (hl0 : 0 ≤ l) (hl : l ≤ 1048576) :
    Calls Tryz.prog 6 #[v, .int .i64 l] w (SzPost l (zS S) w) := by
  have hE : ∀ w : World, ∀ o, Ext w (w.alloc o) := fun w o => World.grownBy_alloc _ _ _
  have hB : ∀ w : World, ∀ o, Below w.heap.size w (w.alloc o) := fun w o => (Below.refl _ w).alloc (Nat.le_refl _) _
  obtain ⟨rv, tv, sv, lv, rfl, hr, ht, hs, hll⟩ := h
  have HZ : Hid (zS S = (S.rows.length + sR S.rows) + (S.tombs.length + sT S.tombs) + S.sess.length + S.lasts.length) := rfl
  generalize zS S = Z at HZ ⊢
  go_enter Tryz.func6, Tryz.ntmps6
  go_wp2_with fail
  have P0 := heap_alloc_new w (.cells #[.int .i64 S.index, rv, tv, .int .i64 S.lost, sv, lv] 32 (0, 0))
  have B0 := hB w (.cells #[.int .i64 S.index, rv, tv, .int .i64 S.lost, sv, lv] 32 (0, 0))
  have z0 : w.heap.size < (w.alloc (.cells #[.int .i64 S.index, rv, tv, .int .i64 S.lost, sv, lv] 32 (0, 0))).heap.size := by simp
  generalize w.alloc (.cells #[.int .i64 S.index, rv, tv, .int .i64 S.lost, sv, lv] 32 (0, 0)) = W0 at P0 B0 z0 ⊢
  refine (szS_R rv S.rows l W0 (hr.ext (ext_below B0)) (by omega) (by omega)).mono ?_
  rintro e W1 ⟨l1, rfl, hr1, b1⟩
  have B1 := B0.trans (b1.mono B0.size)
  have P1 := below_blk b1 z0 P0
  have z1 := Nat.lt_of_lt_of_le z0 b1.size
  obtain ⟨m0, hm0⟩ : ∃ m, m = ((((S.rows.length + sR S.rows)) : Nat) : Int) := ⟨_, rfl⟩
  rw [← hm0] at hr1
  have HM0 : Hid (m0 = ((((S.rows.length + sR S.rows)) : Nat) : Int) ∧ 0 ≤ m0) := ⟨hm0, by omega⟩
  clear hm0
  rcases hr1 with ⟨g1, rfl⟩ | ⟨g1, g2⟩
  · go_wp2
    go_ret
    refine ⟨-1, rfl, .inl ⟨?_, rfl⟩, B1⟩
    have := HZ.out
    have := HM0.out
    omega
  have y1 : 0 ≤ l1 ∧ l1 ≤ 1048576 := by
    have := HM0.out.2
    omega
  obtain ⟨v1, x1⟩ := y1
  have E1 : Hid (l1 = l - m0) := g2
  clear g1 g2 B0 P0 b1 z0
  obtain ⟨q0, _⟩ := at_block P1 2 _ rfl
  go_wp2_with fail
  clear q0
  refine (szS_T tv S.tombs l1 W1 (ht.ext (ext_below B1)) (by omega) (by omega)).mono ?_
  rintro e W2 ⟨l2, rfl, hr2, b2⟩
  have B2 := B1.trans (b2.mono B1.size)
  have P2 := below_blk b2 z1 P1
  have z2 := Nat.lt_of_lt_of_le z1 b2.size
  obtain ⟨m1, hm1⟩ : ∃ m, m = ((((S.tombs.length + sT S.tombs)) : Nat) : Int) := ⟨_, rfl⟩
  rw [← hm1] at hr2
  have HM1 : Hid (m1 = ((((S.tombs.length + sT S.tombs)) : Nat) : Int) ∧ 0 ≤ m1) := ⟨hm1, by omega⟩
  clear hm1
  rcases hr2 with ⟨g1, rfl⟩ | ⟨g1, g2⟩
  · go_wp2
    go_ret
    refine ⟨-1, rfl, .inl ⟨?_, rfl⟩, B2⟩
    have := HZ.out
    have := HM0.out
    have := HM1.out
    have := E1.out
    omega
  have y2 : 0 ≤ l2 ∧ l2 ≤ 1048576 := by
    have := HM0.out.2
    have := HM1.out.2
    omega
  obtain ⟨v2, x2⟩ := y2
  have E2 : Hid (l2 = l1 - m1) := g2
  clear g1 g2 B1 P1 b2 z1
  obtain ⟨q0, _⟩ := at_block P2 4 _ rfl
  go_wp2_with fail
  clear q0
  refine (szS_S sv S.sess l2 W2 (hs.ext (ext_below B2)) (by omega) (by omega)).mono ?_
  rintro e W3 ⟨l3, rfl, hr3, b3⟩
  have B3 := B2.trans (b3.mono B2.size)
  have P3 := below_blk b3 z2 P2
  have z3 := Nat.lt_of_lt_of_le z2 b3.size
  obtain ⟨m2, hm2⟩ : ∃ m, m = (((S.sess.length) : Nat) : Int) := ⟨_, rfl⟩
  rw [← hm2] at hr3
  have HM2 : Hid (m2 = (((S.sess.length) : Nat) : Int) ∧ 0 ≤ m2) := ⟨hm2, by omega⟩
  clear hm2
  rcases hr3 with ⟨g1, rfl⟩ | ⟨g1, g2⟩
  · go_wp2
    go_ret
    refine ⟨-1, rfl, .inl ⟨?_, rfl⟩, B3⟩
    have := HZ.out
    have := HM0.out
    have := HM1.out
    have := HM2.out
    have := E1.out
    have := E2.out
    omega
  have y3 : 0 ≤ l3 ∧ l3 ≤ 1048576 := by
    have := HM0.out.2
    have := HM1.out.2
    have := HM2.out.2
    omega
  obtain ⟨v3, x3⟩ := y3
  have E3 : Hid (l3 = l2 - m2) := g2
  clear g1 g2 B2 P2 b3 z2
  obtain ⟨q0, _⟩ := at_block P3 5 _ rfl
  go_wp2_with fail
  clear q0
  refine (szS_L lv S.lasts l3 W3 (hll.ext (ext_below B3)) (by omega) (by omega)).mono ?_
  rintro e W4 ⟨l4, rfl, hr4, b4⟩
  have B4 := B3.trans (b4.mono B3.size)
  have P4 := below_blk b4 z3 P3
  have z4 := Nat.lt_of_lt_of_le z3 b4.size
  obtain ⟨m3, hm3⟩ : ∃ m, m = (((S.lasts.length) : Nat) : Int) := ⟨_, rfl⟩
  rw [← hm3] at hr4
  have HM3 : Hid (m3 = (((S.lasts.length) : Nat) : Int) ∧ 0 ≤ m3) := ⟨hm3, by omega⟩
  clear hm3
  rcases hr4 with ⟨g1, rfl⟩ | ⟨g1, g2⟩
  · go_wp2
    go_ret
    refine ⟨-1, rfl, .inl ⟨?_, rfl⟩, B4⟩
    have := HZ.out
    have := HM0.out
    have := HM1.out
    have := HM2.out
    have := HM3.out
    have := E1.out
    have := E2.out
    have := E3.out
    omega
  have y4 : 0 ≤ l4 ∧ l4 ≤ 1048576 := by
    have := HM0.out.2
    have := HM1.out.2
    have := HM2.out.2
    have := HM3.out.2
    omega
  obtain ⟨v4, x4⟩ := y4
  have E4 : Hid (l4 = l3 - m3) := g2
  clear g1 g2 B3 P3 b4 z3
  obtain ⟨q0, _⟩ := at_block P4 0 _ rfl
  go_wp2
  go_ret
  have : l4 = l - Z := by
    have := HZ.out
    have := HM0.out
    have := HM1.out
    have := HM2.out
    have := HM3.out
    have := E1.out
    have := E2.out
    have := E3.out
    have := E4.out
    omega
  exact ⟨l4, rfl, .inr ⟨by omega, this⟩, B4⟩

end Go.Proofs.YtnklnhnjmikooaaGreat
