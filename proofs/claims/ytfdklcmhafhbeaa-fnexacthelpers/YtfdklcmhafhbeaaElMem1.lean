/- The exact statements' helpers on lists of Member: sized, copied, held against one another. -/
import Derived.Test.YtfdklcmhafhbeaaElMem0
import Derived.Test.YtfdklcmhafhbeaaRows
import Derived.Test.YtfdklcmhafhbeaaSz1
import Derived.Test.YtfdklcmhafhbeaaInf
import Derived.Test.YtfdklcmhafhbeaaQB
import Derived.Deep.RegionHeld3
namespace Go.Proofs.Ytfdklcmhafhbeaa
open Go.RowKit

theorem info_Mem : (Try.prog.info? 72).map (fun i => (i.zero, i.size, i.bytes)) = some (some (.agg #[.int .i64 0, .int .i64 0, .int .i64 0]), 3, 24) := by kernel_rfl

set_option maxHeartbeats 1000000 in
theorem toEl_Mem (s : DMem) (w : World) :
    Calls Try.prog 51 #[.agg #[.int .i64 s.id, .int .i64 s.st, .int .i64 s.life]] w fun e w' => e = .returned (.agg #[.int .i64 s.id, .int .i64 s.st, .int .i64 s.life]) ∧ Below w.heap.size w w' := by
  go_enter Try.func51, Try.ntmps51
  go_wp2
  refine bodyPost_ret (v := .agg #[.int .i64 s.id, .int .i64 s.st, .int .i64 s.life]) (by simp [results, Try.results51, go_sem]) rfl ?_
  exact ⟨rfl, (((Below.refl _ w).alloc (Nat.le_refl _) _).alloc (by simp) _).alloc (by simp; omega) _⟩

set_option maxHeartbeats 2000000 in
theorem toS_Mem (v : Value) (ss : List DMem) (w : World) (h : VMem w v ss) (hn : ss.length ≤ 1048576) :
    Calls Try.prog 31 #[v] w fun e w' => ∃ F, e = .returned (.slice (some ⟨w.heap.size, 0, none⟩) ss.length ss.length) ∧ Blk w' w.heap.size 72 3 ss.length ss.length F ∧ (∀ i s, ss[i]? = some s → F i 0 = .int .i64 s.id ∧ F i 1 = .int .i64 s.st ∧ F i 2 = .int .i64 s.life) ∧ Below w.heap.size w w' := by
  obtain ⟨C, ⟨a, cap, rfl, h1, h2, h3⟩, hC⟩ := h
  have HC : Hid (∀ i r, ss[i]? = some r → C i 0 = .int .i64 r.id ∧ C i 1 = .int .i64 r.st ∧ C i 2 = .int .i64 r.life) := hC
  clear hC
  obtain ⟨n, hnn⟩ : ∃ n, n = ss.length := ⟨_, rfl⟩
  rw [← hnn] at h1 h3 hn ⊢
  have HN : Hid (n = ss.length) := hnn
  clear hnn
  have H3 : Hid (0 < n → ∃ b o, a = some ⟨b, o, none⟩ ∧ b < w.heap.size ∧ ∀ i, i < n → ∀ j, j < 3 → w.cell? ⟨b, o + i * 3 + j, none⟩ = some (C i j)) := h3
  clear h3
  obtain ⟨i0, hi, hz0, hz1, hz2⟩ := info_parts info_Mem
  have hml : n ≤ maxLen := by unfold maxLen; omega
  have hml2 : (n : Int) ≤ 1048576 := by omega
  go_enter Try.func31, Try.ntmps31
  go_wp2_with (at_make; refine wpList_make_full _ rfl _ _ 34 rfl w.heap.size 72 i0 (.agg #[.int .i64 0, .int .i64 0, .int .i64 0]) 3 Try.underlying34 hi hz0 hz1 _ _ _ _ n rfl rfl rfl rfl ?b1 ?b2 ?b3 ?_)
  case b1 => rw [hz2]; omega
  case b2 => exact hml
  case b3 => exact Nat.le_refl _
  intro w1 hown hgr
  have hb1 : Below w.heap.size w w1 := (Below.refl _ _).grown hgr (Nat.le_refl _) (fun k hk => by cases hk)
  have hbk := blk_made (F := fun _ _ => .bool true) hown
  clear hown hgr
  go_wp2
  go_loopw [4] (fun i wr => ∃ k : Nat, k ≤ n ∧ i = .int .i64 k ∧ Below w.heap.size w wr ∧ ∃ F, Blk wr w.heap.size 72 3 n k F ∧ Hid (∀ i s, i < k → ss[i]? = some s → F i 0 = .int .i64 s.id ∧ F i 1 = .int .i64 s.st ∧ F i 2 = .int .i64 s.life)) (fun i _ => n - (intOf i).toNat)
  case atStart => exact ⟨0, Nat.zero_le _, rfl, hb1, _, hbk, fun i s hi => absurd hi (by omega)⟩
  case round =>
    obtain ⟨k, hk, rfl, hb, F, hF, hall⟩ := hrel
    clear hbk hb1
    by_cases hlt : k < n
    · obtain ⟨b, o, rfl, hbl, hc⟩ := H3.out (by omega)
      obtain ⟨s, hs⟩ : ∃ s, ss[k]? = some s := ⟨_, List.getElem?_eq_getElem (by have := HN.out; omega)⟩
      obtain ⟨e0, e1, e2⟩ := HC.out k s hs
      have c0 := World.grownBy.cell (ext_below hb) (hc k hlt 0 (by omega)) (by simp)
      rw [e0, Nat.add_zero] at c0
      have c1 := World.grownBy.cell (ext_below hb) (hc k hlt 1 (by omega)) (by simp)
      rw [e1] at c1
      have c2 := World.grownBy.cell (ext_below hb) (hc k hlt 2 (by omega)) (by simp)
      rw [e2] at c2
      have hlt' : (k : Int) < (n : Int) := by omega
      clear hc
      go_wp2_with fail
      refine (toEl_Mem s wr).mono ?_
      rintro e w2 ⟨rfl, b2⟩
      have hF2 := blk_kept hF (b2.block _ (blk_lt hF))
      have hgl := blk_lt hF
      have hb2 := hb.trans (b2.mono hb.size)
      obtain ⟨⟨u0, d0⟩, f0⟩ := blk_cell hF2 (k * 3) (by omega)
      obtain ⟨⟨u1, d1⟩, f1⟩ := blk_cell hF2 (k * 3 + 1) (by omega)
      obtain ⟨⟨u2, d2⟩, f2⟩ := blk_cell hF2 (k * 3 + 2) (by omega)
      have G := blk_next (blk_set (blk_set (blk_set hF2 (k * 3) (by omega) (.int .i64 s.id)) (k * 3 + 1) (by omega) (.int .i64 s.st)) (k * 3 + 2) (by omega) (.int .i64 s.life)) (fun j => if j = 0 then .int .i64 s.id else if j = 1 then .int .i64 s.st else .int .i64 s.life) (fun j hj => by
        have hj : j = 0 ∨ j = 1 ∨ j = 2 := by omega
        rcases hj with rfl | rfl | rfl <;> simp [*, go_sem])
      have HG : Hid (Blk (((w2.setCell ⟨w.heap.size, k * 3, none⟩ (.int .i64 s.id)).setCell ⟨w.heap.size, k * 3 + 1, none⟩ (.int .i64 s.st)).setCell ⟨w.heap.size, k * 3 + 2, none⟩ (.int .i64 s.life)) w.heap.size 72 3 n (k + 1) (fun i j => if i = k then (if j = 0 then .int .i64 s.id else if j = 1 then .int .i64 s.st else .int .i64 s.life) else F i j)) := G
      have HBF : Hid (Below w.heap.size w (((w2.setCell ⟨w.heap.size, k * 3, none⟩ (.int .i64 s.id)).setCell ⟨w.heap.size, k * 3 + 1, none⟩ (.int .i64 s.st)).setCell ⟨w.heap.size, k * 3 + 2, none⟩ (.int .i64 s.life))) := (((hb2.setCell (Nat.le_refl _) _).setCell (Nat.le_refl _) _).setCell (Nat.le_refl _) _)
      have HA : Hid (∀ i r, i < k + 1 → ss[i]? = some r → (fun i j => if i = k then (if j = 0 then .int .i64 s.id else if j = 1 then .int .i64 s.st else .int .i64 s.life) else F i j) i 0 = .int .i64 r.id ∧ (fun i j => if i = k then (if j = 0 then .int .i64 s.id else if j = 1 then .int .i64 s.st else .int .i64 s.life) else F i j) i 1 = .int .i64 r.st ∧ (fun i j => if i = k then (if j = 0 then .int .i64 s.id else if j = 1 then .int .i64 s.st else .int .i64 s.life) else F i j) i 2 = .int .i64 r.life) := fun i r hi hr => by
        by_cases e : i = k
        · subst e
          rw [hs] at hr
          cases hr
          simp only [if_pos]
          exact ⟨(by simp), (by simp), (by simp)⟩
        · simp only [if_neg e]
          exact ⟨(hall.out i r (by omega) hr).1, (hall.out i r (by omega) hr).2.1, (hall.out i r (by omega) hr).2.2⟩
      clear hb hF hall G hb2 hF2 b2
      go_wp2
      go_roundw
      case rel => exact ⟨k + 1, by omega, by go_num, HBF.out, _, HG.out, HA⟩
      case measure => simp [intOf]; omega
    · have hkn : k = n := by omega
      subst hkn
      go_wp2
      go_ret
      exact ⟨F, rfl, hF, fun i s hs => hall.out i s (by have := (List.getElem?_eq_some_iff.1 hs).1; have := HN.out; omega) hs, hb⟩

set_option maxHeartbeats 1000000 in
theorem eqEl_Mem (s : DMem) (w : World) :
    Calls Try.prog 59 #[.agg #[.int .i64 s.id, .int .i64 s.st, .int .i64 s.life], .agg #[.int .i64 s.id, .int .i64 s.st, .int .i64 s.life]] w fun e w' => e = .returned (.bool true) ∧ Below w.heap.size w w' := by
  go_enter Try.func59, Try.ntmps59
  go_wp2
  go_ret
  exact ⟨rfl, ((Below.refl _ w).alloc (Nat.le_refl _) _).alloc (by simp) _⟩

set_option maxHeartbeats 2000000 in
theorem eqS_Mem (v u : Value) (ss : List DMem) (w : World) (h : VMem w v ss) (k : VMem w u ss) (hn : ss.length ≤ 1048576) :
    Calls Try.prog 37 #[v, u] w fun e w' => e = .returned (.bool true) ∧ Below w.heap.size w w' := by
  obtain ⟨a, cap, rfl⟩ := h.shape
  obtain ⟨a', cap', rfl⟩ := k.shape
  have HV : Hid (VMem w (.slice a ss.length cap) ss ∧ VMem w (.slice a' ss.length cap') ss) := ⟨h, k⟩
  clear h k
  obtain ⟨n, hnn⟩ : ∃ n, n = ss.length := ⟨_, rfl⟩
  rw [← hnn] at hn HV ⊢
  have HN : Hid (n = ss.length) := hnn
  clear hnn
  have hml2 : (n : Int) ≤ 1048576 := by omega
  go_enter Try.func37, Try.ntmps37
  go_wp2
  go_loopw [5] (fun i wr => ∃ k : Nat, k ≤ n ∧ i = .int .i64 k ∧ Below w.heap.size w wr) (fun i _ => n - (intOf i).toNat)
  case atStart => exact ⟨0, Nat.zero_le _, rfl, Below.refl _ _⟩
  case round =>
    obtain ⟨k, hk, rfl, hb⟩ := hrel
    by_cases hlt : k < n
    · obtain ⟨s, hs⟩ : ∃ s, ss[k]? = some s := ⟨_, List.getElem?_eq_getElem (by have := HN.out; omega)⟩
      obtain ⟨b, o, rfl, c0, c1, c2⟩ := HV.out.1.at (ext_below hb) hs
      obtain ⟨b', o', rfl, d0, d1, d2⟩ := HV.out.2.at (ext_below hb) hs
      have HE : Hid (∀ W', Calls Try.prog 59 #[.agg #[.int .i64 s.id, .int .i64 s.st, .int .i64 s.life], .agg #[.int .i64 s.id, .int .i64 s.st, .int .i64 s.life]] W' fun e w' => e = .returned (.bool true) ∧ Below W'.heap.size W' w') := fun W' => eqEl_Mem s W'
      have hlt' : (k : Int) < (n : Int) := by omega
      have c0w := bw_cell c0
      have d0w := bw_cell d0
      have c1w := bw_cell c1
      have d1w := bw_cell d1
      have c2w := bw_cell c2
      have d2w := bw_cell d2
      have nonV := bw_ne wr
      go_wp2_with fail
      refine wp_region_bw (by kernel_rfl) (by kernel_rfl) ?_
      repeat (go_big_quiet_step ((go_at_call 59; exact bw_below (HE.out _))))
      refine wpQuiet_nil ?_
      intro _ hw'
      obtain ⟨z, hw''⟩ := hw'
      subst hw''
      go_wp2
      go_roundw
      case rel => exact ⟨k + 1, by omega, by go_num, hb.trans (z.h.mono hb.size)⟩
      case measure => simp [intOf]; omega
    · have hkn : k = n := by omega
      subst hkn
      go_wp2
      go_ret
      exact ⟨rfl, hb⟩

set_option maxHeartbeats 1000000 in
theorem szS_Mem (v : Value) (ss : List DMem) (l : Int) (w : World) (h : VMem w v ss) (hl0 : 0 ≤ l) (hl : l ≤ 1048576) :
    Calls Try.prog 25 #[v, .int .i64 l] w (SzPost l ss.length w) := by
  obtain ⟨C, ⟨a, cap, rfl, h1, h2, _⟩, _⟩ := h
  unfold maxLen at h2
  generalize ss.length = n at *
  by_cases hn : l - n < 0
  · go_enter Try.func25, Try.ntmps25
    go_wp2
    go_ret
    exact ⟨-1, rfl, .inl ⟨hn, rfl⟩, Below.refl _ _⟩
  · go_enter Try.func25, Try.ntmps25
    go_wp2
    go_ret
    exact ⟨l - n, rfl, .inr ⟨by omega, rfl⟩, Below.refl _ _⟩

end Go.Proofs.Ytfdklcmhafhbeaa
