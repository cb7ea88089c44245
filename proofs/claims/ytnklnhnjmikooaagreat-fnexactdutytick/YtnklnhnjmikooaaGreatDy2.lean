
/- The specification's DutyOk. -/
import Derived.Test.YtnklnhnjmikooaaGreatDy0
import Derived.Test.YtnklnhnjmikooaaGreatWhT
import Derived.Test.YtnklnhnjmikooaaGreatElG
import Derived.BigQuiet
namespace Go.Proofs.YtnklnhnjmikooaaGreat
open Go.RowKit


theorem wrapS {x : Int} (h : -9223372036854775808 ≤ x) (h' : x ≤ 9223372036854775807) : IntKind.i64.wrap x = x := by
  rw [IntKind.wrap_i64]
  omega

set_option maxRecDepth 20000 in
set_option maxHeartbeats 4000000 in
theorem sDutyOkV (v : Value) (D : DDuty) (w : World) (h : VDuty w v D) :
    Calls Tryz.prog 26 #[v] w fun e w' => e = .returned (.bool (tB (DutyP D))) ∧ Below w.heap.size w w' := by
  have hB : ∀ w : World, ∀ o, Below w.heap.size w (w.alloc o) := fun w o => (Below.refl _ w).alloc (Nat.le_refl _) _
  obtain ⟨tv, rfl, ht⟩ := h
  obtain ⟨ttl, D⟩ := D
  have HT : Hid (VTims w tv D.tms) := ht
  obtain ⟨C, ⟨a, cap, rfl, h1, h2, h3⟩, hC⟩ := ht
  have HC : Hid (∀ (i : Nat) (r : DTim), D.tms[i]? = some r → C i 0 = Value.int IntKind.i64 r.id ∧ C i 1 = Value.int IntKind.i64 r.due) := hC
  obtain ⟨n, hn⟩ : ∃ n, n = D.tms.length := ⟨_, rfl⟩
  have HN : Hid (n = D.tms.length) := hn
  obtain ⟨R, hR⟩ : ∃ R, R = tB (DutyP ⟨ttl, D⟩) := ⟨_, rfl⟩
  rw [← hR]
  have HNO : Hid (¬ DutyP ⟨ttl, D⟩ → R = false) := fun h => by rw [hR]; exact tB_false h
  have HYE : Hid (DutyP ⟨ttl, D⟩ → R = true) := fun h => by rw [hR]; exact tB_true h
  simp only at h1 h3 HT ⊢
  rw [← hn] at h1 h3 HT ⊢
  have H3 : Hid (0 < n → ∃ b o, a = some ⟨b, o, none⟩ ∧ b < w.heap.size ∧ ∀ i, i < n → ∀ j, j < 2 → w.cell? ⟨b, o + i * 2 + j, none⟩ = some (C i j)) := h3
  unfold maxLen at h2
  have hcap : (n : Int) ≤ 9223372036854775807 := by omega
  clear hC hn hR h3
  go_enter Tryz.func26, Tryz.ntmps26
  go_wp2_with fail
  rotate_left
  · go_ret
    exact ⟨by rw [HNO.out (fun h => by have := h.1; simp only at this; omega)]; rfl, hB _ _⟩
  · go_ret
    exact ⟨by rw [HNO.out (fun h => by have := h.1; simp only at this; omega)]; rfl, hB _ _⟩
  have HTT : Hid (1 ≤ ttl ∧ ttl ≤ 1000) := by show _ ∧ _; omega
  generalize hW : World.alloc w _ = W
  have BW : Below w.heap.size w W := by rw [← hW]; exact hB _ _
  have P0 : W.heap[w.heap.size]? = some (.cells #[.int .i64 ttl, .int .i64 D.now, .slice a n cap] 39 (0, 0)) := by rw [← hW]; exact heap_alloc_new w _
  clear hW
  refine (sWheelOkV _ D _ ⟨_, rfl, HT.out.ext (ext_below BW)⟩).mono ?_
  rintro e w1 ⟨rfl, b1⟩
  have P1 := below_blk b1 (Array.getElem?_eq_some_iff.1 P0).1 P0
  have HB1 : Hid (Below w.heap.size w w1) := BW.trans (b1.mono BW.size)
  have HP1 : Hid (w1.heap[w.heap.size]? = some (.cells #[.int .i64 ttl, .int .i64 D.now, .slice a n cap] 39 (0, 0))) := P1
  clear b1 P0 BW
  obtain ⟨p0, f0⟩ := at_block P1 0 _ rfl
  obtain ⟨p1, f1⟩ := at_block P1 1 _ rfl
  obtain ⟨p2, f2⟩ := at_block P1 2 _ rfl
  clear P1 f0 f1 f2
  cases t3 : tB (WheelP D)
  · have HK : Hid (R = false) := HNO.out (fun h => by have := tB_true h.2.1; rw [t3] at this; cases this)
    clear t3
    go_wp2
    go_ret
    exact ⟨by rw [HK.out]; rfl, HB1.out⟩
  have HT3 : Hid (tB (WheelP D) = true) := t3
  clear t3
  by_cases t4 : 8 < n
  · have HK : Hid (R = false) := HNO.out (fun h => by have := h.2.2.1; have := HN.out; simp only at *; omega)
    have t4' : (8 : Int) < (n : Int) := by omega
    go_wp2
    go_ret
    exact ⟨by rw [HK.out]; rfl, HB1.out⟩
  have t4' : ¬ (8 : Int) < (n : Int) := by omega
  have d4 : decide ((8 : Int) < (n : Int)) = false := decide_eq_false t4'
  go_wp2
  go_loopw [3] (fun i wr => ∃ k : Nat, k ≤ n ∧ i = .int .i64 k ∧ Hid (∀ (j : Nat) (u : DTim), j < k → D.tms[j]? = some u → u.due - D.now ≤ ttl) ∧ Hid (Ext w1 wr)) (fun i _ => n - (intOf i).toNat)
  case atStart => exact ⟨0, Nat.zero_le _, rfl, fun j u hj => absurd hj (by omega), World.grownBy.refl _ _⟩
  case round =>
    obtain ⟨k, hk, rfl, hall, hX⟩ := hrel
    clear p0 p1 p2
    have PX : wr.heap[w.heap.size]? = some (.cells #[.int .i64 ttl, .int .i64 D.now, .slice a n cap] 39 (0, 0)) := (hX.out.block _ (Array.getElem?_eq_some_iff.1 HP1.out).1 (by simp)).trans HP1.out
    have HBX : Hid (Below w.heap.size w wr) := HB1.out.trans ((ext_bel hX.out).mono HB1.out.size)
    obtain ⟨p0, f0⟩ := at_block PX 0 _ rfl
    obtain ⟨p1, f1⟩ := at_block PX 1 _ rfl
    obtain ⟨p2, f2⟩ := at_block PX 2 _ rfl
    clear PX f0 f1 f2
    by_cases hlt : k < n
    · obtain ⟨b, o, rfl, hbl, hc⟩ := H3.out (by omega)
      obtain ⟨s, hs⟩ : ∃ s, D.tms[k]? = some s := ⟨_, List.getElem?_eq_getElem (by have := HN.out; omega)⟩
      obtain ⟨e0, e1⟩ := HC.out k s hs
      have c1 := World.grownBy.cell (ext_below HBX.out) (hc k hlt 1 (by omega)) (by simp)
      rw [e1] at c1
      have hlt' : (k : Int) < (n : Int) := by omega
      have HS : Hid (D.tms[k]? = some s) := hs
      have hd : -2000000 ≤ s.due - D.now ∧ s.due - D.now ≤ 2000000 := by
        have hP := tB_iff.1 HT3.out
        have := hP.1
        have := (hP.2.2 k (by have := HN.out; omega) s hs).2.1
        omega
      have hw : IntKind.i64.wrap (s.due - D.now) = s.due - D.now := wrapS (by omega) (by omega)
      have HD : Hid (-2000000 ≤ s.due - D.now ∧ s.due - D.now ≤ 2000000) := hd
      clear hc e0 e1 hs
      by_cases t5 : ttl < s.due - D.now
      · have HK : Hid (R = false) := HNO.out (fun h => by have hx : s.due - D.now ≤ ttl := h.2.2.2 k s HS.out; omega)
        have d5 : decide (ttl < s.due - D.now) = true := decide_eq_true t5
        go_wp2
        go_quiet (fail)
        go_wp2
        go_ret
        exact ⟨by rw [HK.out]; rfl, below_drewN HBX.out _⟩
      have d5 : decide (ttl < s.due - D.now) = false := decide_eq_false t5
      have HA : Hid (∀ (j : Nat) (u : DTim), j < k + 1 → D.tms[j]? = some u → u.due - D.now ≤ ttl) := fun j u hj hu => by
        by_cases e : j = k
        · subst e
          rw [HS.out] at hu
          cases hu
          omega
        · exact hall.out j u (by omega) hu
      go_wp2
      go_quiet (fail)
      go_wp2
      go_roundw
      case rel => exact ⟨k + 1, by omega, by go_num, HA, hX.out.trans (ext_drewN _ _)⟩
      case measure => simp [intOf]; omega
    · have hkn : k = n := by omega
      subst hkn
      have HK : Hid (R = true) := HYE.out ⟨HTT.out, tB_iff.1 HT3.out, by have := HN.out; simp only; omega, fun j u hu => hall.out j u (by have hz : j < D.tms.length := (List.getElem?_eq_some_iff.1 hu).1; have := HN.out; omega) hu⟩
      go_wp2
      go_ret
      exact ⟨by rw [HK.out]; rfl, HBX.out⟩

end Go.Proofs.YtnklnhnjmikooaaGreat
