/- The contract of the program's sessionsOk. -/
import Derived.Test.YtknemgmfbmmngaaSt0
import Derived.Test.YtknemgmfbmmngaaIKey
import Derived.Test.YtknemgmfbmmngaaSum0
namespace Go.Proofs.Ytknemgmfbmmngaa
open Go.RowKit

/-- The session at i is one that may be there. -/
def SessAt (idx : Int) (ss : List DSess) (i : Nat) : Prop := ∀ s, ss[i]? = some s → 1 ≤ s.id ∧ s.id ≤ idx ∧ ∀ p, 0 < i → ss[i - 1]? = some p → p.id < s.id
def SessP (idx : Int) (ss : List DSess) : Prop := ss.length ≤ 8 ∧ ∀ i, i < ss.length → SessAt idx ss i

/-- The least Id that comes next. -/
def leastId (ss : List DSess) (k : Nat) : Int := match ss[k - 1]? with | some p => if k = 0 then 1 else p.id + 1 | none => 1

set_option maxHeartbeats 1000000 in
theorem sessionsOkV (rv tv lov sv lv : Value) (idx : Int) (ss : List DSess) (w : World) (h : VSess w sv ss) (hidx : idx ≤ 1000000) :
    Calls Try.prog 57 #[.agg #[.int .i64 idx, rv, tv, lov, sv, lv]] w fun e w' => e = .returned (.bool (tB (SessP idx ss))) ∧ Below w.heap.size w w' := by
  have hE : ∀ w : World, ∀ o, Ext w (w.alloc o) := fun w o => World.grownBy_alloc _ _ _
  have hB : ∀ w : World, ∀ o, Below w.heap.size w (w.alloc o) := fun w o => (Below.refl _ w).alloc (Nat.le_refl _) _
  obtain ⟨C, ⟨a, cap, rfl, h1, h2, h3⟩, hC⟩ := h
  have HC : Hid (∀ (i : Nat) (r : DSess), ss[i]? = some r → C i 0 = Value.int IntKind.i64 r.id ∧ C i 1 = Value.bool r.del) := hC
  clear hC
  obtain ⟨n, hn⟩ : ∃ n, n = ss.length := ⟨_, rfl⟩
  rw [← hn] at h1 h3 ⊢
  have HN : Hid (n = ss.length) := hn
  clear hn
  unfold maxLen at h2
  by_cases h8 : (8 : Int) < n
  · have HK : Hid (tB (SessP idx ss) = false) := tB_false (fun h => by have := h.1; have := HN.out; omega)
    go_enter Try.func57, Try.ntmps57
    go_wp2
    go_ret
    exact ⟨by rw [HK.out]; rfl, hB _ _⟩
  have H3 : Hid (0 < n → ∃ b o, a = some ⟨b, o, none⟩ ∧ b < w.heap.size ∧ ∀ i, i < n → ∀ j, j < 2 → w.cell? ⟨b, o + i * 2 + j, none⟩ = some (C i j)) := h3
  clear h3
  go_enter Try.func57, Try.ntmps57
  go_wp2
  generalize hW : w.alloc _ = W
  have HW : Hid (Below w.heap.size w W ∧ Ext w W) := by rw [← hW]; exact ⟨hB _ _, hE _ _⟩
  have hq0 : W.cell? ⟨w.heap.size, 0, none⟩ = some (.int .i64 idx) := by rw [← hW]; exact (at_block (heap_alloc_new w _) 0 _ rfl).1
  clear hW
  go_loopw [3, 13] (fun l i wr => ∃ k : Nat, k ≤ n ∧ i = .int .i64 k ∧ l = .int .i64 (leastId ss k) ∧ Ext W wr ∧ Below w.heap.size w wr ∧ Hid (∀ j, j < k → SessAt idx ss j)) (fun _ i _ => n - (intOf i).toNat)
  case atStart => exact ⟨0, Nat.zero_le _, rfl, by simp [leastId]; split <;> rfl, Ext.re _, HW.out.1, fun j hj => absurd hj (by omega)⟩
  case round =>
    obtain ⟨k, hk, rfl, rfl, hx, hb, hall⟩ := hrel
    by_cases hlt : k < n
    · obtain ⟨b, o, rfl, hbl, hc⟩ := H3.out (by omega)
      obtain ⟨s, hs⟩ : ∃ s, ss[k]? = some s := ⟨_, List.getElem?_eq_getElem (by have := HN.out; omega)⟩
      obtain ⟨e0, e1⟩ := HC.out k s hs
      have hg := World.grownBy.cell hx hq0 (by simp)
      have c0 := World.grownBy.cell (HW.out.2.tr hx) (hc k hlt 0 (by omega)) (by simp)
      have c1 := World.grownBy.cell (HW.out.2.tr hx) (hc k hlt 1 (by omega)) (by simp)
      rw [e0, Nat.add_zero] at c0
      rw [e1] at c1
      have hga : ∀ ob, (wr.alloc ob).cell? ⟨w.heap.size, 0, none⟩ = some (.int .i64 idx) := fun ob => World.grownBy.cell (hE wr ob) hg (by simp)
      clear hc
      have hlt' : (k : Int) < (n : Int) := by omega
      have hx2 : ∀ ob, Ext W (wr.alloc ob) := fun ob => hx.tr (hE _ _)
      have hb2 : ∀ ob, Below w.heap.size w (wr.alloc ob) := fun ob => hb.alloc hb.size _
      by_cases hin : inB s.id (leastId ss k) idx = true
      · have HA : Hid (∀ j, j < k + 1 → SessAt idx ss j) := fun j hj => by
          by_cases e : j = k
          · subst e
            intro s' hs'
            rw [hs] at hs'
            cases hs'
            unfold inB at hin
            simp only [Bool.and_eq_true, decide_eq_true_eq] at hin
            refine ⟨?_, hin.2, fun p hj0 hp => ?_⟩
            · unfold leastId at hin
              split at hin
              · rename_i p hp
                by_cases j0 : j = 0
                · rw [if_pos j0] at hin; exact hin.1
                · rw [if_neg j0] at hin
                  have := (hall.out (j - 1) (by omega) p hp).1
                  omega
              · exact hin.1
            · unfold leastId at hin
              rw [hp] at hin
              simp only [show ¬ j = 0 by omega, if_false] at hin
              omega
          · exact hall.out j (by omega)
        have HL : Hid (leastId ss (k + 1) = s.id + 1) := by
          unfold Hid leastId
          rw [Nat.add_sub_cancel, hs]
          simp
        have hid : s.id ≤ 1000000 := by
          unfold inB at hin
          simp only [Bool.and_eq_true, decide_eq_true_eq] at hin
          omega
        have hid0 : -1 ≤ s.id := by
          have := HA.out k (by omega) s hs
          omega
        clear hall
        go_wp2_with (go_at_call 56; refine (withinV _ _ _ _).mono ?_; rintro e w2 ⟨rfl, rfl⟩; rw [hin])
        go_roundw
        case rel => exact ⟨k + 1, by omega, by go_num, by rw [HL.out], hx2 _, hb2 _, HA⟩
        case measure => simp [intOf]; omega
      · have hin : inB s.id (leastId ss k) idx = false := by simpa using hin
        have HK : Hid (tB (SessP idx ss) = false) := tB_false (fun h => by
          have hk := h.2 k (by have := HN.out; omega) s hs
          have : inB s.id (leastId ss k) idx = true := by
            unfold inB
            simp only [Bool.and_eq_true, decide_eq_true_eq]
            refine ⟨?_, hk.2.1⟩
            unfold leastId
            split
            · rename_i p hp
              by_cases j0 : k = 0
              · rw [if_pos j0]; exact hk.1
              · rw [if_neg j0]
                have := hk.2.2 p (by omega) hp
                omega
            · exact hk.1
          rw [hin] at this
          cases this)
        clear hall
        go_wp2_with (go_at_call 56; refine (withinV _ _ _ _).mono ?_; rintro e w2 ⟨rfl, rfl⟩; rw [hin])
        go_ret
        exact ⟨by rw [HK.out]; rfl, hb2 _⟩
    · have hkn : k = n := by omega
      subst hkn
      have HK : Hid (tB (SessP idx ss) = true) := tB_true ⟨by have := HN.out; omega, fun i hi => hall.out i (by have := HN.out; omega)⟩
      clear hall
      go_wp2
      go_ret
      exact ⟨by rw [HK.out]; rfl, hb⟩

end Go.Proofs.Ytknemgmfbmmngaa
