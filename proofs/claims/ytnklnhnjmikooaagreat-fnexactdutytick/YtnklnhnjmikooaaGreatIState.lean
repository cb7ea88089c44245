
/- The contract of the program's StateOk. -/
import Derived.Test.YtnklnhnjmikooaaGreatInf
import Derived.Test.YtnklnhnjmikooaaGreatOp0
import Derived.Test.YtnklnhnjmikooaaGreatWi
import Derived.Test.YtnklnhnjmikooaaGreatSt0
import Derived.Test.YtnklnhnjmikooaaGreatSum0
import Derived.Test.YtnklnhnjmikooaaGreatConv
import Derived.Lib.BytesEntry
import Derived.Laws.Externs
import Derived.Deep.LoopGhost
import Derived.WalkMore
import Derived.Maps.Own
import Derived.Maps.OwnOps
import Derived.Maps.OwnSet
namespace Go.Proofs.YtnklnhnjmikooaaGreat
open Go.RowKit

/-- A byte that a key may have. -/
def keyC (c : Int) : Bool := decide ((97 ≤ c ∧ c ≤ 122) ∨ c = 47)
/-- It is a key. -/
def keyB (xs : List Int) : Bool := decide (1 ≤ xs.length) && decide (xs.length ≤ 20) && xs.all keyC

/-- It may be an operation. -/
def opB (d : DOp) : Bool :=
  decide (0 ≤ d.kind) && decide (d.kind ≤ 7) && decide (d.val.length ≤ 20) && decide (0 ≤ d.n) && decide (d.n ≤ 1000000) &&
  (if d.kind = 1 ∨ d.kind = 2 ∨ d.kind = 3 ∨ d.kind = 6 ∨ d.kind = 7 then keyB d.key else decide (d.key.length = 0)) &&
  (decide (d.kind = 1 ∨ d.kind = 2 ∨ d.kind = 6) || decide (d.val.length = 0)) &&
  (if d.kind = 0 ∨ d.kind = 1 ∨ d.kind = 3 then decide (d.n = 0) else if d.kind = 4 then decide (d.n ≤ 1) else if d.kind = 2 then true else decide (1 ≤ d.n))

theorem all_get {xs : List Int} (h : ∀ j, j < xs.length → keyC (xs.getD j 0) = true) : xs.all keyC = true := by
  rw [List.all_eq_true]
  intro x hx
  obtain ⟨j, hj, rfl⟩ := List.getElem_of_mem hx
  have := h j hj
  simpa [List.getD, hj] using this
theorem not_all {xs : List Int} {j : Nat} (hj : j < xs.length) (h : keyC (xs.getD j 0) = false) : xs.all keyC = false := by
  rw [List.all_eq_false]
  refine ⟨xs[j], List.getElem_mem hj, ?_⟩
  have : keyC xs[j] = false := by simpa [List.getD, hj] using h
  simp [this]

set_option maxHeartbeats 1000000 in
theorem l2keyB (a : Option Addr) (n cap : Nat) (xs : List Int) (w : World) (hr : Rd w a n xs) (hn : n ≤ 9223372036854775807) :
    Calls Tryz.prog 64 #[.slice a n cap] w fun e w' => e = .returned (.bool (keyB xs)) ∧ w' = w := by
  have hl := hr.len
  by_cases h1 : n < 1
  · have HK : Hid (keyB xs = false) := by unfold Hid keyB; simp; omega
    have h1' : (n : Int) < 1 := by omega
    go_enter Tryz.func64, Tryz.ntmps64
    go_wp2
    go_ret
    exact ⟨by rw [HK.out]; rfl, rfl⟩
  by_cases h20 : 20 < n
  · have HK : Hid (keyB xs = false) := by unfold Hid keyB; simp; omega
    have h1' : ¬ (n : Int) < 1 := by omega
    have h20' : (20 : Int) < (n : Int) := by omega
    go_enter Tryz.func64, Tryz.ntmps64
    go_wp2
    go_ret
    exact ⟨by rw [HK.out]; rfl, rfl⟩
  have h1' : ¬ (n : Int) < 1 := by omega
  have h20' : ¬ (20 : Int) < (n : Int) := by omega
  obtain ⟨b, o, rfl, _, hc⟩ := hr.pos (by omega)
  have HC : Hid (∀ i, i < n → w.cell? ⟨b, o + i, none⟩ = some (.int .u8 (xs.getD i 0))) := hc
  clear hc
  go_enter Tryz.func64, Tryz.ntmps64
  go_wp2
  go_loop [3] (fun i => ∃ k : Nat, k ≤ n ∧ i = .int .i64 k ∧ Hid (∀ j, j < k → keyC (xs.getD j 0) = true)) (fun i => n - (intOf i).toNat)
  case atStart => exact ⟨0, Nat.zero_le _, rfl, fun j hj => absurd hj (by omega)⟩
  case round =>
    obtain ⟨k, hk, rfl, hall⟩ := hrel
    by_cases hlt : k < n
    · have hck := HC.out k hlt
      have HN : Hid (keyC (xs.getD k 0) = true → ∀ j, j < k + 1 → keyC (xs.getD j 0) = true) := fun h j hj => by
        by_cases e : j = k
        · subst e; exact h
        · exact hall.out j (by omega)
      have HF : Hid (keyC (xs.getD k 0) = false → keyB xs = false) := fun h => by
        unfold keyB; rw [not_all (by omega) h]; simp
      generalize xs.getD k 0 = c at hck HN HF
      clear HC hall
      have hlt' : (k : Int) < (n : Int) := by omega
      by_cases hz : c = 47
      · subst hz
        have HN' := HN.out (by decide)
        have HN2 : Hid (∀ j, j < k + 1 → keyC (xs.getD j 0) = true) := HN'
        clear HN HF HN'
        go_wp2
        go_round
        case rel => exact ⟨k + 1, by omega, by go_num, HN2⟩
        case measure => simp [intOf]; omega
      · have hz' : (c != 47) = true := by simpa using hz
        by_cases h97 : c < 97
        · have HF2 : Hid (keyB xs = false) := HF.out (by unfold keyC; simp; omega)
          clear HN HF
          go_wp2
          go_ret
          exact ⟨by rw [HF2.out]; rfl, rfl⟩
        · by_cases h122 : 122 < c
          · have HF2 : Hid (keyB xs = false) := HF.out (by unfold keyC; simp; omega)
            clear HN HF
            go_wp2
            go_ret
            exact ⟨by rw [HF2.out]; rfl, rfl⟩
          · have HN2 : Hid (∀ j, j < k + 1 → keyC (xs.getD j 0) = true) := HN.out (by unfold keyC; simp; omega)
            clear HN HF
            go_wp2
            go_round
            case rel => exact ⟨k + 1, by omega, by go_num, HN2⟩
            case measure => simp [intOf]; omega
    · have hkn : k = n := by omega
      subst hkn
      have HK : Hid (keyB xs = true) := by
        unfold Hid keyB
        rw [all_get (fun j hj => hall.out j (by omega))]
        simp
        omega
      go_wp2
      go_ret
      exact ⟨by rw [HK.out]; rfl, rfl⟩

theorem l2keyV (v : Value) (xs : List Int) (w : World) (h : RV w v xs) : Calls Tryz.prog 64 #[v] w fun e w' => e = .returned (.bool (keyB xs)) ∧ w' = w := by
  obtain ⟨a, cap, rfl, hr, h1, h2⟩ := h
  exact l2keyB a xs.length cap xs w hr (by unfold maxLen at h2; omega)

set_option maxHeartbeats 1000000 in
theorem l2valV (v : Value) (xs : List Int) (w : World) (h : RV w v xs) : Calls Tryz.prog 65 #[v] w fun e w' => e = .returned (.bool (decide (xs.length ≤ 20))) ∧ w' = w := by
  obtain ⟨a, cap, rfl, hr, h1, h2⟩ := h
  unfold maxLen at h2
  by_cases h : xs.length ≤ 20
  · have h' : (xs.length : Int) ≤ 20 := by omega
    have HK : Hid (decide (xs.length ≤ 20) = true) := by simpa [Hid] using h
    clear h
    go_enter Tryz.func65, Tryz.ntmps65
    go_wp2
    go_ret
    exact ⟨by rw [HK.out]; rfl, rfl⟩
  · have h' : ¬ (xs.length : Int) ≤ 20 := by omega
    have HK : Hid (decide (xs.length ≤ 20) = false) := by simpa [Hid] using h
    have hd : decide ((xs.length : Int) ≤ 20) = false := by simp; omega
    clear h
    go_enter Tryz.func65, Tryz.ntmps65
    go_wp2
    go_ret
    exact ⟨by rw [HK.out]; rfl, rfl⟩

set_option maxHeartbeats 1000000 in
theorem l2indexV (n : Int) (w : World) : Calls Tryz.prog 63 #[.int .i64 n] w fun e w' => e = .returned (.bool (decide (0 ≤ n) && decide (n ≤ 1000000))) ∧ w' = w := by
  by_cases h0 : 0 ≤ n
  · by_cases h1 : n ≤ 1000000
    · go_enter Tryz.func63, Tryz.ntmps63
      go_wp2
      go_ret
      exact ⟨by simp [h0, h1], rfl⟩
    · go_enter Tryz.func63, Tryz.ntmps63
      go_wp2
      go_ret
      exact ⟨by simp; omega, rfl⟩
  · go_enter Tryz.func63, Tryz.ntmps63
    go_wp2
    go_ret
    exact ⟨by simp; omega, rfl⟩

end Go.Proofs.YtnklnhnjmikooaaGreat

namespace Go.Proofs.YtnklnhnjmikooaaGreat
open Go.RowKit

set_option maxHeartbeats 1000000 in
theorem valueOkV (v : Value) (xs : List Int) (w : World) (h : RV w v xs) : Calls Tryz.prog 103 #[v] w fun e w' => e = .returned (.bool (decide (xs.length ≤ 20))) ∧ w' = w := by
  obtain ⟨a, cap, rfl, hr, h1, h2⟩ := h
  unfold maxLen at h2
  by_cases h : xs.length ≤ 20
  · have h' : (xs.length : Int) ≤ 20 := by omega
    have HK : Hid (decide (xs.length ≤ 20) = true) := by simpa [Hid] using h
    clear h
    go_enter Tryz.func103, Tryz.ntmps103
    go_wp2
    go_ret
    exact ⟨by rw [HK.out]; rfl, rfl⟩
  · have h' : ¬ (xs.length : Int) ≤ 20 := by omega
    have HK : Hid (decide (xs.length ≤ 20) = false) := by simpa [Hid] using h
    have hd : decide ((xs.length : Int) ≤ 20) = false := by simp; omega
    clear h
    go_enter Tryz.func103, Tryz.ntmps103
    go_wp2
    go_ret
    exact ⟨by rw [HK.out]; rfl, rfl⟩

set_option maxHeartbeats 1000000 in
theorem keyOkB (a : Option Addr) (n cap : Nat) (xs : List Int) (w : World) (hr : Rd w a n xs) (hn : n ≤ 9223372036854775807) :
    Calls Tryz.prog 102 #[.slice a n cap] w fun e w' => e = .returned (.bool (keyB xs)) ∧ w' = w := by
  have hl := hr.len
  by_cases h1 : inB n 1 20 = false
  · have HK : Hid (keyB xs = false) := by unfold Hid keyB; unfold inB at h1; simp at h1 ⊢; omega
    go_enter Tryz.func102, Tryz.ntmps102
    go_wp2_with (go_at_call 53; refine (withinV _ _ _ _).mono ?_; rintro e w1 ⟨rfl, rfl⟩; try rw [h1])
    go_ret
    exact ⟨by rw [HK.out]; rfl, rfl⟩
  have h1 : inB n 1 20 = true := by simpa using h1
  have h2 : 1 ≤ n ∧ n ≤ 20 := by unfold inB at h1; simp at h1; omega
  obtain ⟨b, o, rfl, _, hc⟩ := hr.pos (by omega)
  have HC : Hid (∀ i, i < n → w.cell? ⟨b, o + i, none⟩ = some (.int .u8 (xs.getD i 0))) := hc
  clear hc
  go_enter Tryz.func102, Tryz.ntmps102
  go_wp2_with (go_at_call 53; refine (withinV _ _ _ _).mono ?_; rintro e w1 ⟨rfl, rfl⟩; try rw [h1])
  go_loop [11] (fun i => ∃ k : Nat, k ≤ n ∧ i = .int .i64 k ∧ Hid (∀ j, j < k → keyC (xs.getD j 0) = true)) (fun i => n - (intOf i).toNat)
  case atStart => exact ⟨0, Nat.zero_le _, rfl, fun j hj => absurd hj (by omega)⟩
  case round =>
    obtain ⟨k, hk, rfl, hall⟩ := hrel
    by_cases hlt : k < n
    · have hck := HC.out k hlt
      have HN : Hid (keyC (xs.getD k 0) = true → ∀ j, j < k + 1 → keyC (xs.getD j 0) = true) := fun h j hj => by
        by_cases e : j = k
        · subst e; exact h
        · exact hall.out j (by omega)
      have HF : Hid (keyC (xs.getD k 0) = false → keyB xs = false) := fun h => by
        unfold keyB; rw [not_all (by omega) h]; simp
      generalize xs.getD k 0 = c at hck HN HF
      clear HC hall
      have hlt' : (k : Int) < (n : Int) := by omega
      by_cases hz : c = 47
      · subst hz
        have HN' := HN.out (by decide)
        have HN2 : Hid (∀ j, j < k + 1 → keyC (xs.getD j 0) = true) := HN'
        clear HN HF HN'
        go_wp2
        go_round
        case rel => exact ⟨k + 1, by omega, by go_num, HN2⟩
        case measure => simp [intOf]; omega
      · have hz' : (c != 47) = true := by simpa using hz
        by_cases h97 : c < 97
        · have HF2 : Hid (keyB xs = false) := HF.out (by unfold keyC; simp; omega)
          clear HN HF
          go_wp2
          go_ret
          exact ⟨by rw [HF2.out]; rfl, rfl⟩
        · by_cases h122 : 122 < c
          · have HF2 : Hid (keyB xs = false) := HF.out (by unfold keyC; simp; omega)
            clear HN HF
            go_wp2
            go_ret
            exact ⟨by rw [HF2.out]; rfl, rfl⟩
          · have HN2 : Hid (∀ j, j < k + 1 → keyC (xs.getD j 0) = true) := HN.out (by unfold keyC; simp; omega)
            clear HN HF
            go_wp2
            go_round
            case rel => exact ⟨k + 1, by omega, by go_num, HN2⟩
            case measure => simp [intOf]; omega
    · have hkn : k = n := by omega
      subst hkn
      have HK : Hid (keyB xs = true) := by
        unfold Hid keyB
        rw [all_get (fun j hj => hall.out j (by omega))]
        simp
        omega
      go_wp2
      go_ret
      exact ⟨by rw [HK.out]; rfl, rfl⟩

theorem keyOkV (v : Value) (xs : List Int) (w : World) (h : RV w v xs) : Calls Tryz.prog 102 #[v] w fun e w' => e = .returned (.bool (keyB xs)) ∧ w' = w := by
  obtain ⟨a, cap, rfl, hr, h1, h2⟩ := h
  exact keyOkB a xs.length cap xs w hr (by unfold maxLen at h2; omega)

end Go.Proofs.YtnklnhnjmikooaaGreat

namespace Go.Proofs.YtnklnhnjmikooaaGreat
open Go.RowKit

/-- The session at i is one that may be there. -/
def SessAt (idx : Int) (ss : List DSess) (i : Nat) : Prop := ∀ s, ss[i]? = some s → 1 ≤ s.id ∧ s.id ≤ idx ∧ ∀ p, 0 < i → ss[i - 1]? = some p → p.id < s.id
def SessP (idx : Int) (ss : List DSess) : Prop := ss.length ≤ 8 ∧ ∀ i, i < ss.length → SessAt idx ss i

/-- The least Id that comes next. -/
def leastId (ss : List DSess) (k : Nat) : Int := match ss[k - 1]? with | some p => if k = 0 then 1 else p.id + 1 | none => 1

set_option maxHeartbeats 1000000 in
theorem sessionsOkV (rv tv lov sv lv : Value) (idx : Int) (ss : List DSess) (w : World) (h : VSess w sv ss) (hidx : idx ≤ 1000000) :
    Calls Tryz.prog 78 #[.agg #[.int .i64 idx, rv, tv, lov, sv, lv]] w fun e w' => e = .returned (.bool (tB (SessP idx ss))) ∧ Below w.heap.size w w' := by
  have hE : ∀ w : World, ∀ o, Ext w (w.alloc o) := fun w o => World.grownBy_alloc _ _ _
  have hB : ∀ w : World, ∀ o, Below w.heap.size w (w.alloc o) := fun w o => (Below.refl _ w).alloc (Nat.le_refl _) _
  obtain ⟨C, ⟨a, cap, rfl, h1, h2, h3⟩, hC⟩ := h
  have HC : Hid (∀ (i : Nat) (r : DSess), ss[i]? = some r → C i 0 = Value.int IntKind.i64 r.id ∧ C i 1 = Value.bool r.del) := hC
  clear hC
  obtain ⟨n, hn⟩ : ∃ n, n = ss.length := ⟨_, rfl⟩
  rw [← hn] at h1 h3 ⊢
  have HN : Hid (n = ss.length) := hn
  clear hn
  unfold maxLen at h2
  by_cases h8 : (8 : Int) < n
  · have HK : Hid (tB (SessP idx ss) = false) := tB_false (fun h => by have := h.1; have := HN.out; omega)
    go_enter Tryz.func78, Tryz.ntmps78
    go_wp2
    go_ret
    exact ⟨by rw [HK.out]; rfl, hB _ _⟩
  have H3 : Hid (0 < n → ∃ b o, a = some ⟨b, o, none⟩ ∧ b < w.heap.size ∧ ∀ i, i < n → ∀ j, j < 2 → w.cell? ⟨b, o + i * 2 + j, none⟩ = some (C i j)) := h3
  clear h3
  go_enter Tryz.func78, Tryz.ntmps78
  go_wp2
  generalize hW : w.alloc _ = W
  have HW : Hid (Below w.heap.size w W ∧ Ext w W) := by rw [← hW]; exact ⟨hB _ _, hE _ _⟩
  have hq0 : W.cell? ⟨w.heap.size, 0, none⟩ = some (.int .i64 idx) := by rw [← hW]; exact (at_block (heap_alloc_new w _) 0 _ rfl).1
  clear hW
  go_loopw [3, 13] (fun l i wr => ∃ k : Nat, k ≤ n ∧ i = .int .i64 k ∧ l = .int .i64 (leastId ss k) ∧ Ext W wr ∧ Below w.heap.size w wr ∧ Hid (∀ j, j < k → SessAt idx ss j)) (fun _ i _ => n - (intOf i).toNat)
  case atStart => exact ⟨0, Nat.zero_le _, rfl, by simp [leastId]; split <;> rfl, Ext.re _, HW.out.1, fun j hj => absurd hj (by omega)⟩
  case round =>
    obtain ⟨k, hk, rfl, rfl, hx, hb, hall⟩ := hrel
    by_cases hlt : k < n
    · obtain ⟨b, o, rfl, hbl, hc⟩ := H3.out (by omega)
      obtain ⟨s, hs⟩ : ∃ s, ss[k]? = some s := ⟨_, List.getElem?_eq_getElem (by have := HN.out; omega)⟩
      obtain ⟨e0, e1⟩ := HC.out k s hs
      have hg := World.grownBy.cell hx hq0 (by simp)
      have c0 := World.grownBy.cell (HW.out.2.tr hx) (hc k hlt 0 (by omega)) (by simp)
      have c1 := World.grownBy.cell (HW.out.2.tr hx) (hc k hlt 1 (by omega)) (by simp)
      rw [e0, Nat.add_zero] at c0
      rw [e1] at c1
      have hga : ∀ ob, (wr.alloc ob).cell? ⟨w.heap.size, 0, none⟩ = some (.int .i64 idx) := fun ob => World.grownBy.cell (hE wr ob) hg (by simp)
      clear hc
      have hlt' : (k : Int) < (n : Int) := by omega
      have hx2 : ∀ ob, Ext W (wr.alloc ob) := fun ob => hx.tr (hE _ _)
      have hb2 : ∀ ob, Below w.heap.size w (wr.alloc ob) := fun ob => hb.alloc hb.size _
      by_cases hin : inB s.id (leastId ss k) idx = true
      · have HA : Hid (∀ j, j < k + 1 → SessAt idx ss j) := fun j hj => by
          by_cases e : j = k
          · subst e
            intro s' hs'
            rw [hs] at hs'
            cases hs'
            unfold inB at hin
            simp only [Bool.and_eq_true, decide_eq_true_eq] at hin
            refine ⟨?_, hin.2, fun p hj0 hp => ?_⟩
            · unfold leastId at hin
              split at hin
              · rename_i p hp
                by_cases j0 : j = 0
                · rw [if_pos j0] at hin; exact hin.1
                · rw [if_neg j0] at hin
                  have := (hall.out (j - 1) (by omega) p hp).1
                  omega
              · exact hin.1
            · unfold leastId at hin
              rw [hp] at hin
              simp only [show ¬ j = 0 by omega, if_false] at hin
              omega
          · exact hall.out j (by omega)
        have HL : Hid (leastId ss (k + 1) = s.id + 1) := by
          unfold Hid leastId
          rw [Nat.add_sub_cancel, hs]
          simp
        have hid : s.id ≤ 1000000 := by
          unfold inB at hin
          simp only [Bool.and_eq_true, decide_eq_true_eq] at hin
          omega
        have hid0 : -1 ≤ s.id := by
          have := HA.out k (by omega) s hs
          omega
        clear hall
        go_wp2_with (go_at_call 53; refine (withinV _ _ _ _).mono ?_; rintro e w2 ⟨rfl, rfl⟩; rw [hin])
        go_roundw
        case rel => exact ⟨k + 1, by omega, by go_num, by rw [HL.out], hx2 _, hb2 _, HA⟩
        case measure => simp [intOf]; omega
      · have hin : inB s.id (leastId ss k) idx = false := by simpa using hin
        have HK : Hid (tB (SessP idx ss) = false) := tB_false (fun h => by
          have hk := h.2 k (by have := HN.out; omega) s hs
          have : inB s.id (leastId ss k) idx = true := by
            unfold inB
            simp only [Bool.and_eq_true, decide_eq_true_eq]
            refine ⟨?_, hk.2.1⟩
            unfold leastId
            split
            · rename_i p hp
              by_cases j0 : k = 0
              · rw [if_pos j0]; exact hk.1
              · rw [if_neg j0]
                have := hk.2.2 p (by omega) hp
                omega
            · exact hk.1
          rw [hin] at this
          cases this)
        clear hall
        go_wp2_with (go_at_call 53; refine (withinV _ _ _ _).mono ?_; rintro e w2 ⟨rfl, rfl⟩; rw [hin])
        go_ret
        exact ⟨by rw [HK.out]; rfl, hb2 _⟩
    · have hkn : k = n := by omega
      subst hkn
      have HK : Hid (tB (SessP idx ss) = true) := tB_true ⟨by have := HN.out; omega, fun i hi => hall.out i (by have := HN.out; omega)⟩
      clear hall
      go_wp2
      go_ret
      exact ⟨by rw [HK.out]; rfl, hb⟩

end Go.Proofs.YtnklnhnjmikooaaGreat

namespace Go.Proofs.YtnklnhnjmikooaaGreat
open Go.RowKit

/-- The one text comes ahead of the other. -/
def ltK (xs ys : List Int) : Bool := Op.bytesLess (strOfNums xs).toList (strOfNums ys).toList

theorem cmpB_lt : ∀ (a b : List UInt8), Lib.compareBytes a b < 0 ↔ Op.bytesLess a b = true
  | [], [] => by simp [Lib.compareBytes, Op.bytesLess]
  | [], _ :: _ => by simp [Lib.compareBytes, Op.bytesLess]
  | _ :: _, [] => by simp [Lib.compareBytes, Op.bytesLess]
  | x :: a, y :: b => by
    have ih := cmpB_lt a b
    unfold Lib.compareBytes Op.bytesLess
    by_cases h : x < y
    · simp [h]
    · by_cases h' : y < x
      · have hne : ¬ x = y := fun e => by subst e; exact UInt8.lt_irrefl _ h'
        simp [h, h', hne]
      · have he : x = y := UInt8.le_antisymm (UInt8.not_lt.1 h') (UInt8.not_lt.1 h)
        subst he
        simp [h, ih]

theorem bytesOf_nums (xs : List Int) : Lib.bytesOf xs = xs.map fun n => UInt8.ofNat n.toNat := rfl

theorem run_bytesOf {w : World} {a : Option Addr} {n : Nat} {xs : List Int} (h : Rd w a n xs) (cap : Nat) :
    (Extern.Bytes.bytesOf (.slice a n cap)).run Tryz.prog w = .ok (strOfNums xs) w := by
  cases a with
  | none =>
    have h0 : n = 0 := by
      rcases Nat.eq_zero_or_pos n with h' | h'
      · exact h'
      · obtain ⟨b, o, e, _⟩ := h.pos h'
        cases e
    subst h0
    obtain rfl : xs = [] := List.eq_nil_of_length_eq_zero h.len
    rfl
  | some ad =>
    have hl := Lib.run_loadBytesX (P := Tryz.prog) w xs ad .empty (fun j x hj => by
      have hjl : j < xs.length := (List.getElem?_eq_some_iff.1 hj).1
      obtain ⟨b, o, e, hc⟩ := h.cell j (by have := h.len; omega)
      simp only [Option.some.injEq] at e
      subst e
      rw [Addr.add_lit, hc, List.getD_eq_getElem?_getD, hj]
      rfl)
    rw [h.len] at hl
    have he : (⟨ByteArray.empty.data ++ (Lib.bytesOf xs).toArray⟩ : ByteArray) = strOfNums xs := by
      apply ByteArray.ext
      show (#[] : Array UInt8) ++ (Lib.bytesOf xs).toArray = _
      simp
      rfl
    rw [he] at hl
    exact hl

theorem run_cmp {w : World} {a b : Option Addr} {n m : Nat} {xs ys : List Int} (hr : Rd w a n xs) (hs : Rd w b m ys) (c d : Nat) :
    (callFunc 115 #[.slice a n c, .slice b m d]).run Tryz.prog w = .ok (.value (.int .i64 (Lib.compareBytes (strOfNums xs).data.toList (strOfNums ys).data.toList))) w := by
  rw [run_callFunc_extern (e := Extern.BytealgCompare.compare) Tryz.func115 (by kernel_rfl) (by kernel_rfl) (by kernel_rfl) (by kernel_rfl)]
  have : (Extern.BytealgCompare.compare #[.slice a n c, .slice b m d]).run Tryz.prog w = .ok (.int .i64 (Lib.compareBytes (strOfNums xs).data.toList (strOfNums ys).data.toList)) w := by
    change Sem.run Tryz.prog (do pure (goInt (Extern.BytealgCompare.cmp (← Extern.Bytes.bytesOf (.slice a n c)) (← Extern.Bytes.bytesOf (.slice b m d))))) w = _
    simp only [Sem.run_bind, Sem.run_pure, run_bytesOf hr, run_bytesOf hs, Result.andThen]
    rw [Lib.cmp_eq]
    rfl
  rw [this]
  rfl

/-- What bytes.Compare tells. -/
def cmpK (xs ys : List Int) : Int := Lib.compareBytes (strOfNums xs).data.toList (strOfNums ys).data.toList
theorem cmpK_lt (xs ys : List Int) : cmpK xs ys < 0 ↔ ltK xs ys = true := by
  rw [cmpK, cmpB_lt, ltK, ByteArray.toList_eq, ByteArray.toList_eq]

set_option maxHeartbeats 1000000 in
theorem compareE (v u : Value) (xs ys : List Int) (w : World) (h : RV w v xs) (k : RV w u ys) :
    Calls Tryz.prog 104 #[v, u] w fun e w' => e = .returned (.int .i64 (cmpK xs ys)) ∧ w' = w := by
  obtain ⟨a, cap, rfl, hr, _, _⟩ := h
  obtain ⟨b, cap', rfl, hs, _, _⟩ := k
  have hrun := run_cmp hr hs cap cap'
  rw [← cmpK] at hrun
  generalize cmpK xs ys = r at *
  go_enter Tryz.func104, Tryz.ntmps104
  go_wp2
  go_ret
  exact ⟨rfl, rfl⟩

set_option maxHeartbeats 1000000 in
theorem compareV (v u : Value) (xs ys : List Int) (w : World) (h : RV w v xs) (k : RV w u ys) :
    Calls Tryz.prog 104 #[v, u] w fun e w' => ∃ r : Int, e = .returned (.int .i64 r) ∧ ((ltK xs ys = true ∧ r < 0) ∨ (ltK xs ys = false ∧ 0 ≤ r)) ∧ w' = w := by
  obtain ⟨a, cap, rfl, hr, _, _⟩ := h
  obtain ⟨b, cap', rfl, hs, _, _⟩ := k
  have hrun := run_cmp hr hs cap cap'
  have hlt : Lib.compareBytes (strOfNums xs).data.toList (strOfNums ys).data.toList < 0 ↔ ltK xs ys = true := by
    rw [cmpB_lt, ltK, ByteArray.toList_eq, ByteArray.toList_eq]
  generalize Lib.compareBytes (strOfNums xs).data.toList (strOfNums ys).data.toList = r at *
  have HL : Hid (r < 0 ↔ ltK xs ys = true) := hlt
  clear hlt
  go_enter Tryz.func104, Tryz.ntmps104
  go_wp2
  go_ret
  refine ⟨r, rfl, ?_, rfl⟩
  have := HL.out
  cases h : ltK xs ys
  · right
    refine ⟨rfl, ?_⟩
    rw [h] at this
    simp at this
    exact this
  · left
    exact ⟨rfl, this.2 h⟩

end Go.Proofs.YtnklnhnjmikooaaGreat

namespace Go.Proofs.YtnklnhnjmikooaaGreat
open Go.RowKit

/-- The row at i may be there. -/
def RowAt (idx : Int) (ss : List DSess) (rs : List DRow) (i : Nat) : Prop := ∀ r, rs[i]? = some r → keyB r.key = true ∧ r.val.length ≤ 20 ∧ 1 ≤ r.turned ∧ r.turned ≤ idx ∧ (r.holder = 0 ∨ ∃ (j : Nat) (s : DSess), ss[j]? = some s ∧ s.id = r.holder) ∧ ∀ p, 0 < i → rs[i - 1]? = some p → ltK p.key r.key = true
def RowsP (idx : Int) (ss : List DSess) (rs : List DRow) : Prop := rs.length ≤ 20 ∧ ∀ i, i < rs.length → RowAt idx ss rs i

theorem get_lt {α : Type} {l : List α} {i : Nat} {x : α} (h : l[i]? = some x) : i < l.length := (List.getElem?_eq_some_iff.1 h).1

set_option maxHeartbeats 2000000 in
theorem rowsOkV (rv tv lov sv lv : Value) (idx : Int) (ss : List DSess) (rs : List DRow) (w : World) (h : VRows w rv rs) (hS : VSess w sv ss) :
    Calls Tryz.prog 79 #[.agg #[.int .i64 idx, rv, tv, lov, sv, lv]] w fun e w' => e = .returned (.bool (tB (RowsP idx ss rs))) ∧ Below w.heap.size w w' := by
  have hE : ∀ w : World, ∀ o, Ext w (w.alloc o) := fun w o => World.grownBy_alloc _ _ _
  have hB : ∀ w : World, ∀ o, Below w.heap.size w (w.alloc o) := fun w o => (Below.refl _ w).alloc (Nat.le_refl _) _
  obtain ⟨C, ⟨a, cap, rfl, h1, h2, h3⟩, hC⟩ := h
  obtain ⟨D, ⟨a', cap', rfl, h1', h2', h3'⟩, hD⟩ := hS
  have HC : Hid (∀ i r, rs[i]? = some r → RV w (C i 0) r.key ∧ RV w (C i 1) r.val ∧ C i 2 = .int .i64 r.turned ∧ C i 3 = .int .i64 r.holder) := hC
  have HD : Hid (∀ i r, ss[i]? = some r → D i 0 = .int .i64 r.id ∧ D i 1 = .bool r.del) := hD
  clear hC hD
  obtain ⟨n, hn⟩ : ∃ n, n = rs.length := ⟨_, rfl⟩
  obtain ⟨m, hm⟩ : ∃ m, m = ss.length := ⟨_, rfl⟩
  rw [← hn] at h1 h3 ⊢
  rw [← hm] at h1' h3' ⊢
  have HN : Hid (n = rs.length) := hn
  have HM : Hid (m = ss.length) := hm
  clear hn hm
  unfold maxLen at h2 h2'
  by_cases h8 : (20 : Int) < n
  · have HK : Hid (tB (RowsP idx ss rs) = false) := tB_false (fun h => by have := h.1; have := HN.out; omega)
    go_enter Tryz.func79, Tryz.ntmps79
    go_wp2
    go_step3
    go_wp2
    try rw [Exit.noGoto_ret]
    go_ret
    exact ⟨by rw [HK.out]; rfl, hB _ _⟩
  have H3 : Hid (0 < n → ∃ b o, a = some ⟨b, o, none⟩ ∧ b < w.heap.size ∧ ∀ i, i < n → ∀ j, j < 4 → w.cell? ⟨b, o + i * 4 + j, none⟩ = some (C i j)) := h3
  have H3' : Hid (0 < m → ∃ b o, a' = some ⟨b, o, none⟩ ∧ b < w.heap.size ∧ ∀ i, i < m → ∀ j, j < 2 → w.cell? ⟨b, o + i * 2 + j, none⟩ = some (D i j)) := h3'
  clear h3 h3'
  go_enter Tryz.func79, Tryz.ntmps79
  go_wp2
  go_step3
  go_wp2
  go_step3
  go_wp2
  generalize hW : w.alloc _ = W
  have HW : Hid (Below w.heap.size w W ∧ Ext w W) := by rw [← hW]; exact ⟨hB _ _, hE _ _⟩
  have HQ : Hid (W.cell? ⟨w.heap.size, 0, none⟩ = some (.int .i64 idx) ∧ W.cell? ⟨w.heap.size, 1, none⟩ = some (.slice a n cap) ∧ W.cell? ⟨w.heap.size, 4, none⟩ = some (.slice a' m cap')) := by
    rw [← hW]
    exact ⟨(at_block (heap_alloc_new w _) 0 _ rfl).1, (at_block (heap_alloc_new w _) 1 _ rfl).1, (at_block (heap_alloc_new w _) 4 _ rfl).1⟩
  clear hW
  go_loopg [14] n (fun g s14 wx => ∃ k : Nat, k + g = n ∧ s14 = .int .i64 k ∧ Ext W wx ∧ Below w.heap.size w wx ∧ Hid (∀ j, j < k → RowAt idx ss rs j))
  case atStart => exact ⟨0, by omega, rfl, Ext.re _, HW.out.1, fun j hj => absurd hj (by omega)⟩
  case round =>
    obtain ⟨k, hkg, rfl, hx, hb, hall⟩ := hrel
    cases gk with
    | zero =>
      have hkz : ¬ ((k : Int) < (n : Int)) := by omega
      have HK : Hid (tB (RowsP idx ss rs) = true) := tB_true ⟨by have := HN.out; omega, fun i hi => hall.out i (by have := HN.out; omega)⟩
      clear hall
      go_wp2
      try rw [Exit.noGoto_ret]
      go_ret
      exact ⟨by rw [HK.out]; rfl, hb⟩
    | succ g =>
      have hkz : (k : Int) < (n : Int) := by omega
      obtain ⟨b, o, rfl, hbl, hc⟩ := H3.out (by omega)
      obtain ⟨r, hr⟩ : ∃ r, rs[k]? = some r := ⟨_, List.getElem?_eq_getElem (by have := HN.out; omega)⟩
      obtain ⟨rk, ru, e2, e3⟩ := HC.out k r hr
      have X := HW.out.2.tr hx
      have c0 := World.grownBy.cell X (hc k (by omega) 0 (by omega)) (by simp)
      have c1 := World.grownBy.cell X (hc k (by omega) 1 (by omega)) (by simp)
      have c2 := World.grownBy.cell X (hc k (by omega) 2 (by omega)) (by simp)
      have c3 := World.grownBy.cell X (hc k (by omega) 3 (by omega)) (by simp)
      have RK : ∀ ob, RV (wr.alloc ob) (C k 0) r.key := fun ob => (rk.ext X).ext (hE _ _)
      have RU : ∀ ob, RV (wr.alloc ob) (C k 1) r.val := fun ob => (ru.ext X).ext (hE _ _)
      obtain ⟨ka, kc, ek, _, _, _⟩ := rk
      obtain ⟨va, vc, ev, _, _, _⟩ := ru
      rw [Nat.add_zero, ek] at c0
      rw [ev] at c1
      rw [e2] at c2
      rw [e3] at c3
      rw [ek] at RK
      rw [ev] at RU
      obtain ⟨Q0, Q1, Q4⟩ := HQ.out
      have g0 : ∀ ob, (wr.alloc ob).cell? ⟨w.heap.size, 0, none⟩ = some (.int .i64 idx) := fun ob => World.grownBy.cell (hx.tr (hE wr ob)) Q0 (by simp)
      have g1 : ∀ ob, (wr.alloc ob).cell? ⟨w.heap.size, 1, none⟩ = some (.slice (some ⟨b, o, none⟩) n cap) := fun ob => World.grownBy.cell (hx.tr (hE wr ob)) Q1 (by simp)
      have g4 : ∀ ob, (wr.alloc ob).cell? ⟨w.heap.size, 4, none⟩ = some (.slice a' m cap') := fun ob => World.grownBy.cell (hx.tr (hE wr ob)) Q4 (by simp)
      clear Q0 Q1 Q4 ek ev e2 e3
      have HX2 : Hid (∀ ob, Ext W (wr.alloc ob)) := fun ob => hx.tr (hE _ _)
      have HB2 : Hid (∀ ob, Below w.heap.size w (wr.alloc ob)) := fun ob => hb.alloc hb.size _
      have HKC : Hid (∀ i, i < n → wr.cell? ⟨b, o + i * 4, none⟩ = some (C i 0)) := fun i hi => World.grownBy.cell X (hc i hi 0 (by omega)) (by simp)
      have HKF : Hid (¬ RowAt idx ss rs k → tB (RowsP idx ss rs) = false) := fun h => tB_false (fun h' => h (h'.2 k (by have := HN.out; omega)))
      have HXX : Hid (Ext w wr) := X
      clear hc hx hb X
      obtain ⟨kl, K0⟩ : ∃ kl, kl = r.key.length := ⟨_, rfl⟩
      rw [← K0] at c0 RK
      obtain ⟨ul, U0⟩ : ∃ ul, ul = r.val.length := ⟨_, rfl⟩
      rw [← U0] at c1 RU
      have HU0 : Hid (ul = r.val.length) := U0
      clear K0 U0
      obtain ⟨b1, K1⟩ : ∃ c, keyB r.key = c := ⟨_, rfl⟩
      obtain ⟨b2, K2⟩ : ∃ c, decide (r.val.length ≤ 20) = c := ⟨_, rfl⟩
      obtain ⟨b3, K3⟩ : ∃ c, inB r.turned 1 idx = c := ⟨_, rfl⟩
      by_cases hbb : b1 = true ∧ b2 = true ∧ b3 = true
      case neg =>
        have HK : Hid (tB (RowsP idx ss rs) = false) := HKF.out (fun h => by
          obtain ⟨a1, a2, a3, a4, _⟩ := h r hr
          refine hbb ⟨K1.symm.trans a1, K2.symm.trans (decide_eq_true a2), ?_⟩
          rw [← K3]
          unfold inB
          rw [decide_eq_true a3, decide_eq_true a4]
          rfl)
        clear hall HKF hr
        cases b1
        · clear hbb
          go_wp2_with (first
            | (go_at_call 102; refine (keyOkV _ r.key _ (RK _)).mono ?_; rintro e w1 ⟨rfl, rfl⟩; rw [K1])
            | (go_at_call 103; refine (valueOkV _ r.val _ (RU _)).mono ?_; rintro e w1 ⟨rfl, rfl⟩; rw [K2])
            | (go_at_call 53; refine (withinV _ _ _ _).mono ?_; rintro e w1 ⟨rfl, rfl⟩; rw [K3]))
          try rw [Exit.noGoto_ret]
          go_ret
          exact ⟨by rw [HK.out]; rfl, HB2.out _⟩
        cases b2
        · clear hbb
          go_wp2_with (first
            | (go_at_call 102; refine (keyOkV _ r.key _ (RK _)).mono ?_; rintro e w1 ⟨rfl, rfl⟩; rw [K1])
            | (go_at_call 103; refine (valueOkV _ r.val _ (RU _)).mono ?_; rintro e w1 ⟨rfl, rfl⟩; rw [K2])
            | (go_at_call 53; refine (withinV _ _ _ _).mono ?_; rintro e w1 ⟨rfl, rfl⟩; rw [K3]))
          try rw [Exit.noGoto_ret]
          go_ret
          exact ⟨by rw [HK.out]; rfl, HB2.out _⟩
        cases b3
        · clear hbb
          go_wp2_with (first
            | (go_at_call 102; refine (keyOkV _ r.key _ (RK _)).mono ?_; rintro e w1 ⟨rfl, rfl⟩; rw [K1])
            | (go_at_call 103; refine (valueOkV _ r.val _ (RU _)).mono ?_; rintro e w1 ⟨rfl, rfl⟩; rw [K2])
            | (go_at_call 53; refine (withinV _ _ _ _).mono ?_; rintro e w1 ⟨rfl, rfl⟩; rw [K3]))
          try rw [Exit.noGoto_ret]
          go_ret
          exact ⟨by rw [HK.out]; rfl, HB2.out _⟩
        exact absurd ⟨rfl, rfl, rfl⟩ hbb
      case pos =>
        obtain ⟨rfl, rfl, rfl⟩ := hbb
        have HT : Hid (1 ≤ r.turned ∧ r.turned ≤ idx ∧ r.val.length ≤ 20) := by
          unfold inB at K3
          simp only [Bool.and_eq_true, decide_eq_true_eq] at K3
          exact ⟨K3.1, K3.2, of_decide_eq_true K2⟩
        by_cases hk0 : k = 0
        · have HO : Hid (∀ p, 0 < k → rs[k - 1]? = some p → ltK p.key r.key = true) := fun p h => absurd h (by omega)
          have hkd : decide (0 < k) = false := by simp; omega
          clear hk0
          by_cases hh : r.holder = 0
          · rw [hh] at c3
            have HA : Hid (∀ j, j < k + 1 → RowAt idx ss rs j) := fun j hj => by
              by_cases e : j = k
              · subst e
                intro r' hr'
                rw [hr] at hr'
                cases hr'
                exact ⟨K1, HT.out.2.2, HT.out.1, HT.out.2.1, .inl hh, HO.out⟩
              · exact hall.out j (by omega)
            clear hall hh
            go_wp2_with (first
              | (go_at_call 102; refine (keyOkV _ r.key _ (RK _)).mono ?_; rintro e w1 ⟨rfl, rfl⟩; rw [K1])
              | (go_at_call 103; refine (valueOkV _ r.val _ (RU _)).mono ?_; rintro e w1 ⟨rfl, rfl⟩; rw [K2])
              | (go_at_call 53; refine (withinV _ _ _ _).mono ?_; rintro e w1 ⟨rfl, rfl⟩; rw [K3]))
            go_quiet (fail)
            go_wp2
            go_roundg g
            case measure => omega
            case rel => exact ⟨k + 1, by omega, by first | rfl | simp, (HX2.out _).tr (ext_drewN _ _), below_drewN (HB2.out _) _, HA⟩
          · have hh' : (r.holder == 0) = false := by simpa using hh
            go_wp2_with (first
              | (go_at_call 102; refine (keyOkV _ r.key _ (RK _)).mono ?_; rintro e w1 ⟨rfl, rfl⟩; rw [K1])
              | (go_at_call 103; refine (valueOkV _ r.val _ (RU _)).mono ?_; rintro e w1 ⟨rfl, rfl⟩; rw [K2])
              | (go_at_call 53; refine (withinV _ _ _ _).mono ?_; rintro e w1 ⟨rfl, rfl⟩; rw [K3]))
            go_quiet (fail)
            go_wp2
            generalize hV : (wr.alloc _).drewN _ = V
            have HV : Hid (Ext W V ∧ Below w.heap.size w V ∧ Ext w V) := by rw [← hV]; exact ⟨(HX2.out _).tr (ext_drewN _ _), below_drewN (HB2.out _) _, (HXX.out.tr (hE _ _)).tr (ext_drewN _ _)⟩
            have HV3 : Hid (V.cell? ⟨wr.heap.size, 3, none⟩ = some (.int .i64 r.holder)) := by rw [← hV]; exact (at_block (heap_alloc_new wr _) 3 _ rfl).1
            clear hV c0 c1 c2 c3 g0 g1 g4 RK RU HKC HX2 HB2
            go_loopg [58] m (fun g2 s58 wy => ∃ j : Nat, j + g2 = m ∧ s58 = .int .i64 j ∧ Ext V wy ∧ Below w.heap.size w wy ∧ Hid (∀ i s, i < j → ss[i]? = some s → s.id ≠ r.holder))
            case atStart => exact ⟨0, by omega, rfl, Ext.re _, HV.out.2.1, fun i s hi => absurd hi (by omega)⟩
            case round =>
              obtain ⟨j, hjg, rfl, hx3, hb3, hno⟩ := hrel
              cases gk with
              | zero =>
                have hjz : ¬ ((j : Int) < (m : Int)) := by omega
                have HK : Hid (tB (RowsP idx ss rs) = false) := HKF.out (fun h => by
                  obtain ⟨_, _, _, _, a5, _⟩ := h r hr
                  rcases a5 with a5 | ⟨i, s, hi, hs⟩
                  · exact hh a5
                  · exact hno.out i s (by have := get_lt hi; have := HM.out; omega) hi hs)
                clear hall hno
                go_wp2
                try rw [Exit.noGoto_ret]
                go_ret
                exact ⟨by rw [HK.out]; rfl, hb3⟩
              | succ g2 =>
                have hjz : (j : Int) < (m : Int) := by omega
                obtain ⟨b', o', rfl, hbl', hd⟩ := H3'.out (by omega)
                obtain ⟨s, hs⟩ : ∃ s, ss[j]? = some s := ⟨_, List.getElem?_eq_getElem (by have := HM.out; omega)⟩
                obtain ⟨f0, f1⟩ := HD.out j s hs
                have d0 := World.grownBy.cell (HV.out.2.2.tr hx3) (hd j (by omega) 0 (by omega)) (by simp)
                have d1 := World.grownBy.cell (HV.out.2.2.tr hx3) (hd j (by omega) 1 (by omega)) (by simp)
                rw [f0, Nat.add_zero] at d0
                rw [f1] at d1
                have g3 := fun ob => World.grownBy.cell (hx3.tr (hE wr ob)) HV3.out (by simp)
                clear hd f0 f1
                by_cases hid : s.id = r.holder
                · have HA : Hid (∀ j, j < k + 1 → RowAt idx ss rs j) := fun i hi => by
                    by_cases e : i = k
                    · subst e
                      intro r' hr'
                      rw [hr] at hr'
                      cases hr'
                      exact ⟨K1, HT.out.2.2, HT.out.1, HT.out.2.1, .inr ⟨j, s, hs, hid⟩, HO.out⟩
                    · exact hall.out i (by omega)
                  rw [hid] at d0
                  clear hall hno hid
                  go_wp2
                  go_roundg g
                  case measure => omega
                  case rel => exact ⟨k + 1, by omega, by first | rfl | simp, HV.out.1.tr (hx3.tr (hE _ _)), hb3.alloc hb3.size _, HA⟩
                · have HNo : Hid (∀ i s, i < j + 1 → ss[i]? = some s → s.id ≠ r.holder) := fun i s' hi hs' => by
                    by_cases e : i = j
                    · subst e
                      rw [hs] at hs'
                      cases hs'
                      exact hid
                    · exact hno.out i s' (by omega) hs'
                  have hid' : (s.id == r.holder) = false := by simpa using hid
                  clear hno hid
                  go_wp2
                  go_roundg g2
                  case measure => omega
                  case rel => exact ⟨j + 1, by omega, by first | rfl | simp, hx3.tr (hE _ _), hb3.alloc hb3.size _, HNo⟩
        · obtain ⟨k', rfl⟩ : ∃ k', k = k' + 1 := ⟨k - 1, by omega⟩
          obtain ⟨p, hp⟩ : ∃ p, rs[k']? = some p := ⟨_, List.getElem?_eq_getElem (by have := HN.out; omega)⟩
          have hk1 : (k' : Int) < (n : Int) := by omega
          obtain ⟨rp, _, _, _⟩ := HC.out k' p hp
          have RP : ∀ ob q, RV ((wr.alloc ob).drewN q) (C k' 0) p.key := fun ob q => ((rp.ext HXX.out).ext (hE _ _)).ext (ext_drewN _ _)
          have RK2 : ∀ ob q, RV ((wr.alloc ob).drewN q) (.slice ka kl kc) r.key := fun ob q => (RK ob).ext (ext_drewN _ _)
          have hkd : decide ((0 : Int) < (k' : Int) + 1) = true := decide_eq_true (by omega)
          have p0 : ∀ ob, (wr.alloc ob).cell? ⟨b, o + k' * 4, none⟩ = some (C k' 0) := fun ob => World.grownBy.cell (hE wr ob) (HKC.out k' (by omega)) (by simp)
          obtain ⟨pa, pc, ep, _, _, _⟩ := rp
          rw [ep] at RP p0
          clear ep
          obtain ⟨b4, K4⟩ : ∃ c, ltK p.key r.key = c := ⟨_, rfl⟩
          cases b4
          · have HK : Hid (tB (RowsP idx ss rs) = false) := HKF.out (fun h => by
              obtain ⟨_, _, _, _, _, a6⟩ := h r hr
              have := a6 p (by omega) hp
              rw [K4] at this
              cases this)
            have hcd : decide (0 ≤ cmpK p.key r.key) = true := by
              have := cmpK_lt p.key r.key
              rw [K4] at this
              simp at this
              simpa using this
            clear hall HKF hr hp
            go_wp2_with (first
              | (go_at_call 102; refine (keyOkV _ r.key _ (RK _)).mono ?_; rintro e w1 ⟨rfl, rfl⟩; rw [K1])
              | (go_at_call 103; refine (valueOkV _ r.val _ (RU _)).mono ?_; rintro e w1 ⟨rfl, rfl⟩; rw [K2])
              | (go_at_call 53; refine (withinV _ _ _ _).mono ?_; rintro e w1 ⟨rfl, rfl⟩; rw [K3]))
            go_quiet ((go_at_call 104; exact Calls.quiet_of_same (compareE _ _ p.key r.key _ (RP _ _) (RK2 _ _))))
            go_wp2
            try rw [Exit.noGoto_ret]
            go_ret
            exact ⟨by rw [HK.out]; rfl, below_drewN (HB2.out _) _⟩
          · have HO : Hid (∀ q, 0 < k' + 1 → rs[k' + 1 - 1]? = some q → ltK q.key r.key = true) := fun q _ hq => by
              rw [Nat.add_sub_cancel, hp] at hq
              cases hq
              exact K4
            have hcd : decide (0 ≤ cmpK p.key r.key) = false := by
              have := (cmpK_lt p.key r.key).2 K4
              simp
              omega
            clear hp
            by_cases hh : r.holder = 0
            · rw [hh] at c3
              have HA : Hid (∀ j, j < (k' + 1) + 1 → RowAt idx ss rs j) := fun j hj => by
                by_cases e : j = (k' + 1)
                · subst e
                  intro r' hr'
                  rw [hr] at hr'
                  cases hr'
                  exact ⟨K1, HT.out.2.2, HT.out.1, HT.out.2.1, .inl hh, HO.out⟩
                · exact hall.out j (by omega)
              clear hall hh
              go_wp2_with (first
                | (go_at_call 102; refine (keyOkV _ r.key _ (RK _)).mono ?_; rintro e w1 ⟨rfl, rfl⟩; rw [K1])
                | (go_at_call 103; refine (valueOkV _ r.val _ (RU _)).mono ?_; rintro e w1 ⟨rfl, rfl⟩; rw [K2])
                | (go_at_call 53; refine (withinV _ _ _ _).mono ?_; rintro e w1 ⟨rfl, rfl⟩; rw [K3]))
              go_quiet ((go_at_call 104; exact Calls.quiet_of_same (compareE _ _ p.key r.key _ (RP _ _) (RK2 _ _))))
              go_wp2
              go_roundg g
              case measure => omega
              case rel => exact ⟨(k' + 1) + 1, by omega, by first | rfl | simp, (HX2.out _).tr (ext_drewN _ _), below_drewN (HB2.out _) _, HA⟩
            · have hh' : (r.holder == 0) = false := by simpa using hh
              go_wp2_with (first
                | (go_at_call 102; refine (keyOkV _ r.key _ (RK _)).mono ?_; rintro e w1 ⟨rfl, rfl⟩; rw [K1])
                | (go_at_call 103; refine (valueOkV _ r.val _ (RU _)).mono ?_; rintro e w1 ⟨rfl, rfl⟩; rw [K2])
                | (go_at_call 53; refine (withinV _ _ _ _).mono ?_; rintro e w1 ⟨rfl, rfl⟩; rw [K3]))
              go_quiet ((go_at_call 104; exact Calls.quiet_of_same (compareE _ _ p.key r.key _ (RP _ _) (RK2 _ _))))
              go_wp2
              generalize hV : (wr.alloc _).drewN _ = V
              have HV : Hid (Ext W V ∧ Below w.heap.size w V ∧ Ext w V) := by rw [← hV]; exact ⟨(HX2.out _).tr (ext_drewN _ _), below_drewN (HB2.out _) _, (HXX.out.tr (hE _ _)).tr (ext_drewN _ _)⟩
              have HV3 : Hid (V.cell? ⟨wr.heap.size, 3, none⟩ = some (.int .i64 r.holder)) := by rw [← hV]; exact (at_block (heap_alloc_new wr _) 3 _ rfl).1
              clear hV c0 c1 c2 c3 g0 g1 g4 RK RU HKC HX2 HB2
              go_loopg [58] m (fun g2 s58 wy => ∃ j : Nat, j + g2 = m ∧ s58 = .int .i64 j ∧ Ext V wy ∧ Below w.heap.size w wy ∧ Hid (∀ i s, i < j → ss[i]? = some s → s.id ≠ r.holder))
              case atStart => exact ⟨0, by omega, rfl, Ext.re _, HV.out.2.1, fun i s hi => absurd hi (by omega)⟩
              case round =>
                obtain ⟨j, hjg, rfl, hx3, hb3, hno⟩ := hrel
                cases gk with
                | zero =>
                  have hjz : ¬ ((j : Int) < (m : Int)) := by omega
                  have HK : Hid (tB (RowsP idx ss rs) = false) := HKF.out (fun h => by
                    obtain ⟨_, _, _, _, a5, _⟩ := h r hr
                    rcases a5 with a5 | ⟨i, s, hi, hs⟩
                    · exact hh a5
                    · exact hno.out i s (by have := get_lt hi; have := HM.out; omega) hi hs)
                  clear hall hno
                  go_wp2
                  try rw [Exit.noGoto_ret]
                  go_ret
                  exact ⟨by rw [HK.out]; rfl, hb3⟩
                | succ g2 =>
                  have hjz : (j : Int) < (m : Int) := by omega
                  obtain ⟨b', o', rfl, hbl', hd⟩ := H3'.out (by omega)
                  obtain ⟨s, hs⟩ : ∃ s, ss[j]? = some s := ⟨_, List.getElem?_eq_getElem (by have := HM.out; omega)⟩
                  obtain ⟨f0, f1⟩ := HD.out j s hs
                  have d0 := World.grownBy.cell (HV.out.2.2.tr hx3) (hd j (by omega) 0 (by omega)) (by simp)
                  have d1 := World.grownBy.cell (HV.out.2.2.tr hx3) (hd j (by omega) 1 (by omega)) (by simp)
                  rw [f0, Nat.add_zero] at d0
                  rw [f1] at d1
                  have g3 := fun ob => World.grownBy.cell (hx3.tr (hE wr ob)) HV3.out (by simp)
                  clear hd f0 f1
                  by_cases hid : s.id = r.holder
                  · have HA : Hid (∀ j, j < (k' + 1) + 1 → RowAt idx ss rs j) := fun i hi => by
                      by_cases e : i = (k' + 1)
                      · subst e
                        intro r' hr'
                        rw [hr] at hr'
                        cases hr'
                        exact ⟨K1, HT.out.2.2, HT.out.1, HT.out.2.1, .inr ⟨j, s, hs, hid⟩, HO.out⟩
                      · exact hall.out i (by omega)
                    rw [hid] at d0
                    clear hall hno hid
                    go_wp2
                    go_roundg g
                    case measure => omega
                    case rel => exact ⟨(k' + 1) + 1, by omega, by first | rfl | simp, HV.out.1.tr (hx3.tr (hE _ _)), hb3.alloc hb3.size _, HA⟩
                  · have HNo : Hid (∀ i s, i < j + 1 → ss[i]? = some s → s.id ≠ r.holder) := fun i s' hi hs' => by
                      by_cases e : i = j
                      · subst e
                        rw [hs] at hs'
                        cases hs'
                        exact hid
                      · exact hno.out i s' (by omega) hs'
                    have hid' : (s.id == r.holder) = false := by simpa using hid
                    clear hno hid
                    go_wp2
                    go_roundg g2
                    case measure => omega
                    case rel => exact ⟨j + 1, by omega, by first | rfl | simp, hx3.tr (hE _ _), hb3.alloc hb3.size _, HNo⟩
end Go.Proofs.YtnklnhnjmikooaaGreat

namespace Go.Proofs.YtnklnhnjmikooaaGreat
open Go.RowKit Go.Maps Go.WideMaps

/-- The tomb at i may be there. -/
def TombAt (idx lost : Int) (rs : List DRow) (ts : List DTomb) (i : Nat) : Prop := ∀ t, ts[i]? = some t → keyB t.key = true ∧ (∀ (j : Nat) (r : DRow), rs[j]? = some r → r.key ≠ t.key) ∧ (∀ (j : Nat) (p : DTomb), j < i → ts[j]? = some p → p.key ≠ t.key) ∧ 1 ≤ t.index ∧ t.index ≤ idx ∧ lost ≤ t.index ∧ ∀ p, 0 < i → ts[i - 1]? = some p → p.index ≤ t.index
def TombsP (idx lost : Int) (rs : List DRow) (ts : List DTomb) : Prop := ts.length ≤ 10 ∧ ∀ i, i < ts.length → TombAt idx lost rs ts i

theorem law9 : Keyed Tryz.prog 9 := string_keyed Tryz.underlying9
theorem zero3 (w : World) : (zeroValue 3).run Tryz.prog w = .ok (.int .i64 0) w := by kernel_rfl

/-- A text as a map's key. -/
def kl (xs : List Int) : Lit := .string (strOfNums xs).data.toList
theorem kl_inj {xs ys : List Int} (hx : ∀ x ∈ xs, 0 ≤ x ∧ x ≤ 255) (hy : ∀ x ∈ ys, 0 ≤ x ∧ x ≤ 255) (h : kl xs = kl ys) : xs = ys := by
  unfold kl at h
  simp only [Lit.string.injEq, strOfNums_data] at h
  exact nums_inj xs ys hx hy h
theorem kl_of {xs : List Int} (h : xs.length ≤ maxLen) : keyOf Tryz.prog 9 (.string (strOfNums xs)) = some (kl xs) := keyOf_string_mk Tryz.underlying9 (by rw [strOfNums_size]; exact h)
theorem kl_isKey {xs : List Int} (h : xs.length ≤ maxLen) : WideAt.IsKeyLit (kl xs) := by
  have := law9.key (kl_of h)
  exact this

/-- The map counts the texts that were seen. -/
def Cnt (D : DataW Unit) (seen : List (List Int)) : Prop := ∀ ys : List Int, (∀ x ∈ ys, 0 ≤ x ∧ x ≤ 255) → ∃ c : Int, D.atKey (kl ys) (.lit (.int .i64 0)) = .lit (.int .i64 c) ∧ 0 ≤ c ∧ c ≤ seen.length ∧ (0 < c ↔ ys ∈ seen)
theorem cnt_nil : Cnt (.map []) [] := fun ys _ => ⟨0, rfl, by omega, by simp, by simp⟩
theorem Cnt.put {D : DataW Unit} {seen : List (List Int)} {xs : List Int} {c : Int} (h : Cnt D seen) (hm : IsMap D) (hx : ∀ x ∈ xs, 0 ≤ x ∧ x ≤ 255) (hl : xs.length ≤ maxLen) (hc : D.atKey (kl xs) (.lit (.int .i64 0)) = .lit (.int .i64 c)) :
    Cnt (D.put (kl xs) (.lit (.int .i64 (c + 1)))) (seen ++ [xs]) := by
  intro ys hy
  by_cases e : ys = xs
  · subst e
    obtain ⟨c', h1, h2, h3, h4⟩ := h ys hy
    rw [hc] at h1
    simp only [DataW.lit.injEq, Lit.int.injEq, true_and] at h1
    subst h1
    refine ⟨c + 1, atKey_put_same hm (kl_isKey hl) _ _, by omega, by simp; omega, by simp; omega⟩
  · obtain ⟨c', h1, h2, h3, h4⟩ := h ys hy
    refine ⟨c', ?_, h2, by simp; omega, by rw [h4]; simp [e]⟩
    rw [atKey_put_other (fun hk => e (kl_inj hy hx hk))]
    exact h1

theorem run_max2 (x y : Int) (W : World) : (Builtin.max_ #[3, 3] 3 #[.int .i64 x, .int .i64 y]).run Tryz.prog W = .ok (.int .i64 (max x y)) W := by
  simp [Builtin.max_, Builtin.max2, go_sem]
  rw [Int.max_def]
  split <;> split <;> omega

/-- The least Index that comes next. -/
def leastT (lost : Int) (ts : List DTomb) (k : Nat) : Int := match ts[k - 1]? with | some p => if k = 0 then max lost 1 else p.index | none => max lost 1

theorem tombAt_iff {idx lost : Int} {rs : List DRow} {ts : List DTomb} {k : Nat} {t : DTomb} {c : Int} (hs : ts[k]? = some t) (hall : ∀ j, j < k → TombAt idx lost rs ts j) (hc : 0 < c ↔ t.key ∈ rs.map (·.key) ++ (ts.take k).map (·.key)) :
    TombAt idx lost rs ts k ↔ (keyB t.key = true ∧ ¬ 0 < c ∧ inB t.index (leastT lost ts k) idx = true) := by
  unfold inB
  simp only [Bool.and_eq_true, decide_eq_true_eq, hc, List.mem_append, List.mem_map, not_or, not_exists, not_and]
  constructor
  · intro h
    obtain ⟨a1, a2, a3, a4, a5, a6, a7⟩ := h t hs
    refine ⟨a1, ⟨fun r hr => ?_, fun p hp => ?_⟩, ?_, a5⟩
    · obtain ⟨j, hj, e⟩ := List.getElem_of_mem hr
      exact a2 j r (by rw [List.getElem?_eq_getElem hj, e])
    · obtain ⟨j, hj, e⟩ := List.getElem_of_mem hp
      have hj' : j < k ∧ j < ts.length := by simp at hj; omega
      refine a3 j p hj'.1 ?_
      rw [List.getElem?_eq_getElem hj'.2, ← e, List.getElem_take]
    · unfold leastT
      split
      · rename_i p hp
        by_cases j0 : k = 0
        · rw [if_pos j0]; omega
        · rw [if_neg j0]; exact a7 p (by omega) hp
      · omega
  · rintro ⟨b1, ⟨b2, b3⟩, b4, b5⟩ t' ht'
    rw [hs] at ht'
    cases ht'
    have hl : max lost 1 ≤ t.index ∧ ∀ p, 0 < k → ts[k - 1]? = some p → p.index ≤ t.index := by
      unfold leastT at b4
      split at b4
      · rename_i p hp
        by_cases j0 : k = 0
        · rw [if_pos j0] at b4; exact ⟨b4, fun _ h => absurd h (by omega)⟩
        · rw [if_neg j0] at b4
          obtain ⟨_, _, _, q1, _, q2, _⟩ := hall (k - 1) (by omega) p hp
          exact ⟨by omega, fun p' _ hp' => by rw [hp] at hp'; cases hp'; exact b4⟩
      · rename_i hp
        exact ⟨b4, fun p' _ hp' => by rw [hp] at hp'; cases hp'⟩
    refine ⟨b1, fun j r hr => b2 r (List.mem_of_getElem? hr), fun j p hj hp => b3 p ?_, by omega, b5, by omega, hl.2⟩
    exact List.mem_of_getElem? (by rw [List.getElem?_take_of_lt hj]; exact hp)

set_option maxHeartbeats 2000000 in
theorem tombsOkV (rv tv sv lv : Value) (idx lost : Int) (rs : List DRow) (ts : List DTomb) (w : World) (h : VRows w rv rs) (hS : VTombs w tv ts) (hrl : rs.length ≤ 20) :
    Calls Tryz.prog 80 #[.agg #[.int .i64 idx, rv, tv, .int .i64 lost, sv, lv]] w fun e w' => e = .returned (.bool (tB (TombsP idx lost rs ts))) ∧ Below w.heap.size w w' := by
  have hE : ∀ w : World, ∀ o, Ext w (w.alloc o) := fun w o => World.grownBy_alloc _ _ _
  have hB : ∀ w : World, ∀ o, Below w.heap.size w (w.alloc o) := fun w o => (Below.refl _ w).alloc (Nat.le_refl _) _
  obtain ⟨C, ⟨a, cap, rfl, h1, h2, h3⟩, hC⟩ := h
  obtain ⟨D, ⟨a', cap', rfl, h1', h2', h3'⟩, hD⟩ := hS
  have HC : Hid (∀ i r, rs[i]? = some r → RV w (C i 0) r.key ∧ RV w (C i 1) r.val ∧ C i 2 = .int .i64 r.turned ∧ C i 3 = .int .i64 r.holder) := hC
  have HD : Hid (∀ i r, ts[i]? = some r → RV w (D i 0) r.key ∧ D i 1 = .int .i64 r.index) := hD
  clear hC hD
  obtain ⟨n, hn⟩ : ∃ n, n = rs.length := ⟨_, rfl⟩
  obtain ⟨m, hm⟩ : ∃ m, m = ts.length := ⟨_, rfl⟩
  rw [← hn] at h1 h3 hrl ⊢
  rw [← hm] at h1' h3' ⊢
  have HN : Hid (n = rs.length) := hn
  have HM : Hid (m = ts.length) := hm
  clear hn hm
  unfold maxLen at h2 h2'
  have hmm := @run_makeMap Tryz.prog
  by_cases h8 : (10 : Int) < m
  · have HK : Hid (tB (TombsP idx lost rs ts) = false) := tB_false (fun h => by have := h.1; have := HM.out; omega)
    go_enter Tryz.func80, Tryz.ntmps80
    go_wp2
    go_ret
    exact ⟨by rw [HK.out]; rfl, hB _ _⟩
  have H3 : Hid (0 < n → ∃ b o, a = some ⟨b, o, none⟩ ∧ b < w.heap.size ∧ ∀ i, i < n → ∀ j, j < 4 → w.cell? ⟨b, o + i * 4 + j, none⟩ = some (C i j)) := h3
  have H3' : Hid (0 < m → ∃ b o, a' = some ⟨b, o, none⟩ ∧ b < w.heap.size ∧ ∀ i, i < m → ∀ j, j < 2 → w.cell? ⟨b, o + i * 2 + j, none⟩ = some (D i j)) := h3'
  clear h3 h3'
  have HE : Hid (∀ w : World, ∀ o, Ext w (w.alloc o)) := hE
  have HBl : Hid (∀ w : World, ∀ o, Below w.heap.size w (w.alloc o)) := hB
  clear hE hB
  go_enter Tryz.func80, Tryz.ntmps80
  go_wp2
  have HP : Hid (∀ (W : World), W.heap[w.heap.size]? = some (.cells #[.int .i64 idx, .slice a n cap, .slice a' m cap', .int .i64 lost, sv, lv] 48 (0, 0)) → W.cell? ⟨w.heap.size, 0, none⟩ = some (.int .i64 idx) ∧ W.cell? ⟨w.heap.size, 2, none⟩ = some (.slice a' m cap') ∧ W.cell? ⟨w.heap.size, 3, none⟩ = some (.int .i64 lost)) :=
    fun W h => ⟨(at_block h 0 _ rfl).1, (at_block h 2 _ rfl).1, (at_block h 3 _ rfl).1⟩
  go_loopw [17] (fun i wr => ∃ k : Nat, k ≤ n ∧ i = .int .i64 k ∧ Below w.heap.size w wr ∧ w.heap.size + 1 < wr.heap.size ∧ Hid (wr.heap[w.heap.size]? = some (.cells #[.int .i64 idx, .slice a n cap, .slice a' m cap', .int .i64 lost, sv, lv] 48 (0, 0))) ∧ ∃ Dm, wr.ownsMap Tryz.prog 9 (plainElem (H := Unit) Tryz.prog 3) (w.heap.size + 1) k Dm ∧ Hid (Cnt Dm ((rs.take k).map (·.key)))) (fun i _ => n - (intOf i).toNat)
  case atStart =>
    refine ⟨0, Nat.zero_le _, rfl, ((HBl.out _ _).trans ((HBl.out _ _).mono (by simp))), by simp, ?_, .map [], ?_, cnt_nil⟩
    · exact (Below.heap_alloc _ _ _ (by simp)).trans (heap_alloc_new w _)
    · have := World.ownsMap_made (H := Unit) (w.alloc (.cells #[.int .i64 idx, .slice a n cap, .slice a' m cap', .int .i64 lost, sv, lv] 48 (0, 0))) Tryz.prog 9 (plainElem Tryz.prog 3)
      simpa using this
  case round =>
    obtain ⟨k, hk, rfl, hb, hsz, hp, Dm, hown, hcnt⟩ := hrel
    by_cases hlt : k < n
    · obtain ⟨b, o, rfl, hbl, hc⟩ := H3.out (by omega)
      obtain ⟨r, hr⟩ : ∃ r, rs[k]? = some r := ⟨_, List.getElem?_eq_getElem (by have := HN.out; omega)⟩
      obtain ⟨rk, ru, e2, e3⟩ := HC.out k r hr
      have X := ext_below hb
      have c0 := World.grownBy.cell X (hc k hlt 0 (by omega)) (by simp)
      have c1 := World.grownBy.cell X (hc k hlt 1 (by omega)) (by simp)
      have c2 := World.grownBy.cell X (hc k hlt 2 (by omega)) (by simp)
      have c3 := World.grownBy.cell X (hc k hlt 3 (by omega)) (by simp)
      obtain ⟨ka, kc, ek, krd, kl1, kl2⟩ := rk
      obtain ⟨va, vc, ev, _, _, _⟩ := ru
      rw [Nat.add_zero, ek] at c0
      rw [ev] at c1
      rw [e2] at c2
      rw [e3] at c3
      have hklen : r.key.length ≤ maxLen := Nat.le_trans kl1 kl2
      have hrng := krd.rng
      have hkey := kl_of hklen
      have hcv : ∀ ob, (convert 93 9 (.slice ka r.key.length kc)).run Tryz.prog (wr.alloc ob) = .ok (.string (strOfNums r.key)) (wr.alloc ob) := fun ob => convR ((krd.grown X).grown (HE.out _ _)) kc
      obtain ⟨c, hat, hc0, hcl, _⟩ := hcnt.out r.key hrng
      have hcl2 : c ≤ 20 := by simp at hcl; omega
      have HCN : Hid (Cnt (Dm.put (kl r.key) (.lit (.int .i64 (c + 1)))) ((rs.take (k + 1)).map (·.key))) := by
        have := hcnt.out.put hown.isMap hrng hklen hat
        show Cnt _ _
        rw [List.take_add_one, hr]
        simpa using this
      have hrun : ∀ ob, (Instr.lookup 155 (.map (some (w.heap.size + 1))) (.string (strOfNums r.key)) false).run Tryz.prog (wr.alloc ob) = .ok (.int .i64 c) (wr.alloc ob) := fun ob => by
        obtain ⟨c', h1, h2, _⟩ := (hown.alloc ob).lookup_int law9 Tryz.underlying155 Tryz.underlying3 (zero3 _) hkey
        rw [hat] at h2
        simp only [DataW.lit.injEq, Lit.int.injEq, true_and] at h2
        rw [h2]
        exact h1
      have HF : Hid (Below w.heap.size w wr ∧ w.heap.size + 1 < wr.heap.size) := ⟨hb, hsz⟩
      have HKY : Hid (keyOf Tryz.prog 9 (.string (strOfNums r.key)) = some (kl r.key)) := hkey
      clear hc X ek ev e2 e3 krd kl1 kl2 hat hcnt hcl hb hsz hkey
      generalize strOfNums r.key = s at *
      generalize r.key.length = rl at *
      have hlt' : (k : Int) < (n : Int) := by omega
      go_wp2_with (first
        | (at_mapUpdate; refine wpList_mapUpdate_own _ rfl _ _ _ 155 rfl 9 3 law9 Tryz.underlying155 _ (w.heap.size + 1) k _ rfl (hown.alloc _) (by unfold maxLen; omega) _ _ _ rfl rfl HKY.out _ [] (plainElem_int Tryz.underlying3 (q := .i64) (a := c + 1) (WalkArith.wf_i64 (by omega))) ?_; intro w1 hown1 hgrow1)
        | go_in)
      go_roundw
      case rel =>
        refine ⟨k + 1, by omega, by go_num, (HF.out.1.alloc HF.out.1.size _).grown hgrow1 (by have := HF.out.2; simp; omega) (fun j hj => by cases hj; omega), ?_, ?_, _, hown1, HCN⟩
        · have := hgrow1.size
          have := HF.out.2
          simp at *
          omega
        · exact (hgrow1.block _ (by have := HF.out.2; simp; omega) (by simp)).trans ((Below.heap_alloc _ _ _ (by have := HF.out.2; omega)).trans hp.out)
      case measure => simp [intOf]; omega
    · have hkn : k = n := by omega
      subst hkn
      obtain ⟨p0, p2, p3⟩ := HP.out _ hp.out
      have HCN0 : Hid (Cnt Dm (rs.map (·.key) ++ (ts.take 0).map (·.key))) := by
        have := hcnt.out
        show Cnt _ _
        rw [List.take_of_length_le (by have := HN.out; omega)] at this
        simpa using this
      obtain ⟨l0, hmx⟩ : ∃ l0, l0 = max lost 1 := ⟨_, rfl⟩
      have HL0 : Hid (leastT lost ts 0 = l0) := by
        show leastT lost ts 0 = l0
        unfold leastT
        rw [hmx]
        split <;> rfl
      have hmax : ∀ W : World, (Builtin.max_ #[3, 3] 3 #[.int .i64 lost, .int .i64 1]).run Tryz.prog W = .ok (.int .i64 l0) W := fun W => by
        rw [hmx]
        exact run_max2 lost 1 W
      clear hmx hcnt
      go_wp2
      go_loopw [6, 34] (fun l i wr => ∃ j : Nat, j ≤ m ∧ i = .int .i64 j ∧ l = .int .i64 (leastT lost ts j) ∧ Below w.heap.size w wr ∧ w.heap.size + 1 < wr.heap.size ∧ Hid (wr.heap[w.heap.size]? = some (.cells #[.int .i64 idx, .slice a k cap, .slice a' m cap', .int .i64 lost, sv, lv] 48 (0, 0))) ∧ Hid (∀ i, i < j → TombAt idx lost rs ts i) ∧ ∃ Dm, wr.ownsMap Tryz.prog 9 (plainElem (H := Unit) Tryz.prog 3) (w.heap.size + 1) (k + j) Dm ∧ Hid (Cnt Dm (rs.map (·.key) ++ (ts.take j).map (·.key)))) (fun _ i _ => m - (intOf i).toNat)
      case atStart => exact ⟨0, Nat.zero_le _, rfl, by rw [HL0.out], hb, hsz, hp, fun i hi => absurd hi (by omega), Dm, hown, HCN0⟩
      case round =>
        obtain ⟨j, hj, rfl, rfl, hb2, hsz2, hp2, hall, Dn, hown2, hcnt2⟩ := hrel
        by_cases hlt2 : j < m
        · obtain ⟨b, o, rfl, hbl, hc⟩ := H3'.out (by omega)
          obtain ⟨t, ht⟩ : ∃ t, ts[j]? = some t := ⟨_, List.getElem?_eq_getElem (by have := HM.out; omega)⟩
          obtain ⟨rk, e1⟩ := HD.out j t ht
          have X := ext_below hb2
          have c0 := World.grownBy.cell X (hc j hlt2 0 (by omega)) (by simp)
          have c1 := World.grownBy.cell X (hc j hlt2 1 (by omega)) (by simp)
          have RK : ∀ ob, RV (wr.alloc ob) (D j 0) t.key := fun ob => (rk.ext X).ext (HE.out _ _)
          obtain ⟨ka, kc, ek, krd, kl1, kl2⟩ := rk
          rw [Nat.add_zero, ek] at c0
          rw [e1] at c1
          rw [ek] at RK
          have q0 : ∀ ob, (wr.alloc ob).cell? ⟨w.heap.size, 0, none⟩ = some (.int .i64 idx) := fun ob => World.grownBy.cell (HE.out wr ob) (HP.out _ hp2.out).1 (by simp)
          have hklen : t.key.length ≤ maxLen := Nat.le_trans kl1 kl2
          have hrng := krd.rng
          have hkey := kl_of hklen
          have hcv : ∀ ob, (convert 93 9 (.slice ka t.key.length kc)).run Tryz.prog (wr.alloc ob) = .ok (.string (strOfNums t.key)) (wr.alloc ob) := fun ob => convR ((krd.grown X).grown (HE.out _ _)) kc
          obtain ⟨c, hat, hc0, hcl, hcm⟩ := hcnt2.out t.key hrng
          have hcl2 : c ≤ 40 := by
            have := HN.out
            simp at hcl
            omega
          have hiff := tombAt_iff ht hall.out hcm
          have HCN : Hid (Cnt (Dn.put (kl t.key) (.lit (.int .i64 (c + 1)))) (rs.map (·.key) ++ (ts.take (j + 1)).map (·.key))) := by
            have := hcnt2.out.put hown2.isMap hrng hklen hat
            show Cnt _ _
            rw [List.take_add_one, ht]
            simpa using this
          have hrun : ∀ ob, (Instr.lookup 155 (.map (some (w.heap.size + 1))) (.string (strOfNums t.key)) false).run Tryz.prog (wr.alloc ob) = .ok (.int .i64 c) (wr.alloc ob) := fun ob => by
            obtain ⟨c', h1, h2, _⟩ := (hown2.alloc ob).lookup_int law9 Tryz.underlying155 Tryz.underlying3 (zero3 _) hkey
            rw [hat] at h2
            simp only [DataW.lit.injEq, Lit.int.injEq, true_and] at h2
            rw [h2]
            exact h1
          have HF : Hid (Below w.heap.size w wr ∧ w.heap.size + 1 < wr.heap.size) := ⟨hb2, hsz2⟩
          have HKY : Hid (keyOf Tryz.prog 9 (.string (strOfNums t.key)) = some (kl t.key)) := hkey
          have HB2 : Hid (∀ ob, Below w.heap.size w (wr.alloc ob)) := fun ob => hb2.alloc hb2.size _
          clear hc X ek e1 krd kl1 kl2 hat hcnt2 hcl hb2 hsz2 hkey hcm hb hsz hown p0 p2 p3 HCN0
          generalize strOfNums t.key = s at hcv hrun HKY
          generalize t.key.length = rl at hcv c0 RK hklen
          have hlt' : (j : Int) < (m : Int) := by omega
          obtain ⟨b1, K1⟩ : ∃ c, keyB t.key = c := ⟨_, rfl⟩
          obtain ⟨b3, K3⟩ : ∃ c, inB t.index (leastT lost ts j) idx = c := ⟨_, rfl⟩
          rw [K1, K3] at hiff
          by_cases hbb : b1 = true ∧ ¬ 0 < c ∧ b3 = true
          · obtain ⟨rfl, hcz, rfl⟩ := hbb
            have hcz : c = 0 := by omega
            have hat := hiff.2 ⟨rfl, by omega, rfl⟩
            subst hcz
            rw [show (0 : Int) + 1 = 1 from rfl] at HCN
            have HA : Hid (∀ i, i < j + 1 → TombAt idx lost rs ts i) := fun i hi => by
              by_cases e : i = j
              · subst e; exact hat
              · exact hall.out i (by omega)
            have HL : Hid (leastT lost ts (j + 1) = t.index) := by
              show leastT lost ts (j + 1) = t.index
              unfold leastT
              rw [Nat.add_sub_cancel, ht]
              simp
            clear hall hiff hat
            go_wp2_with (first
              | (go_at_call 102; refine (keyOkV _ t.key _ (RK _)).mono ?_; rintro e w1 ⟨rfl, rfl⟩; rw [K1])
              | (go_at_call 53; refine (withinV _ _ _ _).mono ?_; rintro e w1 ⟨rfl, rfl⟩; rw [K3])
              | (at_mapUpdate; refine wpList_mapUpdate_own _ rfl _ _ _ 155 rfl 9 3 law9 Tryz.underlying155 _ (w.heap.size + 1) (k + j) _ rfl (hown2.alloc _) (by unfold maxLen; omega) _ _ _ rfl rfl HKY.out _ [] (plainElem_int Tryz.underlying3 (q := .i64) (a := 1) (WalkArith.wf_i64 (by omega))) ?_; intro w1 hown1 hgrow1; have r8 := hgrow1.cell (at_block (heap_alloc_new wr _) 1 _ rfl).1 (by have := HF.out.2; simp; omega))
              | go_in)
            go_roundw
            case rel =>
              refine ⟨j + 1, by omega, by go_num, by rw [HL.out], (HF.out.1.alloc HF.out.1.size _).grown hgrow1 (by have := HF.out.2; simp; omega) (fun j hj => by cases hj; omega), ?_, ?_, HA, _, hown1, HCN⟩
              · have := hgrow1.size
                have := HF.out.2
                simp at *
                omega
              · exact (hgrow1.block _ (by have := HF.out.2; simp; omega) (by simp)).trans ((Below.heap_alloc _ _ _ (by have := HF.out.2; omega)).trans hp2.out)
            case measure => simp [intOf]; omega
          · have HK : Hid (tB (TombsP idx lost rs ts) = false) := tB_false (fun h => hbb (hiff.1 (h.2 j (by have := HM.out; omega))))
            clear hall hiff
            cases b1
            · clear hbb
              go_wp2_with (first
                | (go_at_call 102; refine (keyOkV _ t.key _ (RK _)).mono ?_; rintro e w1 ⟨rfl, rfl⟩; rw [K1])
                | (go_at_call 53; refine (withinV _ _ _ _).mono ?_; rintro e w1 ⟨rfl, rfl⟩; rw [K3])
                | go_in)
              go_ret
              exact ⟨by rw [HK.out]; rfl, HB2.out _⟩
            by_cases hcp : 0 < c
            · clear hbb
              go_wp2_with (first
                | (go_at_call 102; refine (keyOkV _ t.key _ (RK _)).mono ?_; rintro e w1 ⟨rfl, rfl⟩; rw [K1])
                | (go_at_call 53; refine (withinV _ _ _ _).mono ?_; rintro e w1 ⟨rfl, rfl⟩; rw [K3])
                | go_in)
              go_ret
              exact ⟨by rw [HK.out]; rfl, HB2.out _⟩
            cases b3
            · clear hbb
              have hcz : decide (0 < c) = false := decide_eq_false hcp
              go_wp2_with (first
                | (go_at_call 102; refine (keyOkV _ t.key _ (RK _)).mono ?_; rintro e w1 ⟨rfl, rfl⟩; rw [K1])
                | (go_at_call 53; refine (withinV _ _ _ _).mono ?_; rintro e w1 ⟨rfl, rfl⟩; rw [K3])
                | go_in)
              go_ret
              exact ⟨by rw [HK.out]; rfl, HB2.out _⟩
            exact absurd ⟨rfl, hcp, rfl⟩ hbb
        · have hjm : j = m := by omega
          subst hjm
          have HK : Hid (tB (TombsP idx lost rs ts) = true) := tB_true ⟨by have := HM.out; omega, fun i hi => hall.out i (by have := HM.out; omega)⟩
          clear hall
          go_wp2
          go_ret
          exact ⟨by rw [HK.out]; rfl, hb2⟩

end Go.Proofs.YtnklnhnjmikooaaGreat

namespace Go.Proofs.YtnklnhnjmikooaaGreat
open Go.RowKit

/-- What is last at i may be there. -/
def LastAt (idx : Int) (ss : List DLast) (i : Nat) : Prop := ∀ s, ss[i]? = some s → 0 ≤ s.client ∧ s.client ≤ 3 ∧ 1 ≤ s.req ∧ s.req ≤ 1000000 ∧ 0 ≤ s.code ∧ s.code ≤ 5 ∧ 1 ≤ s.index ∧ s.index ≤ idx ∧ ∀ p, 0 < i → ss[i - 1]? = some p → p.client < s.client
def LastP (idx : Int) (ss : List DLast) : Prop := ss.length ≤ 4 ∧ ∀ i, i < ss.length → LastAt idx ss i

/-- The least client that comes next. -/
def leastC (ss : List DLast) (k : Nat) : Int := match ss[k - 1]? with | some p => if k = 0 then 0 else p.client + 1 | none => 0

theorem lastAt_iff {idx : Int} {ss : List DLast} {k : Nat} {s : DLast} (hs : ss[k]? = some s) (hall : ∀ j, j < k → LastAt idx ss j) :
    LastAt idx ss k ↔ (inB s.client (leastC ss k) 3 = true ∧ inB s.req 1 1000000 = true ∧ inB s.code 0 5 = true ∧ inB s.index 1 idx = true) := by
  unfold inB
  simp only [Bool.and_eq_true, decide_eq_true_eq]
  constructor
  · intro h
    obtain ⟨a1, a2, a3, a4, a5, a6, a7, a8, a9⟩ := h s hs
    refine ⟨⟨?_, a2⟩, ⟨a3, a4⟩, ⟨a5, a6⟩, a7, a8⟩
    unfold leastC
    split
    · rename_i p hp
      by_cases j0 : k = 0
      · rw [if_pos j0]; exact a1
      · rw [if_neg j0]
        have := a9 p (by omega) hp
        omega
    · exact a1
  · rintro ⟨⟨b1, b2⟩, ⟨b3, b4⟩, ⟨b5, b6⟩, b7, b8⟩ s' hs'
    rw [hs] at hs'
    cases hs'
    refine ⟨?_, b2, b3, b4, b5, b6, b7, b8, fun p hj0 hp => ?_⟩
    · unfold leastC at b1
      split at b1
      · rename_i p hp
        by_cases j0 : k = 0
        · rw [if_pos j0] at b1; exact b1
        · rw [if_neg j0] at b1
          have := (hall (k - 1) (by omega) p hp).1
          omega
      · exact b1
    · unfold leastC at b1
      rw [hp] at b1
      simp only [show ¬ k = 0 by omega, if_false] at b1
      omega

set_option maxHeartbeats 1000000 in
theorem lastsOkV (rv tv lov sv lv : Value) (idx : Int) (ss : List DLast) (w : World) (h : VLasts w lv ss) :
    Calls Tryz.prog 81 #[.agg #[.int .i64 idx, rv, tv, lov, sv, lv]] w fun e w' => e = .returned (.bool (tB (LastP idx ss))) ∧ Below w.heap.size w w' := by
  have hE : ∀ w : World, ∀ o, Ext w (w.alloc o) := fun w o => World.grownBy_alloc _ _ _
  have hB : ∀ w : World, ∀ o, Below w.heap.size w (w.alloc o) := fun w o => (Below.refl _ w).alloc (Nat.le_refl _) _
  obtain ⟨C, ⟨a, cap, rfl, h1, h2, h3⟩, hC⟩ := h
  have HC : Hid (∀ (i : Nat) (r : DLast), ss[i]? = some r → C i 0 = .int .i64 r.client ∧ C i 1 = .int .i64 r.req ∧ C i 2 = .int .i64 r.code ∧ C i 3 = .int .i64 r.index) := hC
  clear hC
  obtain ⟨n, hn⟩ : ∃ n, n = ss.length := ⟨_, rfl⟩
  rw [← hn] at h1 h3 ⊢
  have HN : Hid (n = ss.length) := hn
  clear hn
  unfold maxLen at h2
  by_cases h8 : (4 : Int) < n
  · have HK : Hid (tB (LastP idx ss) = false) := tB_false (fun h => by have := h.1; have := HN.out; omega)
    go_enter Tryz.func81, Tryz.ntmps81
    go_wp2
    go_ret
    exact ⟨by rw [HK.out]; rfl, hB _ _⟩
  have H3 : Hid (0 < n → ∃ b o, a = some ⟨b, o, none⟩ ∧ b < w.heap.size ∧ ∀ i, i < n → ∀ j, j < 4 → w.cell? ⟨b, o + i * 4 + j, none⟩ = some (C i j)) := h3
  clear h3
  go_enter Tryz.func81, Tryz.ntmps81
  go_wp2
  generalize hW : w.alloc _ = W
  have HW : Hid (Below w.heap.size w W ∧ Ext w W) := by rw [← hW]; exact ⟨hB _ _, hE _ _⟩
  have hq0 : W.cell? ⟨w.heap.size, 0, none⟩ = some (.int .i64 idx) := by rw [← hW]; exact (at_block (heap_alloc_new w _) 0 _ rfl).1
  clear hW
  go_loopw [3, 13] (fun l i wr => ∃ k : Nat, k ≤ n ∧ i = .int .i64 k ∧ l = .int .i64 (leastC ss k) ∧ Ext W wr ∧ Below w.heap.size w wr ∧ Hid (∀ j, j < k → LastAt idx ss j)) (fun _ i _ => n - (intOf i).toNat)
  case atStart => exact ⟨0, Nat.zero_le _, rfl, by simp [leastC]; split <;> rfl, Ext.re _, HW.out.1, fun j hj => absurd hj (by omega)⟩
  case round =>
    obtain ⟨k, hk, rfl, rfl, hx, hb, hall⟩ := hrel
    by_cases hlt : k < n
    · obtain ⟨b, o, rfl, hbl, hc⟩ := H3.out (by omega)
      obtain ⟨s, hs⟩ : ∃ s, ss[k]? = some s := ⟨_, List.getElem?_eq_getElem (by have := HN.out; omega)⟩
      obtain ⟨e0, e1, e2, e3⟩ := HC.out k s hs
      have hg := World.grownBy.cell hx hq0 (by simp)
      have c0 := World.grownBy.cell (HW.out.2.tr hx) (hc k hlt 0 (by omega)) (by simp)
      have c1 := World.grownBy.cell (HW.out.2.tr hx) (hc k hlt 1 (by omega)) (by simp)
      have c2 := World.grownBy.cell (HW.out.2.tr hx) (hc k hlt 2 (by omega)) (by simp)
      have c3 := World.grownBy.cell (HW.out.2.tr hx) (hc k hlt 3 (by omega)) (by simp)
      rw [e0, Nat.add_zero] at c0
      rw [e1] at c1
      rw [e2] at c2
      rw [e3] at c3
      have hga : ∀ ob, (wr.alloc ob).cell? ⟨w.heap.size, 0, none⟩ = some (.int .i64 idx) := fun ob => World.grownBy.cell (hE wr ob) hg (by simp)
      clear hc e0 e1 e2 e3
      have hlt' : (k : Int) < (n : Int) := by omega
      have hx2 : ∀ ob, Ext W (wr.alloc ob) := fun ob => hx.tr (hE _ _)
      have hb2 : ∀ ob, Below w.heap.size w (wr.alloc ob) := fun ob => hb.alloc hb.size _
      have hiff := lastAt_iff hs hall.out
      by_cases hin : inB s.client (leastC ss k) 3 = true ∧ inB s.req 1 1000000 = true ∧ inB s.code 0 5 = true ∧ inB s.index 1 idx = true
      · have hat := hiff.2 hin
        have HA : Hid (∀ j, j < k + 1 → LastAt idx ss j) := fun j hj => by
          by_cases e : j = k
          · subst e; exact hat
          · exact hall.out j (by omega)
        have HL : Hid (leastC ss (k + 1) = s.client + 1) := by
          unfold Hid leastC
          rw [Nat.add_sub_cancel, hs]
          simp
        have hcl : s.client ≤ 3 := (hat s hs).2.1
        have hcl0 : 0 ≤ s.client := (hat s hs).1
        obtain ⟨i1, i2, i3, i4⟩ := hin
        clear hall hiff hat
        go_wp2_with (go_at_call 53; refine (withinV _ _ _ _).mono ?_; rintro e w2 ⟨rfl, rfl⟩; first | rw [i1] | rw [i2] | rw [i3] | rw [i4])
        go_roundw
        case rel => exact ⟨k + 1, by omega, by go_num, by rw [HL.out], hx2 _, hb2 _, HA⟩
        case measure => simp [intOf]; omega
      · have HK : Hid (tB (LastP idx ss) = false) := tB_false (fun h => hin (hiff.1 (h.2 k (by have := HN.out; omega))))
        clear hall hiff
        obtain ⟨i1, h1⟩ : ∃ c, inB s.client (leastC ss k) 3 = c := ⟨_, rfl⟩
        obtain ⟨i2, h2⟩ : ∃ c, inB s.req 1 1000000 = c := ⟨_, rfl⟩
        obtain ⟨i3, h3⟩ : ∃ c, inB s.code 0 5 = c := ⟨_, rfl⟩
        obtain ⟨i4, h4⟩ : ∃ c, inB s.index 1 idx = c := ⟨_, rfl⟩
        rw [h1, h2, h3, h4] at hin
        cases i1
        · clear hin
          go_wp2_with (go_at_call 53; refine (withinV _ _ _ _).mono ?_; rintro e w2 ⟨rfl, rfl⟩; first | rw [h1] | rw [h2] | rw [h3] | rw [h4])
          go_ret
          exact ⟨by rw [HK.out]; rfl, hb2 _⟩
        cases i2
        · clear hin
          go_wp2_with (go_at_call 53; refine (withinV _ _ _ _).mono ?_; rintro e w2 ⟨rfl, rfl⟩; first | rw [h1] | rw [h2] | rw [h3] | rw [h4])
          go_ret
          exact ⟨by rw [HK.out]; rfl, hb2 _⟩
        cases i3
        · clear hin
          go_wp2_with (go_at_call 53; refine (withinV _ _ _ _).mono ?_; rintro e w2 ⟨rfl, rfl⟩; first | rw [h1] | rw [h2] | rw [h3] | rw [h4])
          go_ret
          exact ⟨by rw [HK.out]; rfl, hb2 _⟩
        cases i4
        · clear hin
          go_wp2_with (go_at_call 53; refine (withinV _ _ _ _).mono ?_; rintro e w2 ⟨rfl, rfl⟩; first | rw [h1] | rw [h2] | rw [h3] | rw [h4])
          go_ret
          exact ⟨by rw [HK.out]; rfl, hb2 _⟩
        exact absurd ⟨rfl, rfl, rfl, rfl⟩ hin
    · have hkn : k = n := by omega
      subst hkn
      have HK : Hid (tB (LastP idx ss) = true) := tB_true ⟨by have := HN.out; omega, fun i hi => hall.out i (by have := HN.out; omega)⟩
      clear hall
      go_wp2
      go_ret
      exact ⟨by rw [HK.out]; rfl, hb⟩

end Go.Proofs.YtnklnhnjmikooaaGreat

namespace Go.Proofs.YtnklnhnjmikooaaGreat
open Go.RowKit

/-- It may be a state. -/
def StP (S : DState) : Prop := (0 ≤ S.index ∧ S.index ≤ 1000000) ∧ (0 ≤ S.lost ∧ S.lost ≤ S.index) ∧ SessP S.index S.sess ∧ RowsP S.index S.sess S.rows ∧ TombsP S.index S.lost S.rows S.tombs ∧ LastP S.index S.lasts

theorem inB_iff {n a b : Int} : inB n a b = true ↔ a ≤ n ∧ n ≤ b := by unfold inB; simp
theorem inB_no {n a b : Int} (h : inB n a b = false) : ¬ (a ≤ n ∧ n ≤ b) := fun h' => by rw [inB_iff.2 h'] at h; cases h
theorem tB_no {p : Prop} (h : tB p = false) : ¬ p := fun h' => by rw [tB_true h'] at h; cases h

/-- The six cells of a struct in a block. -/
theorem six {w : World} {g : Nat} {a b c d e f : Value} {t : TypeId} (h : w.heap[g]? = some (.cells #[a, b, c, d, e, f] t (0, 0))) :
    w.cell? ⟨g, 0, none⟩ = some a ∧ w.cell? ⟨g, 1, none⟩ = some b ∧ w.cell? ⟨g, 2, none⟩ = some c ∧ w.cell? ⟨g, 3, none⟩ = some d ∧ w.cell? ⟨g, 4, none⟩ = some e ∧ w.cell? ⟨g, 5, none⟩ = some f :=
  ⟨(at_block h 0 _ rfl).1, (at_block h 1 _ rfl).1, (at_block h 2 _ rfl).1, (at_block h 3 _ rfl).1, (at_block h 4 _ rfl).1, (at_block h 5 _ rfl).1⟩

set_option maxHeartbeats 2000000 in
theorem iStateOkV (v : Value) (S : DState) (w : World) (h : VState w v S) :
    Calls Tryz.prog 36 #[v] w fun e w' => e = .returned (.bool (tB (StP S))) ∧ Below w.heap.size w w' := by
  have hE : ∀ w : World, ∀ o, Ext w (w.alloc o) := fun w o => World.grownBy_alloc _ _ _
  have hB : ∀ w : World, ∀ o, Below w.heap.size w (w.alloc o) := fun w o => (Below.refl _ w).alloc (Nat.le_refl _) _
  obtain ⟨rv, tv, sv, lv, rfl, hr, ht, hs, hl⟩ := h
  go_enter Tryz.func36, Tryz.ntmps36
  cases h0 : inB S.index 0 1000000
  · have HK : Hid (tB (StP S) = false) := tB_false (fun h => inB_no h0 h.1)
    go_wp2_with (first
      | (go_at_call 53; refine (withinV _ _ _ _).mono ?_; rintro e w1 ⟨rfl, rfl⟩; rw [h0]))
    go_ret
    exact ⟨by rw [HK.out]; rfl, hB _ _⟩
  cases h1 : inB S.lost 0 S.index
  · have HK : Hid (tB (StP S) = false) := tB_false (fun h => inB_no h1 h.2.1)
    go_wp2_with (first
      | (go_at_call 53; refine (withinV _ _ _ _).mono ?_; rintro e w1 ⟨rfl, rfl⟩; first | rw [h0] | rw [h1]))
    go_ret
    exact ⟨by rw [HK.out]; rfl, hB _ _⟩
  have hix : S.index ≤ 1000000 := (inB_iff.1 h0).2
  go_wp2_with (first
    | (go_at_call 53; refine (withinV _ _ _ _).mono ?_; rintro e w1 ⟨rfl, rfl⟩; first | rw [h0] | rw [h1]))
  have P0 := heap_alloc_new w (.cells #[.int .i64 S.index, rv, tv, .int .i64 S.lost, sv, lv] 48 (0, 0))
  have B0 := hB w (.cells #[.int .i64 S.index, rv, tv, .int .i64 S.lost, sv, lv] 48 (0, 0))
  have z0 : w.heap.size < (w.alloc (.cells #[.int .i64 S.index, rv, tv, .int .i64 S.lost, sv, lv] 48 (0, 0))).heap.size := by simp
  generalize w.alloc (.cells #[.int .i64 S.index, rv, tv, .int .i64 S.lost, sv, lv] 48 (0, 0)) = W0 at P0 B0 z0 ⊢
  refine (sessionsOkV rv tv _ sv lv S.index S.sess W0 (hs.ext (ext_below B0)) hix).mono ?_
  rintro e W1 ⟨rfl, b1⟩
  have B1 := B0.trans (b1.mono B0.size)
  have P1 := below_blk b1 z0 P0
  have z1 := Nat.lt_of_lt_of_le z0 b1.size
  cases t0 : tB (SessP S.index S.sess)
  · have HK : Hid (tB (StP S) = false) := tB_false (fun h => tB_no t0 h.2.2.1)
    clear B0 b1 P0
    obtain ⟨q0, q1, q2, q3, q4, q5⟩ := six P1
    go_wp2
    go_ret
    exact ⟨by rw [HK.out]; rfl, B1⟩
  clear B0 b1 P0 z0
  obtain ⟨q0, q1, q2, q3, q4, q5⟩ := six P1
  go_wp2_with fail
  clear q0 q1 q2 q3 q4 q5
  refine (rowsOkV rv tv _ sv lv S.index S.sess S.rows W1 (hr.ext (ext_below B1)) (hs.ext (ext_below B1))).mono ?_
  rintro e W2 ⟨rfl, b2⟩
  have B2 := B1.trans (b2.mono B1.size)
  have P2 := below_blk b2 z1 P1
  have z2 := Nat.lt_of_lt_of_le z1 b2.size
  cases t1 : tB (RowsP S.index S.sess S.rows)
  · have HK : Hid (tB (StP S) = false) := tB_false (fun h => tB_no t1 h.2.2.2.1)
    clear B1 b2 P1
    obtain ⟨q0, q1, q2, q3, q4, q5⟩ := six P2
    go_wp2
    go_ret
    exact ⟨by rw [HK.out]; rfl, B2⟩
  clear B1 b2 P1 z1
  obtain ⟨q0, q1, q2, q3, q4, q5⟩ := six P2
  go_wp2_with fail
  clear q0 q1 q2 q3 q4 q5
  refine (tombsOkV rv tv sv lv S.index S.lost S.rows S.tombs W2 (hr.ext (ext_below B2)) (ht.ext (ext_below B2)) (tB_iff.1 t1).1).mono ?_
  rintro e W3 ⟨rfl, b3⟩
  have B3 := B2.trans (b3.mono B2.size)
  have P3 := below_blk b3 z2 P2
  have z3 := Nat.lt_of_lt_of_le z2 b3.size
  cases t2 : tB (TombsP S.index S.lost S.rows S.tombs)
  · have HK : Hid (tB (StP S) = false) := tB_false (fun h => tB_no t2 h.2.2.2.2.1)
    clear B2 b3 P2
    obtain ⟨q0, q1, q2, q3, q4, q5⟩ := six P3
    go_wp2
    go_ret
    exact ⟨by rw [HK.out]; rfl, B3⟩
  clear B2 b3 P2 z2
  obtain ⟨q0, q1, q2, q3, q4, q5⟩ := six P3
  go_wp2_with fail
  clear q0 q1 q2 q3 q4 q5
  refine (lastsOkV rv tv _ sv lv S.index S.lasts W3 (hl.ext (ext_below B3))).mono ?_
  rintro e W4 ⟨rfl, b4⟩
  have B4 := B3.trans (b4.mono B3.size)
  have P4 := below_blk b4 z3 P3
  have z4 := Nat.lt_of_lt_of_le z3 b4.size
  cases t3 : tB (LastP S.index S.lasts)
  · have HK : Hid (tB (StP S) = false) := tB_false (fun h => tB_no t3 h.2.2.2.2.2)
    clear B3 b4 P3
    obtain ⟨q0, q1, q2, q3, q4, q5⟩ := six P4
    go_wp2
    go_ret
    exact ⟨by rw [HK.out]; rfl, B4⟩
  clear B3 b4 P3 z3
  have HK : Hid (tB (StP S) = true) := tB_true ⟨inB_iff.1 h0, inB_iff.1 h1, tB_iff.1 t0, tB_iff.1 t1, tB_iff.1 t2, tB_iff.1 t3⟩
  go_wp2
  go_ret
  exact ⟨by rw [HK.out]; rfl, B4⟩

end Go.Proofs.YtnklnhnjmikooaaGreat

