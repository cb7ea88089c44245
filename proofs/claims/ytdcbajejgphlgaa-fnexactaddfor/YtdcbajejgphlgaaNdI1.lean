/- The program's tests of a server's numbers and its log. -/
import Derived.Test.YtdcbajejgphlgaaNdB
import Derived.Test.YtdcbajejgphlgaaIt2
import Derived.Test.YtdcbajejgphlgaaIKey
namespace Go.Proofs.Ytdcbajejgphlgaa
open Go.RowKit

def srvB (i s : Int) : Bool := inB s 1 5 && inB i 0 (s - 1)
set_option maxHeartbeats 4000000 in
theorem serverOkV (i s : Int) (w : World) : Calls Try.prog 23 #[.int .i64 i, .int .i64 s] w fun e w' => e = .returned (.bool (srvB i s)) ∧ w' = w := by
  cases k1 : inB s 1 5
  case false =>
    go_enter Try.func23, Try.ntmps23
    go_wp2_with (go_at_call 44; refine (withinV _ _ _ _).mono ?_; rintro e w2 ⟨rfl, rfl⟩; rw [k1])
    go_ret
    exact ⟨by unfold srvB; rw [k1]; rfl, rfl⟩
  obtain ⟨hs1, hs5⟩ : 1 ≤ s ∧ s ≤ 5 := by simpa [inB] using k1
  obtain ⟨t2, k2⟩ : ∃ t, inB i 0 (s - 1) = t := ⟨_, rfl⟩
  go_enter Try.func23, Try.ntmps23
  go_wp2_with (go_at_call 44; refine (withinV _ _ _ _).mono ?_; rintro e w2 ⟨rfl, rfl⟩; first | rw [k1] | rw [k2])
  go_ret
  exact ⟨by unfold srvB; rw [k1, k2]; rfl, rfl⟩

def numB (M : DNode) (s : Int) : Bool := inB M.term 0 100000 && (inB M.vote (-1) (s - 1) && (inB M.lead (-1) (s - 1) && (inB M.commit 0 M.log.length && inB M.wait 0 20)))
set_option linter.unusedSimpArgs false in
set_option maxHeartbeats 8000000 in
theorem numbersOkV (M : DNode) (s : Int) (v : Value) (w : World) (h : VNode w v M) (hs1 : 1 ≤ s) (hs5 : s ≤ 5) :
    Calls Try.prog 41 #[v, .int .i64 s] w fun e w' => e = .returned (.bool (numB M s)) ∧ Below w.heap.size w w' := by
  have hB : ∀ w : World, ∀ o, Below w.heap.size w (w.alloc o) := fun w o => (Below.refl _ w).alloc (Nat.le_refl _) _
  obtain ⟨lv, bv, nv, mv, rfl, hi, hbv, hnv, hmv⟩ := h
  obtain ⟨ia, ic, rfl⟩ := items_shape hi
  clear hi hbv hnv hmv
  have HU : Hid (numB M s = (inB M.term 0 100000 && (inB M.vote (-1) (s - 1) && (inB M.lead (-1) (s - 1) && (inB M.commit 0 M.log.length && inB M.wait 0 20))))) := rfl
  generalize M.log.length = n at HU ⊢
  cases k1 : inB M.term 0 100000
  case false =>
    go_enter Try.func41, Try.ntmps41
    go_wp2_with (go_at_call 44; refine (withinV _ _ _ _).mono ?_; rintro e w2 ⟨rfl, rfl⟩; first | rw [k1] | rw [k2] | rw [k3] | rw [k4] | rw [k5])
    go_ret
    exact ⟨by rw [HU.out]; simp [k1], hB _ _⟩
  cases k2 : inB M.vote (-1) (s - 1)
  case false =>
    go_enter Try.func41, Try.ntmps41
    go_wp2_with (go_at_call 44; refine (withinV _ _ _ _).mono ?_; rintro e w2 ⟨rfl, rfl⟩; first | rw [k1] | rw [k2] | rw [k3] | rw [k4] | rw [k5])
    go_ret
    exact ⟨by rw [HU.out]; simp [k1, k2], hB _ _⟩
  cases k3 : inB M.lead (-1) (s - 1)
  case false =>
    go_enter Try.func41, Try.ntmps41
    go_wp2_with (go_at_call 44; refine (withinV _ _ _ _).mono ?_; rintro e w2 ⟨rfl, rfl⟩; first | rw [k1] | rw [k2] | rw [k3] | rw [k4] | rw [k5])
    go_ret
    exact ⟨by rw [HU.out]; simp [k1, k2, k3], hB _ _⟩
  cases k4 : inB M.commit 0 n
  case false =>
    go_enter Try.func41, Try.ntmps41
    go_wp2_with (go_at_call 44; refine (withinV _ _ _ _).mono ?_; rintro e w2 ⟨rfl, rfl⟩; first | rw [k1] | rw [k2] | rw [k3] | rw [k4] | rw [k5])
    go_ret
    exact ⟨by rw [HU.out]; simp [k1, k2, k3, k4], hB _ _⟩
  cases k5 : inB M.wait 0 20
  case false =>
    go_enter Try.func41, Try.ntmps41
    go_wp2_with (go_at_call 44; refine (withinV _ _ _ _).mono ?_; rintro e w2 ⟨rfl, rfl⟩; first | rw [k1] | rw [k2] | rw [k3] | rw [k4] | rw [k5])
    go_ret
    exact ⟨by rw [HU.out]; simp [k1, k2, k3, k4, k5], hB _ _⟩
  go_enter Try.func41, Try.ntmps41
  go_wp2_with (go_at_call 44; refine (withinV _ _ _ _).mono ?_; rintro e w2 ⟨rfl, rfl⟩; first | rw [k1] | rw [k2] | rw [k3] | rw [k4] | rw [k5])
  go_ret
  exact ⟨by rw [HU.out]; simp [k1, k2, k3, k4, k5], hB _ _⟩

/-- Items one after another from a least term on. -/
def itemsB : Int → Int → List DItem → Bool
  | _, _, [] => true
  | l, t, s :: r => itemB s && (inB s.term l t && itemsB s.term t r)
def logB (t : Int) (ss : List DItem) : Bool := decide (ss.length ≤ 400) && itemsB 1 t ss

set_option maxHeartbeats 4000000 in
theorem logOkV (t : Int) (iv : Value) (ss : List DItem) (w : World) (h : VItems w iv ss) :
    Calls Try.prog 42 #[iv, .int .i64 t] w fun e w' => e = .returned (.bool (logB t ss)) ∧ Below w.heap.size w w' := by
  obtain ⟨C, ⟨a, cap, rfl, h1, h2, h3⟩, hC⟩ := h
  have hE : ∀ w : World, ∀ o, Ext w (w.alloc o) := fun w o => World.grownBy_alloc _ _ _
  have hB : ∀ w : World, ∀ o, Below w.heap.size w (w.alloc o) := fun w o => (Below.refl _ w).alloc (Nat.le_refl _) _
  have HC : Hid (∀ i d, ss[i]? = some d → C i 0 = .int .i64 d.term ∧ C i 1 = .int .i64 d.cmd.client ∧ C i 2 = .int .i64 d.cmd.req ∧ C i 3 = .int .i64 d.cmd.op.kind ∧ RV w (C i 4) d.cmd.op.key ∧ RV w (C i 5) d.cmd.op.val ∧ C i 6 = .int .i64 d.cmd.op.n) := hC
  clear hC
  unfold maxLen at h2
  have HA : Hid (logB t ss = (decide (ss.length ≤ 400) && itemsB 1 t ss)) := rfl
  obtain ⟨n, hnn⟩ : ∃ n, n = ss.length := ⟨_, rfl⟩
  rw [← hnn] at h1 h3 HA ⊢
  have HN : Hid (n = ss.length) := hnn
  clear hnn
  have H3 : Hid (0 < n → ∃ b o, a = some ⟨b, o, none⟩ ∧ b < w.heap.size ∧ ∀ i, i < n → ∀ j, j < 7 → w.cell? ⟨b, o + i * 7 + j, none⟩ = some (C i j)) := h3
  clear h3
  by_cases hle : n ≤ 400
  case neg =>
    have hgt : (400 : Int) < (n : Int) := by omega
    have HF : Hid (decide (n ≤ 400) = false) := decide_eq_false hle
    clear hle
    go_enter Try.func42, Try.ntmps42
    go_wp2
    go_ret
    exact ⟨by rw [HA.out, HF.out]; rfl, Below.refl _ _⟩
  have hng : ¬ (400 : Int) < (n : Int) := by omega
  have HF : Hid (decide (n ≤ 400) = true) := decide_eq_true hle
  rw [HF.out, Bool.true_and] at HA
  clear HF
  go_enter Try.func42, Try.ntmps42
  go_wp2
  clear hng
  obtain ⟨W, hW⟩ : ∃ W, W = w := ⟨_, rfl⟩
  have HW : Hid (Below w.heap.size w W ∧ Ext w W) := by rw [hW]; exact ⟨Below.refl _ _, Ext.re _⟩
  subst hW
  go_loopw [5, 13] (fun l i wr => ∃ k : Nat, k ≤ n ∧ i = .int .i64 k ∧ ∃ L : Int, l = .int .i64 L ∧ Ext W wr ∧ Below W.heap.size W wr ∧ Hid (itemsB 1 t ss = itemsB L t (ss.drop k))) (fun _ i _ => n - (intOf i).toNat)
  case atStart => exact ⟨0, Nat.zero_le _, rfl, 1, rfl, Ext.re _, HW.out.1, by show _ = _; rfl⟩
  case round =>
    obtain ⟨k, hk, rfl, L, rfl, hx, hb, hall⟩ := hrel
    by_cases hlt : k < n
    · obtain ⟨b, o, rfl, hbl, hc⟩ := H3.out (by omega)
      obtain ⟨s, hs⟩ : ∃ s, ss[k]? = some s := ⟨_, List.getElem?_eq_getElem (by have := HN.out; omega)⟩
      obtain ⟨e0, e1, e2, e3, e4, e5, e6⟩ := HC.out k s hs
      have HD : Hid (itemsB L t (ss.drop k) = (itemB s && (inB s.term L t && itemsB s.term t (ss.drop (k + 1))))) := by
        have hkl : k < ss.length := by have := HN.out; omega
        have hg : ss[k] = s := by rw [List.getElem?_eq_getElem hkl] at hs; exact Option.some.inj hs
        show _ = _
        rw [List.drop_eq_getElem_cons hkl, hg]
        rfl
      have X := hx
      have c0 := World.grownBy.cell X (hc k hlt 0 (by omega)) (by simp)
      rw [Nat.add_zero, e0] at c0
      have c1 := World.grownBy.cell X (hc k hlt 1 (by omega)) (by simp)
      rw [e1] at c1
      have c2 := World.grownBy.cell X (hc k hlt 2 (by omega)) (by simp)
      rw [e2] at c2
      have c3 := World.grownBy.cell X (hc k hlt 3 (by omega)) (by simp)
      rw [e3] at c3
      have c4 := World.grownBy.cell X (hc k hlt 4 (by omega)) (by simp)
      have cr4 := e4.ext X
      obtain ⟨ca4, cp4, cx4, _, _, _⟩ := e4
      rw [cx4] at cr4 c4
      have c5 := World.grownBy.cell X (hc k hlt 5 (by omega)) (by simp)
      have cr5 := e5.ext X
      obtain ⟨ca5, cp5, cx5, _, _, _⟩ := e5
      rw [cx5] at cr5 c5
      have c6 := World.grownBy.cell X (hc k hlt 6 (by omega)) (by simp)
      rw [e6] at c6
      have hlt' : (k : Int) < (n : Int) := by omega
      clear hc
      have HIO : Hid (∀ ob, Calls Try.prog 55 #[.agg #[.int .i64 s.term, .int .i64 s.cmd.client, .int .i64 s.cmd.req, .int .i64 s.cmd.op.kind, .slice ca4 s.cmd.op.key.length cp4, .slice ca5 s.cmd.op.val.length cp5, .int .i64 s.cmd.op.n]] (wr.alloc ob) fun e w' => e = .returned (.bool (itemB s)) ∧ Below (wr.alloc ob).heap.size (wr.alloc ob) w') := fun ob => iItemOkV _ s _ ⟨_, _, rfl, cr4.ext (hE _ _), cr5.ext (hE _ _)⟩
      clear cr4 cr5
      have HXB : Hid (∀ ob w2, Below (wr.alloc ob).heap.size (wr.alloc ob) w2 → Ext W w2 ∧ Below W.heap.size W w2) := fun ob w2 b2 => ⟨(hx.tr (hE _ _)).tr (ext_below b2), (hb.alloc hb.size _).trans (b2.mono (by have := hb.size; simp; omega))⟩
      obtain ⟨t1, K1⟩ : ∃ c, itemB s = c := ⟨_, rfl⟩
      obtain ⟨t2, K2⟩ : ∃ c, inB s.term L t = c := ⟨_, rfl⟩
      cases t1
      · have HR : Hid (logB t ss = false) := by show _ = _; rw [HA.out, hall.out, HD.out, K1]; rfl
        clear hall HD
        go_wp2_with (first | (go_at_call 55; refine (HIO.out _).mono ?_; rintro e w2 ⟨rfl, b2⟩; rw [K1]; have R1 := below_blk b2 (by simp) (heap_alloc_new wr _); obtain ⟨r0, q0⟩ := at_block R1 0 _ rfl; clear R1) | (go_at_call 44; refine (withinV _ _ _ _).mono ?_; rintro e w3 ⟨rfl, rfl⟩; rw [K2]))
        go_ret
        exact ⟨by rw [HR.out]; rfl, (HXB.out _ _ b2).2⟩
      cases t2
      · have HR : Hid (logB t ss = false) := by show _ = _; rw [HA.out, hall.out, HD.out, K1, K2]; rfl
        clear hall HD
        go_wp2_with (first | (go_at_call 55; refine (HIO.out _).mono ?_; rintro e w2 ⟨rfl, b2⟩; rw [K1]; have R1 := below_blk b2 (by simp) (heap_alloc_new wr _); obtain ⟨r0, q0⟩ := at_block R1 0 _ rfl; clear R1) | (go_at_call 44; refine (withinV _ _ _ _).mono ?_; rintro e w3 ⟨rfl, rfl⟩; rw [K2]))
        go_ret
        exact ⟨by rw [HR.out]; rfl, (HXB.out _ _ b2).2⟩
      · have HR : Hid (itemsB 1 t ss = itemsB s.term t (ss.drop (k + 1))) := by show _ = _; rw [hall.out, HD.out, K1, K2]; rfl
        clear hall HD
        go_wp2_with (first | (go_at_call 55; refine (HIO.out _).mono ?_; rintro e w2 ⟨rfl, b2⟩; rw [K1]; have R1 := below_blk b2 (by simp) (heap_alloc_new wr _); obtain ⟨r0, q0⟩ := at_block R1 0 _ rfl; clear R1) | (go_at_call 44; refine (withinV _ _ _ _).mono ?_; rintro e w3 ⟨rfl, rfl⟩; rw [K2]))
        go_roundw
        case rel => exact ⟨k + 1, by omega, by go_num, s.term, rfl, (HXB.out _ _ b2).1, (HXB.out _ _ b2).2, HR⟩
        case measure => simp [intOf]; omega
    · have hkn : k = n := by omega
      subst hkn
      have HR : Hid (logB t ss = true) := by
        show _ = _
        rw [HA.out, hall.out, List.drop_of_length_le (by have := HN.out; omega)]
        rfl
      clear hall
      go_wp2
      go_ret
      exact ⟨by rw [HR.out]; rfl, hb⟩


end Go.Proofs.Ytdcbajejgphlgaa
