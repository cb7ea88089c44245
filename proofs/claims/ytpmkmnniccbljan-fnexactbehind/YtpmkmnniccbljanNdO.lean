/- The other servers, one after another: the program's iterator. -/
import Derived.Test.YtpmkmnniccbljanNdT0
import Derived.RangeFuncNested
import Derived.RangeFuncBound
import Derived.RangeFuncCalls
import Derived.RangeFuncLeaves
import Derived.RangeFuncFrom
import Derived.Shelf.Abstract
import Derived.Shelf.RegionOpen
import Derived.WalkKit
import Derived.OwnWalkIn
import Derived.TacticsInMore
import Derived.LoopNIn
import Derived.LoopIn
namespace Go.Proofs.Ytpmkmnniccbljan
open Go.RowKit Go.Shelf
attribute [local go_sem] Oper.semAt_some

/-- The others among the first k of N servers, ascending. -/
def oth (d : Int) (N : Nat) : Nat → List (Fin N)
  | 0 => []
  | k + 1 => if h : k < N then (if (k : Int) = d then oth d N k else oth d N k ++ [⟨k, h⟩]) else oth d N k
theorem oth_self {d : Int} {N k : Nat} (h : k < N) (e : (k : Int) = d) : oth d N (k + 1) = oth d N k := by
  show (if h : k < N then (if (k : Int) = d then oth d N k else oth d N k ++ [⟨k, h⟩]) else oth d N k) = _
  rw [dif_pos h, if_pos e]
theorem oth_next {d : Int} {N k : Nat} (h : k < N) (e : ¬ (k : Int) = d) : oth d N (k + 1) = oth d N k ++ [⟨k, h⟩] := by
  show (if h : k < N then (if (k : Int) = d then oth d N k else oth d N k ++ [⟨k, h⟩]) else oth d N k) = _
  rw [dif_pos h, if_neg e]
theorem oth_len (d : Int) (N : Nat) : ∀ k, (oth d N k).length ≤ k
  | 0 => Nat.le_refl _
  | k + 1 => by
    have := oth_len d N k
    show (if h : k < N then (if (k : Int) = d then oth d N k else oth d N k ++ [⟨k, h⟩]) else oth d N k).length ≤ _
    split
    · split
      · omega
      · simp; omega
    · omega

/-- What a round keeps: whatever lay below, and where the server is. -/
def KB (n₀ Bf g : Nat) (A B : World) : Prop := Below n₀ A B ∧ (A.cell? ⟨Bf, 0, none⟩ = some (.pointer (some ⟨g, 0, none⟩)) → B.cell? ⟨Bf, 0, none⟩ = some (.pointer (some ⟨g, 0, none⟩)))
theorem KB.tr {n₀ Bf g : Nat} {A B C : World} (h : KB n₀ Bf g A B) (k : KB n₀ Bf g B C) : KB n₀ Bf g A C := ⟨h.1.trans k.1, fun e => k.2 (h.2 e)⟩

set_option maxRecDepth 100000 in
set_option maxHeartbeats 2000000 in
theorem others1_in (F : Fence) (n : Nat) (h6 : F.fn 80) (hro : F.round = none) (hn : 1 ≤ n) (l Bf n₀ g N : Nat) (d : Int) (hg : g < n₀) (hN : N ≤ 5) (J Jx : List (Fin N) → World → Prop)
    (hY : ∀ pre (x : Fin N) W, J pre W → pre.length < N → YieldAt F (n - 1) Try.prog l #[.int .i64 (x.val : Int)] W fun e W' =>
      (e = .returned (.bool true) ∧ J (pre ++ [x]) W' ∧ KB n₀ Bf g W W') ∨ (e = .returned (.bool false) ∧ Jx (pre ++ [x]) W'))
    (W : World) (hBf : W.cell? ⟨Bf, 0, none⟩ = some (.pointer (some ⟨g, 0, none⟩))) (c0 : W.cell? ⟨g, 0, none⟩ = some (.int .i64 d)) (c1 : W.cell? ⟨g, 1, none⟩ = some (.int .i64 N)) (h0 : J [] W) :
    CallsIn F n Try.prog 80 #[.func (.yield l) #[] #[], .pointer (some ⟨Bf, 0, none⟩)] W fun e W' => (∃ v, e = .returned v) ∧
      ((∃ ys, ys = oth d N N ∧ J ys W') ∨ (∃ pre, True ∧ Jx pre W')) := by
  refine callsIn_of_wp Try.func80 rfl h6 ?_ hro
  simp only [Try.ntmps80, List.size_toArray, List.length_cons, List.length_nil, Nat.reduceAdd, Nat.reduceSub, Array.replicate_succ, Array.replicate_zero, List.push_toArray, List.append_toArray, List.nil_append, List.cons_append]
  gi_wp2
  gi_loopw [8] (fun i wr => ∃ k : Nat, k ≤ N ∧ i = .int .i64 k ∧ J (oth d N k) wr ∧ KB n₀ Bf g W wr) (fun i _ => N - (intOf i).toNat)
  case atStart => exact ⟨0, Nat.zero_le _, rfl, h0, Below.refl _ _, fun e => e⟩
  case round =>
    obtain ⟨k, hk, rfl, hJs, hnx⟩ := hrel
    have cb := hnx.2 hBf
    have cd := (hnx.1.cell (p := ⟨g, 0, none⟩) hg).trans c0
    by_cases hlt : k < N
    · have hlt' : (k : Int) < (N : Int) := by omega
      by_cases e : (k : Int) = d
      · have hne : ((k : Int) != d) = false := by simpa using e
        have HJ : Hid (J (oth d N (k + 1)) wr) := by rw [oth_self hlt e]; exact hJs
        clear e
        gi_wp2
        refine ⟨fun _ h => (by cases h), ?_⟩
        gi_wp2
        go_roundw
        case rel => exact ⟨k + 1, by omega, by simp, HJ.out, hnx⟩
        case measure => simp [intOf]; omega
      · have hne : ((k : Int) != d) = true := by simpa using e
        obtain ⟨fn, tmps, assign, body, hy, hR⟩ := hY _ ⟨k, hlt⟩ wr hJs (by have := oth_len d N k; omega)
        dsimp only at hy
        have HO : Hid (oth d N (k + 1) = oth d N k ++ [⟨k, hlt⟩]) := oth_next hlt e
        clear e
        gi_wp2
        refine hR.mono ?_
        rintro e W3 (⟨rfl, hJ3, hk3⟩ | ⟨rfl, hJx3⟩)
        · gi_wp2
          go_roundw
          case rel => exact ⟨k + 1, by omega, by simp, by rw [HO.out]; exact hJ3, hnx.tr hk3⟩
          case measure => simp [intOf]; omega
        · gi_wp2
          refine bodyPost_ret (results_none rfl _ _ _) rfl ?_
          exact ⟨⟨_, rfl⟩, .inr ⟨_, trivial, hJx3⟩⟩
    · obtain rfl : k = N := by omega
      gi_wp2
      go_end0
      exact ⟨⟨_, rfl⟩, .inl ⟨_, rfl, hJs⟩⟩

set_option maxHeartbeats 1000000 in
theorem others_in (F : Fence) (n : Nat) (h5 : F.fn 53) (hro : F.round = none) (g : Nat) (w : World) :
    CallsIn F n Try.prog 53 #[.pointer (some ⟨g, 0, none⟩)] w fun e w' => e = .returned (.func (.func 80) #[] #[.pointer (some ⟨w.heap.size, 0, none⟩)]) ∧ w' = w.alloc (.cells #[.pointer (some ⟨g, 0, none⟩)] 109) := by
  refine callsIn_of_wp Try.func53 rfl h5 ?_ hro
  simp only [Try.ntmps53, List.size_toArray, List.length_cons, List.length_nil, Nat.reduceAdd, Nat.reduceSub, Array.replicate_succ, Array.replicate_zero, List.push_toArray, List.append_toArray, List.nil_append, List.cons_append]
  gi_wp2
  go_ret
  exact ⟨rfl, rfl⟩

theorem others_stops (F : Fence) (n : Nat) (h6 : F.fn 80) (hro : F.round = none) (hn : 1 ≤ n) (Bf n₀ g N : Nat) (d : Int) (hg : g < n₀) (hN : N ≤ 5) (w : World) (hBs : Bf < w.heap.size) (hn₀ : n₀ ≤ w.heap.size)
    (hBf : w.cell? ⟨Bf, 0, none⟩ = some (.pointer (some ⟨g, 0, none⟩))) (c0 : w.cell? ⟨g, 0, none⟩ = some (.int .i64 d)) (c1 : w.cell? ⟨g, 1, none⟩ = some (.int .i64 N)) :
    SeqStopsK F n Try.prog 80 #[.pointer (some ⟨Bf, 0, none⟩)] (fun x : Fin N => #[Value.int .i64 (x.val : Int)]) (KB n₀ Bf g) (fun ys => ys = oth d N N) (fun _ => True) N w := fun l J Jx W hW _ _ hY h0 =>
  others1_in F n h6 hro hn l Bf n₀ g N d hg hN J Jx hY W ((hW.cell (p := ⟨Bf, 0, none⟩) hBs).trans hBf) ((hW.cell (p := ⟨g, 0, none⟩) (Nat.lt_of_lt_of_le hg hn₀)).trans c0) ((hW.cell (p := ⟨g, 1, none⟩) (Nat.lt_of_lt_of_le hg hn₀)).trans c1) h0

theorem kb_b {n₀ Bf g : Nat} {w : World} (hn : n₀ ≤ w.heap.size) (hBf : Bf < w.heap.size) (W : World) (l : Nat) (o o' : Obj) (hl : w.heap.size ≤ l) (h : W.heap[l]? = some o) (h1 : o.isCells = false) (h2 : o.isWalk = false) : KB n₀ Bf g W (W.putObj l o') :=
  ⟨belowK_b hn W l o o' hl h h1 h2, fun e => World.grownBy.cell (grownBy_putObj' W l o') e (by simp; omega)⟩

end Go.Proofs.Ytpmkmnniccbljan
