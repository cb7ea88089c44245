/- The other servers, one after another: the iterator again, for a body that writes more. -/
import Derived.Test.YtpmkmnniccbljanNdO
import Derived.RangeFuncBox
namespace Go.Proofs.Ytpmkmnniccbljan
open Go.RowKit Go.Shelf
attribute [local go_sem] Oper.semAt_some

/-- What a round keeps: where the server is, and who it is. -/
def KC (Bf g : Nat) (d : Int) (A B : World) : Prop := (A.cell? ⟨Bf, 0, none⟩ = some (.pointer (some ⟨g, 0, none⟩)) → B.cell? ⟨Bf, 0, none⟩ = some (.pointer (some ⟨g, 0, none⟩))) ∧ (A.cell? ⟨g, 0, none⟩ = some (.int .i64 d) → B.cell? ⟨g, 0, none⟩ = some (.int .i64 d))
theorem KC.tr {Bf g : Nat} {d : Int} {A B C : World} (h : KC Bf g d A B) (k : KC Bf g d B C) : KC Bf g d A C := ⟨fun e => k.1 (h.1 e), fun e => k.2 (h.2 e)⟩

set_option maxRecDepth 100000 in
set_option maxHeartbeats 2000000 in
theorem others1C (F : Fence) (n : Nat) (h6 : F.fn 80) (hro : F.round = none) (hn : 1 ≤ n) (l Bf g N : Nat) (d : Int) (hN : N ≤ 5) (J Jx : List (Fin N) → World → Prop)
    (hY : ∀ pre (x : Fin N) W, J pre W → pre.length < N → YieldAt F (n - 1) Try.prog l #[.int .i64 (x.val : Int)] W fun e W' =>
      (e = .returned (.bool true) ∧ J (pre ++ [x]) W' ∧ KC Bf g d W W') ∨ (e = .returned (.bool false) ∧ Jx (pre ++ [x]) W'))
    (W : World) (hBf : W.cell? ⟨Bf, 0, none⟩ = some (.pointer (some ⟨g, 0, none⟩))) (c0 : W.cell? ⟨g, 0, none⟩ = some (.int .i64 d)) (c1 : W.cell? ⟨g, 1, none⟩ = some (.int .i64 N)) (h0 : J [] W) :
    CallsIn F n Try.prog 80 #[.func (.yield l) #[] #[], .pointer (some ⟨Bf, 0, none⟩)] W fun e W' => (∃ v, e = .returned v) ∧
      ((∃ ys, ys = oth d N N ∧ J ys W') ∨ (∃ pre, True ∧ Jx pre W')) := by
  refine callsIn_of_wp Try.func80 rfl h6 ?_ hro
  simp only [Try.ntmps80, List.size_toArray, List.length_cons, List.length_nil, Nat.reduceAdd, Nat.reduceSub, Array.replicate_succ, Array.replicate_zero, List.push_toArray, List.append_toArray, List.nil_append, List.cons_append]
  gi_wp2
  gi_loopw [8] (fun i wr => ∃ k : Nat, k ≤ N ∧ i = .int .i64 k ∧ J (oth d N k) wr ∧ KC Bf g d W wr) (fun i _ => N - (intOf i).toNat)
  case atStart => exact ⟨0, Nat.zero_le _, rfl, h0, fun e => e, fun e => e⟩
  case round =>
    obtain ⟨k, hk, rfl, hJs, hnx⟩ := hrel
    have cb := hnx.1 hBf
    have cd := hnx.2 c0
    by_cases hlt : k < N
    · have hlt' : (k : Int) < (N : Int) := by omega
      by_cases e : (k : Int) = d
      · have hne : ((k : Int) != d) = false := by simpa using e
        have HJ : Hid (J (oth d N (k + 1)) wr) := by rw [oth_self hlt e]; exact hJs
        clear e
        gi_wp2
        refine ⟨fun _ h => (by cases h), ?_⟩
        gi_wp2
        go_roundw
        case rel => exact ⟨k + 1, by omega, by simp, HJ.out, hnx⟩
        case measure => simp [intOf]; omega
      · have hne : ((k : Int) != d) = true := by simpa using e
        obtain ⟨fn, tmps, assign, body, hy, hR⟩ := hY _ ⟨k, hlt⟩ wr hJs (by have := oth_len d N k; omega)
        dsimp only at hy
        have HO : Hid (oth d N (k + 1) = oth d N k ++ [⟨k, hlt⟩]) := oth_next hlt e
        clear e
        gi_wp2
        refine hR.mono ?_
        rintro e W3 (⟨rfl, hJ3, hk3⟩ | ⟨rfl, hJx3⟩)
        · gi_wp2
          go_roundw
          case rel => exact ⟨k + 1, by omega, by simp, by rw [HO.out]; exact hJ3, hnx.tr hk3⟩
          case measure => simp [intOf]; omega
        · gi_wp2
          refine bodyPost_ret (results_none rfl _ _ _) rfl ?_
          exact ⟨⟨_, rfl⟩, .inr ⟨_, trivial, hJx3⟩⟩
    · obtain rfl : k = N := by omega
      gi_wp2
      go_end0
      exact ⟨⟨_, rfl⟩, .inl ⟨_, rfl, hJs⟩⟩

theorem others_stopsC (F : Fence) (n : Nat) (h6 : F.fn 80) (hro : F.round = none) (hn : 1 ≤ n) (Bf g N : Nat) (d : Int) (hN : N ≤ 5) (w : World) (hBs : Bf < w.heap.size) (hg : g < w.heap.size)
    (hBf : w.cell? ⟨Bf, 0, none⟩ = some (.pointer (some ⟨g, 0, none⟩))) (c0 : w.cell? ⟨g, 0, none⟩ = some (.int .i64 d)) (c1 : w.cell? ⟨g, 1, none⟩ = some (.int .i64 N)) :
    SeqStopsK F n Try.prog 80 #[.pointer (some ⟨Bf, 0, none⟩)] (fun x : Fin N => #[Value.int .i64 (x.val : Int)]) (KC Bf g d) (fun ys => ys = oth d N N) (fun _ => True) N w := fun l J Jx W hW _ _ hY h0 =>
  others1C F n h6 hro hn l Bf g N d hN J Jx hY W ((hW.cell (p := ⟨Bf, 0, none⟩) hBs).trans hBf) ((hW.cell (p := ⟨g, 0, none⟩) hg).trans c0) ((hW.cell (p := ⟨g, 1, none⟩) hg).trans c1) h0

theorem kc_b {Bf g : Nat} {d : Int} {w : World} (hBf : Bf < w.heap.size) (hg : g < w.heap.size) (W : World) (l : Nat) (o o' : Obj) (hl : w.heap.size ≤ l) (_h : W.heap[l]? = some o) (_h1 : o.isCells = false) (_h2 : o.isWalk = false) : KC Bf g d W (W.putObj l o') :=
  ⟨fun e => World.grownBy.cell (grownBy_putObj' W l o') e (by simp; omega), fun e => World.grownBy.cell (grownBy_putObj' W l o') e (by simp; omega)⟩

/-- A block of cells lies as it lay, wherever blocks that are no cells turn. -/
theorem obj_own {β : Type} (b : Nat) (cur : Array Value) (t : TypeId) (z : Nat × Nat) : Own (fun (_ : β) W => W.heap[b]? = some (.cells cur t z)) := by
  intro s X Y row h hg hr
  refine (hg.block b (Array.getElem?_eq_some_iff.1 h).1 (fun e => ?_)).trans h
  obtain ⟨o, ho, hc⟩ := hr b e.symm
  rw [h] at ho
  cases ho
  cases hc

end Go.Proofs.Ytpmkmnniccbljan
