/- Messages beside servers: read, held against one another; the program's message with items. -/
import Derived.Test.YtdcbajejgphlgaaNdB0
namespace Go.Proofs.Ytdcbajejgphlgaa
open Go.RowKit

structure DMsg where
  kind : Int
  from_ : Int
  dst : Int
  term : Int
  prev : Int
  prevTerm : Int
  items : List DItem
  commit : Int
  yes : Bool

/-- The value v reads as the message M. -/
def VMsg (w : World) (v : Value) (M : DMsg) : Prop := ∃ iv, v = .agg #[.int .i64 M.kind, .int .i64 M.from_, .int .i64 M.dst, .int .i64 M.term, .int .i64 M.prev, .int .i64 M.prevTerm, iv, .int .i64 M.commit, .bool M.yes] ∧ VItems w iv M.items
theorem VMsg.ext {w w' : World} {v : Value} {M : DMsg} (h : VMsg w v M) (e : Ext w w') : VMsg w' v M := by
  obtain ⟨iv, hv, h1⟩ := h
  exact ⟨iv, hv, h1.ext e⟩
/-- How long its lists and texts may be. -/
def LenM (M : DMsg) (B : Nat) : Prop := M.items.length ≤ B ∧ ∀ (i : Nat) (s : DItem), M.items[i]? = some s → s.cmd.op.key.length ≤ B ∧ s.cmd.op.val.length ≤ B
theorem lenM_of {M : DMsg} {B : Nat} (h : M.items.length + sI M.items ≤ B) : LenM M B := by
  unfold sI at h
  refine ⟨by omega, fun i s hs => ?_⟩
  have := sum_mem zI M.items i s hs
  unfold zI at *
  omega
theorem LenM.mono {M : DMsg} {B B' : Nat} (h : LenM M B) (hb : B ≤ B') : LenM M B' := ⟨Nat.le_trans h.1 hb, fun i s hs => ⟨Nat.le_trans (h.2 i s hs).1 hb, Nat.le_trans (h.2 i s hs).2 hb⟩⟩
set_option maxHeartbeats 2000000 in
theorem eqM (v u : Value) (M : DMsg) (w : World) (h : VMsg w v M) (k : VMsg w u M) (hl : LenM M 2097152) (hn : M.items.length ≤ 1048576) :
    Calls Try.prog 8 #[v, u] w fun e w' => e = .returned (.bool true) ∧ Below w.heap.size w w' := by
  obtain ⟨iv, rfl, hi⟩ := h
  obtain ⟨jv, rfl, hj⟩ := k
  have hE : ∀ w : World, ∀ o, Ext w (w.alloc o) := fun w o => World.grownBy_alloc _ _ _
  have x2 : ∀ a b, Ext w ((w.alloc a).alloc b) := fun a b => (hE _ _).tr (hE _ _)
  have hB2 : ∀ a b, Below w.heap.size w ((w.alloc a).alloc b) := fun a b => ((Below.refl _ w).alloc (Nat.le_refl _) _).alloc (by simp) _
  go_enter Try.func8, Try.ntmps8
  go_wp2_with fail
  refine (eqS_I _ _ M.items _ (hi.ext (x2 _ _)) (hj.ext (x2 _ _)) hn hl.2).mono ?_
  rintro e w1 ⟨rfl, b1⟩
  have P1 := below_blk b1 (by simp; omega) (k2_0 w _ _)
  have R1 := below_blk b1 (by simp) (k2_1 w _ _)
  obtain ⟨p7, y7⟩ := at_block P1 7 _ rfl
  obtain ⟨p8, y8⟩ := at_block P1 8 _ rfl
  obtain ⟨r7, z7⟩ := at_block R1 7 _ rfl
  obtain ⟨r8, z8⟩ := at_block R1 8 _ rfl
  have B1 := (hB2 _ _).trans (b1.mono (by simp; omega))
  clear b1 P1 R1
  go_wp2
  go_ret
  exact ⟨rfl, B1⟩


theorem ta20 (v : Value) (w : World) : (Instr.typeAssert (.iface 86 v) 98 100 true).run Try.prog w = .ok (.tuple #[.agg #[.int .i64 0, .int .i64 0], .bool false]) w := by kernel_rfl
theorem ta21 (v : Value) (w : World) : (Instr.typeAssert (.iface 86 v) 98 102 true).run Try.prog w = .ok (.tuple #[.agg #[.bool false], .bool false]) w := by kernel_rfl
theorem ta22 (v : Value) (w : World) : (Instr.typeAssert (.iface 86 v) 98 86 true).run Try.prog w = .ok (.tuple #[v, .bool true]) w := by kernel_rfl

set_option maxHeartbeats 4000000 in
set_option maxRecDepth 100000 in
theorem messageAdd (M : DMsg) (iv : Value) (hi : ∃ a c, iv = .slice a M.items.length c) (w : World) :
    Calls Try.prog 47 #[.int .i64 2, .int .i64 M.from_, .int .i64 M.dst, .int .i64 M.term, .iface 86 (.agg #[.int .i64 M.prev, .int .i64 M.prevTerm, iv, .int .i64 M.commit])] w fun e w' => e = .returned (.agg #[.int .i64 2, .int .i64 M.from_, .int .i64 M.dst, .int .i64 M.term, .int .i64 M.prev, .int .i64 M.prevTerm, iv, .int .i64 M.commit, .bool false]) ∧ Below w.heap.size w w' := by
  have hB : ∀ w : World, ∀ o, Below w.heap.size w (w.alloc o) := fun w o => (Below.refl _ w).alloc (Nat.le_refl _) _
  obtain ⟨ia, ic, rfl⟩ := hi
  have hta := ta22
  have hta0 := ta20
  have hta1 := ta21
  go_enter Try.func47, Try.ntmps47
  go_wp2
  go_region
  all_goals
    try go_wp2
    refine bodyPost_ret (v := .agg #[.int .i64 2, .int .i64 M.from_, .int .i64 M.dst, .int .i64 M.term, .int .i64 M.prev, .int .i64 M.prevTerm, .slice ia M.items.length ic, .int .i64 M.commit, .bool false]) (by simp [results, Try.results47, go_sem]) rfl ?_
    refine ⟨rfl, ?_⟩
    have B0 : ∀ a b, Below w.heap.size w ((w.alloc a).alloc b) := fun a b => ((Below.refl _ w).alloc (Nat.le_refl _) _).alloc (by simp) _
    first | exact B0 _ _ | (repeat (first | exact B0 _ _ | refine below_set ?_ (by simp; done) | refine below_set ?_ (by simp; omega) | refine Below.alloc ?_ (by simp; omega) _ | refine below_drewN ?_ _))


/-- A part of a list of items. -/
theorem VItems.sub {w : World} {a : Option Addr} {n cap : Nat} {ss : List DItem} (h : VItems w (.slice a n cap) ss) (p m : Nat) (hp : p + m ≤ n) : VItems w (.slice (a.map fun x => x.add (p * 7)) m (cap - p)) ((ss.drop p).take m) := by
  obtain ⟨C, ⟨a', c', hv, h1, h2, h3⟩, hC⟩ := h
  simp only [Value.slice.injEq] at hv
  obtain ⟨rfl, rfl, rfl⟩ := hv
  have hl : ((ss.drop p).take m).length = m := by rw [List.length_take, List.length_drop]; omega
  refine ⟨fun i j => C (p + i) j, ?_, fun i d hd => ?_⟩
  · rw [hl]
    refine ⟨_, cap - p, rfl, by omega, by omega, fun hm => ?_⟩
    obtain ⟨b, o, rfl, hb, hc⟩ := h3 (by omega)
    refine ⟨b, o + p * 7, by simp [Addr.add], hb, fun i hi j hj => ?_⟩
    have := hc (p + i) (by omega) j hj
    have e : o + (p + i) * 7 + j = o + p * 7 + i * 7 + j := by omega
    rw [e] at this
    exact this
  · refine hC (p + i) d ?_
    have hi : i < m := by have := (List.getElem?_eq_some_iff.1 hd).1; omega
    rw [List.getElem?_take_of_lt hi, List.getElem?_drop] at hd
    exact hd

end Go.Proofs.Ytdcbajejgphlgaa
