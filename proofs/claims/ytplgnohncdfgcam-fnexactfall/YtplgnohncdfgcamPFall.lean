/- At every server and number of servers, Fall answers as the specification does, writes into nothing that was handed in, keeps nothing of it, and its answer owns its memory. No condition. -/
import Derived.Test.YtplgnohncdfgcamFa
import Derived.Test.YtplgnohncdfgcamFs
import Derived.Test.YtplgnohncdfgcamBaX
import Derived.Test.YtplgnohncdfgcamMsA
import Derived.Test.YtplgnohncdfgcamNdB
import Derived.Test.YtplgnohncdfgcamNmE
import Derived.Deep.RegionHeld3
import Derived.ProofKit
import Derived.OpenShut
import Derived.Lib.SmallJoins
import Derived.Test.YtplgnohncdfgcamCm1
import Derived.Test.YtplgnohncdfgcamIt1
import Derived.Deep.Slices
import Derived.Test.YtplgnohncdfgcamRows
import Derived.ChangeOld
import Derived.Carry
namespace Go.Proofs.Ytplgnohncdfgcam
open Go.RowKit

set_option maxRecDepth 20000 in
set_option maxHeartbeats 4000000 in
theorem iFall_no (v : Value) (M : DNode) (s : Int) (w : World) (h : VNode w v M) (hp : ¬ NodeP M s) :
    Calls Try.prog 12 #[v, .int .i64 s] w fun e w' => e = .returned zeroV ∧ Below w.heap.size w w' := by
  have hE : ∀ w : World, ∀ o, Ext w (w.alloc o) := fun w o => World.grownBy_alloc _ _ _
  have HV : Hid (VNode w v M) := h
  obtain ⟨lv, bv, nv, mv, rfl, hlv, hbv, hnv, hmv⟩ := h
  have HLV : Hid (VItems w lv M.log) := hlv
  obtain ⟨la, lc, rfl⟩ := items_shape hlv
  clear hlv hbv hnv hmv
  have HP : Hid (¬ NodeP M s) := hp
  clear hp
  go_enter Try.func12, Try.ntmps12
  go_wp2_with fail
  have P0 : ((w.alloc (.cells #[.int .i64 M.id, .int .i64 M.term, .int .i64 M.vote, .slice la M.log.length lc, .int .i64 M.commit, .int .i64 M.role, .int .i64 M.lead, .int .i64 M.wait, bv, nv, mv] 31 (0, 0))).alloc (.cells #[.int .i64 0, .int .i64 0, .int .i64 0, .slice none 0 0, .int .i64 0, .int .i64 0, .int .i64 0, .int .i64 0, .slice none 0 0, .slice none 0 0, .slice none 0 0] 31 (0, 0))).heap[w.heap.size]? = _ := (Below.heap_alloc (w.alloc _) _ w.heap.size (by simp)).trans (heap_alloc_new w _)
  have R0 : ((w.alloc (.cells #[.int .i64 M.id, .int .i64 M.term, .int .i64 M.vote, .slice la M.log.length lc, .int .i64 M.commit, .int .i64 M.role, .int .i64 M.lead, .int .i64 M.wait, bv, nv, mv] 31 (0, 0))).alloc (.cells #[.int .i64 0, .int .i64 0, .int .i64 0, .slice none 0 0, .int .i64 0, .int .i64 0, .int .i64 0, .int .i64 0, .slice none 0 0, .slice none 0 0, .slice none 0 0] 31 (0, 0))).heap[w.heap.size + 1]? = some (.cells #[.int .i64 0, .int .i64 0, .int .i64 0, .slice none 0 0, .int .i64 0, .int .i64 0, .int .i64 0, .int .i64 0, .slice none 0 0, .slice none 0 0, .slice none 0 0] 31 (0, 0)) := by have := heap_alloc_new (w.alloc (.cells #[.int .i64 M.id, .int .i64 M.term, .int .i64 M.vote, .slice la M.log.length lc, .int .i64 M.commit, .int .i64 M.role, .int .i64 M.lead, .int .i64 M.wait, bv, nv, mv] 31 (0, 0))) (.cells #[.int .i64 0, .int .i64 0, .int .i64 0, .slice none 0 0, .int .i64 0, .int .i64 0, .int .i64 0, .int .i64 0, .slice none 0 0, .slice none 0 0, .slice none 0 0] 31 (0, 0)); simpa using this
  have X0 : Ext w ((w.alloc (.cells #[.int .i64 M.id, .int .i64 M.term, .int .i64 M.vote, .slice la M.log.length lc, .int .i64 M.commit, .int .i64 M.role, .int .i64 M.lead, .int .i64 M.wait, bv, nv, mv] 31 (0, 0))).alloc (.cells #[.int .i64 0, .int .i64 0, .int .i64 0, .slice none 0 0, .int .i64 0, .int .i64 0, .int .i64 0, .int .i64 0, .slice none 0 0, .slice none 0 0, .slice none 0 0] 31 (0, 0))) := (hE _ _).tr (hE _ _)
  have B0 : Below w.heap.size w ((w.alloc (.cells #[.int .i64 M.id, .int .i64 M.term, .int .i64 M.vote, .slice la M.log.length lc, .int .i64 M.commit, .int .i64 M.role, .int .i64 M.lead, .int .i64 M.wait, bv, nv, mv] 31 (0, 0))).alloc (.cells #[.int .i64 0, .int .i64 0, .int .i64 0, .slice none 0 0, .int .i64 0, .int .i64 0, .int .i64 0, .int .i64 0, .slice none 0 0, .slice none 0 0, .slice none 0 0] 31 (0, 0))) := ((Below.refl _ w).alloc (Nat.le_refl _) _).alloc (by simp) _
  have z0 : ((w.alloc (.cells #[.int .i64 M.id, .int .i64 M.term, .int .i64 M.vote, .slice la M.log.length lc, .int .i64 M.commit, .int .i64 M.role, .int .i64 M.lead, .int .i64 M.wait, bv, nv, mv] 31 (0, 0))).alloc (.cells #[.int .i64 0, .int .i64 0, .int .i64 0, .slice none 0 0, .int .i64 0, .int .i64 0, .int .i64 0, .int .i64 0, .slice none 0 0, .slice none 0 0, .slice none 0 0] 31 (0, 0))).heap.size = w.heap.size + 2 := by simp
  generalize (w.alloc (.cells #[.int .i64 M.id, .int .i64 M.term, .int .i64 M.vote, .slice la M.log.length lc, .int .i64 M.commit, .int .i64 M.role, .int .i64 M.lead, .int .i64 M.wait, bv, nv, mv] 31 (0, 0))).alloc (.cells #[.int .i64 0, .int .i64 0, .int .i64 0, .slice none 0 0, .int .i64 0, .int .i64 0, .int .i64 0, .int .i64 0, .slice none 0 0, .slice none 0 0, .slice none 0 0] 31 (0, 0)) = V at P0 R0 X0 B0 z0 ⊢
  refine (iNodeOkP _ M s _ (HV.out.ext X0)).mono ?_
  rintro e w1 ⟨rfl, b1⟩
  rw [tBn HP.out]
  have s1 := b1.size
  have R1 := below_blk b1 (by omega) R0
  have B1 := B0.trans (b1.mono (by omega))
  clear b1 P0 R0 B0
  obtain ⟨r0, zz0⟩ := at_block R1 0 _ rfl
  obtain ⟨r1, zz1⟩ := at_block R1 1 _ rfl
  obtain ⟨r2, zz2⟩ := at_block R1 2 _ rfl
  obtain ⟨r3, zz3⟩ := at_block R1 3 _ rfl
  obtain ⟨r4, zz4⟩ := at_block R1 4 _ rfl
  obtain ⟨r5, zz5⟩ := at_block R1 5 _ rfl
  obtain ⟨r6, zz6⟩ := at_block R1 6 _ rfl
  obtain ⟨r7, zz7⟩ := at_block R1 7 _ rfl
  obtain ⟨r8, zz8⟩ := at_block R1 8 _ rfl
  obtain ⟨r9, zz9⟩ := at_block R1 9 _ rfl
  obtain ⟨r10, zz10⟩ := at_block R1 10 _ rfl
  clear R1
  go_wp2
  refine bodyPost_ret (v := zeroV) (by simp [zeroV, results, Try.results12, go_sem, r0, r1, r2, r3, r4, r5, r6, r7, r8, r9, r10]) rfl ?_
  refine ⟨rfl, ?_⟩
  repeat (refine below_set ?_ (by omega))
  exact B1

theorem iFallV (v : Value) (M : DNode) (s : Int) (w : World) (h : VNode w v M) (hl : LenN M 1048576) : Calls Try.prog 12 #[v, .int .i64 s] w (FaPost M s w) := by
  by_cases hp : NodeP M s
  · obtain ⟨⟨h1, h5⟩, _, _⟩ := nodeP_n hp
    obtain ⟨n, rfl⟩ := Int.eq_ofNat_of_zero_le (show 0 ≤ s by omega)
    exact (iFall_yes v M n w h hp hl).mono fun e w' ⟨v', e1, f, b⟩ => ⟨v', e1, .inl ⟨hp, f⟩, b⟩
  · exact (iFall_no v M s w h hp).mono fun e w' ⟨e1, b⟩ => ⟨_, e1, .inr ⟨hp, rfl⟩, b⟩
theorem sFallV (v : Value) (M : DNode) (s : Int) (w : World) (h : VNode w v M) (hl : LenN M 1048576) : Calls Try.prog 11 #[v, .int .i64 s] w (FaPost M s w) := by
  by_cases hp : NodeP M s
  · obtain ⟨⟨h1, h5⟩, _, _⟩ := nodeP_n hp
    obtain ⟨n, rfl⟩ := Int.eq_ofNat_of_zero_le (show 0 ≤ s by omega)
    exact (sFall_yes v M n w h hp hl).mono fun e w' ⟨v', e1, f, b⟩ => ⟨v', e1, .inl ⟨hp, f⟩, b⟩
  · exact (sFall_no v M s w h hp).mono fun e w' ⟨e1, b⟩ => ⟨_, e1, .inr ⟨hp, rfl⟩, b⟩

end Go.Proofs.Ytplgnohncdfgcam

namespace Go.Proofs.Ytplgnohncdfgcam
open Go.RowKit

def ResF (lo : Nat) (w : World) (v : Value) (M : DNode) (s : Int) : Prop := (NodeP M s ∧ FalN lo w v M s.toNat) ∨ (¬ NodeP M s ∧ v = zeroV)
def ResM (lo : Nat) (w : World) (v : Value) (M : DNode) (s : Int) (k : Int) : Prop := (NodeP M s ∧ MkF lo w v M s.toNat k) ∨ (¬ NodeP M s ∧ v = zeroV ∧ k = 1)
def faD (M : DNode) (s : Int) (h : Decidable (NodeP M s) := Classical.propDecidable (NodeP M s)) : DNode := @ite _ (NodeP M s) h (fallD M s.toNat) zeroD
theorem faD_yes {M : DNode} {s : Int} (h : NodeP M s) : faD M s = fallD M s.toNat := by unfold faD; exact if_pos h
theorem faD_no {M : DNode} {s : Int} (h : ¬ NodeP M s) : faD M s = zeroD := by unfold faD; exact if_neg h

theorem ResF.v {lo : Nat} {w : World} {v : Value} {M : DNode} {s : Int} (h : ResF lo w v M s) (hr : ∀ (i : Nat) (s : DItem), M.log[i]? = some s → (∀ x ∈ s.cmd.op.key, 0 ≤ x ∧ x ≤ 255) ∧ (∀ x ∈ s.cmd.op.val, 0 ≤ x ∧ x ≤ 255)) : VNode w v (faD M s) := by
  rcases h with ⟨hp, f⟩ | ⟨hp, rfl⟩
  · rw [faD_yes hp]
    obtain ⟨⟨_, _⟩, _⟩ := nodeP_n hp
    exact f.v (by omega) hr
  · rw [faD_no hp]
    exact zero_v w
theorem ResF.ext {lo : Nat} {w w' : World} {v : Value} {M : DNode} {s : Int} (h : ResF lo w v M s) (e : Ext w w') : ResF lo w' v M s := by
  rcases h with ⟨hp, f⟩ | h
  · exact .inl ⟨hp, f.ext e⟩
  · exact .inr h
theorem ResF.same {lo : Nat} {w w' : World} {v : Value} {M : DNode} {s : Int} (h : ResF lo w v M s) (hs : ∀ b, lo ≤ b → b < w.heap.size → w'.heap[b]? = w.heap[b]?) : ResF lo w' v M s := by
  rcases h with ⟨hp, f⟩ | h
  · exact .inl ⟨hp, f.same hs⟩
  · exact .inr h
theorem ResM.ext {lo : Nat} {w w' : World} {v : Value} {M : DNode} {s k : Int} (h : ResM lo w v M s k) (e : Ext w w') : ResM lo w' v M s k := by
  rcases h with ⟨hp, f⟩ | h
  · exact .inl ⟨hp, f.ext e⟩
  · exact .inr h
theorem faD_len {M : DNode} (s : Int) (h : LenN M 1048576) : LenN (faD M s) 1048576 := by
  by_cases hp : NodeP M s
  · rw [faD_yes hp]
    obtain ⟨⟨_, _⟩, _⟩ := nodeP_n hp
    exact ⟨h.1, h.2.1, by simp [fallD]; omega, by simp [fallD]; omega, by simp [fallD]; omega⟩
  · rw [faD_no hp]
    exact len_zero
theorem logL_of {M : DNode} (h : zN M ≤ 1048576) : LogL M.log := by
  have hl := lenN_of h
  unfold zN at h
  exact ⟨hl.1, fun i s hs => by have := hl.2.1 i s hs; omega, by omega⟩
theorem vnode_shape {w : World} {v : Value} {D : DNode} (h : VNode w v D) : ∃ a3 c3 a8 c8 a9 c9 a10 c10, v = .agg #[.int .i64 D.id, .int .i64 D.term, .int .i64 D.vote, .slice a3 D.log.length c3, .int .i64 D.commit, .int .i64 D.role, .int .i64 D.lead, .int .i64 D.wait, .slice a8 D.votes.length c8, .slice a9 D.next.length c9, .slice a10 D.mat.length c10] := by
  obtain ⟨lv, bv, nv, mv, rfl, h1, h2, h3, h4⟩ := h
  obtain ⟨a3, c3, rfl⟩ := items_shape h1
  obtain ⟨a8, c8, rfl, _⟩ := h2
  obtain ⟨a9, c9, rfl, _⟩ := h3
  obtain ⟨a10, c10, rfl, _⟩ := h4
  exact ⟨a3, c3, a8, c8, a9, c9, a10, c10, rfl⟩

theorem markRes (lo : Nat) (v : Value) (M : DNode) (s : Int) (w : World) (h : ResF lo w v M s) (hl : LogL M.log) (hls : lo ≤ w.heap.size) :
    Calls Try.prog 13 #[v, .int .i64 1] w fun e w' => ∃ k : Int, 0 ≤ k ∧ e = .returned (.int .i64 k) ∧ ResM lo w' v M s k ∧ Below lo w w' ∧ Oth3 w w' := by
  rcases h with ⟨hp, f⟩ | ⟨hp, rfl⟩
  · obtain ⟨⟨_, _⟩, _⟩ := nodeP_n hp
    refine (markFal lo v M s.toNat w f (by omega) hl hls).mono ?_
    rintro e w' ⟨k, k0, h1, h2, h3, h4⟩
    exact ⟨k, k0, h1, .inl ⟨hp, h2⟩, h3, h4⟩
  · refine (markZero w).mono ?_
    rintro e w' ⟨rfl, b⟩
    exact ⟨1, by omega, rfl, .inr ⟨hp, rfl, rfl⟩, b.mono hls, fun x cur t _ _ _ _ hc => (b.block x (Array.getElem?_eq_some_iff.1 hc).1).trans hc⟩
theorem heldRes (lo : Nat) (v : Value) (M : DNode) (s k : Int) (w : World) (h : ResM lo w v M s k) (hl : LogL M.log) :
    Calls Try.prog 14 #[v, .int .i64 1] w fun e w' => e = .returned (.int .i64 k) ∧ Below w.heap.size w w' := by
  rcases h with ⟨hp, f⟩ | ⟨hp, rfl, rfl⟩
  · obtain ⟨⟨_, _⟩, _⟩ := nodeP_n hp
    exact heldFal lo v M s.toNat k w f (by omega) hl
  · exact heldZero w

end Go.Proofs.Ytplgnohncdfgcam

namespace Go.Proofs.Ytplgnohncdfgcam
open Go.RowKit

/-- Of the blocks that lay there only some of those from lo up to hi have turned: rows of bytes (their sizes have not), and the block og. -/
structure Mk (lo hi : Nat) (og : Option Nat) (w w' : World) : Prop where
  os : w'.os = w.os
  tape : w'.tape = w.tape
  output : w'.output = w.output
  size : w.heap.size ≤ w'.heap.size
  out : ∀ k, k < w.heap.size → (k < lo ∨ hi ≤ k) → w'.heap[k]? = w.heap[k]?
  byt : ∀ (k : Nat) (cur : Array Value), w.heap[k]? = some (.cells cur 5 (0, 0)) → ∃ cur' : Array Value, w'.heap[k]? = some (.cells cur' 5 (0, 0)) ∧ cur'.size = cur.size
  oth : ∀ (k : Nat) (cur : Array Value) (t : TypeId), t ≠ 5 → some k ≠ og → w.heap[k]? = some (.cells cur t (0, 0)) → w'.heap[k]? = some (.cells cur t (0, 0))

theorem Mk.re (lo hi : Nat) (og : Option Nat) (w : World) : Mk lo hi og w w := ⟨rfl, rfl, rfl, Nat.le_refl _, fun _ _ _ => rfl, fun _ cur h => ⟨cur, h, rfl⟩, fun _ _ _ _ _ h => h⟩
theorem Mk.tr {lo hi : Nat} {og : Option Nat} {a b c : World} (h : Mk lo hi og a b) (k : Mk lo hi og b c) : Mk lo hi og a c :=
  ⟨k.os.trans h.os, k.tape.trans h.tape, k.output.trans h.output, Nat.le_trans h.size k.size, fun i hi' ho => (k.out i (Nat.lt_of_lt_of_le hi' h.size) ho).trans (h.out i hi' ho),
   fun i cur hc => by
     obtain ⟨c1, h1, s1⟩ := h.byt i cur hc
     obtain ⟨c2, h2, s2⟩ := k.byt i c1 h1
     exact ⟨c2, h2, s2.trans s1⟩,
   fun i cur t ht ho hc => k.oth i cur t ht ho (h.oth i cur t ht ho hc)⟩
theorem Mk.some {lo hi : Nat} {og : Option Nat} {a b : World} (h : Mk lo hi none a b) : Mk lo hi og a b :=
  ⟨h.os, h.tape, h.output, h.size, h.out, h.byt, fun i cur t ht _ hc => h.oth i cur t ht (by simp) hc⟩

theorem mk_set {lo hi x j : Nat} {og : Option Nat} {w : World} {cur : Array Value} {t : TypeId} (u : Value) (hx : w.heap[x]? = some (.cells cur t (0, 0))) (h1 : lo ≤ x) (h2 : x < hi) (ht : t = 5 ∨ some x = og) : Mk lo hi og w (w.setCell ⟨x, j, none⟩ u) := by
  have hg := set_grown w x j u
  refine ⟨hg.os, hg.tape, hg.output, hg.size, fun k hk ho => hg.block k hk (by intro e; cases e; omega), fun k c hc => ?_, fun k c t' ht' ho hc => ?_⟩
  · by_cases e : k = x
    · subst e
      rw [hx] at hc
      cases hc
      exact ⟨_, set_block hx j u, by simp⟩
    · exact ⟨c, set_other x j u e hc, rfl⟩
  · by_cases e : k = x
    · subst e
      rw [hx] at hc
      cases hc
      rcases ht with rfl | rfl
      · exact absurd rfl ht'
      · exact absurd rfl ho
    · exact set_other x j u e hc

/-- A slice of bytes that may be marked: it lies in a block from lo up to hi. -/
def WB (lo hi : Nat) (w : World) (v : Value) : Prop :=
  v = .slice none 0 0 ∨ ∃ (g n cap : Nat) (cur : Array Value), v = .slice (some ⟨g, 0, none⟩) n cap ∧ lo ≤ g ∧ g < hi ∧ n ≤ cap ∧ cur.size = cap ∧ w.heap[g]? = some (.cells cur 5 (0, 0)) ∧ n ≤ 1048576

theorem WB.mk {lo hi : Nat} {og : Option Nat} {w w' : World} {v : Value} (h : WB lo hi w v) (k : Mk lo hi og w w') : WB lo hi w' v := by
  rcases h with h | ⟨g, n, cap, cur, rfl, h1, h2, h3, h4, h5, h6⟩
  · exact .inl h
  · obtain ⟨c', e1, e2⟩ := k.byt g cur h5
    exact .inr ⟨g, n, cap, c', rfl, h1, h2, h3, e2.trans h4, e1, h6⟩
theorem WB.of {lo : Nat} {w : World} {v : Value} {xs : List Int} {base : Nat} (h : Ow w base v xs) (hb : lo ≤ base) (hl : xs.length ≤ 1048576) : WB lo w.heap.size w v := by
  rcases h.2 with ⟨rfl, _⟩ | ⟨g, cap, cur, rfl, h1, h2, h3, h4, h5, _⟩
  · exact .inl rfl
  · exact .inr ⟨g, _, cap, cur, rfl, by omega, (Array.getElem?_eq_some_iff.1 h2).1, h3, by omega, h2, hl⟩
theorem WB.grown {lo hi : Nat} {w w' : World} {v : Value} (h : WB lo hi w v) (k : Ext w w') : WB lo hi w' v := by
  rcases h with h | ⟨g, n, cap, cur, rfl, h1, h2, h3, h4, h5, h6⟩
  · exact .inl h
  · exact .inr ⟨g, n, cap, cur, rfl, h1, h2, h3, h4, (k.block g (Array.getElem?_eq_some_iff.1 h5).1 (by simp)).trans h5, h6⟩

set_option maxHeartbeats 1000000 in
theorem markW (lo hi : Nat) (og : Option Nat) (v : Value) (k : Int) (w : World) (h : WB lo hi w v) (hk0 : 0 ≤ k) (hk : k ≤ 1152921504606846976) :
    Calls Try.prog 57 #[v, .int .i64 k] w fun e w' => ∃ n : Nat, n ≤ 1048576 ∧ e = .returned (.int .i64 (k + n)) ∧ Mk lo hi og w w' := by
  rcases h with rfl | ⟨g, n, cap, cur, rfl, h1, h2, h3, h4, h5, h6⟩
  · go_enter Try.func57, Try.ntmps57
    go_wp2
    refine wp_loop_rounds 1 ?_
    rw [rounds_succ]
    go_wp2
    go_ret
    exact ⟨0, by omega, by simp, Mk.re _ _ _ _⟩
  · have H5 : Hid (w.heap[g]? = some (.cells cur 5 (0, 0))) := h5
    have H4 : Hid (cur.size = cap) := h4
    clear h4 h5
    go_enter Try.func57, Try.ntmps57
    go_wp2
    go_loopw [1, 5] (fun q i wr => ∃ j : Nat, j ≤ n ∧ i = .int .i64 j ∧ q = .int .i64 (k + j) ∧ Mk lo hi og w wr) (fun _ i _ => n - (intOf i).toNat)
    case atStart => exact ⟨0, Nat.zero_le _, rfl, by go_num, Mk.re _ _ _ _⟩
    case round =>
      obtain ⟨j, hj, rfl, rfl, hm⟩ := hrel
      by_cases hlt : j < n
      · obtain ⟨c', e1, e2⟩ := hm.byt g cur H5.out
        obtain ⟨uu, huu⟩ : ∃ uu, c'[j]? = some uu := ⟨_, Array.getElem?_eq_getElem (by have := H4.out; omega)⟩
        obtain ⟨hu, hf⟩ := at_block e1 j uu huu
        have HM : Hid (∀ u, Mk lo hi og w (wr.setCell ⟨g, j, none⟩ u)) := fun u => hm.tr (mk_set u e1 h1 h2 (.inl rfl))
        clear e1 e2 hm huu
        go_wp2
        go_roundw
        case rel => exact ⟨j + 1, by omega, by go_num, by go_num, HM.out _⟩
        case measure => simp [intOf]; omega
      · have hjn : j = n := by omega
        subst hjn
        go_wp2
        go_ret
        exact ⟨j, h6, rfl, hm⟩

/-- An array of n elements of k cells in the block g; of its cells those of the texts (tx) are known. -/
def Arr (w : World) (g : Nat) (t : TypeId) (k n : Nat) (tx : Nat → Prop) (F : Nat → Nat → Value) : Prop :=
  ∃ cur : Array Value, w.heap[g]? = some (.cells cur t (0, 0)) ∧ cur.size = n * k ∧ ∀ i, i < n → ∀ j, j < k → tx j → cur[i * k + j]? = some (F i j)
theorem Arr.of {w : World} {g : Nat} {t : TypeId} {k n : Nat} {tx : Nat → Prop} {F : Nat → Nat → Value} (h : Blk w g t k n n F) : Arr w g t k n tx F := by
  obtain ⟨cur, h1, h2, h3⟩ := h
  exact ⟨cur, h1, h2, fun i hi j hj _ => h3 i hi j hj⟩
theorem Arr.mk {lo hi : Nat} {og : Option Nat} {w w' : World} {g : Nat} {t : TypeId} {k n : Nat} {tx : Nat → Prop} {F : Nat → Nat → Value} (h : Arr w g t k n tx F) (m : Mk lo hi og w w') (ht : t ≠ 5) (hg : some g ≠ og) : Arr w' g t k n tx F := by
  obtain ⟨cur, h1, h2, h3⟩ := h
  exact ⟨cur, m.oth g cur t ht hg h1, h2, h3⟩
theorem Arr.ext {w w' : World} {g : Nat} {t : TypeId} {k n : Nat} {tx : Nat → Prop} {F : Nat → Nat → Value} (h : Arr w g t k n tx F) (m : Ext w w') : Arr w' g t k n tx F := by
  obtain ⟨cur, h1, h2, h3⟩ := h
  exact ⟨cur, (m.block g (Array.getElem?_eq_some_iff.1 h1).1 (by simp)).trans h1, h2, h3⟩
theorem Arr.cell {w : World} {g : Nat} {t : TypeId} {k n : Nat} {tx : Nat → Prop} {F : Nat → Nat → Value} (h : Arr w g t k n tx F) (i : Nat) (hi : i < n) (j : Nat) (hj : j < k) (ht : tx j) : w.cell? ⟨g, i * k + j, none⟩ = some (F i j) := by
  obtain ⟨cur, h1, h2, h3⟩ := h
  rw [cell_of_row w g _ cur t (0, 0) h1]
  exact h3 i hi j hj ht
theorem Arr.at {w : World} {g : Nat} {t : TypeId} {k n : Nat} {tx : Nat → Prop} {F : Nat → Nat → Value} (h : Arr w g t k n tx F) (x : Nat) (hx : x < n * k) : (∃ u, w.cell? ⟨g, x, none⟩ = some u) ∧ w.frozen? ⟨g, x, none⟩ = false := by
  obtain ⟨cur, h1, h2, _⟩ := h
  have := at_block h1 x cur[x] (Array.getElem?_eq_getElem (by omega))
  exact ⟨⟨_, this.1⟩, this.2⟩
theorem Arr.set {w : World} {g : Nat} {t : TypeId} {k n : Nat} {tx : Nat → Prop} {F : Nat → Nat → Value} (h : Arr w g t k n tx F) (i j : Nat) (hj : j < k) (ht : ¬ tx j) (u : Value) : Arr (w.setCell ⟨g, i * k + j, none⟩ u) g t k n tx F := by
  obtain ⟨cur, h1, h2, h3⟩ := h
  refine ⟨_, set_block h1 _ u, by simp [h2], fun i' hi' j' hj' ht' => ?_⟩
  rw [Array.getElem?_setIfInBounds, if_neg]
  · exact h3 i' hi' j' hj' ht'
  · intro e
    have e1 : (j + i * k) % k = (j' + i' * k) % k := by rw [Nat.add_comm j, Nat.add_comm j', e]
    rw [Nat.add_mul_mod_self_right, Nat.add_mul_mod_self_right, Nat.mod_eq_of_lt hj, Nat.mod_eq_of_lt hj'] at e1
    exact ht (e1 ▸ ht')
theorem Arr.mkset {lo hi : Nat} {w : World} {g : Nat} {t : TypeId} {k n : Nat} {tx : Nat → Prop} {F : Nat → Nat → Value} (h : Arr w g t k n tx F) (h1 : lo ≤ g) (h2 : g < hi) (x : Nat) (u : Value) : Mk lo hi (Option.some g) w (w.setCell ⟨g, x, none⟩ u) := by
  obtain ⟨cur, hc, _, _⟩ := h
  exact mk_set u hc h1 h2 (.inr rfl)

end Go.Proofs.Ytplgnohncdfgcam

namespace Go.Proofs.Ytplgnohncdfgcam
open Go.RowKit

def txI : Nat → Prop := fun j => j = 4 ∨ j = 5

set_option maxHeartbeats 4000000 in
theorem markIM (lo hi g n : Nat) (F : Nat → Nat → Value) (k : Int) (w : World) (h : Arr w g 51 7 n txI F) (hw : ∀ i, i < n → WB lo hi w (F i 4) ∧ WB lo hi w (F i 5)) (h1 : lo ≤ g) (h2 : g < hi) (hn : n ≤ 1048576) (hk0 : 0 ≤ k) (hk : k ≤ 70368744177664) :
    Calls Try.prog 38 #[.slice (some ⟨g, 0, none⟩) n n, .int .i64 k] w fun e w' => ∃ m : Nat, m ≤ n * 2097157 ∧ e = .returned (.int .i64 (k + m)) ∧ Mk lo hi (some g) w w' := by
  have HW : Hid (∀ i, i < n → WB lo hi w (F i 4) ∧ WB lo hi w (F i 5)) := hw
  have HA : Hid (Arr w g 51 7 n txI F) := h
  have h5 : (51 : TypeId) ≠ 5 := by decide
  have H5 : Hid ((51 : TypeId) ≠ 5) := h5
  clear hw h h5
  go_enter Try.func38, Try.ntmps38
  go_wp2
  go_loopw [1, 5] (fun q i wr => ∃ j m : Nat, j ≤ n ∧ m ≤ j * 2097157 ∧ i = .int .i64 j ∧ q = .int .i64 (k + m) ∧ Mk lo hi (some g) w wr ∧ Hid (Arr wr g 51 7 n txI F)) (fun _ i _ => n - (intOf i).toNat)
  case atStart => exact ⟨0, 0, Nat.zero_le _, by omega, rfl, by go_num, Mk.re _ _ _ _, HA.out⟩
  case round =>
    obtain ⟨j, m, hj, hmj, rfl, rfl, hm, ha⟩ := hrel
    by_cases hlt : j < n
    · have hlt' : (j : Int) < (n : Int) := by omega
      have HM0 : Hid (Mk lo hi (some g) w wr) := hm
      clear hm
      obtain ⟨⟨u0, a0⟩, f0⟩ := Arr.at ha.out (j * 7 + 0) (by omega)
      rw [Nat.add_zero] at a0 f0
      obtain ⟨⟨u1, a1⟩, f1⟩ := Arr.at ha.out (j * 7 + 1) (by omega)
      obtain ⟨⟨u2, a2⟩, f2⟩ := Arr.at ha.out (j * 7 + 2) (by omega)
      obtain ⟨⟨u3, a3⟩, f3⟩ := Arr.at ha.out (j * 7 + 3) (by omega)
      have HZ : Hid (∀ V0 V1 V2 V3 : Value, Mk lo hi (some g) w ((((wr.setCell ⟨g, j * 7, none⟩ V0).setCell ⟨g, j * 7 + 1, none⟩ V1).setCell ⟨g, j * 7 + 2, none⟩ V2).setCell ⟨g, j * 7 + 3, none⟩ V3) ∧ Arr ((((wr.setCell ⟨g, j * 7, none⟩ V0).setCell ⟨g, j * 7 + 1, none⟩ V1).setCell ⟨g, j * 7 + 2, none⟩ V2).setCell ⟨g, j * 7 + 3, none⟩ V3) g 51 7 n txI F) := fun V0 V1 V2 V3 => ⟨((((((((HM0.out).tr (Arr.mkset (ha.out) h1 h2 (j * 7 + 0) V0))).tr (Arr.mkset (((ha.out).set j 0 (by omega) (by unfold txI; omega) V0)) h1 h2 (j * 7 + 1) V1))).tr (Arr.mkset (((((ha.out).set j 0 (by omega) (by unfold txI; omega) V0)).set j 1 (by omega) (by unfold txI; omega) V1)) h1 h2 (j * 7 + 2) V2))).tr (Arr.mkset (((((((ha.out).set j 0 (by omega) (by unfold txI; omega) V0)).set j 1 (by omega) (by unfold txI; omega) V1)).set j 2 (by omega) (by unfold txI; omega) V2)) h1 h2 (j * 7 + 3) V3)), ((((((((ha.out).set j 0 (by omega) (by unfold txI; omega) V0)).set j 1 (by omega) (by unfold txI; omega) V1)).set j 2 (by omega) (by unfold txI; omega) V2)).set j 3 (by omega) (by unfold txI; omega) V3)⟩
      have d4 := Arr.cell ha.out j hlt 4 (by omega) (by unfold txI; omega)
      have d5 := Arr.cell ha.out j hlt 5 (by omega) (by unfold txI; omega)
      clear ha
      go_wp2_with fail
      refine (markW lo hi none _ _ _ ((HW.out j hlt).1.mk (HZ.out _ _ _ _).1) (by omega) (by omega)).mono ?_
      rintro e w1 ⟨n1, hn1, rfl, M1⟩
      have HM1 : Hid (Mk lo hi (some g) w w1) := (HZ.out _ _ _ _).1.tr M1.some
      have HA1 : Hid (Arr w1 g 51 7 n txI F) := (HZ.out _ _ _ _).2.mk M1 H5.out (by simp)
      clear M1 d4 d5 HM0 HZ a0 a1 a2 a3 f0 f1 f2 f3
      have d5 := Arr.cell HA1.out j hlt 5 (by omega) (by unfold txI; omega)
      go_wp2_with fail
      refine (markW lo hi none _ _ w1 ((HW.out j hlt).2.mk HM1.out) (by omega) (by omega)).mono ?_
      rintro e w2 ⟨n2, hn2, rfl, M2⟩
      have HM2 : Hid (Mk lo hi (some g) w w2) := HM1.out.tr M2.some
      have HA2 : Hid (Arr w2 g 51 7 n txI F) := HA1.out.mk M2 H5.out (by simp)
      clear M2 d5 HM1 HA1
      obtain ⟨⟨u6, a6⟩, f6⟩ := Arr.at HA2.out (j * 7 + 6) (by omega)
      have HZ : Hid (∀ V : Value, Mk lo hi (some g) w (w2.setCell ⟨g, j * 7 + 6, none⟩ V) ∧ Arr (w2.setCell ⟨g, j * 7 + 6, none⟩ V) g 51 7 n txI F) := fun V => ⟨HM2.out.tr (Arr.mkset HA2.out h1 h2 (j * 7 + 6) V), HA2.out.set j 6 (by omega) (by unfold txI; omega) V⟩
      clear HM2 HA2
      go_wp2
      go_roundw
      case rel => exact ⟨j + 1, m + 4 + n1 + n2 + 1, by omega, by omega, by go_num, by go_num, (HZ.out _).1, (HZ.out _).2⟩
      case measure => simp [intOf]; omega
    · have hjn : j = n := by omega
      subst hjn
      clear ha
      go_wp2
      go_ret
      exact ⟨m, hmj, rfl, hm⟩

end Go.Proofs.Ytplgnohncdfgcam

namespace Go.Proofs.Ytplgnohncdfgcam
open Go.RowKit

/-- Only blocks from lo up to hi have turned. -/
structure Mid (lo hi : Nat) (w w' : World) : Prop where
  os : w'.os = w.os
  tape : w'.tape = w.tape
  output : w'.output = w.output
  size : w.heap.size ≤ w'.heap.size
  out : ∀ k, k < w.heap.size → (k < lo ∨ hi ≤ k) → w'.heap[k]? = w.heap[k]?
theorem Mk.mid {lo hi : Nat} {og : Option Nat} {w w' : World} (h : Mk lo hi og w w') : Mid lo hi w w' := ⟨h.os, h.tape, h.output, h.size, h.out⟩
theorem Mid.tr {lo hi : Nat} {a b c : World} (h : Mid lo hi a b) (k : Mid lo hi b c) : Mid lo hi a c :=
  ⟨k.os.trans h.os, k.tape.trans h.tape, k.output.trans h.output, Nat.le_trans h.size k.size, fun i hi' ho => (k.out i (Nat.lt_of_lt_of_le hi' h.size) ho).trans (h.out i hi' ho)⟩
theorem Mid.ext {lo hi : Nat} {a b : World} (h : Ext a b) : Mid lo hi a b := ⟨h.os, h.tape, h.output, h.size, fun i hi' _ => h.block i hi' (by simp)⟩
theorem Mid.one {lo hi g : Nat} {a b : World} (h : a.grownBy b (some g)) (h1 : lo ≤ g) (h2 : g < hi) : Mid lo hi a b := ⟨h.os, h.tape, h.output, h.size, fun i hi' ho => h.block i hi' (by simp; omega)⟩
theorem Mid.below {lo hi B : Nat} {w0 w w' : World} (hb : Below B w0 w) (hs : B ≤ w.heap.size) (hl : B ≤ lo) (h : Mid lo hi w w') : Below B w0 w' :=
  ⟨h.os.trans hb.os, h.tape.trans hb.tape, h.output.trans hb.output, Nat.le_trans hb.size h.size, fun k hk => (h.out k (by omega) (.inl (by omega))).trans (hb.block k hk)⟩
theorem Mid.obj {lo hi k : Nat} {w w' : World} {o : Obj} (h : Mid lo hi w w') (hk : w.heap[k]? = some o) (ho : k < lo ∨ hi ≤ k) : w'.heap[k]? = some o := (h.out k (Array.getElem?_eq_some_iff.1 hk).1 ho).trans hk

end Go.Proofs.Ytplgnohncdfgcam

namespace Go.Proofs.Ytplgnohncdfgcam
open Go.RowKit

/-- v is a server that a call made: its lists lie in blocks of their own, from lo on. -/
def ONode (lo : Nat) (w : World) (v : Value) (M : DNode) : Prop := ∃ g0 g1 g2 g3, v = .agg #[.int .i64 M.id, .int .i64 M.term, .int .i64 M.vote, .slice (some ⟨g0, 0, none⟩) M.log.length M.log.length, .int .i64 M.commit, .int .i64 M.role, .int .i64 M.lead, .int .i64 M.wait, .slice (some ⟨g1, 0, none⟩) M.votes.length M.votes.length, .slice (some ⟨g2, 0, none⟩) M.next.length M.next.length, .slice (some ⟨g3, 0, none⟩) M.mat.length M.mat.length] ∧ lo ≤ g0 ∧ g0 < g1 ∧ g1 < g2 ∧ g2 < g3 ∧ OI w g0 M.log ∧ OVL fB 4 w g1 M.votes ∧ OVL fI 3 w g2 M.next ∧ OVL fI 3 w g3 M.mat
theorem oi_lt {w : World} {g : Nat} {ss : List DItem} (h : OI w g ss) : g < w.heap.size := by
  obtain ⟨F, hF, _⟩ := h
  exact blk_lt hF
theorem ovl_lt {α : Type} {f : α → Value} {t : TypeId} {w : World} {g : Nat} {xs : List α} (h : OVL f t w g xs) : g < w.heap.size := (Array.getElem?_eq_some_iff.1 h).1
theorem ONode.ext {lo : Nat} {w w' : World} {v : Value} {M : DNode} (h : ONode lo w v M) (e : Ext w w') : ONode lo w' v M := by
  obtain ⟨g0, g1, g2, g3, hv, h0, h1, h2, h3, o0, o1, o2, o3⟩ := h
  exact ⟨g0, g1, g2, g3, hv, h0, h1, h2, h3, o0.ext e, o1.ext e, o2.ext e, o3.ext e⟩
theorem ONode.v {lo : Nat} {w : World} {v : Value} {M : DNode} (h : ONode lo w v M) (hl : LenN M 1048576) (hr : ∀ (i : Nat) (s : DItem), M.log[i]? = some s → (∀ x ∈ s.cmd.op.key, 0 ≤ x ∧ x ≤ 255) ∧ (∀ x ∈ s.cmd.op.val, 0 ≤ x ∧ x ≤ 255)) : VNode w v M := by
  obtain ⟨g0, g1, g2, g3, rfl, h0, h1, h2, h3, o0, o1, o2, o3⟩ := h
  exact ⟨_, _, _, _, rfl, o0.v hl.1 hr, o1.v hl.2.2.1, o2.v hl.2.2.2.1, o3.v hl.2.2.2.2⟩

set_option maxHeartbeats 4000000 in
theorem toNO (v : Value) (M : DNode) (w : World) (h : VNode w v M) (hl : LenN M 1048576) :
    Calls Try.prog 8 #[v] w fun e w' => ∃ v', e = .returned v' ∧ ONode w.heap.size w' v' M ∧ Below w.heap.size w w' := by
  obtain ⟨lv, bv, nv, mv, rfl, hi, hb, hn, hm⟩ := h
  have hE : ∀ w : World, ∀ o, Ext w (w.alloc o) := fun w o => World.grownBy_alloc _ _ _
  go_enter Try.func8, Try.ntmps8
  go_wp2_with fail
  refine (toS_I _ M.log _ (hi.ext (((hE _ _).tr (hE _ _)).tr (hE _ _))) hl.1 hl.2.1).mono ?_
  rintro e w1 ⟨F, rfl, hF, hO, b1⟩
  have hs1 : w.heap.size + 3 ≤ w1.heap.size := by have := b1.size; simp at this; omega
  have PA := below_blk b1 (by simp; omega) (h3_0 w _ _ _)
  have RA := below_blk b1 (by simp) (h3_1 w _ _ _)
  have TA := below_blk b1 (by simp) (h3_2 w _ _ _)
  have BA : Below w.heap.size w w1 := ((((Below.refl _ w).alloc (Nat.le_refl _) _).alloc (by simp) _).alloc (by simp; omega) _).trans (b1.mono (by simp; omega))
  have oI : OI w1 (w.heap.size + 1 + 1 + 1) M.log := by
    have e3 : (((w.alloc (.cells #[.int .i64 M.id, .int .i64 M.term, .int .i64 M.vote, lv, .int .i64 M.commit, .int .i64 M.role, .int .i64 M.lead, .int .i64 M.wait, bv, nv, mv] 26 (0, 0))).alloc (.cells #[.int .i64 0, .int .i64 0, .int .i64 0, .slice none 0 0, .int .i64 0, .int .i64 0, .int .i64 0, .int .i64 0, .slice none 0 0, .slice none 0 0, .slice none 0 0] 31 (0, 0))).alloc (.cells #[.int .i64 M.id, .int .i64 M.term, .int .i64 M.vote, .slice none 0 0, .int .i64 0, .int .i64 0, .int .i64 0, .int .i64 0, .slice none 0 0, .slice none 0 0, .slice none 0 0] 31 (0, 0))).heap.size = w.heap.size + 1 + 1 + 1 := by simp
    rw [e3] at hF hO
    exact ⟨F, hF, hO⟩
  clear b1 hF hO
  obtain ⟨q3, h3⟩ := at_block TA 3 _ rfl
  obtain ⟨q4, h4⟩ := at_block TA 4 _ rfl
  obtain ⟨q5, h5⟩ := at_block TA 5 _ rfl
  obtain ⟨q6, h6⟩ := at_block TA 6 _ rfl
  obtain ⟨q7, h7⟩ := at_block TA 7 _ rfl
  have pp4 := (at_block PA 4 _ rfl).1
  have pp5 := (at_block PA 5 _ rfl).1
  have pp6 := (at_block PA 6 _ rfl).1
  have pp7 := (at_block PA 7 _ rfl).1
  have pp8 := (at_block PA 8 _ rfl).1
  go_wp2_with fail
  have TB0 : (((((w1.setCell ⟨w.heap.size + 1 + 1, 3, none⟩ (.slice (some ⟨w.heap.size + 1 + 1 + 1, 0, none⟩) M.log.length M.log.length)).setCell ⟨w.heap.size + 1 + 1, 4, none⟩ (.int .i64 M.commit)).setCell ⟨w.heap.size + 1 + 1, 5, none⟩ (.int .i64 M.role)).setCell ⟨w.heap.size + 1 + 1, 6, none⟩ (.int .i64 M.lead)).setCell ⟨w.heap.size + 1 + 1, 7, none⟩ (.int .i64 M.wait)).heap[w.heap.size + 1 + 1]? = some (.cells #[.int .i64 M.id, .int .i64 M.term, .int .i64 M.vote, .slice (some ⟨w.heap.size + 1 + 1 + 1, 0, none⟩) M.log.length M.log.length, .int .i64 M.commit, .int .i64 M.role, .int .i64 M.lead, .int .i64 M.wait, .slice none 0 0, .slice none 0 0, .slice none 0 0] 31 (0, 0)) := (set_block (set_block (set_block (set_block (set_block TA 3 (.slice (some ⟨w.heap.size + 1 + 1 + 1, 0, none⟩) M.log.length M.log.length)) 4 (.int .i64 M.commit)) 5 (.int .i64 M.role)) 6 (.int .i64 M.lead)) 7 (.int .i64 M.wait))
  have PB0 := (set_other (w.heap.size + 1 + 1) 7 (.int .i64 M.wait) (by omega) (set_other (w.heap.size + 1 + 1) 6 (.int .i64 M.lead) (by omega) (set_other (w.heap.size + 1 + 1) 5 (.int .i64 M.role) (by omega) (set_other (w.heap.size + 1 + 1) 4 (.int .i64 M.commit) (by omega) (set_other (w.heap.size + 1 + 1) 3 (.slice (some ⟨w.heap.size + 1 + 1 + 1, 0, none⟩) M.log.length M.log.length) (by omega) PA)))))
  have RB0 := (set_other (w.heap.size + 1 + 1) 7 (.int .i64 M.wait) (by omega) (set_other (w.heap.size + 1 + 1) 6 (.int .i64 M.lead) (by omega) (set_other (w.heap.size + 1 + 1) 5 (.int .i64 M.role) (by omega) (set_other (w.heap.size + 1 + 1) 4 (.int .i64 M.commit) (by omega) (set_other (w.heap.size + 1 + 1) 3 (.slice (some ⟨w.heap.size + 1 + 1 + 1, 0, none⟩) M.log.length M.log.length) (by omega) RA)))))
  have BB0 : Below w.heap.size w (((((w1.setCell ⟨w.heap.size + 1 + 1, 3, none⟩ (.slice (some ⟨w.heap.size + 1 + 1 + 1, 0, none⟩) M.log.length M.log.length)).setCell ⟨w.heap.size + 1 + 1, 4, none⟩ (.int .i64 M.commit)).setCell ⟨w.heap.size + 1 + 1, 5, none⟩ (.int .i64 M.role)).setCell ⟨w.heap.size + 1 + 1, 6, none⟩ (.int .i64 M.lead)).setCell ⟨w.heap.size + 1 + 1, 7, none⟩ (.int .i64 M.wait)) := (((((BA.setCell (by simp; omega) _).setCell (by simp; omega) _).setCell (by simp; omega) _).setCell (by simp; omega) _).setCell (by simp; omega) _)
  have zB : w.heap.size + 3 ≤ (((((w1.setCell ⟨w.heap.size + 1 + 1, 3, none⟩ (.slice (some ⟨w.heap.size + 1 + 1 + 1, 0, none⟩) M.log.length M.log.length)).setCell ⟨w.heap.size + 1 + 1, 4, none⟩ (.int .i64 M.commit)).setCell ⟨w.heap.size + 1 + 1, 5, none⟩ (.int .i64 M.role)).setCell ⟨w.heap.size + 1 + 1, 6, none⟩ (.int .i64 M.lead)).setCell ⟨w.heap.size + 1 + 1, 7, none⟩ (.int .i64 M.wait)).heap.size := by simp; omega
  have oI0 := (((((oI.set (x := w.heap.size + 1 + 1) (j := 3) (u := .slice (some ⟨w.heap.size + 1 + 1 + 1, 0, none⟩) M.log.length M.log.length) (by omega)).set (x := w.heap.size + 1 + 1) (j := 4) (u := .int .i64 M.commit) (by omega)).set (x := w.heap.size + 1 + 1) (j := 5) (u := .int .i64 M.role) (by omega)).set (x := w.heap.size + 1 + 1) (j := 6) (u := .int .i64 M.lead) (by omega)).set (x := w.heap.size + 1 + 1) (j := 7) (u := .int .i64 M.wait) (by omega))
  have kA : w.heap.size + 1 + 1 + 1 < (((((w1.setCell ⟨w.heap.size + 1 + 1, 3, none⟩ (.slice (some ⟨w.heap.size + 1 + 1 + 1, 0, none⟩) M.log.length M.log.length)).setCell ⟨w.heap.size + 1 + 1, 4, none⟩ (.int .i64 M.commit)).setCell ⟨w.heap.size + 1 + 1, 5, none⟩ (.int .i64 M.role)).setCell ⟨w.heap.size + 1 + 1, 6, none⟩ (.int .i64 M.lead)).setCell ⟨w.heap.size + 1 + 1, 7, none⟩ (.int .i64 M.wait)).heap.size := by have := oi_lt oI; simp; omega
  generalize (((((w1.setCell ⟨w.heap.size + 1 + 1, 3, none⟩ (.slice (some ⟨w.heap.size + 1 + 1 + 1, 0, none⟩) M.log.length M.log.length)).setCell ⟨w.heap.size + 1 + 1, 4, none⟩ (.int .i64 M.commit)).setCell ⟨w.heap.size + 1 + 1, 5, none⟩ (.int .i64 M.role)).setCell ⟨w.heap.size + 1 + 1, 6, none⟩ (.int .i64 M.lead)).setCell ⟨w.heap.size + 1 + 1, 7, none⟩ (.int .i64 M.wait)) = WB at TB0 PB0 RB0 BB0 zB oI0 kA ⊢
  clear q3 h3 q4 h4 q5 h5 q6 h6 q7 h7 pp4 pp5 pp6 pp7 pp8 PA RA TA BA oI
  refine (toL_B _ M.votes WB (hb.ext (ext_below BB0)) hl.2.2.1).mono ?_
  rintro e w2 ⟨rfl, oB, bB⟩
  have PB := below_blk bB (by omega) PB0
  have RB := below_blk bB (by omega) RB0
  have TB := below_blk bB (by omega) TB0
  have BB := BB0.trans (bB.mono BB0.size)
  have yB := bB.size
  have oI := oI0.ext (ext_below bB)
  generalize WB.heap.size = gB at zB yB oB kA ⊢
  clear bB PB0 RB0 TB0 BB0 oI0
  obtain ⟨q8, h8⟩ := at_block TB 8 _ rfl
  have pp9 := (at_block PB 9 _ rfl).1
  go_wp2_with fail
  have TC0 : (w2.setCell ⟨w.heap.size + 1 + 1, 8, none⟩ (.slice (some ⟨gB, 0, none⟩) M.votes.length M.votes.length)).heap[w.heap.size + 1 + 1]? = some (.cells #[.int .i64 M.id, .int .i64 M.term, .int .i64 M.vote, .slice (some ⟨w.heap.size + 1 + 1 + 1, 0, none⟩) M.log.length M.log.length, .int .i64 M.commit, .int .i64 M.role, .int .i64 M.lead, .int .i64 M.wait, .slice (some ⟨gB, 0, none⟩) M.votes.length M.votes.length, .slice none 0 0, .slice none 0 0] 31 (0, 0)) := (set_block TB 8 (.slice (some ⟨gB, 0, none⟩) M.votes.length M.votes.length))
  have PC0 := (set_other (w.heap.size + 1 + 1) 8 (.slice (some ⟨gB, 0, none⟩) M.votes.length M.votes.length) (by omega) PB)
  have RC0 := (set_other (w.heap.size + 1 + 1) 8 (.slice (some ⟨gB, 0, none⟩) M.votes.length M.votes.length) (by omega) RB)
  have BC0 : Below w.heap.size w (w2.setCell ⟨w.heap.size + 1 + 1, 8, none⟩ (.slice (some ⟨gB, 0, none⟩) M.votes.length M.votes.length)) := (BB.setCell (by simp; omega) _)
  have zC : w.heap.size + 3 ≤ (w2.setCell ⟨w.heap.size + 1 + 1, 8, none⟩ (.slice (some ⟨gB, 0, none⟩) M.votes.length M.votes.length)).heap.size := by simp; omega
  have oI0 := (oI.set (x := w.heap.size + 1 + 1) (j := 8) (u := .slice (some ⟨gB, 0, none⟩) M.votes.length M.votes.length) (by omega))
  have oB0 := (oB.set (x := w.heap.size + 1 + 1) (j := 8) (u := .slice (some ⟨gB, 0, none⟩) M.votes.length M.votes.length) (by omega))
  have kB : gB < (w2.setCell ⟨w.heap.size + 1 + 1, 8, none⟩ (.slice (some ⟨gB, 0, none⟩) M.votes.length M.votes.length)).heap.size := by have := ovl_lt oB; simp; omega
  generalize (w2.setCell ⟨w.heap.size + 1 + 1, 8, none⟩ (.slice (some ⟨gB, 0, none⟩) M.votes.length M.votes.length)) = WC at TC0 PC0 RC0 BC0 zC oI0 oB0 kB ⊢
  clear q8 h8 pp9 PB RB TB BB oI oB
  refine (toL_I _ M.next WC (hn.ext (ext_below BC0)) hl.2.2.2.1).mono ?_
  rintro e w3 ⟨rfl, oC, bC⟩
  have PC := below_blk bC (by omega) PC0
  have RC := below_blk bC (by omega) RC0
  have TC := below_blk bC (by omega) TC0
  have BC := BC0.trans (bC.mono BC0.size)
  have yC := bC.size
  have oI := oI0.ext (ext_below bC)
  have oB := oB0.ext (ext_below bC)
  generalize WC.heap.size = gC at zC yC oC kB ⊢
  clear bC PC0 RC0 TC0 BC0 oI0 oB0
  obtain ⟨q9, h9⟩ := at_block TC 9 _ rfl
  have pp10 := (at_block PC 10 _ rfl).1
  go_wp2_with fail
  have TD0 : (w3.setCell ⟨w.heap.size + 1 + 1, 9, none⟩ (.slice (some ⟨gC, 0, none⟩) M.next.length M.next.length)).heap[w.heap.size + 1 + 1]? = some (.cells #[.int .i64 M.id, .int .i64 M.term, .int .i64 M.vote, .slice (some ⟨w.heap.size + 1 + 1 + 1, 0, none⟩) M.log.length M.log.length, .int .i64 M.commit, .int .i64 M.role, .int .i64 M.lead, .int .i64 M.wait, .slice (some ⟨gB, 0, none⟩) M.votes.length M.votes.length, .slice (some ⟨gC, 0, none⟩) M.next.length M.next.length, .slice none 0 0] 31 (0, 0)) := (set_block TC 9 (.slice (some ⟨gC, 0, none⟩) M.next.length M.next.length))
  have PD0 := (set_other (w.heap.size + 1 + 1) 9 (.slice (some ⟨gC, 0, none⟩) M.next.length M.next.length) (by omega) PC)
  have RD0 := (set_other (w.heap.size + 1 + 1) 9 (.slice (some ⟨gC, 0, none⟩) M.next.length M.next.length) (by omega) RC)
  have BD0 : Below w.heap.size w (w3.setCell ⟨w.heap.size + 1 + 1, 9, none⟩ (.slice (some ⟨gC, 0, none⟩) M.next.length M.next.length)) := (BC.setCell (by simp; omega) _)
  have zD : w.heap.size + 3 ≤ (w3.setCell ⟨w.heap.size + 1 + 1, 9, none⟩ (.slice (some ⟨gC, 0, none⟩) M.next.length M.next.length)).heap.size := by simp; omega
  have oI0 := (oI.set (x := w.heap.size + 1 + 1) (j := 9) (u := .slice (some ⟨gC, 0, none⟩) M.next.length M.next.length) (by omega))
  have oB0 := (oB.set (x := w.heap.size + 1 + 1) (j := 9) (u := .slice (some ⟨gC, 0, none⟩) M.next.length M.next.length) (by omega))
  have oC0 := (oC.set (x := w.heap.size + 1 + 1) (j := 9) (u := .slice (some ⟨gC, 0, none⟩) M.next.length M.next.length) (by omega))
  have kC : gC < (w3.setCell ⟨w.heap.size + 1 + 1, 9, none⟩ (.slice (some ⟨gC, 0, none⟩) M.next.length M.next.length)).heap.size := by have := ovl_lt oC; simp; omega
  generalize (w3.setCell ⟨w.heap.size + 1 + 1, 9, none⟩ (.slice (some ⟨gC, 0, none⟩) M.next.length M.next.length)) = WD at TD0 PD0 RD0 BD0 zD oI0 oB0 oC0 kC ⊢
  clear q9 h9 pp10 PC RC TC BC oI oB oC
  refine (toL_I _ M.mat WD (hm.ext (ext_below BD0)) hl.2.2.2.2).mono ?_
  rintro e w4 ⟨rfl, oD, bD⟩
  have PD := below_blk bD (by omega) PD0
  have RD := below_blk bD (by omega) RD0
  have TD := below_blk bD (by omega) TD0
  have BD := BD0.trans (bD.mono BD0.size)
  have yD := bD.size
  have oI := oI0.ext (ext_below bD)
  have oB := oB0.ext (ext_below bD)
  have oC := oC0.ext (ext_below bD)
  generalize WD.heap.size = gD at zD yD oD kC ⊢
  clear bD PD0 RD0 TD0 BD0 oI0 oB0 oC0
  obtain ⟨q0, h0⟩ := at_block TD 0 _ rfl
  obtain ⟨q1, h1⟩ := at_block TD 1 _ rfl
  obtain ⟨q2, h2⟩ := at_block TD 2 _ rfl
  obtain ⟨q3, h3⟩ := at_block TD 3 _ rfl
  obtain ⟨q4, h4⟩ := at_block TD 4 _ rfl
  obtain ⟨q5, h5⟩ := at_block TD 5 _ rfl
  obtain ⟨q6, h6⟩ := at_block TD 6 _ rfl
  obtain ⟨q7, h7⟩ := at_block TD 7 _ rfl
  obtain ⟨q8, h8⟩ := at_block TD 8 _ rfl
  obtain ⟨q9, h9⟩ := at_block TD 9 _ rfl
  obtain ⟨q10, h10⟩ := at_block TD 10 _ rfl
  obtain ⟨r0, y0⟩ := at_block RD 0 _ rfl
  obtain ⟨r1, y1⟩ := at_block RD 1 _ rfl
  obtain ⟨r2, y2⟩ := at_block RD 2 _ rfl
  obtain ⟨r3, y3⟩ := at_block RD 3 _ rfl
  obtain ⟨r4, y4⟩ := at_block RD 4 _ rfl
  obtain ⟨r5, y5⟩ := at_block RD 5 _ rfl
  obtain ⟨r6, y6⟩ := at_block RD 6 _ rfl
  obtain ⟨r7, y7⟩ := at_block RD 7 _ rfl
  obtain ⟨r8, y8⟩ := at_block RD 8 _ rfl
  obtain ⟨r9, y9⟩ := at_block RD 9 _ rfl
  obtain ⟨r10, y10⟩ := at_block RD 10 _ rfl
  go_wp2
  refine bodyPost_ret (v := .agg #[.int .i64 M.id, .int .i64 M.term, .int .i64 M.vote, .slice (some ⟨w.heap.size + 1 + 1 + 1, 0, none⟩) M.log.length M.log.length, .int .i64 M.commit, .int .i64 M.role, .int .i64 M.lead, .int .i64 M.wait, .slice (some ⟨gB, 0, none⟩) M.votes.length M.votes.length, .slice (some ⟨gC, 0, none⟩) M.next.length M.next.length, .slice (some ⟨gD, 0, none⟩) M.mat.length M.mat.length]) (by simp [results, Try.results8, go_sem, r0, r1, r2, r3, r4, r5, r6, r7, r8, r9, r10]) rfl ?_
  refine ⟨_, rfl, ⟨_, _, _, _, rfl, by omega, kA, kB, kC, ?_, ?_, ?_, ?_⟩, ?_⟩
  · repeat (refine OI.set ?_ (by omega))
    exact oI
  · repeat (refine OVL.set ?_ (by omega))
    exact oB
  · repeat (refine OVL.set ?_ (by omega))
    exact oC
  · repeat (refine OVL.set ?_ (by omega))
    exact oD
  · repeat (refine below_set ?_ (by omega))
    exact BD

end Go.Proofs.Ytplgnohncdfgcam

namespace Go.Proofs.Ytplgnohncdfgcam
open Go.RowKit

theorem ovl_oth {α : Type} {f : α → Value} {t : TypeId} {w w' : World} {g x : Nat} {xs : List α} (h : OVL f t w g xs) (hg : w.grownBy w' (some x)) (hx : g ≠ x) : OVL f t w' g xs := (hg.block g (Array.getElem?_eq_some_iff.1 h).1 (by simp; omega)).trans h
theorem obj_oth {w w' : World} {g x : Nat} {o : Obj} (h : w.heap[g]? = some o) (hg : w.grownBy w' (some x)) (hx : g ≠ x) : w'.heap[g]? = some o := (hg.block g (Array.getElem?_eq_some_iff.1 h).1 (by simp; omega)).trans h

/-- A server's memory, as far as its marks need it: from lo up to hi. -/
def ShpN (lo hi : Nat) (w : World) (v : Value) (M : DNode) : Prop := ∃ g0 g1 g2 g3 F, v = .agg #[.int .i64 M.id, .int .i64 M.term, .int .i64 M.vote, .slice (some ⟨g0, 0, none⟩) M.log.length M.log.length, .int .i64 M.commit, .int .i64 M.role, .int .i64 M.lead, .int .i64 M.wait, .slice (some ⟨g1, 0, none⟩) M.votes.length M.votes.length, .slice (some ⟨g2, 0, none⟩) M.next.length M.next.length, .slice (some ⟨g3, 0, none⟩) M.mat.length M.mat.length] ∧ lo ≤ g0 ∧ g0 < g1 ∧ g1 < g2 ∧ g2 < g3 ∧ g3 < hi ∧ (Arr w g0 51 7 M.log.length txI F ∧ ∀ i, i < M.log.length → WB lo hi w (F i 4) ∧ WB lo hi w (F i 5)) ∧ OVL fB 4 w g1 M.votes ∧ OVL fI 3 w g2 M.next ∧ OVL fI 3 w g3 M.mat
theorem ShpN.ext {lo hi : Nat} {w w' : World} {v : Value} {M : DNode} (h : ShpN lo hi w v M) (e : Ext w w') : ShpN lo hi w' v M := by
  obtain ⟨g0, g1, g2, g3, F, hv, h0, h1, h2, h3, h4, ⟨a1, a2⟩, o1, o2, o3⟩ := h
  exact ⟨g0, g1, g2, g3, F, hv, h0, h1, h2, h3, h4, ⟨a1.ext e, fun i hi => ⟨(a2 i hi).1.grown e, (a2 i hi).2.grown e⟩⟩, o1.ext e, o2.ext e, o3.ext e⟩
theorem shpN_of {lo : Nat} {w : World} {v : Value} {M : DNode} (h : ONode lo w v M) (hl : LenN M 1048576) : ShpN lo w.heap.size w v M := by
  obtain ⟨g0, g1, g2, g3, hv, h0, h1, h2, h3, o0, o1, o2, o3⟩ := h
  obtain ⟨F, hF, hO⟩ := o0
  refine ⟨g0, g1, g2, g3, F, hv, h0, h1, h2, h3, ovl_lt o3, ⟨Arr.of hF, fun i hi => ?_⟩, o1, o2, o3⟩
  obtain ⟨r, hr⟩ : ∃ r, M.log[i]? = some r := ⟨_, List.getElem?_eq_getElem hi⟩
  obtain ⟨_, _, _, _, p4, p5, _⟩ := hO i r hr
  exact ⟨WB.of p4 (by omega) (hl.2.1 i r hr).1, WB.of p5 (by omega) (hl.2.1 i r hr).2⟩

set_option maxHeartbeats 4000000 in
theorem markNM (lo hi : Nat) (v : Value) (M : DNode) (w : World) (h : ShpN lo hi w v M) (hh : hi ≤ w.heap.size) (hl : LenN M 1048576) :
    Calls Try.prog 13 #[v, .int .i64 1] w fun e w' => ∃ k : Nat, e = .returned (.int .i64 k) ∧ Mid lo hi w w' := by
  have hE : ∀ w : World, ∀ o, Ext w (w.alloc o) := fun w o => World.grownBy_alloc _ _ _
  obtain ⟨g0, g1, g2, g3, F, rfl, h0, h1, h2, h3, l3, hA, o1, o2, o3⟩ := h
  have HO1 : Hid (OVL fB 4 w g1 M.votes) := o1
  have HO2 : Hid (OVL fI 3 w g2 M.next) := o2
  have HO3 : Hid (OVL fI 3 w g3 M.mat) := o3
  have hl1 : M.log.length ≤ 1048576 := hl.1
  have hl2 : M.votes.length ≤ 1048576 := hl.2.2.1
  have hl3 : M.next.length ≤ 1048576 := hl.2.2.2.1
  have hl4 : M.mat.length ≤ 1048576 := hl.2.2.2.2
  have HA : Hid (Arr w g0 51 7 M.log.length txI F ∧ ∀ i, i < M.log.length → WB lo hi w (F i 4) ∧ WB lo hi w (F i 5)) := hA
  clear hA o1 o2 o3 hl
  go_enter Try.func13, Try.ntmps13
  go_wp2_with fail
  have hbx := heap_alloc_new w (.cells #[.int .i64 M.id, .int .i64 M.term, .int .i64 M.vote, .slice (some ⟨g0, 0, none⟩) M.log.length M.log.length, .int .i64 M.commit, .int .i64 M.role, .int .i64 M.lead, .int .i64 M.wait, .slice (some ⟨g1, 0, none⟩) M.votes.length M.votes.length, .slice (some ⟨g2, 0, none⟩) M.next.length M.next.length, .slice (some ⟨g3, 0, none⟩) M.mat.length M.mat.length] 31 (0, 0))
  refine (markIM lo hi g0 M.log.length F 1 _ (HA.out.1.ext (hE _ _)) (fun i hi => ⟨(HA.out.2 i hi).1.grown (hE _ _), (HA.out.2 i hi).2.grown (hE _ _)⟩) h0 (by omega) hl1 (by omega) (by omega)).mono ?_
  rintro e w1 ⟨m1, hm1, rfl, M1⟩
  have D1 : Mid lo hi w w1 := (Mid.ext (hE _ _)).tr M1.mid
  have P1 := M1.mid.obj hbx (.inr hh)
  obtain ⟨c8, _⟩ := at_block P1 8 _ rfl
  have N1 : OVL fB 4 w1 g1 M.votes := M1.oth g1 _ 4 (by decide) (by simp; omega) (HO1.out.ext (hE _ _))
  have N2 : OVL fI 3 w1 g2 M.next := M1.oth g2 _ 3 (by decide) (by simp; omega) (HO2.out.ext (hE _ _))
  have N3 : OVL fI 3 w1 g3 M.mat := M1.oth g3 _ 3 (by decide) (by simp; omega) (HO3.out.ext (hE _ _))
  clear M1
  have hk1 : (0 : Int) ≤ 1 + (m1 : Int) := by omega
  have hk1' : (1 : Int) + (m1 : Int) ≤ 3000000000000 := by omega
  go_wp2_with fail
  refine (markL_B g1 M.votes (1 + m1) w1 N1 hk1 (by omega) hl2).mono ?_
  rintro e w2 ⟨rfl, _, G2⟩
  have D2 := D1.tr (Mid.one G2 (by omega) (by omega))
  have P2 := obj_oth P1 G2 (by omega)
  obtain ⟨c9, _⟩ := at_block P2 9 _ rfl
  have N2' := ovl_oth N2 G2 (by omega)
  have N3' := ovl_oth N3 G2 (by omega)
  clear c8 P1 N1 N2 N3 D1 G2
  go_wp2_with fail
  refine (markL_I g2 M.next (1 + m1 + M.votes.length) w2 N2' (by omega) (by omega) hl3).mono ?_
  rintro e w3 ⟨rfl, _, G3⟩
  have D3 := D2.tr (Mid.one G3 (by omega) (by omega))
  have P3 := obj_oth P2 G3 (by omega)
  obtain ⟨c10, _⟩ := at_block P3 10 _ rfl
  have N3'' := ovl_oth N3' G3 (by omega)
  clear c9 P2 N2' N3' D2 G3
  go_wp2_with fail
  refine (markL_I g3 M.mat (1 + m1 + M.votes.length + M.next.length) w3 N3'' (by omega) (by omega) hl4).mono ?_
  rintro e w4 ⟨rfl, _, G4⟩
  have D4 := D3.tr (Mid.one G4 (by omega) (by omega))
  clear c10 P3 N3'' D3 G4
  go_wp2
  go_ret
  exact ⟨1 + m1 + M.votes.length + M.next.length + M.mat.length, by simp <;> rfl, D4⟩

end Go.Proofs.Ytplgnohncdfgcam

namespace Go.Proofs.Ytplgnohncdfgcam
open Go.RowKit

theorem keptN {w w' : World} {g : Nat} {a0 a1 a2 a3 a4 a5 a6 a7 a8 a9 a10 : Value} (h : w.cell? ⟨g, 0, none⟩ = some a0 ∧ w.cell? ⟨g, 1, none⟩ = some a1 ∧ w.cell? ⟨g, 2, none⟩ = some a2 ∧ w.cell? ⟨g, 3, none⟩ = some a3 ∧ w.cell? ⟨g, 4, none⟩ = some a4 ∧ w.cell? ⟨g, 5, none⟩ = some a5 ∧ w.cell? ⟨g, 6, none⟩ = some a6 ∧ w.cell? ⟨g, 7, none⟩ = some a7 ∧ w.cell? ⟨g, 8, none⟩ = some a8 ∧ w.cell? ⟨g, 9, none⟩ = some a9 ∧ w.cell? ⟨g, 10, none⟩ = some a10) (hb : Below w.heap.size w w') :
    w'.cell? ⟨g, 0, none⟩ = some a0 ∧ w'.cell? ⟨g, 1, none⟩ = some a1 ∧ w'.cell? ⟨g, 2, none⟩ = some a2 ∧ w'.cell? ⟨g, 3, none⟩ = some a3 ∧ w'.cell? ⟨g, 4, none⟩ = some a4 ∧ w'.cell? ⟨g, 5, none⟩ = some a5 ∧ w'.cell? ⟨g, 6, none⟩ = some a6 ∧ w'.cell? ⟨g, 7, none⟩ = some a7 ∧ w'.cell? ⟨g, 8, none⟩ = some a8 ∧ w'.cell? ⟨g, 9, none⟩ = some a9 ∧ w'.cell? ⟨g, 10, none⟩ = some a10 := by
  have hg : g < w.heap.size := World.block_lt_of_cell? w _ h.1
  obtain ⟨h0, h1, h2, h3, h4, h5, h6, h7, h8, h9, h10⟩ := h
  exact ⟨(hb.cell (p := ⟨g, 0, none⟩) hg).trans h0, (hb.cell (p := ⟨g, 1, none⟩) hg).trans h1, (hb.cell (p := ⟨g, 2, none⟩) hg).trans h2, (hb.cell (p := ⟨g, 3, none⟩) hg).trans h3, (hb.cell (p := ⟨g, 4, none⟩) hg).trans h4, (hb.cell (p := ⟨g, 5, none⟩) hg).trans h5, (hb.cell (p := ⟨g, 6, none⟩) hg).trans h6, (hb.cell (p := ⟨g, 7, none⟩) hg).trans h7, (hb.cell (p := ⟨g, 8, none⟩) hg).trans h8, (hb.cell (p := ⟨g, 9, none⟩) hg).trans h9, (hb.cell (p := ⟨g, 10, none⟩) hg).trans h10⟩
theorem keptN2 {w w' : World} {g g' : Nat} {a0 a1 a2 a3 a4 a5 a6 a7 a8 a9 a10 b0 b1 b2 b3 b4 b5 b6 b7 b8 b9 b10 : Value} (h : (w.cell? ⟨g, 0, none⟩ = some a0 ∧ w.cell? ⟨g, 1, none⟩ = some a1 ∧ w.cell? ⟨g, 2, none⟩ = some a2 ∧ w.cell? ⟨g, 3, none⟩ = some a3 ∧ w.cell? ⟨g, 4, none⟩ = some a4 ∧ w.cell? ⟨g, 5, none⟩ = some a5 ∧ w.cell? ⟨g, 6, none⟩ = some a6 ∧ w.cell? ⟨g, 7, none⟩ = some a7 ∧ w.cell? ⟨g, 8, none⟩ = some a8 ∧ w.cell? ⟨g, 9, none⟩ = some a9 ∧ w.cell? ⟨g, 10, none⟩ = some a10) ∧ (w.cell? ⟨g', 0, none⟩ = some b0 ∧ w.cell? ⟨g', 1, none⟩ = some b1 ∧ w.cell? ⟨g', 2, none⟩ = some b2 ∧ w.cell? ⟨g', 3, none⟩ = some b3 ∧ w.cell? ⟨g', 4, none⟩ = some b4 ∧ w.cell? ⟨g', 5, none⟩ = some b5 ∧ w.cell? ⟨g', 6, none⟩ = some b6 ∧ w.cell? ⟨g', 7, none⟩ = some b7 ∧ w.cell? ⟨g', 8, none⟩ = some b8 ∧ w.cell? ⟨g', 9, none⟩ = some b9 ∧ w.cell? ⟨g', 10, none⟩ = some b10)) (hb : Below w.heap.size w w') :
    (w'.cell? ⟨g, 0, none⟩ = some a0 ∧ w'.cell? ⟨g, 1, none⟩ = some a1 ∧ w'.cell? ⟨g, 2, none⟩ = some a2 ∧ w'.cell? ⟨g, 3, none⟩ = some a3 ∧ w'.cell? ⟨g, 4, none⟩ = some a4 ∧ w'.cell? ⟨g, 5, none⟩ = some a5 ∧ w'.cell? ⟨g, 6, none⟩ = some a6 ∧ w'.cell? ⟨g, 7, none⟩ = some a7 ∧ w'.cell? ⟨g, 8, none⟩ = some a8 ∧ w'.cell? ⟨g, 9, none⟩ = some a9 ∧ w'.cell? ⟨g, 10, none⟩ = some a10) ∧ (w'.cell? ⟨g', 0, none⟩ = some b0 ∧ w'.cell? ⟨g', 1, none⟩ = some b1 ∧ w'.cell? ⟨g', 2, none⟩ = some b2 ∧ w'.cell? ⟨g', 3, none⟩ = some b3 ∧ w'.cell? ⟨g', 4, none⟩ = some b4 ∧ w'.cell? ⟨g', 5, none⟩ = some b5 ∧ w'.cell? ⟨g', 6, none⟩ = some b6 ∧ w'.cell? ⟨g', 7, none⟩ = some b7 ∧ w'.cell? ⟨g', 8, none⟩ = some b8 ∧ w'.cell? ⟨g', 9, none⟩ = some b9 ∧ w'.cell? ⟨g', 10, none⟩ = some b10) :=
  ⟨keptN h.1 hb, keptN h.2 hb⟩

set_option maxRecDepth 100000 in
set_option maxHeartbeats 8000000 in
theorem law_Fall (v : Value) (M : DNode) (s : Int) (w : World) (h : VNode w v M) (_h1 : True) (_h2 : -9223372036854775808 ≤ M.term ∧ M.term ≤ 9223372036854775807) (_h3 : -9223372036854775808 ≤ s) (_h4 : s ≤ 9223372036854775807) :
    Calls Try.prog 4 #[v, .int .i64 s] w fun e w' => e = .returned (.bool true) ∧ Below w.heap.size w w' := by
  have hE : ∀ w : World, ∀ o, Ext w (w.alloc o) := fun w o => World.grownBy_alloc _ _ _
  have hB : ∀ w : World, ∀ o, Below w.heap.size w (w.alloc o) := fun w o => (Below.refl _ w).alloc (Nat.le_refl _) _
  have h0 : Hid (VNode w v M) := h
  have hrng : Hid (∀ (i : Nat) (s : DItem), M.log[i]? = some s → (∀ x ∈ s.cmd.op.key, 0 ≤ x ∧ x ≤ 255) ∧ (∀ x ∈ s.cmd.op.val, 0 ≤ x ∧ x ≤ 255)) := by
    obtain ⟨_, _, _, _, _, ⟨C, _, hC⟩, _⟩ := h
    intro i s hs
    obtain ⟨_, _, _, _, r4, r5, _⟩ := hC i s hs
    exact ⟨rv_rng r4, rv_rng r5⟩
  obtain ⟨lv, bv, nv, mv, rfl, _, _, _, _⟩ := h
  clear _h1 _h2 _h3 _h4
  obtain ⟨D, hD⟩ : ∃ D, D = faD M s := ⟨_, rfl⟩
  have HD : Hid (faD M s = D) := hD.symm
  clear hD
  go_enter Try.func4, Try.ntmps4
  go_wp2_with fail
  refine (szN _ M 1048576 _ (h0.out.ext (hE _ _)) (by omega) (by omega)).mono ?_
  rintro e w1 ⟨r, rfl, hrr, b1⟩
  have B1 := (hB w _).trans (b1.mono (by simp))
  have P1 := below_blk b1 (by simp) (heap_alloc_new w (.cells #[.int .i64 M.id, .int .i64 M.term, .int .i64 M.vote, lv, .int .i64 M.commit, .int .i64 M.role, .int .i64 M.lead, .int .i64 M.wait, bv, nv, mv] 26 (0, 0)))
  rcases hrr with ⟨h1, rfl⟩ | ⟨h1, h2⟩
  · go_wp2
    go_ret
    exact ⟨rfl, B1⟩
  · have hzz : zN M ≤ 1048576 := by omega
    have HL : Hid (LenN M 1048576) := lenN_of hzz
    have HLL : Hid (LogL M.log) := logL_of hzz
    have HLD : Hid (LenN D 1048576) := by have := faD_len s HL.out; rw [HD.out] at this; exact this
    have hr0 : 0 ≤ r := by omega
    have hz1 : w.heap.size < w1.heap.size := (Array.getElem?_eq_some_iff.1 P1).1
    clear h1 h2 b1 hzz
    obtain ⟨p0, _⟩ := at_block P1 0 _ rfl
    obtain ⟨p1, _⟩ := at_block P1 1 _ rfl
    obtain ⟨p2, _⟩ := at_block P1 2 _ rfl
    obtain ⟨p3, _⟩ := at_block P1 3 _ rfl
    obtain ⟨p4, _⟩ := at_block P1 4 _ rfl
    obtain ⟨p5, _⟩ := at_block P1 5 _ rfl
    obtain ⟨p6, _⟩ := at_block P1 6 _ rfl
    obtain ⟨p7, _⟩ := at_block P1 7 _ rfl
    obtain ⟨p8, _⟩ := at_block P1 8 _ rfl
    obtain ⟨p9, _⟩ := at_block P1 9 _ rfl
    obtain ⟨p10, _⟩ := at_block P1 10 _ rfl
    go_wp2_with fail
    refine (toN _ M w1 (h0.out.ext (ext_below B1)) HL.out).mono ?_
    rintro e w2 ⟨v2, rfl, o2, b2⟩
    have B2 := B1.trans (b2.mono B1.size)
    go_wp2_with fail
    refine (sFallV _ M s w2 o2 HL.out).mono ?_
    rintro e w3 ⟨v3, rfl, R3, b3⟩
    have B3 := B2.trans (b3.mono B2.size)
    have hz3 : w.heap.size < w3.heap.size := by have := b2.size; have := b3.size; omega
    have P3 := below_blk b3 (by have := b2.size; omega) (below_blk b2 hz1 P1)
    have V3 : VNode w3 v3 D := by have := ResF.v (lo := w2.heap.size) R3 hrng.out; rw [HD.out] at this; exact this
    have HV3 : Hid (VNode w3 v3 D) := V3
    obtain ⟨ra, rb, rc, rd, re, rf, rg, rh, rfl⟩ := vnode_shape V3
    clear V3 R3 p0 p1 p2 p3 p4 p5 p6 p7 p8 p9 p10 o2 b2 b3 P1 B1 B2
    -- the box of what is asked for
    have P3' : (w3.alloc (.cells #[.int .i64 D.id, .int .i64 D.term, .int .i64 D.vote, .slice ra D.log.length rb, .int .i64 D.commit, .int .i64 D.role, .int .i64 D.lead, .int .i64 D.wait, .slice rc D.votes.length rd, .slice re D.next.length rf, .slice rg D.mat.length rh] 31 (0, 0))).heap[w.heap.size]? = some (.cells #[.int .i64 M.id, .int .i64 M.term, .int .i64 M.vote, lv, .int .i64 M.commit, .int .i64 M.role, .int .i64 M.lead, .int .i64 M.wait, bv, nv, mv] 26 (0, 0)) := (Below.heap_alloc w3 _ _ hz3).trans P3
    have A3 := heap_alloc_new w3 (.cells #[.int .i64 D.id, .int .i64 D.term, .int .i64 D.vote, .slice ra D.log.length rb, .int .i64 D.commit, .int .i64 D.role, .int .i64 D.lead, .int .i64 D.wait, .slice rc D.votes.length rd, .slice re D.next.length rf, .slice rg D.mat.length rh] 31 (0, 0))
    have B3' := B3.alloc (by omega) (.cells #[.int .i64 D.id, .int .i64 D.term, .int .i64 D.vote, .slice ra D.log.length rb, .int .i64 D.commit, .int .i64 D.role, .int .i64 D.lead, .int .i64 D.wait, .slice rc D.votes.length rd, .slice re D.next.length rf, .slice rg D.mat.length rh] 31 (0, 0))
    have zU : (w3.alloc (.cells #[.int .i64 D.id, .int .i64 D.term, .int .i64 D.vote, .slice ra D.log.length rb, .int .i64 D.commit, .int .i64 D.role, .int .i64 D.lead, .int .i64 D.wait, .slice rc D.votes.length rd, .slice re D.next.length rf, .slice rg D.mat.length rh] 31 (0, 0))).heap.size = w3.heap.size + 1 := by simp
    have HV3' : Hid (VNode (w3.alloc (.cells #[.int .i64 D.id, .int .i64 D.term, .int .i64 D.vote, .slice ra D.log.length rb, .int .i64 D.commit, .int .i64 D.role, .int .i64 D.lead, .int .i64 D.wait, .slice rc D.votes.length rd, .slice re D.next.length rf, .slice rg D.mat.length rh] 31 (0, 0))) (.agg #[.int .i64 D.id, .int .i64 D.term, .int .i64 D.vote, .slice ra D.log.length rb, .int .i64 D.commit, .int .i64 D.role, .int .i64 D.lead, .int .i64 D.wait, .slice rc D.votes.length rd, .slice re D.next.length rf, .slice rg D.mat.length rh]) D) := HV3.out.ext (hE _ _)
    obtain ⟨p0, _⟩ := at_block P3' 0 _ rfl
    obtain ⟨p1, _⟩ := at_block P3' 1 _ rfl
    obtain ⟨p2, _⟩ := at_block P3' 2 _ rfl
    obtain ⟨p3, _⟩ := at_block P3' 3 _ rfl
    obtain ⟨p4, _⟩ := at_block P3' 4 _ rfl
    obtain ⟨p5, _⟩ := at_block P3' 5 _ rfl
    obtain ⟨p6, _⟩ := at_block P3' 6 _ rfl
    obtain ⟨p7, _⟩ := at_block P3' 7 _ rfl
    obtain ⟨p8, _⟩ := at_block P3' 8 _ rfl
    obtain ⟨p9, _⟩ := at_block P3' 9 _ rfl
    obtain ⟨p10, _⟩ := at_block P3' 10 _ rfl
    go_wp2_with fail
    generalize w3.alloc (.cells #[.int .i64 D.id, .int .i64 D.term, .int .i64 D.vote, .slice ra D.log.length rb, .int .i64 D.commit, .int .i64 D.role, .int .i64 D.lead, .int .i64 D.wait, .slice rc D.votes.length rd, .slice re D.next.length rf, .slice rg D.mat.length rh] 31 (0, 0)) = U at P3' A3 B3' zU HV3' p0 p1 p2 p3 p4 p5 p6 p7 p8 p9 p10 ⊢
    clear P3 B3 HV3
    refine (toNO _ M U (h0.out.ext (ext_below B3')) HL.out).mono ?_
    rintro e w4 ⟨v4, rfl, o4, b4⟩
    have B4 := B3'.trans (b4.mono (by omega))
    have hz4 := b4.size
    have HS4 : Hid (ShpN U.heap.size w4.heap.size w4 v4 M) := shpN_of o4 HL.out
    have HV4 : Hid (VNode w4 v4 M) := o4.v HL.out hrng.out
    obtain ⟨g0, g1, g2, g3, rfl, _⟩ := o4
    have CU4 : Below U.heap.size U w4 := b4
    clear p0 p1 p2 p3 p4 p5 p6 p7 p8 p9 p10 b4
    go_wp2_with fail
    refine (iFallV _ M s _ (HV4.out.ext (hE _ _)) HL.out).mono ?_
    rintro e w5 ⟨v5, rfl, R5, b5⟩
    have T5 := below_blk b5 (by simp) (heap_alloc_new w4 (.cells #[.int .i64 M.id, .int .i64 M.term, .int .i64 M.vote, .slice (some ⟨g0, 0, none⟩) M.log.length M.log.length, .int .i64 M.commit, .int .i64 M.role, .int .i64 M.lead, .int .i64 M.wait, .slice (some ⟨g1, 0, none⟩) M.votes.length M.votes.length, .slice (some ⟨g2, 0, none⟩) M.next.length M.next.length, .slice (some ⟨g3, 0, none⟩) M.mat.length M.mat.length] 31 (0, 0)))
    have X5 : Ext w4 w5 := (hE w4 (.cells #[.int .i64 M.id, .int .i64 M.term, .int .i64 M.vote, .slice (some ⟨g0, 0, none⟩) M.log.length M.log.length, .int .i64 M.commit, .int .i64 M.role, .int .i64 M.lead, .int .i64 M.wait, .slice (some ⟨g1, 0, none⟩) M.votes.length M.votes.length, .slice (some ⟨g2, 0, none⟩) M.next.length M.next.length, .slice (some ⟨g3, 0, none⟩) M.mat.length M.mat.length] 31 (0, 0))).tr (ext_below b5)
    have CU5 : Below U.heap.size U w5 := (CU4.alloc (by omega) (.cells #[.int .i64 M.id, .int .i64 M.term, .int .i64 M.vote, .slice (some ⟨g0, 0, none⟩) M.log.length M.log.length, .int .i64 M.commit, .int .i64 M.role, .int .i64 M.lead, .int .i64 M.wait, .slice (some ⟨g1, 0, none⟩) M.votes.length M.votes.length, .slice (some ⟨g2, 0, none⟩) M.next.length M.next.length, .slice (some ⟨g3, 0, none⟩) M.mat.length M.mat.length] 31 (0, 0))).trans (b5.mono (by simp; omega))
    have B5 : Below w.heap.size w w5 := (B4.alloc (by omega) (.cells #[.int .i64 M.id, .int .i64 M.term, .int .i64 M.vote, .slice (some ⟨g0, 0, none⟩) M.log.length M.log.length, .int .i64 M.commit, .int .i64 M.role, .int .i64 M.lead, .int .i64 M.wait, .slice (some ⟨g1, 0, none⟩) M.votes.length M.votes.length, .slice (some ⟨g2, 0, none⟩) M.next.length M.next.length, .slice (some ⟨g3, 0, none⟩) M.mat.length M.mat.length] 31 (0, 0))).trans (b5.mono (by simp; omega))
    have hz5 : w4.heap.size < w5.heap.size := (Array.getElem?_eq_some_iff.1 T5).1
    have R5' : ResF (w4.heap.size + 1) w5 v5 M s := by have := R5; simpa [ResF] using this
    have HR5 : Hid (ResF (w4.heap.size + 1) w5 v5 M s) := R5'
    have V5 : VNode w5 v5 D := by have := ResF.v R5' hrng.out; rw [HD.out] at this; exact this
    obtain ⟨ta, tb, tc, td, te, tf, tg, th, rfl⟩ := vnode_shape V5
    have HV5 : Hid (VNode w5 (.agg #[.int .i64 D.id, .int .i64 D.term, .int .i64 D.vote, .slice ta D.log.length tb, .int .i64 D.commit, .int .i64 D.role, .int .i64 D.lead, .int .i64 D.wait, .slice tc D.votes.length td, .slice te D.next.length tf, .slice tg D.mat.length th]) D) := V5
    have HS5 : Hid (ShpN U.heap.size w4.heap.size w5 (.agg #[.int .i64 M.id, .int .i64 M.term, .int .i64 M.vote, .slice (some ⟨g0, 0, none⟩) M.log.length M.log.length, .int .i64 M.commit, .int .i64 M.role, .int .i64 M.lead, .int .i64 M.wait, .slice (some ⟨g1, 0, none⟩) M.votes.length M.votes.length, .slice (some ⟨g2, 0, none⟩) M.next.length M.next.length, .slice (some ⟨g3, 0, none⟩) M.mat.length M.mat.length]) M ∧ VNode w5 (.agg #[.int .i64 M.id, .int .i64 M.term, .int .i64 M.vote, .slice (some ⟨g0, 0, none⟩) M.log.length M.log.length, .int .i64 M.commit, .int .i64 M.role, .int .i64 M.lead, .int .i64 M.wait, .slice (some ⟨g1, 0, none⟩) M.votes.length M.votes.length, .slice (some ⟨g2, 0, none⟩) M.next.length M.next.length, .slice (some ⟨g3, 0, none⟩) M.mat.length M.mat.length]) M) := ⟨HS4.out.ext X5, HV4.out.ext X5⟩
    clear b5 R5 R5' V5 CU4 HS4 HV4 B4 X5
    -- the box of what the program answered
    have G5 := heap_alloc_new w5 (.cells #[.int .i64 D.id, .int .i64 D.term, .int .i64 D.vote, .slice ta D.log.length tb, .int .i64 D.commit, .int .i64 D.role, .int .i64 D.lead, .int .i64 D.wait, .slice tc D.votes.length td, .slice te D.next.length tf, .slice tg D.mat.length th] 31 (0, 0))
    have T5' : (w5.alloc (.cells #[.int .i64 D.id, .int .i64 D.term, .int .i64 D.vote, .slice ta D.log.length tb, .int .i64 D.commit, .int .i64 D.role, .int .i64 D.lead, .int .i64 D.wait, .slice tc D.votes.length td, .slice te D.next.length tf, .slice tg D.mat.length th] 31 (0, 0))).heap[w4.heap.size]? = some (.cells #[.int .i64 M.id, .int .i64 M.term, .int .i64 M.vote, .slice (some ⟨g0, 0, none⟩) M.log.length M.log.length, .int .i64 M.commit, .int .i64 M.role, .int .i64 M.lead, .int .i64 M.wait, .slice (some ⟨g1, 0, none⟩) M.votes.length M.votes.length, .slice (some ⟨g2, 0, none⟩) M.next.length M.next.length, .slice (some ⟨g3, 0, none⟩) M.mat.length M.mat.length] 31 (0, 0)) := (Below.heap_alloc w5 _ _ hz5).trans T5
    have CU5' := CU5.alloc (by omega) (.cells #[.int .i64 D.id, .int .i64 D.term, .int .i64 D.vote, .slice ta D.log.length tb, .int .i64 D.commit, .int .i64 D.role, .int .i64 D.lead, .int .i64 D.wait, .slice tc D.votes.length td, .slice te D.next.length tf, .slice tg D.mat.length th] 31 (0, 0))
    have B5' := B5.alloc B5.size (.cells #[.int .i64 D.id, .int .i64 D.term, .int .i64 D.vote, .slice ta D.log.length tb, .int .i64 D.commit, .int .i64 D.role, .int .i64 D.lead, .int .i64 D.wait, .slice tc D.votes.length td, .slice te D.next.length tf, .slice tg D.mat.length th] 31 (0, 0))
    have zV : (w5.alloc (.cells #[.int .i64 D.id, .int .i64 D.term, .int .i64 D.vote, .slice ta D.log.length tb, .int .i64 D.commit, .int .i64 D.role, .int .i64 D.lead, .int .i64 D.wait, .slice tc D.votes.length td, .slice te D.next.length tf, .slice tg D.mat.length th] 31 (0, 0))).heap.size = w5.heap.size + 1 := by simp
    have HR5' : Hid (ResF (w4.heap.size + 1) (w5.alloc (.cells #[.int .i64 D.id, .int .i64 D.term, .int .i64 D.vote, .slice ta D.log.length tb, .int .i64 D.commit, .int .i64 D.role, .int .i64 D.lead, .int .i64 D.wait, .slice tc D.votes.length td, .slice te D.next.length tf, .slice tg D.mat.length th] 31 (0, 0))) (.agg #[.int .i64 D.id, .int .i64 D.term, .int .i64 D.vote, .slice ta D.log.length tb, .int .i64 D.commit, .int .i64 D.role, .int .i64 D.lead, .int .i64 D.wait, .slice tc D.votes.length td, .slice te D.next.length tf, .slice tg D.mat.length th]) M s) := HR5.out.ext (hE _ _)
    have HV5' : Hid (VNode (w5.alloc (.cells #[.int .i64 D.id, .int .i64 D.term, .int .i64 D.vote, .slice ta D.log.length tb, .int .i64 D.commit, .int .i64 D.role, .int .i64 D.lead, .int .i64 D.wait, .slice tc D.votes.length td, .slice te D.next.length tf, .slice tg D.mat.length th] 31 (0, 0))) (.agg #[.int .i64 D.id, .int .i64 D.term, .int .i64 D.vote, .slice ta D.log.length tb, .int .i64 D.commit, .int .i64 D.role, .int .i64 D.lead, .int .i64 D.wait, .slice tc D.votes.length td, .slice te D.next.length tf, .slice tg D.mat.length th]) D) := HV5.out.ext (hE _ _)
    have HS5' : Hid (ShpN U.heap.size w4.heap.size (w5.alloc (.cells #[.int .i64 D.id, .int .i64 D.term, .int .i64 D.vote, .slice ta D.log.length tb, .int .i64 D.commit, .int .i64 D.role, .int .i64 D.lead, .int .i64 D.wait, .slice tc D.votes.length td, .slice te D.next.length tf, .slice tg D.mat.length th] 31 (0, 0))) (.agg #[.int .i64 M.id, .int .i64 M.term, .int .i64 M.vote, .slice (some ⟨g0, 0, none⟩) M.log.length M.log.length, .int .i64 M.commit, .int .i64 M.role, .int .i64 M.lead, .int .i64 M.wait, .slice (some ⟨g1, 0, none⟩) M.votes.length M.votes.length, .slice (some ⟨g2, 0, none⟩) M.next.length M.next.length, .slice (some ⟨g3, 0, none⟩) M.mat.length M.mat.length]) M ∧ VNode (w5.alloc (.cells #[.int .i64 D.id, .int .i64 D.term, .int .i64 D.vote, .slice ta D.log.length tb, .int .i64 D.commit, .int .i64 D.role, .int .i64 D.lead, .int .i64 D.wait, .slice tc D.votes.length td, .slice te D.next.length tf, .slice tg D.mat.length th] 31 (0, 0))) (.agg #[.int .i64 M.id, .int .i64 M.term, .int .i64 M.vote, .slice (some ⟨g0, 0, none⟩) M.log.length M.log.length, .int .i64 M.commit, .int .i64 M.role, .int .i64 M.lead, .int .i64 M.wait, .slice (some ⟨g1, 0, none⟩) M.votes.length M.votes.length, .slice (some ⟨g2, 0, none⟩) M.next.length M.next.length, .slice (some ⟨g3, 0, none⟩) M.mat.length M.mat.length]) M) := ⟨HS5.out.1.ext (hE _ _), HS5.out.2.ext (hE _ _)⟩
    have AA5 : (w5.alloc (.cells #[.int .i64 D.id, .int .i64 D.term, .int .i64 D.vote, .slice ta D.log.length tb, .int .i64 D.commit, .int .i64 D.role, .int .i64 D.lead, .int .i64 D.wait, .slice tc D.votes.length td, .slice te D.next.length tf, .slice tg D.mat.length th] 31 (0, 0))).heap[w3.heap.size]? = some (.cells #[.int .i64 D.id, .int .i64 D.term, .int .i64 D.vote, .slice ra D.log.length rb, .int .i64 D.commit, .int .i64 D.role, .int .i64 D.lead, .int .i64 D.wait, .slice rc D.votes.length rd, .slice re D.next.length rf, .slice rg D.mat.length rh] 31 (0, 0)) := below_blk CU5' (by omega) A3
    obtain ⟨p0, _⟩ := at_block AA5 0 _ rfl
    obtain ⟨p1, _⟩ := at_block AA5 1 _ rfl
    obtain ⟨p2, _⟩ := at_block AA5 2 _ rfl
    obtain ⟨p3, _⟩ := at_block AA5 3 _ rfl
    obtain ⟨p4, _⟩ := at_block AA5 4 _ rfl
    obtain ⟨p5, _⟩ := at_block AA5 5 _ rfl
    obtain ⟨p6, _⟩ := at_block AA5 6 _ rfl
    obtain ⟨p7, _⟩ := at_block AA5 7 _ rfl
    obtain ⟨p8, _⟩ := at_block AA5 8 _ rfl
    obtain ⟨p9, _⟩ := at_block AA5 9 _ rfl
    obtain ⟨p10, _⟩ := at_block AA5 10 _ rfl
    go_wp2_with fail
    generalize w5.alloc (.cells #[.int .i64 D.id, .int .i64 D.term, .int .i64 D.vote, .slice ta D.log.length tb, .int .i64 D.commit, .int .i64 D.role, .int .i64 D.lead, .int .i64 D.wait, .slice tc D.votes.length td, .slice te D.next.length tf, .slice tg D.mat.length th] 31 (0, 0)) = V at G5 T5' CU5' B5' zV HR5' HV5' HS5' AA5 p0 p1 p2 p3 p4 p5 p6 p7 p8 p9 p10 ⊢
    clear T5 CU5 B5 HR5 HV5 HS5 AA5 p0 p1 p2 p3 p4 p5 p6 p7 p8 p9 p10
    refine (eqN _ _ D V HV5'.out (HV3'.out.ext (ext_below CU5')) HLD.out).mono ?_
    rintro e W6 ⟨rfl, b6⟩
    have hW6 : Ext V W6 := ext_below b6
    have CU6 : Below U.heap.size U W6 := CU5'.trans (b6.mono (by omega))
    have B6 : Below w.heap.size w W6 := B5'.trans (b6.mono B5'.size)
    have P6 : W6.heap[w.heap.size]? = some (.cells #[.int .i64 M.id, .int .i64 M.term, .int .i64 M.vote, lv, .int .i64 M.commit, .int .i64 M.role, .int .i64 M.lead, .int .i64 M.wait, bv, nv, mv] 26 (0, 0)) := below_blk CU6 (by omega) P3'
    have T6 : W6.heap[w4.heap.size]? = some (.cells #[.int .i64 M.id, .int .i64 M.term, .int .i64 M.vote, .slice (some ⟨g0, 0, none⟩) M.log.length M.log.length, .int .i64 M.commit, .int .i64 M.role, .int .i64 M.lead, .int .i64 M.wait, .slice (some ⟨g1, 0, none⟩) M.votes.length M.votes.length, .slice (some ⟨g2, 0, none⟩) M.next.length M.next.length, .slice (some ⟨g3, 0, none⟩) M.mat.length M.mat.length] 31 (0, 0)) := below_blk b6 (by omega) T5'
    have G6 : W6.heap[w5.heap.size]? = some (.cells #[.int .i64 D.id, .int .i64 D.term, .int .i64 D.vote, .slice ta D.log.length tb, .int .i64 D.commit, .int .i64 D.role, .int .i64 D.lead, .int .i64 D.wait, .slice tc D.votes.length td, .slice te D.next.length tf, .slice tg D.mat.length th] 31 (0, 0)) := below_blk b6 (by omega) G5
    have z6 : w5.heap.size < W6.heap.size := by have := b6.size; omega
    have HR6 : Hid (ResF (w4.heap.size + 1) W6 (.agg #[.int .i64 D.id, .int .i64 D.term, .int .i64 D.vote, .slice ta D.log.length tb, .int .i64 D.commit, .int .i64 D.role, .int .i64 D.lead, .int .i64 D.wait, .slice tc D.votes.length td, .slice te D.next.length tf, .slice tg D.mat.length th]) M s) := HR5'.out.ext hW6
    have HS6 : Hid (ShpN U.heap.size w4.heap.size W6 (.agg #[.int .i64 M.id, .int .i64 M.term, .int .i64 M.vote, .slice (some ⟨g0, 0, none⟩) M.log.length M.log.length, .int .i64 M.commit, .int .i64 M.role, .int .i64 M.lead, .int .i64 M.wait, .slice (some ⟨g1, 0, none⟩) M.votes.length M.votes.length, .slice (some ⟨g2, 0, none⟩) M.next.length M.next.length, .slice (some ⟨g3, 0, none⟩) M.mat.length M.mat.length]) M ∧ VNode W6 (.agg #[.int .i64 M.id, .int .i64 M.term, .int .i64 M.vote, .slice (some ⟨g0, 0, none⟩) M.log.length M.log.length, .int .i64 M.commit, .int .i64 M.role, .int .i64 M.lead, .int .i64 M.wait, .slice (some ⟨g1, 0, none⟩) M.votes.length M.votes.length, .slice (some ⟨g2, 0, none⟩) M.next.length M.next.length, .slice (some ⟨g3, 0, none⟩) M.mat.length M.mat.length]) M) := ⟨HS5'.out.1.ext hW6, HS5'.out.2.ext hW6⟩
    clear b6 hW6 G5 T5' CU5' B5' HR5' HV5' HS5'
    obtain ⟨q0, _⟩ := at_block P6 0 _ rfl
    obtain ⟨q1, _⟩ := at_block P6 1 _ rfl
    obtain ⟨q2, _⟩ := at_block P6 2 _ rfl
    obtain ⟨q3, _⟩ := at_block P6 3 _ rfl
    obtain ⟨q4, _⟩ := at_block P6 4 _ rfl
    obtain ⟨q5, _⟩ := at_block P6 5 _ rfl
    obtain ⟨q6, _⟩ := at_block P6 6 _ rfl
    obtain ⟨q7, _⟩ := at_block P6 7 _ rfl
    obtain ⟨q8, _⟩ := at_block P6 8 _ rfl
    obtain ⟨q9, _⟩ := at_block P6 9 _ rfl
    obtain ⟨q10, _⟩ := at_block P6 10 _ rfl
    obtain ⟨t0, _⟩ := at_block T6 0 _ rfl
    obtain ⟨t1, _⟩ := at_block T6 1 _ rfl
    obtain ⟨t2, _⟩ := at_block T6 2 _ rfl
    obtain ⟨t3, _⟩ := at_block T6 3 _ rfl
    obtain ⟨t4, _⟩ := at_block T6 4 _ rfl
    obtain ⟨t5, _⟩ := at_block T6 5 _ rfl
    obtain ⟨t6, _⟩ := at_block T6 6 _ rfl
    obtain ⟨t7, _⟩ := at_block T6 7 _ rfl
    obtain ⟨t8, _⟩ := at_block T6 8 _ rfl
    obtain ⟨t9, _⟩ := at_block T6 9 _ rfl
    obtain ⟨t10, _⟩ := at_block T6 10 _ rfl
    have S6 : (W6.cell? ⟨w4.heap.size, 0, none⟩ = some (.int .i64 M.id) ∧ W6.cell? ⟨w4.heap.size, 1, none⟩ = some (.int .i64 M.term) ∧ W6.cell? ⟨w4.heap.size, 2, none⟩ = some (.int .i64 M.vote) ∧ W6.cell? ⟨w4.heap.size, 3, none⟩ = some (.slice (some ⟨g0, 0, none⟩) M.log.length M.log.length) ∧ W6.cell? ⟨w4.heap.size, 4, none⟩ = some (.int .i64 M.commit) ∧ W6.cell? ⟨w4.heap.size, 5, none⟩ = some (.int .i64 M.role) ∧ W6.cell? ⟨w4.heap.size, 6, none⟩ = some (.int .i64 M.lead) ∧ W6.cell? ⟨w4.heap.size, 7, none⟩ = some (.int .i64 M.wait) ∧ W6.cell? ⟨w4.heap.size, 8, none⟩ = some (.slice (some ⟨g1, 0, none⟩) M.votes.length M.votes.length) ∧ W6.cell? ⟨w4.heap.size, 9, none⟩ = some (.slice (some ⟨g2, 0, none⟩) M.next.length M.next.length) ∧ W6.cell? ⟨w4.heap.size, 10, none⟩ = some (.slice (some ⟨g3, 0, none⟩) M.mat.length M.mat.length)) ∧ (W6.cell? ⟨w.heap.size, 0, none⟩ = some (.int .i64 M.id) ∧ W6.cell? ⟨w.heap.size, 1, none⟩ = some (.int .i64 M.term) ∧ W6.cell? ⟨w.heap.size, 2, none⟩ = some (.int .i64 M.vote) ∧ W6.cell? ⟨w.heap.size, 3, none⟩ = some lv ∧ W6.cell? ⟨w.heap.size, 4, none⟩ = some (.int .i64 M.commit) ∧ W6.cell? ⟨w.heap.size, 5, none⟩ = some (.int .i64 M.role) ∧ W6.cell? ⟨w.heap.size, 6, none⟩ = some (.int .i64 M.lead) ∧ W6.cell? ⟨w.heap.size, 7, none⟩ = some (.int .i64 M.wait) ∧ W6.cell? ⟨w.heap.size, 8, none⟩ = some bv ∧ W6.cell? ⟨w.heap.size, 9, none⟩ = some nv ∧ W6.cell? ⟨w.heap.size, 10, none⟩ = some mv) := ⟨⟨t0, t1, t2, t3, t4, t5, t6, t7, t8, t9, t10⟩, ⟨q0, q1, q2, q3, q4, q5, q6, q7, q8, q9, q10⟩⟩
    have HC6 : Hid _ := S6
    have X6 : Ext W6 W6.drew := ext_drewN W6 1
    clear S6
    go_wp2_with fail
    go_region_held3 (fun w' => w'.cell? ⟨w4.heap.size, 0, none⟩ = some (.int .i64 M.id) ∧ w'.cell? ⟨w4.heap.size, 1, none⟩ = some (.int .i64 M.term) ∧ w'.cell? ⟨w4.heap.size, 2, none⟩ = some (.int .i64 M.vote) ∧ w'.cell? ⟨w4.heap.size, 3, none⟩ = some (.slice (some ⟨g0, 0, none⟩) M.log.length M.log.length) ∧ w'.cell? ⟨w4.heap.size, 4, none⟩ = some (.int .i64 M.commit) ∧ w'.cell? ⟨w4.heap.size, 5, none⟩ = some (.int .i64 M.role) ∧ w'.cell? ⟨w4.heap.size, 6, none⟩ = some (.int .i64 M.lead) ∧ w'.cell? ⟨w4.heap.size, 7, none⟩ = some (.int .i64 M.wait) ∧ w'.cell? ⟨w4.heap.size, 8, none⟩ = some (.slice (some ⟨g1, 0, none⟩) M.votes.length M.votes.length) ∧ w'.cell? ⟨w4.heap.size, 9, none⟩ = some (.slice (some ⟨g2, 0, none⟩) M.next.length M.next.length) ∧ w'.cell? ⟨w4.heap.size, 10, none⟩ = some (.slice (some ⟨g3, 0, none⟩) M.mat.length M.mat.length) ∧ w'.cell? ⟨w.heap.size, 0, none⟩ = some (.int .i64 M.id) ∧ w'.cell? ⟨w.heap.size, 1, none⟩ = some (.int .i64 M.term) ∧ w'.cell? ⟨w.heap.size, 2, none⟩ = some (.int .i64 M.vote) ∧ w'.cell? ⟨w.heap.size, 3, none⟩ = some lv ∧ w'.cell? ⟨w.heap.size, 4, none⟩ = some (.int .i64 M.commit) ∧ w'.cell? ⟨w.heap.size, 5, none⟩ = some (.int .i64 M.role) ∧ w'.cell? ⟨w.heap.size, 6, none⟩ = some (.int .i64 M.lead) ∧ w'.cell? ⟨w.heap.size, 7, none⟩ = some (.int .i64 M.wait) ∧ w'.cell? ⟨w.heap.size, 8, none⟩ = some bv ∧ w'.cell? ⟨w.heap.size, 9, none⟩ = some nv ∧ w'.cell? ⟨w.heap.size, 10, none⟩ = some mv) (simp [*])
      (first | (go_at_call 8; refine (toN _ M _ ?_ HL.out).mono ?_; exact (h0.out.ext (ext_below B6)).ext X6; rintro e w7 ⟨v7, rfl, o7, b7⟩; obtain ⟨⟨a0, a1, a2, a3, a4, a5, a6, a7, a8, a9, a10⟩, ⟨c0, c1, c2, c3, c4, c5, c6, c7, c8, c9, c10⟩⟩ := keptN2 (w := W6.drew) HC6.out b7) | (go_at_call 10; refine (eqN _ _ M _ ?_ ?_ HL.out).mono ?_; exact (HS6.out.2.ext X6).ext (ext_below b7); exact o7; rintro e w8 ⟨rfl, b8⟩; obtain ⟨⟨a0', a1', a2', a3', a4', a5', a6', a7', a8', a9', a10'⟩, ⟨c0', c1', c2', c3', c4', c5', c6', c7', c8', c9', c10'⟩⟩ := keptN2 ⟨⟨a0, a1, a2, a3, a4, a5, a6, a7, a8, a9, a10⟩, ⟨c0, c1, c2, c3, c4, c5, c6, c7, c8, c9, c10⟩⟩ b8))
    have zs7 : W6.heap.size ≤ w7.heap.size := b7.size
    have zs8 := b8.size
    have X8 : Ext W6 w8 := (X6.tr (ext_below b7)).tr (ext_below b8)
    have T8 : w8.heap[w4.heap.size]? = some (.cells #[.int .i64 M.id, .int .i64 M.term, .int .i64 M.vote, .slice (some ⟨g0, 0, none⟩) M.log.length M.log.length, .int .i64 M.commit, .int .i64 M.role, .int .i64 M.lead, .int .i64 M.wait, .slice (some ⟨g1, 0, none⟩) M.votes.length M.votes.length, .slice (some ⟨g2, 0, none⟩) M.next.length M.next.length, .slice (some ⟨g3, 0, none⟩) M.mat.length M.mat.length] 31 (0, 0)) := (X8.block w4.heap.size (by omega) (by simp)).trans T6
    have G8 : w8.heap[w5.heap.size]? = some (.cells #[.int .i64 D.id, .int .i64 D.term, .int .i64 D.vote, .slice ta D.log.length tb, .int .i64 D.commit, .int .i64 D.role, .int .i64 D.lead, .int .i64 D.wait, .slice tc D.votes.length td, .slice te D.next.length tf, .slice tg D.mat.length th] 31 (0, 0)) := (X8.block w5.heap.size (by omega) (by simp)).trans G6
    have CU8 : Below U.heap.size U w8 := ((below_drewN CU6 1).trans (b7.mono (show U.heap.size ≤ W6.heap.size by omega))).trans (b8.mono (by omega))
    have B8 : Below w.heap.size w w8 := ((below_drewN B6 1).trans (b7.mono B6.size)).trans (b8.mono (Nat.le_trans B6.size b7.size))
    have z8 : w5.heap.size < w8.heap.size := by omega
    have HR8 : Hid (ResF (w4.heap.size + 1) w8 (.agg #[.int .i64 D.id, .int .i64 D.term, .int .i64 D.vote, .slice ta D.log.length tb, .int .i64 D.commit, .int .i64 D.role, .int .i64 D.lead, .int .i64 D.wait, .slice tc D.votes.length td, .slice te D.next.length tf, .slice tg D.mat.length th]) M s) := HR6.out.ext X8
    have HS8 : Hid (ShpN U.heap.size w4.heap.size w8 (.agg #[.int .i64 M.id, .int .i64 M.term, .int .i64 M.vote, .slice (some ⟨g0, 0, none⟩) M.log.length M.log.length, .int .i64 M.commit, .int .i64 M.role, .int .i64 M.lead, .int .i64 M.wait, .slice (some ⟨g1, 0, none⟩) M.votes.length M.votes.length, .slice (some ⟨g2, 0, none⟩) M.next.length M.next.length, .slice (some ⟨g3, 0, none⟩) M.mat.length M.mat.length]) M) := HS6.out.1.ext X8
    clear b7 b8 X6 X8 P6 T6 G6 HC6 HR6 HS6 B6 CU6 o7 a0 a1 a2 a3 a4 a5 a6 a7 a8 a9 a10 a0' a1' a2' a3' a4' a5' a6' a7' a8' a9' a10' c0 c1 c2 c3 c4 c5 c6 c7 c8 c9 c10 c0' c1' c2' c3' c4' c5' c6' c7' c8' c9' c10' q0 q1 q2 q3 q4 q5 q6 q7 q8 q9 q10 t0 t1 t2 t3 t4 t5 t6 t7 t8 t9 t10
    obtain ⟨t0, _⟩ := at_block T8 0 _ rfl
    obtain ⟨t1, _⟩ := at_block T8 1 _ rfl
    obtain ⟨t2, _⟩ := at_block T8 2 _ rfl
    obtain ⟨t3, _⟩ := at_block T8 3 _ rfl
    obtain ⟨t4, _⟩ := at_block T8 4 _ rfl
    obtain ⟨t5, _⟩ := at_block T8 5 _ rfl
    obtain ⟨t6, _⟩ := at_block T8 6 _ rfl
    obtain ⟨t7, _⟩ := at_block T8 7 _ rfl
    obtain ⟨t8, _⟩ := at_block T8 8 _ rfl
    obtain ⟨t9, _⟩ := at_block T8 9 _ rfl
    obtain ⟨t10, _⟩ := at_block T8 10 _ rfl
    go_wp2_with fail
    refine (markNM U.heap.size w4.heap.size _ M w8 HS8.out (by omega) HL.out).mono ?_
    rintro e w9 ⟨k9, rfl, D9⟩
    have z9 : w5.heap.size < w9.heap.size := by have := D9.size; omega
    have CU9 : Below U.heap.size U w9 := Mid.below CU8 (by omega) (Nat.le_refl _) D9
    have B9 : Below w.heap.size w w9 := Mid.below B8 B8.size (by omega) D9
    have G9 : w9.heap[w5.heap.size]? = some (.cells #[.int .i64 D.id, .int .i64 D.term, .int .i64 D.vote, .slice ta D.log.length tb, .int .i64 D.commit, .int .i64 D.role, .int .i64 D.lead, .int .i64 D.wait, .slice tc D.votes.length td, .slice te D.next.length tf, .slice tg D.mat.length th] 31 (0, 0)) := D9.obj G8 (.inr (by omega))
    have HR9 : Hid (ResF (w4.heap.size + 1) w9 (.agg #[.int .i64 D.id, .int .i64 D.term, .int .i64 D.vote, .slice ta D.log.length tb, .int .i64 D.commit, .int .i64 D.role, .int .i64 D.lead, .int .i64 D.wait, .slice tc D.votes.length td, .slice te D.next.length tf, .slice tg D.mat.length th]) M s) := HR8.out.same (fun b hb hl => D9.out b hl (.inr (by omega)))
    have HV9 : Hid (VNode w9 (.agg #[.int .i64 D.id, .int .i64 D.term, .int .i64 D.vote, .slice ta D.log.length tb, .int .i64 D.commit, .int .i64 D.role, .int .i64 D.lead, .int .i64 D.wait, .slice tc D.votes.length td, .slice te D.next.length tf, .slice tg D.mat.length th]) D) := by have := HR9.out.v hrng.out; rw [HD.out] at this; exact this
    have hk9 : (0 : Int) ≤ (k9 : Int) := by omega
    clear T8 G8 D9 B8 CU8 HR8 HS8 z8 t0 t1 t2 t3 t4 t5 t6 t7 t8 t9 t10
    have A9 : w9.heap[w3.heap.size]? = some (.cells #[.int .i64 D.id, .int .i64 D.term, .int .i64 D.vote, .slice ra D.log.length rb, .int .i64 D.commit, .int .i64 D.role, .int .i64 D.lead, .int .i64 D.wait, .slice rc D.votes.length rd, .slice re D.next.length rf, .slice rg D.mat.length rh] 31 (0, 0)) := below_blk CU9 (by omega) A3
    obtain ⟨p0, _⟩ := at_block A9 0 _ rfl
    obtain ⟨p1, _⟩ := at_block A9 1 _ rfl
    obtain ⟨p2, _⟩ := at_block A9 2 _ rfl
    obtain ⟨p3, _⟩ := at_block A9 3 _ rfl
    obtain ⟨p4, _⟩ := at_block A9 4 _ rfl
    obtain ⟨p5, _⟩ := at_block A9 5 _ rfl
    obtain ⟨p6, _⟩ := at_block A9 6 _ rfl
    obtain ⟨p7, _⟩ := at_block A9 7 _ rfl
    obtain ⟨p8, _⟩ := at_block A9 8 _ rfl
    obtain ⟨p9, _⟩ := at_block A9 9 _ rfl
    obtain ⟨p10, _⟩ := at_block A9 10 _ rfl
    obtain ⟨q0, _⟩ := at_block G9 0 _ rfl
    obtain ⟨q1, _⟩ := at_block G9 1 _ rfl
    obtain ⟨q2, _⟩ := at_block G9 2 _ rfl
    obtain ⟨q3, _⟩ := at_block G9 3 _ rfl
    obtain ⟨q4, _⟩ := at_block G9 4 _ rfl
    obtain ⟨q5, _⟩ := at_block G9 5 _ rfl
    obtain ⟨q6, _⟩ := at_block G9 6 _ rfl
    obtain ⟨q7, _⟩ := at_block G9 7 _ rfl
    obtain ⟨q8, _⟩ := at_block G9 8 _ rfl
    obtain ⟨q9, _⟩ := at_block G9 9 _ rfl
    obtain ⟨q10, _⟩ := at_block G9 10 _ rfl
    go_wp2_with fail
    refine (eqN _ _ D w9 HV9.out (HV3'.out.ext (ext_below CU9)) HLD.out).mono ?_
    rintro e w10 ⟨rfl, b10⟩
    have s10 := b10.size
    have CU10 : Below U.heap.size U w10 := CU9.trans (b10.mono (by omega))
    have B10 : Below w.heap.size w w10 := B9.trans (b10.mono B9.size)
    have G10 : w10.heap[w5.heap.size]? = some (.cells #[.int .i64 D.id, .int .i64 D.term, .int .i64 D.vote, .slice ta D.log.length tb, .int .i64 D.commit, .int .i64 D.role, .int .i64 D.lead, .int .i64 D.wait, .slice tc D.votes.length td, .slice te D.next.length tf, .slice tg D.mat.length th] 31 (0, 0)) := below_blk b10 (by omega) G9
    have HR10 : Hid (ResF (w4.heap.size + 1) w10 (.agg #[.int .i64 D.id, .int .i64 D.term, .int .i64 D.vote, .slice ta D.log.length tb, .int .i64 D.commit, .int .i64 D.role, .int .i64 D.lead, .int .i64 D.wait, .slice tc D.votes.length td, .slice te D.next.length tf, .slice tg D.mat.length th]) M s) := HR9.out.ext (ext_below b10)
    clear b10 CU9 B9 G9 HR9 HV9 A9 p0 p1 p2 p3 p4 p5 p6 p7 p8 p9 p10 q0 q1 q2 q3 q4 q5 q6 q7 q8 q9 q10
    obtain ⟨q0, _⟩ := at_block G10 0 _ rfl
    obtain ⟨q1, _⟩ := at_block G10 1 _ rfl
    obtain ⟨q2, _⟩ := at_block G10 2 _ rfl
    obtain ⟨q3, _⟩ := at_block G10 3 _ rfl
    obtain ⟨q4, _⟩ := at_block G10 4 _ rfl
    obtain ⟨q5, _⟩ := at_block G10 5 _ rfl
    obtain ⟨q6, _⟩ := at_block G10 6 _ rfl
    obtain ⟨q7, _⟩ := at_block G10 7 _ rfl
    obtain ⟨q8, _⟩ := at_block G10 8 _ rfl
    obtain ⟨q9, _⟩ := at_block G10 9 _ rfl
    obtain ⟨q10, _⟩ := at_block G10 10 _ rfl
    go_wp2_with fail
    refine (markRes (w4.heap.size + 1) _ M s w10 HR10.out HLL.out (by omega)).mono ?_
    rintro e w11 ⟨k11, k0, rfl, M11, b11, t11⟩
    have s11 := b11.size
    have CU11 : Below U.heap.size U w11 := CU10.trans (b11.mono (by omega))
    have B11 : Below w.heap.size w w11 := B10.trans (b11.mono (by omega))
    have G11 : w11.heap[w5.heap.size]? = some (.cells #[.int .i64 D.id, .int .i64 D.term, .int .i64 D.vote, .slice ta D.log.length tb, .int .i64 D.commit, .int .i64 D.role, .int .i64 D.lead, .int .i64 D.wait, .slice tc D.votes.length td, .slice te D.next.length tf, .slice tg D.mat.length th] 31 (0, 0)) := t11 w5.heap.size _ 31 (by decide) (by decide) (by decide) (by decide) G10
    have HM11 : Hid (ResM (w4.heap.size + 1) w11 (.agg #[.int .i64 D.id, .int .i64 D.term, .int .i64 D.vote, .slice ta D.log.length tb, .int .i64 D.commit, .int .i64 D.role, .int .i64 D.lead, .int .i64 D.wait, .slice tc D.votes.length td, .slice te D.next.length tf, .slice tg D.mat.length th]) M s k11) := M11
    clear M11 b11 t11 CU10 B10 G10 HR10 q0 q1 q2 q3 q4 q5 q6 q7 q8 q9 q10
    obtain ⟨q0, _⟩ := at_block G11 0 _ rfl
    obtain ⟨q1, _⟩ := at_block G11 1 _ rfl
    obtain ⟨q2, _⟩ := at_block G11 2 _ rfl
    obtain ⟨q3, _⟩ := at_block G11 3 _ rfl
    obtain ⟨q4, _⟩ := at_block G11 4 _ rfl
    obtain ⟨q5, _⟩ := at_block G11 5 _ rfl
    obtain ⟨q6, _⟩ := at_block G11 6 _ rfl
    obtain ⟨q7, _⟩ := at_block G11 7 _ rfl
    obtain ⟨q8, _⟩ := at_block G11 8 _ rfl
    obtain ⟨q9, _⟩ := at_block G11 9 _ rfl
    obtain ⟨q10, _⟩ := at_block G11 10 _ rfl
    go_wp2_with fail
    refine (heldRes (w4.heap.size + 1) _ M s k11 w11 HM11.out HLL.out).mono ?_
    rintro e w12 ⟨rfl, b12⟩
    have s12 := b12.size
    have CU12 : Below U.heap.size U w12 := CU11.trans (b12.mono (by omega))
    have B12 : Below w.heap.size w w12 := B11.trans (b12.mono B11.size)
    have G12 : w12.heap[w5.heap.size]? = some (.cells #[.int .i64 D.id, .int .i64 D.term, .int .i64 D.vote, .slice ta D.log.length tb, .int .i64 D.commit, .int .i64 D.role, .int .i64 D.lead, .int .i64 D.wait, .slice tc D.votes.length td, .slice te D.next.length tf, .slice tg D.mat.length th] 31 (0, 0)) := below_blk b12 (by omega) G11
    have HM12 : Hid (ResM (w4.heap.size + 1) w12 (.agg #[.int .i64 D.id, .int .i64 D.term, .int .i64 D.vote, .slice ta D.log.length tb, .int .i64 D.commit, .int .i64 D.role, .int .i64 D.lead, .int .i64 D.wait, .slice tc D.votes.length td, .slice te D.next.length tf, .slice tg D.mat.length th]) M s k11) := HM11.out.ext (ext_below b12)
    have P12 : w12.heap[w.heap.size]? = some (.cells #[.int .i64 M.id, .int .i64 M.term, .int .i64 M.vote, lv, .int .i64 M.commit, .int .i64 M.role, .int .i64 M.lead, .int .i64 M.wait, bv, nv, mv] 26 (0, 0)) := below_blk CU12 (by omega) P3'
    clear b12 CU11 B11 G11 HM11 q0 q1 q2 q3 q4 q5 q6 q7 q8 q9 q10
    obtain ⟨p0, _⟩ := at_block P12 0 _ rfl
    obtain ⟨p1, _⟩ := at_block P12 1 _ rfl
    obtain ⟨p2, _⟩ := at_block P12 2 _ rfl
    obtain ⟨p3, _⟩ := at_block P12 3 _ rfl
    obtain ⟨p4, _⟩ := at_block P12 4 _ rfl
    obtain ⟨p5, _⟩ := at_block P12 5 _ rfl
    obtain ⟨p6, _⟩ := at_block P12 6 _ rfl
    obtain ⟨p7, _⟩ := at_block P12 7 _ rfl
    obtain ⟨p8, _⟩ := at_block P12 8 _ rfl
    obtain ⟨p9, _⟩ := at_block P12 9 _ rfl
    obtain ⟨p10, _⟩ := at_block P12 10 _ rfl
    go_wp2_with fail
    refine (toN _ M w12 (h0.out.ext (ext_below B12)) HL.out).mono ?_
    rintro e w13 ⟨v13, rfl, o13, b13⟩
    have s13 := b13.size
    have B13 := B12.trans (b13.mono B12.size)
    clear p0 p1 p2 p3 p4 p5 p6 p7 p8 p9 p10
    go_wp2_with fail
    refine (iFallV _ M s w13 o13 HL.out).mono ?_
    rintro e w14 ⟨v14, rfl, R14, b14⟩
    have s14 := b14.size
    have CU14 : Below U.heap.size U w14 := (CU12.trans (b13.mono (by omega))).trans (b14.mono (by omega))
    have B14 := B13.trans (b14.mono B13.size)
    have G14 : w14.heap[w5.heap.size]? = some (.cells #[.int .i64 D.id, .int .i64 D.term, .int .i64 D.vote, .slice ta D.log.length tb, .int .i64 D.commit, .int .i64 D.role, .int .i64 D.lead, .int .i64 D.wait, .slice tc D.votes.length td, .slice te D.next.length tf, .slice tg D.mat.length th] 31 (0, 0)) := below_blk b14 (by omega) (below_blk b13 (by omega) G12)
    have HM14 : Hid (ResM (w4.heap.size + 1) w14 (.agg #[.int .i64 D.id, .int .i64 D.term, .int .i64 D.vote, .slice ta D.log.length tb, .int .i64 D.commit, .int .i64 D.role, .int .i64 D.lead, .int .i64 D.wait, .slice tc D.votes.length td, .slice te D.next.length tf, .slice tg D.mat.length th]) M s k11) := (HM12.out.ext (ext_below b13)).ext (ext_below b14)
    have V14 : VNode w14 v14 D := by have := ResF.v (lo := w13.heap.size) R14 hrng.out; rw [HD.out] at this; exact this
    obtain ⟨ua, ub, uc, ud, ue, uf, ug, uh, rfl⟩ := vnode_shape V14
    have HV14 : Hid (VNode w14 (.agg #[.int .i64 D.id, .int .i64 D.term, .int .i64 D.vote, .slice ua D.log.length ub, .int .i64 D.commit, .int .i64 D.role, .int .i64 D.lead, .int .i64 D.wait, .slice uc D.votes.length ud, .slice ue D.next.length uf, .slice ug D.mat.length uh]) D) := V14
    clear o13 b13 b14 R14 V14 HM12 P12 G12 CU12 B12 B13
    have G14' : (w14.alloc (.cells #[.int .i64 D.id, .int .i64 D.term, .int .i64 D.vote, .slice ua D.log.length ub, .int .i64 D.commit, .int .i64 D.role, .int .i64 D.lead, .int .i64 D.wait, .slice uc D.votes.length ud, .slice ue D.next.length uf, .slice ug D.mat.length uh] 31 (0, 0))).heap[w5.heap.size]? = some (.cells #[.int .i64 D.id, .int .i64 D.term, .int .i64 D.vote, .slice ta D.log.length tb, .int .i64 D.commit, .int .i64 D.role, .int .i64 D.lead, .int .i64 D.wait, .slice tc D.votes.length td, .slice te D.next.length tf, .slice tg D.mat.length th] 31 (0, 0)) := (Below.heap_alloc w14 _ _ (by omega)).trans G14
    have CU14' := CU14.alloc (by omega) (.cells #[.int .i64 D.id, .int .i64 D.term, .int .i64 D.vote, .slice ua D.log.length ub, .int .i64 D.commit, .int .i64 D.role, .int .i64 D.lead, .int .i64 D.wait, .slice uc D.votes.length ud, .slice ue D.next.length uf, .slice ug D.mat.length uh] 31 (0, 0))
    have B14' := B14.alloc B14.size (.cells #[.int .i64 D.id, .int .i64 D.term, .int .i64 D.vote, .slice ua D.log.length ub, .int .i64 D.commit, .int .i64 D.role, .int .i64 D.lead, .int .i64 D.wait, .slice uc D.votes.length ud, .slice ue D.next.length uf, .slice ug D.mat.length uh] 31 (0, 0))
    have A14 : (w14.alloc (.cells #[.int .i64 D.id, .int .i64 D.term, .int .i64 D.vote, .slice ua D.log.length ub, .int .i64 D.commit, .int .i64 D.role, .int .i64 D.lead, .int .i64 D.wait, .slice uc D.votes.length ud, .slice ue D.next.length uf, .slice ug D.mat.length uh] 31 (0, 0))).heap[w3.heap.size]? = some (.cells #[.int .i64 D.id, .int .i64 D.term, .int .i64 D.vote, .slice ra D.log.length rb, .int .i64 D.commit, .int .i64 D.role, .int .i64 D.lead, .int .i64 D.wait, .slice rc D.votes.length rd, .slice re D.next.length rf, .slice rg D.mat.length rh] 31 (0, 0)) := below_blk CU14' (by omega) A3
    have HV14' : Hid (VNode (w14.alloc (.cells #[.int .i64 D.id, .int .i64 D.term, .int .i64 D.vote, .slice ua D.log.length ub, .int .i64 D.commit, .int .i64 D.role, .int .i64 D.lead, .int .i64 D.wait, .slice uc D.votes.length ud, .slice ue D.next.length uf, .slice ug D.mat.length uh] 31 (0, 0))) (.agg #[.int .i64 D.id, .int .i64 D.term, .int .i64 D.vote, .slice ua D.log.length ub, .int .i64 D.commit, .int .i64 D.role, .int .i64 D.lead, .int .i64 D.wait, .slice uc D.votes.length ud, .slice ue D.next.length uf, .slice ug D.mat.length uh]) D) := HV14.out.ext (hE _ _)
    have HM14' : Hid (ResM (w4.heap.size + 1) (w14.alloc (.cells #[.int .i64 D.id, .int .i64 D.term, .int .i64 D.vote, .slice ua D.log.length ub, .int .i64 D.commit, .int .i64 D.role, .int .i64 D.lead, .int .i64 D.wait, .slice uc D.votes.length ud, .slice ue D.next.length uf, .slice ug D.mat.length uh] 31 (0, 0))) (.agg #[.int .i64 D.id, .int .i64 D.term, .int .i64 D.vote, .slice ta D.log.length tb, .int .i64 D.commit, .int .i64 D.role, .int .i64 D.lead, .int .i64 D.wait, .slice tc D.votes.length td, .slice te D.next.length tf, .slice tg D.mat.length th]) M s k11) := HM14.out.ext (hE _ _)
    have zW : (w14.alloc (.cells #[.int .i64 D.id, .int .i64 D.term, .int .i64 D.vote, .slice ua D.log.length ub, .int .i64 D.commit, .int .i64 D.role, .int .i64 D.lead, .int .i64 D.wait, .slice uc D.votes.length ud, .slice ue D.next.length uf, .slice ug D.mat.length uh] 31 (0, 0))).heap.size = w14.heap.size + 1 := by simp
    obtain ⟨p0, _⟩ := at_block A14 0 _ rfl
    obtain ⟨p1, _⟩ := at_block A14 1 _ rfl
    obtain ⟨p2, _⟩ := at_block A14 2 _ rfl
    obtain ⟨p3, _⟩ := at_block A14 3 _ rfl
    obtain ⟨p4, _⟩ := at_block A14 4 _ rfl
    obtain ⟨p5, _⟩ := at_block A14 5 _ rfl
    obtain ⟨p6, _⟩ := at_block A14 6 _ rfl
    obtain ⟨p7, _⟩ := at_block A14 7 _ rfl
    obtain ⟨p8, _⟩ := at_block A14 8 _ rfl
    obtain ⟨p9, _⟩ := at_block A14 9 _ rfl
    obtain ⟨p10, _⟩ := at_block A14 10 _ rfl
    go_wp2_with fail
    generalize w14.alloc (.cells #[.int .i64 D.id, .int .i64 D.term, .int .i64 D.vote, .slice ua D.log.length ub, .int .i64 D.commit, .int .i64 D.role, .int .i64 D.lead, .int .i64 D.wait, .slice uc D.votes.length ud, .slice ue D.next.length uf, .slice ug D.mat.length uh] 31 (0, 0)) = Y at G14' CU14' B14' A14 HV14' HM14' zW p0 p1 p2 p3 p4 p5 p6 p7 p8 p9 p10 ⊢
    clear G14 CU14 B14 HV14 HM14 A14 p0 p1 p2 p3 p4 p5 p6 p7 p8 p9 p10
    refine (eqN _ _ D Y HV14'.out (HV3'.out.ext (ext_below CU14')) HLD.out).mono ?_
    rintro e w15 ⟨rfl, b15⟩
    have B15 := B14'.trans (b15.mono B14'.size)
    have G15 : w15.heap[w5.heap.size]? = some (.cells #[.int .i64 D.id, .int .i64 D.term, .int .i64 D.vote, .slice ta D.log.length tb, .int .i64 D.commit, .int .i64 D.role, .int .i64 D.lead, .int .i64 D.wait, .slice tc D.votes.length td, .slice te D.next.length tf, .slice tg D.mat.length th] 31 (0, 0)) := below_blk b15 (by omega) G14'
    have HM15 : Hid (ResM (w4.heap.size + 1) w15 (.agg #[.int .i64 D.id, .int .i64 D.term, .int .i64 D.vote, .slice ta D.log.length tb, .int .i64 D.commit, .int .i64 D.role, .int .i64 D.lead, .int .i64 D.wait, .slice tc D.votes.length td, .slice te D.next.length tf, .slice tg D.mat.length th]) M s k11) := HM14'.out.ext (ext_below b15)
    clear b15 G14' CU14' B14' HV14' HM14'
    obtain ⟨q0, _⟩ := at_block G15 0 _ rfl
    obtain ⟨q1, _⟩ := at_block G15 1 _ rfl
    obtain ⟨q2, _⟩ := at_block G15 2 _ rfl
    obtain ⟨q3, _⟩ := at_block G15 3 _ rfl
    obtain ⟨q4, _⟩ := at_block G15 4 _ rfl
    obtain ⟨q5, _⟩ := at_block G15 5 _ rfl
    obtain ⟨q6, _⟩ := at_block G15 6 _ rfl
    obtain ⟨q7, _⟩ := at_block G15 7 _ rfl
    obtain ⟨q8, _⟩ := at_block G15 8 _ rfl
    obtain ⟨q9, _⟩ := at_block G15 9 _ rfl
    obtain ⟨q10, _⟩ := at_block G15 10 _ rfl
    go_wp2_with fail
    refine (heldRes (w4.heap.size + 1) _ M s k11 w15 HM15.out HLL.out).mono ?_
    rintro e w16 ⟨rfl, b16⟩
    have B16 := B15.trans (b16.mono B15.size)
    go_wp2
    go_ret
    exact ⟨rfl, B16⟩

end Go.Proofs.Ytplgnohncdfgcam

namespace Go.Proofs.Ytplgnohncdfgcam
open Go.ChangeShapes Go.WideShapes Go.ChangeAt Go.RowKit Go.Joins

section
variable {H : Type} {enc : TypeId × Value → H} {W : World} {fuel : Nat} {v : Value} {y : DataW H × List MemPlace}

theorem rv_of_trod (h : DataW.trod enc Try.prog W 0 (fun _ => true) true fuel 45 [v] = some y) : ∃ xs, RV W v xs ∧ ∀ x ∈ xs, 0 ≤ x ∧ x ≤ 255 := by
  rcases open_ints Try.underlying45 Try.underlying5 (by kernel_rfl) h with ⟨hcs, _⟩ | ⟨x, len, cap, zs, hcs, _, hl, hm, hz, _, hcell, hwz⟩
  · simp only [List.cons.injEq, and_true] at hcs
    subst hcs
    exact ⟨[], ⟨none, 0, rfl, Rd.nil _ _, Nat.le_refl _, Nat.zero_le _⟩, fun x hx => by cases hx⟩
  · simp only [List.cons.injEq, and_true] at hcs
    subst hcs
    have hz' : zs.length = cap := by simpa using hz
    have hln : (zs.take len).length = len := by simp; omega
    have hrng : ∀ n ∈ zs.take len, 0 ≤ n ∧ n ≤ 255 := fun n hn => by
      have := hwz n (List.mem_of_mem_take hn)
      simp [Lit.wf, IntKind.min, IntKind.max, IntKind.signed, IntKind.bits] at this
      omega
    refine ⟨zs.take len, ⟨some x, cap, by rw [hln], ⟨rfl, fun i hi => ?_, hrng⟩, by omega, hm⟩, hrng⟩
    rw [hln] at hi
    obtain ⟨b, off, spot⟩ := x
    have hspot : spot = none := by simpa [Addr.add] using World.cell?_spot (hcell 0 (by omega))
    subst hspot
    have hc := hcell i (by omega)
    refine ⟨b, off, rfl, ?_⟩
    rw [Addr.add_lit] at hc
    rw [hc]
    simp [List.getD, hi]

theorem int_of_trod (h : DataW.trod enc Try.prog W 0 (fun _ => true) true fuel 3 [v] = some y) : ∃ q : Int, v = .int .i64 q ∧ -9223372036854775808 ≤ q ∧ q ≤ 9223372036854775807 := by
  obtain ⟨q, e0, rfl, wa⟩ := DataW.trod_int Try.underlying3 h
  simp only [List.cons.injEq, and_true] at e0
  subst e0
  simp [Lit.wf, IntKind.min, IntKind.max, IntKind.signed, IntKind.bits] at wa
  exact ⟨q, rfl, by omega, by omega⟩
end

theorem array6 {cs : Array Value} (h : cs.size = 6) : ∃ a b c d e f, cs = #[a, b, c, d, e, f] := by
  obtain ⟨l⟩ := cs
  match l, h with
  | [a, b, c, d, e, f], _ => exact ⟨a, b, c, d, e, f, rfl⟩

end Go.Proofs.Ytplgnohncdfgcam

namespace Go.Proofs.Ytplgnohncdfgcam
open Go.ChangeShapes Go.WideShapes Go.ChangeAt Go.RowKit Go.Joins

def intOp (d : DOp) : Prop := (-9223372036854775808 ≤ d.kind ∧ d.kind ≤ 9223372036854775807) ∧ (-9223372036854775808 ≤ d.n ∧ d.n ≤ 9223372036854775807)

set_option maxRecDepth 100000 in
theorem open_Op {H : Type} {enc : TypeId × Value → H} {W : World} {r : Reach} {b0 : Nat} {v : Value} {d : DataW H} {p : List MemPlace}
    (hv : Value.okWide Try.prog W r b0 75 v) (h : DataW.Trod enc Try.prog W 0 (fun _ => true) true 75 v d p) : ∃ D, VOp W v D ∧ rngOp D ∧ intOp D := by
  obtain ⟨c0, c1, c2, c3, y0, y1, y2, y3, n, rfl, rfl, rfl, h0, h1, h2, h3⟩ := open_agg4 Try.underlying75 (by kernel_rfl) (by kernel_rfl) hv h
  obtain ⟨k, rfl, k1, k2⟩ := int_of_trod h0
  obtain ⟨ky, rk, hk⟩ := rv_of_trod h1
  obtain ⟨vl, rv, hvl⟩ := rv_of_trod h2
  obtain ⟨q, rfl, q1, q2⟩ := int_of_trod h3
  exact ⟨⟨k, ky, vl, q⟩, ⟨c1, c2, rfl, rk, rv⟩, ⟨hk, hvl⟩, ⟨k1, k2⟩, ⟨q1, q2⟩⟩

set_option maxRecDepth 100000 in
theorem open_Cmd {H : Type} {enc : TypeId × Value → H} {W : World} {r : Reach} {b0 : Nat} {v : Value} {d : DataW H} {p : List MemPlace}
    (hv : Value.okWide Try.prog W r b0 77 v) (h : DataW.Trod enc Try.prog W 0 (fun _ => true) true 77 v d p) : ∃ D, VCmd W v D ∧ rngOp D.op ∧ intOp D.op ∧ (-9223372036854775808 ≤ D.client ∧ D.client ≤ 9223372036854775807) ∧ (-9223372036854775808 ≤ D.req ∧ D.req ≤ 9223372036854775807) := by
  obtain ⟨cs, rfl, hsz⟩ := okWide_struct Try.underlying77 hv
  have h6 : Try.prog.cellsOf 77 = 6 := by kernel_rfl
  obtain ⟨c0, c1, c2, c3, c4, c5, rfl⟩ := array6 (hsz.trans h6)
  obtain ⟨fuel, hf⟩ := h
  obtain ⟨xs, n, _, _, _, hxl, hx⟩ := DataW.trod_struct Try.underlying77 hf
  match xs, hxl with
  | [y0, y1, y2], _ =>
    have h0 : DataW.trod enc Try.prog W 0 (fun _ => true) true n 3 [c0] = some y0 := hx 0 _ rfl
    have h1 : DataW.trod enc Try.prog W 0 (fun _ => true) true n 3 [c1] = some y1 := hx 1 _ rfl
    have h2 : DataW.trod enc Try.prog W 0 (fun _ => true) true n 75 [c2, c3, c4, c5] = some y2 := hx 2 _ rfl
    obtain ⟨zs, m, _, _, _, hzl, hz⟩ := DataW.trod_struct Try.underlying75 h2
    match zs, hzl with
    | [z0, z1, z2, z3], _ =>
      have g0 : DataW.trod enc Try.prog W 0 (fun _ => true) true m 3 [c2] = some z0 := hz 0 _ rfl
      have g1 : DataW.trod enc Try.prog W 0 (fun _ => true) true m 45 [c3] = some z1 := hz 1 _ rfl
      have g2 : DataW.trod enc Try.prog W 0 (fun _ => true) true m 45 [c4] = some z2 := hz 2 _ rfl
      have g3 : DataW.trod enc Try.prog W 0 (fun _ => true) true m 3 [c5] = some z3 := hz 3 _ rfl
      obtain ⟨cl, rfl, a1, a2⟩ := int_of_trod h0
      obtain ⟨rq, rfl, b1, b2⟩ := int_of_trod h1
      obtain ⟨k, rfl, k1, k2⟩ := int_of_trod g0
      obtain ⟨ky, rk, hk⟩ := rv_of_trod g1
      obtain ⟨vl, rv, hvl⟩ := rv_of_trod g2
      obtain ⟨q, rfl, q1, q2⟩ := int_of_trod g3
      exact ⟨⟨cl, rq, ⟨k, ky, vl, q⟩⟩, ⟨c3, c4, rfl, rk, rv⟩, ⟨hk, hvl⟩, ⟨⟨k1, k2⟩, ⟨q1, q2⟩⟩, ⟨a1, a2⟩, ⟨b1, b2⟩⟩

end Go.Proofs.Ytplgnohncdfgcam

namespace Go.Proofs.Ytplgnohncdfgcam
open Go.ChangeShapes Go.WideShapes Go.ChangeAt Go.RowKit Go.Joins

theorem array7 {cs : Array Value} (h : cs.size = 7) : ∃ a b c d e f g, cs = #[a, b, c, d, e, f, g] := by
  obtain ⟨l⟩ := cs
  match l, h with
  | [a, b, c, d, e, f, g], _ => exact ⟨a, b, c, d, e, f, g, rfl⟩

/-- What an item's numbers are bounded by. -/
def intItem (d : DItem) : Prop := intOp d.cmd.op ∧ (-9223372036854775808 ≤ d.cmd.client ∧ d.cmd.client ≤ 9223372036854775807) ∧ (-9223372036854775808 ≤ d.cmd.req ∧ d.cmd.req ≤ 9223372036854775807) ∧ (-9223372036854775808 ≤ d.term ∧ d.term ≤ 9223372036854775807)

section
variable {H : Type} {enc : TypeId × Value → H} {W : World} {fuel : Nat} {y : DataW H × List MemPlace}

set_option maxRecDepth 100000 in
/-- Seven cells that were trodden as an item read as one. -/
theorem item_of_trod {c0 c1 c2 c3 c4 c5 c6 : Value} (hf : DataW.trod enc Try.prog W 0 (fun _ => true) true fuel 79 [c0, c1, c2, c3, c4, c5, c6] = some y) : ∃ D, VItem W (.agg #[c0, c1, c2, c3, c4, c5, c6]) D ∧ rngOp D.cmd.op ∧ intItem D := by
  obtain ⟨xs, n, _, _, _, hxl, hx⟩ := DataW.trod_struct Try.underlying79 hf
  match xs, hxl with
  | [y0, y1], _ =>
    have h0 : DataW.trod enc Try.prog W 0 (fun _ => true) true n 3 [c0] = some y0 := hx 0 _ rfl
    have hC : DataW.trod enc Try.prog W 0 (fun _ => true) true n 77 [c1, c2, c3, c4, c5, c6] = some y1 := hx 1 _ rfl
    obtain ⟨us, n', _, _, _, hul, hu⟩ := DataW.trod_struct Try.underlying77 hC
    match us, hul with
    | [u0, u1, u2], _ =>
      have e0 : DataW.trod enc Try.prog W 0 (fun _ => true) true n' 3 [c1] = some u0 := hu 0 _ rfl
      have e1 : DataW.trod enc Try.prog W 0 (fun _ => true) true n' 3 [c2] = some u1 := hu 1 _ rfl
      have e2 : DataW.trod enc Try.prog W 0 (fun _ => true) true n' 75 [c3, c4, c5, c6] = some u2 := hu 2 _ rfl
      obtain ⟨zs, m, _, _, _, hzl, hz⟩ := DataW.trod_struct Try.underlying75 e2
      match zs, hzl with
      | [z0, z1, z2, z3], _ =>
        have g0 : DataW.trod enc Try.prog W 0 (fun _ => true) true m 3 [c3] = some z0 := hz 0 _ rfl
        have g1 : DataW.trod enc Try.prog W 0 (fun _ => true) true m 45 [c4] = some z1 := hz 1 _ rfl
        have g2 : DataW.trod enc Try.prog W 0 (fun _ => true) true m 45 [c5] = some z2 := hz 2 _ rfl
        have g3 : DataW.trod enc Try.prog W 0 (fun _ => true) true m 3 [c6] = some z3 := hz 3 _ rfl
        obtain ⟨tm, rfl, t1, t2⟩ := int_of_trod h0
        obtain ⟨cl, rfl, a1, a2⟩ := int_of_trod e0
        obtain ⟨rq, rfl, b1, b2⟩ := int_of_trod e1
        obtain ⟨k, rfl, k1, k2⟩ := int_of_trod g0
        obtain ⟨ky, rk, hk⟩ := rv_of_trod g1
        obtain ⟨vl, rv, hvl⟩ := rv_of_trod g2
        obtain ⟨q, rfl, q1, q2⟩ := int_of_trod g3
        exact ⟨⟨tm, ⟨cl, rq, ⟨k, ky, vl, q⟩⟩⟩, ⟨c4, c5, rfl, rk, rv⟩, ⟨hk, hvl⟩, ⟨⟨⟨k1, k2⟩, ⟨q1, q2⟩⟩, ⟨a1, a2⟩, ⟨b1, b2⟩, ⟨t1, t2⟩⟩⟩
end

set_option maxRecDepth 100000 in
theorem open_Item {H : Type} {enc : TypeId × Value → H} {W : World} {r : Reach} {b0 : Nat} {v : Value} {d : DataW H} {p : List MemPlace}
    (hv : Value.okWide Try.prog W r b0 79 v) (h : DataW.Trod enc Try.prog W 0 (fun _ => true) true 79 v d p) : ∃ D, VItem W v D ∧ rngOp D.cmd.op ∧ intItem D := by
  obtain ⟨cs, rfl, hsz⟩ := okWide_struct Try.underlying79 hv
  have h7 : Try.prog.cellsOf 79 = 7 := by kernel_rfl
  obtain ⟨c0, c1, c2, c3, c4, c5, c6, rfl⟩ := array7 (hsz.trans h7)
  obtain ⟨fuel, hf⟩ := h
  exact item_of_trod hf

end Go.Proofs.Ytplgnohncdfgcam

namespace Go.Proofs.Ytplgnohncdfgcam
open Go.ChangeShapes Go.WideShapes Go.ChangeAt Go.RowKit Go.Joins

theorem list_of {α : Type} {p : Nat → α → Prop} : ∀ n : Nat, (∀ i, i < n → ∃ x, p i x) → ∃ rs : List α, rs.length = n ∧ ∀ (i : Nat) (r : α), rs[i]? = some r → p i r
  | 0, _ => ⟨[], rfl, fun i r h => by simp at h⟩
  | n + 1, h => by
    obtain ⟨rs, hl, hr⟩ := list_of n (fun i hi => h i (by omega))
    obtain ⟨x, hx⟩ := h n (by omega)
    refine ⟨rs ++ [x], by simp [hl], fun i r hi => ?_⟩
    by_cases e : i < n
    · rw [List.getElem?_append_left (by omega)] at hi
      exact hr i r hi
    · rw [List.getElem?_append_right (by omega)] at hi
      have e2 : i - rs.length = 0 := by
        have := (List.getElem?_eq_some_iff.1 hi).1
        simp at this
        omega
      rw [e2] at hi
      simp at hi
      obtain rfl : i = n := by omega
      rw [← hi]
      exact hx

section
variable {H : Type} {enc : TypeId × Value → H} {W : World} {fuel : Nat} {v : Value} {y : DataW H × List MemPlace}

set_option maxRecDepth 100000 in
/-- A slice of whatever structs: its cells, element by element. -/
theorem sl_of_trod {t e : TypeId} {k : Nat} (ht : Try.prog.underlying t = some (.slice e)) (hc : Try.prog.cellsOf e = k) (hk : 0 < k)
    (h : DataW.trod enc Try.prog W 0 (fun _ => true) true fuel t [v] = some y) :
    ∃ (n : Nat) (C : Nat → Nat → Value), SL W k v n C ∧ ∃ (m : Nat) (D : Nat → DataW H × List MemPlace), ∀ i, i < n → DataW.trod enc Try.prog W 0 (fun _ => true) true m e ((List.range k).map (C i)) = some (D i) := by
  rcases Go.Deep.open_slice ht h with ⟨hcs, _⟩ | ⟨a, len, cap, m, n, D, Pl, hcs, _, hl, hm, hmm, _, hx⟩
  · simp only [List.cons.injEq, and_true] at hcs
    subst hcs
    exact ⟨0, fun _ _ => .int .i64 0, ⟨none, 0, rfl, Nat.le_refl _, Nat.zero_le _, fun h => absurd h (by omega)⟩, 0, fun _ => y, fun i hi => absurd hi (by omega)⟩
  · simp only [List.cons.injEq, and_true] at hcs
    subst hcs
    rw [hc] at hx
    have hmm' : m = cap := by rw [hmm]; simp
    subst hmm'
    have hex : ∀ i, i < len → ∃ cs' : List Value, W.cells? 0 (a.add (i * k)) k = some cs' ∧ DataW.trod enc Try.prog W 0 (fun _ => true) true n e cs' = some (D i, Pl i) := fun i hi => hx i (by omega)
    obtain ⟨cs, hcsl, hcs⟩ := list_of len hex
    have hget : ∀ i, i < len → ∃ c, cs[i]? = some c := fun i hi => ⟨_, List.getElem?_eq_getElem (by omega)⟩
    refine ⟨len, fun i j => ((cs.getD i []).getD j (.int .i64 0)), ⟨some a, m, rfl, hl, hm, fun hpos => ?_⟩, n, fun i => (D i, Pl i), fun i hi => ?_⟩
    · obtain ⟨c, hcc⟩ := hget 0 hpos
      obtain ⟨h1, _⟩ := hcs 0 c hcc
      obtain ⟨_, hln, hce⟩ := World.cells?_some h1
      obtain ⟨b, off, spot⟩ := a
      have hc0 := hce 0 hk
      have hsome : W.cell? ((Addr.add ⟨b, off, spot⟩ (0 * k)).add 0) = some (c[0]'(by omega)) := by rw [hc0, List.getElem?_eq_getElem (by omega)]
      have hspot : spot = none := by simpa [Addr.add] using World.cell?_spot hsome
      subst hspot
      have hbl := World.block_lt_of_cell? W _ hsome
      rw [Addr.add_lit, Addr.add_lit] at hbl
      refine ⟨b, off, rfl, hbl, fun i hi j hj => ?_⟩
      obtain ⟨c', hcc'⟩ := hget i hi
      obtain ⟨h1', _⟩ := hcs i c' hcc'
      obtain ⟨_, hln', hce'⟩ := World.cells?_some h1'
      have := hce' j hj
      rw [Addr.add_lit, Addr.add_lit] at this
      rw [this, List.getElem?_eq_getElem (by omega)]
      simp [List.getD, hcc', List.getElem?_eq_getElem (show j < c'.length by omega)]
    · obtain ⟨c', hcc'⟩ := hget i hi
      obtain ⟨h1', h2'⟩ := hcs i c' hcc'
      obtain ⟨_, hln', _⟩ := World.cells?_some h1'
      have hce : (List.range k).map (fun j => ((cs.getD i []).getD j (.int .i64 0))) = c' := by
        apply List.ext_getElem?
        intro j
        by_cases hj : j < k
        · simp [List.getD, hcc', hj, List.getElem?_eq_getElem (show j < c'.length by omega)]
        · simp [hj, hln']
      rw [hce]
      exact h2'

theorem bool_of_trod (h : DataW.trod enc Try.prog W 0 (fun _ => true) true fuel 4 [v] = some y) : ∃ b, v = .bool b := by
  obtain ⟨b, e0, _⟩ := DataW.trod_bool Try.underlying4 h
  simp only [List.cons.injEq, and_true] at e0
  exact ⟨b, e0⟩
end

end Go.Proofs.Ytplgnohncdfgcam

namespace Go.Proofs.Ytplgnohncdfgcam
open Go.ChangeShapes Go.WideShapes Go.ChangeAt Go.RowKit Go.Joins

section
variable {H : Type} {enc : TypeId × Value → H} {W : World} {fuel : Nat} {v : Value} {y : DataW H × List MemPlace}

set_option maxRecDepth 100000 in
theorem items_of_trod (h : DataW.trod enc Try.prog W 0 (fun _ => true) true fuel 22 [v] = some y) : ∃ rs, VItems W v rs := by
  obtain ⟨n, C, hS, m, D, hD⟩ := sl_of_trod (k := 7) Try.underlying22 (by kernel_rfl) (by omega) h
  obtain ⟨rs, hl, hr⟩ := list_of (p := fun i (d : DItem) => C i 0 = .int .i64 d.term ∧ C i 1 = .int .i64 d.cmd.client ∧ C i 2 = .int .i64 d.cmd.req ∧ C i 3 = .int .i64 d.cmd.op.kind ∧ RV W (C i 4) d.cmd.op.key ∧ RV W (C i 5) d.cmd.op.val ∧ C i 6 = .int .i64 d.cmd.op.n) n (fun i hi => by
    have hf : DataW.trod enc Try.prog W 0 (fun _ => true) true m 79 [C i 0, C i 1, C i 2, C i 3, C i 4, C i 5, C i 6] = some (D i) := hD i hi
    obtain ⟨d, ⟨kv, vv, e, rk, rv⟩, _, _⟩ := item_of_trod hf
    simp only [Value.agg.injEq, Array.mk.injEq, List.cons.injEq, and_true] at e
    obtain ⟨e0, e1, e2, e3, e4, e5, e6⟩ := e
    exact ⟨d, e0, e1, e2, e3, by rw [e4]; exact rk, by rw [e5]; exact rv, e6⟩)
  exact ⟨rs, C, by rw [hl]; exact hS, hr⟩
end

end Go.Proofs.Ytplgnohncdfgcam

namespace Go.Proofs.Ytplgnohncdfgcam
open Go.ChangeShapes Go.WideShapes Go.ChangeAt Go.RowKit Go.Joins

theorem array11 {cs : Array Value} (h : cs.size = 11) : ∃ c0 c1 c2 c3 c4 c5 c6 c7 c8 c9 c10, cs = #[c0, c1, c2, c3, c4, c5, c6, c7, c8, c9, c10] := by
  obtain ⟨l⟩ := cs
  match l, h with
  | [c0, c1, c2, c3, c4, c5, c6, c7, c8, c9, c10], _ => exact ⟨c0, c1, c2, c3, c4, c5, c6, c7, c8, c9, c10, rfl⟩

theorem vl_of_SL {α : Type} {f : α → Value} {w : World} {v : Value} {xs : List α} {C : Nat → Nat → Value} (h : SL w 1 v xs.length C) (hC : ∀ (i : Nat) (x : α), xs[i]? = some x → C i 0 = f x) : VL f w v xs := by
  obtain ⟨a, cap, hv, h1, h2, h3⟩ := h
  refine ⟨a, cap, hv, h1, h2, fun hn => ?_⟩
  obtain ⟨b, o, ha, hb, hc⟩ := h3 hn
  refine ⟨b, o, ha, hb, fun i x hx => ?_⟩
  have := hc i (List.getElem?_eq_some_iff.1 hx).1 0 (by omega)
  rw [Nat.mul_one, Nat.add_zero] at this
  rw [this, hC i x hx]

section
variable {H : Type} {enc : TypeId × Value → H} {W : World} {fuel : Nat} {v : Value} {y : DataW H × List MemPlace}

set_option maxRecDepth 100000 in
theorem ints_of_trod (h : DataW.trod enc Try.prog W 0 (fun _ => true) true fuel 24 [v] = some y) : ∃ xs, VL fI W v xs := by
  obtain ⟨n, C, hS, m, D, hD⟩ := sl_of_trod (k := 1) Try.underlying24 (by kernel_rfl) (by omega) h
  obtain ⟨rs, hl, hr⟩ := list_of (p := fun i (d : Int) => C i 0 = fI d) n (fun i hi => by
    have hf : DataW.trod enc Try.prog W 0 (fun _ => true) true m 3 [C i 0] = some (D i) := hD i hi
    obtain ⟨q, e, _, _⟩ := int_of_trod hf
    exact ⟨q, e⟩)
  exact ⟨rs, vl_of_SL (by rw [hl]; exact hS) hr⟩
set_option maxRecDepth 100000 in
theorem bools_of_trod (h : DataW.trod enc Try.prog W 0 (fun _ => true) true fuel 23 [v] = some y) : ∃ xs, VL fB W v xs := by
  obtain ⟨n, C, hS, m, D, hD⟩ := sl_of_trod (k := 1) Try.underlying23 (by kernel_rfl) (by omega) h
  obtain ⟨rs, hl, hr⟩ := list_of (p := fun i (d : Bool) => C i 0 = fB d) n (fun i hi => by
    have hf : DataW.trod enc Try.prog W 0 (fun _ => true) true m 4 [C i 0] = some (D i) := hD i hi
    obtain ⟨q, e⟩ := bool_of_trod hf
    exact ⟨q, e⟩)
  exact ⟨rs, vl_of_SL (by rw [hl]; exact hS) hr⟩
end

set_option maxRecDepth 100000 in
theorem open_Node {H : Type} {enc : TypeId × Value → H} {W : World} {r : Reach} {b0 : Nat} {v : Value} {d : DataW H} {p : List MemPlace}
    (hv : Value.okWide Try.prog W r b0 26 v) (h : DataW.Trod enc Try.prog W 0 (fun _ => true) true 26 v d p) : ∃ M, VNode W v M ∧ True ∧ (-9223372036854775808 ≤ M.term ∧ M.term ≤ 9223372036854775807) := by
  obtain ⟨cs, rfl, hsz⟩ := okWide_struct Try.underlying26 hv
  have h99 : Try.prog.cellsOf 26 = 11 := by kernel_rfl
  obtain ⟨c0, c1, c2, c3, c4, c5, c6, c7, c8, c9, c10, rfl⟩ := array11 (hsz.trans h99)
  obtain ⟨fuel, hf⟩ := h
  obtain ⟨xs, n, _, _, _, hxl, hx⟩ := DataW.trod_struct Try.underlying26 hf
  match xs, hxl with
  | [y0, y1, y2, y3, y4, y5, y6, y7, y8, y9, y10], _ =>
    have h0 : DataW.trod enc Try.prog W 0 (fun _ => true) true n 3 [c0] = some y0 := hx 0 _ rfl
    have h1 : DataW.trod enc Try.prog W 0 (fun _ => true) true n 3 [c1] = some y1 := hx 1 _ rfl
    have h2 : DataW.trod enc Try.prog W 0 (fun _ => true) true n 3 [c2] = some y2 := hx 2 _ rfl
    have h3 : DataW.trod enc Try.prog W 0 (fun _ => true) true n 22 [c3] = some y3 := hx 3 _ rfl
    have h4 : DataW.trod enc Try.prog W 0 (fun _ => true) true n 3 [c4] = some y4 := hx 4 _ rfl
    have h5 : DataW.trod enc Try.prog W 0 (fun _ => true) true n 3 [c5] = some y5 := hx 5 _ rfl
    have h6 : DataW.trod enc Try.prog W 0 (fun _ => true) true n 3 [c6] = some y6 := hx 6 _ rfl
    have h7 : DataW.trod enc Try.prog W 0 (fun _ => true) true n 3 [c7] = some y7 := hx 7 _ rfl
    have h8 : DataW.trod enc Try.prog W 0 (fun _ => true) true n 23 [c8] = some y8 := hx 8 _ rfl
    have h9 : DataW.trod enc Try.prog W 0 (fun _ => true) true n 24 [c9] = some y9 := hx 9 _ rfl
    have h10 : DataW.trod enc Try.prog W 0 (fun _ => true) true n 24 [c10] = some y10 := hx 10 _ rfl
    obtain ⟨q0, rfl, _, _⟩ := int_of_trod h0
    obtain ⟨q1, rfl, a1, z1⟩ := int_of_trod h1
    obtain ⟨q2, rfl, _, _⟩ := int_of_trod h2
    obtain ⟨q4, rfl, _, _⟩ := int_of_trod h4
    obtain ⟨q5, rfl, _, _⟩ := int_of_trod h5
    obtain ⟨q6, rfl, _, _⟩ := int_of_trod h6
    obtain ⟨q7, rfl, _, _⟩ := int_of_trod h7
    obtain ⟨q3, v3⟩ := items_of_trod h3
    obtain ⟨q8, v8⟩ := bools_of_trod h8
    obtain ⟨q9, v9⟩ := ints_of_trod h9
    obtain ⟨q10, v10⟩ := ints_of_trod h10
    exact ⟨⟨q0, q1, q2, q3, q4, q5, q6, q7, q8, q9, q10⟩, ⟨c3, c8, c9, c10, rfl, v3, v8, v9, v10⟩, trivial, a1, z1⟩

end Go.Proofs.Ytplgnohncdfgcam

namespace Go.Proofs.Ytplgnohncdfgcam
open Go.ChangeShapes Go.WideShapes Go.ChangeAt Go.RowKit

theorem own : ownKnob Try.prog.godebug = none := by kernel_rfl
theorem laidOut : laidOutB Try.prog = true := by kernel_rfl

theorem int_bd {q : Int} (h : (Lit.int .i64 q).wf = true) : -9223372036854775808 ≤ q ∧ q ≤ 9223372036854775807 := by
  simp [Lit.wf, IntKind.min, IntKind.max, IntKind.signed, IntKind.bits] at h
  omega

set_option maxRecDepth 100000 in
theorem lifted (os : Os) (started : os.Started) (H : Type) (enc : TypeId × Value → H) :
    ReturnsInHanded {} Try.checked os 4 .any (Rows.fnExactFallSpec.pre6 enc Try.prog Try.f4 Rows.fnExactFallRow.domain false) (Rows.fnExactFallSpec.post enc Try.prog Try.f4 false true false false) := by
  refine returnsInHanded_of_change (C := Try.checked) own started (by kernel_rfl) Try.func4
    (ChangeSpec.witness6 (enc := enc) (C := Try.checked) false ⟨#[], #[.agg #[.int .i64 0, .int .i64 0, .int .i64 0, .slice none 0 0, .int .i64 0, .int .i64 0, .int .i64 0, .int .i64 0, .slice none 0 0, .slice none 0 0, .slice none 0 0], .int .i64 0], []⟩ 8 (by kernel_rfl) (by kernel_rfl) (by kernel_rfl) (by kernel_rfl)) ?_
  intro W base args ds gs before hval0 hW hcnd _
  have hval : ∀ (j : Nat) t v, Try.f4.params[j]? = some t → args[j]? = some v → Value.okWide Try.prog W .any base t v := hval0
  have hW' := hW
  obtain ⟨p, q, hA0, hV, rfl, hfz, hnd⟩ := hW
  have hA : DataW.TrodAll enc Try.prog W 0 (fun _ => true) true Try.f4.params.toList args.toList ds p := hA0
  rw [Try.params4] at hA hval
  obtain ⟨v0, vs0, d0, ds0, p0, q0, hargs, rfl, rfl, h0, r0⟩ := trodAll_cons hA
  obtain ⟨v1, vs1, d1, ds1, p1, q1, rfl, rfl, rfl, h1, r1⟩ := trodAll_cons r0
  obtain ⟨rfl, rfl, rfl⟩ := trodAll_nil r1
  obtain rfl : args = #[v0, v1] := by cases args; simp_all
  obtain ⟨rfl, rfl⟩ := trodVars_none hV
  have k0 := h0
  have lt0 : ∀ x ∈ p0, x.block < W.heap.size := by obtain ⟨m, hm⟩ := k0; exact DataW.trod_lt m _ _ _ hm
  obtain ⟨D0, w0⟩ := open_Node (hval 0 26 v0 rfl rfl) h0
  obtain ⟨a1, rfl, rfl, rfl, w1⟩ := open_int Try.underlying3 (hval 1 3 v1 rfl rfl) h1
  clear hA0 hval0
  refine (law_Fall v0 D0 a1 W w0.1 w0.2.1 w0.2.2 (int_bd w1).1 (int_bd w1).2).mono fun e W' ⟨he, bel⟩ => ?_
  subst he
  exact ⟨_, rfl, _, _, _, [], _, [], hW', trodAll_mk1 (shut_bool Try.underlying4 _), (trodAll_cons_mk (Below.trod laidOut (by kernel_rfl) (of_decide_eq_true (by kernel_rfl)) k0 bel lt0) (trodAll_cons_mk (shut_int Try.underlying3 w1) trodAll_mk0)), rfl, bel.frame _, fun h => by cases h⟩

theorem over : Rows.fnExactFallRow.holds Try.pinned (OpenSpec.ofChange Rows.fnExactFallSpec) :=
  OpenClaim.holds_of_wide 4 Try.f4 rfl rfl rfl rfl rfl rfl rfl ⟨rfl, rfl, rfl, rfl, rfl⟩ rfl rfl rfl rfl rfl (by kernel_rfl) Try.func4 (by kernel_rfl)
    (of_decide_eq_true (by kernel_rfl)) (by unfold Func.isWrapper; first | (rw [if_pos (by decide +kernel)]; kernel_rfl) | (rw [if_neg (by decide +kernel)]; exact ⟨rfl, rfl⟩))
    (fun os started H enc _ => lifted os started H enc)

theorem proved : Rows.FnExactFallSaid := over
#print axioms proved
end Go.Proofs.Ytplgnohncdfgcam

