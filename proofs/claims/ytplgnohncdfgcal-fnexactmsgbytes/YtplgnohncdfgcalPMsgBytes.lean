/- At every message, MsgBytes answers as the specification does, writes into nothing that was handed in, keeps nothing of it, and its answer owns its memory. No condition. -/
import Derived.Test.YtplgnohncdfgcalMb1c
import Derived.Test.YtplgnohncdfgcalMb3
import Derived.Test.YtplgnohncdfgcalMsN
import Derived.Test.YtplgnohncdfgcalTo0
import Derived.Test.YtplgnohncdfgcalVal
import Derived.Test.YtplgnohncdfgcalSz0
import Derived.Test.YtplgnohncdfgcalMsA
import Derived.Test.YtplgnohncdfgcalMsB
import Derived.Test.YtplgnohncdfgcalInf
import Derived.Test.YtplgnohncdfgcalVal0
import Derived.ProofKit
import Derived.OpenShut
import Derived.Lib.SmallJoins
import Derived.Test.YtplgnohncdfgcalCm1
import Derived.Test.YtplgnohncdfgcalIt1
import Derived.Test.YtplgnohncdfgcalSt0
import Derived.Deep.Slices
import Derived.Test.YtplgnohncdfgcalRows
import Derived.ChangeOld
import Derived.Carry
namespace Go.Proofs.Ytplgnohncdfgcal
open Go.RowKit

/-- The specification's l3bytes of what may be a message. -/
theorem sB_all (v : Value) (M : DMsg) (w : World) (h : VMsg w v M) (hp : MsgP M) : Calls Try.prog 74 #[v] w (PutPost w (bytesL M)) := by
  obtain ⟨hk, h4, hw⟩ := msg_w hp
  obtain ⟨iv, rfl, hvi⟩ := h
  have hi : ∃ a c, iv = .slice a M.items.length c := by obtain ⟨C, ⟨a, c, rfl, _⟩, _⟩ := hvi; exact ⟨a, c, rfl⟩
  unfold bytesL
  by_cases h0 : M.kind = 0
  · rw [if_pos h0, h0]; exact sB_ask M iv hi w
  rw [if_neg h0]
  by_cases h2 : M.kind = 2
  · rw [if_pos h2, h2]; exact sB_add M iv w hvi h4 hw
  rw [if_neg h2]
  by_cases h3 : M.kind = 3
  · rw [if_pos h3, h3]
    cases hy : M.yes
    · have := sB_ack0 M iv hi w hy
      rw [hy] at this
      exact this
    · have := sB_ack1 M iv hi w hy
      rw [hy] at this
      exact this
  rw [if_neg h3]
  have h1 : M.kind = 1 := by omega
  rw [h1]
  cases hy : M.yes
  · have := sB_vote0 M iv hi w hy
    rw [hy] at this
    exact this
  · have := sB_vote1 M iv hi w hy
    rw [hy] at this
    exact this

set_option maxRecDepth 20000 in
set_option maxHeartbeats 4000000 in
theorem sMsgBytesP (v : Value) (M : DMsg) (w : World) (h : VMsg w v M) : Calls Try.prog 27 #[v] w (MbPost M w) := by
  have hE : ∀ w : World, ∀ o, Ext w (w.alloc o) := fun w o => World.grownBy_alloc _ _ _
  have hB : ∀ w : World, ∀ o, Below w.heap.size w (w.alloc o) := fun w o => (Below.refl _ w).alloc (Nat.le_refl _) _
  have HM : Hid (VMsg w v M) := h
  obtain ⟨iv, rfl, hvi⟩ := h
  obtain ⟨C, ⟨ia, ic, rfl, hl1, hl2, _⟩, _⟩ := hvi
  by_cases hp : MsgP M
  · have HP : Hid (MsgP M) := hp
    have HL : Hid (mbL M = bytesL M) := mbL_yes hp
    clear hp
    go_enter Try.func27, Try.ntmps27
    go_wp2_with fail
    refine (sMsgOkP M _ _ (HM.out.ext (hE _ _))).mono ?_
    rintro e w1 ⟨rfl, b1⟩
    rw [tB_yes HP.out]
    obtain ⟨Q1, c0, c1, c2, c3, c4, c5, c6, c7, c8⟩ := cellsB9 (heap_alloc_new w _) b1
    have B1 := (hB w _).trans (b1.mono (by simp))
    have s1 := B1.size
    clear b1
    go_wp2_with fail
    refine (sB_all _ M _ (HM.out.ext (ext_below B1)) HP.out).mono ?_
    rintro e w2 ⟨v2, rfl, r2, o2, b2⟩
    go_wp2
    go_ret2
    refine ⟨v2, ?_, ?_, ?_, ?_⟩
    · rw [tB_yes HP.out]; rfl
    · rw [HL.out]; exact r2
    · rw [HL.out]; exact ow_base o2 s1
    · exact B1.trans (b2.mono s1)
  · have HP : Hid (tB (MsgP M) = false) := tB_no hp
    have HL : Hid (mbL M = []) := mbL_no hp
    clear hp
    go_enter Try.func27, Try.ntmps27
    go_wp2_with fail
    refine (sMsgOkP M _ _ (HM.out.ext (hE _ _))).mono ?_
    rintro e w1 ⟨rfl, b1⟩
    rw [HP.out]
    go_wp2
    go_ret2
    refine ⟨.slice none 0 0, ?_, ?_, ?_, ?_⟩
    · rw [HP.out]; rfl
    · rw [HL.out]; exact rv_nil _
    · rw [HL.out]; exact World.ownsRow_nil _ _ _ _
    · exact (hB w _).trans (b1.mono (by simp))

end Go.Proofs.Ytplgnohncdfgcal

namespace Go.Proofs.Ytplgnohncdfgcal
open Go.RowKit

/-- Of the blocks that lay there only some of those from lo up to hi have turned: rows of bytes (their sizes have not), and the block og. -/
structure Mk (lo hi : Nat) (og : Option Nat) (w w' : World) : Prop where
  os : w'.os = w.os
  tape : w'.tape = w.tape
  output : w'.output = w.output
  size : w.heap.size ≤ w'.heap.size
  out : ∀ k, k < w.heap.size → (k < lo ∨ hi ≤ k) → w'.heap[k]? = w.heap[k]?
  byt : ∀ (k : Nat) (cur : Array Value), w.heap[k]? = some (.cells cur 5 (0, 0)) → ∃ cur' : Array Value, w'.heap[k]? = some (.cells cur' 5 (0, 0)) ∧ cur'.size = cur.size
  oth : ∀ (k : Nat) (cur : Array Value) (t : TypeId), t ≠ 5 → some k ≠ og → w.heap[k]? = some (.cells cur t (0, 0)) → w'.heap[k]? = some (.cells cur t (0, 0))

theorem Mk.re (lo hi : Nat) (og : Option Nat) (w : World) : Mk lo hi og w w := ⟨rfl, rfl, rfl, Nat.le_refl _, fun _ _ _ => rfl, fun _ cur h => ⟨cur, h, rfl⟩, fun _ _ _ _ _ h => h⟩
theorem Mk.tr {lo hi : Nat} {og : Option Nat} {a b c : World} (h : Mk lo hi og a b) (k : Mk lo hi og b c) : Mk lo hi og a c :=
  ⟨k.os.trans h.os, k.tape.trans h.tape, k.output.trans h.output, Nat.le_trans h.size k.size, fun i hi' ho => (k.out i (Nat.lt_of_lt_of_le hi' h.size) ho).trans (h.out i hi' ho),
   fun i cur hc => by
     obtain ⟨c1, h1, s1⟩ := h.byt i cur hc
     obtain ⟨c2, h2, s2⟩ := k.byt i c1 h1
     exact ⟨c2, h2, s2.trans s1⟩,
   fun i cur t ht ho hc => k.oth i cur t ht ho (h.oth i cur t ht ho hc)⟩
theorem Mk.some {lo hi : Nat} {og : Option Nat} {a b : World} (h : Mk lo hi none a b) : Mk lo hi og a b :=
  ⟨h.os, h.tape, h.output, h.size, h.out, h.byt, fun i cur t ht _ hc => h.oth i cur t ht (by simp) hc⟩

theorem mk_set {lo hi x j : Nat} {og : Option Nat} {w : World} {cur : Array Value} {t : TypeId} (u : Value) (hx : w.heap[x]? = some (.cells cur t (0, 0))) (h1 : lo ≤ x) (h2 : x < hi) (ht : t = 5 ∨ some x = og) : Mk lo hi og w (w.setCell ⟨x, j, none⟩ u) := by
  have hg := set_grown w x j u
  refine ⟨hg.os, hg.tape, hg.output, hg.size, fun k hk ho => hg.block k hk (by intro e; cases e; omega), fun k c hc => ?_, fun k c t' ht' ho hc => ?_⟩
  · by_cases e : k = x
    · subst e
      rw [hx] at hc
      cases hc
      exact ⟨_, set_block hx j u, by simp⟩
    · exact ⟨c, set_other x j u e hc, rfl⟩
  · by_cases e : k = x
    · subst e
      rw [hx] at hc
      cases hc
      rcases ht with rfl | rfl
      · exact absurd rfl ht'
      · exact absurd rfl ho
    · exact set_other x j u e hc

/-- A slice of bytes that may be marked: it lies in a block from lo up to hi. -/
def WB (lo hi : Nat) (w : World) (v : Value) : Prop :=
  v = .slice none 0 0 ∨ ∃ (g n cap : Nat) (cur : Array Value), v = .slice (some ⟨g, 0, none⟩) n cap ∧ lo ≤ g ∧ g < hi ∧ n ≤ cap ∧ cur.size = cap ∧ w.heap[g]? = some (.cells cur 5 (0, 0)) ∧ n ≤ 1048576

theorem WB.mk {lo hi : Nat} {og : Option Nat} {w w' : World} {v : Value} (h : WB lo hi w v) (k : Mk lo hi og w w') : WB lo hi w' v := by
  rcases h with h | ⟨g, n, cap, cur, rfl, h1, h2, h3, h4, h5, h6⟩
  · exact .inl h
  · obtain ⟨c', e1, e2⟩ := k.byt g cur h5
    exact .inr ⟨g, n, cap, c', rfl, h1, h2, h3, e2.trans h4, e1, h6⟩
theorem WB.of {lo : Nat} {w : World} {v : Value} {xs : List Int} {base : Nat} (h : Ow w base v xs) (hb : lo ≤ base) (hl : xs.length ≤ 1048576) : WB lo w.heap.size w v := by
  rcases h.2 with ⟨rfl, _⟩ | ⟨g, cap, cur, rfl, h1, h2, h3, h4, h5, _⟩
  · exact .inl rfl
  · exact .inr ⟨g, _, cap, cur, rfl, by omega, (Array.getElem?_eq_some_iff.1 h2).1, h3, by omega, h2, hl⟩
theorem WB.grown {lo hi : Nat} {w w' : World} {v : Value} (h : WB lo hi w v) (k : Ext w w') : WB lo hi w' v := by
  rcases h with h | ⟨g, n, cap, cur, rfl, h1, h2, h3, h4, h5, h6⟩
  · exact .inl h
  · exact .inr ⟨g, n, cap, cur, rfl, h1, h2, h3, h4, (k.block g (Array.getElem?_eq_some_iff.1 h5).1 (by simp)).trans h5, h6⟩

set_option maxHeartbeats 1000000 in
theorem markW (lo hi : Nat) (og : Option Nat) (v : Value) (k : Int) (w : World) (h : WB lo hi w v) (hk0 : 0 ≤ k) (hk : k ≤ 1152921504606846976) :
    Calls Try.prog 31 #[v, .int .i64 k] w fun e w' => ∃ n : Nat, n ≤ 1048576 ∧ e = .returned (.int .i64 (k + n)) ∧ Mk lo hi og w w' := by
  rcases h with rfl | ⟨g, n, cap, cur, rfl, h1, h2, h3, h4, h5, h6⟩
  · go_enter Try.func31, Try.ntmps31
    go_wp2
    refine wp_loop_rounds 1 ?_
    rw [rounds_succ]
    go_wp2
    go_ret
    exact ⟨0, by omega, by simp, Mk.re _ _ _ _⟩
  · have H5 : Hid (w.heap[g]? = some (.cells cur 5 (0, 0))) := h5
    have H4 : Hid (cur.size = cap) := h4
    clear h4 h5
    go_enter Try.func31, Try.ntmps31
    go_wp2
    go_loopw [1, 5] (fun q i wr => ∃ j : Nat, j ≤ n ∧ i = .int .i64 j ∧ q = .int .i64 (k + j) ∧ Mk lo hi og w wr) (fun _ i _ => n - (intOf i).toNat)
    case atStart => exact ⟨0, Nat.zero_le _, rfl, by go_num, Mk.re _ _ _ _⟩
    case round =>
      obtain ⟨j, hj, rfl, rfl, hm⟩ := hrel
      by_cases hlt : j < n
      · obtain ⟨c', e1, e2⟩ := hm.byt g cur H5.out
        obtain ⟨uu, huu⟩ : ∃ uu, c'[j]? = some uu := ⟨_, Array.getElem?_eq_getElem (by have := H4.out; omega)⟩
        obtain ⟨hu, hf⟩ := at_block e1 j uu huu
        have HM : Hid (∀ u, Mk lo hi og w (wr.setCell ⟨g, j, none⟩ u)) := fun u => hm.tr (mk_set u e1 h1 h2 (.inl rfl))
        clear e1 e2 hm huu
        go_wp2
        go_roundw
        case rel => exact ⟨j + 1, by omega, by go_num, by go_num, HM.out _⟩
        case measure => simp [intOf]; omega
      · have hjn : j = n := by omega
        subst hjn
        go_wp2
        go_ret
        exact ⟨j, h6, rfl, hm⟩

/-- An array of n elements of k cells in the block g; of its cells those of the texts (tx) are known. -/
def Arr (w : World) (g : Nat) (t : TypeId) (k n : Nat) (tx : Nat → Prop) (F : Nat → Nat → Value) : Prop :=
  ∃ cur : Array Value, w.heap[g]? = some (.cells cur t (0, 0)) ∧ cur.size = n * k ∧ ∀ i, i < n → ∀ j, j < k → tx j → cur[i * k + j]? = some (F i j)
theorem Arr.of {w : World} {g : Nat} {t : TypeId} {k n : Nat} {tx : Nat → Prop} {F : Nat → Nat → Value} (h : Blk w g t k n n F) : Arr w g t k n tx F := by
  obtain ⟨cur, h1, h2, h3⟩ := h
  exact ⟨cur, h1, h2, fun i hi j hj _ => h3 i hi j hj⟩
theorem Arr.mk {lo hi : Nat} {og : Option Nat} {w w' : World} {g : Nat} {t : TypeId} {k n : Nat} {tx : Nat → Prop} {F : Nat → Nat → Value} (h : Arr w g t k n tx F) (m : Mk lo hi og w w') (ht : t ≠ 5) (hg : some g ≠ og) : Arr w' g t k n tx F := by
  obtain ⟨cur, h1, h2, h3⟩ := h
  exact ⟨cur, m.oth g cur t ht hg h1, h2, h3⟩
theorem Arr.ext {w w' : World} {g : Nat} {t : TypeId} {k n : Nat} {tx : Nat → Prop} {F : Nat → Nat → Value} (h : Arr w g t k n tx F) (m : Ext w w') : Arr w' g t k n tx F := by
  obtain ⟨cur, h1, h2, h3⟩ := h
  exact ⟨cur, (m.block g (Array.getElem?_eq_some_iff.1 h1).1 (by simp)).trans h1, h2, h3⟩
theorem Arr.cell {w : World} {g : Nat} {t : TypeId} {k n : Nat} {tx : Nat → Prop} {F : Nat → Nat → Value} (h : Arr w g t k n tx F) (i : Nat) (hi : i < n) (j : Nat) (hj : j < k) (ht : tx j) : w.cell? ⟨g, i * k + j, none⟩ = some (F i j) := by
  obtain ⟨cur, h1, h2, h3⟩ := h
  rw [cell_of_row w g _ cur t (0, 0) h1]
  exact h3 i hi j hj ht
theorem Arr.at {w : World} {g : Nat} {t : TypeId} {k n : Nat} {tx : Nat → Prop} {F : Nat → Nat → Value} (h : Arr w g t k n tx F) (x : Nat) (hx : x < n * k) : (∃ u, w.cell? ⟨g, x, none⟩ = some u) ∧ w.frozen? ⟨g, x, none⟩ = false := by
  obtain ⟨cur, h1, h2, _⟩ := h
  have := at_block h1 x cur[x] (Array.getElem?_eq_getElem (by omega))
  exact ⟨⟨_, this.1⟩, this.2⟩
theorem Arr.set {w : World} {g : Nat} {t : TypeId} {k n : Nat} {tx : Nat → Prop} {F : Nat → Nat → Value} (h : Arr w g t k n tx F) (i j : Nat) (hj : j < k) (ht : ¬ tx j) (u : Value) : Arr (w.setCell ⟨g, i * k + j, none⟩ u) g t k n tx F := by
  obtain ⟨cur, h1, h2, h3⟩ := h
  refine ⟨_, set_block h1 _ u, by simp [h2], fun i' hi' j' hj' ht' => ?_⟩
  rw [Array.getElem?_setIfInBounds, if_neg]
  · exact h3 i' hi' j' hj' ht'
  · intro e
    have e1 : (j + i * k) % k = (j' + i' * k) % k := by rw [Nat.add_comm j, Nat.add_comm j', e]
    rw [Nat.add_mul_mod_self_right, Nat.add_mul_mod_self_right, Nat.mod_eq_of_lt hj, Nat.mod_eq_of_lt hj'] at e1
    exact ht (e1 ▸ ht')
theorem Arr.mkset {lo hi : Nat} {w : World} {g : Nat} {t : TypeId} {k n : Nat} {tx : Nat → Prop} {F : Nat → Nat → Value} (h : Arr w g t k n tx F) (h1 : lo ≤ g) (h2 : g < hi) (x : Nat) (u : Value) : Mk lo hi (Option.some g) w (w.setCell ⟨g, x, none⟩ u) := by
  obtain ⟨cur, hc, _, _⟩ := h
  exact mk_set u hc h1 h2 (.inr rfl)

end Go.Proofs.Ytplgnohncdfgcal

namespace Go.Proofs.Ytplgnohncdfgcal
open Go.RowKit

def txI : Nat → Prop := fun j => j = 4 ∨ j = 5

set_option maxHeartbeats 4000000 in
theorem markIM (lo hi g n : Nat) (F : Nat → Nat → Value) (k : Int) (w : World) (h : Arr w g 57 7 n txI F) (hw : ∀ i, i < n → WB lo hi w (F i 4) ∧ WB lo hi w (F i 5)) (h1 : lo ≤ g) (h2 : g < hi) (hn : n ≤ 1048576) (hk0 : 0 ≤ k) (hk : k ≤ 70368744177664) :
    Calls Try.prog 77 #[.slice (some ⟨g, 0, none⟩) n n, .int .i64 k] w fun e w' => ∃ m : Nat, m ≤ n * 2097157 ∧ e = .returned (.int .i64 (k + m)) ∧ Mk lo hi (some g) w w' := by
  have HW : Hid (∀ i, i < n → WB lo hi w (F i 4) ∧ WB lo hi w (F i 5)) := hw
  have HA : Hid (Arr w g 57 7 n txI F) := h
  have h5 : (57 : TypeId) ≠ 5 := by decide
  have H5 : Hid ((57 : TypeId) ≠ 5) := h5
  clear hw h h5
  go_enter Try.func77, Try.ntmps77
  go_wp2
  go_loopw [1, 5] (fun q i wr => ∃ j m : Nat, j ≤ n ∧ m ≤ j * 2097157 ∧ i = .int .i64 j ∧ q = .int .i64 (k + m) ∧ Mk lo hi (some g) w wr ∧ Hid (Arr wr g 57 7 n txI F)) (fun _ i _ => n - (intOf i).toNat)
  case atStart => exact ⟨0, 0, Nat.zero_le _, by omega, rfl, by go_num, Mk.re _ _ _ _, HA.out⟩
  case round =>
    obtain ⟨j, m, hj, hmj, rfl, rfl, hm, ha⟩ := hrel
    by_cases hlt : j < n
    · have hlt' : (j : Int) < (n : Int) := by omega
      have HM0 : Hid (Mk lo hi (some g) w wr) := hm
      clear hm
      obtain ⟨⟨u0, a0⟩, f0⟩ := Arr.at ha.out (j * 7 + 0) (by omega)
      rw [Nat.add_zero] at a0 f0
      obtain ⟨⟨u1, a1⟩, f1⟩ := Arr.at ha.out (j * 7 + 1) (by omega)
      obtain ⟨⟨u2, a2⟩, f2⟩ := Arr.at ha.out (j * 7 + 2) (by omega)
      obtain ⟨⟨u3, a3⟩, f3⟩ := Arr.at ha.out (j * 7 + 3) (by omega)
      have HZ : Hid (∀ V0 V1 V2 V3 : Value, Mk lo hi (some g) w ((((wr.setCell ⟨g, j * 7, none⟩ V0).setCell ⟨g, j * 7 + 1, none⟩ V1).setCell ⟨g, j * 7 + 2, none⟩ V2).setCell ⟨g, j * 7 + 3, none⟩ V3) ∧ Arr ((((wr.setCell ⟨g, j * 7, none⟩ V0).setCell ⟨g, j * 7 + 1, none⟩ V1).setCell ⟨g, j * 7 + 2, none⟩ V2).setCell ⟨g, j * 7 + 3, none⟩ V3) g 57 7 n txI F) := fun V0 V1 V2 V3 => ⟨((((((((HM0.out).tr (Arr.mkset (ha.out) h1 h2 (j * 7 + 0) V0))).tr (Arr.mkset (((ha.out).set j 0 (by omega) (by unfold txI; omega) V0)) h1 h2 (j * 7 + 1) V1))).tr (Arr.mkset (((((ha.out).set j 0 (by omega) (by unfold txI; omega) V0)).set j 1 (by omega) (by unfold txI; omega) V1)) h1 h2 (j * 7 + 2) V2))).tr (Arr.mkset (((((((ha.out).set j 0 (by omega) (by unfold txI; omega) V0)).set j 1 (by omega) (by unfold txI; omega) V1)).set j 2 (by omega) (by unfold txI; omega) V2)) h1 h2 (j * 7 + 3) V3)), ((((((((ha.out).set j 0 (by omega) (by unfold txI; omega) V0)).set j 1 (by omega) (by unfold txI; omega) V1)).set j 2 (by omega) (by unfold txI; omega) V2)).set j 3 (by omega) (by unfold txI; omega) V3)⟩
      have d4 := Arr.cell ha.out j hlt 4 (by omega) (by unfold txI; omega)
      have d5 := Arr.cell ha.out j hlt 5 (by omega) (by unfold txI; omega)
      clear ha
      go_wp2_with fail
      refine (markW lo hi none _ _ _ ((HW.out j hlt).1.mk (HZ.out _ _ _ _).1) (by omega) (by omega)).mono ?_
      rintro e w1 ⟨n1, hn1, rfl, M1⟩
      have HM1 : Hid (Mk lo hi (some g) w w1) := (HZ.out _ _ _ _).1.tr M1.some
      have HA1 : Hid (Arr w1 g 57 7 n txI F) := (HZ.out _ _ _ _).2.mk M1 H5.out (by simp)
      clear M1 d4 d5 HM0 HZ a0 a1 a2 a3 f0 f1 f2 f3
      have d5 := Arr.cell HA1.out j hlt 5 (by omega) (by unfold txI; omega)
      go_wp2_with fail
      refine (markW lo hi none _ _ w1 ((HW.out j hlt).2.mk HM1.out) (by omega) (by omega)).mono ?_
      rintro e w2 ⟨n2, hn2, rfl, M2⟩
      have HM2 : Hid (Mk lo hi (some g) w w2) := HM1.out.tr M2.some
      have HA2 : Hid (Arr w2 g 57 7 n txI F) := HA1.out.mk M2 H5.out (by simp)
      clear M2 d5 HM1 HA1
      obtain ⟨⟨u6, a6⟩, f6⟩ := Arr.at HA2.out (j * 7 + 6) (by omega)
      have HZ : Hid (∀ V : Value, Mk lo hi (some g) w (w2.setCell ⟨g, j * 7 + 6, none⟩ V) ∧ Arr (w2.setCell ⟨g, j * 7 + 6, none⟩ V) g 57 7 n txI F) := fun V => ⟨HM2.out.tr (Arr.mkset HA2.out h1 h2 (j * 7 + 6) V), HA2.out.set j 6 (by omega) (by unfold txI; omega) V⟩
      clear HM2 HA2
      go_wp2
      go_roundw
      case rel => exact ⟨j + 1, m + 4 + n1 + n2 + 1, by omega, by omega, by go_num, by go_num, (HZ.out _).1, (HZ.out _).2⟩
      case measure => simp [intOf]; omega
    · have hjn : j = n := by omega
      subst hjn
      clear ha
      go_wp2
      go_ret
      exact ⟨m, hmj, rfl, hm⟩

end Go.Proofs.Ytplgnohncdfgcal

namespace Go.Proofs.Ytplgnohncdfgcal
open Go.RowKit

/-- Only blocks from lo up to hi have turned. -/
structure Mid (lo hi : Nat) (w w' : World) : Prop where
  os : w'.os = w.os
  tape : w'.tape = w.tape
  output : w'.output = w.output
  size : w.heap.size ≤ w'.heap.size
  out : ∀ k, k < w.heap.size → (k < lo ∨ hi ≤ k) → w'.heap[k]? = w.heap[k]?
theorem Mk.mid {lo hi : Nat} {og : Option Nat} {w w' : World} (h : Mk lo hi og w w') : Mid lo hi w w' := ⟨h.os, h.tape, h.output, h.size, h.out⟩
theorem Mid.tr {lo hi : Nat} {a b c : World} (h : Mid lo hi a b) (k : Mid lo hi b c) : Mid lo hi a c :=
  ⟨k.os.trans h.os, k.tape.trans h.tape, k.output.trans h.output, Nat.le_trans h.size k.size, fun i hi' ho => (k.out i (Nat.lt_of_lt_of_le hi' h.size) ho).trans (h.out i hi' ho)⟩
theorem Mid.ext {lo hi : Nat} {a b : World} (h : Ext a b) : Mid lo hi a b := ⟨h.os, h.tape, h.output, h.size, fun i hi' _ => h.block i hi' (by simp)⟩
theorem Mid.one {lo hi g : Nat} {a b : World} (h : a.grownBy b (some g)) (h1 : lo ≤ g) (h2 : g < hi) : Mid lo hi a b := ⟨h.os, h.tape, h.output, h.size, fun i hi' ho => h.block i hi' (by simp; omega)⟩
theorem Mid.below {lo hi B : Nat} {w0 w w' : World} (hb : Below B w0 w) (hs : B ≤ w.heap.size) (hl : B ≤ lo) (h : Mid lo hi w w') : Below B w0 w' :=
  ⟨h.os.trans hb.os, h.tape.trans hb.tape, h.output.trans hb.output, Nat.le_trans hb.size h.size, fun k hk => (h.out k (by omega) (.inl (by omega))).trans (hb.block k hk)⟩
theorem Mid.obj {lo hi k : Nat} {w w' : World} {o : Obj} (h : Mid lo hi w w') (hk : w.heap[k]? = some o) (ho : k < lo ∨ hi ≤ k) : w'.heap[k]? = some o := (h.out k (Array.getElem?_eq_some_iff.1 hk).1 ho).trans hk

end Go.Proofs.Ytplgnohncdfgcal

namespace Go.Proofs.Ytplgnohncdfgcal
open Go.RowKit

/-- The copy of a message lies from block lo on. -/
def OMsg (lo : Nat) (w : World) (v : Value) (M : DMsg) : Prop := ∃ g0, v = .agg #[.int .i64 M.kind, .int .i64 M.from_, .int .i64 M.to, .int .i64 M.term, .int .i64 M.prev, .int .i64 M.prevTerm, .slice (some ⟨g0, 0, none⟩) M.items.length M.items.length, .int .i64 M.commit, .bool M.yes] ∧ lo ≤ g0 ∧ OI w g0 M.items
theorem OMsg.v {lo : Nat} {w : World} {v : Value} {M : DMsg} (h : OMsg lo w v M) (hl : LenM M 1048576) (hr : ∀ (i : Nat) (s : DItem), M.items[i]? = some s → (∀ x ∈ s.cmd.op.key, 0 ≤ x ∧ x ≤ 255) ∧ (∀ x ∈ s.cmd.op.val, 0 ≤ x ∧ x ≤ 255)) : VMsg w v M := by
  obtain ⟨g0, rfl, _, o⟩ := h
  exact ⟨_, rfl, o.v hl.1 hr⟩

set_option maxHeartbeats 2000000 in
theorem toMO (v : Value) (M : DMsg) (w : World) (h : VMsg w v M) (hl : LenM M 1048576) :
    Calls Try.prog 24 #[v] w fun e w' => ∃ v', e = .returned v' ∧ OMsg w.heap.size w' v' M ∧ Below w.heap.size w w' := by
  obtain ⟨iv, rfl, hi⟩ := h
  have hE : ∀ w : World, ∀ o, Ext w (w.alloc o) := fun w o => World.grownBy_alloc _ _ _
  have hrng : Hid (∀ (i : Nat) (s : DItem), M.items[i]? = some s → (∀ x ∈ s.cmd.op.key, 0 ≤ x ∧ x ≤ 255) ∧ (∀ x ∈ s.cmd.op.val, 0 ≤ x ∧ x ≤ 255)) := by
    obtain ⟨C, _, hC⟩ := hi
    intro i s hs
    obtain ⟨_, _, _, _, r4, r5, _⟩ := hC i s hs
    exact ⟨rv_rng r4, rv_rng r5⟩
  go_enter Try.func24, Try.ntmps24
  go_wp2_with fail
  refine (toS_I _ M.items _ (hi.ext (((hE _ _).tr (hE _ _)).tr (hE _ _))) hl.1 hl.2).mono ?_
  rintro e w1 ⟨F, rfl, hF, hO, b1⟩
  have hs1 : w.heap.size + 3 ≤ w1.heap.size := by have := b1.size; simp at this; omega
  have P1 := below_blk b1 (by simp; omega) (h3_0 w _ _ _)
  have R1 := below_blk b1 (by simp) (h3_1 w _ _ _)
  have T1 := below_blk b1 (by simp) (h3_2 w _ _ _)
  have B1 : Below w.heap.size w w1 := ((((Below.refl _ w).alloc (Nat.le_refl _) _).alloc (by simp) _).alloc (by simp; omega) _).trans (b1.mono (by simp; omega))
  have HO1 : Hid (OI w1 (w.heap.size + 1 + 1 + 1) M.items) := by
    have e3 : (((w.alloc (.cells #[.int .i64 M.kind, .int .i64 M.from_, .int .i64 M.to, .int .i64 M.term, .int .i64 M.prev, .int .i64 M.prevTerm, iv, .int .i64 M.commit, .bool M.yes] 63 (0, 0))).alloc (.cells #[.int .i64 0, .int .i64 0, .int .i64 0, .int .i64 0, .int .i64 0, .int .i64 0, .slice none 0 0, .int .i64 0, .bool false] 68 (0, 0))).alloc (.cells #[.int .i64 M.kind, .int .i64 M.from_, .int .i64 M.to, .int .i64 M.term, .int .i64 M.prev, .int .i64 M.prevTerm, .slice none 0 0, .int .i64 0, .bool false] 68 (0, 0))).heap.size = w.heap.size + 1 + 1 + 1 := by simp
    rw [e3] at hF hO
    exact ⟨F, hF, hO⟩
  clear b1 hF hO
  obtain ⟨p7, y7⟩ := at_block P1 7 _ rfl
  obtain ⟨p8, y8⟩ := at_block P1 8 _ rfl
  obtain ⟨t0, g0⟩ := at_block T1 0 _ rfl
  obtain ⟨t1, g1⟩ := at_block T1 1 _ rfl
  obtain ⟨t2, g2⟩ := at_block T1 2 _ rfl
  obtain ⟨t3, g3⟩ := at_block T1 3 _ rfl
  obtain ⟨t4, g4⟩ := at_block T1 4 _ rfl
  obtain ⟨t5, g5⟩ := at_block T1 5 _ rfl
  obtain ⟨t6, g6⟩ := at_block T1 6 _ rfl
  obtain ⟨t7, g7⟩ := at_block T1 7 _ rfl
  obtain ⟨t8, g8⟩ := at_block T1 8 _ rfl
  obtain ⟨r0, z0⟩ := at_block R1 0 _ rfl
  obtain ⟨r1, z1⟩ := at_block R1 1 _ rfl
  obtain ⟨r2, z2⟩ := at_block R1 2 _ rfl
  obtain ⟨r3, z3⟩ := at_block R1 3 _ rfl
  obtain ⟨r4, z4⟩ := at_block R1 4 _ rfl
  obtain ⟨r5, z5⟩ := at_block R1 5 _ rfl
  obtain ⟨r6, z6⟩ := at_block R1 6 _ rfl
  obtain ⟨r7, z7⟩ := at_block R1 7 _ rfl
  obtain ⟨r8, z8⟩ := at_block R1 8 _ rfl
  clear T1 R1 P1
  go_wp2
  refine bodyPost_ret (v := .agg #[.int .i64 M.kind, .int .i64 M.from_, .int .i64 M.to, .int .i64 M.term, .int .i64 M.prev, .int .i64 M.prevTerm, .slice (some ⟨w.heap.size + 1 + 1 + 1, 0, none⟩) M.items.length M.items.length, .int .i64 M.commit, .bool M.yes]) (by simp [results, Try.results24, go_sem, r0, r1, r2, r3, r4, r5, r6, r7, r8]) rfl ?_
  refine ⟨_, rfl, ⟨w.heap.size + 1 + 1 + 1, rfl, by omega, ?_⟩, ?_⟩
  · repeat (refine OI.set ?_ (by omega))
    exact HO1.out
  · repeat (refine below_set ?_ (by omega))
    exact B1


/-- A message's memory, as far as its marks need it: from lo up to hi. -/
def ShpM (lo hi : Nat) (w : World) (v : Value) (M : DMsg) : Prop := ∃ g0 F, v = .agg #[.int .i64 M.kind, .int .i64 M.from_, .int .i64 M.to, .int .i64 M.term, .int .i64 M.prev, .int .i64 M.prevTerm, .slice (some ⟨g0, 0, none⟩) M.items.length M.items.length, .int .i64 M.commit, .bool M.yes] ∧ lo ≤ g0 ∧ g0 < hi ∧ (Arr w g0 57 7 M.items.length txI F ∧ ∀ i, i < M.items.length → WB lo hi w (F i 4) ∧ WB lo hi w (F i 5))
theorem ShpM.ext {lo hi : Nat} {w w' : World} {v : Value} {M : DMsg} (h : ShpM lo hi w v M) (e : Ext w w') : ShpM lo hi w' v M := by
  obtain ⟨g0, F, hv, h0, h1, a1, a2⟩ := h
  exact ⟨g0, F, hv, h0, h1, a1.ext e, fun i hi => ⟨(a2 i hi).1.grown e, (a2 i hi).2.grown e⟩⟩
theorem shpM_of {lo : Nat} {w : World} {v : Value} {M : DMsg} (h : OMsg lo w v M) (hl : LenM M 1048576) : ShpM lo w.heap.size w v M := by
  obtain ⟨g0, hv, h0, o0⟩ := h
  obtain ⟨F, hF, hO⟩ := o0
  have hg : g0 < w.heap.size := blk_lt hF
  refine ⟨g0, F, hv, h0, hg, Arr.of hF, fun i hi => ?_⟩
  obtain ⟨r, hr⟩ : ∃ r, M.items[i]? = some r := ⟨_, List.getElem?_eq_getElem hi⟩
  obtain ⟨_, _, _, _, p4, p5, _⟩ := hO i r hr
  exact ⟨WB.of p4 (by omega) (hl.2 i r hr).1, WB.of p5 (by omega) (hl.2 i r hr).2⟩

set_option maxHeartbeats 4000000 in
theorem markMM (lo hi : Nat) (v : Value) (M : DMsg) (w : World) (h : ShpM lo hi w v M) (_hh : hi ≤ w.heap.size) (hl : LenM M 1048576) :
    Calls Try.prog 30 #[v, .int .i64 1] w fun e w' => ∃ k : Nat, e = .returned (.int .i64 k) ∧ Mid lo hi w w' := by
  have hE : ∀ w : World, ∀ o, Ext w (w.alloc o) := fun w o => World.grownBy_alloc _ _ _
  obtain ⟨g0, F, rfl, h0, h1, hA⟩ := h
  have hl1 : M.items.length ≤ 1048576 := hl.1
  have HA : Hid (Arr w g0 57 7 M.items.length txI F ∧ ∀ i, i < M.items.length → WB lo hi w (F i 4) ∧ WB lo hi w (F i 5)) := hA
  clear hA hl
  go_enter Try.func30, Try.ntmps30
  go_wp2_with fail
  refine (markIM lo hi g0 M.items.length F 1 _ (HA.out.1.ext (hE _ _)) (fun i hi => ⟨(HA.out.2 i hi).1.grown (hE _ _), (HA.out.2 i hi).2.grown (hE _ _)⟩) h0 h1 hl1 (by omega) (by omega)).mono ?_
  rintro e w1 ⟨m1, hm1, rfl, M1⟩
  have D1 : Mid lo hi w w1 := (Mid.ext (hE _ _)).tr M1.mid
  clear M1
  go_wp2
  go_ret
  exact ⟨1 + m1, by simp <;> rfl, D1⟩

/-- A row lies as it lay, where its block does. -/
theorem Ow.same {w w' : World} {base : Nat} {v : Value} {xs : List Int} (h : Ow w base v xs) (hk : ∀ k, v.ownBlock = some k → w'.heap[k]? = w.heap[k]?) : Ow w' base v xs := by
  refine ⟨h.1, ?_⟩
  rcases h.2 with h2 | ⟨g, cap, cur, hv, hb, hg, r⟩
  · exact .inl h2
  · exact .inr ⟨g, cap, cur, hv, hb, (hk g (by rw [hv]; simp [Value.ownBlock])).trans hg, r⟩

end Go.Proofs.Ytplgnohncdfgcal

namespace Go.Proofs.Ytplgnohncdfgcal
open Go.RowKit

/-- The marks that 'markByteS' lays from k on. -/
def marks (k : Int) : Nat → List Int
  | 0 => []
  | n + 1 => k % 256 :: marks (k + 1) n

theorem marks_len (k : Int) (n : Nat) : (marks k n).length = n := by
  induction n generalizing k with
  | zero => rfl
  | succ n ih => simp [marks, ih]

theorem marks_get (k : Int) (n j : Nat) (hj : j < n) : (marks k n).getD j 0 = (k + j) % 256 := by
  induction n generalizing k j with
  | zero => omega
  | succ n ih =>
    cases j with
    | zero => simp [marks]
    | succ j =>
      have := ih (k + 1) j (by omega)
      simp only [marks, List.getD_cons_succ]
      rw [this]
      congr 1
      omega

theorem marks_rng (k : Int) (n : Nat) : ∀ x ∈ marks k n, 0 ≤ x ∧ x ≤ 255 := by
  induction n generalizing k with
  | zero => intro x hx; cases hx
  | succ n ih =>
    intro x hx
    rcases List.mem_cons.1 hx with rfl | hx
    · omega
    · exact ih _ x hx

/-- Bytes that are marked up to j. -/
def marked (xs : List Int) (k : Int) (j : Nat) : List Int := marks k j ++ xs.drop j

theorem marked_set (xs : List Int) (k : Int) (j n : Nat) (hl : xs.length = n) (hj : j < n) : (B8 (marked xs k j)).set j (.int .u8 ((k + j) % 256)) = B8 (marked xs k (j + 1)) := by
  apply List.ext_getElem?
  intro i
  have l1 := marks_len k j
  have l2 := marks_len k (j + 1)
  rw [List.getElem?_set]
  have e1 : ∀ q, (marked xs k q)[i]? = if i < q then some ((k + i) % 256) else xs[i]? := by
    intro q
    unfold marked
    have lq := marks_len k q
    by_cases hi : i < q
    · rw [if_pos hi, List.getElem?_append_left (by omega)]
      have := marks_get k q i hi
      rw [List.getD_eq_getElem?_getD, List.getElem?_eq_getElem (by omega)] at this
      rw [List.getElem?_eq_getElem (by omega)]
      simpa using this
    · rw [if_neg hi, List.getElem?_append_right (by omega), List.getElem?_drop, lq]
      congr 1
      omega
  have e2 : (B8 (marked xs k j)).length = n := by simp [marked, l1]; omega
  by_cases e : j = i
  · subst e
    rw [if_pos rfl, if_pos (by omega), B8, List.getElem?_map, e1, if_pos (by omega)]
    rfl
  · rw [if_neg e, B8, B8, List.getElem?_map, List.getElem?_map, e1, e1]
    by_cases hi : i < j
    · rw [if_pos hi, if_pos (by omega)]
    · rw [if_neg hi, if_neg (by omega)]

set_option maxHeartbeats 1000000 in
theorem markB (base g n cap : Nat) (xs : List Int) (k : Int) (w : World) (hown : w.ownsRow base 5 1 (.slice (some ⟨g, 0, none⟩) n cap) n (B8 xs)) (hn : n ≤ 2097152) (hk0 : 0 ≤ k) (hk : k ≤ 1073741824) :
    Calls Try.prog 31 #[.slice (some ⟨g, 0, none⟩) n cap, .int .i64 k] w fun e w' => e = .returned (.int .i64 (k + n)) ∧
      w'.ownsRow base 5 1 (.slice (some ⟨g, 0, none⟩) n cap) n (B8 (marks k n)) ∧ w.grownBy w' (some g) := by
  have hl : xs.length = n := by simpa using hown.1
  go_enter Try.func31, Try.ntmps31
  go_wp2
  go_loopw [1, 5] (fun q i wr => ∃ j : Nat, j ≤ n ∧ i = .int .i64 j ∧ q = .int .i64 (k + j) ∧ wr.ownsRow base 5 1 (.slice (some ⟨g, 0, none⟩) n cap) n (B8 (marked xs k j)) ∧ w.grownBy wr (some g)) (fun _ i _ => n - (intOf i).toNat)
  case atStart => exact ⟨0, Nat.zero_le _, rfl, by go_num, by simpa [marked, marks] using hown, World.grownBy.refl _ _⟩
  case round =>
    obtain ⟨j, hj, rfl, rfl, hown', hg⟩ := hrel
    by_cases hlt : j < n
    · have hf : wr.frozen? ⟨g, j, none⟩ = false := hown'.frozenAt j
      obtain ⟨u, hu⟩ : ∃ u, wr.cell? ⟨g, j, none⟩ = some u := by
        rw [hown'.cellAt j (by omega)]
        exact ⟨_, List.getElem?_eq_getElem (by have := hown'.1; omega)⟩
      have R := hown'.stored j (.int .u8 ((k + j) % 256))
      rw [marked_set xs k j n hl hlt] at R
      have HR : Hid ((wr.setCell ⟨g, j, none⟩ (.int .u8 ((k + j) % 256))).ownsRow base 5 1 (.slice (some ⟨g, 0, none⟩) n cap) n (B8 (marked xs k (j + 1)))) := R.1
      have HG : Hid (w.grownBy (wr.setCell ⟨g, j, none⟩ (.int .u8 ((k + j) % 256))) (some g)) :=
        ⟨R.2.os.trans hg.os, R.2.tape.trans hg.tape, R.2.output.trans hg.output, Nat.le_trans hg.size R.2.size, fun i hi he => (R.2.block i (Nat.lt_of_lt_of_le hi hg.size) he).trans (hg.block i hi he)⟩
      clear R
      go_wp2
      go_roundw
      case rel => exact ⟨j + 1, by omega, by go_num, by go_num, HR.out, HG.out⟩
      case measure => simp [intOf]; omega
    · have hjn : j = n := by omega
      subst hjn
      go_wp2
      go_ret
      refine ⟨rfl, ?_, hg⟩
      have e : marked xs k j = marks k j := by simp [marked, List.drop_of_length_le (Nat.le_of_eq hl)]
      rw [← e]
      exact hown'

set_option maxHeartbeats 1000000 in
/-- A slice without bytes: nothing is marked. -/
theorem markB0 (a : Option Addr) (cap : Nat) (k : Int) (w : World) :
    Calls Try.prog 31 #[.slice a 0 cap, .int .i64 k] w fun e w' => e = .returned (.int .i64 k) ∧ w' = w := by
  go_enter Try.func31, Try.ntmps31
  go_wp2
  refine wp_loop_rounds 1 ?_
  rw [rounds_succ]
  go_wp2
  go_ret
  exact ⟨rfl, rfl⟩

set_option maxHeartbeats 1000000 in
/-- What was marked is held. -/
theorem heldB (a : Option Addr) (n cap : Nat) (k : Int) (w : World) (hr : Rd w a n (marks k n)) (hn : n ≤ 2097152) (hk0 : 0 ≤ k) (hk : k ≤ 1073741824) :
    Calls Try.prog 32 #[.slice a n cap, .int .i64 k] w fun e w' => e = .returned (.int .i64 (k + n)) ∧ w' = w := by
  go_enter Try.func32, Try.ntmps32
  go_wp2
  go_loop [1, 5] (fun q i => ∃ j : Nat, j ≤ n ∧ i = .int .i64 j ∧ q = .int .i64 (k + j)) (fun _ i => n - (intOf i).toNat)
  case atStart => exact ⟨0, Nat.zero_le _, rfl, by go_num⟩
  case round =>
    obtain ⟨j, hj, rfl, rfl⟩ := hrel
    by_cases hlt : j < n
    · obtain ⟨b, o, rfl, hbl, hc⟩ := hr.pos (by omega)
      have hck := hc j hlt
      rw [marks_get k n j hlt] at hck
      clear hc
      go_wp2
      go_round
      case rel => exact ⟨j + 1, by omega, by go_num, by go_num⟩
      case measure => simp [intOf]; omega
    · have hjn : j = n := by omega
      subst hjn
      go_wp2
      go_ret
      exact ⟨rfl, rfl⟩

end Go.Proofs.Ytplgnohncdfgcal

namespace Go.Proofs.Ytplgnohncdfgcal
open Go.RowKit

theorem markV (base : Nat) (v : Value) (xs : List Int) (k : Int) (w : World) (h : Ow w base v xs) (hn : xs.length ≤ 2097152) (hk0 : 0 ≤ k) (hk : k ≤ 1073741824) :
    Calls Try.prog 31 #[v, .int .i64 k] w fun e w' => e = .returned (.int .i64 (k + xs.length)) ∧ Ow w' base v (marks k xs.length) ∧ w.grownBy w' v.ownBlock := by
  rcases h.2 with ⟨rfl, h0⟩ | ⟨g, cap, cur, rfl, r⟩
  · have : xs = [] := List.eq_nil_of_length_eq_zero h0
    subst this
    refine (markB0 none 0 k w).mono fun e w' ⟨h1, h2⟩ => ?_
    subst h2
    exact ⟨by simpa using h1, h, World.grownBy.refl _ _⟩
  · refine (markB base g xs.length cap xs k w h hn hk0 hk).mono fun e w' ⟨h1, h2, h3⟩ => ⟨h1, ?_, h3⟩
    show w'.ownsRow base 5 1 _ (marks k xs.length).length _
    rw [marks_len]
    exact h2

theorem heldV (v : Value) (n : Nat) (k : Int) (w : World) (h : RV w v (marks k n)) (hn : n ≤ 2097152) (hk0 : 0 ≤ k) (hk : k ≤ 1073741824) :
    Calls Try.prog 32 #[v, .int .i64 k] w fun e w' => e = .returned (.int .i64 (k + n)) ∧ w' = w := by
  obtain ⟨a, cap, rfl, hr, _, _⟩ := h
  rw [marks_len] at hr ⊢
  exact heldB a n cap k w hr hn hk0 hk

end Go.Proofs.Ytplgnohncdfgcal

namespace Go.Proofs.Ytplgnohncdfgcal
open Go.RowKit

theorem keptM {w w' : World} {g : Nat} {a0 a1 a2 a3 a4 a5 a6 a7 a8 : Value} (h : w.cell? ⟨g, 0, none⟩ = some a0 ∧ w.cell? ⟨g, 1, none⟩ = some a1 ∧ w.cell? ⟨g, 2, none⟩ = some a2 ∧ w.cell? ⟨g, 3, none⟩ = some a3 ∧ w.cell? ⟨g, 4, none⟩ = some a4 ∧ w.cell? ⟨g, 5, none⟩ = some a5 ∧ w.cell? ⟨g, 6, none⟩ = some a6 ∧ w.cell? ⟨g, 7, none⟩ = some a7 ∧ w.cell? ⟨g, 8, none⟩ = some a8) (hb : Below w.heap.size w w') :
    w'.cell? ⟨g, 0, none⟩ = some a0 ∧ w'.cell? ⟨g, 1, none⟩ = some a1 ∧ w'.cell? ⟨g, 2, none⟩ = some a2 ∧ w'.cell? ⟨g, 3, none⟩ = some a3 ∧ w'.cell? ⟨g, 4, none⟩ = some a4 ∧ w'.cell? ⟨g, 5, none⟩ = some a5 ∧ w'.cell? ⟨g, 6, none⟩ = some a6 ∧ w'.cell? ⟨g, 7, none⟩ = some a7 ∧ w'.cell? ⟨g, 8, none⟩ = some a8 := by
  have hg : g < w.heap.size := World.block_lt_of_cell? w _ h.1
  obtain ⟨h0, h1, h2, h3, h4, h5, h6, h7, h8⟩ := h
  exact ⟨(hb.cell (p := ⟨g, 0, none⟩) hg).trans h0, (hb.cell (p := ⟨g, 1, none⟩) hg).trans h1, (hb.cell (p := ⟨g, 2, none⟩) hg).trans h2, (hb.cell (p := ⟨g, 3, none⟩) hg).trans h3, (hb.cell (p := ⟨g, 4, none⟩) hg).trans h4, (hb.cell (p := ⟨g, 5, none⟩) hg).trans h5, (hb.cell (p := ⟨g, 6, none⟩) hg).trans h6, (hb.cell (p := ⟨g, 7, none⟩) hg).trans h7, (hb.cell (p := ⟨g, 8, none⟩) hg).trans h8⟩
theorem keptM2 {w w' : World} {g g' : Nat} {a0 a1 a2 a3 a4 a5 a6 a7 a8 b0 b1 b2 b3 b4 b5 b6 b7 b8 : Value} (h : (w.cell? ⟨g, 0, none⟩ = some a0 ∧ w.cell? ⟨g, 1, none⟩ = some a1 ∧ w.cell? ⟨g, 2, none⟩ = some a2 ∧ w.cell? ⟨g, 3, none⟩ = some a3 ∧ w.cell? ⟨g, 4, none⟩ = some a4 ∧ w.cell? ⟨g, 5, none⟩ = some a5 ∧ w.cell? ⟨g, 6, none⟩ = some a6 ∧ w.cell? ⟨g, 7, none⟩ = some a7 ∧ w.cell? ⟨g, 8, none⟩ = some a8) ∧ (w.cell? ⟨g', 0, none⟩ = some b0 ∧ w.cell? ⟨g', 1, none⟩ = some b1 ∧ w.cell? ⟨g', 2, none⟩ = some b2 ∧ w.cell? ⟨g', 3, none⟩ = some b3 ∧ w.cell? ⟨g', 4, none⟩ = some b4 ∧ w.cell? ⟨g', 5, none⟩ = some b5 ∧ w.cell? ⟨g', 6, none⟩ = some b6 ∧ w.cell? ⟨g', 7, none⟩ = some b7 ∧ w.cell? ⟨g', 8, none⟩ = some b8)) (hb : Below w.heap.size w w') :
    (w'.cell? ⟨g, 0, none⟩ = some a0 ∧ w'.cell? ⟨g, 1, none⟩ = some a1 ∧ w'.cell? ⟨g, 2, none⟩ = some a2 ∧ w'.cell? ⟨g, 3, none⟩ = some a3 ∧ w'.cell? ⟨g, 4, none⟩ = some a4 ∧ w'.cell? ⟨g, 5, none⟩ = some a5 ∧ w'.cell? ⟨g, 6, none⟩ = some a6 ∧ w'.cell? ⟨g, 7, none⟩ = some a7 ∧ w'.cell? ⟨g, 8, none⟩ = some a8) ∧ (w'.cell? ⟨g', 0, none⟩ = some b0 ∧ w'.cell? ⟨g', 1, none⟩ = some b1 ∧ w'.cell? ⟨g', 2, none⟩ = some b2 ∧ w'.cell? ⟨g', 3, none⟩ = some b3 ∧ w'.cell? ⟨g', 4, none⟩ = some b4 ∧ w'.cell? ⟨g', 5, none⟩ = some b5 ∧ w'.cell? ⟨g', 6, none⟩ = some b6 ∧ w'.cell? ⟨g', 7, none⟩ = some b7 ∧ w'.cell? ⟨g', 8, none⟩ = some b8) :=
  ⟨keptM h.1 hb, keptM h.2 hb⟩

theorem bytesL_le {M : DMsg} (h : MsgP M) : (bytesL M).length ≤ 1000 := by
  obtain ⟨_, h4, _⟩ := msg_w h
  unfold bytesL
  have e0 := headL_le 0 M
  have e1 := headL_le 1 M
  have e2 := headL_le 2 M
  have e3 := headL_le 3 M
  split
  · have a1 := putL_le (headL 0 M) M.prev
    have a2 := putL_le (headL 0 M ++ numL M.prev) M.prevTerm
    omega
  · split
    · have a1 := putL_le (headL 2 M) M.prev
      have a2 := putL_le (headL 2 M ++ numL M.prev) M.prevTerm
      have a3 := putL_le (headL 2 M ++ numL M.prev ++ numL M.prevTerm) M.commit
      have a4 := putL_le (headL 2 M ++ numL M.prev ++ numL M.prevTerm ++ numL M.commit) (M.items.length : Int)
      have a5 := its_le (headL 2 M ++ numL M.prev ++ numL M.prevTerm ++ numL M.commit ++ numL (M.items.length : Int)) M.items
      omega
    · split
      · have a1 := putL_le (headL 3 M) M.prev
        have a2 := putL_le (headL 3 M ++ numL M.prev) (yesI M.yes)
        omega
      · have a1 := putL_le (headL 1 M) (yesI M.yes)
        omega
theorem mbL_le (M : DMsg) : (mbL M).length ≤ 1000 := by
  by_cases h : MsgP M
  · rw [mbL_yes h]; exact bytesL_le h
  · rw [mbL_no h]; simp

set_option maxRecDepth 100000 in
set_option maxHeartbeats 8000000 in
theorem law_MsgBytes (v : Value) (M : DMsg) (w : World) (h : VMsg w v M) (_h1 : True) (_h2 : -9223372036854775808 ≤ M.term ∧ M.term ≤ 9223372036854775807) :
    Calls Try.prog 6 #[v] w fun e w' => e = .returned (.bool true) ∧ Below w.heap.size w w' := by
  have hE : ∀ w : World, ∀ o, Ext w (w.alloc o) := fun w o => World.grownBy_alloc _ _ _
  have hB : ∀ w : World, ∀ o, Below w.heap.size w (w.alloc o) := fun w o => (Below.refl _ w).alloc (Nat.le_refl _) _
  have h0 : Hid (VMsg w v M) := h
  have hrng : Hid (∀ (i : Nat) (s : DItem), M.items[i]? = some s → (∀ x ∈ s.cmd.op.key, 0 ≤ x ∧ x ≤ 255) ∧ (∀ x ∈ s.cmd.op.val, 0 ≤ x ∧ x ≤ 255)) := by
    obtain ⟨_, _, ⟨C, _, hC⟩⟩ := h
    intro i s hs
    obtain ⟨_, _, _, _, r4, r5, _⟩ := hC i s hs
    exact ⟨rv_rng r4, rv_rng r5⟩
  obtain ⟨iv, rfl, _⟩ := h
  clear _h1 _h2
  obtain ⟨zs, hzs⟩ : ∃ zs, zs = mbL M := ⟨_, rfl⟩
  have hzl : zs.length ≤ 1000 := by rw [hzs]; exact mbL_le M
  have HZ : Hid (mbL M = zs) := hzs.symm
  obtain ⟨ob, hob⟩ : ∃ ob, ob = tB (MsgP M) := ⟨_, rfl⟩
  have HB : Hid (tB (MsgP M) = ob) := hob.symm
  clear hzs hob
  go_enter Try.func6, Try.ntmps6
  go_wp2_with fail
  refine (szM _ M 1048576 _ (h0.out.ext (hE _ _)) (by omega) (by omega)).mono ?_
  rintro e w1 ⟨r, rfl, hrr, b1⟩
  have B1 := (hB w _).trans (b1.mono (by simp))
  have P1 := below_blk b1 (by simp) (heap_alloc_new w (.cells #[.int .i64 M.kind, .int .i64 M.from_, .int .i64 M.to, .int .i64 M.term, .int .i64 M.prev, .int .i64 M.prevTerm, iv, .int .i64 M.commit, .bool M.yes] 63 (0, 0)))
  rcases hrr with ⟨h1, rfl⟩ | ⟨h1, h2⟩
  · go_wp2
    go_ret
    exact ⟨rfl, B1⟩
  · have HL : Hid (LenM M 1048576) := lenM_of (by omega)
    have hr0 : 0 ≤ r := by omega
    have hz1 : w.heap.size < w1.heap.size := (Array.getElem?_eq_some_iff.1 P1).1
    clear h1 h2 b1
    obtain ⟨p0, _⟩ := at_block P1 0 _ rfl
    obtain ⟨p1, _⟩ := at_block P1 1 _ rfl
    obtain ⟨p2, _⟩ := at_block P1 2 _ rfl
    obtain ⟨p3, _⟩ := at_block P1 3 _ rfl
    obtain ⟨p4, _⟩ := at_block P1 4 _ rfl
    obtain ⟨p5, _⟩ := at_block P1 5 _ rfl
    obtain ⟨p6, _⟩ := at_block P1 6 _ rfl
    obtain ⟨p7, _⟩ := at_block P1 7 _ rfl
    obtain ⟨p8, _⟩ := at_block P1 8 _ rfl
    go_wp2_with fail
    refine (toM _ M w1 (h0.out.ext (ext_below B1)) HL.out).mono ?_
    rintro e w2 ⟨v2, rfl, o2, b2⟩
    have B2 := B1.trans (b2.mono B1.size)
    go_wp2_with fail
    refine (sMsgBytesP _ M w2 o2).mono ?_
    rintro e w3 ⟨v3, rfl, R3, O3, b3⟩
    rw [HZ.out] at R3 O3
    rw [HB.out]
    have B3 := B2.trans (b3.mono B2.size)
    have hz3 : w.heap.size < w3.heap.size := by have := b2.size; have := b3.size; omega
    have hz23 := b3.size
    have P3 := below_blk b3 (by have := b2.size; omega) (below_blk b2 hz1 P1)
    have HZR : Hid (∀ x ∈ zs, 0 ≤ x ∧ x ≤ 255) := R3.rng
    clear p0 p1 p2 p3 p4 p5 p6 p7 p8 o2 b2 b3 R3
    obtain ⟨p0, _⟩ := at_block P3 0 _ rfl
    obtain ⟨p1, _⟩ := at_block P3 1 _ rfl
    obtain ⟨p2, _⟩ := at_block P3 2 _ rfl
    obtain ⟨p3, _⟩ := at_block P3 3 _ rfl
    obtain ⟨p4, _⟩ := at_block P3 4 _ rfl
    obtain ⟨p5, _⟩ := at_block P3 5 _ rfl
    obtain ⟨p6, _⟩ := at_block P3 6 _ rfl
    obtain ⟨p7, _⟩ := at_block P3 7 _ rfl
    obtain ⟨p8, _⟩ := at_block P3 8 _ rfl
    go_wp2_with fail
    refine (toMO _ M w3 (h0.out.ext (ext_below B3)) HL.out).mono ?_
    rintro e w4 ⟨v4, rfl, o4, b4⟩
    have B4 := B3.trans (b4.mono B3.size)
    have hz4 := b4.size
    have HS4 : Hid (ShpM w3.heap.size w4.heap.size w4 v4 M) := shpM_of o4 HL.out
    have HV4 : Hid (VMsg w4 v4 M) := o4.v HL.out hrng.out
    obtain ⟨g0, rfl, _⟩ := o4
    have P4 := below_blk b4 hz3 P3
    have HR4 : Hid (Ow w4 w2.heap.size v3 zs) := O3.ext (ext_below b4)
    have HLT3 : Hid (∀ k, v3.ownBlock = some k → w2.heap.size ≤ k ∧ k < w3.heap.size) := O3.lt
    clear p0 p1 p2 p3 p4 p5 p6 p7 p8 b4 O3 P3
    go_wp2_with fail
    refine (iMsgBytesP _ M _ (HV4.out.ext (hE _ _))).mono ?_
    rintro e w5 ⟨v5, rfl, R5', R5, b5⟩
    rw [HZ.out] at R5
    rw [HB.out]
    clear R5'
    have T5 := below_blk b5 (by simp) (heap_alloc_new w4 (.cells #[.int .i64 M.kind, .int .i64 M.from_, .int .i64 M.to, .int .i64 M.term, .int .i64 M.prev, .int .i64 M.prevTerm, .slice (some ⟨g0, 0, none⟩) M.items.length M.items.length, .int .i64 M.commit, .bool M.yes] 68 (0, 0)))
    have P5 := below_blk b5 (by simp; omega) ((Below.heap_alloc w4 (.cells #[.int .i64 M.kind, .int .i64 M.from_, .int .i64 M.to, .int .i64 M.term, .int .i64 M.prev, .int .i64 M.prevTerm, .slice (some ⟨g0, 0, none⟩) M.items.length M.items.length, .int .i64 M.commit, .bool M.yes] 68 (0, 0)) w.heap.size (by omega)).trans P4)
    have X5 : Ext w4 w5 := (hE w4 (.cells #[.int .i64 M.kind, .int .i64 M.from_, .int .i64 M.to, .int .i64 M.term, .int .i64 M.prev, .int .i64 M.prevTerm, .slice (some ⟨g0, 0, none⟩) M.items.length M.items.length, .int .i64 M.commit, .bool M.yes] 68 (0, 0))).tr (ext_below b5)
    have B5 : Below w.heap.size w w5 := (B4.alloc (by omega) (.cells #[.int .i64 M.kind, .int .i64 M.from_, .int .i64 M.to, .int .i64 M.term, .int .i64 M.prev, .int .i64 M.prevTerm, .slice (some ⟨g0, 0, none⟩) M.items.length M.items.length, .int .i64 M.commit, .bool M.yes] 68 (0, 0))).trans (b5.mono (by simp; omega))
    have hz5 : w4.heap.size < w5.heap.size := (Array.getElem?_eq_some_iff.1 T5).1
    have R5' : Ow w5 (w4.heap.size + 1) v5 zs := ow_base R5 (by simp)
    have HR5 : Hid (Ow w5 (w4.heap.size + 1) v5 zs) := R5'
    have HR35 : Hid (Ow w5 w2.heap.size v3 zs) := HR4.out.ext X5
    clear b5 R5 R5' P4
    go_wp2_with fail
    refine (eqV_yes _ _ zs w5 (HR5.out.rv HZR.out) (HR35.out.rv HZR.out) (by omega)).mono ?_
    rintro e w6 ⟨rfl, q6, rfl⟩
    have hW6 : Ext w5 (w5.drewN q6) := ext_drewN w5 q6
    have B6 : Below w.heap.size w (w5.drewN q6) := below_drewN B5 q6
    have P6 : (w5.drewN q6).heap[w.heap.size]? = _ := P5
    have T6 : (w5.drewN q6).heap[w4.heap.size]? = _ := T5
    have z6 : w4.heap.size < (w5.drewN q6).heap.size := hz5
    have HR6 : Hid (Ow (w5.drewN q6) (w4.heap.size + 1) v5 zs ∧ Ow (w5.drewN q6) w2.heap.size v3 zs) := ⟨HR5.out.ext hW6, HR35.out.ext hW6⟩
    have HS6 : Hid (ShpM w3.heap.size w4.heap.size (w5.drewN q6) (.agg #[.int .i64 M.kind, .int .i64 M.from_, .int .i64 M.to, .int .i64 M.term, .int .i64 M.prev, .int .i64 M.prevTerm, .slice (some ⟨g0, 0, none⟩) M.items.length M.items.length, .int .i64 M.commit, .bool M.yes]) M ∧ VMsg (w5.drewN q6) (.agg #[.int .i64 M.kind, .int .i64 M.from_, .int .i64 M.to, .int .i64 M.term, .int .i64 M.prev, .int .i64 M.prevTerm, .slice (some ⟨g0, 0, none⟩) M.items.length M.items.length, .int .i64 M.commit, .bool M.yes]) M) := ⟨(HS4.out.ext X5).ext hW6, (HV4.out.ext X5).ext hW6⟩
    clear P5 T5 X5 B5 hz5 HR5 HR35
    generalize w5.drewN q6 = W6 at hW6 B6 P6 T6 z6 HR6 HS6 ⊢
    clear hW6
    obtain ⟨q0, _⟩ := at_block P6 0 _ rfl
    obtain ⟨q1, _⟩ := at_block P6 1 _ rfl
    obtain ⟨q2, _⟩ := at_block P6 2 _ rfl
    obtain ⟨q3, _⟩ := at_block P6 3 _ rfl
    obtain ⟨q4, _⟩ := at_block P6 4 _ rfl
    obtain ⟨q5, _⟩ := at_block P6 5 _ rfl
    obtain ⟨q6, _⟩ := at_block P6 6 _ rfl
    obtain ⟨q7, _⟩ := at_block P6 7 _ rfl
    obtain ⟨q8, _⟩ := at_block P6 8 _ rfl
    obtain ⟨t0, _⟩ := at_block T6 0 _ rfl
    obtain ⟨t1, _⟩ := at_block T6 1 _ rfl
    obtain ⟨t2, _⟩ := at_block T6 2 _ rfl
    obtain ⟨t3, _⟩ := at_block T6 3 _ rfl
    obtain ⟨t4, _⟩ := at_block T6 4 _ rfl
    obtain ⟨t5, _⟩ := at_block T6 5 _ rfl
    obtain ⟨t6, _⟩ := at_block T6 6 _ rfl
    obtain ⟨t7, _⟩ := at_block T6 7 _ rfl
    obtain ⟨t8, _⟩ := at_block T6 8 _ rfl
    have S6 : (W6.cell? ⟨w4.heap.size, 0, none⟩ = some (.int .i64 M.kind) ∧ W6.cell? ⟨w4.heap.size, 1, none⟩ = some (.int .i64 M.from_) ∧ W6.cell? ⟨w4.heap.size, 2, none⟩ = some (.int .i64 M.to) ∧ W6.cell? ⟨w4.heap.size, 3, none⟩ = some (.int .i64 M.term) ∧ W6.cell? ⟨w4.heap.size, 4, none⟩ = some (.int .i64 M.prev) ∧ W6.cell? ⟨w4.heap.size, 5, none⟩ = some (.int .i64 M.prevTerm) ∧ W6.cell? ⟨w4.heap.size, 6, none⟩ = some (.slice (some ⟨g0, 0, none⟩) M.items.length M.items.length) ∧ W6.cell? ⟨w4.heap.size, 7, none⟩ = some (.int .i64 M.commit) ∧ W6.cell? ⟨w4.heap.size, 8, none⟩ = some (.bool M.yes)) ∧ (W6.cell? ⟨w.heap.size, 0, none⟩ = some (.int .i64 M.kind) ∧ W6.cell? ⟨w.heap.size, 1, none⟩ = some (.int .i64 M.from_) ∧ W6.cell? ⟨w.heap.size, 2, none⟩ = some (.int .i64 M.to) ∧ W6.cell? ⟨w.heap.size, 3, none⟩ = some (.int .i64 M.term) ∧ W6.cell? ⟨w.heap.size, 4, none⟩ = some (.int .i64 M.prev) ∧ W6.cell? ⟨w.heap.size, 5, none⟩ = some (.int .i64 M.prevTerm) ∧ W6.cell? ⟨w.heap.size, 6, none⟩ = some iv ∧ W6.cell? ⟨w.heap.size, 7, none⟩ = some (.int .i64 M.commit) ∧ W6.cell? ⟨w.heap.size, 8, none⟩ = some (.bool M.yes)) := ⟨⟨t0, t1, t2, t3, t4, t5, t6, t7, t8⟩, ⟨q0, q1, q2, q3, q4, q5, q6, q7, q8⟩⟩
    have HC6 : Hid _ := S6
    have X6 : Ext W6 W6.drew := ext_drewN W6 1
    clear S6
    go_wp2_with fail
    go_region_held3 (fun w' => w'.cell? ⟨w4.heap.size, 0, none⟩ = some (.int .i64 M.kind) ∧ w'.cell? ⟨w4.heap.size, 1, none⟩ = some (.int .i64 M.from_) ∧ w'.cell? ⟨w4.heap.size, 2, none⟩ = some (.int .i64 M.to) ∧ w'.cell? ⟨w4.heap.size, 3, none⟩ = some (.int .i64 M.term) ∧ w'.cell? ⟨w4.heap.size, 4, none⟩ = some (.int .i64 M.prev) ∧ w'.cell? ⟨w4.heap.size, 5, none⟩ = some (.int .i64 M.prevTerm) ∧ w'.cell? ⟨w4.heap.size, 6, none⟩ = some (.slice (some ⟨g0, 0, none⟩) M.items.length M.items.length) ∧ w'.cell? ⟨w4.heap.size, 7, none⟩ = some (.int .i64 M.commit) ∧ w'.cell? ⟨w4.heap.size, 8, none⟩ = some (.bool M.yes) ∧ w'.cell? ⟨w.heap.size, 0, none⟩ = some (.int .i64 M.kind) ∧ w'.cell? ⟨w.heap.size, 1, none⟩ = some (.int .i64 M.from_) ∧ w'.cell? ⟨w.heap.size, 2, none⟩ = some (.int .i64 M.to) ∧ w'.cell? ⟨w.heap.size, 3, none⟩ = some (.int .i64 M.term) ∧ w'.cell? ⟨w.heap.size, 4, none⟩ = some (.int .i64 M.prev) ∧ w'.cell? ⟨w.heap.size, 5, none⟩ = some (.int .i64 M.prevTerm) ∧ w'.cell? ⟨w.heap.size, 6, none⟩ = some iv ∧ w'.cell? ⟨w.heap.size, 7, none⟩ = some (.int .i64 M.commit) ∧ w'.cell? ⟨w.heap.size, 8, none⟩ = some (.bool M.yes)) (simp [*])
      (first | (go_at_call 24; refine (toM _ M _ ?_ HL.out).mono ?_; exact (h0.out.ext (ext_below B6)).ext X6; rintro e w7 ⟨v7, rfl, o7, b7⟩; obtain ⟨⟨a0, a1, a2, a3, a4, a5, a6, a7, a8⟩, ⟨c0, c1, c2, c3, c4, c5, c6, c7, c8⟩⟩ := keptM2 (w := W6.drew) HC6.out b7) | (go_at_call 26; refine (eqM _ _ M _ ?_ ?_ (HL.out.mono (by omega)) HL.out.1).mono ?_; exact (HS6.out.2.ext X6).ext (ext_below b7); exact o7; rintro e w8 ⟨rfl, b8⟩; obtain ⟨⟨a0', a1', a2', a3', a4', a5', a6', a7', a8'⟩, ⟨c0', c1', c2', c3', c4', c5', c6', c7', c8'⟩⟩ := keptM2 ⟨⟨a0, a1, a2, a3, a4, a5, a6, a7, a8⟩, ⟨c0, c1, c2, c3, c4, c5, c6, c7, c8⟩⟩ b8))
    have P8 : w8.heap[w.heap.size]? = _ := below_blk b8 (by have := b7.size; have : W6.heap.size ≤ w7.heap.size := this; omega) (below_blk b7 (show w.heap.size < W6.heap.size by omega) (show W6.drew.heap[w.heap.size]? = _ from P6))
    have T8 : w8.heap[w4.heap.size]? = _ := below_blk b8 (by have := b7.size; have : W6.heap.size ≤ w7.heap.size := this; omega) (below_blk b7 (show w4.heap.size < W6.heap.size by omega) (show W6.drew.heap[w4.heap.size]? = _ from T6))
    have X8 : Ext W6 w8 := (X6.tr (ext_below b7)).tr (ext_below b8)
    have B8 : Below w.heap.size w w8 := ((below_drewN B6 1).trans (b7.mono B6.size)).trans (b8.mono (Nat.le_trans B6.size b7.size))
    have z8 : w4.heap.size < w8.heap.size := (Array.getElem?_eq_some_iff.1 T8).1
    have HR8 : Hid (Ow w8 (w4.heap.size + 1) v5 zs ∧ Ow w8 w2.heap.size v3 zs) := ⟨HR6.out.1.ext X8, HR6.out.2.ext X8⟩
    have HS8 : Hid (ShpM w3.heap.size w4.heap.size w8 (.agg #[.int .i64 M.kind, .int .i64 M.from_, .int .i64 M.to, .int .i64 M.term, .int .i64 M.prev, .int .i64 M.prevTerm, .slice (some ⟨g0, 0, none⟩) M.items.length M.items.length, .int .i64 M.commit, .bool M.yes]) M) := HS6.out.1.ext X8
    clear b7 b8 X6 X8 P6 T6 HC6 HR6 HS6 B6 o7 a0 a1 a2 a3 a4 a5 a6 a7 a8 a0' a1' a2' a3' a4' a5' a6' a7' a8' c0 c1 c2 c3 c4 c5 c6 c7 c8 c0' c1' c2' c3' c4' c5' c6' c7' c8' q0 q1 q2 q3 q4 q5 q6 q7 q8 t0 t1 t2 t3 t4 t5 t6 t7 t8
    obtain ⟨t0, _⟩ := at_block T8 0 _ rfl
    obtain ⟨t1, _⟩ := at_block T8 1 _ rfl
    obtain ⟨t2, _⟩ := at_block T8 2 _ rfl
    obtain ⟨t3, _⟩ := at_block T8 3 _ rfl
    obtain ⟨t4, _⟩ := at_block T8 4 _ rfl
    obtain ⟨t5, _⟩ := at_block T8 5 _ rfl
    obtain ⟨t6, _⟩ := at_block T8 6 _ rfl
    obtain ⟨t7, _⟩ := at_block T8 7 _ rfl
    obtain ⟨t8, _⟩ := at_block T8 8 _ rfl
    go_wp2_with fail
    refine (markMM w3.heap.size w4.heap.size _ M w8 HS8.out (by omega) HL.out).mono ?_
    rintro e w9 ⟨k9, rfl, D9⟩
    have B9 : Below w.heap.size w w9 := Mid.below B8 B8.size (by omega) D9
    have P9 : w9.heap[w.heap.size]? = _ := D9.obj P8 (.inl (by omega))
    have z9 : w4.heap.size < w9.heap.size := by have := D9.size; omega
    have HR9 : Hid (Ow w9 (w4.heap.size + 1) v5 zs ∧ Ow w9 w2.heap.size v3 zs) := by
      refine ⟨HR8.out.1.same (fun k hk => ?_), HR8.out.2.same (fun k hk => ?_)⟩
      · have := HR8.out.1.lt k hk
        exact D9.out k this.2 (.inr (by omega))
      · have := HLT3.out k hk
        exact D9.out k (by omega) (.inl this.2)
    have hk9 : (0 : Int) ≤ (k9 : Int) := by omega
    clear P8 T8 D9 B8 HR8 HS8 z8 t0 t1 t2 t3 t4 t5 t6 t7 t8
    go_wp2_with fail
    refine (eqV_yes _ _ zs w9 (HR9.out.1.rv HZR.out) (HR9.out.2.rv HZR.out) (by omega)).mono ?_
    rintro e w10 ⟨rfl, q10, rfl⟩
    have B10 : Below w.heap.size w (w9.drewN q10) := below_drewN B9 q10
    have P10 : (w9.drewN q10).heap[w.heap.size]? = _ := P9
    have z10 : w4.heap.size < (w9.drewN q10).heap.size := z9
    have HR10 : Hid (Ow (w9.drewN q10) (w4.heap.size + 1) v5 zs ∧ Ow (w9.drewN q10) w2.heap.size v3 zs) := ⟨HR9.out.1.ext (ext_drewN _ _), HR9.out.2.ext (ext_drewN _ _)⟩
    clear B9 P9 z9 HR9
    generalize w9.drewN q10 = W10 at B10 P10 z10 HR10 ⊢
    go_wp2_with fail
    refine (markV (w4.heap.size + 1) v5 zs 1 W10 HR10.out.1 (by omega) (by omega) (by omega)).mono ?_
    rintro e w11 ⟨rfl, M11, G11⟩
    have B11 : Below w.heap.size w w11 := B10.grown G11 B10.size (fun k hk => by have := (HR10.out.1.lt k hk).1; omega)
    have P11 : w11.heap[w.heap.size]? = _ := (G11.block w.heap.size (by omega) (fun e => by have := (HR10.out.1.lt w.heap.size e.symm).1; omega)).trans P10
    have HR11 : Hid (Ow w11 (w4.heap.size + 1) v5 (marks 1 zs.length) ∧ Ow w11 w2.heap.size v3 zs) := ⟨M11, HR10.out.2.same (fun k hk => G11.block k (by have := HLT3.out k hk; omega) (fun e => by have h1 := (HR10.out.1.lt k e.symm).1; have h2 := HLT3.out k hk; omega))⟩
    have z11 : w4.heap.size < w11.heap.size := by have := G11.size; omega
    clear M11 G11 B10 P10 HR10 z10
    obtain ⟨L, hL⟩ : ∃ L, L = zs.length := ⟨_, rfl⟩
    have hL5 : L ≤ 1000 := by rw [hL]; exact hzl
    have HLL : Hid (L = zs.length) := hL
    have HZL : Hid (zs.length ≤ 1000) := hzl
    rw [← hL] at HR11 ⊢
    clear hL hzl
    go_wp2_with fail
    refine (heldV v5 L 1 w11 (HR11.out.1.rv (marks_rng _ _)) (by omega) (by omega) (by omega)).mono ?_
    rintro e w12 ⟨rfl, rfl⟩
    have hl0 : (0 : Int) ≤ 1 + (L : Int) := by omega
    clear z11
    obtain ⟨p0, _⟩ := at_block P11 0 _ rfl
    obtain ⟨p1, _⟩ := at_block P11 1 _ rfl
    obtain ⟨p2, _⟩ := at_block P11 2 _ rfl
    obtain ⟨p3, _⟩ := at_block P11 3 _ rfl
    obtain ⟨p4, _⟩ := at_block P11 4 _ rfl
    obtain ⟨p5, _⟩ := at_block P11 5 _ rfl
    obtain ⟨p6, _⟩ := at_block P11 6 _ rfl
    obtain ⟨p7, _⟩ := at_block P11 7 _ rfl
    obtain ⟨p8, _⟩ := at_block P11 8 _ rfl
    go_wp2_with fail
    refine (toM _ M w12 (h0.out.ext (ext_below B11)) HL.out).mono ?_
    rintro e w13 ⟨v13, rfl, o13, b13⟩
    have B13 := B11.trans (b13.mono B11.size)
    clear p0 p1 p2 p3 p4 p5 p6 p7 p8
    go_wp2_with fail
    refine (iMsgBytesP _ M w13 o13).mono ?_
    rintro e w14 ⟨v14, rfl, R14', R14, b14⟩
    rw [HZ.out] at R14
    rw [HB.out]
    clear R14'
    have B14 := B13.trans (b14.mono B13.size)
    have HR14 : Hid (Ow w14 (w4.heap.size + 1) v5 (marks 1 L) ∧ Ow w14 w2.heap.size v3 zs ∧ Ow w14 w13.heap.size v14 zs) := ⟨(HR11.out.1.ext (ext_below b13)).ext (ext_below b14), (HR11.out.2.ext (ext_below b13)).ext (ext_below b14), R14⟩
    clear o13 b13 b14 R14 HR11 P11
    go_wp2_with fail
    refine (eqV_yes _ _ zs w14 (HR14.out.2.2.rv HZR.out) (HR14.out.2.1.rv HZR.out) (by have := HZL.out; omega)).mono ?_
    rintro e w15 ⟨rfl, q15, rfl⟩
    have HR15 : Hid (Ow (w14.drewN q15) (w4.heap.size + 1) v5 (marks 1 L)) := HR14.out.1.ext (ext_drewN _ _)
    have B15 : Below w.heap.size w (w14.drewN q15) := below_drewN B14 q15
    clear HR14 B14
    generalize w14.drewN q15 = W15 at HR15 B15 ⊢
    go_wp2_with fail
    refine (heldV v5 L 1 W15 (HR15.out.rv (marks_rng _ _)) (by omega) (by omega) (by omega)).mono ?_
    rintro e w16 ⟨rfl, rfl⟩
    go_wp2
    go_ret
    exact ⟨rfl, B15⟩

end Go.Proofs.Ytplgnohncdfgcal

namespace Go.Proofs.Ytplgnohncdfgcal
open Go.ChangeShapes Go.WideShapes Go.ChangeAt Go.RowKit Go.Joins

section
variable {H : Type} {enc : TypeId × Value → H} {W : World} {fuel : Nat} {v : Value} {y : DataW H × List MemPlace}

theorem rv_of_trod (h : DataW.trod enc Try.prog W 0 (fun _ => true) true fuel 44 [v] = some y) : ∃ xs, RV W v xs ∧ ∀ x ∈ xs, 0 ≤ x ∧ x ≤ 255 := by
  rcases open_ints Try.underlying44 Try.underlying5 (by kernel_rfl) h with ⟨hcs, _⟩ | ⟨x, len, cap, zs, hcs, _, hl, hm, hz, _, hcell, hwz⟩
  · simp only [List.cons.injEq, and_true] at hcs
    subst hcs
    exact ⟨[], ⟨none, 0, rfl, Rd.nil _ _, Nat.le_refl _, Nat.zero_le _⟩, fun x hx => by cases hx⟩
  · simp only [List.cons.injEq, and_true] at hcs
    subst hcs
    have hz' : zs.length = cap := by simpa using hz
    have hln : (zs.take len).length = len := by simp; omega
    have hrng : ∀ n ∈ zs.take len, 0 ≤ n ∧ n ≤ 255 := fun n hn => by
      have := hwz n (List.mem_of_mem_take hn)
      simp [Lit.wf, IntKind.min, IntKind.max, IntKind.signed, IntKind.bits] at this
      omega
    refine ⟨zs.take len, ⟨some x, cap, by rw [hln], ⟨rfl, fun i hi => ?_, hrng⟩, by omega, hm⟩, hrng⟩
    rw [hln] at hi
    obtain ⟨b, off, spot⟩ := x
    have hspot : spot = none := by simpa [Addr.add] using World.cell?_spot (hcell 0 (by omega))
    subst hspot
    have hc := hcell i (by omega)
    refine ⟨b, off, rfl, ?_⟩
    rw [Addr.add_lit] at hc
    rw [hc]
    simp [List.getD, hi]

theorem int_of_trod (h : DataW.trod enc Try.prog W 0 (fun _ => true) true fuel 3 [v] = some y) : ∃ q : Int, v = .int .i64 q ∧ -9223372036854775808 ≤ q ∧ q ≤ 9223372036854775807 := by
  obtain ⟨q, e0, rfl, wa⟩ := DataW.trod_int Try.underlying3 h
  simp only [List.cons.injEq, and_true] at e0
  subst e0
  simp [Lit.wf, IntKind.min, IntKind.max, IntKind.signed, IntKind.bits] at wa
  exact ⟨q, rfl, by omega, by omega⟩
end

theorem array6 {cs : Array Value} (h : cs.size = 6) : ∃ a b c d e f, cs = #[a, b, c, d, e, f] := by
  obtain ⟨l⟩ := cs
  match l, h with
  | [a, b, c, d, e, f], _ => exact ⟨a, b, c, d, e, f, rfl⟩

end Go.Proofs.Ytplgnohncdfgcal

namespace Go.Proofs.Ytplgnohncdfgcal
open Go.ChangeShapes Go.WideShapes Go.ChangeAt Go.RowKit Go.Joins

def intOp (d : DOp) : Prop := (-9223372036854775808 ≤ d.kind ∧ d.kind ≤ 9223372036854775807) ∧ (-9223372036854775808 ≤ d.n ∧ d.n ≤ 9223372036854775807)

set_option maxRecDepth 100000 in
theorem open_Op {H : Type} {enc : TypeId × Value → H} {W : World} {r : Reach} {b0 : Nat} {v : Value} {d : DataW H} {p : List MemPlace}
    (hv : Value.okWide Try.prog W r b0 46 v) (h : DataW.Trod enc Try.prog W 0 (fun _ => true) true 46 v d p) : ∃ D, VOp W v D ∧ rngOp D ∧ intOp D := by
  obtain ⟨c0, c1, c2, c3, y0, y1, y2, y3, n, rfl, rfl, rfl, h0, h1, h2, h3⟩ := open_agg4 Try.underlying46 (by kernel_rfl) (by kernel_rfl) hv h
  obtain ⟨k, rfl, k1, k2⟩ := int_of_trod h0
  obtain ⟨ky, rk, hk⟩ := rv_of_trod h1
  obtain ⟨vl, rv, hvl⟩ := rv_of_trod h2
  obtain ⟨q, rfl, q1, q2⟩ := int_of_trod h3
  exact ⟨⟨k, ky, vl, q⟩, ⟨c1, c2, rfl, rk, rv⟩, ⟨hk, hvl⟩, ⟨k1, k2⟩, ⟨q1, q2⟩⟩

set_option maxRecDepth 100000 in
theorem open_Cmd {H : Type} {enc : TypeId × Value → H} {W : World} {r : Reach} {b0 : Nat} {v : Value} {d : DataW H} {p : List MemPlace}
    (hv : Value.okWide Try.prog W r b0 48 v) (h : DataW.Trod enc Try.prog W 0 (fun _ => true) true 48 v d p) : ∃ D, VCmd W v D ∧ rngOp D.op ∧ intOp D.op ∧ (-9223372036854775808 ≤ D.client ∧ D.client ≤ 9223372036854775807) ∧ (-9223372036854775808 ≤ D.req ∧ D.req ≤ 9223372036854775807) := by
  obtain ⟨cs, rfl, hsz⟩ := okWide_struct Try.underlying48 hv
  have h6 : Try.prog.cellsOf 48 = 6 := by kernel_rfl
  obtain ⟨c0, c1, c2, c3, c4, c5, rfl⟩ := array6 (hsz.trans h6)
  obtain ⟨fuel, hf⟩ := h
  obtain ⟨xs, n, _, _, _, hxl, hx⟩ := DataW.trod_struct Try.underlying48 hf
  match xs, hxl with
  | [y0, y1, y2], _ =>
    have h0 : DataW.trod enc Try.prog W 0 (fun _ => true) true n 3 [c0] = some y0 := hx 0 _ rfl
    have h1 : DataW.trod enc Try.prog W 0 (fun _ => true) true n 3 [c1] = some y1 := hx 1 _ rfl
    have h2 : DataW.trod enc Try.prog W 0 (fun _ => true) true n 46 [c2, c3, c4, c5] = some y2 := hx 2 _ rfl
    obtain ⟨zs, m, _, _, _, hzl, hz⟩ := DataW.trod_struct Try.underlying46 h2
    match zs, hzl with
    | [z0, z1, z2, z3], _ =>
      have g0 : DataW.trod enc Try.prog W 0 (fun _ => true) true m 3 [c2] = some z0 := hz 0 _ rfl
      have g1 : DataW.trod enc Try.prog W 0 (fun _ => true) true m 44 [c3] = some z1 := hz 1 _ rfl
      have g2 : DataW.trod enc Try.prog W 0 (fun _ => true) true m 44 [c4] = some z2 := hz 2 _ rfl
      have g3 : DataW.trod enc Try.prog W 0 (fun _ => true) true m 3 [c5] = some z3 := hz 3 _ rfl
      obtain ⟨cl, rfl, a1, a2⟩ := int_of_trod h0
      obtain ⟨rq, rfl, b1, b2⟩ := int_of_trod h1
      obtain ⟨k, rfl, k1, k2⟩ := int_of_trod g0
      obtain ⟨ky, rk, hk⟩ := rv_of_trod g1
      obtain ⟨vl, rv, hvl⟩ := rv_of_trod g2
      obtain ⟨q, rfl, q1, q2⟩ := int_of_trod g3
      exact ⟨⟨cl, rq, ⟨k, ky, vl, q⟩⟩, ⟨c3, c4, rfl, rk, rv⟩, ⟨hk, hvl⟩, ⟨⟨k1, k2⟩, ⟨q1, q2⟩⟩, ⟨a1, a2⟩, ⟨b1, b2⟩⟩

end Go.Proofs.Ytplgnohncdfgcal

namespace Go.Proofs.Ytplgnohncdfgcal
open Go.ChangeShapes Go.WideShapes Go.ChangeAt Go.RowKit Go.Joins

theorem array7 {cs : Array Value} (h : cs.size = 7) : ∃ a b c d e f g, cs = #[a, b, c, d, e, f, g] := by
  obtain ⟨l⟩ := cs
  match l, h with
  | [a, b, c, d, e, f, g], _ => exact ⟨a, b, c, d, e, f, g, rfl⟩

/-- What an item's numbers are bounded by. -/
def intItem (d : DItem) : Prop := intOp d.cmd.op ∧ (-9223372036854775808 ≤ d.cmd.client ∧ d.cmd.client ≤ 9223372036854775807) ∧ (-9223372036854775808 ≤ d.cmd.req ∧ d.cmd.req ≤ 9223372036854775807) ∧ (-9223372036854775808 ≤ d.term ∧ d.term ≤ 9223372036854775807)

section
variable {H : Type} {enc : TypeId × Value → H} {W : World} {fuel : Nat} {y : DataW H × List MemPlace}

set_option maxRecDepth 100000 in
/-- Seven cells that were trodden as an item read as one. -/
theorem item_of_trod {c0 c1 c2 c3 c4 c5 c6 : Value} (hf : DataW.trod enc Try.prog W 0 (fun _ => true) true fuel 50 [c0, c1, c2, c3, c4, c5, c6] = some y) : ∃ D, VItem W (.agg #[c0, c1, c2, c3, c4, c5, c6]) D ∧ rngOp D.cmd.op ∧ intItem D := by
  obtain ⟨xs, n, _, _, _, hxl, hx⟩ := DataW.trod_struct Try.underlying50 hf
  match xs, hxl with
  | [y0, y1], _ =>
    have h0 : DataW.trod enc Try.prog W 0 (fun _ => true) true n 3 [c0] = some y0 := hx 0 _ rfl
    have hC : DataW.trod enc Try.prog W 0 (fun _ => true) true n 48 [c1, c2, c3, c4, c5, c6] = some y1 := hx 1 _ rfl
    obtain ⟨us, n', _, _, _, hul, hu⟩ := DataW.trod_struct Try.underlying48 hC
    match us, hul with
    | [u0, u1, u2], _ =>
      have e0 : DataW.trod enc Try.prog W 0 (fun _ => true) true n' 3 [c1] = some u0 := hu 0 _ rfl
      have e1 : DataW.trod enc Try.prog W 0 (fun _ => true) true n' 3 [c2] = some u1 := hu 1 _ rfl
      have e2 : DataW.trod enc Try.prog W 0 (fun _ => true) true n' 46 [c3, c4, c5, c6] = some u2 := hu 2 _ rfl
      obtain ⟨zs, m, _, _, _, hzl, hz⟩ := DataW.trod_struct Try.underlying46 e2
      match zs, hzl with
      | [z0, z1, z2, z3], _ =>
        have g0 : DataW.trod enc Try.prog W 0 (fun _ => true) true m 3 [c3] = some z0 := hz 0 _ rfl
        have g1 : DataW.trod enc Try.prog W 0 (fun _ => true) true m 44 [c4] = some z1 := hz 1 _ rfl
        have g2 : DataW.trod enc Try.prog W 0 (fun _ => true) true m 44 [c5] = some z2 := hz 2 _ rfl
        have g3 : DataW.trod enc Try.prog W 0 (fun _ => true) true m 3 [c6] = some z3 := hz 3 _ rfl
        obtain ⟨tm, rfl, t1, t2⟩ := int_of_trod h0
        obtain ⟨cl, rfl, a1, a2⟩ := int_of_trod e0
        obtain ⟨rq, rfl, b1, b2⟩ := int_of_trod e1
        obtain ⟨k, rfl, k1, k2⟩ := int_of_trod g0
        obtain ⟨ky, rk, hk⟩ := rv_of_trod g1
        obtain ⟨vl, rv, hvl⟩ := rv_of_trod g2
        obtain ⟨q, rfl, q1, q2⟩ := int_of_trod g3
        exact ⟨⟨tm, ⟨cl, rq, ⟨k, ky, vl, q⟩⟩⟩, ⟨c4, c5, rfl, rk, rv⟩, ⟨hk, hvl⟩, ⟨⟨⟨k1, k2⟩, ⟨q1, q2⟩⟩, ⟨a1, a2⟩, ⟨b1, b2⟩, ⟨t1, t2⟩⟩⟩
end

set_option maxRecDepth 100000 in
theorem open_Item {H : Type} {enc : TypeId × Value → H} {W : World} {r : Reach} {b0 : Nat} {v : Value} {d : DataW H} {p : List MemPlace}
    (hv : Value.okWide Try.prog W r b0 50 v) (h : DataW.Trod enc Try.prog W 0 (fun _ => true) true 50 v d p) : ∃ D, VItem W v D ∧ rngOp D.cmd.op ∧ intItem D := by
  obtain ⟨cs, rfl, hsz⟩ := okWide_struct Try.underlying50 hv
  have h7 : Try.prog.cellsOf 50 = 7 := by kernel_rfl
  obtain ⟨c0, c1, c2, c3, c4, c5, c6, rfl⟩ := array7 (hsz.trans h7)
  obtain ⟨fuel, hf⟩ := h
  exact item_of_trod hf

end Go.Proofs.Ytplgnohncdfgcal

namespace Go.Proofs.Ytplgnohncdfgcal
open Go.ChangeShapes Go.WideShapes Go.ChangeAt Go.RowKit Go.Joins

theorem list_of {α : Type} {p : Nat → α → Prop} : ∀ n : Nat, (∀ i, i < n → ∃ x, p i x) → ∃ rs : List α, rs.length = n ∧ ∀ (i : Nat) (r : α), rs[i]? = some r → p i r
  | 0, _ => ⟨[], rfl, fun i r h => by simp at h⟩
  | n + 1, h => by
    obtain ⟨rs, hl, hr⟩ := list_of n (fun i hi => h i (by omega))
    obtain ⟨x, hx⟩ := h n (by omega)
    refine ⟨rs ++ [x], by simp [hl], fun i r hi => ?_⟩
    by_cases e : i < n
    · rw [List.getElem?_append_left (by omega)] at hi
      exact hr i r hi
    · rw [List.getElem?_append_right (by omega)] at hi
      have e2 : i - rs.length = 0 := by
        have := (List.getElem?_eq_some_iff.1 hi).1
        simp at this
        omega
      rw [e2] at hi
      simp at hi
      obtain rfl : i = n := by omega
      rw [← hi]
      exact hx

section
variable {H : Type} {enc : TypeId × Value → H} {W : World} {fuel : Nat} {v : Value} {y : DataW H × List MemPlace}

set_option maxRecDepth 100000 in
/-- A slice of whatever structs: its cells, element by element. -/
theorem sl_of_trod {t e : TypeId} {k : Nat} (ht : Try.prog.underlying t = some (.slice e)) (hc : Try.prog.cellsOf e = k) (hk : 0 < k)
    (h : DataW.trod enc Try.prog W 0 (fun _ => true) true fuel t [v] = some y) :
    ∃ (n : Nat) (C : Nat → Nat → Value), SL W k v n C ∧ ∃ (m : Nat) (D : Nat → DataW H × List MemPlace), ∀ i, i < n → DataW.trod enc Try.prog W 0 (fun _ => true) true m e ((List.range k).map (C i)) = some (D i) := by
  rcases Go.Deep.open_slice ht h with ⟨hcs, _⟩ | ⟨a, len, cap, m, n, D, Pl, hcs, _, hl, hm, hmm, _, hx⟩
  · simp only [List.cons.injEq, and_true] at hcs
    subst hcs
    exact ⟨0, fun _ _ => .int .i64 0, ⟨none, 0, rfl, Nat.le_refl _, Nat.zero_le _, fun h => absurd h (by omega)⟩, 0, fun _ => y, fun i hi => absurd hi (by omega)⟩
  · simp only [List.cons.injEq, and_true] at hcs
    subst hcs
    rw [hc] at hx
    have hmm' : m = cap := by rw [hmm]; simp
    subst hmm'
    have hex : ∀ i, i < len → ∃ cs' : List Value, W.cells? 0 (a.add (i * k)) k = some cs' ∧ DataW.trod enc Try.prog W 0 (fun _ => true) true n e cs' = some (D i, Pl i) := fun i hi => hx i (by omega)
    obtain ⟨cs, hcsl, hcs⟩ := list_of len hex
    have hget : ∀ i, i < len → ∃ c, cs[i]? = some c := fun i hi => ⟨_, List.getElem?_eq_getElem (by omega)⟩
    refine ⟨len, fun i j => ((cs.getD i []).getD j (.int .i64 0)), ⟨some a, m, rfl, hl, hm, fun hpos => ?_⟩, n, fun i => (D i, Pl i), fun i hi => ?_⟩
    · obtain ⟨c, hcc⟩ := hget 0 hpos
      obtain ⟨h1, _⟩ := hcs 0 c hcc
      obtain ⟨_, hln, hce⟩ := World.cells?_some h1
      obtain ⟨b, off, spot⟩ := a
      have hc0 := hce 0 hk
      have hsome : W.cell? ((Addr.add ⟨b, off, spot⟩ (0 * k)).add 0) = some (c[0]'(by omega)) := by rw [hc0, List.getElem?_eq_getElem (by omega)]
      have hspot : spot = none := by simpa [Addr.add] using World.cell?_spot hsome
      subst hspot
      have hbl := World.block_lt_of_cell? W _ hsome
      rw [Addr.add_lit, Addr.add_lit] at hbl
      refine ⟨b, off, rfl, hbl, fun i hi j hj => ?_⟩
      obtain ⟨c', hcc'⟩ := hget i hi
      obtain ⟨h1', _⟩ := hcs i c' hcc'
      obtain ⟨_, hln', hce'⟩ := World.cells?_some h1'
      have := hce' j hj
      rw [Addr.add_lit, Addr.add_lit] at this
      rw [this, List.getElem?_eq_getElem (by omega)]
      simp [List.getD, hcc', List.getElem?_eq_getElem (show j < c'.length by omega)]
    · obtain ⟨c', hcc'⟩ := hget i hi
      obtain ⟨h1', h2'⟩ := hcs i c' hcc'
      obtain ⟨_, hln', _⟩ := World.cells?_some h1'
      have hce : (List.range k).map (fun j => ((cs.getD i []).getD j (.int .i64 0))) = c' := by
        apply List.ext_getElem?
        intro j
        by_cases hj : j < k
        · simp [List.getD, hcc', hj, List.getElem?_eq_getElem (show j < c'.length by omega)]
        · simp [hj, hln']
      rw [hce]
      exact h2'

theorem bool_of_trod (h : DataW.trod enc Try.prog W 0 (fun _ => true) true fuel 4 [v] = some y) : ∃ b, v = .bool b := by
  obtain ⟨b, e0, _⟩ := DataW.trod_bool Try.underlying4 h
  simp only [List.cons.injEq, and_true] at e0
  exact ⟨b, e0⟩
end

end Go.Proofs.Ytplgnohncdfgcal

namespace Go.Proofs.Ytplgnohncdfgcal
open Go.ChangeShapes Go.WideShapes Go.ChangeAt Go.RowKit Go.Joins

section
variable {H : Type} {enc : TypeId × Value → H} {W : World} {fuel : Nat} {v : Value} {y : DataW H × List MemPlace}

set_option maxRecDepth 100000 in
theorem items_of_trod (h : DataW.trod enc Try.prog W 0 (fun _ => true) true fuel 61 [v] = some y) : ∃ rs, VItems W v rs := by
  obtain ⟨n, C, hS, m, D, hD⟩ := sl_of_trod (k := 7) Try.underlying61 (by kernel_rfl) (by omega) h
  obtain ⟨rs, hl, hr⟩ := list_of (p := fun i (d : DItem) => C i 0 = .int .i64 d.term ∧ C i 1 = .int .i64 d.cmd.client ∧ C i 2 = .int .i64 d.cmd.req ∧ C i 3 = .int .i64 d.cmd.op.kind ∧ RV W (C i 4) d.cmd.op.key ∧ RV W (C i 5) d.cmd.op.val ∧ C i 6 = .int .i64 d.cmd.op.n) n (fun i hi => by
    have hf : DataW.trod enc Try.prog W 0 (fun _ => true) true m 50 [C i 0, C i 1, C i 2, C i 3, C i 4, C i 5, C i 6] = some (D i) := hD i hi
    obtain ⟨d, ⟨kv, vv, e, rk, rv⟩, _, _⟩ := item_of_trod hf
    simp only [Value.agg.injEq, Array.mk.injEq, List.cons.injEq, and_true] at e
    obtain ⟨e0, e1, e2, e3, e4, e5, e6⟩ := e
    exact ⟨d, e0, e1, e2, e3, by rw [e4]; exact rk, by rw [e5]; exact rv, e6⟩)
  exact ⟨rs, C, by rw [hl]; exact hS, hr⟩
end

end Go.Proofs.Ytplgnohncdfgcal

namespace Go.Proofs.Ytplgnohncdfgcal
open Go.ChangeShapes Go.WideShapes Go.ChangeAt Go.RowKit Go.Joins

theorem array9 {cs : Array Value} (h : cs.size = 9) : ∃ a b c d e f g i j, cs = #[a, b, c, d, e, f, g, i, j] := by
  obtain ⟨l⟩ := cs
  match l, h with
  | [a, b, c, d, e, f, g, i, j], _ => exact ⟨a, b, c, d, e, f, g, i, j, rfl⟩

set_option maxRecDepth 100000 in
theorem open_Msg {H : Type} {enc : TypeId × Value → H} {W : World} {r : Reach} {b0 : Nat} {v : Value} {d : DataW H} {p : List MemPlace}
    (hv : Value.okWide Try.prog W r b0 63 v) (h : DataW.Trod enc Try.prog W 0 (fun _ => true) true 63 v d p) : ∃ M, VMsg W v M ∧ True ∧ (-9223372036854775808 ≤ M.term ∧ M.term ≤ 9223372036854775807) := by
  obtain ⟨cs, rfl, hsz⟩ := okWide_struct Try.underlying63 hv
  have h9 : Try.prog.cellsOf 63 = 9 := by kernel_rfl
  obtain ⟨c0, c1, c2, c3, c4, c5, c6, c7, c8, rfl⟩ := array9 (hsz.trans h9)
  obtain ⟨fuel, hf⟩ := h
  obtain ⟨xs, n, _, _, _, hxl, hx⟩ := DataW.trod_struct Try.underlying63 hf
  match xs, hxl with
  | [y0, y1, y2, y3, y4, y5, y6, y7, y8], _ =>
    have h0 : DataW.trod enc Try.prog W 0 (fun _ => true) true n 3 [c0] = some y0 := hx 0 _ rfl
    have h1 : DataW.trod enc Try.prog W 0 (fun _ => true) true n 3 [c1] = some y1 := hx 1 _ rfl
    have h2 : DataW.trod enc Try.prog W 0 (fun _ => true) true n 3 [c2] = some y2 := hx 2 _ rfl
    have h3 : DataW.trod enc Try.prog W 0 (fun _ => true) true n 3 [c3] = some y3 := hx 3 _ rfl
    have h4 : DataW.trod enc Try.prog W 0 (fun _ => true) true n 3 [c4] = some y4 := hx 4 _ rfl
    have h5 : DataW.trod enc Try.prog W 0 (fun _ => true) true n 3 [c5] = some y5 := hx 5 _ rfl
    have h6 : DataW.trod enc Try.prog W 0 (fun _ => true) true n 61 [c6] = some y6 := hx 6 _ rfl
    have h7 : DataW.trod enc Try.prog W 0 (fun _ => true) true n 3 [c7] = some y7 := hx 7 _ rfl
    have h8 : DataW.trod enc Try.prog W 0 (fun _ => true) true n 4 [c8] = some y8 := hx 8 _ rfl
    obtain ⟨q0, rfl, _, _⟩ := int_of_trod h0
    obtain ⟨q1, rfl, _, _⟩ := int_of_trod h1
    obtain ⟨q2, rfl, _, _⟩ := int_of_trod h2
    obtain ⟨q3, rfl, a1, a2⟩ := int_of_trod h3
    obtain ⟨q4, rfl, _, _⟩ := int_of_trod h4
    obtain ⟨q5, rfl, _, _⟩ := int_of_trod h5
    obtain ⟨rs, v6⟩ := items_of_trod h6
    obtain ⟨q7, rfl, _, _⟩ := int_of_trod h7
    obtain ⟨q8, rfl⟩ := bool_of_trod h8
    exact ⟨⟨q0, q1, q2, q3, q4, q5, rs, q7, q8⟩, ⟨c6, rfl, v6⟩, trivial, a1, a2⟩

end Go.Proofs.Ytplgnohncdfgcal

namespace Go.Proofs.Ytplgnohncdfgcal
open Go.ChangeShapes Go.WideShapes Go.ChangeAt Go.RowKit

theorem own : ownKnob Try.prog.godebug = none := by kernel_rfl
theorem laidOut : laidOutB Try.prog = true := by kernel_rfl

set_option maxRecDepth 100000 in
theorem lifted (os : Os) (started : os.Started) (H : Type) (enc : TypeId × Value → H) :
    ReturnsInHanded {} Try.checked os 6 .any (Rows.fnExactMsgBytesSpec.pre6 enc Try.prog Try.f6 Rows.fnExactMsgBytesRow.domain false) (Rows.fnExactMsgBytesSpec.post enc Try.prog Try.f6 false true false false) := by
  refine returnsInHanded_of_change (C := Try.checked) own started (by kernel_rfl) Try.func6
    (ChangeSpec.witness6 (enc := enc) (C := Try.checked) false ⟨#[], #[.agg #[.int .i64 0, .int .i64 0, .int .i64 0, .int .i64 0, .int .i64 0, .int .i64 0, .slice none 0 0, .int .i64 0, .bool false]], []⟩ 8 (by kernel_rfl) (by kernel_rfl) (by kernel_rfl) (by kernel_rfl)) ?_
  intro W base args ds gs before hval0 hW hcnd _
  have hval : ∀ (j : Nat) t v, Try.f6.params[j]? = some t → args[j]? = some v → Value.okWide Try.prog W .any base t v := hval0
  have hW' := hW
  obtain ⟨p, q, hA0, hV, rfl, hfz, hnd⟩ := hW
  have hA : DataW.TrodAll enc Try.prog W 0 (fun _ => true) true Try.f6.params.toList args.toList ds p := hA0
  rw [Try.params6] at hA hval
  obtain ⟨v0, vs0, d0, ds0, p0, q0, hargs, rfl, rfl, h0, r0⟩ := trodAll_cons hA
  obtain ⟨rfl, rfl, rfl⟩ := trodAll_nil r0
  obtain rfl : args = #[v0] := by cases args; simp_all
  obtain ⟨rfl, rfl⟩ := trodVars_none hV
  have k0 := h0
  have lt0 : ∀ x ∈ p0, x.block < W.heap.size := by obtain ⟨m, hm⟩ := k0; exact DataW.trod_lt m _ _ _ hm
  obtain ⟨D0, w0⟩ := open_Msg (hval 0 63 v0 rfl rfl) h0
  clear hA0 hval0
  refine (law_MsgBytes v0 D0 W w0.1 w0.2.1 w0.2.2).mono fun e W' ⟨he, bel⟩ => ?_
  subst he
  exact ⟨_, rfl, _, _, _, [], _, [], hW', trodAll_mk1 (shut_bool Try.underlying4 _), (trodAll_cons_mk (Below.trod laidOut (by kernel_rfl) (of_decide_eq_true (by kernel_rfl)) k0 bel lt0) trodAll_mk0), rfl, bel.frame _, fun h => by cases h⟩

theorem over : Rows.fnExactMsgBytesRow.holds Try.pinned (OpenSpec.ofChange Rows.fnExactMsgBytesSpec) :=
  OpenClaim.holds_of_wide 6 Try.f6 rfl rfl rfl rfl rfl rfl rfl ⟨rfl, rfl, rfl, rfl, rfl⟩ rfl rfl rfl rfl rfl (by kernel_rfl) Try.func6 (by kernel_rfl)
    (of_decide_eq_true (by kernel_rfl)) (by unfold Func.isWrapper; first | (rw [if_pos (by decide +kernel)]; kernel_rfl) | (rw [if_neg (by decide +kernel)]; exact ⟨rfl, rfl⟩))
    (fun os started H enc _ => lifted os started H enc)

theorem proved : Rows.FnExactMsgBytesSaid := over
#print axioms proved
end Go.Proofs.Ytplgnohncdfgcal

