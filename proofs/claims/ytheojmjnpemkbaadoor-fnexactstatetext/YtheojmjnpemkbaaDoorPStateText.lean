/- For every state, the program's StateText answers as the specification's, writes into no argument, and its answer owns its memory, behind another call too; the library's tables stand as their text lays them. -/
import Derived.Test.YtheojmjnpemkbaaDoorSSt
import Derived.Test.YtheojmjnpemkbaaDoorTo0
import Derived.Test.YtheojmjnpemkbaaDoorSz0
import Derived.Deep.RegionHeld3
import Derived.Test.YtheojmjnpemkbaaDoorToS
import Derived.Test.YtheojmjnpemkbaaDoorToL
import Derived.Test.YtheojmjnpemkbaaDoorToR
import Derived.Test.YtheojmjnpemkbaaDoorToT
import Derived.Test.YtheojmjnpemkbaaDoorEqL
import Derived.Test.YtheojmjnpemkbaaDoorEqR
import Derived.Test.YtheojmjnpemkbaaDoorEqT
import Derived.Test.YtheojmjnpemkbaaDoorSz
import Derived.Test.YtheojmjnpemkbaaDoorSq8
import Derived.Test.YtheojmjnpemkbaaDoorSb8
import Derived.Test.YtheojmjnpemkbaaDoorInf
import Derived.Test.YtheojmjnpemkbaaDoorOm
import Derived.Test.YtheojmjnpemkbaaDoorVal0
import Derived.ProofKit
import Derived.OpenShut
import Derived.Lib.SmallJoins
import Derived.Test.YtheojmjnpemkbaaDoorSt0
import Derived.Deep.Slices
import Derived.Test.YtheojmjnpemkbaaDoorVal
import Derived.Lib.LaidTab
import Derived.FnData
import Derived.Test.YtheojmjnpemkbaaDoorCards
import Derived.Test.YtheojmjnpemkbaaDoorTie
import Derived.ChangeOld
import Derived.Carry
import Derived.OpenVars
import Derived.Deep.DeepHandedRow
import Derived.SevenTiedAt
namespace Go.Proofs.YtheojmjnpemkbaaDoor
open Go.RowKit

set_option maxHeartbeats 4000000 in
set_option maxRecDepth 100000 in
theorem sStateB (S : DState) (w : World) (rv tv sv lv : Value) (hr : VRows w rv S.rows) (ht : VTombs w tv S.tombs) (hs : VSess w sv S.sess) (hl : VLasts w lv S.lasts)
    (hbad : ¬ ((0 ≤ S.index ∧ S.index ≤ 1000000) ∧ (0 ≤ S.lost ∧ S.lost ≤ S.index) ∧ S.rows.length ≤ 20 ∧ S.tombs.length ≤ 10 ∧ S.sess.length ≤ 8 ∧ S.lasts.length ≤ 4)) :
    Calls Tryd.prog 17 #[.agg #[.int .i64 S.index, rv, tv, .int .i64 S.lost, sv, lv]] w fun e w' => e = .returned (.bool false) ∧ Below w.heap.size w w' := by
  have hB : ∀ w : World, ∀ o, Below w.heap.size w (w.alloc o) := fun w o => (Below.refl _ w).alloc (Nat.le_refl _) _
  obtain ⟨idx, rows, tombs, lost, sess, lasts⟩ := S
  simp only at hr ht hs hl hbad ⊢
  obtain ⟨_, ⟨a, cap, rfl, _, _, _⟩, _⟩ := hr
  obtain ⟨_, ⟨a1, capt, rfl, _, _, _⟩, _⟩ := ht
  obtain ⟨_, ⟨a2, caps, rfl, _, _, _⟩, _⟩ := hs
  obtain ⟨_, ⟨a3, capl, rfl, _, _, _⟩, _⟩ := hl
  generalize rows.length = n at hbad ⊢
  generalize tombs.length = m at hbad ⊢
  generalize sess.length = p at hbad ⊢
  generalize lasts.length = q at hbad ⊢
  have HBAD : Hid (¬ ((0 ≤ idx ∧ idx ≤ 1000000) ∧ (0 ≤ lost ∧ lost ≤ idx) ∧ n ≤ 20 ∧ m ≤ 10 ∧ p ≤ 8 ∧ q ≤ 4)) := hbad
  clear hbad
  cases e7 : (decide (0 ≤ idx) && decide (idx ≤ 1000000))
  · clear HBAD
    go_enter Tryd.func17, Tryd.ntmps17
    go_wp2_with (go_at_call 38; refine (l2indexV _ _).mono ?_; rintro e w1 ⟨rfl, rfl⟩; rw [e7])
    go_ret
    exact ⟨rfl, hB _ _⟩
  have HI : Hid (0 ≤ idx ∧ idx ≤ 1000000) := by
    have : decide (0 ≤ idx) = true ∧ decide (idx ≤ 1000000) = true := by simpa using e7
    exact ⟨of_decide_eq_true this.1, of_decide_eq_true this.2⟩
  cases e1 : decide ((20 : Int) < (n : Int))
  case true =>
    clear HBAD
    go_enter Tryd.func17, Tryd.ntmps17
    go_wp2_with (go_at_call 38; refine (l2indexV _ _).mono ?_; rintro e w1 ⟨rfl, rfl⟩; rw [e7])
    go_ret
    exact ⟨rfl, hB _ _⟩
  cases e2 : decide ((10 : Int) < (m : Int))
  case true =>
    clear HBAD
    go_enter Tryd.func17, Tryd.ntmps17
    go_wp2_with (go_at_call 38; refine (l2indexV _ _).mono ?_; rintro e w1 ⟨rfl, rfl⟩; rw [e7])
    go_ret
    exact ⟨rfl, hB _ _⟩
  cases e5 : decide (lost < 0)
  case true =>
    clear HBAD
    go_enter Tryd.func17, Tryd.ntmps17
    go_wp2_with (go_at_call 38; refine (l2indexV _ _).mono ?_; rintro e w1 ⟨rfl, rfl⟩; rw [e7])
    go_ret
    exact ⟨rfl, hB _ _⟩
  cases e6 : decide (idx < lost)
  case true =>
    clear HBAD
    go_enter Tryd.func17, Tryd.ntmps17
    go_wp2_with (go_at_call 38; refine (l2indexV _ _).mono ?_; rintro e w1 ⟨rfl, rfl⟩; rw [e7])
    go_ret
    exact ⟨rfl, hB _ _⟩
  cases e3 : decide ((8 : Int) < (p : Int))
  case true =>
    clear HBAD
    go_enter Tryd.func17, Tryd.ntmps17
    go_wp2_with (go_at_call 38; refine (l2indexV _ _).mono ?_; rintro e w1 ⟨rfl, rfl⟩; rw [e7])
    go_ret
    exact ⟨rfl, hB _ _⟩
  cases e4 : decide ((4 : Int) < (q : Int))
  case true =>
    clear HBAD
    go_enter Tryd.func17, Tryd.ntmps17
    go_wp2_with (go_at_call 38; refine (l2indexV _ _).mono ?_; rintro e w1 ⟨rfl, rfl⟩; rw [e7])
    go_ret
    exact ⟨rfl, hB _ _⟩
  exact absurd (⟨HI.out, ⟨by have := of_decide_eq_false e5; omega, by have := of_decide_eq_false e6; omega⟩, by have := of_decide_eq_false e1; omega, by have := of_decide_eq_false e2; omega, by have := of_decide_eq_false e3; omega, by have := of_decide_eq_false e4; omega⟩) HBAD.out

theorem sStateOkV (v : Value) (S : DState) (w : World) (h : VState w v S) :
    Calls Tryd.prog 17 #[v] w fun e w' => e = .returned (.bool (tB (StP S))) ∧ Below w.heap.size w w' := by
  obtain ⟨rv, tv, sv, lv, rfl, hr, ht, hs, hl⟩ := h
  by_cases hk : (0 ≤ S.index ∧ S.index ≤ 1000000) ∧ (0 ≤ S.lost ∧ S.lost ≤ S.index) ∧ S.rows.length ≤ 20 ∧ S.tombs.length ≤ 10 ∧ S.sess.length ≤ 8 ∧ S.lasts.length ≤ 4
  · exact sStateX S w rv tv sv lv hr ht hs hl hk.1 hk.2.1 hk.2.2.1 hk.2.2.2.1 hk.2.2.2.2.1 hk.2.2.2.2.2
  · rw [tB_false (fun h : StP S => hk ⟨h.1, h.2.1, h.2.2.2.1.1, h.2.2.2.2.1.1, h.2.2.1.1, h.2.2.2.2.2.1⟩)]
    exact sStateB S w rv tv sv lv hr ht hs hl hk

end Go.Proofs.YtheojmjnpemkbaaDoor

namespace Go.Proofs.YtheojmjnpemkbaaDoor
open Go.RowKit

set_option maxHeartbeats 1000000 in
theorem eqEl_S (s : DSess) (w : World) :
    Calls Tryd.prog 59 #[.agg #[.int .i64 s.id, .bool s.del], .agg #[.int .i64 s.id, .bool s.del]] w fun e w' => e = .returned (.bool true) ∧ Below w.heap.size w w' := by
  go_enter Tryd.func59, Tryd.ntmps59
  go_wp2
  go_ret
  exact ⟨rfl, ((Below.refl _ w).alloc (Nat.le_refl _) _).alloc (by simp) _⟩

set_option maxHeartbeats 2000000 in
theorem eqS_S (v u : Value) (ss : List DSess) (w : World) (h : VSess w v ss) (k : VSess w u ss) (hn : ss.length ≤ 1048576) :
    Calls Tryd.prog 30 #[v, u] w fun e w' => e = .returned (.bool true) ∧ Below w.heap.size w w' := by
  obtain ⟨C, ⟨a, cap, rfl, h1, h2, h3⟩, hC⟩ := h
  obtain ⟨D, ⟨a', cap', rfl, h1', h2', h3'⟩, hD⟩ := k
  have HC : Hid (∀ i r, ss[i]? = some r → C i 0 = .int .i64 r.id ∧ C i 1 = .bool r.del) := hC
  have HD : Hid (∀ i r, ss[i]? = some r → D i 0 = .int .i64 r.id ∧ D i 1 = .bool r.del) := hD
  clear hC hD
  obtain ⟨n, hnn⟩ : ∃ n, n = ss.length := ⟨_, rfl⟩
  rw [← hnn] at h1 h3 h1' h3' hn ⊢
  have HN : Hid (n = ss.length) := hnn
  clear hnn
  have H3 : Hid (0 < n → ∃ b o, a = some ⟨b, o, none⟩ ∧ b < w.heap.size ∧ ∀ i, i < n → ∀ j, j < 2 → w.cell? ⟨b, o + i * 2 + j, none⟩ = some (C i j)) := h3
  have H3' : Hid (0 < n → ∃ b o, a' = some ⟨b, o, none⟩ ∧ b < w.heap.size ∧ ∀ i, i < n → ∀ j, j < 2 → w.cell? ⟨b, o + i * 2 + j, none⟩ = some (D i j)) := h3'
  clear h3 h3'
  have hml2 : (n : Int) ≤ 1048576 := by omega
  go_enter Tryd.func30, Tryd.ntmps30
  go_wp2
  go_loopw [5] (fun i wr => ∃ k : Nat, k ≤ n ∧ i = .int .i64 k ∧ Below w.heap.size w wr) (fun i _ => n - (intOf i).toNat)
  case atStart => exact ⟨0, Nat.zero_le _, rfl, Below.refl _ _⟩
  case round =>
    obtain ⟨k, hk, rfl, hb⟩ := hrel
    by_cases hlt : k < n
    · obtain ⟨b, o, rfl, hbl, hc⟩ := H3.out (by omega)
      obtain ⟨b', o', rfl, hbl', hc'⟩ := H3'.out (by omega)
      obtain ⟨s, hs⟩ : ∃ s, ss[k]? = some s := ⟨_, List.getElem?_eq_getElem (by have := HN.out; omega)⟩
      obtain ⟨e0, e1⟩ := HC.out k s hs
      obtain ⟨y0, y1⟩ := HD.out k s hs
      have X2 : Ext w wr.drew := (ext_below hb).tr (ext_drewN wr 1)
      have c0 := World.grownBy.cell (ext_below hb) (hc k hlt 0 (by omega)) (by simp)
      rw [e0, Nat.add_zero] at c0
      have c1 := World.grownBy.cell (ext_below hb) (hc k hlt 1 (by omega)) (by simp)
      rw [e1] at c1
      have d0 := World.grownBy.cell (ext_below hb) (hc' k hlt 0 (by omega)) (by simp)
      rw [y0, Nat.add_zero] at d0
      have d1 := World.grownBy.cell (ext_below hb) (hc' k hlt 1 (by omega)) (by simp)
      rw [y1] at d1
      have hlt' : (k : Int) < (n : Int) := by omega
      have hb5 : Below w.heap.size w wr.drew := below_drewN hb 1
      clear hc hc' X2
      go_wp2_with fail
      go_region_held3 (fun w' => w'.cell? ⟨b, o + k * 2, none⟩ = some (.int .i64 s.id) ∧ w'.cell? ⟨b, o + k * 2 + 1, none⟩ = some (.bool s.del) ∧ w'.cell? ⟨b', o' + k * 2, none⟩ = some (.int .i64 s.id) ∧ w'.cell? ⟨b', o' + k * 2 + 1, none⟩ = some (.bool s.del)) (simp [*])
        ((go_at_call 59; refine (eqEl_S s _).mono ?_; rintro e w7 ⟨rfl, b7⟩; have ck0 := World.grownBy.cell (ext_below b7) (show wr.drew.cell? _ = _ from c0) (by simp); have ck1 := World.grownBy.cell (ext_below b7) (show wr.drew.cell? _ = _ from c1) (by simp); have dk0 := World.grownBy.cell (ext_below b7) (show wr.drew.cell? _ = _ from d0) (by simp); have dk1 := World.grownBy.cell (ext_below b7) (show wr.drew.cell? _ = _ from d1) (by simp)))
      all_goals
        go_wp2
        go_roundw
        case rel => exact ⟨k + 1, by omega, by go_num, hb5.trans (b7.mono hb5.size)⟩
        case measure => simp [intOf]; omega
    · have hkn : k = n := by omega
      subst hkn
      go_wp2
      go_ret
      exact ⟨rfl, hb⟩

end Go.Proofs.YtheojmjnpemkbaaDoor

namespace Go.Proofs.YtheojmjnpemkbaaDoor
open Go.RowKit

/-- The bytes of a state's texts are bytes. -/
def rngSt (S : DState) : Prop := (∀ (i : Nat) (r : DRow), S.rows[i]? = some r → (∀ x ∈ r.key, 0 ≤ x ∧ x ≤ 255) ∧ (∀ x ∈ r.val, 0 ≤ x ∧ x ≤ 255)) ∧ (∀ (i : Nat) (r : DTomb), S.tombs[i]? = some r → ∀ x ∈ r.key, 0 ≤ x ∧ x ≤ 255)
theorem rngSt_of {w : World} {v : Value} {S : DState} (h : VState w v S) : rngSt S := by
  obtain ⟨rv, tv, sv, lv, _, ⟨C, _, hC⟩, ⟨D, _, hD⟩, _, _⟩ := h
  exact ⟨fun i r hr => ⟨rv_rng (hC i r hr).1, rv_rng (hC i r hr).2.1⟩, fun i r hr => rv_rng (hD i r hr).1⟩

/-- Lengths within a size. -/
structure LenSt (S : DState) (B : Nat) : Prop where
  rows : S.rows.length ≤ B
  tombs : S.tombs.length ≤ B
  sess : S.sess.length ≤ B
  lasts : S.lasts.length ≤ B
  row : ∀ (i : Nat) (r : DRow), S.rows[i]? = some r → r.key.length ≤ B ∧ r.val.length ≤ B
  tomb : ∀ (i : Nat) (r : DTomb), S.tombs[i]? = some r → r.key.length ≤ B
theorem lenSt_of {S : DState} {B : Nat} (h : zS S ≤ B) : LenSt S B := by
  unfold zS sR sT at h
  refine ⟨by omega, by omega, by omega, by omega, fun i r hr => ?_, fun i r hr => ?_⟩
  · have := sum_mem zR S.rows i r hr
    unfold zR at *
    omega
  · have := sum_mem zT S.tombs i r hr
    unfold zT at *
    omega
theorem LenSt.mono {S : DState} {B B' : Nat} (h : LenSt S B) (hb : B ≤ B') : LenSt S B' :=
  ⟨Nat.le_trans h.rows hb, Nat.le_trans h.tombs hb, Nat.le_trans h.sess hb, Nat.le_trans h.lasts hb, fun i r hr => ⟨Nat.le_trans (h.row i r hr).1 hb, Nat.le_trans (h.row i r hr).2 hb⟩, fun i r hr => Nat.le_trans (h.tomb i r hr) hb⟩

/-- The block g holds the elements of a list that the call made; their texts lie behind it. -/
def OR (w : World) (g : Nat) (ss : List DRow) : Prop := ∃ F, Blk w g 57 4 ss.length ss.length F ∧ ∀ i s, ss[i]? = some s → Ow w (g + 1) (F i 0) s.key ∧ Ow w (g + 1) (F i 1) s.val ∧ F i 2 = .int .i64 s.turned ∧ F i 3 = .int .i64 s.holder
theorem OR.grown {w w' : World} {g : Nat} {row : Option Nat} {ss : List DRow} (h : OR w g ss) (hg : w.grownBy w' row) (hx : ∀ x, row = some x → x < g) : OR w' g ss := by
  obtain ⟨F, hB, hF⟩ := h
  have KO : ∀ {v : Value} (xs : List Int), Ow w (g + 1) v xs → v.ownBlock = none ∨ v.ownBlock ≠ row := fun {v} xs o => by
    cases hv : v.ownBlock with
    | none => exact .inl rfl
    | some b =>
      right
      intro e
      have := (o.lt b hv).1
      have := hx b e.symm
      omega
  refine ⟨F, blk_kept hB (hg.block g (blk_lt hB) (fun e => ?_)), fun i s hi => ⟨(hF i s hi).1.kept hg (KO _ (hF i s hi).1), (hF i s hi).2.1.kept hg (KO _ (hF i s hi).2.1), (hF i s hi).2.2⟩⟩
  have := hx g e.symm
  omega
theorem OR.set {w : World} {g x j : Nat} {u : Value} {ss : List DRow} (h : OR w g ss) (hx : x < g) : OR (w.setCell ⟨x, j, none⟩ u) g ss := h.grown (set_grown w x j u) (fun y hy => by cases hy; exact hx)
theorem OR.ext {w w' : World} {g : Nat} {ss : List DRow} (h : OR w g ss) (e : Ext w w') : OR w' g ss := h.grown e (fun y hy => by cases hy)
/-- The block g holds the elements of a list that the call made; their texts lie behind it. -/
def OT (w : World) (g : Nat) (ss : List DTomb) : Prop := ∃ F, Blk w g 60 2 ss.length ss.length F ∧ ∀ i s, ss[i]? = some s → Ow w (g + 1) (F i 0) s.key ∧ F i 1 = .int .i64 s.index
theorem OT.grown {w w' : World} {g : Nat} {row : Option Nat} {ss : List DTomb} (h : OT w g ss) (hg : w.grownBy w' row) (hx : ∀ x, row = some x → x < g) : OT w' g ss := by
  obtain ⟨F, hB, hF⟩ := h
  have KO : ∀ {v : Value} (xs : List Int), Ow w (g + 1) v xs → v.ownBlock = none ∨ v.ownBlock ≠ row := fun {v} xs o => by
    cases hv : v.ownBlock with
    | none => exact .inl rfl
    | some b =>
      right
      intro e
      have := (o.lt b hv).1
      have := hx b e.symm
      omega
  refine ⟨F, blk_kept hB (hg.block g (blk_lt hB) (fun e => ?_)), fun i s hi => ⟨(hF i s hi).1.kept hg (KO _ (hF i s hi).1), (hF i s hi).2⟩⟩
  have := hx g e.symm
  omega
theorem OT.set {w : World} {g x j : Nat} {u : Value} {ss : List DTomb} (h : OT w g ss) (hx : x < g) : OT (w.setCell ⟨x, j, none⟩ u) g ss := h.grown (set_grown w x j u) (fun y hy => by cases hy; exact hx)
theorem OT.ext {w w' : World} {g : Nat} {ss : List DTomb} (h : OT w g ss) (e : Ext w w') : OT w' g ss := h.grown e (fun y hy => by cases hy)
/-- The block g holds the elements of a list that the call made; their texts lie behind it. -/
def OS (w : World) (g : Nat) (ss : List DSess) : Prop := ∃ F, Blk w g 62 2 ss.length ss.length F ∧ ∀ i s, ss[i]? = some s → F i 0 = .int .i64 s.id ∧ F i 1 = .bool s.del
theorem OS.grown {w w' : World} {g : Nat} {row : Option Nat} {ss : List DSess} (h : OS w g ss) (hg : w.grownBy w' row) (hx : ∀ x, row = some x → x < g) : OS w' g ss := by
  obtain ⟨F, hB, hF⟩ := h
  refine ⟨F, blk_kept hB (hg.block g (blk_lt hB) (fun e => ?_)), fun i s hi => hF i s hi⟩
  have := hx g e.symm
  omega
theorem OS.set {w : World} {g x j : Nat} {u : Value} {ss : List DSess} (h : OS w g ss) (hx : x < g) : OS (w.setCell ⟨x, j, none⟩ u) g ss := h.grown (set_grown w x j u) (fun y hy => by cases hy; exact hx)
theorem OS.ext {w w' : World} {g : Nat} {ss : List DSess} (h : OS w g ss) (e : Ext w w') : OS w' g ss := h.grown e (fun y hy => by cases hy)
/-- The block g holds the elements of a list that the call made; their texts lie behind it. -/
def OL (w : World) (g : Nat) (ss : List DLast) : Prop := ∃ F, Blk w g 81 4 ss.length ss.length F ∧ ∀ i s, ss[i]? = some s → F i 0 = .int .i64 s.client ∧ F i 1 = .int .i64 s.req ∧ F i 2 = .int .i64 s.code ∧ F i 3 = .int .i64 s.index
theorem OL.grown {w w' : World} {g : Nat} {row : Option Nat} {ss : List DLast} (h : OL w g ss) (hg : w.grownBy w' row) (hx : ∀ x, row = some x → x < g) : OL w' g ss := by
  obtain ⟨F, hB, hF⟩ := h
  refine ⟨F, blk_kept hB (hg.block g (blk_lt hB) (fun e => ?_)), fun i s hi => hF i s hi⟩
  have := hx g e.symm
  omega
theorem OL.set {w : World} {g x j : Nat} {u : Value} {ss : List DLast} (h : OL w g ss) (hx : x < g) : OL (w.setCell ⟨x, j, none⟩ u) g ss := h.grown (set_grown w x j u) (fun y hy => by cases hy; exact hx)
theorem OL.ext {w w' : World} {g : Nat} {ss : List DLast} (h : OL w g ss) (e : Ext w w') : OL w' g ss := h.grown e (fun y hy => by cases hy)
theorem OR.v {w : World} {g : Nat} {ss : List DRow} (h : OR w g ss) (hm : ss.length ≤ 1048576) (hr : ∀ (i : Nat) (r : DRow), ss[i]? = some r → (∀ x ∈ r.key, 0 ≤ x ∧ x ≤ 255) ∧ (∀ x ∈ r.val, 0 ≤ x ∧ x ≤ 255)) : VRows w (.slice (some ⟨g, 0, none⟩) ss.length ss.length) ss := by
  obtain ⟨F, hB, hF⟩ := h
  exact ⟨F, blk_SL hB (by unfold maxLen; omega), fun i r hi => ⟨(hF i r hi).1.rv (hr i r hi).1, (hF i r hi).2.1.rv (hr i r hi).2, (hF i r hi).2.2⟩⟩
theorem OT.v {w : World} {g : Nat} {ss : List DTomb} (h : OT w g ss) (hm : ss.length ≤ 1048576) (hr : ∀ (i : Nat) (r : DTomb), ss[i]? = some r → (∀ x ∈ r.key, 0 ≤ x ∧ x ≤ 255)) : VTombs w (.slice (some ⟨g, 0, none⟩) ss.length ss.length) ss := by
  obtain ⟨F, hB, hF⟩ := h
  exact ⟨F, blk_SL hB (by unfold maxLen; omega), fun i r hi => ⟨(hF i r hi).1.rv (hr i r hi), (hF i r hi).2⟩⟩
theorem OS.v {w : World} {g : Nat} {ss : List DSess} (h : OS w g ss) (hm : ss.length ≤ 1048576) : VSess w (.slice (some ⟨g, 0, none⟩) ss.length ss.length) ss := by
  obtain ⟨F, hB, hF⟩ := h
  exact ⟨F, blk_SL hB (by unfold maxLen; omega), hF⟩
theorem OL.v {w : World} {g : Nat} {ss : List DLast} (h : OL w g ss) (hm : ss.length ≤ 1048576) : VLasts w (.slice (some ⟨g, 0, none⟩) ss.length ss.length) ss := by
  obtain ⟨F, hB, hF⟩ := h
  exact ⟨F, blk_SL hB (by unfold maxLen; omega), hF⟩

/-- A state that the call made, in memory from block base on. -/
def OSt (w : World) (base gr gt gs gl : Nat) (S : DState) : Prop := (base ≤ gr ∧ OR w gr S.rows) ∧ (base ≤ gt ∧ OT w gt S.tombs) ∧ (base ≤ gs ∧ OS w gs S.sess) ∧ (base ≤ gl ∧ OL w gl S.lasts)
/-- The value of such a state. -/
def stV (gr gt gs gl : Nat) (S : DState) : Value := .agg #[.int .i64 S.index, .slice (some ⟨gr, 0, none⟩) S.rows.length S.rows.length, .slice (some ⟨gt, 0, none⟩) S.tombs.length S.tombs.length, .int .i64 S.lost, .slice (some ⟨gs, 0, none⟩) S.sess.length S.sess.length, .slice (some ⟨gl, 0, none⟩) S.lasts.length S.lasts.length]
theorem OSt.v {w : World} {base gr gt gs gl : Nat} {S : DState} (h : OSt w base gr gt gs gl S) (hl : LenSt S 1048576) (hr : rngSt S) : VState w (stV gr gt gs gl S) S :=
  ⟨_, _, _, _, rfl, h.1.2.v hl.rows hr.1, h.2.1.2.v hl.tombs hr.2, h.2.2.1.2.v hl.sess, h.2.2.2.2.v hl.lasts⟩
theorem OSt.ext {w w' : World} {base gr gt gs gl : Nat} {S : DState} (h : OSt w base gr gt gs gl S) (e : Ext w w') : OSt w' base gr gt gs gl S :=
  ⟨⟨h.1.1, h.1.2.ext e⟩, ⟨h.2.1.1, h.2.1.2.ext e⟩, ⟨h.2.2.1.1, h.2.2.1.2.ext e⟩, ⟨h.2.2.2.1, h.2.2.2.2.ext e⟩⟩

set_option maxHeartbeats 4000000 in
theorem toSt (v : Value) (S : DState) (w : World) (h : VState w v S) (hl : LenSt S 1048576) :
    Calls Tryd.prog 6 #[v] w fun e w' => ∃ gr gt gs gl, e = .returned (stV gr gt gs gl S) ∧ OSt w' w.heap.size gr gt gs gl S ∧ Below w.heap.size w w' := by
  have hE : ∀ w : World, ∀ o, Ext w (w.alloc o) := fun w o => World.grownBy_alloc _ _ _
  have x3 : ∀ a b c, Ext w (((w.alloc a).alloc b).alloc c) := fun a b c => ((hE _ _).tr (hE _ _)).tr (hE _ _)
  obtain ⟨rv, tv, sv, lv, rfl, hr, ht, hs, hll⟩ := h
  go_enter Tryd.func6, Tryd.ntmps6
  go_wp2_with fail
  have B0 : ∀ a b c, Below w.heap.size w (((w.alloc a).alloc b).alloc c) := fun a b c => (((Below.refl _ w).alloc (Nat.le_refl _) _).alloc (by simp) _).alloc (by simp; omega) _
  refine (toS_R rv S.rows _ (hr.ext (x3 _ _ _)) hl.rows hl.row).mono ?_
  rintro e w1 ⟨F1, rfl, k1, f1, b1⟩
  have hs1 : w.heap.size + 3 ≤ w1.heap.size := by have := b1.size; simp at this; omega
  have PA := below_blk b1 (by simp; omega) (h3_0 w _ _ _)
  have RA := below_blk b1 (by simp) (h3_1 w _ _ _)
  have TA := below_blk b1 (by simp) (h3_2 w _ _ _)
  have BA := (B0 _ _ _).trans (b1.mono (by simp; omega))
  have oR : OR w1 (w.heap.size + 1 + 1 + 1) S.rows := ⟨F1, by simpa using k1, by simpa using f1⟩
  have e1 : (((w.alloc (.cells #[.int .i64 S.index, rv, tv, .int .i64 S.lost, sv, lv] 27 (0, 0))).alloc (.cells #[.int .i64 0, .slice none 0 0, .slice none 0 0, .int .i64 0, .slice none 0 0, .slice none 0 0] 36 (0, 0))).alloc (.cells #[.int .i64 S.index, .slice none 0 0, .slice none 0 0, .int .i64 0, .slice none 0 0, .slice none 0 0] 36 (0, 0))).heap.size = w.heap.size + 1 + 1 + 1 := by simp
  rw [e1]
  clear k1 f1 b1 e1
  obtain ⟨q0, h0⟩ := at_block TA 1 _ rfl
  have pp := (at_block PA 2 _ rfl).1
  go_wp2_with fail
  have TB0 : (w1.setCell ⟨w.heap.size + 1 + 1, 1, none⟩ (.slice (some ⟨w.heap.size + 1 + 1 + 1, 0, none⟩) S.rows.length S.rows.length)).heap[w.heap.size + 1 + 1]? = some (.cells #[.int .i64 S.index, .slice (some ⟨w.heap.size + 1 + 1 + 1, 0, none⟩) S.rows.length S.rows.length, .slice none 0 0, .int .i64 0, .slice none 0 0, .slice none 0 0] 36 (0, 0)) := (set_block TA 1 (.slice (some ⟨w.heap.size + 1 + 1 + 1, 0, none⟩) S.rows.length S.rows.length))
  have PB0 := (set_other (w.heap.size + 1 + 1) 1 (.slice (some ⟨w.heap.size + 1 + 1 + 1, 0, none⟩) S.rows.length S.rows.length) (by omega) PA)
  have RB0 := (set_other (w.heap.size + 1 + 1) 1 (.slice (some ⟨w.heap.size + 1 + 1 + 1, 0, none⟩) S.rows.length S.rows.length) (by omega) RA)
  have BB0 : Below w.heap.size w (w1.setCell ⟨w.heap.size + 1 + 1, 1, none⟩ (.slice (some ⟨w.heap.size + 1 + 1 + 1, 0, none⟩) S.rows.length S.rows.length)) := (BA.setCell (by simp; omega) _)
  have zB : w.heap.size + 3 ≤ (w1.setCell ⟨w.heap.size + 1 + 1, 1, none⟩ (.slice (some ⟨w.heap.size + 1 + 1 + 1, 0, none⟩) S.rows.length S.rows.length)).heap.size := by simp; omega
  have oRB := (oR.set (x := w.heap.size + 1 + 1) (j := 1) (u := .slice (some ⟨w.heap.size + 1 + 1 + 1, 0, none⟩) S.rows.length S.rows.length) (by omega))
  generalize (w1.setCell ⟨w.heap.size + 1 + 1, 1, none⟩ (.slice (some ⟨w.heap.size + 1 + 1 + 1, 0, none⟩) S.rows.length S.rows.length)) = WB at TB0 PB0 RB0 BB0 zB oRB ⊢
  clear oR q0 h0 pp PA RA TA BA
  refine (toS_T tv S.tombs WB (ht.ext (ext_below BB0)) hl.tombs hl.tomb).mono ?_
  rintro e w2 ⟨FB, rfl, kB, fB, bB⟩
  have PB := below_blk bB (by omega) PB0
  have RB := below_blk bB (by omega) RB0
  have TB := below_blk bB (by omega) TB0
  have BB := BB0.trans (bB.mono BB0.size)
  have oT : OT w2 WB.heap.size S.tombs := ⟨FB, kB, fB⟩
  have yB := bB.size
  generalize WB.heap.size = gB at zB yB oT ⊢
  have oR := oRB.ext (ext_below bB)
  clear kB fB bB TB0 PB0 RB0 BB0 oRB
  obtain ⟨q0, h0⟩ := at_block TB 2 _ rfl
  have pp := (at_block PB 4 _ rfl).1
  have p3 := (at_block PB 3 _ rfl).1
  obtain ⟨q3, h3⟩ := at_block TB 3 _ rfl
  go_wp2_with fail
  have TC0 : ((w2.setCell ⟨w.heap.size + 1 + 1, 2, none⟩ (.slice (some ⟨gB, 0, none⟩) S.tombs.length S.tombs.length)).setCell ⟨w.heap.size + 1 + 1, 3, none⟩ (.int .i64 S.lost)).heap[w.heap.size + 1 + 1]? = some (.cells #[.int .i64 S.index, .slice (some ⟨w.heap.size + 1 + 1 + 1, 0, none⟩) S.rows.length S.rows.length, .slice (some ⟨gB, 0, none⟩) S.tombs.length S.tombs.length, .int .i64 S.lost, .slice none 0 0, .slice none 0 0] 36 (0, 0)) := (set_block (set_block TB 2 (.slice (some ⟨gB, 0, none⟩) S.tombs.length S.tombs.length)) 3 (.int .i64 S.lost))
  have PC0 := (set_other (w.heap.size + 1 + 1) 3 (.int .i64 S.lost) (by omega) (set_other (w.heap.size + 1 + 1) 2 (.slice (some ⟨gB, 0, none⟩) S.tombs.length S.tombs.length) (by omega) PB))
  have RC0 := (set_other (w.heap.size + 1 + 1) 3 (.int .i64 S.lost) (by omega) (set_other (w.heap.size + 1 + 1) 2 (.slice (some ⟨gB, 0, none⟩) S.tombs.length S.tombs.length) (by omega) RB))
  have BC0 : Below w.heap.size w ((w2.setCell ⟨w.heap.size + 1 + 1, 2, none⟩ (.slice (some ⟨gB, 0, none⟩) S.tombs.length S.tombs.length)).setCell ⟨w.heap.size + 1 + 1, 3, none⟩ (.int .i64 S.lost)) := ((BB.setCell (by simp; omega) _).setCell (by simp; omega) _)
  have zC : w.heap.size + 3 ≤ ((w2.setCell ⟨w.heap.size + 1 + 1, 2, none⟩ (.slice (some ⟨gB, 0, none⟩) S.tombs.length S.tombs.length)).setCell ⟨w.heap.size + 1 + 1, 3, none⟩ (.int .i64 S.lost)).heap.size := by simp; omega
  have oRC := ((oR.set (x := w.heap.size + 1 + 1) (j := 2) (u := .slice (some ⟨gB, 0, none⟩) S.tombs.length S.tombs.length) (by omega)).set (x := w.heap.size + 1 + 1) (j := 3) (u := .int .i64 S.lost) (by omega))
  have oTC := ((oT.set (x := w.heap.size + 1 + 1) (j := 2) (u := .slice (some ⟨gB, 0, none⟩) S.tombs.length S.tombs.length) (by omega)).set (x := w.heap.size + 1 + 1) (j := 3) (u := .int .i64 S.lost) (by omega))
  generalize ((w2.setCell ⟨w.heap.size + 1 + 1, 2, none⟩ (.slice (some ⟨gB, 0, none⟩) S.tombs.length S.tombs.length)).setCell ⟨w.heap.size + 1 + 1, 3, none⟩ (.int .i64 S.lost)) = WC at TC0 PC0 RC0 BC0 zC oRC oTC ⊢
  clear oR oT q0 h0 pp PB RB TB BB p3 q3 h3
  refine (toS_S sv S.sess WC (hs.ext (ext_below BC0)) hl.sess).mono ?_
  rintro e w3 ⟨FC, rfl, kC, fC, bC⟩
  have PC := below_blk bC (by omega) PC0
  have RC := below_blk bC (by omega) RC0
  have TC := below_blk bC (by omega) TC0
  have BC := BC0.trans (bC.mono BC0.size)
  have oS : OS w3 WC.heap.size S.sess := ⟨FC, kC, fC⟩
  have yC := bC.size
  generalize WC.heap.size = gC at zC yC oS ⊢
  have oR := oRC.ext (ext_below bC)
  have oT := oTC.ext (ext_below bC)
  clear kC fC bC TC0 PC0 RC0 BC0 oRC oTC
  obtain ⟨q0, h0⟩ := at_block TC 4 _ rfl
  have pp := (at_block PC 5 _ rfl).1
  go_wp2_with fail
  have TD0 : (w3.setCell ⟨w.heap.size + 1 + 1, 4, none⟩ (.slice (some ⟨gC, 0, none⟩) S.sess.length S.sess.length)).heap[w.heap.size + 1 + 1]? = some (.cells #[.int .i64 S.index, .slice (some ⟨w.heap.size + 1 + 1 + 1, 0, none⟩) S.rows.length S.rows.length, .slice (some ⟨gB, 0, none⟩) S.tombs.length S.tombs.length, .int .i64 S.lost, .slice (some ⟨gC, 0, none⟩) S.sess.length S.sess.length, .slice none 0 0] 36 (0, 0)) := (set_block TC 4 (.slice (some ⟨gC, 0, none⟩) S.sess.length S.sess.length))
  have PD0 := (set_other (w.heap.size + 1 + 1) 4 (.slice (some ⟨gC, 0, none⟩) S.sess.length S.sess.length) (by omega) PC)
  have RD0 := (set_other (w.heap.size + 1 + 1) 4 (.slice (some ⟨gC, 0, none⟩) S.sess.length S.sess.length) (by omega) RC)
  have BD0 : Below w.heap.size w (w3.setCell ⟨w.heap.size + 1 + 1, 4, none⟩ (.slice (some ⟨gC, 0, none⟩) S.sess.length S.sess.length)) := (BC.setCell (by simp; omega) _)
  have zD : w.heap.size + 3 ≤ (w3.setCell ⟨w.heap.size + 1 + 1, 4, none⟩ (.slice (some ⟨gC, 0, none⟩) S.sess.length S.sess.length)).heap.size := by simp; omega
  have oRD := (oR.set (x := w.heap.size + 1 + 1) (j := 4) (u := .slice (some ⟨gC, 0, none⟩) S.sess.length S.sess.length) (by omega))
  have oTD := (oT.set (x := w.heap.size + 1 + 1) (j := 4) (u := .slice (some ⟨gC, 0, none⟩) S.sess.length S.sess.length) (by omega))
  have oSD := (oS.set (x := w.heap.size + 1 + 1) (j := 4) (u := .slice (some ⟨gC, 0, none⟩) S.sess.length S.sess.length) (by omega))
  generalize (w3.setCell ⟨w.heap.size + 1 + 1, 4, none⟩ (.slice (some ⟨gC, 0, none⟩) S.sess.length S.sess.length)) = WD at TD0 PD0 RD0 BD0 zD oRD oTD oSD ⊢
  clear oR oT oS q0 h0 pp PC RC TC BC
  refine (toS_L lv S.lasts WD (hll.ext (ext_below BD0)) hl.lasts).mono ?_
  rintro e w4 ⟨FD, rfl, kD, fD, bD⟩
  have PD := below_blk bD (by omega) PD0
  have RD := below_blk bD (by omega) RD0
  have TD := below_blk bD (by omega) TD0
  have BD := BD0.trans (bD.mono BD0.size)
  have oL : OL w4 WD.heap.size S.lasts := ⟨FD, kD, fD⟩
  have yD := bD.size
  generalize WD.heap.size = gD at zD yD oL ⊢
  have oR := oRD.ext (ext_below bD)
  have oT := oTD.ext (ext_below bD)
  have oS := oSD.ext (ext_below bD)
  clear kD fD bD TD0 PD0 RD0 BD0 oRD oTD oSD
  obtain ⟨q0, h0⟩ := at_block TD 0 _ rfl
  obtain ⟨q1, h1⟩ := at_block TD 1 _ rfl
  obtain ⟨q2, h2⟩ := at_block TD 2 _ rfl
  obtain ⟨q3, h3⟩ := at_block TD 3 _ rfl
  obtain ⟨q4, h4⟩ := at_block TD 4 _ rfl
  obtain ⟨q5, h5⟩ := at_block TD 5 _ rfl
  obtain ⟨r0, y0⟩ := at_block RD 0 _ rfl
  obtain ⟨r1, y1⟩ := at_block RD 1 _ rfl
  obtain ⟨r2, y2⟩ := at_block RD 2 _ rfl
  obtain ⟨r3, y3⟩ := at_block RD 3 _ rfl
  obtain ⟨r4, y4⟩ := at_block RD 4 _ rfl
  obtain ⟨r5, y5⟩ := at_block RD 5 _ rfl
  go_wp2
  refine bodyPost_ret (v := stV (w.heap.size + 1 + 1 + 1) gB gC gD S) (by simp [stV, results, Tryd.results6, go_sem, r0, r1, r2, r3, r4, r5]) rfl ?_
  refine ⟨_, _, _, _, rfl, ⟨⟨by omega, ?_⟩, ⟨by omega, ?_⟩, ⟨by omega, ?_⟩, ⟨by omega, ?_⟩⟩, ?_⟩
  · repeat (refine OR.set ?_ (by omega))
    exact oR
  · repeat (refine OT.set ?_ (by omega))
    exact oT
  · repeat (refine OS.set ?_ (by omega))
    exact oS
  · repeat (refine OL.set ?_ (by omega))
    exact oL
  · repeat (refine Below.setCell ?_ (by simp <;> omega) _)
    exact BD
set_option maxHeartbeats 2000000 in
theorem eqSt (v u : Value) (S : DState) (w : World) (h : VState w v S) (k : VState w u S) (hl : LenSt S 1048576) :
    Calls Tryd.prog 9 #[v, u] w fun e w' => e = .returned (.bool true) ∧ Below w.heap.size w w' := by
  have hE : ∀ w : World, ∀ o, Ext w (w.alloc o) := fun w o => World.grownBy_alloc _ _ _
  have x2 : ∀ a b, Ext w ((w.alloc a).alloc b) := fun a b => (hE _ _).tr (hE _ _)
  have B0 : ∀ a b, Below w.heap.size w ((w.alloc a).alloc b) := fun a b => ((Below.refl _ w).alloc (Nat.le_refl _) _).alloc (by simp) _
  have hl2 := hl.mono (B' := 2097152) (by omega)
  obtain ⟨rv, tv, sv, lv, rfl, hr, ht, hs, hll⟩ := h
  obtain ⟨rv', tv', sv', lv', rfl, hr', ht', hs', hll'⟩ := k
  go_enter Tryd.func9, Tryd.ntmps9
  go_wp2_with fail
  refine (eqS_R rv rv' S.rows _ (hr.ext (x2 _ _)) (hr'.ext (x2 _ _)) hl.rows hl2.row).mono ?_
  rintro e w1 ⟨rfl, b1⟩
  have PA := below_blk (k := w.heap.size) b1 (by simp; omega) ((Below.heap_alloc (w.alloc _) _ w.heap.size (by simp)).trans (heap_alloc_new w _))
  have QA := below_blk b1 (by simp) (heap_alloc_new (w.alloc (.cells #[.int .i64 S.index, rv, tv, .int .i64 S.lost, sv, lv] 36 (0, 0))) (.cells #[.int .i64 S.index, rv', tv', .int .i64 S.lost, sv', lv'] 36 (0, 0)))
  rw [show (w.alloc (.cells #[.int .i64 S.index, rv, tv, .int .i64 S.lost, sv, lv] 36 (0, 0))).heap.size = w.heap.size + 1 by simp] at QA
  have z1 : w.heap.size + 2 ≤ w1.heap.size := by have := b1.size; simp at this; omega
  have B1 := (B0 _ _).trans (b1.mono (by simp; omega))
  clear b1
  have p2 := (at_block PA 2 _ rfl).1
  have q2 := (at_block QA 2 _ rfl).1
  go_wp2_with fail
  refine (eqS_T tv tv' S.tombs _ (ht.ext (ext_below B1)) (ht'.ext (ext_below B1)) hl.tombs hl2.tomb).mono ?_
  rintro e w2 ⟨rfl, b2⟩
  have PB := below_blk b2 (by omega) PA
  have QB := below_blk b2 (by omega) QA
  have B2 := B1.trans (b2.mono B1.size)
  have z2 := Nat.le_trans z1 b2.size
  clear b2 p2 q2
  have p3 := (at_block PB 3 _ rfl).1
  have q3 := (at_block QB 3 _ rfl).1
  have p4 := (at_block PB 4 _ rfl).1
  have q4 := (at_block QB 4 _ rfl).1
  go_wp2_with fail
  refine (eqS_S sv sv' S.sess _ (hs.ext (ext_below B2)) (hs'.ext (ext_below B2)) hl.sess).mono ?_
  rintro e w3 ⟨rfl, b3⟩
  have PC := below_blk b3 (by omega) PB
  have QC := below_blk b3 (by omega) QB
  have B3 := B2.trans (b3.mono B2.size)
  have z3 := Nat.le_trans z2 b3.size
  clear b3 p3 q3 p4 q4
  have p5 := (at_block PC 5 _ rfl).1
  have q5 := (at_block QC 5 _ rfl).1
  go_wp2_with fail
  refine (eqS_L lv lv' S.lasts _ (hll.ext (ext_below B3)) (hll'.ext (ext_below B3)) hl.lasts).mono ?_
  rintro e w4 ⟨rfl, b4⟩
  have PD := below_blk b4 (by omega) PC
  have QD := below_blk b4 (by omega) QC
  have B4 := B3.trans (b4.mono B3.size)
  have z4 := Nat.le_trans z3 b4.size
  clear b4 p5 q5
  go_wp2
  go_ret
  exact ⟨rfl, B4⟩

end Go.Proofs.YtheojmjnpemkbaaDoor

namespace Go.Proofs.YtheojmjnpemkbaaDoor
open Go.RowKit

theorem vst_shape {w : World} {v : Value} {S : DState} (h : VState w v S) : ∃ ra ta sa la rc tc sc lc, v = .agg #[.int .i64 S.index, .slice ra S.rows.length rc, .slice ta S.tombs.length tc, .int .i64 S.lost, .slice sa S.sess.length sc, .slice la S.lasts.length lc] := by
  obtain ⟨rv, tv, sv, lv, rfl, ⟨_, ⟨ra, rc, rfl, _⟩, _⟩, ⟨_, ⟨ta, tc, rfl, _⟩, _⟩, ⟨_, ⟨sa, sc, rfl, _⟩, _⟩, ⟨_, ⟨la, lc, rfl, _⟩, _⟩⟩ := h
  exact ⟨ra, ta, sa, la, rc, tc, sc, lc, rfl⟩

theorem tB_yes {p : Prop} (h : tB p = true) : p := by
  by_cases hp : p
  · exact hp
  · exact absurd h (by rw [tB_false hp]; decide)

set_option maxHeartbeats 2000000 in
theorem iStateTextV (v : Value) (S : DState) (w : World) (h : VState w v S) (hp : PowTab w.heap.size w) :
    Calls Tryd.prog 7 #[v] w fun e w' => ∃ v', e = .returned v' ∧ Ow w' w.heap.size v' (stTL (tB (StP S)) S) ∧ Below w.heap.size w w' := by
  have h0 := h
  obtain ⟨ra, ta, sa, la, rc, tc, sc, lc, rfl⟩ := vst_shape h
  obtain ⟨b, hb⟩ : ∃ b, b = tB (StP S) := ⟨_, rfl⟩
  rw [← hb]
  cases b
  · have hA : Below w.heap.size w (w.alloc (.cells #[.int .i64 S.index, .slice ra S.rows.length rc, .slice ta S.tombs.length tc, .int .i64 S.lost, .slice sa S.sess.length sc, .slice la S.lasts.length lc] 36)) := (Below.refl _ w).alloc (Nat.le_refl _) _
    have HO := iStateOkV _ S _ (h0.ext (ext_below hA))
    rw [← hb] at HO
    have HOK := Lib.hid HO
    clear HO hb h0 h hp
    go_enter Tryd.func7, Tryd.ntmps7
    go_wp2_with fail
    refine HOK.out.mono ?_
    rintro e w1 ⟨rfl, b1⟩
    go_wp2
    go_ret
    exact ⟨_, rfl, World.ownsRow_nil _ _ _ _, hA.trans (b1.mono (by simp))⟩
  · refine (iST_yes S ra ta sa la rc tc sc lc w h0 hb.symm (stn_of (tB_yes hb.symm)) hp).mono ?_
    rintro e w' ⟨v', rfl, o, b⟩
    exact ⟨v', rfl, by simpa [stTL] using o, b⟩

set_option maxHeartbeats 2000000 in
theorem sStateTextV (v : Value) (S : DState) (w : World) (h : VState w v S) :
    Calls Tryd.prog 5 #[v] w fun e w' => ∃ v', e = .returned v' ∧ OwM w' w.heap.size v' (stTL (tB (StP S)) S) ∧ Below w.heap.size w w' := by
  have h0 := h
  obtain ⟨ra, ta, sa, la, rc, tc, sc, lc, rfl⟩ := vst_shape h
  obtain ⟨V, hV⟩ : ∃ V, V = w.alloc (.cells #[.int .i64 S.index, .slice ra S.rows.length rc, .slice ta S.tombs.length tc, .int .i64 S.lost, .slice sa S.sess.length sc, .slice la S.lasts.length lc] 36) := ⟨_, rfl⟩
  have q : V.heap[w.heap.size]? = some (.cells #[.int .i64 S.index, .slice ra S.rows.length rc, .slice ta S.tombs.length tc, .int .i64 S.lost, .slice sa S.sess.length sc, .slice la S.lasts.length lc] 36 (0, 0)) := by rw [hV]; exact heap_alloc_new w _
  have hA : Below w.heap.size w V := by rw [hV]; exact (Below.refl _ w).alloc (Nat.le_refl _) _
  have HO := sStateOkV _ S V (h0.ext (ext_below hA))
  have HQ : Hid (∀ W, Below V.heap.size V W → (W.cell? ⟨w.heap.size, 0, none⟩ = some (.int .i64 S.index) ∧ W.cell? ⟨w.heap.size, 1, none⟩ = some (.slice ra S.rows.length rc) ∧ W.cell? ⟨w.heap.size, 2, none⟩ = some (.slice ta S.tombs.length tc) ∧ W.cell? ⟨w.heap.size, 3, none⟩ = some (.int .i64 S.lost) ∧ W.cell? ⟨w.heap.size, 4, none⟩ = some (.slice sa S.sess.length sc) ∧ W.cell? ⟨w.heap.size, 5, none⟩ = some (.slice la S.lasts.length lc))) := fun W b => six (below_blk b (Array.getElem?_eq_some_iff.1 q).1 q)
  have HH : Hid (VState w (.agg #[.int .i64 S.index, .slice ra S.rows.length rc, .slice ta S.tombs.length tc, .int .i64 S.lost, .slice sa S.sess.length sc, .slice la S.lasts.length lc]) S) := h0
  obtain ⟨c0, c1, c2, c3, c4, c5⟩ := HQ.out V (Below.refl _ _)
  have HV := Lib.hid hV
  clear hV q h0 h
  obtain ⟨b, hb⟩ : ∃ b, b = tB (StP S) := ⟨_, rfl⟩
  rw [← hb] at HO ⊢
  have HOK := Lib.hid HO
  have HB : Hid (b = tB (StP S)) := hb
  clear HO hb
  cases b
  · go_enter Tryd.func5, Tryd.ntmps5
    go_upto_region 1 with fail
    rw [← HV.out]
    clear HV
    go_wp2_with fail
    refine HOK.out.mono ?_
    rintro e w1 ⟨rfl, b1⟩
    go_wp2
    go_ret
    exact ⟨_, rfl, .inl ⟨rfl, rfl⟩, hA.trans (b1.mono hA.size)⟩
  · go_enter Tryd.func5, Tryd.ntmps5
    go_upto_region 1 with fail
    rw [← HV.out]
    clear HV
    go_wp2_with fail
    refine HOK.out.mono ?_
    rintro e w1 ⟨rfl, b1⟩
    have B1 := hA.trans (b1.mono hA.size)
    clear c0 c1 c2 c3 c4 c5
    obtain ⟨c0, c1, c2, c3, c4, c5⟩ := HQ.out w1 b1
    go_wp2_with fail
    refine (sST_yes S ra ta sa la rc tc sc lc w1 (HH.out.ext (ext_below B1)) (stn_of (tB_yes HB.out.symm))).mono ?_
    rintro e w2 ⟨v2, rfl, o2, b2⟩
    go_wp2
    go_ret
    exact ⟨v2, rfl, by simpa [stTL] using o2.base B1.size, B1.trans (b2.mono B1.size)⟩

theorem stTL_rng {S : DState} (hr : rngSt S) (b : Bool) : ∀ x ∈ stTL b S, 0 ≤ x ∧ x ≤ 255 := by
  cases b
  · intro x hx; cases hx
  · exact rng_app (rng_app (rng_app (lineAt_rng _) (flat_rng9 lineRow fun i r h => lineRow_rng (hr.1 i r h))) (flat_rng9 lineTomb fun i r h => lineTomb_rng (hr.2 i r h))) (flat_rng9 lineSess fun i r _ => lineSess_rng r)
theorem stTL_len (S : DState) : (stTL (tB (StP S)) S).length ≤ 10000 := by
  obtain ⟨b, hb⟩ : ∃ b, b = tB (StP S) := ⟨_, rfl⟩
  rw [← hb]
  cases b
  · simp [stTL]
  · have hN := stn_of (tB_yes hb.symm)
    have h1 := flat_len lineRow 200 S.rows fun i x hx => lineRow_len (hN.rows i x hx)
    have h2 := flat_len lineTomb 60 S.tombs fun i x hx => lineTomb_len (hN.tombs i x hx)
    have h3 := flat_len lineSess 60 S.sess fun i x hx => lineSess_len (hN.sess i x hx)
    have h4 := decL_len S.index.toNat (by have := hN.index; omega)
    have := hN.rl
    have := hN.tl
    have := hN.sl
    simp only [stTL, if_true, linesL, lineAt, List.length_append, List.length_cons, List.length_nil]
    omega

end Go.Proofs.YtheojmjnpemkbaaDoor

namespace Go.Proofs.YtheojmjnpemkbaaDoor
open Go.RowKit

/-- Of the blocks that lay there only some of those from lo up to hi have turned: rows of bytes (their sizes have not), and the block og. -/
structure Mk (lo hi : Nat) (og : Option Nat) (w w' : World) : Prop where
  os : w'.os = w.os
  tape : w'.tape = w.tape
  output : w'.output = w.output
  size : w.heap.size ≤ w'.heap.size
  out : ∀ k, k < w.heap.size → (k < lo ∨ hi ≤ k) → w'.heap[k]? = w.heap[k]?
  byt : ∀ (k : Nat) (cur : Array Value), w.heap[k]? = some (.cells cur 5 (0, 0)) → ∃ cur' : Array Value, w'.heap[k]? = some (.cells cur' 5 (0, 0)) ∧ cur'.size = cur.size
  oth : ∀ (k : Nat) (cur : Array Value) (t : TypeId), t ≠ 5 → some k ≠ og → w.heap[k]? = some (.cells cur t (0, 0)) → w'.heap[k]? = some (.cells cur t (0, 0))

theorem Mk.re (lo hi : Nat) (og : Option Nat) (w : World) : Mk lo hi og w w := ⟨rfl, rfl, rfl, Nat.le_refl _, fun _ _ _ => rfl, fun _ cur h => ⟨cur, h, rfl⟩, fun _ _ _ _ _ h => h⟩
theorem Mk.tr {lo hi : Nat} {og : Option Nat} {a b c : World} (h : Mk lo hi og a b) (k : Mk lo hi og b c) : Mk lo hi og a c :=
  ⟨k.os.trans h.os, k.tape.trans h.tape, k.output.trans h.output, Nat.le_trans h.size k.size, fun i hi' ho => (k.out i (Nat.lt_of_lt_of_le hi' h.size) ho).trans (h.out i hi' ho),
   fun i cur hc => by
     obtain ⟨c1, h1, s1⟩ := h.byt i cur hc
     obtain ⟨c2, h2, s2⟩ := k.byt i c1 h1
     exact ⟨c2, h2, s2.trans s1⟩,
   fun i cur t ht ho hc => k.oth i cur t ht ho (h.oth i cur t ht ho hc)⟩
theorem Mk.some {lo hi : Nat} {og : Option Nat} {a b : World} (h : Mk lo hi none a b) : Mk lo hi og a b :=
  ⟨h.os, h.tape, h.output, h.size, h.out, h.byt, fun i cur t ht _ hc => h.oth i cur t ht (by simp) hc⟩

theorem mk_set {lo hi x j : Nat} {og : Option Nat} {w : World} {cur : Array Value} {t : TypeId} (u : Value) (hx : w.heap[x]? = some (.cells cur t (0, 0))) (h1 : lo ≤ x) (h2 : x < hi) (ht : t = 5 ∨ some x = og) : Mk lo hi og w (w.setCell ⟨x, j, none⟩ u) := by
  have hg := set_grown w x j u
  refine ⟨hg.os, hg.tape, hg.output, hg.size, fun k hk ho => hg.block k hk (by intro e; cases e; omega), fun k c hc => ?_, fun k c t' ht' ho hc => ?_⟩
  · by_cases e : k = x
    · subst e
      rw [hx] at hc
      cases hc
      exact ⟨_, set_block hx j u, by simp⟩
    · exact ⟨c, set_other x j u e hc, rfl⟩
  · by_cases e : k = x
    · subst e
      rw [hx] at hc
      cases hc
      rcases ht with rfl | rfl
      · exact absurd rfl ht'
      · exact absurd rfl ho
    · exact set_other x j u e hc

/-- A slice of bytes that may be marked: it lies in a block from lo up to hi. -/
def WB (lo hi : Nat) (w : World) (v : Value) : Prop :=
  v = .slice none 0 0 ∨ ∃ (g n cap : Nat) (cur : Array Value), v = .slice (some ⟨g, 0, none⟩) n cap ∧ lo ≤ g ∧ g < hi ∧ n ≤ cap ∧ cur.size = cap ∧ w.heap[g]? = some (.cells cur 5 (0, 0)) ∧ n ≤ 1048576

theorem WB.mk {lo hi : Nat} {og : Option Nat} {w w' : World} {v : Value} (h : WB lo hi w v) (k : Mk lo hi og w w') : WB lo hi w' v := by
  rcases h with h | ⟨g, n, cap, cur, rfl, h1, h2, h3, h4, h5, h6⟩
  · exact .inl h
  · obtain ⟨c', e1, e2⟩ := k.byt g cur h5
    exact .inr ⟨g, n, cap, c', rfl, h1, h2, h3, e2.trans h4, e1, h6⟩
theorem WB.of {lo : Nat} {w : World} {v : Value} {xs : List Int} {base : Nat} (h : Ow w base v xs) (hb : lo ≤ base) (hl : xs.length ≤ 1048576) : WB lo w.heap.size w v := by
  rcases h.2 with ⟨rfl, _⟩ | ⟨g, cap, cur, rfl, h1, h2, h3, h4, h5, _⟩
  · exact .inl rfl
  · exact .inr ⟨g, _, cap, cur, rfl, by omega, (Array.getElem?_eq_some_iff.1 h2).1, h3, by omega, h2, hl⟩
theorem WB.grown {lo hi : Nat} {w w' : World} {v : Value} (h : WB lo hi w v) (k : Ext w w') : WB lo hi w' v := by
  rcases h with h | ⟨g, n, cap, cur, rfl, h1, h2, h3, h4, h5, h6⟩
  · exact .inl h
  · exact .inr ⟨g, n, cap, cur, rfl, h1, h2, h3, h4, (k.block g (Array.getElem?_eq_some_iff.1 h5).1 (by simp)).trans h5, h6⟩

set_option maxHeartbeats 1000000 in
theorem markW (lo hi : Nat) (og : Option Nat) (v : Value) (k : Int) (w : World) (h : WB lo hi w v) (hk0 : 0 ≤ k) (hk : k ≤ 1152921504606846976) :
    Calls Tryd.prog 11 #[v, .int .i64 k] w fun e w' => ∃ n : Nat, n ≤ 1048576 ∧ e = .returned (.int .i64 (k + n)) ∧ Mk lo hi og w w' := by
  rcases h with rfl | ⟨g, n, cap, cur, rfl, h1, h2, h3, h4, h5, h6⟩
  · go_enter Tryd.func11, Tryd.ntmps11
    go_wp2
    refine wp_loop_rounds 1 ?_
    rw [rounds_succ]
    go_wp2
    go_ret
    exact ⟨0, by omega, by simp, Mk.re _ _ _ _⟩
  · have H5 : Hid (w.heap[g]? = some (.cells cur 5 (0, 0))) := h5
    have H4 : Hid (cur.size = cap) := h4
    clear h4 h5
    go_enter Tryd.func11, Tryd.ntmps11
    go_wp2
    go_loopw [1, 5] (fun q i wr => ∃ j : Nat, j ≤ n ∧ i = .int .i64 j ∧ q = .int .i64 (k + j) ∧ Mk lo hi og w wr) (fun _ i _ => n - (intOf i).toNat)
    case atStart => exact ⟨0, Nat.zero_le _, rfl, by go_num, Mk.re _ _ _ _⟩
    case round =>
      obtain ⟨j, hj, rfl, rfl, hm⟩ := hrel
      by_cases hlt : j < n
      · obtain ⟨c', e1, e2⟩ := hm.byt g cur H5.out
        obtain ⟨uu, huu⟩ : ∃ uu, c'[j]? = some uu := ⟨_, Array.getElem?_eq_getElem (by have := H4.out; omega)⟩
        obtain ⟨hu, hf⟩ := at_block e1 j uu huu
        have HM : Hid (∀ u, Mk lo hi og w (wr.setCell ⟨g, j, none⟩ u)) := fun u => hm.tr (mk_set u e1 h1 h2 (.inl rfl))
        clear e1 e2 hm huu
        go_wp2
        go_roundw
        case rel => exact ⟨j + 1, by omega, by go_num, by go_num, HM.out _⟩
        case measure => simp [intOf]; omega
      · have hjn : j = n := by omega
        subst hjn
        go_wp2
        go_ret
        exact ⟨j, h6, rfl, hm⟩

/-- An array of n elements of k cells in the block g; of its cells those of the texts (tx) are known. -/
def Arr (w : World) (g : Nat) (t : TypeId) (k n : Nat) (tx : Nat → Prop) (F : Nat → Nat → Value) : Prop :=
  ∃ cur : Array Value, w.heap[g]? = some (.cells cur t (0, 0)) ∧ cur.size = n * k ∧ ∀ i, i < n → ∀ j, j < k → tx j → cur[i * k + j]? = some (F i j)
theorem Arr.of {w : World} {g : Nat} {t : TypeId} {k n : Nat} {tx : Nat → Prop} {F : Nat → Nat → Value} (h : Blk w g t k n n F) : Arr w g t k n tx F := by
  obtain ⟨cur, h1, h2, h3⟩ := h
  exact ⟨cur, h1, h2, fun i hi j hj _ => h3 i hi j hj⟩
theorem Arr.mk {lo hi : Nat} {og : Option Nat} {w w' : World} {g : Nat} {t : TypeId} {k n : Nat} {tx : Nat → Prop} {F : Nat → Nat → Value} (h : Arr w g t k n tx F) (m : Mk lo hi og w w') (ht : t ≠ 5) (hg : some g ≠ og) : Arr w' g t k n tx F := by
  obtain ⟨cur, h1, h2, h3⟩ := h
  exact ⟨cur, m.oth g cur t ht hg h1, h2, h3⟩
theorem Arr.ext {w w' : World} {g : Nat} {t : TypeId} {k n : Nat} {tx : Nat → Prop} {F : Nat → Nat → Value} (h : Arr w g t k n tx F) (m : Ext w w') : Arr w' g t k n tx F := by
  obtain ⟨cur, h1, h2, h3⟩ := h
  exact ⟨cur, (m.block g (Array.getElem?_eq_some_iff.1 h1).1 (by simp)).trans h1, h2, h3⟩
theorem Arr.cell {w : World} {g : Nat} {t : TypeId} {k n : Nat} {tx : Nat → Prop} {F : Nat → Nat → Value} (h : Arr w g t k n tx F) (i : Nat) (hi : i < n) (j : Nat) (hj : j < k) (ht : tx j) : w.cell? ⟨g, i * k + j, none⟩ = some (F i j) := by
  obtain ⟨cur, h1, h2, h3⟩ := h
  rw [cell_of_row w g _ cur t (0, 0) h1]
  exact h3 i hi j hj ht
theorem Arr.at {w : World} {g : Nat} {t : TypeId} {k n : Nat} {tx : Nat → Prop} {F : Nat → Nat → Value} (h : Arr w g t k n tx F) (x : Nat) (hx : x < n * k) : (∃ u, w.cell? ⟨g, x, none⟩ = some u) ∧ w.frozen? ⟨g, x, none⟩ = false := by
  obtain ⟨cur, h1, h2, _⟩ := h
  have := at_block h1 x cur[x] (Array.getElem?_eq_getElem (by omega))
  exact ⟨⟨_, this.1⟩, this.2⟩
theorem Arr.set {w : World} {g : Nat} {t : TypeId} {k n : Nat} {tx : Nat → Prop} {F : Nat → Nat → Value} (h : Arr w g t k n tx F) (i j : Nat) (hj : j < k) (ht : ¬ tx j) (u : Value) : Arr (w.setCell ⟨g, i * k + j, none⟩ u) g t k n tx F := by
  obtain ⟨cur, h1, h2, h3⟩ := h
  refine ⟨_, set_block h1 _ u, by simp [h2], fun i' hi' j' hj' ht' => ?_⟩
  rw [Array.getElem?_setIfInBounds, if_neg]
  · exact h3 i' hi' j' hj' ht'
  · intro e
    have e1 : (j + i * k) % k = (j' + i' * k) % k := by rw [Nat.add_comm j, Nat.add_comm j', e]
    rw [Nat.add_mul_mod_self_right, Nat.add_mul_mod_self_right, Nat.mod_eq_of_lt hj, Nat.mod_eq_of_lt hj'] at e1
    exact ht (e1 ▸ ht')
theorem Arr.mkset {lo hi : Nat} {w : World} {g : Nat} {t : TypeId} {k n : Nat} {tx : Nat → Prop} {F : Nat → Nat → Value} (h : Arr w g t k n tx F) (h1 : lo ≤ g) (h2 : g < hi) (x : Nat) (u : Value) : Mk lo hi (Option.some g) w (w.setCell ⟨g, x, none⟩ u) := by
  obtain ⟨cur, hc, _, _⟩ := h
  exact mk_set u hc h1 h2 (.inr rfl)

end Go.Proofs.YtheojmjnpemkbaaDoor

namespace Go.Proofs.YtheojmjnpemkbaaDoor
open Go.RowKit

/-- Which cells of an element are texts. -/
def txR : Nat → Prop := fun j => j = 0 ∨ j = 1

set_option maxHeartbeats 4000000 in
theorem markRM (lo hi g n : Nat) (F : Nat → Nat → Value) (k : Int) (w : World) (h : Arr w g 57 4 n txR F) (hw : ∀ i, i < n → WB lo hi w (F i 0) ∧ WB lo hi w (F i 1)) (h1 : lo ≤ g) (h2 : g < hi) (hn : n ≤ 1048576) (hk0 : 0 ≤ k) (hk : k ≤ 70368744177664) :
    Calls Tryd.prog 32 #[.slice (some ⟨g, 0, none⟩) n n, .int .i64 k] w fun e w' => ∃ m : Nat, m ≤ n * 2097154 ∧ e = .returned (.int .i64 (k + m)) ∧ Mk lo hi (some g) w w' := by
  have HW : Hid (∀ i, i < n → WB lo hi w (F i 0) ∧ WB lo hi w (F i 1)) := hw
  have HA : Hid (Arr w g 57 4 n txR F) := h
  have h5 : (57 : TypeId) ≠ 5 := by decide
  have H5 : Hid ((57 : TypeId) ≠ 5) := h5
  clear hw h h5
  go_enter Tryd.func32, Tryd.ntmps32
  go_wp2
  go_loopw [1, 5] (fun q i wr => ∃ j m : Nat, j ≤ n ∧ m ≤ j * 2097154 ∧ i = .int .i64 j ∧ q = .int .i64 (k + m) ∧ Mk lo hi (some g) w wr ∧ Hid (Arr wr g 57 4 n txR F)) (fun _ i _ => n - (intOf i).toNat)
  case atStart => exact ⟨0, 0, Nat.zero_le _, by omega, rfl, by go_num, Mk.re _ _ _ _, HA.out⟩
  case round =>
    obtain ⟨j, m, hj, hmj, rfl, rfl, hm, ha⟩ := hrel
    by_cases hlt : j < n
    · have hlt' : (j : Int) < (n : Int) := by omega
      have HM0 : Hid (Mk lo hi (some g) w wr) := hm
      clear hm
      have d0 := Arr.cell ha.out j hlt 0 (by omega) (by unfold txR; omega)
      rw [Nat.add_zero] at d0
      go_wp2_with fail
      refine (markW lo hi none _ _ wr ((HW.out j hlt).1.mk HM0.out) (by omega) (by omega)).mono ?_
      rintro e w1 ⟨n1, hn1, rfl, M1⟩
      have HM1 : Hid (Mk lo hi (some g) w w1) := (HM0.out).tr M1.some
      have HA1 : Hid (Arr w1 g 57 4 n txR F) := (ha.out).mk M1 H5.out (by simp)
      clear M1 d0
      have d1 := Arr.cell HA1.out j hlt 1 (by omega) (by unfold txR; omega)
      go_wp2_with fail
      refine (markW lo hi none _ _ w1 ((HW.out j hlt).2.mk HM1.out) (by omega) (by omega)).mono ?_
      rintro e w2 ⟨n2, hn2, rfl, M2⟩
      have HM2 : Hid (Mk lo hi (some g) w w2) := (HM1.out).tr M2.some
      have HA2 : Hid (Arr w2 g 57 4 n txR F) := (HA1.out).mk M2 H5.out (by simp)
      clear M2 d1
      obtain ⟨⟨u0, a0⟩, f0⟩ := Arr.at HA2.out (j * 4 + 2) (by omega)
      obtain ⟨⟨u1, a1⟩, f1⟩ := Arr.at HA2.out (j * 4 + 3) (by omega)
      have HZ : Hid (∀ V0 V1 : Value, Mk lo hi (some g) w ((w2.setCell ⟨g, j * 4 + 2, none⟩ V0).setCell ⟨g, j * 4 + 3, none⟩ V1) ∧ Arr ((w2.setCell ⟨g, j * 4 + 2, none⟩ V0).setCell ⟨g, j * 4 + 3, none⟩ V1) g 57 4 n txR F) := fun V0 V1 => ⟨((((HM2.out).tr (Arr.mkset (HA2.out) h1 h2 (j * 4 + 2) V0))).tr (Arr.mkset (((HA2.out).set j 2 (by omega) (by unfold txR; first | omega | simp) V0)) h1 h2 (j * 4 + 3) V1)), ((((HA2.out).set j 2 (by omega) (by unfold txR; first | omega | simp) V0)).set j 3 (by omega) (by unfold txR; first | omega | simp) V1)⟩
      clear ha HM0 HM1 HA1 HM2 HA2
      go_wp2
      go_roundw
      case rel => exact ⟨j + 1, m + n1 + n2 + 2, by omega, by omega, by go_num, by go_num, (HZ.out _ _).1, (HZ.out _ _).2⟩
      case measure => simp [intOf]; omega
    · have hjn : j = n := by omega
      subst hjn
      clear ha
      go_wp2
      go_ret
      exact ⟨m, hmj, rfl, hm⟩

/-- Which cells of an element are texts. -/
def txT : Nat → Prop := fun j => j = 0

set_option maxHeartbeats 4000000 in
theorem markTM (lo hi g n : Nat) (F : Nat → Nat → Value) (k : Int) (w : World) (h : Arr w g 60 2 n txT F) (hw : ∀ i, i < n → WB lo hi w (F i 0)) (h1 : lo ≤ g) (h2 : g < hi) (hn : n ≤ 1048576) (hk0 : 0 ≤ k) (hk : k ≤ 70368744177664) :
    Calls Tryd.prog 33 #[.slice (some ⟨g, 0, none⟩) n n, .int .i64 k] w fun e w' => ∃ m : Nat, m ≤ n * 1048577 ∧ e = .returned (.int .i64 (k + m)) ∧ Mk lo hi (some g) w w' := by
  have HW : Hid (∀ i, i < n → WB lo hi w (F i 0)) := hw
  have HA : Hid (Arr w g 60 2 n txT F) := h
  have h5 : (60 : TypeId) ≠ 5 := by decide
  have H5 : Hid ((60 : TypeId) ≠ 5) := h5
  clear hw h h5
  go_enter Tryd.func33, Tryd.ntmps33
  go_wp2
  go_loopw [1, 5] (fun q i wr => ∃ j m : Nat, j ≤ n ∧ m ≤ j * 1048577 ∧ i = .int .i64 j ∧ q = .int .i64 (k + m) ∧ Mk lo hi (some g) w wr ∧ Hid (Arr wr g 60 2 n txT F)) (fun _ i _ => n - (intOf i).toNat)
  case atStart => exact ⟨0, 0, Nat.zero_le _, by omega, rfl, by go_num, Mk.re _ _ _ _, HA.out⟩
  case round =>
    obtain ⟨j, m, hj, hmj, rfl, rfl, hm, ha⟩ := hrel
    by_cases hlt : j < n
    · have hlt' : (j : Int) < (n : Int) := by omega
      have HM0 : Hid (Mk lo hi (some g) w wr) := hm
      clear hm
      have d0 := Arr.cell ha.out j hlt 0 (by omega) (by unfold txT; omega)
      rw [Nat.add_zero] at d0
      go_wp2_with fail
      refine (markW lo hi none _ _ wr ((HW.out j hlt).mk HM0.out) (by omega) (by omega)).mono ?_
      rintro e w1 ⟨n1, hn1, rfl, M1⟩
      have HM1 : Hid (Mk lo hi (some g) w w1) := (HM0.out).tr M1.some
      have HA1 : Hid (Arr w1 g 60 2 n txT F) := (ha.out).mk M1 H5.out (by simp)
      clear M1 d0
      obtain ⟨⟨u0, a0⟩, f0⟩ := Arr.at HA1.out (j * 2 + 1) (by omega)
      have HZ : Hid (∀ V0 : Value, Mk lo hi (some g) w (w1.setCell ⟨g, j * 2 + 1, none⟩ V0) ∧ Arr (w1.setCell ⟨g, j * 2 + 1, none⟩ V0) g 60 2 n txT F) := fun V0 => ⟨((HM1.out).tr (Arr.mkset (HA1.out) h1 h2 (j * 2 + 1) V0)), ((HA1.out).set j 1 (by omega) (by unfold txT; first | omega | simp) V0)⟩
      clear ha HM0 HM1 HA1
      go_wp2
      go_roundw
      case rel => exact ⟨j + 1, m + n1 + 1, by omega, by omega, by go_num, by go_num, (HZ.out _).1, (HZ.out _).2⟩
      case measure => simp [intOf]; omega
    · have hjn : j = n := by omega
      subst hjn
      clear ha
      go_wp2
      go_ret
      exact ⟨m, hmj, rfl, hm⟩

/-- Which cells of an element are texts. -/
def txS : Nat → Prop := fun _ => False

set_option maxHeartbeats 4000000 in
theorem markSM (lo hi g n : Nat) (F : Nat → Nat → Value) (k : Int) (w : World) (h : Arr w g 62 2 n txS F) (hw : ∀ i, i < n → True) (h1 : lo ≤ g) (h2 : g < hi) (hn : n ≤ 1048576) (hk0 : 0 ≤ k) (hk : k ≤ 70368744177664) :
    Calls Tryd.prog 34 #[.slice (some ⟨g, 0, none⟩) n n, .int .i64 k] w fun e w' => ∃ m : Nat, m ≤ n * 2 ∧ e = .returned (.int .i64 (k + m)) ∧ Mk lo hi (some g) w w' := by
  have HW : Hid (∀ i, i < n → True) := hw
  have HA : Hid (Arr w g 62 2 n txS F) := h
  have h5 : (62 : TypeId) ≠ 5 := by decide
  have H5 : Hid ((62 : TypeId) ≠ 5) := h5
  clear hw h h5
  go_enter Tryd.func34, Tryd.ntmps34
  go_wp2
  go_loopw [1, 5] (fun q i wr => ∃ j m : Nat, j ≤ n ∧ m ≤ j * 2 ∧ i = .int .i64 j ∧ q = .int .i64 (k + m) ∧ Mk lo hi (some g) w wr ∧ Hid (Arr wr g 62 2 n txS F)) (fun _ i _ => n - (intOf i).toNat)
  case atStart => exact ⟨0, 0, Nat.zero_le _, by omega, rfl, by go_num, Mk.re _ _ _ _, HA.out⟩
  case round =>
    obtain ⟨j, m, hj, hmj, rfl, rfl, hm, ha⟩ := hrel
    by_cases hlt : j < n
    · have hlt' : (j : Int) < (n : Int) := by omega
      have HM0 : Hid (Mk lo hi (some g) w wr) := hm
      clear hm
      obtain ⟨⟨u0, a0⟩, f0⟩ := Arr.at ha.out (j * 2 + 0) (by omega)
      rw [Nat.add_zero] at a0 f0
      obtain ⟨⟨u1, a1⟩, f1⟩ := Arr.at ha.out (j * 2 + 1) (by omega)
      have HZ : Hid (∀ V0 V1 : Value, Mk lo hi (some g) w ((wr.setCell ⟨g, j * 2 + 0, none⟩ V0).setCell ⟨g, j * 2 + 1, none⟩ V1) ∧ Arr ((wr.setCell ⟨g, j * 2 + 0, none⟩ V0).setCell ⟨g, j * 2 + 1, none⟩ V1) g 62 2 n txS F) := fun V0 V1 => ⟨((((HM0.out).tr (Arr.mkset (ha.out) h1 h2 (j * 2 + 0) V0))).tr (Arr.mkset (((ha.out).set j 0 (by omega) (by unfold txS; first | omega | simp) V0)) h1 h2 (j * 2 + 1) V1)), ((((ha.out).set j 0 (by omega) (by unfold txS; first | omega | simp) V0)).set j 1 (by omega) (by unfold txS; first | omega | simp) V1)⟩
      clear ha HM0
      go_wp2
      go_roundw
      case rel => exact ⟨j + 1, m + 2, by omega, by omega, by go_num, by go_num, (HZ.out _ _).1, (HZ.out _ _).2⟩
      case measure => simp [intOf]; omega
    · have hjn : j = n := by omega
      subst hjn
      clear ha
      go_wp2
      go_ret
      exact ⟨m, hmj, rfl, hm⟩

/-- Which cells of an element are texts. -/
def txL : Nat → Prop := fun _ => False

set_option maxHeartbeats 4000000 in
theorem markLM (lo hi g n : Nat) (F : Nat → Nat → Value) (k : Int) (w : World) (h : Arr w g 81 4 n txL F) (hw : ∀ i, i < n → True) (h1 : lo ≤ g) (h2 : g < hi) (hn : n ≤ 1048576) (hk0 : 0 ≤ k) (hk : k ≤ 70368744177664) :
    Calls Tryd.prog 35 #[.slice (some ⟨g, 0, none⟩) n n, .int .i64 k] w fun e w' => ∃ m : Nat, m ≤ n * 4 ∧ e = .returned (.int .i64 (k + m)) ∧ Mk lo hi (some g) w w' := by
  have HW : Hid (∀ i, i < n → True) := hw
  have HA : Hid (Arr w g 81 4 n txL F) := h
  have h5 : (81 : TypeId) ≠ 5 := by decide
  have H5 : Hid ((81 : TypeId) ≠ 5) := h5
  clear hw h h5
  go_enter Tryd.func35, Tryd.ntmps35
  go_wp2
  go_loopw [1, 5] (fun q i wr => ∃ j m : Nat, j ≤ n ∧ m ≤ j * 4 ∧ i = .int .i64 j ∧ q = .int .i64 (k + m) ∧ Mk lo hi (some g) w wr ∧ Hid (Arr wr g 81 4 n txL F)) (fun _ i _ => n - (intOf i).toNat)
  case atStart => exact ⟨0, 0, Nat.zero_le _, by omega, rfl, by go_num, Mk.re _ _ _ _, HA.out⟩
  case round =>
    obtain ⟨j, m, hj, hmj, rfl, rfl, hm, ha⟩ := hrel
    by_cases hlt : j < n
    · have hlt' : (j : Int) < (n : Int) := by omega
      have HM0 : Hid (Mk lo hi (some g) w wr) := hm
      clear hm
      obtain ⟨⟨u0, a0⟩, f0⟩ := Arr.at ha.out (j * 4 + 0) (by omega)
      rw [Nat.add_zero] at a0 f0
      obtain ⟨⟨u1, a1⟩, f1⟩ := Arr.at ha.out (j * 4 + 1) (by omega)
      obtain ⟨⟨u2, a2⟩, f2⟩ := Arr.at ha.out (j * 4 + 2) (by omega)
      obtain ⟨⟨u3, a3⟩, f3⟩ := Arr.at ha.out (j * 4 + 3) (by omega)
      have HZ : Hid (∀ V0 V1 V2 V3 : Value, Mk lo hi (some g) w ((((wr.setCell ⟨g, j * 4 + 0, none⟩ V0).setCell ⟨g, j * 4 + 1, none⟩ V1).setCell ⟨g, j * 4 + 2, none⟩ V2).setCell ⟨g, j * 4 + 3, none⟩ V3) ∧ Arr ((((wr.setCell ⟨g, j * 4 + 0, none⟩ V0).setCell ⟨g, j * 4 + 1, none⟩ V1).setCell ⟨g, j * 4 + 2, none⟩ V2).setCell ⟨g, j * 4 + 3, none⟩ V3) g 81 4 n txL F) := fun V0 V1 V2 V3 => ⟨((((((((HM0.out).tr (Arr.mkset (ha.out) h1 h2 (j * 4 + 0) V0))).tr (Arr.mkset (((ha.out).set j 0 (by omega) (by unfold txL; first | omega | simp) V0)) h1 h2 (j * 4 + 1) V1))).tr (Arr.mkset (((((ha.out).set j 0 (by omega) (by unfold txL; first | omega | simp) V0)).set j 1 (by omega) (by unfold txL; first | omega | simp) V1)) h1 h2 (j * 4 + 2) V2))).tr (Arr.mkset (((((((ha.out).set j 0 (by omega) (by unfold txL; first | omega | simp) V0)).set j 1 (by omega) (by unfold txL; first | omega | simp) V1)).set j 2 (by omega) (by unfold txL; first | omega | simp) V2)) h1 h2 (j * 4 + 3) V3)), ((((((((ha.out).set j 0 (by omega) (by unfold txL; first | omega | simp) V0)).set j 1 (by omega) (by unfold txL; first | omega | simp) V1)).set j 2 (by omega) (by unfold txL; first | omega | simp) V2)).set j 3 (by omega) (by unfold txL; first | omega | simp) V3)⟩
      clear ha HM0
      go_wp2
      go_roundw
      case rel => exact ⟨j + 1, m + 4, by omega, by omega, by go_num, by go_num, (HZ.out _ _ _ _).1, (HZ.out _ _ _ _).2⟩
      case measure => simp [intOf]; omega
    · have hjn : j = n := by omega
      subst hjn
      clear ha
      go_wp2
      go_ret
      exact ⟨m, hmj, rfl, hm⟩

/-- Only blocks from lo up to hi have turned. -/
structure Mid (lo hi : Nat) (w w' : World) : Prop where
  os : w'.os = w.os
  tape : w'.tape = w.tape
  output : w'.output = w.output
  size : w.heap.size ≤ w'.heap.size
  out : ∀ k, k < w.heap.size → (k < lo ∨ hi ≤ k) → w'.heap[k]? = w.heap[k]?
theorem Mk.mid {lo hi : Nat} {og : Option Nat} {w w' : World} (h : Mk lo hi og w w') : Mid lo hi w w' := ⟨h.os, h.tape, h.output, h.size, h.out⟩
theorem Mid.tr {lo hi : Nat} {a b c : World} (h : Mid lo hi a b) (k : Mid lo hi b c) : Mid lo hi a c :=
  ⟨k.os.trans h.os, k.tape.trans h.tape, k.output.trans h.output, Nat.le_trans h.size k.size, fun i hi' ho => (k.out i (Nat.lt_of_lt_of_le hi' h.size) ho).trans (h.out i hi' ho)⟩
theorem Mid.ext {lo hi : Nat} {a b : World} (h : Ext a b) : Mid lo hi a b := ⟨h.os, h.tape, h.output, h.size, fun i hi' _ => h.block i hi' (by simp)⟩
theorem Mid.below {lo hi B : Nat} {w0 w w' : World} (hb : Below B w0 w) (hs : B ≤ w.heap.size) (hl : B ≤ lo) (h : Mid lo hi w w') : Below B w0 w' :=
  ⟨h.os.trans hb.os, h.tape.trans hb.tape, h.output.trans hb.output, Nat.le_trans hb.size h.size, fun k hk => (h.out k (by omega) (.inl (by omega))).trans (hb.block k hk)⟩

/-- A state's memory, as far as its marks need it: its four arrays and its texts, all from lo up to hi. -/
def Shp (lo hi : Nat) (w : World) (gr gt gs gl nr nt ns nl : Nat) : Prop :=
  ∃ FR FT FS FL : Nat → Nat → Value, (Arr w gr 57 4 nr txR FR ∧ ∀ i, i < nr → WB lo hi w (FR i 0) ∧ WB lo hi w (FR i 1)) ∧ (Arr w gt 60 2 nt txT FT ∧ ∀ i, i < nt → WB lo hi w (FT i 0)) ∧
    Arr w gs 62 2 ns txS FS ∧ Arr w gl 81 4 nl txL FL ∧ (lo ≤ gr ∧ gr < hi) ∧ (lo ≤ gt ∧ gt < hi) ∧ (lo ≤ gs ∧ gs < hi) ∧ (lo ≤ gl ∧ gl < hi) ∧ nr ≤ 1048576 ∧ nt ≤ 1048576 ∧ ns ≤ 1048576 ∧ nl ≤ 1048576

theorem Shp.ext {lo hi : Nat} {w w' : World} {gr gt gs gl nr nt ns nl : Nat} (h : Shp lo hi w gr gt gs gl nr nt ns nl) (e : Ext w w') : Shp lo hi w' gr gt gs gl nr nt ns nl := by
  obtain ⟨FR, FT, FS, FL, ⟨a1, a2⟩, ⟨b1, b2⟩, c1, d1, r⟩ := h
  exact ⟨FR, FT, FS, FL, ⟨a1.ext e, fun i hi => ⟨(a2 i hi).1.grown e, (a2 i hi).2.grown e⟩⟩, ⟨b1.ext e, fun i hi => (b2 i hi).grown e⟩, c1.ext e, d1.ext e, r⟩

theorem shp_of {w : World} {base gr gt gs gl : Nat} {S : DState} (h : OSt w base gr gt gs gl S) (hl : LenSt S 1048576) : Shp base w.heap.size w gr gt gs gl S.rows.length S.tombs.length S.sess.length S.lasts.length := by
  obtain ⟨⟨b1, FR, r1, r2⟩, ⟨b2, FT, t1, t2⟩, ⟨b3, FS, s1, _⟩, ⟨b4, FL, l1, _⟩⟩ := h
  refine ⟨FR, FT, FS, FL, ⟨Arr.of r1, fun i hi => ?_⟩, ⟨Arr.of t1, fun i hi => ?_⟩, Arr.of s1, Arr.of l1, ⟨b1, blk_lt r1⟩, ⟨b2, blk_lt t1⟩, ⟨b3, blk_lt s1⟩, ⟨b4, blk_lt l1⟩, hl.rows, hl.tombs, hl.sess, hl.lasts⟩
  · obtain ⟨r, hr⟩ : ∃ r, S.rows[i]? = some r := ⟨_, List.getElem?_eq_getElem hi⟩
    obtain ⟨o1, o2, _, _⟩ := r2 i r hr
    exact ⟨WB.of o1 (by omega) (hl.row i r hr).1, WB.of o2 (by omega) (hl.row i r hr).2⟩
  · obtain ⟨r, hr⟩ : ∃ r, S.tombs[i]? = some r := ⟨_, List.getElem?_eq_getElem hi⟩
    exact WB.of (t2 i r hr).1 (by omega) (hl.tomb i r hr)

set_option maxHeartbeats 4000000 in
theorem markStM (lo hi gr gt gs gl nr nt ns nl : Nat) (x0 x3 : Value) (k : Int) (w : World) (h : Shp lo hi w gr gt gs gl nr nt ns nl) (hh : hi ≤ w.heap.size) (hk0 : 0 ≤ k) (hk : k ≤ 1073741824) :
    Calls Tryd.prog 10 #[.agg #[x0, .slice (some ⟨gr, 0, none⟩) nr nr, .slice (some ⟨gt, 0, none⟩) nt nt, x3, .slice (some ⟨gs, 0, none⟩) ns ns, .slice (some ⟨gl, 0, none⟩) nl nl], .int .i64 k] w fun e w' =>
      ∃ k' : Int, 0 ≤ k' ∧ k' ≤ 35184372088832 ∧ e = .returned (.int .i64 k') ∧ Mid lo hi w w' := by
  have hE : ∀ w : World, ∀ o, Ext w (w.alloc o) := fun w o => World.grownBy_alloc _ _ _
  go_enter Tryd.func10, Tryd.ntmps10
  go_wp2_with fail
  have P0 := heap_alloc_new w (.cells #[x0, .slice (some ⟨gr, 0, none⟩) nr nr, .slice (some ⟨gt, 0, none⟩) nt nt, x3, .slice (some ⟨gs, 0, none⟩) ns ns, .slice (some ⟨gl, 0, none⟩) nl nl] 36 (0, 0))
  have E0 := hE w (.cells #[x0, .slice (some ⟨gr, 0, none⟩) nr nr, .slice (some ⟨gt, 0, none⟩) nt nt, x3, .slice (some ⟨gs, 0, none⟩) ns ns, .slice (some ⟨gl, 0, none⟩) nl nl] 36 (0, 0))
  have z0 : w.heap.size < (w.alloc (.cells #[x0, .slice (some ⟨gr, 0, none⟩) nr nr, .slice (some ⟨gt, 0, none⟩) nt nt, x3, .slice (some ⟨gs, 0, none⟩) ns ns, .slice (some ⟨gl, 0, none⟩) nl nl] 36 (0, 0))).heap.size := by simp
  generalize w.alloc (.cells #[x0, .slice (some ⟨gr, 0, none⟩) nr nr, .slice (some ⟨gt, 0, none⟩) nt nt, x3, .slice (some ⟨gs, 0, none⟩) ns ns, .slice (some ⟨gl, 0, none⟩) nl nl] 36 (0, 0)) = W0 at P0 E0 z0 ⊢
  have HS : Hid (Shp lo hi W0 gr gt gs gl nr nt ns nl) := h.ext E0
  have HD : Hid (Mid lo hi w W0) := Mid.ext E0
  clear h E0
  obtain ⟨FR, FT, FS, FL, ⟨a1, a2⟩, ⟨b1, b2⟩, c1, d1, ⟨l1, l1'⟩, ⟨l2, l2'⟩, ⟨l3, l3'⟩, ⟨l4, l4'⟩, n1, n2, n3, n4⟩ := HS.out
  have neq : gr ≠ gt ∧ gr ≠ gs ∧ gr ≠ gl ∧ gt ≠ gs ∧ gt ≠ gl ∧ gs ≠ gl := by
    obtain ⟨u1, e1, _, _⟩ := a1
    obtain ⟨u2, e2, _, _⟩ := b1
    obtain ⟨u3, e3, _, _⟩ := c1
    obtain ⟨u4, e4, _, _⟩ := d1
    refine ⟨?_, ?_, ?_, ?_, ?_, ?_⟩
    · intro e; subst e; rw [e1] at e2; simp at e2
    · intro e; subst e; rw [e1] at e3; simp at e3
    · intro e; subst e; rw [e1] at e4; simp at e4
    · intro e; subst e; rw [e2] at e3; simp at e3
    · intro e; subst e; rw [e2] at e4; simp at e4
    · intro e; subst e; rw [e3] at e4; simp at e4
  have HNE : Hid (gr ≠ gt ∧ gr ≠ gs ∧ gr ≠ gl ∧ gt ≠ gs ∧ gt ≠ gl ∧ gs ≠ gl) := neq
  have HA : Hid (Arr W0 gr 57 4 nr txR FR ∧ ∀ i, i < nr → WB lo hi W0 (FR i 0) ∧ WB lo hi W0 (FR i 1)) := ⟨a1, a2⟩
  have HB : Hid (Arr W0 gt 60 2 nt txT FT ∧ ∀ i, i < nt → WB lo hi W0 (FT i 0)) := ⟨b1, b2⟩
  have HC : Hid (Arr W0 gs 62 2 ns txS FS) := c1
  have HDD : Hid (Arr W0 gl 81 4 nl txL FL) := d1
  clear HS a1 a2 b1 b2 c1 d1 neq
  refine (markRM lo hi gr nr FR k W0 HA.out.1 HA.out.2 l1 l1' n1 hk0 (by omega)).mono ?_
  rintro e W1 ⟨m1, hm1, rfl, M1⟩
  have P1 := (M1.out w.heap.size z0 (.inr hh)).trans P0
  have z1 := Nat.lt_of_lt_of_le z0 M1.size
  have HM1 : Hid (Mk lo hi (some gr) W0 W1) := M1
  clear M1 P0 z0
  obtain ⟨p2, _⟩ := at_block P1 2 _ rfl
  go_wp2_with fail
  refine (markTM lo hi gt nt FT _ W1 (HB.out.1.mk HM1.out (by decide) (by simp [Ne.symm HNE.out.1])) (fun i hi => (HB.out.2 i hi).mk HM1.out) l2 l2' n2 (by omega) (by omega)).mono ?_
  rintro e W2 ⟨m2, hm2, rfl, M2⟩
  have P2 := (M2.out w.heap.size z1 (.inr hh)).trans P1
  have z2 := Nat.lt_of_lt_of_le z1 M2.size
  have HM2 : Hid (Mk lo hi (some gt) W1 W2) := M2
  clear M2 P1 z1 p2
  obtain ⟨p4, _⟩ := at_block P2 4 _ rfl
  go_wp2_with fail
  refine (markSM lo hi gs ns FS _ W2 ((HC.out.mk HM1.out (by decide) (by simp [Ne.symm HNE.out.2.1])).mk HM2.out (by decide) (by simp [Ne.symm HNE.out.2.2.2.1])) (fun _ _ => trivial) l3 l3' n3 (by omega) (by omega)).mono ?_
  rintro e W3 ⟨m3, hm3, rfl, M3⟩
  have P3 := (M3.out w.heap.size z2 (.inr hh)).trans P2
  have z3 := Nat.lt_of_lt_of_le z2 M3.size
  have HM3 : Hid (Mk lo hi (some gs) W2 W3) := M3
  clear M3 P2 z2 p4
  obtain ⟨p5, _⟩ := at_block P3 5 _ rfl
  go_wp2_with fail
  refine (markLM lo hi gl nl FL _ W3 (((HDD.out.mk HM1.out (by decide) (by simp [Ne.symm HNE.out.2.2.1])).mk HM2.out (by decide) (by simp [Ne.symm HNE.out.2.2.2.2.1])).mk HM3.out (by decide) (by simp [Ne.symm HNE.out.2.2.2.2.2])) (fun _ _ => trivial) l4 l4' n4 (by omega) (by omega)).mono ?_
  rintro e W4 ⟨m4, hm4, rfl, M4⟩
  have HM4 : Hid (Mid lo hi w W4) := (((HD.out.tr HM1.out.mid).tr HM2.out.mid).tr HM3.out.mid).tr M4.mid
  clear M4 P3 z3 p5
  go_wp2
  go_ret
  exact ⟨_, by omega, by omega, rfl, HM4.out⟩

end Go.Proofs.YtheojmjnpemkbaaDoor

namespace Go.Proofs.YtheojmjnpemkbaaDoor
open Go.RowKit

/-- The marks that 'markByteS' lays from k on. -/
def marks (k : Int) : Nat → List Int
  | 0 => []
  | n + 1 => k % 256 :: marks (k + 1) n

theorem marks_len (k : Int) (n : Nat) : (marks k n).length = n := by
  induction n generalizing k with
  | zero => rfl
  | succ n ih => simp [marks, ih]

theorem marks_get (k : Int) (n j : Nat) (hj : j < n) : (marks k n).getD j 0 = (k + j) % 256 := by
  induction n generalizing k j with
  | zero => omega
  | succ n ih =>
    cases j with
    | zero => simp [marks]
    | succ j =>
      have := ih (k + 1) j (by omega)
      simp only [marks, List.getD_cons_succ]
      rw [this]
      congr 1
      omega

theorem marks_rng (k : Int) (n : Nat) : ∀ x ∈ marks k n, 0 ≤ x ∧ x ≤ 255 := by
  induction n generalizing k with
  | zero => intro x hx; cases hx
  | succ n ih =>
    intro x hx
    rcases List.mem_cons.1 hx with rfl | hx
    · omega
    · exact ih _ x hx

/-- Bytes that are marked up to j. -/
def marked (xs : List Int) (k : Int) (j : Nat) : List Int := marks k j ++ xs.drop j

theorem marked_set (xs : List Int) (k : Int) (j n : Nat) (hl : xs.length = n) (hj : j < n) : (B8 (marked xs k j)).set j (.int .u8 ((k + j) % 256)) = B8 (marked xs k (j + 1)) := by
  apply List.ext_getElem?
  intro i
  have l1 := marks_len k j
  have l2 := marks_len k (j + 1)
  rw [List.getElem?_set]
  have e1 : ∀ q, (marked xs k q)[i]? = if i < q then some ((k + i) % 256) else xs[i]? := by
    intro q
    unfold marked
    have lq := marks_len k q
    by_cases hi : i < q
    · rw [if_pos hi, List.getElem?_append_left (by omega)]
      have := marks_get k q i hi
      rw [List.getD_eq_getElem?_getD, List.getElem?_eq_getElem (by omega)] at this
      rw [List.getElem?_eq_getElem (by omega)]
      simpa using this
    · rw [if_neg hi, List.getElem?_append_right (by omega), List.getElem?_drop, lq]
      congr 1
      omega
  have e2 : (B8 (marked xs k j)).length = n := by simp [marked, l1]; omega
  by_cases e : j = i
  · subst e
    rw [if_pos rfl, if_pos (by omega), B8, List.getElem?_map, e1, if_pos (by omega)]
    rfl
  · rw [if_neg e, B8, B8, List.getElem?_map, List.getElem?_map, e1, e1]
    by_cases hi : i < j
    · rw [if_pos hi, if_pos (by omega)]
    · rw [if_neg hi, if_neg (by omega)]

set_option maxHeartbeats 1000000 in
theorem markB (base g n cap : Nat) (xs : List Int) (k : Int) (w : World) (hown : w.ownsRow base 5 1 (.slice (some ⟨g, 0, none⟩) n cap) n (B8 xs)) (hn : n ≤ 2097152) (hk0 : 0 ≤ k) (hk : k ≤ 1073741824) :
    Calls Tryd.prog 11 #[.slice (some ⟨g, 0, none⟩) n cap, .int .i64 k] w fun e w' => e = .returned (.int .i64 (k + n)) ∧
      w'.ownsRow base 5 1 (.slice (some ⟨g, 0, none⟩) n cap) n (B8 (marks k n)) ∧ w.grownBy w' (some g) := by
  have hl : xs.length = n := by simpa using hown.1
  go_enter Tryd.func11, Tryd.ntmps11
  go_wp2
  go_loopw [1, 5] (fun q i wr => ∃ j : Nat, j ≤ n ∧ i = .int .i64 j ∧ q = .int .i64 (k + j) ∧ wr.ownsRow base 5 1 (.slice (some ⟨g, 0, none⟩) n cap) n (B8 (marked xs k j)) ∧ w.grownBy wr (some g)) (fun _ i _ => n - (intOf i).toNat)
  case atStart => exact ⟨0, Nat.zero_le _, rfl, by go_num, by simpa [marked, marks] using hown, World.grownBy.refl _ _⟩
  case round =>
    obtain ⟨j, hj, rfl, rfl, hown', hg⟩ := hrel
    by_cases hlt : j < n
    · have hf : wr.frozen? ⟨g, j, none⟩ = false := hown'.frozenAt j
      obtain ⟨u, hu⟩ : ∃ u, wr.cell? ⟨g, j, none⟩ = some u := by
        rw [hown'.cellAt j (by omega)]
        exact ⟨_, List.getElem?_eq_getElem (by have := hown'.1; omega)⟩
      have R := hown'.stored j (.int .u8 ((k + j) % 256))
      rw [marked_set xs k j n hl hlt] at R
      have HR : Hid ((wr.setCell ⟨g, j, none⟩ (.int .u8 ((k + j) % 256))).ownsRow base 5 1 (.slice (some ⟨g, 0, none⟩) n cap) n (B8 (marked xs k (j + 1)))) := R.1
      have HG : Hid (w.grownBy (wr.setCell ⟨g, j, none⟩ (.int .u8 ((k + j) % 256))) (some g)) :=
        ⟨R.2.os.trans hg.os, R.2.tape.trans hg.tape, R.2.output.trans hg.output, Nat.le_trans hg.size R.2.size, fun i hi he => (R.2.block i (Nat.lt_of_lt_of_le hi hg.size) he).trans (hg.block i hi he)⟩
      clear R
      go_wp2
      go_roundw
      case rel => exact ⟨j + 1, by omega, by go_num, by go_num, HR.out, HG.out⟩
      case measure => simp [intOf]; omega
    · have hjn : j = n := by omega
      subst hjn
      go_wp2
      go_ret
      refine ⟨rfl, ?_, hg⟩
      have e : marked xs k j = marks k j := by simp [marked, List.drop_of_length_le (Nat.le_of_eq hl)]
      rw [← e]
      exact hown'

set_option maxHeartbeats 1000000 in
/-- A slice without bytes: nothing is marked. -/
theorem markB0 (a : Option Addr) (cap : Nat) (k : Int) (w : World) :
    Calls Tryd.prog 11 #[.slice a 0 cap, .int .i64 k] w fun e w' => e = .returned (.int .i64 k) ∧ w' = w := by
  go_enter Tryd.func11, Tryd.ntmps11
  go_wp2
  refine wp_loop_rounds 1 ?_
  rw [rounds_succ]
  go_wp2
  go_ret
  exact ⟨rfl, rfl⟩

set_option maxHeartbeats 1000000 in
/-- What was marked is held. -/
theorem heldB (a : Option Addr) (n cap : Nat) (k : Int) (w : World) (hr : Rd w a n (marks k n)) (hn : n ≤ 2097152) (hk0 : 0 ≤ k) (hk : k ≤ 1073741824) :
    Calls Tryd.prog 12 #[.slice a n cap, .int .i64 k] w fun e w' => e = .returned (.int .i64 (k + n)) ∧ w' = w := by
  go_enter Tryd.func12, Tryd.ntmps12
  go_wp2
  go_loop [1, 5] (fun q i => ∃ j : Nat, j ≤ n ∧ i = .int .i64 j ∧ q = .int .i64 (k + j)) (fun _ i => n - (intOf i).toNat)
  case atStart => exact ⟨0, Nat.zero_le _, rfl, by go_num⟩
  case round =>
    obtain ⟨j, hj, rfl, rfl⟩ := hrel
    by_cases hlt : j < n
    · obtain ⟨b, o, rfl, hbl, hc⟩ := hr.pos (by omega)
      have hck := hc j hlt
      rw [marks_get k n j hlt] at hck
      clear hc
      go_wp2
      go_round
      case rel => exact ⟨j + 1, by omega, by go_num, by go_num⟩
      case measure => simp [intOf]; omega
    · have hjn : j = n := by omega
      subst hjn
      go_wp2
      go_ret
      exact ⟨rfl, rfl⟩

end Go.Proofs.YtheojmjnpemkbaaDoor

namespace Go.Proofs.YtheojmjnpemkbaaDoor
open Go.RowKit

theorem m_set {w : World} {base g n cap : Nat} {xs : List Int} (h : OwM w base (.slice (some ⟨g, 0, none⟩) n cap) xs) (j : Nat) (hj : j < xs.length) (x : Int) :
    OwM (w.setCell ⟨g, j, none⟩ (.int .u8 x)) base (.slice (some ⟨g, 0, none⟩) n cap) (xs.set j x) ∧ w.frozen? ⟨g, j, none⟩ = false := by
  rcases h with ⟨e, _⟩ | ⟨g', cap', cur, fz, e, hb, hg, hf, hnc, hcm, hcs, ht⟩
  · cases e
  · simp only [Value.slice.injEq, Option.some.injEq, Addr.mk.injEq, and_true] at e
    obtain ⟨rfl, rfl, rfl⟩ := e
    refine ⟨.inr ⟨g, cap, cur.setIfInBounds j (.int .u8 x), fz, by simp, hb, ?_, by simpa [Free] using hf, by simpa using hnc, hcm, by simpa using hcs, ?_⟩, free_at hg hf (by omega)⟩
    · rw [setCell_eq_setRow w g j cur 5 fz _ hg]
      exact setRow_heap w g cur _ 5 _ hg
    · rw [Array.toList_setIfInBounds, List.length_set, List.take_set, ht, B8, B8, List.map_set]

set_option maxHeartbeats 1000000 in
theorem markMG (base g n cap : Nat) (xs : List Int) (k : Int) (w : World) (hown : OwM w base (.slice (some ⟨g, 0, none⟩) n cap) xs) (hl : xs.length = n) (hn : n ≤ 2097152) (hk0 : 0 ≤ k) (hk : k ≤ 1073741824) :
    Calls Tryd.prog 11 #[.slice (some ⟨g, 0, none⟩) n cap, .int .i64 k] w fun e w' => e = .returned (.int .i64 (k + n)) ∧
      OwM w' base (.slice (some ⟨g, 0, none⟩) n cap) (marks k n) ∧ w.grownBy w' (some g) := by
  have hms : ∀ j, j < n → (marked xs k j).set j ((k + j) % 256) = marked xs k (j + 1) := fun j hj => by
    have := marked_set xs k j n hl hj
    rw [B8, B8, ← List.map_set] at this
    exact (List.map_inj_right (by intro a b h; cases h; rfl)).1 this
  have HM : Hid (∀ j, j < n → (marked xs k j).set j ((k + j) % 256) = marked xs k (j + 1)) := hms
  have hml : Hid (∀ j, j ≤ n → (marked xs k j).length = n) := fun j hj => by simp [marked, marks_len, hl]; omega
  clear hms
  go_enter Tryd.func11, Tryd.ntmps11
  go_wp2
  go_loopw [1, 5] (fun q i wr => ∃ j : Nat, j ≤ n ∧ i = .int .i64 j ∧ q = .int .i64 (k + j) ∧ OwM wr base (.slice (some ⟨g, 0, none⟩) n cap) (marked xs k j) ∧ w.grownBy wr (some g)) (fun _ i _ => n - (intOf i).toNat)
  case atStart => exact ⟨0, Nat.zero_le _, rfl, by go_num, by simpa [marked, marks] using hown, World.grownBy.refl _ _⟩
  case round =>
    obtain ⟨j, hj, rfl, rfl, hown', hg⟩ := hrel
    by_cases hlt : j < n
    · have hjl : j < (marked xs k j).length := by rw [hml.out j hj]; exact hlt
      obtain ⟨R, hf⟩ := m_set hown' j hjl ((k + j) % 256)
      have hu := hown'.cellAt j hjl
      rw [HM.out j hlt] at R
      have HR : Hid (OwM (wr.setCell ⟨g, j, none⟩ (.int .u8 ((k + j) % 256))) base (.slice (some ⟨g, 0, none⟩) n cap) (marked xs k (j + 1))) := R
      have HG : Hid (w.grownBy (wr.setCell ⟨g, j, none⟩ (.int .u8 ((k + j) % 256))) (some g)) :=
        ⟨hg.os, hg.tape, hg.output, by simpa using hg.size, fun i hi he => by
          rw [Below.heap_setCell _ _ _ _ (fun e => he (by simp [e]))]
          exact hg.block i hi he⟩
      clear R
      go_wp2
      go_roundw
      case rel => exact ⟨j + 1, by omega, by go_num, by go_num, HR.out, HG.out⟩
      case measure => simp [intOf]; omega
    · have hjn : j = n := by omega
      subst hjn
      go_wp2
      go_ret
      refine ⟨rfl, ?_, hg⟩
      have e : marked xs k j = marks k j := by simp [marked, List.drop_of_length_le (Nat.le_of_eq hl)]
      rw [← e]
      exact hown'

theorem markM (base : Nat) (v : Value) (xs : List Int) (k : Int) (w : World) (h : OwM w base v xs) (hn : xs.length ≤ 2097152) (hk0 : 0 ≤ k) (hk : k ≤ 1073741824) :
    Calls Tryd.prog 11 #[v, .int .i64 k] w fun e w' => e = .returned (.int .i64 (k + xs.length)) ∧ OwM w' base v (marks k xs.length) ∧ w.grownBy w' v.ownBlock := by
  have h' := h
  rcases h with ⟨rfl, rfl⟩ | ⟨g, cap, cur, fz, rfl, r⟩
  · refine (markB0 none 0 k w).mono fun e w' ⟨h1, h2⟩ => ?_
    subst h2
    exact ⟨by simpa using h1, h', World.grownBy.refl _ _⟩
  · exact (markMG base g xs.length cap xs k w h' rfl hn hk0 hk).mono fun e w' ⟨h1, h2, h3⟩ => ⟨h1, h2, h3⟩

end Go.Proofs.YtheojmjnpemkbaaDoor

namespace Go.Proofs.YtheojmjnpemkbaaDoor
open Go.RowKit

theorem markV (base : Nat) (v : Value) (xs : List Int) (k : Int) (w : World) (h : Ow w base v xs) (hn : xs.length ≤ 2097152) (hk0 : 0 ≤ k) (hk : k ≤ 1073741824) :
    Calls Tryd.prog 11 #[v, .int .i64 k] w fun e w' => e = .returned (.int .i64 (k + xs.length)) ∧ Ow w' base v (marks k xs.length) ∧ w.grownBy w' v.ownBlock := by
  rcases h.2 with ⟨rfl, h0⟩ | ⟨g, cap, cur, rfl, r⟩
  · have : xs = [] := List.eq_nil_of_length_eq_zero h0
    subst this
    refine (markB0 none 0 k w).mono fun e w' ⟨h1, h2⟩ => ?_
    subst h2
    exact ⟨by simpa using h1, h, World.grownBy.refl _ _⟩
  · refine (markB base g xs.length cap xs k w h hn hk0 hk).mono fun e w' ⟨h1, h2, h3⟩ => ⟨h1, ?_, h3⟩
    show w'.ownsRow base 5 1 _ (marks k xs.length).length _
    rw [marks_len]
    exact h2

theorem heldV (v : Value) (n : Nat) (k : Int) (w : World) (h : RV w v (marks k n)) (hn : n ≤ 2097152) (hk0 : 0 ≤ k) (hk : k ≤ 1073741824) :
    Calls Tryd.prog 12 #[v, .int .i64 k] w fun e w' => e = .returned (.int .i64 (k + n)) ∧ w' = w := by
  obtain ⟨a, cap, rfl, hr, _, _⟩ := h
  rw [marks_len] at hr ⊢
  exact heldB a n cap k w hr hn hk0 hk

end Go.Proofs.YtheojmjnpemkbaaDoor

namespace Go.Proofs.YtheojmjnpemkbaaDoor
open Go.ChangeShapes Go.WideShapes Go.ChangeAt Go.RowKit Go.Joins

section
variable {H : Type} {enc : TypeId × Value → H} {W : World} {fuel : Nat} {v : Value} {y : DataW H × List MemPlace}

theorem int_of_trod (h : DataW.trod enc Tryd.prog W 0 (fun _ => true) true fuel 3 [v] = some y) : ∃ q : Int, v = .int .i64 q ∧ -9223372036854775808 ≤ q ∧ q ≤ 9223372036854775807 := by
  obtain ⟨q, e0, rfl, wa⟩ := DataW.trod_int Tryd.underlying3 h
  simp only [List.cons.injEq, and_true] at e0
  subst e0
  simp [Lit.wf, IntKind.min, IntKind.max, IntKind.signed, IntKind.bits] at wa
  exact ⟨q, rfl, by omega, by omega⟩
end

theorem array6 {cs : Array Value} (h : cs.size = 6) : ∃ a b c d e f, cs = #[a, b, c, d, e, f] := by
  obtain ⟨l⟩ := cs
  match l, h with
  | [a, b, c, d, e, f], _ => exact ⟨a, b, c, d, e, f, rfl⟩

end Go.Proofs.YtheojmjnpemkbaaDoor

namespace Go.Proofs.YtheojmjnpemkbaaDoor
open Go.ChangeShapes Go.WideShapes Go.ChangeAt Go.RowKit Go.Joins

section
variable {H : Type} {enc : TypeId × Value → H} {W : World} {fuel : Nat} {v : Value} {y : DataW H × List MemPlace}

theorem rv_of_trod (h : DataW.trod enc Tryd.prog W 0 (fun _ => true) true fuel 29 [v] = some y) : ∃ xs, RV W v xs ∧ ∀ x ∈ xs, 0 ≤ x ∧ x ≤ 255 := by
  rcases open_ints Tryd.underlying29 Tryd.underlying5 (by kernel_rfl) h with ⟨hcs, _⟩ | ⟨x, len, cap, zs, hcs, _, hl, hm, hz, _, hcell, hwz⟩
  · simp only [List.cons.injEq, and_true] at hcs
    subst hcs
    exact ⟨[], ⟨none, 0, rfl, Rd.nil _ _, Nat.le_refl _, Nat.zero_le _⟩, fun x hx => by cases hx⟩
  · simp only [List.cons.injEq, and_true] at hcs
    subst hcs
    have hz' : zs.length = cap := by simpa using hz
    have hln : (zs.take len).length = len := by simp; omega
    have hrng : ∀ n ∈ zs.take len, 0 ≤ n ∧ n ≤ 255 := fun n hn => by
      have := hwz n (List.mem_of_mem_take hn)
      simp [Lit.wf, IntKind.min, IntKind.max, IntKind.signed, IntKind.bits] at this
      omega
    refine ⟨zs.take len, ⟨some x, cap, by rw [hln], ⟨rfl, fun i hi => ?_, hrng⟩, by omega, hm⟩, hrng⟩
    rw [hln] at hi
    obtain ⟨b, off, spot⟩ := x
    have hspot : spot = none := by simpa [Addr.add] using World.cell?_spot (hcell 0 (by omega))
    subst hspot
    have hc := hcell i (by omega)
    refine ⟨b, off, rfl, ?_⟩
    rw [Addr.add_lit] at hc
    rw [hc]
    simp [List.getD, hi]

end

end Go.Proofs.YtheojmjnpemkbaaDoor

namespace Go.Proofs.YtheojmjnpemkbaaDoor
open Go.ChangeShapes Go.WideShapes Go.ChangeAt Go.RowKit Go.Joins

theorem list_of {α : Type} {p : Nat → α → Prop} : ∀ n : Nat, (∀ i, i < n → ∃ x, p i x) → ∃ rs : List α, rs.length = n ∧ ∀ (i : Nat) (r : α), rs[i]? = some r → p i r
  | 0, _ => ⟨[], rfl, fun i r h => by simp at h⟩
  | n + 1, h => by
    obtain ⟨rs, hl, hr⟩ := list_of n (fun i hi => h i (by omega))
    obtain ⟨x, hx⟩ := h n (by omega)
    refine ⟨rs ++ [x], by simp [hl], fun i r hi => ?_⟩
    by_cases e : i < n
    · rw [List.getElem?_append_left (by omega)] at hi
      exact hr i r hi
    · rw [List.getElem?_append_right (by omega)] at hi
      have e2 : i - rs.length = 0 := by
        have := (List.getElem?_eq_some_iff.1 hi).1
        simp at this
        omega
      rw [e2] at hi
      simp at hi
      obtain rfl : i = n := by omega
      rw [← hi]
      exact hx

section
variable {H : Type} {enc : TypeId × Value → H} {W : World} {fuel : Nat} {v : Value} {y : DataW H × List MemPlace}

set_option maxRecDepth 100000 in
/-- A slice of whatever structs: its cells, element by element. -/
theorem sl_of_trod {t e : TypeId} {k : Nat} (ht : Tryd.prog.underlying t = some (.slice e)) (hc : Tryd.prog.cellsOf e = k) (hk : 0 < k)
    (h : DataW.trod enc Tryd.prog W 0 (fun _ => true) true fuel t [v] = some y) :
    ∃ (n : Nat) (C : Nat → Nat → Value), SL W k v n C ∧ ∃ (m : Nat) (D : Nat → DataW H × List MemPlace), ∀ i, i < n → DataW.trod enc Tryd.prog W 0 (fun _ => true) true m e ((List.range k).map (C i)) = some (D i) := by
  rcases Go.Deep.open_slice ht h with ⟨hcs, _⟩ | ⟨a, len, cap, m, n, D, Pl, hcs, _, hl, hm, hmm, _, hx⟩
  · simp only [List.cons.injEq, and_true] at hcs
    subst hcs
    exact ⟨0, fun _ _ => .int .i64 0, ⟨none, 0, rfl, Nat.le_refl _, Nat.zero_le _, fun h => absurd h (by omega)⟩, 0, fun _ => y, fun i hi => absurd hi (by omega)⟩
  · simp only [List.cons.injEq, and_true] at hcs
    subst hcs
    rw [hc] at hx
    have hmm' : m = cap := by rw [hmm]; simp
    subst hmm'
    have hex : ∀ i, i < len → ∃ cs' : List Value, W.cells? 0 (a.add (i * k)) k = some cs' ∧ DataW.trod enc Tryd.prog W 0 (fun _ => true) true n e cs' = some (D i, Pl i) := fun i hi => hx i (by omega)
    obtain ⟨cs, hcsl, hcs⟩ := list_of len hex
    have hget : ∀ i, i < len → ∃ c, cs[i]? = some c := fun i hi => ⟨_, List.getElem?_eq_getElem (by omega)⟩
    refine ⟨len, fun i j => ((cs.getD i []).getD j (.int .i64 0)), ⟨some a, m, rfl, hl, hm, fun hpos => ?_⟩, n, fun i => (D i, Pl i), fun i hi => ?_⟩
    · obtain ⟨c, hcc⟩ := hget 0 hpos
      obtain ⟨h1, _⟩ := hcs 0 c hcc
      obtain ⟨_, hln, hce⟩ := World.cells?_some h1
      obtain ⟨b, off, spot⟩ := a
      have hc0 := hce 0 hk
      have hsome : W.cell? ((Addr.add ⟨b, off, spot⟩ (0 * k)).add 0) = some (c[0]'(by omega)) := by rw [hc0, List.getElem?_eq_getElem (by omega)]
      have hspot : spot = none := by simpa [Addr.add] using World.cell?_spot hsome
      subst hspot
      have hbl := World.block_lt_of_cell? W _ hsome
      rw [Addr.add_lit, Addr.add_lit] at hbl
      refine ⟨b, off, rfl, hbl, fun i hi j hj => ?_⟩
      obtain ⟨c', hcc'⟩ := hget i hi
      obtain ⟨h1', _⟩ := hcs i c' hcc'
      obtain ⟨_, hln', hce'⟩ := World.cells?_some h1'
      have := hce' j hj
      rw [Addr.add_lit, Addr.add_lit] at this
      rw [this, List.getElem?_eq_getElem (by omega)]
      simp [List.getD, hcc', List.getElem?_eq_getElem (show j < c'.length by omega)]
    · obtain ⟨c', hcc'⟩ := hget i hi
      obtain ⟨h1', h2'⟩ := hcs i c' hcc'
      obtain ⟨_, hln', _⟩ := World.cells?_some h1'
      have hce : (List.range k).map (fun j => ((cs.getD i []).getD j (.int .i64 0))) = c' := by
        apply List.ext_getElem?
        intro j
        by_cases hj : j < k
        · simp [List.getD, hcc', hj, List.getElem?_eq_getElem (show j < c'.length by omega)]
        · simp [hj, hln']
      rw [hce]
      exact h2'

theorem bool_of_trod (h : DataW.trod enc Tryd.prog W 0 (fun _ => true) true fuel 4 [v] = some y) : ∃ b, v = .bool b := by
  obtain ⟨b, e0, _⟩ := DataW.trod_bool Tryd.underlying4 h
  simp only [List.cons.injEq, and_true] at e0
  exact ⟨b, e0⟩
end

end Go.Proofs.YtheojmjnpemkbaaDoor

namespace Go.Proofs.YtheojmjnpemkbaaDoor
open Go.ChangeShapes Go.WideShapes Go.ChangeAt Go.RowKit Go.Joins

section
variable {H : Type} {enc : TypeId × Value → H} {W : World} {fuel : Nat} {v : Value} {y : DataW H × List MemPlace}

set_option maxRecDepth 100000 in
theorem rows_of_trod (h : DataW.trod enc Tryd.prog W 0 (fun _ => true) true fuel 22 [v] = some y) : ∃ rs, VRows W v rs := by
  obtain ⟨n, C, hS, m, D, hD⟩ := sl_of_trod (k := 4) Tryd.underlying22 (by kernel_rfl) (by omega) h
  obtain ⟨rs, hl, hr⟩ := list_of (p := fun i (r : DRow) => RV W (C i 0) r.key ∧ RV W (C i 1) r.val ∧ C i 2 = .int .i64 r.turned ∧ C i 3 = .int .i64 r.holder) n (fun i hi => by
    have hf := hD i hi
    obtain ⟨xs, n', _, _, _, hxl, hx⟩ := DataW.trod_struct Tryd.underlying72 hf
    match xs, hxl with
    | [y0, y1, y2, y3], _ =>
      have h0 : DataW.trod enc Tryd.prog W 0 (fun _ => true) true n' 29 [C i 0] = some y0 := hx 0 _ rfl
      have h1 : DataW.trod enc Tryd.prog W 0 (fun _ => true) true n' 29 [C i 1] = some y1 := hx 1 _ rfl
      have h2 : DataW.trod enc Tryd.prog W 0 (fun _ => true) true n' 3 [C i 2] = some y2 := hx 2 _ rfl
      have h3 : DataW.trod enc Tryd.prog W 0 (fun _ => true) true n' 3 [C i 3] = some y3 := hx 3 _ rfl
      obtain ⟨ky, rk, _⟩ := rv_of_trod h0
      obtain ⟨vl, rv, _⟩ := rv_of_trod h1
      obtain ⟨q, e2, _, _⟩ := int_of_trod h2
      obtain ⟨q', e3, _, _⟩ := int_of_trod h3
      exact ⟨⟨ky, vl, q, q'⟩, rk, rv, e2, e3⟩)
  exact ⟨rs, C, by rw [hl]; exact hS, hr⟩

set_option maxRecDepth 100000 in
theorem tombs_of_trod (h : DataW.trod enc Tryd.prog W 0 (fun _ => true) true fuel 23 [v] = some y) : ∃ rs, VTombs W v rs := by
  obtain ⟨n, C, hS, m, D, hD⟩ := sl_of_trod (k := 2) Tryd.underlying23 (by kernel_rfl) (by omega) h
  obtain ⟨rs, hl, hr⟩ := list_of (p := fun i (r : DTomb) => RV W (C i 0) r.key ∧ C i 1 = .int .i64 r.index) n (fun i hi => by
    have hf := hD i hi
    obtain ⟨xs, n', _, _, _, hxl, hx⟩ := DataW.trod_struct Tryd.underlying74 hf
    match xs, hxl with
    | [y0, y1], _ =>
      have h0 : DataW.trod enc Tryd.prog W 0 (fun _ => true) true n' 29 [C i 0] = some y0 := hx 0 _ rfl
      have h1 : DataW.trod enc Tryd.prog W 0 (fun _ => true) true n' 3 [C i 1] = some y1 := hx 1 _ rfl
      obtain ⟨ky, rk, _⟩ := rv_of_trod h0
      obtain ⟨q, e2, _, _⟩ := int_of_trod h1
      exact ⟨⟨ky, q⟩, rk, e2⟩)
  exact ⟨rs, C, by rw [hl]; exact hS, hr⟩

set_option maxRecDepth 100000 in
theorem sess_of_trod (h : DataW.trod enc Tryd.prog W 0 (fun _ => true) true fuel 24 [v] = some y) : ∃ rs, VSess W v rs := by
  obtain ⟨n, C, hS, m, D, hD⟩ := sl_of_trod (k := 2) Tryd.underlying24 (by kernel_rfl) (by omega) h
  obtain ⟨rs, hl, hr⟩ := list_of (p := fun i (r : DSess) => C i 0 = .int .i64 r.id ∧ C i 1 = .bool r.del) n (fun i hi => by
    have hf := hD i hi
    obtain ⟨xs, n', _, _, _, hxl, hx⟩ := DataW.trod_struct Tryd.underlying88 hf
    match xs, hxl with
    | [y0, y1], _ =>
      have h0 : DataW.trod enc Tryd.prog W 0 (fun _ => true) true n' 3 [C i 0] = some y0 := hx 0 _ rfl
      have h1 : DataW.trod enc Tryd.prog W 0 (fun _ => true) true n' 4 [C i 1] = some y1 := hx 1 _ rfl
      obtain ⟨q, e1, _, _⟩ := int_of_trod h0
      obtain ⟨b, e2⟩ := bool_of_trod h1
      exact ⟨⟨q, b⟩, e1, e2⟩)
  exact ⟨rs, C, by rw [hl]; exact hS, hr⟩

set_option maxRecDepth 100000 in
theorem lasts_of_trod (h : DataW.trod enc Tryd.prog W 0 (fun _ => true) true fuel 25 [v] = some y) : ∃ rs, VLasts W v rs := by
  obtain ⟨n, C, hS, m, D, hD⟩ := sl_of_trod (k := 4) Tryd.underlying25 (by kernel_rfl) (by omega) h
  obtain ⟨rs, hl, hr⟩ := list_of (p := fun i (r : DLast) => C i 0 = .int .i64 r.client ∧ C i 1 = .int .i64 r.req ∧ C i 2 = .int .i64 r.code ∧ C i 3 = .int .i64 r.index) n (fun i hi => by
    have hf := hD i hi
    obtain ⟨xs, n', _, _, _, hxl, hx⟩ := DataW.trod_struct Tryd.underlying92 hf
    match xs, hxl with
    | [y0, y1, y2], _ =>
      have h0 : DataW.trod enc Tryd.prog W 0 (fun _ => true) true n' 3 [C i 0] = some y0 := hx 0 _ rfl
      have h1 : DataW.trod enc Tryd.prog W 0 (fun _ => true) true n' 3 [C i 1] = some y1 := hx 1 _ rfl
      have h2 : DataW.trod enc Tryd.prog W 0 (fun _ => true) true n' 90 [C i 2, C i 3] = some y2 := hx 2 _ rfl
      obtain ⟨zs, n'', _, _, _, hzl, hz⟩ := DataW.trod_struct Tryd.underlying90 h2
      match zs, hzl with
      | [z0, z1], _ =>
        have g0 : DataW.trod enc Tryd.prog W 0 (fun _ => true) true n'' 3 [C i 2] = some z0 := hz 0 _ rfl
        have g1 : DataW.trod enc Tryd.prog W 0 (fun _ => true) true n'' 3 [C i 3] = some z1 := hz 1 _ rfl
        obtain ⟨q0, e0, _, _⟩ := int_of_trod h0
        obtain ⟨q1, e1, _, _⟩ := int_of_trod h1
        obtain ⟨q2, e2, _, _⟩ := int_of_trod g0
        obtain ⟨q3, e3, _, _⟩ := int_of_trod g1
        exact ⟨⟨q0, q1, q2, q3⟩, e0, e1, e2, e3⟩)
  exact ⟨rs, C, by rw [hl]; exact hS, hr⟩
end

/-- What a state's own numbers are bounded by. -/
def intSt (S : DState) : Prop := (-9223372036854775808 ≤ S.index ∧ S.index ≤ 9223372036854775807) ∧ (-9223372036854775808 ≤ S.lost ∧ S.lost ≤ 9223372036854775807)

set_option maxRecDepth 100000 in
theorem open_State {H : Type} {enc : TypeId × Value → H} {W : World} {r : Reach} {b0 : Nat} {v : Value} {d : DataW H} {p : List MemPlace}
    (hv : Value.okWide Tryd.prog W r b0 27 v) (h : DataW.Trod enc Tryd.prog W 0 (fun _ => true) true 27 v d p) : ∃ S, VState W v S ∧ rngSt S ∧ intSt S := by
  obtain ⟨cs, rfl, hsz⟩ := okWide_struct Tryd.underlying27 hv
  have h6 : Tryd.prog.cellsOf 27 = 6 := by kernel_rfl
  obtain ⟨c0, c1, c2, c3, c4, c5, rfl⟩ := array6 (hsz.trans h6)
  obtain ⟨fuel, hf⟩ := h
  obtain ⟨xs, n, _, _, _, hxl, hx⟩ := DataW.trod_struct Tryd.underlying27 hf
  match xs, hxl with
  | [y0, y1, y2, y3, y4, y5], _ =>
    have h0 : DataW.trod enc Tryd.prog W 0 (fun _ => true) true n 3 [c0] = some y0 := hx 0 _ rfl
    have h1 : DataW.trod enc Tryd.prog W 0 (fun _ => true) true n 22 [c1] = some y1 := hx 1 _ rfl
    have h2 : DataW.trod enc Tryd.prog W 0 (fun _ => true) true n 23 [c2] = some y2 := hx 2 _ rfl
    have h3 : DataW.trod enc Tryd.prog W 0 (fun _ => true) true n 3 [c3] = some y3 := hx 3 _ rfl
    have h4 : DataW.trod enc Tryd.prog W 0 (fun _ => true) true n 24 [c4] = some y4 := hx 4 _ rfl
    have h5 : DataW.trod enc Tryd.prog W 0 (fun _ => true) true n 25 [c5] = some y5 := hx 5 _ rfl
    obtain ⟨q0, rfl, a1, a2⟩ := int_of_trod h0
    obtain ⟨q3, rfl, b1, b2⟩ := int_of_trod h3
    obtain ⟨rs, v1⟩ := rows_of_trod h1
    obtain ⟨ts, v2⟩ := tombs_of_trod h2
    obtain ⟨ss, v4⟩ := sess_of_trod h4
    obtain ⟨ls, v5⟩ := lasts_of_trod h5
    have V : VState W (.agg #[.int .i64 q0, c1, c2, .int .i64 q3, c4, c5]) ⟨q0, rs, ts, q3, ss, ls⟩ := ⟨c1, c2, c4, c5, rfl, v1, v2, v4, v5⟩
    exact ⟨_, V, rngSt_of V, ⟨a1, a2⟩, ⟨b1, b2⟩⟩

end Go.Proofs.YtheojmjnpemkbaaDoor

namespace Go.Proofs.YtheojmjnpemkbaaDoor
open Go.RowKit

theorem kept6 {w w' : World} {g : Nat} {a0 a1 a2 a3 a4 a5 : Value} (h : w.cell? ⟨g, 0, none⟩ = some a0 ∧ w.cell? ⟨g, 1, none⟩ = some a1 ∧ w.cell? ⟨g, 2, none⟩ = some a2 ∧ w.cell? ⟨g, 3, none⟩ = some a3 ∧ w.cell? ⟨g, 4, none⟩ = some a4 ∧ w.cell? ⟨g, 5, none⟩ = some a5) (hb : Below w.heap.size w w') :
    w'.cell? ⟨g, 0, none⟩ = some a0 ∧ w'.cell? ⟨g, 1, none⟩ = some a1 ∧ w'.cell? ⟨g, 2, none⟩ = some a2 ∧ w'.cell? ⟨g, 3, none⟩ = some a3 ∧ w'.cell? ⟨g, 4, none⟩ = some a4 ∧ w'.cell? ⟨g, 5, none⟩ = some a5 := by
  have hg : g < w.heap.size := World.block_lt_of_cell? w _ h.1
  obtain ⟨h0, h1, h2, h3, h4, h5⟩ := h
  exact ⟨(hb.cell (p := ⟨g, 0, none⟩) hg).trans h0, (hb.cell (p := ⟨g, 1, none⟩) hg).trans h1, (hb.cell (p := ⟨g, 2, none⟩) hg).trans h2, (hb.cell (p := ⟨g, 3, none⟩) hg).trans h3, (hb.cell (p := ⟨g, 4, none⟩) hg).trans h4, (hb.cell (p := ⟨g, 5, none⟩) hg).trans h5⟩
theorem kept12 {w w' : World} {g g' : Nat} {a0 a1 a2 a3 a4 a5 b0 b1 b2 b3 b4 b5 : Value} (h : (w.cell? ⟨g, 0, none⟩ = some a0 ∧ w.cell? ⟨g, 1, none⟩ = some a1 ∧ w.cell? ⟨g, 2, none⟩ = some a2 ∧ w.cell? ⟨g, 3, none⟩ = some a3 ∧ w.cell? ⟨g, 4, none⟩ = some a4 ∧ w.cell? ⟨g, 5, none⟩ = some a5) ∧ (w.cell? ⟨g', 0, none⟩ = some b0 ∧ w.cell? ⟨g', 1, none⟩ = some b1 ∧ w.cell? ⟨g', 2, none⟩ = some b2 ∧ w.cell? ⟨g', 3, none⟩ = some b3 ∧ w.cell? ⟨g', 4, none⟩ = some b4 ∧ w.cell? ⟨g', 5, none⟩ = some b5)) (hb : Below w.heap.size w w') :
    (w'.cell? ⟨g, 0, none⟩ = some a0 ∧ w'.cell? ⟨g, 1, none⟩ = some a1 ∧ w'.cell? ⟨g, 2, none⟩ = some a2 ∧ w'.cell? ⟨g, 3, none⟩ = some a3 ∧ w'.cell? ⟨g, 4, none⟩ = some a4 ∧ w'.cell? ⟨g, 5, none⟩ = some a5) ∧ (w'.cell? ⟨g', 0, none⟩ = some b0 ∧ w'.cell? ⟨g', 1, none⟩ = some b1 ∧ w'.cell? ⟨g', 2, none⟩ = some b2 ∧ w'.cell? ⟨g', 3, none⟩ = some b3 ∧ w'.cell? ⟨g', 4, none⟩ = some b4 ∧ w'.cell? ⟨g', 5, none⟩ = some b5) :=
  ⟨kept6 h.1 hb, kept6 h.2 hb⟩


/-- The two boxes of the law: the argument, the copy. -/
structure BY (gA gX : Nat) (Qa Xa : Array Value) (u : World) : Prop where
  a : u.heap[gA]? = some (.cells Qa 27 (0, 0))
  x : u.heap[gX]? = some (.cells Xa 36 (0, 0))
theorem BY.below {gA gX : Nat} {Qa Xa : Array Value} {u u' : World} (h : BY gA gX Qa Xa u) (b : Below u.heap.size u u') : BY gA gX Qa Xa u' :=
  ⟨below_blk b (Array.getElem?_eq_some_iff.1 h.a).1 h.a, below_blk b (Array.getElem?_eq_some_iff.1 h.x).1 h.x⟩
theorem BY.mid {gA gX lo hi : Nat} {Qa Xa : Array Value} {u u' : World} (h : BY gA gX Qa Xa u) (m : Mid lo hi u u') (h1 : gA < lo ∨ hi ≤ gA) (h3 : gX < lo ∨ hi ≤ gX) : BY gA gX Qa Xa u' :=
  ⟨(m.out _ (Array.getElem?_eq_some_iff.1 h.a).1 h1).trans h.a, (m.out _ (Array.getElem?_eq_some_iff.1 h.x).1 h3).trans h.x⟩

theorem mid_m {lo hi B : Nat} {w w' : World} {v : Value} {xs : List Int} (h : OwM w B v xs) (m : Mid lo hi w w') (hd : ∀ j, v.ownBlock = some j → j < lo ∨ hi ≤ j) : OwM w' B v xs := by
  rcases h with h | ⟨g, cap, cur, fz, rfl, hb, hg, r⟩
  · exact .inl h
  · exact .inr ⟨g, cap, cur, fz, rfl, hb, (m.out g (Array.getElem?_eq_some_iff.1 hg).1 (hd g rfl)).trans hg, r⟩
theorem mid_o {lo hi B : Nat} {w w' : World} {v : Value} {xs : List Int} (h : Ow w B v xs) (m : Mid lo hi w w') (hd : ∀ j, v.ownBlock = some j → j < lo ∨ hi ≤ j) : Ow w' B v xs := by
  refine ⟨h.1, ?_⟩
  rcases h.2 with h | ⟨g, cap, cur, rfl, hb, hg, r⟩
  · exact .inl h
  · exact .inr ⟨g, cap, cur, rfl, hb, (m.out g (Array.getElem?_eq_some_iff.1 hg).1 (hd g rfl)).trans hg, r⟩
theorem apart9 {B : Nat} {a b : Option Nat} (ha : ∀ j, a = some j → j < B) (hb : ∀ j, b = some j → B ≤ j) : a = none ∨ a ≠ b := by
  cases a with
  | none => exact .inl rfl
  | some i =>
    right
    intro e
    have h1 := ha i rfl
    have h2 := hb i e.symm
    omega

set_option maxHeartbeats 8000000 in
set_option maxRecDepth 100000 in
theorem law_StateText (v : Value) (S : DState) (w : World) (h : VState w v S) (hr : rngSt S) (_hi : intSt S) (hp : PowTab w.heap.size w) :
    Calls Tryd.prog 3 #[v] w fun e w' => e = .returned (.bool true) ∧ Below w.heap.size w w' := by
  have hE : ∀ w : World, ∀ o, Ext w (w.alloc o) := fun w o => World.grownBy_alloc _ _ _
  have hB : ∀ w : World, ∀ o, Below w.heap.size w (w.alloc o) := fun w o => (Below.refl _ w).alloc (Nat.le_refl _) _
  have h0 : Hid (VState w v S) := h
  have HR : Hid (rngSt S) := hr
  have HP : Hid (∀ W, Below w.heap.size w W → PowTab W.heap.size W) := fun W b => Lib.tabBelow_of_tabIs (hp W b)
  have hyr := stTL_rng hr (tB (StP S))
  have hyl := stTL_len S
  obtain ⟨ys, hys⟩ : ∃ ys, ys = stTL (tB (StP S)) S := ⟨_, rfl⟩
  have HY : Hid (ys = stTL (tB (StP S)) S) := hys
  rw [← hys] at hyr hyl
  clear hys hr hp
  have hyl2 : ys.length ≤ 2097152 := by omega
  obtain ⟨rv, tv, sv, lv, rfl, _, _, _, _⟩ := h
  go_enter Tryd.func3, Tryd.ntmps3
  go_wp2_with fail
  refine (szSt _ S 1048576 _ (h0.out.ext (hE _ _)) (by omega) (by omega)).mono ?_
  rintro e w1 ⟨r, rfl, hrr, b1⟩
  have B1 := (hB w _).trans (b1.mono (by simp))
  have P1 := below_blk b1 (by simp) (heap_alloc_new w _)
  rcases hrr with ⟨h1, rfl⟩ | ⟨h1, h2⟩
  · go_wp2
    go_ret
    exact ⟨rfl, B1⟩
  · have HL : Hid (LenSt S 1048576) := lenSt_of (by omega)
    have hr0 : 0 ≤ r := by omega
    have hs1 := (Array.getElem?_eq_some_iff.1 P1).1
    clear h1 h2 b1
    obtain ⟨p0, _⟩ := at_block P1 0 _ rfl
    obtain ⟨p1, _⟩ := at_block P1 1 _ rfl
    obtain ⟨p2, _⟩ := at_block P1 2 _ rfl
    obtain ⟨p3, _⟩ := at_block P1 3 _ rfl
    obtain ⟨p4, _⟩ := at_block P1 4 _ rfl
    obtain ⟨p5, _⟩ := at_block P1 5 _ rfl
    go_wp2_with fail
    refine (toSt _ S w1 (h0.out.ext (ext_below B1)) HL.out).mono ?_
    rintro e w2 ⟨gr2, gt2, gs2, gl2, rfl, o2, b2⟩
    have B2 := B1.trans (b2.mono B1.size)
    have HV2 : Hid (VState w2 (stV gr2 gt2 gs2 gl2 S) S) := o2.v HL.out HR.out
    have P2 := below_blk b2 hs1 P1
    have s2 := b2.size
    clear p0 p1 p2 p3 p4 p5 o2 b2 P1
    go_wp2_with fail
    refine (sStateTextV _ S w2 HV2.out).mono ?_
    rintro e w4 ⟨vw, rfl, ow4, b4⟩
    rw [← HY.out] at ow4
    have B4 := B2.trans (b4.mono B2.size)
    have P4 := below_blk b4 (by omega) P2
    have s4 := b4.size
    have HLW : Hid (∀ j, vw.ownBlock = some j → j < w4.heap.size) := fun j hj => (ow4.lt j hj).2
    clear b4 P2 HV2
    obtain ⟨q0, _⟩ := at_block P4 0 _ rfl
    obtain ⟨q1, _⟩ := at_block P4 1 _ rfl
    obtain ⟨q2, _⟩ := at_block P4 2 _ rfl
    obtain ⟨q3, _⟩ := at_block P4 3 _ rfl
    obtain ⟨q4, _⟩ := at_block P4 4 _ rfl
    obtain ⟨q5, _⟩ := at_block P4 5 _ rfl
    go_wp2_with fail
    refine (toSt _ S w4 (h0.out.ext (ext_below B4)) HL.out).mono ?_
    rintro e w5 ⟨gr, gt, gs, gl, rfl, o5, b5⟩
    have B5 := B4.trans (b5.mono B4.size)
    have P5 := below_blk b5 (by omega) P4
    have s5 := b5.size
    have HS5 : Hid (Shp w4.heap.size w5.heap.size w5 gr gt gs gl S.rows.length S.tombs.length S.sess.length S.lasts.length) := shp_of o5 HL.out
    have HV5 : Hid (VState w5 (stV gr gt gs gl S) S) := o5.v HL.out HR.out
    have ow5 := ow4.ext (ext_below b5)
    clear q0 q1 q2 q3 q4 q5 o5 b5 P4 ow4
    unfold stV at HV5 ⊢
    obtain ⟨U, hU⟩ : ∃ U, U = w5.alloc (.cells #[.int .i64 S.index, .slice (some ⟨gr, 0, none⟩) S.rows.length S.rows.length, .slice (some ⟨gt, 0, none⟩) S.tombs.length S.tombs.length, .int .i64 S.lost, .slice (some ⟨gs, 0, none⟩) S.sess.length S.sess.length, .slice (some ⟨gl, 0, none⟩) S.lasts.length S.lasts.length] 36) := ⟨_, rfl⟩
    have XU : Ext w5 U := by rw [hU]; exact hE w5 _
    have BU : Below w.heap.size w U := by rw [hU]; exact B5.alloc B5.size _
    have K6 : Hid (BY w.heap.size w5.heap.size #[.int .i64 S.index, rv, tv, .int .i64 S.lost, sv, lv] #[.int .i64 S.index, .slice (some ⟨gr, 0, none⟩) S.rows.length S.rows.length, .slice (some ⟨gt, 0, none⟩) S.tombs.length S.tombs.length, .int .i64 S.lost, .slice (some ⟨gs, 0, none⟩) S.sess.length S.sess.length, .slice (some ⟨gl, 0, none⟩) S.lasts.length S.lasts.length] U) := ⟨(XU.block _ (Array.getElem?_eq_some_iff.1 P5).1 (by simp)).trans P5, by rw [hU]; exact heap_alloc_new w5 _⟩
    have s6 : w5.heap.size + 1 = U.heap.size := by rw [hU]; simp
    have HU := Lib.hid hU
    clear hU P5
    have HV6 := Lib.hid (HV5.out.ext XU)
    have HS6 : Hid (Shp w4.heap.size w5.heap.size U gr gt gs gl S.rows.length S.tombs.length S.sess.length S.lasts.length) := HS5.out.ext XU
    have ow6 := ow5.ext XU
    clear HV5 HS5 ow5
    obtain ⟨t0, _⟩ := at_block K6.out.x 0 _ rfl
    obtain ⟨t1, _⟩ := at_block K6.out.x 1 _ rfl
    obtain ⟨t2, _⟩ := at_block K6.out.x 2 _ rfl
    obtain ⟨t3, _⟩ := at_block K6.out.x 3 _ rfl
    obtain ⟨t4, _⟩ := at_block K6.out.x 4 _ rfl
    obtain ⟨t5, _⟩ := at_block K6.out.x 5 _ rfl
    go_upto_region 7 with fail
    rw [← HU.out]
    clear HU
    go_wp2_with fail
    refine (iStateTextV _ S U HV6.out (HP.out U BU)).mono ?_
    rintro e w7 ⟨vg, rfl, og7, b7⟩
    rw [← HY.out] at og7
    have K7 : Hid (BY w.heap.size w5.heap.size #[.int .i64 S.index, rv, tv, .int .i64 S.lost, sv, lv] #[.int .i64 S.index, .slice (some ⟨gr, 0, none⟩) S.rows.length S.rows.length, .slice (some ⟨gt, 0, none⟩) S.tombs.length S.tombs.length, .int .i64 S.lost, .slice (some ⟨gs, 0, none⟩) S.sess.length S.sess.length, .slice (some ⟨gl, 0, none⟩) S.lasts.length S.lasts.length] w7) := K6.out.below b7
    have B7 := BU.trans (b7.mono BU.size)
    have s7 := b7.size
    have HS7 : Hid (Shp w4.heap.size w5.heap.size w7 gr gt gs gl S.rows.length S.tombs.length S.sess.length S.lasts.length) := HS6.out.ext (ext_below b7)
    have HV7 := Lib.hid (HV6.out.ext (ext_below b7))
    have ow7 := ow6.ext (ext_below b7)
    clear b7 K6 HS6 HV6 ow6 t0 t1 t2 t3 t4 t5 XU
    go_wp2_with fail
    refine (eqV_yes vg vw ys w7 (og7.rv hyr) (ow7.rv hyr) hyl2).mono ?_
    rintro e w8 ⟨rfl, q8, rfl⟩
    have b8 : Below w7.heap.size w7 (w7.drewN q8) := below_drewN (Below.refl _ _) q8
    generalize w7.drewN q8 = w8 at b8 ⊢
    have K8 : Hid (BY w.heap.size w5.heap.size #[.int .i64 S.index, rv, tv, .int .i64 S.lost, sv, lv] #[.int .i64 S.index, .slice (some ⟨gr, 0, none⟩) S.rows.length S.rows.length, .slice (some ⟨gt, 0, none⟩) S.tombs.length S.tombs.length, .int .i64 S.lost, .slice (some ⟨gs, 0, none⟩) S.sess.length S.sess.length, .slice (some ⟨gl, 0, none⟩) S.lasts.length S.lasts.length] w8) := K7.out.below b8
    have B8 := B7.trans (b8.mono B7.size)
    have s8 := b8.size
    have HS8 : Hid (Shp w4.heap.size w5.heap.size w8 gr gt gs gl S.rows.length S.tombs.length S.sess.length S.lasts.length) := HS7.out.ext (ext_below b8)
    have HV8 := Lib.hid (HV7.out.ext (ext_below b8))
    have ow8 := ow7.ext (ext_below b8)
    have og8 := og7.ext (ext_below b8)
    clear b8 K7 HS7 HV7 ow7 og7
    obtain ⟨q0, _⟩ := at_block K8.out.a 0 _ rfl
    obtain ⟨q1, _⟩ := at_block K8.out.a 1 _ rfl
    obtain ⟨q2, _⟩ := at_block K8.out.a 2 _ rfl
    obtain ⟨q3, _⟩ := at_block K8.out.a 3 _ rfl
    obtain ⟨q4, _⟩ := at_block K8.out.a 4 _ rfl
    obtain ⟨q5, _⟩ := at_block K8.out.a 5 _ rfl
    obtain ⟨t0, _⟩ := at_block K8.out.x 0 _ rfl
    obtain ⟨t1, _⟩ := at_block K8.out.x 1 _ rfl
    obtain ⟨t2, _⟩ := at_block K8.out.x 2 _ rfl
    obtain ⟨t3, _⟩ := at_block K8.out.x 3 _ rfl
    obtain ⟨t4, _⟩ := at_block K8.out.x 4 _ rfl
    obtain ⟨t5, _⟩ := at_block K8.out.x 5 _ rfl
    have S5 : (w8.cell? ⟨w5.heap.size, 0, none⟩ = some (.int .i64 S.index) ∧ w8.cell? ⟨w5.heap.size, 1, none⟩ = some (.slice (some ⟨gr, 0, none⟩) S.rows.length S.rows.length) ∧ w8.cell? ⟨w5.heap.size, 2, none⟩ = some (.slice (some ⟨gt, 0, none⟩) S.tombs.length S.tombs.length) ∧ w8.cell? ⟨w5.heap.size, 3, none⟩ = some (.int .i64 S.lost) ∧ w8.cell? ⟨w5.heap.size, 4, none⟩ = some (.slice (some ⟨gs, 0, none⟩) S.sess.length S.sess.length) ∧ w8.cell? ⟨w5.heap.size, 5, none⟩ = some (.slice (some ⟨gl, 0, none⟩) S.lasts.length S.lasts.length)) ∧ (w8.cell? ⟨w.heap.size, 0, none⟩ = some (.int .i64 S.index) ∧ w8.cell? ⟨w.heap.size, 1, none⟩ = some rv ∧ w8.cell? ⟨w.heap.size, 2, none⟩ = some tv ∧ w8.cell? ⟨w.heap.size, 3, none⟩ = some (.int .i64 S.lost) ∧ w8.cell? ⟨w.heap.size, 4, none⟩ = some sv ∧ w8.cell? ⟨w.heap.size, 5, none⟩ = some lv) := ⟨⟨t0, t1, t2, t3, t4, t5⟩, ⟨q0, q1, q2, q3, q4, q5⟩⟩
    have HSS5 : Hid _ := S5
    have X5 : Ext w8 w8.drew := ext_drewN w8 1
    go_wp2_with fail
    go_region_held3 (fun w' => w'.cell? ⟨w5.heap.size, 0, none⟩ = some (.int .i64 S.index) ∧ w'.cell? ⟨w5.heap.size, 1, none⟩ = some (.slice (some ⟨gr, 0, none⟩) S.rows.length S.rows.length) ∧ w'.cell? ⟨w5.heap.size, 2, none⟩ = some (.slice (some ⟨gt, 0, none⟩) S.tombs.length S.tombs.length) ∧ w'.cell? ⟨w5.heap.size, 3, none⟩ = some (.int .i64 S.lost) ∧ w'.cell? ⟨w5.heap.size, 4, none⟩ = some (.slice (some ⟨gs, 0, none⟩) S.sess.length S.sess.length) ∧ w'.cell? ⟨w5.heap.size, 5, none⟩ = some (.slice (some ⟨gl, 0, none⟩) S.lasts.length S.lasts.length) ∧ w'.cell? ⟨w.heap.size, 0, none⟩ = some (.int .i64 S.index) ∧ w'.cell? ⟨w.heap.size, 1, none⟩ = some rv ∧ w'.cell? ⟨w.heap.size, 2, none⟩ = some tv ∧ w'.cell? ⟨w.heap.size, 3, none⟩ = some (.int .i64 S.lost) ∧ w'.cell? ⟨w.heap.size, 4, none⟩ = some sv ∧ w'.cell? ⟨w.heap.size, 5, none⟩ = some lv) (simp [*])
      (first | (go_at_call 6; refine (toSt _ S _ ?_ HL.out).mono ?_; exact (h0.out.ext (ext_below B8)).ext X5; rintro e w9 ⟨gr6, gt6, gs6, gl6, rfl, o9, b9⟩; obtain ⟨⟨a0, a1, a2, a3, a4, a5⟩, ⟨c0, c1, c2, c3, c4, c5⟩⟩ := kept12 (w := w8.drew) HSS5.out b9) | (go_at_call 9; refine (eqSt _ _ S _ ?_ ?_ HL.out).mono ?_; exact (HV8.out.ext X5).ext (ext_below b9); exact o9.v HL.out HR.out; rintro e w10 ⟨rfl, b10⟩; obtain ⟨⟨a0', a1', a2', a3', a4', a5'⟩, ⟨c0', c1', c2', c3', c4', c5'⟩⟩ := kept12 ⟨⟨a0, a1, a2, a3, a4, a5⟩, ⟨c0, c1, c2, c3, c4, c5⟩⟩ b10))
    have b810 : Below w8.heap.size w8 w10 := (below_drewN (Below.refl _ w8) 1).trans ((b9.mono (by simp)).trans (b10.mono (by have := b9.size; simpa using this)))
    have K10 : Hid (BY w.heap.size w5.heap.size #[.int .i64 S.index, rv, tv, .int .i64 S.lost, sv, lv] #[.int .i64 S.index, .slice (some ⟨gr, 0, none⟩) S.rows.length S.rows.length, .slice (some ⟨gt, 0, none⟩) S.tombs.length S.tombs.length, .int .i64 S.lost, .slice (some ⟨gs, 0, none⟩) S.sess.length S.sess.length, .slice (some ⟨gl, 0, none⟩) S.lasts.length S.lasts.length] w10) := K8.out.below b810
    have B10 := B8.trans (b810.mono B8.size)
    have s10 := b810.size
    have HS10 : Hid (Shp w4.heap.size w5.heap.size w10 gr gt gs gl S.rows.length S.tombs.length S.sess.length S.lasts.length) := HS8.out.ext (ext_below b810)
    have ow10 := ow8.ext (ext_below b810)
    have og10 := og8.ext (ext_below b810)
    clear b810 K8 HS8 HV8 ow8 og8 o9 b9 b10 S5 HSS5 X5 q0 q1 q2 q3 q4 q5 t0 t1 t2 t3 t4 t5
    clear a0 a1 a2 a3 a4 a5 c0 c1 c2 c3 c4 c5
    obtain ⟨t0, _⟩ := at_block K10.out.x 0 _ rfl
    obtain ⟨t1, _⟩ := at_block K10.out.x 1 _ rfl
    obtain ⟨t2, _⟩ := at_block K10.out.x 2 _ rfl
    obtain ⟨t3, _⟩ := at_block K10.out.x 3 _ rfl
    obtain ⟨t4, _⟩ := at_block K10.out.x 4 _ rfl
    obtain ⟨t5, _⟩ := at_block K10.out.x 5 _ rfl
    go_wp2_with fail
    refine (markStM w4.heap.size w5.heap.size gr gt gs gl _ _ _ _ _ _ 1 w10 HS10.out (by omega) (by omega) (by omega)).mono ?_
    rintro e w14 ⟨k14, hk0, hk1, rfl, m14⟩
    have K14 : Hid (BY w.heap.size w5.heap.size #[.int .i64 S.index, rv, tv, .int .i64 S.lost, sv, lv] #[.int .i64 S.index, .slice (some ⟨gr, 0, none⟩) S.rows.length S.rows.length, .slice (some ⟨gt, 0, none⟩) S.tombs.length S.tombs.length, .int .i64 S.lost, .slice (some ⟨gs, 0, none⟩) S.sess.length S.sess.length, .slice (some ⟨gl, 0, none⟩) S.lasts.length S.lasts.length] w14) := K10.out.mid m14 (by omega) (by omega)
    have B14 : Below w.heap.size w w14 := m14.below B10 B10.size (by omega)
    have ow14 : OwM w14 w2.heap.size vw ys := mid_m ow10 m14 (fun j hj => .inl (HLW.out j hj))
    have og14 : Ow w14 U.heap.size vg ys := mid_o og10 m14 (fun j hj => .inr (by have := (og10.lt j hj).1; omega))
    have dkk : decide (k14 < 0) = false := decide_eq_false (by omega)
    have hkk : ¬ k14 < 0 := by omega
    clear m14 K10 HS10 ow10 og10 t0 t1 t2 t3 t4 t5
    go_wp2_with fail
    refine (eqV_yes vg vw ys w14 (og14.rv hyr) (ow14.rv hyr) hyl2).mono ?_
    rintro e w16 ⟨rfl, q16, rfl⟩
    have x16 : Ext w14 (w14.drewN q16) := ext_drewN w14 q16
    have B16 := below_drewN B14 q16
    go_wp2_with fail
    refine (markV U.heap.size vg ys 1 _ (og14.ext x16) hyl2 (by omega) (by omega)).mono ?_
    rintro e w17 ⟨rfl, og17, g17⟩
    have hsU : w.heap.size ≤ U.heap.size := BU.size
    have B17 : Below w.heap.size w w17 := below_mark B16 hsU (og14.ext x16) B16.size g17
    have ow17 : OwM w17 w2.heap.size vw ys := (ow14.ext x16).kept g17 (apart9 (B := U.heap.size) (fun j hj => by have := HLW.out j hj; omega) (fun j hj => (og14.lt j hj).1))
    have Q17 := (g17.block _ (Array.getElem?_eq_some_iff.1 K14.out.a).1 (fun e => by have := (og14.lt _ e.symm).1; have := (Array.getElem?_eq_some_iff.1 K14.out.x).1; omega)).trans K14.out.a
    have hpos2 : ¬ (1 + (ys.length : Int)) < 0 := by omega
    clear K14 g17 x16
    go_wp2_with fail
    refine (heldV vg ys.length 1 w17 (og17.rv (marks_rng _ _)) hyl2 (by omega) (by omega)).mono ?_
    rintro e w18 ⟨rfl, e18⟩
    have e19 := e18.symm
    clear e18
    subst e19
    obtain ⟨q0, _⟩ := at_block Q17 0 _ rfl
    obtain ⟨q1, _⟩ := at_block Q17 1 _ rfl
    obtain ⟨q2, _⟩ := at_block Q17 2 _ rfl
    obtain ⟨q3, _⟩ := at_block Q17 3 _ rfl
    obtain ⟨q4, _⟩ := at_block Q17 4 _ rfl
    obtain ⟨q5, _⟩ := at_block Q17 5 _ rfl
    go_wp2_with fail
    refine (toSt _ S w17 (h0.out.ext (ext_below B17)) HL.out).mono ?_
    rintro e w19 ⟨gr9, gt9, gs9, gl9, rfl, o19, b19⟩
    have B19 := B17.trans (b19.mono B17.size)
    have HV19 : Hid (VState w19 (stV gr9 gt9 gs9 gl9 S) S) := o19.v HL.out HR.out
    clear q0 q1 q2 q3 q4 q5 Q17
    go_wp2_with fail
    refine (iStateTextV _ S w19 HV19.out (HP.out w19 B19)).mono ?_
    rintro e w21 ⟨vh, rfl, oh21, b21⟩
    rw [← HY.out] at oh21
    have B21 := B19.trans (b21.mono B19.size)
    have x21 : Ext w17 w21 := (ext_below b19).tr (ext_below b21)
    go_wp2_with fail
    refine (eqV_yes vh vw ys w21 (oh21.rv hyr) ((ow17.ext x21).rv hyr) hyl2).mono ?_
    rintro e w22 ⟨rfl, q22, rfl⟩
    go_wp2_with fail
    refine (heldV vg ys.length 1 _ (((og17.ext x21).ext (ext_drewN w21 q22)).rv (marks_rng _ _)) hyl2 (by omega) (by omega)).mono ?_
    rintro e w23 ⟨rfl, e23⟩
    have e24 := e23.symm
    clear e23
    subst e24
    go_wp2
    go_ret
    exact ⟨rfl, below_drewN B21 q22⟩

end Go.Proofs.YtheojmjnpemkbaaDoor

namespace Go.Proofs.YtheojmjnpemkbaaDoor

theorem laid_entry {P : Program} {W : World} : ∀ {l : List (String × DataW Unit)} {ps : List MemPlace}, DataW.LaidVars P W l ps → ∀ (i : Nat) (n : String) (d : DataW Unit), l[i]? = some (n, d) →
    ∃ g t cs fuel p, P.globalNamed n = some g ∧ (P.globals[g]?).map (·.type) = some t ∧ W.var? P n = some cs ∧ DataW.trod (fun _ => ()) P W 0 (fun _ => true) false fuel t cs.toList = some (d, p) := by
  intro l
  induction l with
  | nil => intro ps _ i n d h; simp at h
  | cons x l ih =>
    intro ps h i n d hi
    obtain ⟨n0, d0⟩ := x
    obtain ⟨g, t, cs, fuel, p, q, h1, h2, h3, h4, h5, _⟩ := h
    cases i with
    | zero =>
      simp only [List.getElem?_cons_zero, Option.some.injEq, Prod.mk.injEq] at hi
      obtain ⟨rfl, rfl⟩ := hi
      exact ⟨g, t, cs, fuel, p, h1, h2, h3, h4⟩
    | succ i => exact ih h5 i n d (by simpa using hi)

/-- A table of integers. -/
theorem laid_tab {P : Program} {W : World} {l : List (String × DataW Unit)} (h : laidMet P l W) (i : Nat) (n : String) (k : IntKind) (zs : List Int) (hi : l[i]? = some (n, Lib.tabData k zs)) {g : Nat} {t e : TypeId} {m : Nat}
    (hg : P.globalNamed n = some g) (hty : (P.globals[g]?).map (·.type) = some t) (ht : P.underlying t = some (.array m e)) (he : P.underlying e = some (.int k)) (hce : P.cellsOf e = 1) (hct : P.cellsOf t = m) : Lib.TabIs P W n k zs := by
  obtain ⟨ps, hl, _⟩ := h
  obtain ⟨g', t', cs, fuel, p, h1, h2, h3, h4⟩ := laid_entry hl i n _ hi
  obtain rfl := Option.some.inj (hg.symm.trans h1)
  obtain rfl := Option.some.inj (hty.symm.trans h2)
  unfold Lib.TabIs
  rw [h3, ← Lib.cells_of_tab ht he hce hct h4]

/-- A table of strings: its cells. -/
theorem laid_strs {P : Program} {W : World} {l : List (String × DataW Unit)} (h : laidMet P l W) (i : Nat) (n : String) (ss : List (List UInt8)) (hi : l[i]? = some (n, .agg (ss.map fun s => .lit (.string s)))) {g : Nat} {t e : TypeId} {m : Nat}
    (hg : P.globalNamed n = some g) (hty : (P.globals[g]?).map (·.type) = some t) (ht : P.underlying t = some (.array m e)) (he : P.underlying e = some .string) (hce : P.cellsOf e = 1) (hct : P.cellsOf t = m) :
    ∀ (j : Nat) (s : List UInt8), ss[j]? = some s → W.cell? ⟨g, j, none⟩ = some (.string ⟨s.toArray⟩) := by
  obtain ⟨ps, hl, _⟩ := h
  obtain ⟨g', t', cs, fuel, p, h1, h2, h3, h4⟩ := laid_entry hl i n _ hi
  obtain rfl := Option.some.inj (hg.symm.trans h1)
  obtain rfl := Option.some.inj (hty.symm.trans h2)
  intro j s hs
  rw [World.var?_cell hg h3 j]
  cases fuel with
  | zero => simp [DataW.trod] at h4
  | succ fuel =>
    simp only [DataW.trod, ht, hce, hct, Nat.mul_one] at h4
    split at h4
    · obtain ⟨xs, hm, hx⟩ := Option.map_eq_some_iff.1 h4
      have hxs : xs.map (·.1) = ss.map fun s => (DataW.lit (.string s) : DataW Unit) := by
        have := congrArg Prod.fst hx
        simpa using this
      have hxl : xs.length = m := by simpa using Lib.mapM_length hm
      have hj : j < m := by
        have h0 := (List.getElem?_eq_some_iff.1 hs).1
        have := congrArg List.length hxs
        simp at this
        omega
      obtain ⟨b, hb, hf⟩ := Lib.mapM_at hm j j (by simp [hj])
      obtain ⟨z, hc, rfl, _⟩ := DataW.trod_string he hf
      have h5 : cs.toList[j]? = some (.string z) := by
        have := congrArg (·[0]?) hc
        simpa [List.getElem?_take, List.getElem?_drop] using this
      have h6 : (xs.map (·.1))[j]? = some (DataW.lit (.string z.data.toList) : DataW Unit) := by simp [hb]
      rw [hxs] at h6
      simp only [List.getElem?_map, hs, Option.map_some, Option.some.injEq, DataW.lit.injEq, Lit.string.injEq] at h6
      have h7 : cs[j]? = cs.toList[j]? := by simp
      rw [h7, h5, h6]
    · cases h4

end Go.Proofs.YtheojmjnpemkbaaDoor

namespace Go.Proofs.YtheojmjnpemkbaaDoor
open Go.ChangeShapes Go.WideShapes Go.ChangeAt Go.RowKit

theorem own : ownKnob Tryd.prog.godebug = none := by kernel_rfl
theorem laidOut : laidOutB Tryd.prog = true := by kernel_rfl

/-- What the row's list gives: the library's powers of ten. -/
theorem pow_tab {W : World} (h : laidMetH Tryd.prog Rows.fnExactStateTextRow.laid W) : PowTab W.heap.size W := by
  have h' : laidMet Tryd.prog Rows.fnExactStateTextRow.laid W := h
  exact Lib.tabBelow_of_tabIs (laid_tab h' 2 powName .u64 Lib.pow10Tab rfl (g := 1) (by kernel_rfl) (by kernel_rfl) Tryd.underlying116 Tryd.underlying106 (by kernel_rfl) (by kernel_rfl))

set_option maxRecDepth 100000 in
theorem contract (H : Type) (enc : TypeId × Value → H) (W : World) (base : Nat) (args : Array Value) (ds gs : List (DataW H)) (before : List MemPlace)
    (hval0 : ∀ (j : Nat) t v, Tryd.f3.params[j]? = some t → args[j]? = some v → Value.okWide Tryd.prog W .any base t v)
    (hW : DataW.Whole enc Tryd.prog Tryd.f3.params.toList Rows.fnExactStateTextSpec.vars false W args.toList ds gs before) (hL : laidMetH Tryd.prog Rows.fnExactStateTextRow.laid W) :
    Calls Tryd.prog 3 args W fun e W' => ∃ v, e = .returned v ∧ Rows.fnExactStateTextSpec.post enc Tryd.prog Tryd.f3 false true false false W args v W' := by
  have hval : ∀ (j : Nat) t v, Tryd.f3.params[j]? = some t → args[j]? = some v → Value.okWide Tryd.prog W .any base t v := hval0
  have hW' := hW
  obtain ⟨p, q, hA0, hV, rfl, hfz, hnd⟩ := hW
  have hA : DataW.TrodAll enc Tryd.prog W 0 (fun _ => true) true Tryd.f3.params.toList args.toList ds p := hA0
  rw [Tryd.params3] at hA hval
  obtain ⟨v0, vs0, d0, ds0, p0, q0, hargs, rfl, rfl, h0, r0⟩ := trodAll_cons hA
  obtain ⟨rfl, rfl, rfl⟩ := trodAll_nil r0
  obtain rfl : args = #[v0] := by cases args; simp_all
  obtain ⟨rfl, rfl⟩ := trodVars_none hV
  have k0 := h0
  have lt0 : ∀ x ∈ p0, x.block < W.heap.size := by obtain ⟨m, hm⟩ := k0; exact DataW.trod_lt m _ _ _ hm
  obtain ⟨D0, w0⟩ := open_State (hval 0 27 v0 rfl rfl) h0
  clear hA0 hval0
  refine (law_StateText v0 D0 W w0.1 w0.2.1 w0.2.2 (pow_tab hL)).mono fun e W' ⟨he, bel⟩ => ?_
  subst he
  exact ⟨_, rfl, _, _, _, [], _, [], hW', trodAll_mk1 (shut_bool Tryd.underlying4 _), (trodAll_cons_mk (Below.trod laidOut (by kernel_rfl) (of_decide_eq_true (by kernel_rfl)) k0 bel lt0) trodAll_mk0), rfl, bel.frame _, fun h => by cases h⟩

set_option maxRecDepth 100000 in
theorem laid_met (os : Os) : laidMet Tryd.prog Rows.fnExactStateTextRow.laid (({ World.holding Tryd.prog os ⟨#[], #[], []⟩ with heap := ((((World.holding Tryd.prog os ⟨#[], #[], []⟩).heap.modify 2 fun | .cells _ t frozen => .cells #[.int .u8 0, .int .u8 1, .int .u8 28, .int .u8 2, .int .u8 29, .int .u8 14, .int .u8 24, .int .u8 3, .int .u8 30, .int .u8 22, .int .u8 20, .int .u8 15, .int .u8 25, .int .u8 17, .int .u8 4, .int .u8 8, .int .u8 31, .int .u8 27, .int .u8 13, .int .u8 23, .int .u8 21, .int .u8 19, .int .u8 16, .int .u8 7, .int .u8 26, .int .u8 12, .int .u8 18, .int .u8 6, .int .u8 11, .int .u8 5, .int .u8 10, .int .u8 9] t frozen | o => o).modify 3 fun | .cells _ t frozen => .cells #[.int .u8 0, .int .u8 1, .int .u8 56, .int .u8 2, .int .u8 57, .int .u8 49, .int .u8 28, .int .u8 3, .int .u8 61, .int .u8 58, .int .u8 42, .int .u8 50, .int .u8 38, .int .u8 29, .int .u8 17, .int .u8 4, .int .u8 62, .int .u8 47, .int .u8 59, .int .u8 36, .int .u8 45, .int .u8 43, .int .u8 51, .int .u8 22, .int .u8 53, .int .u8 39, .int .u8 33, .int .u8 30, .int .u8 24, .int .u8 18, .int .u8 12, .int .u8 5, .int .u8 63, .int .u8 55, .int .u8 48, .int .u8 27, .int .u8 60, .int .u8 41, .int .u8 37, .int .u8 16, .int .u8 46, .int .u8 35, .int .u8 44, .int .u8 21, .int .u8 52, .int .u8 32, .int .u8 23, .int .u8 11, .int .u8 54, .int .u8 26, .int .u8 40, .int .u8 15, .int .u8 34, .int .u8 20, .int .u8 31, .int .u8 10, .int .u8 25, .int .u8 14, .int .u8 19, .int .u8 9, .int .u8 13, .int .u8 8, .int .u8 7, .int .u8 6] t frozen | o => o).modify 1 fun | .cells _ t frozen => .cells #[.int .u64 1, .int .u64 10, .int .u64 100, .int .u64 1000, .int .u64 10000, .int .u64 100000, .int .u64 1000000, .int .u64 10000000, .int .u64 100000000, .int .u64 1000000000, .int .u64 10000000000, .int .u64 100000000000, .int .u64 1000000000000, .int .u64 10000000000000, .int .u64 100000000000000, .int .u64 1000000000000000, .int .u64 10000000000000000, .int .u64 100000000000000000, .int .u64 1000000000000000000, .int .u64 10000000000000000000] t frozen | o => o) } : World).forCall (fun _ _ => 0) ⟨#[], #[.agg #[.int .i64 0, .slice none 0 0, .slice none 0 0, .int .i64 0, .slice none 0 0, .slice none 0 0]], []⟩).memory :=
  laidMet_of_run' 8 (by kernel_rfl) (by kernel_rfl)

set_option maxRecDepth 100000 in
theorem reads (os : Os) {H : Type} (enc : TypeId × Value → H) : ∃ places, DataW.whole enc Tryd.prog (({ World.holding Tryd.prog os ⟨#[], #[], []⟩ with heap := ((((World.holding Tryd.prog os ⟨#[], #[], []⟩).heap.modify 2 fun | .cells _ t frozen => .cells #[.int .u8 0, .int .u8 1, .int .u8 28, .int .u8 2, .int .u8 29, .int .u8 14, .int .u8 24, .int .u8 3, .int .u8 30, .int .u8 22, .int .u8 20, .int .u8 15, .int .u8 25, .int .u8 17, .int .u8 4, .int .u8 8, .int .u8 31, .int .u8 27, .int .u8 13, .int .u8 23, .int .u8 21, .int .u8 19, .int .u8 16, .int .u8 7, .int .u8 26, .int .u8 12, .int .u8 18, .int .u8 6, .int .u8 11, .int .u8 5, .int .u8 10, .int .u8 9] t frozen | o => o).modify 3 fun | .cells _ t frozen => .cells #[.int .u8 0, .int .u8 1, .int .u8 56, .int .u8 2, .int .u8 57, .int .u8 49, .int .u8 28, .int .u8 3, .int .u8 61, .int .u8 58, .int .u8 42, .int .u8 50, .int .u8 38, .int .u8 29, .int .u8 17, .int .u8 4, .int .u8 62, .int .u8 47, .int .u8 59, .int .u8 36, .int .u8 45, .int .u8 43, .int .u8 51, .int .u8 22, .int .u8 53, .int .u8 39, .int .u8 33, .int .u8 30, .int .u8 24, .int .u8 18, .int .u8 12, .int .u8 5, .int .u8 63, .int .u8 55, .int .u8 48, .int .u8 27, .int .u8 60, .int .u8 41, .int .u8 37, .int .u8 16, .int .u8 46, .int .u8 35, .int .u8 44, .int .u8 21, .int .u8 52, .int .u8 32, .int .u8 23, .int .u8 11, .int .u8 54, .int .u8 26, .int .u8 40, .int .u8 15, .int .u8 34, .int .u8 20, .int .u8 31, .int .u8 10, .int .u8 25, .int .u8 14, .int .u8 19, .int .u8 9, .int .u8 13, .int .u8 8, .int .u8 7, .int .u8 6] t frozen | o => o).modify 1 fun | .cells _ t frozen => .cells #[.int .u64 1, .int .u64 10, .int .u64 100, .int .u64 1000, .int .u64 10000, .int .u64 100000, .int .u64 1000000, .int .u64 10000000, .int .u64 100000000, .int .u64 1000000000, .int .u64 10000000000, .int .u64 100000000000, .int .u64 1000000000000, .int .u64 10000000000000, .int .u64 100000000000000, .int .u64 1000000000000000, .int .u64 10000000000000000, .int .u64 100000000000000000, .int .u64 1000000000000000000, .int .u64 10000000000000000000] t frozen | o => o) } : World).forCall (fun _ _ => 0) ⟨#[], #[.agg #[.int .i64 0, .slice none 0 0, .slice none 0 0, .int .i64 0, .slice none 0 0, .slice none 0 0]], []⟩).memory Tryd.f3.params.toList Rows.fnExactStateTextSpec.vars false (#[.agg #[.int .i64 0, .slice none 0 0, .slice none 0 0, .int .i64 0, .slice none 0 0, .slice none 0 0]] : Array Value).toList 8 = some ([.agg [.lit (.int .i64 0), .nil, .nil, .lit (.int .i64 0), .nil, .nil]], [], places) :=
  ⟨[], by kernel_rfl⟩

set_option maxRecDepth 100000 in
theorem lifted (os : Os) (started : os.Started) (H : Type) (enc : TypeId × Value → H) (F : Stop.Interp) :
    ReturnsInHanded {} Tryd.checked os 3 .any ((OpenSpec.ofChange Rows.fnExactStateTextSpec).preRow enc Tryd.prog Tryd.f3 Rows.fnExactStateTextRow.domain false Rows.fnExactStateTextRow.laid) (((OpenSpec.ofChange Rows.fnExactStateTextSpec).at F).post enc Tryd.prog Tryd.f3 false true false false) := by
  obtain ⟨places, hx⟩ := reads os enc
  refine returnsInHanded_of_row (C := Tryd.checked) (s := OpenSpec.ofChange Rows.fnExactStateTextSpec) own started (by kernel_rfl) Tryd.func3
    (witness_row_at (enc := enc) (C := Tryd.checked) false ({ World.holding Tryd.prog os ⟨#[], #[], []⟩ with heap := ((((World.holding Tryd.prog os ⟨#[], #[], []⟩).heap.modify 2 fun | .cells _ t frozen => .cells #[.int .u8 0, .int .u8 1, .int .u8 28, .int .u8 2, .int .u8 29, .int .u8 14, .int .u8 24, .int .u8 3, .int .u8 30, .int .u8 22, .int .u8 20, .int .u8 15, .int .u8 25, .int .u8 17, .int .u8 4, .int .u8 8, .int .u8 31, .int .u8 27, .int .u8 13, .int .u8 23, .int .u8 21, .int .u8 19, .int .u8 16, .int .u8 7, .int .u8 26, .int .u8 12, .int .u8 18, .int .u8 6, .int .u8 11, .int .u8 5, .int .u8 10, .int .u8 9] t frozen | o => o).modify 3 fun | .cells _ t frozen => .cells #[.int .u8 0, .int .u8 1, .int .u8 56, .int .u8 2, .int .u8 57, .int .u8 49, .int .u8 28, .int .u8 3, .int .u8 61, .int .u8 58, .int .u8 42, .int .u8 50, .int .u8 38, .int .u8 29, .int .u8 17, .int .u8 4, .int .u8 62, .int .u8 47, .int .u8 59, .int .u8 36, .int .u8 45, .int .u8 43, .int .u8 51, .int .u8 22, .int .u8 53, .int .u8 39, .int .u8 33, .int .u8 30, .int .u8 24, .int .u8 18, .int .u8 12, .int .u8 5, .int .u8 63, .int .u8 55, .int .u8 48, .int .u8 27, .int .u8 60, .int .u8 41, .int .u8 37, .int .u8 16, .int .u8 46, .int .u8 35, .int .u8 44, .int .u8 21, .int .u8 52, .int .u8 32, .int .u8 23, .int .u8 11, .int .u8 54, .int .u8 26, .int .u8 40, .int .u8 15, .int .u8 34, .int .u8 20, .int .u8 31, .int .u8 10, .int .u8 25, .int .u8 14, .int .u8 19, .int .u8 9, .int .u8 13, .int .u8 8, .int .u8 7, .int .u8 6] t frozen | o => o).modify 1 fun | .cells _ t frozen => .cells #[.int .u64 1, .int .u64 10, .int .u64 100, .int .u64 1000, .int .u64 10000, .int .u64 100000, .int .u64 1000000, .int .u64 10000000, .int .u64 100000000, .int .u64 1000000000, .int .u64 10000000000, .int .u64 100000000000, .int .u64 1000000000000, .int .u64 10000000000000, .int .u64 100000000000000, .int .u64 1000000000000000, .int .u64 10000000000000000, .int .u64 100000000000000000, .int .u64 1000000000000000000, .int .u64 10000000000000000000] t frozen | o => o) } : World) #[.agg #[.int .i64 0, .slice none 0 0, .slice none 0 0, .int .i64 0, .slice none 0 0, .slice none 0 0]] rfl (by kernel_rfl) (by kernel_rfl) (by kernel_rfl)
      (OpenSpec.preRow_of_cond 8 hx (by kernel_rfl) (fun k hk => by cases hk) (by kernel_rfl) (laid_met os))) ?_
  intro W base args ds gs before hval hW _ _ _ hL _ _
  exact contract H enc W base args ds gs before hval hW hL

theorem said : Rows.FnExactStateTextSaid :=
  OpenClaim.holds_of_cond 3 Tryd.f3 rfl rfl rfl rfl rfl rfl rfl ⟨rfl, rfl, rfl, rfl, rfl⟩ rfl rfl rfl rfl rfl (by kernel_rfl) Tryd.func3 (by kernel_rfl)
    (of_decide_eq_true (by kernel_rfl)) (by unfold Func.isWrapper; first | (rw [if_pos (by decide +kernel)]; kernel_rfl) | (rw [if_neg (by decide +kernel)]; exact ⟨rfl, rfl⟩))
    (fun os started H enc _ F => by rw [OpenClaim.pre_eq_preRow]; exact lifted os started H enc F)

theorem plain (f : FuncId) (fn : Func) (hf : Tryd.pinned.checked.prog.funcNamed Rows.fnExactStateTextRow.func = some f) (hfn : Tryd.pinned.checked.prog.funcs[f]? = some fn) :
    false = Tryd.pinned.checked.prog.looks [] ∧ ∀ (j : Nat) t, fn.params[j]? = some t → Tryd.pinned.checked.prog.wantsStandIn t = false := by
  obtain rfl : f = 3 := Option.some.inj ((show Tryd.prog.funcNamed Rows.fnExactStateTextRow.func = some 3 by kernel_rfl).symm.trans hf) |>.symm
  obtain rfl : fn = Tryd.f3 := (Option.some.inj (Tryd.func3.symm.trans hfn)).symm
  refine ⟨by kernel_rfl, fun j t ht => ?_⟩
  rw [Tryd.params3] at ht
  obtain rfl : t = 27 := by simpa using Array.mem_of_getElem? ht
  exact (show Tryd.prog.wantsStandIn 27 = false by kernel_rfl)

theorem proved : Rows.FnExactStateTextCardSaid :=
  Claim7.holds_tied_plain_at .later [] _ _ _ _ said (fun _ h => by cases h) (by kernel_rfl) (fun _ h => by cases h) fnExactStateText_row_tie rfl ⟨rfl, rfl⟩ (by kernel_rfl) rfl plain (by kernel_rfl)
#print axioms proved
end Go.Proofs.YtheojmjnpemkbaaDoor

