/- At every state StateBytes answers as the specification, every byte; it writes into no argument, and its answer owns its memory; without a condition. -/
import Derived.Test.YtknemgmfbmmngaaMkA
import Derived.Test.YtknemgmfbmmngaaInf
import Derived.Test.YtknemgmfbmmngaaVal0
import Derived.ProofKit
import Derived.OpenShut
import Derived.Lib.SmallJoins
import Derived.Test.YtknemgmfbmmngaaSt0
import Derived.Deep.Slices
import Derived.Test.YtknemgmfbmmngaaToSt
import Derived.Test.YtknemgmfbmmngaaBy4
import Derived.Deep.RegionHeld3
import Derived.Test.YtknemgmfbmmngaaRows
import Derived.ChangeOld
import Derived.Carry
namespace Go.Proofs.Ytknemgmfbmmngaa
open Go.RowKit

/-- Which cells of an element are texts. -/
def txR : Nat → Prop := fun j => j = 0 ∨ j = 1

set_option maxHeartbeats 4000000 in
theorem markRM (lo hi g n : Nat) (F : Nat → Nat → Value) (k : Int) (w : World) (h : Arr w g 57 4 n txR F) (hw : ∀ i, i < n → WB lo hi w (F i 0) ∧ WB lo hi w (F i 1)) (h1 : lo ≤ g) (h2 : g < hi) (hn : n ≤ 1048576) (hk0 : 0 ≤ k) (hk : k ≤ 70368744177664) :
    Calls Try.prog 37 #[.slice (some ⟨g, 0, none⟩) n n, .int .i64 k] w fun e w' => ∃ m : Nat, m ≤ n * 2097154 ∧ e = .returned (.int .i64 (k + m)) ∧ Mk lo hi (some g) w w' := by
  have HW : Hid (∀ i, i < n → WB lo hi w (F i 0) ∧ WB lo hi w (F i 1)) := hw
  have HA : Hid (Arr w g 57 4 n txR F) := h
  have h5 : (57 : TypeId) ≠ 5 := by decide
  have H5 : Hid ((57 : TypeId) ≠ 5) := h5
  clear hw h h5
  go_enter Try.func37, Try.ntmps37
  go_wp2
  go_loopw [1, 5] (fun q i wr => ∃ j m : Nat, j ≤ n ∧ m ≤ j * 2097154 ∧ i = .int .i64 j ∧ q = .int .i64 (k + m) ∧ Mk lo hi (some g) w wr ∧ Hid (Arr wr g 57 4 n txR F)) (fun _ i _ => n - (intOf i).toNat)
  case atStart => exact ⟨0, 0, Nat.zero_le _, by omega, rfl, by go_num, Mk.re _ _ _ _, HA.out⟩
  case round =>
    obtain ⟨j, m, hj, hmj, rfl, rfl, hm, ha⟩ := hrel
    by_cases hlt : j < n
    · have hlt' : (j : Int) < (n : Int) := by omega
      have HM0 : Hid (Mk lo hi (some g) w wr) := hm
      clear hm
      have d0 := Arr.cell ha.out j hlt 0 (by omega) (by unfold txR; omega)
      rw [Nat.add_zero] at d0
      go_wp2_with fail
      refine (markW lo hi none _ _ wr ((HW.out j hlt).1.mk HM0.out) (by omega) (by omega)).mono ?_
      rintro e w1 ⟨n1, hn1, rfl, M1⟩
      have HM1 : Hid (Mk lo hi (some g) w w1) := (HM0.out).tr M1.some
      have HA1 : Hid (Arr w1 g 57 4 n txR F) := (ha.out).mk M1 H5.out (by simp)
      clear M1 d0
      have d1 := Arr.cell HA1.out j hlt 1 (by omega) (by unfold txR; omega)
      go_wp2_with fail
      refine (markW lo hi none _ _ w1 ((HW.out j hlt).2.mk HM1.out) (by omega) (by omega)).mono ?_
      rintro e w2 ⟨n2, hn2, rfl, M2⟩
      have HM2 : Hid (Mk lo hi (some g) w w2) := (HM1.out).tr M2.some
      have HA2 : Hid (Arr w2 g 57 4 n txR F) := (HA1.out).mk M2 H5.out (by simp)
      clear M2 d1
      obtain ⟨⟨u0, a0⟩, f0⟩ := Arr.at HA2.out (j * 4 + 2) (by omega)
      obtain ⟨⟨u1, a1⟩, f1⟩ := Arr.at HA2.out (j * 4 + 3) (by omega)
      have HZ : Hid (∀ V0 V1 : Value, Mk lo hi (some g) w ((w2.setCell ⟨g, j * 4 + 2, none⟩ V0).setCell ⟨g, j * 4 + 3, none⟩ V1) ∧ Arr ((w2.setCell ⟨g, j * 4 + 2, none⟩ V0).setCell ⟨g, j * 4 + 3, none⟩ V1) g 57 4 n txR F) := fun V0 V1 => ⟨((((HM2.out).tr (Arr.mkset (HA2.out) h1 h2 (j * 4 + 2) V0))).tr (Arr.mkset (((HA2.out).set j 2 (by omega) (by unfold txR; first | omega | simp) V0)) h1 h2 (j * 4 + 3) V1)), ((((HA2.out).set j 2 (by omega) (by unfold txR; first | omega | simp) V0)).set j 3 (by omega) (by unfold txR; first | omega | simp) V1)⟩
      clear ha HM0 HM1 HA1 HM2 HA2
      go_wp2
      go_roundw
      case rel => exact ⟨j + 1, m + n1 + n2 + 2, by omega, by omega, by go_num, by go_num, (HZ.out _ _).1, (HZ.out _ _).2⟩
      case measure => simp [intOf]; omega
    · have hjn : j = n := by omega
      subst hjn
      clear ha
      go_wp2
      go_ret
      exact ⟨m, hmj, rfl, hm⟩

/-- Which cells of an element are texts. -/
def txT : Nat → Prop := fun j => j = 0

set_option maxHeartbeats 4000000 in
theorem markTM (lo hi g n : Nat) (F : Nat → Nat → Value) (k : Int) (w : World) (h : Arr w g 61 2 n txT F) (hw : ∀ i, i < n → WB lo hi w (F i 0)) (h1 : lo ≤ g) (h2 : g < hi) (hn : n ≤ 1048576) (hk0 : 0 ≤ k) (hk : k ≤ 70368744177664) :
    Calls Try.prog 38 #[.slice (some ⟨g, 0, none⟩) n n, .int .i64 k] w fun e w' => ∃ m : Nat, m ≤ n * 1048577 ∧ e = .returned (.int .i64 (k + m)) ∧ Mk lo hi (some g) w w' := by
  have HW : Hid (∀ i, i < n → WB lo hi w (F i 0)) := hw
  have HA : Hid (Arr w g 61 2 n txT F) := h
  have h5 : (61 : TypeId) ≠ 5 := by decide
  have H5 : Hid ((61 : TypeId) ≠ 5) := h5
  clear hw h h5
  go_enter Try.func38, Try.ntmps38
  go_wp2
  go_loopw [1, 5] (fun q i wr => ∃ j m : Nat, j ≤ n ∧ m ≤ j * 1048577 ∧ i = .int .i64 j ∧ q = .int .i64 (k + m) ∧ Mk lo hi (some g) w wr ∧ Hid (Arr wr g 61 2 n txT F)) (fun _ i _ => n - (intOf i).toNat)
  case atStart => exact ⟨0, 0, Nat.zero_le _, by omega, rfl, by go_num, Mk.re _ _ _ _, HA.out⟩
  case round =>
    obtain ⟨j, m, hj, hmj, rfl, rfl, hm, ha⟩ := hrel
    by_cases hlt : j < n
    · have hlt' : (j : Int) < (n : Int) := by omega
      have HM0 : Hid (Mk lo hi (some g) w wr) := hm
      clear hm
      have d0 := Arr.cell ha.out j hlt 0 (by omega) (by unfold txT; omega)
      rw [Nat.add_zero] at d0
      go_wp2_with fail
      refine (markW lo hi none _ _ wr ((HW.out j hlt).mk HM0.out) (by omega) (by omega)).mono ?_
      rintro e w1 ⟨n1, hn1, rfl, M1⟩
      have HM1 : Hid (Mk lo hi (some g) w w1) := (HM0.out).tr M1.some
      have HA1 : Hid (Arr w1 g 61 2 n txT F) := (ha.out).mk M1 H5.out (by simp)
      clear M1 d0
      obtain ⟨⟨u0, a0⟩, f0⟩ := Arr.at HA1.out (j * 2 + 1) (by omega)
      have HZ : Hid (∀ V0 : Value, Mk lo hi (some g) w (w1.setCell ⟨g, j * 2 + 1, none⟩ V0) ∧ Arr (w1.setCell ⟨g, j * 2 + 1, none⟩ V0) g 61 2 n txT F) := fun V0 => ⟨((HM1.out).tr (Arr.mkset (HA1.out) h1 h2 (j * 2 + 1) V0)), ((HA1.out).set j 1 (by omega) (by unfold txT; first | omega | simp) V0)⟩
      clear ha HM0 HM1 HA1
      go_wp2
      go_roundw
      case rel => exact ⟨j + 1, m + n1 + 1, by omega, by omega, by go_num, by go_num, (HZ.out _).1, (HZ.out _).2⟩
      case measure => simp [intOf]; omega
    · have hjn : j = n := by omega
      subst hjn
      clear ha
      go_wp2
      go_ret
      exact ⟨m, hmj, rfl, hm⟩

/-- Which cells of an element are texts. -/
def txS : Nat → Prop := fun _ => False

set_option maxHeartbeats 4000000 in
theorem markSM (lo hi g n : Nat) (F : Nat → Nat → Value) (k : Int) (w : World) (h : Arr w g 65 2 n txS F) (hw : ∀ i, i < n → True) (h1 : lo ≤ g) (h2 : g < hi) (hn : n ≤ 1048576) (hk0 : 0 ≤ k) (hk : k ≤ 70368744177664) :
    Calls Try.prog 39 #[.slice (some ⟨g, 0, none⟩) n n, .int .i64 k] w fun e w' => ∃ m : Nat, m ≤ n * 2 ∧ e = .returned (.int .i64 (k + m)) ∧ Mk lo hi (some g) w w' := by
  have HW : Hid (∀ i, i < n → True) := hw
  have HA : Hid (Arr w g 65 2 n txS F) := h
  have h5 : (65 : TypeId) ≠ 5 := by decide
  have H5 : Hid ((65 : TypeId) ≠ 5) := h5
  clear hw h h5
  go_enter Try.func39, Try.ntmps39
  go_wp2
  go_loopw [1, 5] (fun q i wr => ∃ j m : Nat, j ≤ n ∧ m ≤ j * 2 ∧ i = .int .i64 j ∧ q = .int .i64 (k + m) ∧ Mk lo hi (some g) w wr ∧ Hid (Arr wr g 65 2 n txS F)) (fun _ i _ => n - (intOf i).toNat)
  case atStart => exact ⟨0, 0, Nat.zero_le _, by omega, rfl, by go_num, Mk.re _ _ _ _, HA.out⟩
  case round =>
    obtain ⟨j, m, hj, hmj, rfl, rfl, hm, ha⟩ := hrel
    by_cases hlt : j < n
    · have hlt' : (j : Int) < (n : Int) := by omega
      have HM0 : Hid (Mk lo hi (some g) w wr) := hm
      clear hm
      obtain ⟨⟨u0, a0⟩, f0⟩ := Arr.at ha.out (j * 2 + 0) (by omega)
      rw [Nat.add_zero] at a0 f0
      obtain ⟨⟨u1, a1⟩, f1⟩ := Arr.at ha.out (j * 2 + 1) (by omega)
      have HZ : Hid (∀ V0 V1 : Value, Mk lo hi (some g) w ((wr.setCell ⟨g, j * 2 + 0, none⟩ V0).setCell ⟨g, j * 2 + 1, none⟩ V1) ∧ Arr ((wr.setCell ⟨g, j * 2 + 0, none⟩ V0).setCell ⟨g, j * 2 + 1, none⟩ V1) g 65 2 n txS F) := fun V0 V1 => ⟨((((HM0.out).tr (Arr.mkset (ha.out) h1 h2 (j * 2 + 0) V0))).tr (Arr.mkset (((ha.out).set j 0 (by omega) (by unfold txS; first | omega | simp) V0)) h1 h2 (j * 2 + 1) V1)), ((((ha.out).set j 0 (by omega) (by unfold txS; first | omega | simp) V0)).set j 1 (by omega) (by unfold txS; first | omega | simp) V1)⟩
      clear ha HM0
      go_wp2
      go_roundw
      case rel => exact ⟨j + 1, m + 2, by omega, by omega, by go_num, by go_num, (HZ.out _ _).1, (HZ.out _ _).2⟩
      case measure => simp [intOf]; omega
    · have hjn : j = n := by omega
      subst hjn
      clear ha
      go_wp2
      go_ret
      exact ⟨m, hmj, rfl, hm⟩

/-- Which cells of an element are texts. -/
def txL : Nat → Prop := fun _ => False

set_option maxHeartbeats 4000000 in
theorem markLM (lo hi g n : Nat) (F : Nat → Nat → Value) (k : Int) (w : World) (h : Arr w g 71 4 n txL F) (hw : ∀ i, i < n → True) (h1 : lo ≤ g) (h2 : g < hi) (hn : n ≤ 1048576) (hk0 : 0 ≤ k) (hk : k ≤ 70368744177664) :
    Calls Try.prog 40 #[.slice (some ⟨g, 0, none⟩) n n, .int .i64 k] w fun e w' => ∃ m : Nat, m ≤ n * 4 ∧ e = .returned (.int .i64 (k + m)) ∧ Mk lo hi (some g) w w' := by
  have HW : Hid (∀ i, i < n → True) := hw
  have HA : Hid (Arr w g 71 4 n txL F) := h
  have h5 : (71 : TypeId) ≠ 5 := by decide
  have H5 : Hid ((71 : TypeId) ≠ 5) := h5
  clear hw h h5
  go_enter Try.func40, Try.ntmps40
  go_wp2
  go_loopw [1, 5] (fun q i wr => ∃ j m : Nat, j ≤ n ∧ m ≤ j * 4 ∧ i = .int .i64 j ∧ q = .int .i64 (k + m) ∧ Mk lo hi (some g) w wr ∧ Hid (Arr wr g 71 4 n txL F)) (fun _ i _ => n - (intOf i).toNat)
  case atStart => exact ⟨0, 0, Nat.zero_le _, by omega, rfl, by go_num, Mk.re _ _ _ _, HA.out⟩
  case round =>
    obtain ⟨j, m, hj, hmj, rfl, rfl, hm, ha⟩ := hrel
    by_cases hlt : j < n
    · have hlt' : (j : Int) < (n : Int) := by omega
      have HM0 : Hid (Mk lo hi (some g) w wr) := hm
      clear hm
      obtain ⟨⟨u0, a0⟩, f0⟩ := Arr.at ha.out (j * 4 + 0) (by omega)
      rw [Nat.add_zero] at a0 f0
      obtain ⟨⟨u1, a1⟩, f1⟩ := Arr.at ha.out (j * 4 + 1) (by omega)
      obtain ⟨⟨u2, a2⟩, f2⟩ := Arr.at ha.out (j * 4 + 2) (by omega)
      obtain ⟨⟨u3, a3⟩, f3⟩ := Arr.at ha.out (j * 4 + 3) (by omega)
      have HZ : Hid (∀ V0 V1 V2 V3 : Value, Mk lo hi (some g) w ((((wr.setCell ⟨g, j * 4 + 0, none⟩ V0).setCell ⟨g, j * 4 + 1, none⟩ V1).setCell ⟨g, j * 4 + 2, none⟩ V2).setCell ⟨g, j * 4 + 3, none⟩ V3) ∧ Arr ((((wr.setCell ⟨g, j * 4 + 0, none⟩ V0).setCell ⟨g, j * 4 + 1, none⟩ V1).setCell ⟨g, j * 4 + 2, none⟩ V2).setCell ⟨g, j * 4 + 3, none⟩ V3) g 71 4 n txL F) := fun V0 V1 V2 V3 => ⟨((((((((HM0.out).tr (Arr.mkset (ha.out) h1 h2 (j * 4 + 0) V0))).tr (Arr.mkset (((ha.out).set j 0 (by omega) (by unfold txL; first | omega | simp) V0)) h1 h2 (j * 4 + 1) V1))).tr (Arr.mkset (((((ha.out).set j 0 (by omega) (by unfold txL; first | omega | simp) V0)).set j 1 (by omega) (by unfold txL; first | omega | simp) V1)) h1 h2 (j * 4 + 2) V2))).tr (Arr.mkset (((((((ha.out).set j 0 (by omega) (by unfold txL; first | omega | simp) V0)).set j 1 (by omega) (by unfold txL; first | omega | simp) V1)).set j 2 (by omega) (by unfold txL; first | omega | simp) V2)) h1 h2 (j * 4 + 3) V3)), ((((((((ha.out).set j 0 (by omega) (by unfold txL; first | omega | simp) V0)).set j 1 (by omega) (by unfold txL; first | omega | simp) V1)).set j 2 (by omega) (by unfold txL; first | omega | simp) V2)).set j 3 (by omega) (by unfold txL; first | omega | simp) V3)⟩
      clear ha HM0
      go_wp2
      go_roundw
      case rel => exact ⟨j + 1, m + 4, by omega, by omega, by go_num, by go_num, (HZ.out _ _ _ _).1, (HZ.out _ _ _ _).2⟩
      case measure => simp [intOf]; omega
    · have hjn : j = n := by omega
      subst hjn
      clear ha
      go_wp2
      go_ret
      exact ⟨m, hmj, rfl, hm⟩

/-- Only blocks from lo up to hi have turned. -/
structure Mid (lo hi : Nat) (w w' : World) : Prop where
  os : w'.os = w.os
  tape : w'.tape = w.tape
  output : w'.output = w.output
  size : w.heap.size ≤ w'.heap.size
  out : ∀ k, k < w.heap.size → (k < lo ∨ hi ≤ k) → w'.heap[k]? = w.heap[k]?
theorem Mk.mid {lo hi : Nat} {og : Option Nat} {w w' : World} (h : Mk lo hi og w w') : Mid lo hi w w' := ⟨h.os, h.tape, h.output, h.size, h.out⟩
theorem Mid.tr {lo hi : Nat} {a b c : World} (h : Mid lo hi a b) (k : Mid lo hi b c) : Mid lo hi a c :=
  ⟨k.os.trans h.os, k.tape.trans h.tape, k.output.trans h.output, Nat.le_trans h.size k.size, fun i hi' ho => (k.out i (Nat.lt_of_lt_of_le hi' h.size) ho).trans (h.out i hi' ho)⟩
theorem Mid.ext {lo hi : Nat} {a b : World} (h : Ext a b) : Mid lo hi a b := ⟨h.os, h.tape, h.output, h.size, fun i hi' _ => h.block i hi' (by simp)⟩
theorem Mid.below {lo hi B : Nat} {w0 w w' : World} (hb : Below B w0 w) (hs : B ≤ w.heap.size) (hl : B ≤ lo) (h : Mid lo hi w w') : Below B w0 w' :=
  ⟨h.os.trans hb.os, h.tape.trans hb.tape, h.output.trans hb.output, Nat.le_trans hb.size h.size, fun k hk => (h.out k (by omega) (.inl (by omega))).trans (hb.block k hk)⟩

/-- A state's memory, as far as its marks need it: its four arrays and its texts, all from lo up to hi. -/
def Shp (lo hi : Nat) (w : World) (gr gt gs gl nr nt ns nl : Nat) : Prop :=
  ∃ FR FT FS FL : Nat → Nat → Value, (Arr w gr 57 4 nr txR FR ∧ ∀ i, i < nr → WB lo hi w (FR i 0) ∧ WB lo hi w (FR i 1)) ∧ (Arr w gt 61 2 nt txT FT ∧ ∀ i, i < nt → WB lo hi w (FT i 0)) ∧
    Arr w gs 65 2 ns txS FS ∧ Arr w gl 71 4 nl txL FL ∧ (lo ≤ gr ∧ gr < hi) ∧ (lo ≤ gt ∧ gt < hi) ∧ (lo ≤ gs ∧ gs < hi) ∧ (lo ≤ gl ∧ gl < hi) ∧ nr ≤ 1048576 ∧ nt ≤ 1048576 ∧ ns ≤ 1048576 ∧ nl ≤ 1048576

theorem Shp.ext {lo hi : Nat} {w w' : World} {gr gt gs gl nr nt ns nl : Nat} (h : Shp lo hi w gr gt gs gl nr nt ns nl) (e : Ext w w') : Shp lo hi w' gr gt gs gl nr nt ns nl := by
  obtain ⟨FR, FT, FS, FL, ⟨a1, a2⟩, ⟨b1, b2⟩, c1, d1, r⟩ := h
  exact ⟨FR, FT, FS, FL, ⟨a1.ext e, fun i hi => ⟨(a2 i hi).1.grown e, (a2 i hi).2.grown e⟩⟩, ⟨b1.ext e, fun i hi => (b2 i hi).grown e⟩, c1.ext e, d1.ext e, r⟩

theorem shp_of {w : World} {base gr gt gs gl : Nat} {S : DState} (h : OSt w base gr gt gs gl S) (hl : LenSt S 1048576) : Shp base w.heap.size w gr gt gs gl S.rows.length S.tombs.length S.sess.length S.lasts.length := by
  obtain ⟨⟨b1, FR, r1, r2⟩, ⟨b2, FT, t1, t2⟩, ⟨b3, FS, s1, _⟩, ⟨b4, FL, l1, _⟩⟩ := h
  refine ⟨FR, FT, FS, FL, ⟨Arr.of r1, fun i hi => ?_⟩, ⟨Arr.of t1, fun i hi => ?_⟩, Arr.of s1, Arr.of l1, ⟨b1, blk_lt r1⟩, ⟨b2, blk_lt t1⟩, ⟨b3, blk_lt s1⟩, ⟨b4, blk_lt l1⟩, hl.rows, hl.tombs, hl.sess, hl.lasts⟩
  · obtain ⟨r, hr⟩ : ∃ r, S.rows[i]? = some r := ⟨_, List.getElem?_eq_getElem hi⟩
    obtain ⟨o1, o2, _, _⟩ := r2 i r hr
    exact ⟨WB.of o1 (by omega) (hl.row i r hr).1, WB.of o2 (by omega) (hl.row i r hr).2⟩
  · obtain ⟨r, hr⟩ : ∃ r, S.tombs[i]? = some r := ⟨_, List.getElem?_eq_getElem hi⟩
    exact WB.of (t2 i r hr).1 (by omega) (hl.tomb i r hr)

set_option maxHeartbeats 4000000 in
theorem markStM (lo hi gr gt gs gl nr nt ns nl : Nat) (x0 x3 : Value) (k : Int) (w : World) (h : Shp lo hi w gr gt gs gl nr nt ns nl) (hh : hi ≤ w.heap.size) (hk0 : 0 ≤ k) (hk : k ≤ 1073741824) :
    Calls Try.prog 10 #[.agg #[x0, .slice (some ⟨gr, 0, none⟩) nr nr, .slice (some ⟨gt, 0, none⟩) nt nt, x3, .slice (some ⟨gs, 0, none⟩) ns ns, .slice (some ⟨gl, 0, none⟩) nl nl], .int .i64 k] w fun e w' =>
      ∃ k' : Int, 0 ≤ k' ∧ k' ≤ 35184372088832 ∧ e = .returned (.int .i64 k') ∧ Mid lo hi w w' := by
  have hE : ∀ w : World, ∀ o, Ext w (w.alloc o) := fun w o => World.grownBy_alloc _ _ _
  go_enter Try.func10, Try.ntmps10
  go_wp2_with fail
  have P0 := heap_alloc_new w (.cells #[x0, .slice (some ⟨gr, 0, none⟩) nr nr, .slice (some ⟨gt, 0, none⟩) nt nt, x3, .slice (some ⟨gs, 0, none⟩) ns ns, .slice (some ⟨gl, 0, none⟩) nl nl] 37 (0, 0))
  have E0 := hE w (.cells #[x0, .slice (some ⟨gr, 0, none⟩) nr nr, .slice (some ⟨gt, 0, none⟩) nt nt, x3, .slice (some ⟨gs, 0, none⟩) ns ns, .slice (some ⟨gl, 0, none⟩) nl nl] 37 (0, 0))
  have z0 : w.heap.size < (w.alloc (.cells #[x0, .slice (some ⟨gr, 0, none⟩) nr nr, .slice (some ⟨gt, 0, none⟩) nt nt, x3, .slice (some ⟨gs, 0, none⟩) ns ns, .slice (some ⟨gl, 0, none⟩) nl nl] 37 (0, 0))).heap.size := by simp
  generalize w.alloc (.cells #[x0, .slice (some ⟨gr, 0, none⟩) nr nr, .slice (some ⟨gt, 0, none⟩) nt nt, x3, .slice (some ⟨gs, 0, none⟩) ns ns, .slice (some ⟨gl, 0, none⟩) nl nl] 37 (0, 0)) = W0 at P0 E0 z0 ⊢
  have HS : Hid (Shp lo hi W0 gr gt gs gl nr nt ns nl) := h.ext E0
  have HD : Hid (Mid lo hi w W0) := Mid.ext E0
  clear h E0
  obtain ⟨FR, FT, FS, FL, ⟨a1, a2⟩, ⟨b1, b2⟩, c1, d1, ⟨l1, l1'⟩, ⟨l2, l2'⟩, ⟨l3, l3'⟩, ⟨l4, l4'⟩, n1, n2, n3, n4⟩ := HS.out
  have neq : gr ≠ gt ∧ gr ≠ gs ∧ gr ≠ gl ∧ gt ≠ gs ∧ gt ≠ gl ∧ gs ≠ gl := by
    obtain ⟨u1, e1, _, _⟩ := a1
    obtain ⟨u2, e2, _, _⟩ := b1
    obtain ⟨u3, e3, _, _⟩ := c1
    obtain ⟨u4, e4, _, _⟩ := d1
    refine ⟨?_, ?_, ?_, ?_, ?_, ?_⟩
    · intro e; subst e; rw [e1] at e2; simp at e2
    · intro e; subst e; rw [e1] at e3; simp at e3
    · intro e; subst e; rw [e1] at e4; simp at e4
    · intro e; subst e; rw [e2] at e3; simp at e3
    · intro e; subst e; rw [e2] at e4; simp at e4
    · intro e; subst e; rw [e3] at e4; simp at e4
  have HNE : Hid (gr ≠ gt ∧ gr ≠ gs ∧ gr ≠ gl ∧ gt ≠ gs ∧ gt ≠ gl ∧ gs ≠ gl) := neq
  have HA : Hid (Arr W0 gr 57 4 nr txR FR ∧ ∀ i, i < nr → WB lo hi W0 (FR i 0) ∧ WB lo hi W0 (FR i 1)) := ⟨a1, a2⟩
  have HB : Hid (Arr W0 gt 61 2 nt txT FT ∧ ∀ i, i < nt → WB lo hi W0 (FT i 0)) := ⟨b1, b2⟩
  have HC : Hid (Arr W0 gs 65 2 ns txS FS) := c1
  have HDD : Hid (Arr W0 gl 71 4 nl txL FL) := d1
  clear HS a1 a2 b1 b2 c1 d1 neq
  refine (markRM lo hi gr nr FR k W0 HA.out.1 HA.out.2 l1 l1' n1 hk0 (by omega)).mono ?_
  rintro e W1 ⟨m1, hm1, rfl, M1⟩
  have P1 := (M1.out w.heap.size z0 (.inr hh)).trans P0
  have z1 := Nat.lt_of_lt_of_le z0 M1.size
  have HM1 : Hid (Mk lo hi (some gr) W0 W1) := M1
  clear M1 P0 z0
  obtain ⟨p2, _⟩ := at_block P1 2 _ rfl
  go_wp2_with fail
  refine (markTM lo hi gt nt FT _ W1 (HB.out.1.mk HM1.out (by decide) (by simp [Ne.symm HNE.out.1])) (fun i hi => (HB.out.2 i hi).mk HM1.out) l2 l2' n2 (by omega) (by omega)).mono ?_
  rintro e W2 ⟨m2, hm2, rfl, M2⟩
  have P2 := (M2.out w.heap.size z1 (.inr hh)).trans P1
  have z2 := Nat.lt_of_lt_of_le z1 M2.size
  have HM2 : Hid (Mk lo hi (some gt) W1 W2) := M2
  clear M2 P1 z1 p2
  obtain ⟨p4, _⟩ := at_block P2 4 _ rfl
  go_wp2_with fail
  refine (markSM lo hi gs ns FS _ W2 ((HC.out.mk HM1.out (by decide) (by simp [Ne.symm HNE.out.2.1])).mk HM2.out (by decide) (by simp [Ne.symm HNE.out.2.2.2.1])) (fun _ _ => trivial) l3 l3' n3 (by omega) (by omega)).mono ?_
  rintro e W3 ⟨m3, hm3, rfl, M3⟩
  have P3 := (M3.out w.heap.size z2 (.inr hh)).trans P2
  have z3 := Nat.lt_of_lt_of_le z2 M3.size
  have HM3 : Hid (Mk lo hi (some gs) W2 W3) := M3
  clear M3 P2 z2 p4
  obtain ⟨p5, _⟩ := at_block P3 5 _ rfl
  go_wp2_with fail
  refine (markLM lo hi gl nl FL _ W3 (((HDD.out.mk HM1.out (by decide) (by simp [Ne.symm HNE.out.2.2.1])).mk HM2.out (by decide) (by simp [Ne.symm HNE.out.2.2.2.2.1])).mk HM3.out (by decide) (by simp [Ne.symm HNE.out.2.2.2.2.2])) (fun _ _ => trivial) l4 l4' n4 (by omega) (by omega)).mono ?_
  rintro e W4 ⟨m4, hm4, rfl, M4⟩
  have HM4 : Hid (Mid lo hi w W4) := (((HD.out.tr HM1.out.mid).tr HM2.out.mid).tr HM3.out.mid).tr M4.mid
  clear M4 P3 z3 p5
  go_wp2
  go_ret
  exact ⟨_, by omega, by omega, rfl, HM4.out⟩

end Go.Proofs.Ytknemgmfbmmngaa

namespace Go.Proofs.Ytknemgmfbmmngaa
open Go.RowKit

/-- The marks that 'markByteS' lays from k on. -/
def marks (k : Int) : Nat → List Int
  | 0 => []
  | n + 1 => k % 256 :: marks (k + 1) n

theorem marks_len (k : Int) (n : Nat) : (marks k n).length = n := by
  induction n generalizing k with
  | zero => rfl
  | succ n ih => simp [marks, ih]

theorem marks_get (k : Int) (n j : Nat) (hj : j < n) : (marks k n).getD j 0 = (k + j) % 256 := by
  induction n generalizing k j with
  | zero => omega
  | succ n ih =>
    cases j with
    | zero => simp [marks]
    | succ j =>
      have := ih (k + 1) j (by omega)
      simp only [marks, List.getD_cons_succ]
      rw [this]
      congr 1
      omega

theorem marks_rng (k : Int) (n : Nat) : ∀ x ∈ marks k n, 0 ≤ x ∧ x ≤ 255 := by
  induction n generalizing k with
  | zero => intro x hx; cases hx
  | succ n ih =>
    intro x hx
    rcases List.mem_cons.1 hx with rfl | hx
    · omega
    · exact ih _ x hx

/-- Bytes that are marked up to j. -/
def marked (xs : List Int) (k : Int) (j : Nat) : List Int := marks k j ++ xs.drop j

theorem marked_set (xs : List Int) (k : Int) (j n : Nat) (hl : xs.length = n) (hj : j < n) : (B8 (marked xs k j)).set j (.int .u8 ((k + j) % 256)) = B8 (marked xs k (j + 1)) := by
  apply List.ext_getElem?
  intro i
  have l1 := marks_len k j
  have l2 := marks_len k (j + 1)
  rw [List.getElem?_set]
  have e1 : ∀ q, (marked xs k q)[i]? = if i < q then some ((k + i) % 256) else xs[i]? := by
    intro q
    unfold marked
    have lq := marks_len k q
    by_cases hi : i < q
    · rw [if_pos hi, List.getElem?_append_left (by omega)]
      have := marks_get k q i hi
      rw [List.getD_eq_getElem?_getD, List.getElem?_eq_getElem (by omega)] at this
      rw [List.getElem?_eq_getElem (by omega)]
      simpa using this
    · rw [if_neg hi, List.getElem?_append_right (by omega), List.getElem?_drop, lq]
      congr 1
      omega
  have e2 : (B8 (marked xs k j)).length = n := by simp [marked, l1]; omega
  by_cases e : j = i
  · subst e
    rw [if_pos rfl, if_pos (by omega), B8, List.getElem?_map, e1, if_pos (by omega)]
    rfl
  · rw [if_neg e, B8, B8, List.getElem?_map, List.getElem?_map, e1, e1]
    by_cases hi : i < j
    · rw [if_pos hi, if_pos (by omega)]
    · rw [if_neg hi, if_neg (by omega)]

set_option maxHeartbeats 1000000 in
theorem markB (base g n cap : Nat) (xs : List Int) (k : Int) (w : World) (hown : w.ownsRow base 5 1 (.slice (some ⟨g, 0, none⟩) n cap) n (B8 xs)) (hn : n ≤ 2097152) (hk0 : 0 ≤ k) (hk : k ≤ 1073741824) :
    Calls Try.prog 11 #[.slice (some ⟨g, 0, none⟩) n cap, .int .i64 k] w fun e w' => e = .returned (.int .i64 (k + n)) ∧
      w'.ownsRow base 5 1 (.slice (some ⟨g, 0, none⟩) n cap) n (B8 (marks k n)) ∧ w.grownBy w' (some g) := by
  have hl : xs.length = n := by simpa using hown.1
  go_enter Try.func11, Try.ntmps11
  go_wp2
  go_loopw [1, 5] (fun q i wr => ∃ j : Nat, j ≤ n ∧ i = .int .i64 j ∧ q = .int .i64 (k + j) ∧ wr.ownsRow base 5 1 (.slice (some ⟨g, 0, none⟩) n cap) n (B8 (marked xs k j)) ∧ w.grownBy wr (some g)) (fun _ i _ => n - (intOf i).toNat)
  case atStart => exact ⟨0, Nat.zero_le _, rfl, by go_num, by simpa [marked, marks] using hown, World.grownBy.refl _ _⟩
  case round =>
    obtain ⟨j, hj, rfl, rfl, hown', hg⟩ := hrel
    by_cases hlt : j < n
    · have hf : wr.frozen? ⟨g, j, none⟩ = false := hown'.frozenAt j
      obtain ⟨u, hu⟩ : ∃ u, wr.cell? ⟨g, j, none⟩ = some u := by
        rw [hown'.cellAt j (by omega)]
        exact ⟨_, List.getElem?_eq_getElem (by have := hown'.1; omega)⟩
      have R := hown'.stored j (.int .u8 ((k + j) % 256))
      rw [marked_set xs k j n hl hlt] at R
      have HR : Hid ((wr.setCell ⟨g, j, none⟩ (.int .u8 ((k + j) % 256))).ownsRow base 5 1 (.slice (some ⟨g, 0, none⟩) n cap) n (B8 (marked xs k (j + 1)))) := R.1
      have HG : Hid (w.grownBy (wr.setCell ⟨g, j, none⟩ (.int .u8 ((k + j) % 256))) (some g)) :=
        ⟨R.2.os.trans hg.os, R.2.tape.trans hg.tape, R.2.output.trans hg.output, Nat.le_trans hg.size R.2.size, fun i hi he => (R.2.block i (Nat.lt_of_lt_of_le hi hg.size) he).trans (hg.block i hi he)⟩
      clear R
      go_wp2
      go_roundw
      case rel => exact ⟨j + 1, by omega, by go_num, by go_num, HR.out, HG.out⟩
      case measure => simp [intOf]; omega
    · have hjn : j = n := by omega
      subst hjn
      go_wp2
      go_ret
      refine ⟨rfl, ?_, hg⟩
      have e : marked xs k j = marks k j := by simp [marked, List.drop_of_length_le (Nat.le_of_eq hl)]
      rw [← e]
      exact hown'

set_option maxHeartbeats 1000000 in
/-- A slice without bytes: nothing is marked. -/
theorem markB0 (a : Option Addr) (cap : Nat) (k : Int) (w : World) :
    Calls Try.prog 11 #[.slice a 0 cap, .int .i64 k] w fun e w' => e = .returned (.int .i64 k) ∧ w' = w := by
  go_enter Try.func11, Try.ntmps11
  go_wp2
  refine wp_loop_rounds 1 ?_
  rw [rounds_succ]
  go_wp2
  go_ret
  exact ⟨rfl, rfl⟩

set_option maxHeartbeats 1000000 in
/-- What was marked is held. -/
theorem heldB (a : Option Addr) (n cap : Nat) (k : Int) (w : World) (hr : Rd w a n (marks k n)) (hn : n ≤ 2097152) (hk0 : 0 ≤ k) (hk : k ≤ 1073741824) :
    Calls Try.prog 12 #[.slice a n cap, .int .i64 k] w fun e w' => e = .returned (.int .i64 (k + n)) ∧ w' = w := by
  go_enter Try.func12, Try.ntmps12
  go_wp2
  go_loop [1, 5] (fun q i => ∃ j : Nat, j ≤ n ∧ i = .int .i64 j ∧ q = .int .i64 (k + j)) (fun _ i => n - (intOf i).toNat)
  case atStart => exact ⟨0, Nat.zero_le _, rfl, by go_num⟩
  case round =>
    obtain ⟨j, hj, rfl, rfl⟩ := hrel
    by_cases hlt : j < n
    · obtain ⟨b, o, rfl, hbl, hc⟩ := hr.pos (by omega)
      have hck := hc j hlt
      rw [marks_get k n j hlt] at hck
      clear hc
      go_wp2
      go_round
      case rel => exact ⟨j + 1, by omega, by go_num, by go_num⟩
      case measure => simp [intOf]; omega
    · have hjn : j = n := by omega
      subst hjn
      go_wp2
      go_ret
      exact ⟨rfl, rfl⟩

end Go.Proofs.Ytknemgmfbmmngaa

namespace Go.Proofs.Ytknemgmfbmmngaa
open Go.RowKit

theorem markV (base : Nat) (v : Value) (xs : List Int) (k : Int) (w : World) (h : Ow w base v xs) (hn : xs.length ≤ 2097152) (hk0 : 0 ≤ k) (hk : k ≤ 1073741824) :
    Calls Try.prog 11 #[v, .int .i64 k] w fun e w' => e = .returned (.int .i64 (k + xs.length)) ∧ Ow w' base v (marks k xs.length) ∧ w.grownBy w' v.ownBlock := by
  rcases h.2 with ⟨rfl, h0⟩ | ⟨g, cap, cur, rfl, r⟩
  · have : xs = [] := List.eq_nil_of_length_eq_zero h0
    subst this
    refine (markB0 none 0 k w).mono fun e w' ⟨h1, h2⟩ => ?_
    subst h2
    exact ⟨by simpa using h1, h, World.grownBy.refl _ _⟩
  · refine (markB base g xs.length cap xs k w h hn hk0 hk).mono fun e w' ⟨h1, h2, h3⟩ => ⟨h1, ?_, h3⟩
    show w'.ownsRow base 5 1 _ (marks k xs.length).length _
    rw [marks_len]
    exact h2

theorem heldV (v : Value) (n : Nat) (k : Int) (w : World) (h : RV w v (marks k n)) (hn : n ≤ 2097152) (hk0 : 0 ≤ k) (hk : k ≤ 1073741824) :
    Calls Try.prog 12 #[v, .int .i64 k] w fun e w' => e = .returned (.int .i64 (k + n)) ∧ w' = w := by
  obtain ⟨a, cap, rfl, hr, _, _⟩ := h
  rw [marks_len] at hr ⊢
  exact heldB a n cap k w hr hn hk0 hk

end Go.Proofs.Ytknemgmfbmmngaa

namespace Go.Proofs.Ytknemgmfbmmngaa
open Go.ChangeShapes Go.WideShapes Go.ChangeAt Go.RowKit Go.Joins

section
variable {H : Type} {enc : TypeId × Value → H} {W : World} {fuel : Nat} {v : Value} {y : DataW H × List MemPlace}

theorem int_of_trod (h : DataW.trod enc Try.prog W 0 (fun _ => true) true fuel 3 [v] = some y) : ∃ q : Int, v = .int .i64 q ∧ -9223372036854775808 ≤ q ∧ q ≤ 9223372036854775807 := by
  obtain ⟨q, e0, rfl, wa⟩ := DataW.trod_int Try.underlying3 h
  simp only [List.cons.injEq, and_true] at e0
  subst e0
  simp [Lit.wf, IntKind.min, IntKind.max, IntKind.signed, IntKind.bits] at wa
  exact ⟨q, rfl, by omega, by omega⟩
end

theorem array6 {cs : Array Value} (h : cs.size = 6) : ∃ a b c d e f, cs = #[a, b, c, d, e, f] := by
  obtain ⟨l⟩ := cs
  match l, h with
  | [a, b, c, d, e, f], _ => exact ⟨a, b, c, d, e, f, rfl⟩

end Go.Proofs.Ytknemgmfbmmngaa

namespace Go.Proofs.Ytknemgmfbmmngaa
open Go.ChangeShapes Go.WideShapes Go.ChangeAt Go.RowKit Go.Joins

section
variable {H : Type} {enc : TypeId × Value → H} {W : World} {fuel : Nat} {v : Value} {y : DataW H × List MemPlace}

theorem rv_of_trod (h : DataW.trod enc Try.prog W 0 (fun _ => true) true fuel 29 [v] = some y) : ∃ xs, RV W v xs ∧ ∀ x ∈ xs, 0 ≤ x ∧ x ≤ 255 := by
  rcases open_ints Try.underlying29 Try.underlying5 (by kernel_rfl) h with ⟨hcs, _⟩ | ⟨x, len, cap, zs, hcs, _, hl, hm, hz, _, hcell, hwz⟩
  · simp only [List.cons.injEq, and_true] at hcs
    subst hcs
    exact ⟨[], ⟨none, 0, rfl, Rd.nil _ _, Nat.le_refl _, Nat.zero_le _⟩, fun x hx => by cases hx⟩
  · simp only [List.cons.injEq, and_true] at hcs
    subst hcs
    have hz' : zs.length = cap := by simpa using hz
    have hln : (zs.take len).length = len := by simp; omega
    have hrng : ∀ n ∈ zs.take len, 0 ≤ n ∧ n ≤ 255 := fun n hn => by
      have := hwz n (List.mem_of_mem_take hn)
      simp [Lit.wf, IntKind.min, IntKind.max, IntKind.signed, IntKind.bits] at this
      omega
    refine ⟨zs.take len, ⟨some x, cap, by rw [hln], ⟨rfl, fun i hi => ?_, hrng⟩, by omega, hm⟩, hrng⟩
    rw [hln] at hi
    obtain ⟨b, off, spot⟩ := x
    have hspot : spot = none := by simpa [Addr.add] using World.cell?_spot (hcell 0 (by omega))
    subst hspot
    have hc := hcell i (by omega)
    refine ⟨b, off, rfl, ?_⟩
    rw [Addr.add_lit] at hc
    rw [hc]
    simp [List.getD, hi]

end

end Go.Proofs.Ytknemgmfbmmngaa

namespace Go.Proofs.Ytknemgmfbmmngaa
open Go.ChangeShapes Go.WideShapes Go.ChangeAt Go.RowKit Go.Joins

theorem list_of {α : Type} {p : Nat → α → Prop} : ∀ n : Nat, (∀ i, i < n → ∃ x, p i x) → ∃ rs : List α, rs.length = n ∧ ∀ (i : Nat) (r : α), rs[i]? = some r → p i r
  | 0, _ => ⟨[], rfl, fun i r h => by simp at h⟩
  | n + 1, h => by
    obtain ⟨rs, hl, hr⟩ := list_of n (fun i hi => h i (by omega))
    obtain ⟨x, hx⟩ := h n (by omega)
    refine ⟨rs ++ [x], by simp [hl], fun i r hi => ?_⟩
    by_cases e : i < n
    · rw [List.getElem?_append_left (by omega)] at hi
      exact hr i r hi
    · rw [List.getElem?_append_right (by omega)] at hi
      have e2 : i - rs.length = 0 := by
        have := (List.getElem?_eq_some_iff.1 hi).1
        simp at this
        omega
      rw [e2] at hi
      simp at hi
      obtain rfl : i = n := by omega
      rw [← hi]
      exact hx

section
variable {H : Type} {enc : TypeId × Value → H} {W : World} {fuel : Nat} {v : Value} {y : DataW H × List MemPlace}

set_option maxRecDepth 100000 in
/-- A slice of whatever structs: its cells, element by element. -/
theorem sl_of_trod {t e : TypeId} {k : Nat} (ht : Try.prog.underlying t = some (.slice e)) (hc : Try.prog.cellsOf e = k) (hk : 0 < k)
    (h : DataW.trod enc Try.prog W 0 (fun _ => true) true fuel t [v] = some y) :
    ∃ (n : Nat) (C : Nat → Nat → Value), SL W k v n C ∧ ∃ (m : Nat) (D : Nat → DataW H × List MemPlace), ∀ i, i < n → DataW.trod enc Try.prog W 0 (fun _ => true) true m e ((List.range k).map (C i)) = some (D i) := by
  rcases Go.Deep.open_slice ht h with ⟨hcs, _⟩ | ⟨a, len, cap, m, n, D, Pl, hcs, _, hl, hm, hmm, _, hx⟩
  · simp only [List.cons.injEq, and_true] at hcs
    subst hcs
    exact ⟨0, fun _ _ => .int .i64 0, ⟨none, 0, rfl, Nat.le_refl _, Nat.zero_le _, fun h => absurd h (by omega)⟩, 0, fun _ => y, fun i hi => absurd hi (by omega)⟩
  · simp only [List.cons.injEq, and_true] at hcs
    subst hcs
    rw [hc] at hx
    have hmm' : m = cap := by rw [hmm]; simp
    subst hmm'
    have hex : ∀ i, i < len → ∃ cs' : List Value, W.cells? 0 (a.add (i * k)) k = some cs' ∧ DataW.trod enc Try.prog W 0 (fun _ => true) true n e cs' = some (D i, Pl i) := fun i hi => hx i (by omega)
    obtain ⟨cs, hcsl, hcs⟩ := list_of len hex
    have hget : ∀ i, i < len → ∃ c, cs[i]? = some c := fun i hi => ⟨_, List.getElem?_eq_getElem (by omega)⟩
    refine ⟨len, fun i j => ((cs.getD i []).getD j (.int .i64 0)), ⟨some a, m, rfl, hl, hm, fun hpos => ?_⟩, n, fun i => (D i, Pl i), fun i hi => ?_⟩
    · obtain ⟨c, hcc⟩ := hget 0 hpos
      obtain ⟨h1, _⟩ := hcs 0 c hcc
      obtain ⟨_, hln, hce⟩ := World.cells?_some h1
      obtain ⟨b, off, spot⟩ := a
      have hc0 := hce 0 hk
      have hsome : W.cell? ((Addr.add ⟨b, off, spot⟩ (0 * k)).add 0) = some (c[0]'(by omega)) := by rw [hc0, List.getElem?_eq_getElem (by omega)]
      have hspot : spot = none := by simpa [Addr.add] using World.cell?_spot hsome
      subst hspot
      have hbl := World.block_lt_of_cell? W _ hsome
      rw [Addr.add_lit, Addr.add_lit] at hbl
      refine ⟨b, off, rfl, hbl, fun i hi j hj => ?_⟩
      obtain ⟨c', hcc'⟩ := hget i hi
      obtain ⟨h1', _⟩ := hcs i c' hcc'
      obtain ⟨_, hln', hce'⟩ := World.cells?_some h1'
      have := hce' j hj
      rw [Addr.add_lit, Addr.add_lit] at this
      rw [this, List.getElem?_eq_getElem (by omega)]
      simp [List.getD, hcc', List.getElem?_eq_getElem (show j < c'.length by omega)]
    · obtain ⟨c', hcc'⟩ := hget i hi
      obtain ⟨h1', h2'⟩ := hcs i c' hcc'
      obtain ⟨_, hln', _⟩ := World.cells?_some h1'
      have hce : (List.range k).map (fun j => ((cs.getD i []).getD j (.int .i64 0))) = c' := by
        apply List.ext_getElem?
        intro j
        by_cases hj : j < k
        · simp [List.getD, hcc', hj, List.getElem?_eq_getElem (show j < c'.length by omega)]
        · simp [hj, hln']
      rw [hce]
      exact h2'

theorem bool_of_trod (h : DataW.trod enc Try.prog W 0 (fun _ => true) true fuel 4 [v] = some y) : ∃ b, v = .bool b := by
  obtain ⟨b, e0, _⟩ := DataW.trod_bool Try.underlying4 h
  simp only [List.cons.injEq, and_true] at e0
  exact ⟨b, e0⟩
end

end Go.Proofs.Ytknemgmfbmmngaa

namespace Go.Proofs.Ytknemgmfbmmngaa
open Go.ChangeShapes Go.WideShapes Go.ChangeAt Go.RowKit Go.Joins

section
variable {H : Type} {enc : TypeId × Value → H} {W : World} {fuel : Nat} {v : Value} {y : DataW H × List MemPlace}

set_option maxRecDepth 100000 in
theorem rows_of_trod (h : DataW.trod enc Try.prog W 0 (fun _ => true) true fuel 22 [v] = some y) : ∃ rs, VRows W v rs := by
  obtain ⟨n, C, hS, m, D, hD⟩ := sl_of_trod (k := 4) Try.underlying22 (by kernel_rfl) (by omega) h
  obtain ⟨rs, hl, hr⟩ := list_of (p := fun i (r : DRow) => RV W (C i 0) r.key ∧ RV W (C i 1) r.val ∧ C i 2 = .int .i64 r.turned ∧ C i 3 = .int .i64 r.holder) n (fun i hi => by
    have hf := hD i hi
    obtain ⟨xs, n', _, _, _, hxl, hx⟩ := DataW.trod_struct Try.underlying82 hf
    match xs, hxl with
    | [y0, y1, y2, y3], _ =>
      have h0 : DataW.trod enc Try.prog W 0 (fun _ => true) true n' 29 [C i 0] = some y0 := hx 0 _ rfl
      have h1 : DataW.trod enc Try.prog W 0 (fun _ => true) true n' 29 [C i 1] = some y1 := hx 1 _ rfl
      have h2 : DataW.trod enc Try.prog W 0 (fun _ => true) true n' 3 [C i 2] = some y2 := hx 2 _ rfl
      have h3 : DataW.trod enc Try.prog W 0 (fun _ => true) true n' 3 [C i 3] = some y3 := hx 3 _ rfl
      obtain ⟨ky, rk, _⟩ := rv_of_trod h0
      obtain ⟨vl, rv, _⟩ := rv_of_trod h1
      obtain ⟨q, e2, _, _⟩ := int_of_trod h2
      obtain ⟨q', e3, _, _⟩ := int_of_trod h3
      exact ⟨⟨ky, vl, q, q'⟩, rk, rv, e2, e3⟩)
  exact ⟨rs, C, by rw [hl]; exact hS, hr⟩

set_option maxRecDepth 100000 in
theorem tombs_of_trod (h : DataW.trod enc Try.prog W 0 (fun _ => true) true fuel 23 [v] = some y) : ∃ rs, VTombs W v rs := by
  obtain ⟨n, C, hS, m, D, hD⟩ := sl_of_trod (k := 2) Try.underlying23 (by kernel_rfl) (by omega) h
  obtain ⟨rs, hl, hr⟩ := list_of (p := fun i (r : DTomb) => RV W (C i 0) r.key ∧ C i 1 = .int .i64 r.index) n (fun i hi => by
    have hf := hD i hi
    obtain ⟨xs, n', _, _, _, hxl, hx⟩ := DataW.trod_struct Try.underlying84 hf
    match xs, hxl with
    | [y0, y1], _ =>
      have h0 : DataW.trod enc Try.prog W 0 (fun _ => true) true n' 29 [C i 0] = some y0 := hx 0 _ rfl
      have h1 : DataW.trod enc Try.prog W 0 (fun _ => true) true n' 3 [C i 1] = some y1 := hx 1 _ rfl
      obtain ⟨ky, rk, _⟩ := rv_of_trod h0
      obtain ⟨q, e2, _, _⟩ := int_of_trod h1
      exact ⟨⟨ky, q⟩, rk, e2⟩)
  exact ⟨rs, C, by rw [hl]; exact hS, hr⟩

set_option maxRecDepth 100000 in
theorem sess_of_trod (h : DataW.trod enc Try.prog W 0 (fun _ => true) true fuel 24 [v] = some y) : ∃ rs, VSess W v rs := by
  obtain ⟨n, C, hS, m, D, hD⟩ := sl_of_trod (k := 2) Try.underlying24 (by kernel_rfl) (by omega) h
  obtain ⟨rs, hl, hr⟩ := list_of (p := fun i (r : DSess) => C i 0 = .int .i64 r.id ∧ C i 1 = .bool r.del) n (fun i hi => by
    have hf := hD i hi
    obtain ⟨xs, n', _, _, _, hxl, hx⟩ := DataW.trod_struct Try.underlying94 hf
    match xs, hxl with
    | [y0, y1], _ =>
      have h0 : DataW.trod enc Try.prog W 0 (fun _ => true) true n' 3 [C i 0] = some y0 := hx 0 _ rfl
      have h1 : DataW.trod enc Try.prog W 0 (fun _ => true) true n' 4 [C i 1] = some y1 := hx 1 _ rfl
      obtain ⟨q, e1, _, _⟩ := int_of_trod h0
      obtain ⟨b, e2⟩ := bool_of_trod h1
      exact ⟨⟨q, b⟩, e1, e2⟩)
  exact ⟨rs, C, by rw [hl]; exact hS, hr⟩

set_option maxRecDepth 100000 in
theorem lasts_of_trod (h : DataW.trod enc Try.prog W 0 (fun _ => true) true fuel 25 [v] = some y) : ∃ rs, VLasts W v rs := by
  obtain ⟨n, C, hS, m, D, hD⟩ := sl_of_trod (k := 4) Try.underlying25 (by kernel_rfl) (by omega) h
  obtain ⟨rs, hl, hr⟩ := list_of (p := fun i (r : DLast) => C i 0 = .int .i64 r.client ∧ C i 1 = .int .i64 r.req ∧ C i 2 = .int .i64 r.code ∧ C i 3 = .int .i64 r.index) n (fun i hi => by
    have hf := hD i hi
    obtain ⟨xs, n', _, _, _, hxl, hx⟩ := DataW.trod_struct Try.underlying98 hf
    match xs, hxl with
    | [y0, y1, y2], _ =>
      have h0 : DataW.trod enc Try.prog W 0 (fun _ => true) true n' 3 [C i 0] = some y0 := hx 0 _ rfl
      have h1 : DataW.trod enc Try.prog W 0 (fun _ => true) true n' 3 [C i 1] = some y1 := hx 1 _ rfl
      have h2 : DataW.trod enc Try.prog W 0 (fun _ => true) true n' 96 [C i 2, C i 3] = some y2 := hx 2 _ rfl
      obtain ⟨zs, n'', _, _, _, hzl, hz⟩ := DataW.trod_struct Try.underlying96 h2
      match zs, hzl with
      | [z0, z1], _ =>
        have g0 : DataW.trod enc Try.prog W 0 (fun _ => true) true n'' 3 [C i 2] = some z0 := hz 0 _ rfl
        have g1 : DataW.trod enc Try.prog W 0 (fun _ => true) true n'' 3 [C i 3] = some z1 := hz 1 _ rfl
        obtain ⟨q0, e0, _, _⟩ := int_of_trod h0
        obtain ⟨q1, e1, _, _⟩ := int_of_trod h1
        obtain ⟨q2, e2, _, _⟩ := int_of_trod g0
        obtain ⟨q3, e3, _, _⟩ := int_of_trod g1
        exact ⟨⟨q0, q1, q2, q3⟩, e0, e1, e2, e3⟩)
  exact ⟨rs, C, by rw [hl]; exact hS, hr⟩
end

/-- What a state's own numbers are bounded by. -/
def intSt (S : DState) : Prop := (-9223372036854775808 ≤ S.index ∧ S.index ≤ 9223372036854775807) ∧ (-9223372036854775808 ≤ S.lost ∧ S.lost ≤ 9223372036854775807)

set_option maxRecDepth 100000 in
theorem open_State {H : Type} {enc : TypeId × Value → H} {W : World} {r : Reach} {b0 : Nat} {v : Value} {d : DataW H} {p : List MemPlace}
    (hv : Value.okWide Try.prog W r b0 27 v) (h : DataW.Trod enc Try.prog W 0 (fun _ => true) true 27 v d p) : ∃ S, VState W v S ∧ rngSt S ∧ intSt S := by
  obtain ⟨cs, rfl, hsz⟩ := okWide_struct Try.underlying27 hv
  have h6 : Try.prog.cellsOf 27 = 6 := by kernel_rfl
  obtain ⟨c0, c1, c2, c3, c4, c5, rfl⟩ := array6 (hsz.trans h6)
  obtain ⟨fuel, hf⟩ := h
  obtain ⟨xs, n, _, _, _, hxl, hx⟩ := DataW.trod_struct Try.underlying27 hf
  match xs, hxl with
  | [y0, y1, y2, y3, y4, y5], _ =>
    have h0 : DataW.trod enc Try.prog W 0 (fun _ => true) true n 3 [c0] = some y0 := hx 0 _ rfl
    have h1 : DataW.trod enc Try.prog W 0 (fun _ => true) true n 22 [c1] = some y1 := hx 1 _ rfl
    have h2 : DataW.trod enc Try.prog W 0 (fun _ => true) true n 23 [c2] = some y2 := hx 2 _ rfl
    have h3 : DataW.trod enc Try.prog W 0 (fun _ => true) true n 3 [c3] = some y3 := hx 3 _ rfl
    have h4 : DataW.trod enc Try.prog W 0 (fun _ => true) true n 24 [c4] = some y4 := hx 4 _ rfl
    have h5 : DataW.trod enc Try.prog W 0 (fun _ => true) true n 25 [c5] = some y5 := hx 5 _ rfl
    obtain ⟨q0, rfl, a1, a2⟩ := int_of_trod h0
    obtain ⟨q3, rfl, b1, b2⟩ := int_of_trod h3
    obtain ⟨rs, v1⟩ := rows_of_trod h1
    obtain ⟨ts, v2⟩ := tombs_of_trod h2
    obtain ⟨ss, v4⟩ := sess_of_trod h4
    obtain ⟨ls, v5⟩ := lasts_of_trod h5
    have V : VState W (.agg #[.int .i64 q0, c1, c2, .int .i64 q3, c4, c5]) ⟨q0, rs, ts, q3, ss, ls⟩ := ⟨c1, c2, c4, c5, rfl, v1, v2, v4, v5⟩
    exact ⟨_, V, rngSt_of V, ⟨a1, a2⟩, ⟨b1, b2⟩⟩

end Go.Proofs.Ytknemgmfbmmngaa

namespace Go.Proofs.Ytknemgmfbmmngaa
open Go.RowKit

theorem kept6 {w w' : World} {g : Nat} {a0 a1 a2 a3 a4 a5 : Value} (h : w.cell? ⟨g, 0, none⟩ = some a0 ∧ w.cell? ⟨g, 1, none⟩ = some a1 ∧ w.cell? ⟨g, 2, none⟩ = some a2 ∧ w.cell? ⟨g, 3, none⟩ = some a3 ∧ w.cell? ⟨g, 4, none⟩ = some a4 ∧ w.cell? ⟨g, 5, none⟩ = some a5) (hb : Below w.heap.size w w') :
    w'.cell? ⟨g, 0, none⟩ = some a0 ∧ w'.cell? ⟨g, 1, none⟩ = some a1 ∧ w'.cell? ⟨g, 2, none⟩ = some a2 ∧ w'.cell? ⟨g, 3, none⟩ = some a3 ∧ w'.cell? ⟨g, 4, none⟩ = some a4 ∧ w'.cell? ⟨g, 5, none⟩ = some a5 := by
  have hg : g < w.heap.size := World.block_lt_of_cell? w _ h.1
  obtain ⟨h0, h1, h2, h3, h4, h5⟩ := h
  exact ⟨(hb.cell (p := ⟨g, 0, none⟩) hg).trans h0, (hb.cell (p := ⟨g, 1, none⟩) hg).trans h1, (hb.cell (p := ⟨g, 2, none⟩) hg).trans h2, (hb.cell (p := ⟨g, 3, none⟩) hg).trans h3, (hb.cell (p := ⟨g, 4, none⟩) hg).trans h4, (hb.cell (p := ⟨g, 5, none⟩) hg).trans h5⟩
theorem kept12 {w w' : World} {g g' : Nat} {a0 a1 a2 a3 a4 a5 b0 b1 b2 b3 b4 b5 : Value} (h : (w.cell? ⟨g, 0, none⟩ = some a0 ∧ w.cell? ⟨g, 1, none⟩ = some a1 ∧ w.cell? ⟨g, 2, none⟩ = some a2 ∧ w.cell? ⟨g, 3, none⟩ = some a3 ∧ w.cell? ⟨g, 4, none⟩ = some a4 ∧ w.cell? ⟨g, 5, none⟩ = some a5) ∧ (w.cell? ⟨g', 0, none⟩ = some b0 ∧ w.cell? ⟨g', 1, none⟩ = some b1 ∧ w.cell? ⟨g', 2, none⟩ = some b2 ∧ w.cell? ⟨g', 3, none⟩ = some b3 ∧ w.cell? ⟨g', 4, none⟩ = some b4 ∧ w.cell? ⟨g', 5, none⟩ = some b5)) (hb : Below w.heap.size w w') :
    (w'.cell? ⟨g, 0, none⟩ = some a0 ∧ w'.cell? ⟨g, 1, none⟩ = some a1 ∧ w'.cell? ⟨g, 2, none⟩ = some a2 ∧ w'.cell? ⟨g, 3, none⟩ = some a3 ∧ w'.cell? ⟨g, 4, none⟩ = some a4 ∧ w'.cell? ⟨g, 5, none⟩ = some a5) ∧ (w'.cell? ⟨g', 0, none⟩ = some b0 ∧ w'.cell? ⟨g', 1, none⟩ = some b1 ∧ w'.cell? ⟨g', 2, none⟩ = some b2 ∧ w'.cell? ⟨g', 3, none⟩ = some b3 ∧ w'.cell? ⟨g', 4, none⟩ = some b4 ∧ w'.cell? ⟨g', 5, none⟩ = some b5) :=
  ⟨kept6 h.1 hb, kept6 h.2 hb⟩


/-- The two boxes of the law: the argument, the copy. -/
structure BY (gA gX : Nat) (Qa Xa : Array Value) (u : World) : Prop where
  a : u.heap[gA]? = some (.cells Qa 27 (0, 0))
  x : u.heap[gX]? = some (.cells Xa 37 (0, 0))
theorem BY.below {gA gX : Nat} {Qa Xa : Array Value} {u u' : World} (h : BY gA gX Qa Xa u) (b : Below u.heap.size u u') : BY gA gX Qa Xa u' :=
  ⟨below_blk b (Array.getElem?_eq_some_iff.1 h.a).1 h.a, below_blk b (Array.getElem?_eq_some_iff.1 h.x).1 h.x⟩
theorem BY.mid {gA gX lo hi : Nat} {Qa Xa : Array Value} {u u' : World} (h : BY gA gX Qa Xa u) (m : Mid lo hi u u') (h1 : gA < lo ∨ hi ≤ gA) (h3 : gX < lo ∨ hi ≤ gX) : BY gA gX Qa Xa u' :=
  ⟨(m.out _ (Array.getElem?_eq_some_iff.1 h.a).1 h1).trans h.a, (m.out _ (Array.getElem?_eq_some_iff.1 h.x).1 h3).trans h.x⟩
theorem Ow.sameB {w w' : World} {base : Nat} {v : Value} {xs : List Int} (h : Ow w base v xs) (hk : ∀ k, v.ownBlock = some k → w'.heap[k]? = w.heap[k]?) : Ow w' base v xs := by
  refine ⟨h.1, ?_⟩
  rcases h.2 with h2 | ⟨g, cap, cur, hv, hb, hg, r⟩
  · exact .inl h2
  · exact .inr ⟨g, cap, cur, hv, hb, (hk g (by rw [hv]; simp [Value.ownBlock])).trans hg, r⟩
/-- Bytes that are owned, in blocks from lo on, ahead of hi. -/
structure OB (lo hi : Nat) (w : World) (v : Value) (zs : List Int) : Prop where
  o : Ow w lo v zs
  lt : ∀ k, v.ownBlock = some k → lo ≤ k ∧ k < hi
  le : hi ≤ w.heap.size
theorem OB.ext {lo hi : Nat} {w w' : World} {v : Value} {zs : List Int} (h : OB lo hi w v zs) (e : Ext w w') : OB lo hi w' v zs := ⟨h.o.ext e, h.lt, Nat.le_trans h.le e.size⟩
theorem OB.mid {lo hi a b : Nat} {w w' : World} {v : Value} {zs : List Int} (h : OB lo hi w v zs) (m : Mid a b w w') (hd : hi ≤ a ∨ b ≤ lo) : OB lo hi w' v zs :=
  ⟨Ow.sameB h.o (fun k hk => m.out k (by have := h.lt k hk; have := h.le; omega) (by have := h.lt k hk; omega)), h.lt, Nat.le_trans h.le m.size⟩

set_option maxHeartbeats 8000000 in
set_option maxRecDepth 100000 in
theorem law_StateBytes (v : Value) (S : DState) (w : World) (h : VState w v S) (hr : rngSt S) (_hi : intSt S) :
    Calls Try.prog 3 #[v] w fun e w' => e = .returned (.bool true) ∧ Below w.heap.size w w' := by
  have hE : ∀ w : World, ∀ o, Ext w (w.alloc o) := fun w o => World.grownBy_alloc _ _ _
  have hB : ∀ w : World, ∀ o, Below w.heap.size w (w.alloc o) := fun w o => (Below.refl _ w).alloc (Nat.le_refl _) _
  have h0 : Hid (VState w v S) := h
  have HR : Hid (rngSt S) := hr
  clear hr
  obtain ⟨zs, hzs⟩ : ∃ zs, zs = sbL S := ⟨_, rfl⟩
  have hzl : zs.length ≤ 2000 := by rw [hzs]; exact sbL_le S
  have HZ : Hid (sbL S = zs) := hzs.symm
  obtain ⟨tb, htb⟩ : ∃ ob, ob = tB (StP S) := ⟨_, rfl⟩
  have HT : Hid (tB (StP S) = tb) := htb.symm
  clear hzs htb
  obtain ⟨rv, tv, sv, lv, rfl, _, _, _, _⟩ := h
  go_enter Try.func3, Try.ntmps3
  go_wp2_with fail
  refine (szSt _ S 1048576 _ (h0.out.ext (hE _ _)) (by omega) (by omega)).mono ?_
  rintro e w1 ⟨r, rfl, hrr, b1⟩
  have B1 := (hB w _).trans (b1.mono (by simp))
  have P1 := below_blk b1 (by simp) (heap_alloc_new w _)
  rcases hrr with ⟨h1, rfl⟩ | ⟨h1, h2⟩
  · go_wp2
    go_ret
    exact ⟨rfl, B1⟩
  · have HL : Hid (LenSt S 1048576) := lenSt_of (by omega)
    have hr0 : 0 ≤ r := by omega
    have hs1 := (Array.getElem?_eq_some_iff.1 P1).1
    clear h1 h2 b1
    obtain ⟨p0, _⟩ := at_block P1 0 _ rfl
    obtain ⟨p1, _⟩ := at_block P1 1 _ rfl
    obtain ⟨p2, _⟩ := at_block P1 2 _ rfl
    obtain ⟨p3, _⟩ := at_block P1 3 _ rfl
    obtain ⟨p4, _⟩ := at_block P1 4 _ rfl
    obtain ⟨p5, _⟩ := at_block P1 5 _ rfl
    go_wp2_with fail
    refine (toSt _ S w1 (h0.out.ext (ext_below B1)) HL.out).mono ?_
    rintro e w2 ⟨gr2, gt2, gs2, gl2, rfl, o2, b2⟩
    have B2 := B1.trans (b2.mono B1.size)
    have HV2 : Hid (VState w2 (stV gr2 gt2 gs2 gl2 S) S) := o2.v HL.out HR.out
    have P2 := below_blk b2 hs1 P1
    have s2 := b2.size
    clear p0 p1 p2 p3 p4 p5 o2 b2 P1
    go_wp2_with fail
    refine (sStateBytesP _ S w2 HV2.out).mono ?_
    rintro e w3 ⟨vw, rfl, R3, O3, b3⟩
    rw [HZ.out] at R3 O3
    rw [HT.out]
    have HZR : Hid (∀ x ∈ zs, 0 ≤ x ∧ x ≤ 255) := R3.rng
    have HW3 : Hid (OB w2.heap.size w3.heap.size w3 vw zs) := ⟨O3, O3.lt, Nat.le_refl _⟩
    have B3 := B2.trans (b3.mono B2.size)
    have P3 := below_blk b3 (by omega) P2
    have s3 := b3.size
    clear b3 P2 HV2 O3 R3
    obtain ⟨q0, _⟩ := at_block P3 0 _ rfl
    obtain ⟨q1, _⟩ := at_block P3 1 _ rfl
    obtain ⟨q2, _⟩ := at_block P3 2 _ rfl
    obtain ⟨q3, _⟩ := at_block P3 3 _ rfl
    obtain ⟨q4, _⟩ := at_block P3 4 _ rfl
    obtain ⟨q5, _⟩ := at_block P3 5 _ rfl
    go_wp2_with fail
    refine (toSt _ S w3 (h0.out.ext (ext_below B3)) HL.out).mono ?_
    rintro e w4 ⟨gr, gt, gs, gl, rfl, o4, b4⟩
    have B4 := B3.trans (b4.mono B3.size)
    have P4 := below_blk b4 (by omega) P3
    have s4 := b4.size
    have HS4 : Hid (Shp w3.heap.size w4.heap.size w4 gr gt gs gl S.rows.length S.tombs.length S.sess.length S.lasts.length) := shp_of o4 HL.out
    have HV4 : Hid (VState w4 (stV gr gt gs gl S) S) := o4.v HL.out HR.out
    have HW4 : Hid (OB w2.heap.size w3.heap.size w4 vw zs) := HW3.out.ext (ext_below b4)
    clear q0 q1 q2 q3 q4 q5 o4 b4 P3 HW3
    unfold stV at HV4 ⊢
    go_wp2_with fail
    refine (iStateBytesP _ S _ (HV4.out.ext (hE _ _))).mono ?_
    rintro e w5 ⟨vg, rfl, R5, O5, b5⟩
    rw [HZ.out] at O5
    rw [HT.out]
    clear R5
    have HG5 : Hid (OB (w4.heap.size + 1) w5.heap.size w5 vg zs) := by
      have O6 : Ow w5 (w4.heap.size + 1) vg zs := ow_base O5 (by simp)
      exact ⟨O6, O6.lt, Nat.le_refl _⟩
    have K5 : Hid (BY w.heap.size w4.heap.size #[.int .i64 S.index, rv, tv, .int .i64 S.lost, sv, lv] #[.int .i64 S.index, .slice (some ⟨gr, 0, none⟩) S.rows.length S.rows.length, .slice (some ⟨gt, 0, none⟩) S.tombs.length S.tombs.length, .int .i64 S.lost, .slice (some ⟨gs, 0, none⟩) S.sess.length S.sess.length, .slice (some ⟨gl, 0, none⟩) S.lasts.length S.lasts.length] w5) := BY.below ⟨(Below.heap_alloc w4 _ _ (by omega)).trans P4, heap_alloc_new w4 _⟩ b5
    have B5 : Below w.heap.size w w5 := (B4.alloc B4.size _).trans (b5.mono (by have := B4.size; simp; omega))
    have HV5 : Hid (VState w5 (.agg #[.int .i64 S.index, .slice (some ⟨gr, 0, none⟩) S.rows.length S.rows.length, .slice (some ⟨gt, 0, none⟩) S.tombs.length S.tombs.length, .int .i64 S.lost, .slice (some ⟨gs, 0, none⟩) S.sess.length S.sess.length, .slice (some ⟨gl, 0, none⟩) S.lasts.length S.lasts.length]) S) := (HV4.out.ext (hE w4 _)).ext (ext_below b5)
    have HS5 : Hid (Shp w3.heap.size w4.heap.size w5 gr gt gs gl S.rows.length S.tombs.length S.sess.length S.lasts.length) := (HS4.out.ext (hE w4 _)).ext (ext_below b5)
    have HW5 : Hid (OB w2.heap.size w3.heap.size w5 vw zs) := (HW4.out.ext (hE w4 _)).ext (ext_below b5)
    have s5 : w4.heap.size + 1 ≤ w5.heap.size := by have := b5.size; simpa using this
    clear b5 O5 P4 HV4 HS4 HW4
    go_wp2_with fail
    refine (eqV_yes _ _ zs w5 (HG5.out.o.rv HZR.out) (HW5.out.o.rv HZR.out) (by omega)).mono ?_
    rintro e w6 ⟨rfl, q6, rfl⟩
    have b6 : Below w5.heap.size w5 (w5.drewN q6) := below_drewN (Below.refl _ _) q6
    generalize w5.drewN q6 = w6 at b6 ⊢
    have K6 : Hid (BY w.heap.size w4.heap.size #[.int .i64 S.index, rv, tv, .int .i64 S.lost, sv, lv] #[.int .i64 S.index, .slice (some ⟨gr, 0, none⟩) S.rows.length S.rows.length, .slice (some ⟨gt, 0, none⟩) S.tombs.length S.tombs.length, .int .i64 S.lost, .slice (some ⟨gs, 0, none⟩) S.sess.length S.sess.length, .slice (some ⟨gl, 0, none⟩) S.lasts.length S.lasts.length] w6) := K5.out.below b6
    have B6 := B5.trans (b6.mono B5.size)
    have s6 := b6.size
    have HW6 : Hid (OB w2.heap.size w3.heap.size w6 vw zs) := HW5.out.ext (ext_below b6)
    have HG6 : Hid (OB (w4.heap.size + 1) w5.heap.size w6 vg zs) := HG5.out.ext (ext_below b6)
    have HS6 : Hid (Shp w3.heap.size w4.heap.size w6 gr gt gs gl S.rows.length S.tombs.length S.sess.length S.lasts.length) := HS5.out.ext (ext_below b6)
    have HV6 : Hid (VState w6 (.agg #[.int .i64 S.index, .slice (some ⟨gr, 0, none⟩) S.rows.length S.rows.length, .slice (some ⟨gt, 0, none⟩) S.tombs.length S.tombs.length, .int .i64 S.lost, .slice (some ⟨gs, 0, none⟩) S.sess.length S.sess.length, .slice (some ⟨gl, 0, none⟩) S.lasts.length S.lasts.length]) S) := HV5.out.ext (ext_below b6)
    clear b6 K5 HW5 HG5 HS5 HV5
    obtain ⟨q0, _⟩ := at_block K6.out.a 0 _ rfl
    obtain ⟨q1, _⟩ := at_block K6.out.a 1 _ rfl
    obtain ⟨q2, _⟩ := at_block K6.out.a 2 _ rfl
    obtain ⟨q3, _⟩ := at_block K6.out.a 3 _ rfl
    obtain ⟨q4, _⟩ := at_block K6.out.a 4 _ rfl
    obtain ⟨q5, _⟩ := at_block K6.out.a 5 _ rfl
    obtain ⟨t0, _⟩ := at_block K6.out.x 0 _ rfl
    obtain ⟨t1, _⟩ := at_block K6.out.x 1 _ rfl
    obtain ⟨t2, _⟩ := at_block K6.out.x 2 _ rfl
    obtain ⟨t3, _⟩ := at_block K6.out.x 3 _ rfl
    obtain ⟨t4, _⟩ := at_block K6.out.x 4 _ rfl
    obtain ⟨t5, _⟩ := at_block K6.out.x 5 _ rfl
    have S5 : (w6.cell? ⟨w4.heap.size, 0, none⟩ = some (.int .i64 S.index) ∧ w6.cell? ⟨w4.heap.size, 1, none⟩ = some (.slice (some ⟨gr, 0, none⟩) S.rows.length S.rows.length) ∧ w6.cell? ⟨w4.heap.size, 2, none⟩ = some (.slice (some ⟨gt, 0, none⟩) S.tombs.length S.tombs.length) ∧ w6.cell? ⟨w4.heap.size, 3, none⟩ = some (.int .i64 S.lost) ∧ w6.cell? ⟨w4.heap.size, 4, none⟩ = some (.slice (some ⟨gs, 0, none⟩) S.sess.length S.sess.length) ∧ w6.cell? ⟨w4.heap.size, 5, none⟩ = some (.slice (some ⟨gl, 0, none⟩) S.lasts.length S.lasts.length)) ∧ (w6.cell? ⟨w.heap.size, 0, none⟩ = some (.int .i64 S.index) ∧ w6.cell? ⟨w.heap.size, 1, none⟩ = some rv ∧ w6.cell? ⟨w.heap.size, 2, none⟩ = some tv ∧ w6.cell? ⟨w.heap.size, 3, none⟩ = some (.int .i64 S.lost) ∧ w6.cell? ⟨w.heap.size, 4, none⟩ = some sv ∧ w6.cell? ⟨w.heap.size, 5, none⟩ = some lv) := ⟨⟨t0, t1, t2, t3, t4, t5⟩, ⟨q0, q1, q2, q3, q4, q5⟩⟩
    have HSS5 : Hid _ := S5
    have X5 : Ext w6 w6.drew := ext_drewN w6 1
    go_wp2_with fail
    go_region_held3 (fun w' => w'.cell? ⟨w4.heap.size, 0, none⟩ = some (.int .i64 S.index) ∧ w'.cell? ⟨w4.heap.size, 1, none⟩ = some (.slice (some ⟨gr, 0, none⟩) S.rows.length S.rows.length) ∧ w'.cell? ⟨w4.heap.size, 2, none⟩ = some (.slice (some ⟨gt, 0, none⟩) S.tombs.length S.tombs.length) ∧ w'.cell? ⟨w4.heap.size, 3, none⟩ = some (.int .i64 S.lost) ∧ w'.cell? ⟨w4.heap.size, 4, none⟩ = some (.slice (some ⟨gs, 0, none⟩) S.sess.length S.sess.length) ∧ w'.cell? ⟨w4.heap.size, 5, none⟩ = some (.slice (some ⟨gl, 0, none⟩) S.lasts.length S.lasts.length) ∧ w'.cell? ⟨w.heap.size, 0, none⟩ = some (.int .i64 S.index) ∧ w'.cell? ⟨w.heap.size, 1, none⟩ = some rv ∧ w'.cell? ⟨w.heap.size, 2, none⟩ = some tv ∧ w'.cell? ⟨w.heap.size, 3, none⟩ = some (.int .i64 S.lost) ∧ w'.cell? ⟨w.heap.size, 4, none⟩ = some sv ∧ w'.cell? ⟨w.heap.size, 5, none⟩ = some lv) (simp [*])
      (first | (go_at_call 6; refine (toSt _ S _ ?_ HL.out).mono ?_; exact (h0.out.ext (ext_below B6)).ext X5; rintro e w7 ⟨gr6, gt6, gs6, gl6, rfl, o7, b7⟩; obtain ⟨⟨a0, a1, a2, a3, a4, a5⟩, ⟨c0, c1, c2, c3, c4, c5⟩⟩ := kept12 (w := w6.drew) HSS5.out b7) | (go_at_call 9; refine (eqSt _ _ S _ ?_ ?_ HL.out).mono ?_; exact (HV6.out.ext X5).ext (ext_below b7); exact o7.v HL.out HR.out; rintro e w8 ⟨rfl, b8⟩; obtain ⟨⟨a0', a1', a2', a3', a4', a5'⟩, ⟨c0', c1', c2', c3', c4', c5'⟩⟩ := kept12 ⟨⟨a0, a1, a2, a3, a4, a5⟩, ⟨c0, c1, c2, c3, c4, c5⟩⟩ b8))
    have b68 : Below w6.heap.size w6 w8 := (below_drewN (Below.refl _ w6) 1).trans ((b7.mono (by simp)).trans (b8.mono (by have := b7.size; simpa using this)))
    have K8 : Hid (BY w.heap.size w4.heap.size #[.int .i64 S.index, rv, tv, .int .i64 S.lost, sv, lv] #[.int .i64 S.index, .slice (some ⟨gr, 0, none⟩) S.rows.length S.rows.length, .slice (some ⟨gt, 0, none⟩) S.tombs.length S.tombs.length, .int .i64 S.lost, .slice (some ⟨gs, 0, none⟩) S.sess.length S.sess.length, .slice (some ⟨gl, 0, none⟩) S.lasts.length S.lasts.length] w8) := K6.out.below b68
    have B8 := B6.trans (b68.mono B6.size)
    have s8 := b68.size
    have HW8 : Hid (OB w2.heap.size w3.heap.size w8 vw zs) := HW6.out.ext (ext_below b68)
    have HG8 : Hid (OB (w4.heap.size + 1) w5.heap.size w8 vg zs) := HG6.out.ext (ext_below b68)
    have HS8 : Hid (Shp w3.heap.size w4.heap.size w8 gr gt gs gl S.rows.length S.tombs.length S.sess.length S.lasts.length) := HS6.out.ext (ext_below b68)
    clear b68 K6 HW6 HG6 HS6 HV6 o7 b7 b8 S5 HSS5 X5 q0 q1 q2 q3 q4 q5 t0 t1 t2 t3 t4 t5
    clear a0 a1 a2 a3 a4 a5 c0 c1 c2 c3 c4 c5
    obtain ⟨t0, _⟩ := at_block K8.out.x 0 _ rfl
    obtain ⟨t1, _⟩ := at_block K8.out.x 1 _ rfl
    obtain ⟨t2, _⟩ := at_block K8.out.x 2 _ rfl
    obtain ⟨t3, _⟩ := at_block K8.out.x 3 _ rfl
    obtain ⟨t4, _⟩ := at_block K8.out.x 4 _ rfl
    obtain ⟨t5, _⟩ := at_block K8.out.x 5 _ rfl
    go_wp2_with fail
    refine (markStM w3.heap.size w4.heap.size gr gt gs gl _ _ _ _ _ _ 1 w8 HS8.out (by omega) (by omega) (by omega)).mono ?_
    rintro e w9 ⟨k9, hk0, hk1, rfl, m9⟩
    have K9 : Hid (BY w.heap.size w4.heap.size #[.int .i64 S.index, rv, tv, .int .i64 S.lost, sv, lv] #[.int .i64 S.index, .slice (some ⟨gr, 0, none⟩) S.rows.length S.rows.length, .slice (some ⟨gt, 0, none⟩) S.tombs.length S.tombs.length, .int .i64 S.lost, .slice (some ⟨gs, 0, none⟩) S.sess.length S.sess.length, .slice (some ⟨gl, 0, none⟩) S.lasts.length S.lasts.length] w9) := K8.out.mid m9 (by omega) (by omega)
    have B9 : Below w.heap.size w w9 := m9.below B8 B8.size (by omega)
    have HW9 : Hid (OB w2.heap.size w3.heap.size w9 vw zs) := HW8.out.mid m9 (by omega)
    have HG9 : Hid (OB (w4.heap.size + 1) w5.heap.size w9 vg zs) := HG8.out.mid m9 (by omega)
    have s9 := m9.size
    have dk9 : decide (k9 < 0) = false := decide_eq_false (by omega)
    clear K8 HW8 HG8 HS8 m9 t0 t1 t2 t3 t4 t5
    go_wp2_with fail
    refine (eqV_yes _ _ zs w9 (HG9.out.o.rv HZR.out) (HW9.out.o.rv HZR.out) (by omega)).mono ?_
    rintro e w10 ⟨rfl, q10, rfl⟩
    have b10 : Below w9.heap.size w9 (w9.drewN q10) := below_drewN (Below.refl _ _) q10
    generalize w9.drewN q10 = w10 at b10 ⊢
    have K10 : Hid (BY w.heap.size w4.heap.size #[.int .i64 S.index, rv, tv, .int .i64 S.lost, sv, lv] #[.int .i64 S.index, .slice (some ⟨gr, 0, none⟩) S.rows.length S.rows.length, .slice (some ⟨gt, 0, none⟩) S.tombs.length S.tombs.length, .int .i64 S.lost, .slice (some ⟨gs, 0, none⟩) S.sess.length S.sess.length, .slice (some ⟨gl, 0, none⟩) S.lasts.length S.lasts.length] w10) := K9.out.below b10
    have B10 := B9.trans (b10.mono B9.size)
    have s10 := b10.size
    have HW10 : Hid (OB w2.heap.size w3.heap.size w10 vw zs) := HW9.out.ext (ext_below b10)
    have HG10 : Hid (OB (w4.heap.size + 1) w5.heap.size w10 vg zs) := HG9.out.ext (ext_below b10)
    clear b10 K9 HW9 HG9 hk0 hk1
    go_wp2_with fail
    refine (markV (w4.heap.size + 1) vg zs 1 w10 HG10.out.o (by omega) (by omega) (by omega)).mono ?_
    rintro e w11 ⟨rfl, M11, G11⟩
    have K11a : Hid (w11.heap[w.heap.size]? = some (.cells #[.int .i64 S.index, rv, tv, .int .i64 S.lost, sv, lv] 27 (0, 0))) := (G11.block w.heap.size (Array.getElem?_eq_some_iff.1 K10.out.a).1 (fun e => by have := (HG10.out.lt w.heap.size e.symm).1; omega)).trans K10.out.a
    have B11 : Below w.heap.size w w11 := B10.grown G11 B10.size (fun k hk => by have := (HG10.out.lt k hk).1; omega)
    have HW11 : Hid (Ow w11 w2.heap.size vw zs) := Ow.sameB HW10.out.o (fun k hk => G11.block k (by have := HW10.out.lt k hk; have := HW10.out.le; omega) (fun e => by have h1 := (HG10.out.lt k e.symm).1; have h2 := HW10.out.lt k hk; omega))
    obtain ⟨L, hL⟩ : ∃ L, L = zs.length := ⟨_, rfl⟩
    have hL5 : L ≤ 2000 := by rw [hL]; exact hzl
    have HZL : Hid (zs.length ≤ 2000) := hzl
    rw [← hL] at M11 ⊢
    have HM11 : Hid (Ow w11 (w4.heap.size + 1) vg (marks 1 L)) := M11
    clear K10 HW10 HG10 M11 G11 hL hzl
    go_wp2_with fail
    refine (heldV vg L 1 w11 (HM11.out.rv (marks_rng _ _)) (by omega) (by omega) (by omega)).mono ?_
    rintro e w12 ⟨rfl, rfl⟩
    have hl0 : (0 : Int) ≤ 1 + (L : Int) := by omega
    obtain ⟨q0, _⟩ := at_block K11a.out 0 _ rfl
    obtain ⟨q1, _⟩ := at_block K11a.out 1 _ rfl
    obtain ⟨q2, _⟩ := at_block K11a.out 2 _ rfl
    obtain ⟨q3, _⟩ := at_block K11a.out 3 _ rfl
    obtain ⟨q4, _⟩ := at_block K11a.out 4 _ rfl
    obtain ⟨q5, _⟩ := at_block K11a.out 5 _ rfl
    go_wp2_with fail
    refine (toSt _ S w12 (h0.out.ext (ext_below B11)) HL.out).mono ?_
    rintro e w13 ⟨gr9, gt9, gs9, gl9, rfl, o13, b13⟩
    have B13 := B11.trans (b13.mono B11.size)
    have HV13 : Hid (VState w13 (stV gr9 gt9 gs9 gl9 S) S) := o13.v HL.out HR.out
    have HW13 : Hid (Ow w13 w2.heap.size vw zs) := HW11.out.ext (ext_below b13)
    have HM13 : Hid (Ow w13 (w4.heap.size + 1) vg (marks 1 L)) := HM11.out.ext (ext_below b13)
    clear b13 o13 K11a HW11 HM11 q0 q1 q2 q3 q4 q5
    go_wp2_with fail
    refine (iStateBytesP _ S w13 HV13.out).mono ?_
    rintro e w14 ⟨vh, rfl, R14, O14, b14⟩
    rw [HZ.out] at O14
    rw [HT.out]
    clear R14
    have B14 := B13.trans (b14.mono B13.size)
    have HH14 : Hid (Ow w14 w13.heap.size vh zs) := O14
    have HW14 : Hid (Ow w14 w2.heap.size vw zs) := HW13.out.ext (ext_below b14)
    have HM14 : Hid (Ow w14 (w4.heap.size + 1) vg (marks 1 L)) := HM13.out.ext (ext_below b14)
    clear b14 O14 HW13 HM13 HV13
    go_wp2_with fail
    refine (eqV_yes _ _ zs w14 (HH14.out.rv HZR.out) (HW14.out.rv HZR.out) (by have := HZL.out; omega)).mono ?_
    rintro e w15 ⟨rfl, q15, rfl⟩
    have B15 : Below w.heap.size w (w14.drewN q15) := below_drewN B14 q15
    have HM15 : Hid (Ow (w14.drewN q15) (w4.heap.size + 1) vg (marks 1 L)) := HM14.out.ext (ext_drewN _ _)
    generalize w14.drewN q15 = w15 at B15 HM15 ⊢
    clear HH14 HW14 HM14
    go_wp2_with fail
    refine (heldV vg L 1 w15 (HM15.out.rv (marks_rng _ _)) (by omega) (by omega) (by omega)).mono ?_
    rintro e w16 ⟨rfl, rfl⟩
    go_wp2
    go_ret
    exact ⟨rfl, B15⟩

end Go.Proofs.Ytknemgmfbmmngaa

namespace Go.Proofs.Ytknemgmfbmmngaa
open Go.ChangeShapes Go.WideShapes Go.ChangeAt Go.RowKit

theorem own : ownKnob Try.prog.godebug = none := by kernel_rfl
theorem laidOut : laidOutB Try.prog = true := by kernel_rfl

set_option maxRecDepth 100000 in
theorem lifted (os : Os) (started : os.Started) (H : Type) (enc : TypeId × Value → H) :
    ReturnsInHanded {} Try.checked os 3 .any (Rows.fnExactStateBytesSpec.pre6 enc Try.prog Try.f3 Rows.fnExactStateBytesRow.domain false) (Rows.fnExactStateBytesSpec.post enc Try.prog Try.f3 false true false false) := by
  refine returnsInHanded_of_change (C := Try.checked) own started (by kernel_rfl) Try.func3
    (ChangeSpec.witness6 (enc := enc) (C := Try.checked) false ⟨#[], #[.agg #[.int .i64 0, .slice none 0 0, .slice none 0 0, .int .i64 0, .slice none 0 0, .slice none 0 0]], []⟩ 8 (by kernel_rfl) (by kernel_rfl) (by kernel_rfl) (by kernel_rfl)) ?_
  intro W base args ds gs before hval0 hW hcnd _
  have hval : ∀ (j : Nat) t v, Try.f3.params[j]? = some t → args[j]? = some v → Value.okWide Try.prog W .any base t v := hval0
  have hW' := hW
  obtain ⟨p, q, hA0, hV, rfl, hfz, hnd⟩ := hW
  have hA : DataW.TrodAll enc Try.prog W 0 (fun _ => true) true Try.f3.params.toList args.toList ds p := hA0
  rw [Try.params3] at hA hval
  obtain ⟨v0, vs0, d0, ds0, p0, q0, hargs, rfl, rfl, h0, r0⟩ := trodAll_cons hA
  obtain ⟨rfl, rfl, rfl⟩ := trodAll_nil r0
  obtain rfl : args = #[v0] := by cases args; simp_all
  obtain ⟨rfl, rfl⟩ := trodVars_none hV
  have k0 := h0
  have lt0 : ∀ x ∈ p0, x.block < W.heap.size := by obtain ⟨m, hm⟩ := k0; exact DataW.trod_lt m _ _ _ hm
  obtain ⟨D0, w0⟩ := open_State (hval 0 27 v0 rfl rfl) h0
  clear hA0 hval0
  refine (law_StateBytes v0 D0 W w0.1 w0.2.1 w0.2.2).mono fun e W' ⟨he, bel⟩ => ?_
  subst he
  exact ⟨_, rfl, _, _, _, [], _, [], hW', trodAll_mk1 (shut_bool Try.underlying4 _), (trodAll_cons_mk (Below.trod laidOut (by kernel_rfl) (of_decide_eq_true (by kernel_rfl)) k0 bel lt0) trodAll_mk0), rfl, bel.frame _, fun h => by cases h⟩

theorem over : Rows.fnExactStateBytesRow.holds Try.pinned (OpenSpec.ofChange Rows.fnExactStateBytesSpec) :=
  OpenClaim.holds_of_wide 3 Try.f3 rfl rfl rfl rfl rfl rfl rfl ⟨rfl, rfl, rfl, rfl, rfl⟩ rfl rfl rfl rfl rfl (by kernel_rfl) Try.func3 (by kernel_rfl)
    (of_decide_eq_true (by kernel_rfl)) (by unfold Func.isWrapper; first | (rw [if_pos (by decide +kernel)]; kernel_rfl) | (rw [if_neg (by decide +kernel)]; exact ⟨rfl, rfl⟩))
    (fun os started H enc _ => lifted os started H enc)

theorem proved : Rows.FnExactStateBytesSaid := over
#print axioms proved
end Go.Proofs.Ytknemgmfbmmngaa

