/- Marking the lists of a state, and a state: only its own blocks turn. -/
import Derived.Test.YtplgnohncdfgcalMkA
namespace Go.Proofs.Ytplgnohncdfgcal
open Go.RowKit

/-- Which cells of an element are texts. -/
def txR : Nat → Prop := fun j => j = 0 ∨ j = 1

set_option maxHeartbeats 4000000 in
theorem markRM (lo hi g n : Nat) (F : Nat → Nat → Value) (k : Int) (w : World) (h : Arr w g 92 4 n txR F) (hw : ∀ i, i < n → WB lo hi w (F i 0) ∧ WB lo hi w (F i 1)) (h1 : lo ≤ g) (h2 : g < hi) (hn : n ≤ 1048576) (hk0 : 0 ≤ k) (hk : k ≤ 70368744177664) :
    Calls Try.prog 55 #[.slice (some ⟨g, 0, none⟩) n n, .int .i64 k] w fun e w' => ∃ m : Nat, m ≤ n * 2097154 ∧ e = .returned (.int .i64 (k + m)) ∧ Mk lo hi (some g) w w' := by
  have HW : Hid (∀ i, i < n → WB lo hi w (F i 0) ∧ WB lo hi w (F i 1)) := hw
  have HA : Hid (Arr w g 92 4 n txR F) := h
  have h5 : (92 : TypeId) ≠ 5 := by decide
  have H5 : Hid ((92 : TypeId) ≠ 5) := h5
  clear hw h h5
  go_enter Try.func55, Try.ntmps55
  go_wp2
  go_loopw [1, 5] (fun q i wr => ∃ j m : Nat, j ≤ n ∧ m ≤ j * 2097154 ∧ i = .int .i64 j ∧ q = .int .i64 (k + m) ∧ Mk lo hi (some g) w wr ∧ Hid (Arr wr g 92 4 n txR F)) (fun _ i _ => n - (intOf i).toNat)
  case atStart => exact ⟨0, 0, Nat.zero_le _, by omega, rfl, by go_num, Mk.re _ _ _ _, HA.out⟩
  case round =>
    obtain ⟨j, m, hj, hmj, rfl, rfl, hm, ha⟩ := hrel
    by_cases hlt : j < n
    · have hlt' : (j : Int) < (n : Int) := by omega
      have HM0 : Hid (Mk lo hi (some g) w wr) := hm
      clear hm
      have d0 := Arr.cell ha.out j hlt 0 (by omega) (by unfold txR; omega)
      rw [Nat.add_zero] at d0
      go_wp2_with fail
      refine (markW lo hi none _ _ wr ((HW.out j hlt).1.mk HM0.out) (by omega) (by omega)).mono ?_
      rintro e w1 ⟨n1, hn1, rfl, M1⟩
      have HM1 : Hid (Mk lo hi (some g) w w1) := (HM0.out).tr M1.some
      have HA1 : Hid (Arr w1 g 92 4 n txR F) := (ha.out).mk M1 H5.out (by simp)
      clear M1 d0
      have d1 := Arr.cell HA1.out j hlt 1 (by omega) (by unfold txR; omega)
      go_wp2_with fail
      refine (markW lo hi none _ _ w1 ((HW.out j hlt).2.mk HM1.out) (by omega) (by omega)).mono ?_
      rintro e w2 ⟨n2, hn2, rfl, M2⟩
      have HM2 : Hid (Mk lo hi (some g) w w2) := (HM1.out).tr M2.some
      have HA2 : Hid (Arr w2 g 92 4 n txR F) := (HA1.out).mk M2 H5.out (by simp)
      clear M2 d1
      obtain ⟨⟨u0, a0⟩, f0⟩ := Arr.at HA2.out (j * 4 + 2) (by omega)
      obtain ⟨⟨u1, a1⟩, f1⟩ := Arr.at HA2.out (j * 4 + 3) (by omega)
      have HZ : Hid (∀ V0 V1 : Value, Mk lo hi (some g) w ((w2.setCell ⟨g, j * 4 + 2, none⟩ V0).setCell ⟨g, j * 4 + 3, none⟩ V1) ∧ Arr ((w2.setCell ⟨g, j * 4 + 2, none⟩ V0).setCell ⟨g, j * 4 + 3, none⟩ V1) g 92 4 n txR F) := fun V0 V1 => ⟨((((HM2.out).tr (Arr.mkset (HA2.out) h1 h2 (j * 4 + 2) V0))).tr (Arr.mkset (((HA2.out).set j 2 (by omega) (by unfold txR; first | omega | simp) V0)) h1 h2 (j * 4 + 3) V1)), ((((HA2.out).set j 2 (by omega) (by unfold txR; first | omega | simp) V0)).set j 3 (by omega) (by unfold txR; first | omega | simp) V1)⟩
      clear ha HM0 HM1 HA1 HM2 HA2
      go_wp2
      go_roundw
      case rel => exact ⟨j + 1, m + n1 + n2 + 2, by omega, by omega, by go_num, by go_num, (HZ.out _ _).1, (HZ.out _ _).2⟩
      case measure => simp [intOf]; omega
    · have hjn : j = n := by omega
      subst hjn
      clear ha
      go_wp2
      go_ret
      exact ⟨m, hmj, rfl, hm⟩

/-- Which cells of an element are texts. -/
def txT : Nat → Prop := fun j => j = 0

set_option maxHeartbeats 4000000 in
theorem markTM (lo hi g n : Nat) (F : Nat → Nat → Value) (k : Int) (w : World) (h : Arr w g 94 2 n txT F) (hw : ∀ i, i < n → WB lo hi w (F i 0)) (h1 : lo ≤ g) (h2 : g < hi) (hn : n ≤ 1048576) (hk0 : 0 ≤ k) (hk : k ≤ 70368744177664) :
    Calls Try.prog 56 #[.slice (some ⟨g, 0, none⟩) n n, .int .i64 k] w fun e w' => ∃ m : Nat, m ≤ n * 1048577 ∧ e = .returned (.int .i64 (k + m)) ∧ Mk lo hi (some g) w w' := by
  have HW : Hid (∀ i, i < n → WB lo hi w (F i 0)) := hw
  have HA : Hid (Arr w g 94 2 n txT F) := h
  have h5 : (94 : TypeId) ≠ 5 := by decide
  have H5 : Hid ((94 : TypeId) ≠ 5) := h5
  clear hw h h5
  go_enter Try.func56, Try.ntmps56
  go_wp2
  go_loopw [1, 5] (fun q i wr => ∃ j m : Nat, j ≤ n ∧ m ≤ j * 1048577 ∧ i = .int .i64 j ∧ q = .int .i64 (k + m) ∧ Mk lo hi (some g) w wr ∧ Hid (Arr wr g 94 2 n txT F)) (fun _ i _ => n - (intOf i).toNat)
  case atStart => exact ⟨0, 0, Nat.zero_le _, by omega, rfl, by go_num, Mk.re _ _ _ _, HA.out⟩
  case round =>
    obtain ⟨j, m, hj, hmj, rfl, rfl, hm, ha⟩ := hrel
    by_cases hlt : j < n
    · have hlt' : (j : Int) < (n : Int) := by omega
      have HM0 : Hid (Mk lo hi (some g) w wr) := hm
      clear hm
      have d0 := Arr.cell ha.out j hlt 0 (by omega) (by unfold txT; omega)
      rw [Nat.add_zero] at d0
      go_wp2_with fail
      refine (markW lo hi none _ _ wr ((HW.out j hlt).mk HM0.out) (by omega) (by omega)).mono ?_
      rintro e w1 ⟨n1, hn1, rfl, M1⟩
      have HM1 : Hid (Mk lo hi (some g) w w1) := (HM0.out).tr M1.some
      have HA1 : Hid (Arr w1 g 94 2 n txT F) := (ha.out).mk M1 H5.out (by simp)
      clear M1 d0
      obtain ⟨⟨u0, a0⟩, f0⟩ := Arr.at HA1.out (j * 2 + 1) (by omega)
      have HZ : Hid (∀ V0 : Value, Mk lo hi (some g) w (w1.setCell ⟨g, j * 2 + 1, none⟩ V0) ∧ Arr (w1.setCell ⟨g, j * 2 + 1, none⟩ V0) g 94 2 n txT F) := fun V0 => ⟨((HM1.out).tr (Arr.mkset (HA1.out) h1 h2 (j * 2 + 1) V0)), ((HA1.out).set j 1 (by omega) (by unfold txT; first | omega | simp) V0)⟩
      clear ha HM0 HM1 HA1
      go_wp2
      go_roundw
      case rel => exact ⟨j + 1, m + n1 + 1, by omega, by omega, by go_num, by go_num, (HZ.out _).1, (HZ.out _).2⟩
      case measure => simp [intOf]; omega
    · have hjn : j = n := by omega
      subst hjn
      clear ha
      go_wp2
      go_ret
      exact ⟨m, hmj, rfl, hm⟩

/-- Which cells of an element are texts. -/
def txS : Nat → Prop := fun _ => False

set_option maxHeartbeats 4000000 in
theorem markSM (lo hi g n : Nat) (F : Nat → Nat → Value) (k : Int) (w : World) (h : Arr w g 139 2 n txS F) (hw : ∀ i, i < n → True) (h1 : lo ≤ g) (h2 : g < hi) (hn : n ≤ 1048576) (hk0 : 0 ≤ k) (hk : k ≤ 70368744177664) :
    Calls Try.prog 57 #[.slice (some ⟨g, 0, none⟩) n n, .int .i64 k] w fun e w' => ∃ m : Nat, m ≤ n * 2 ∧ e = .returned (.int .i64 (k + m)) ∧ Mk lo hi (some g) w w' := by
  have HW : Hid (∀ i, i < n → True) := hw
  have HA : Hid (Arr w g 139 2 n txS F) := h
  have h5 : (139 : TypeId) ≠ 5 := by decide
  have H5 : Hid ((139 : TypeId) ≠ 5) := h5
  clear hw h h5
  go_enter Try.func57, Try.ntmps57
  go_wp2
  go_loopw [1, 5] (fun q i wr => ∃ j m : Nat, j ≤ n ∧ m ≤ j * 2 ∧ i = .int .i64 j ∧ q = .int .i64 (k + m) ∧ Mk lo hi (some g) w wr ∧ Hid (Arr wr g 139 2 n txS F)) (fun _ i _ => n - (intOf i).toNat)
  case atStart => exact ⟨0, 0, Nat.zero_le _, by omega, rfl, by go_num, Mk.re _ _ _ _, HA.out⟩
  case round =>
    obtain ⟨j, m, hj, hmj, rfl, rfl, hm, ha⟩ := hrel
    by_cases hlt : j < n
    · have hlt' : (j : Int) < (n : Int) := by omega
      have HM0 : Hid (Mk lo hi (some g) w wr) := hm
      clear hm
      obtain ⟨⟨u0, a0⟩, f0⟩ := Arr.at ha.out (j * 2 + 0) (by omega)
      rw [Nat.add_zero] at a0 f0
      obtain ⟨⟨u1, a1⟩, f1⟩ := Arr.at ha.out (j * 2 + 1) (by omega)
      have HZ : Hid (∀ V0 V1 : Value, Mk lo hi (some g) w ((wr.setCell ⟨g, j * 2 + 0, none⟩ V0).setCell ⟨g, j * 2 + 1, none⟩ V1) ∧ Arr ((wr.setCell ⟨g, j * 2 + 0, none⟩ V0).setCell ⟨g, j * 2 + 1, none⟩ V1) g 139 2 n txS F) := fun V0 V1 => ⟨((((HM0.out).tr (Arr.mkset (ha.out) h1 h2 (j * 2 + 0) V0))).tr (Arr.mkset (((ha.out).set j 0 (by omega) (by unfold txS; first | omega | simp) V0)) h1 h2 (j * 2 + 1) V1)), ((((ha.out).set j 0 (by omega) (by unfold txS; first | omega | simp) V0)).set j 1 (by omega) (by unfold txS; first | omega | simp) V1)⟩
      clear ha HM0
      go_wp2
      go_roundw
      case rel => exact ⟨j + 1, m + 2, by omega, by omega, by go_num, by go_num, (HZ.out _ _).1, (HZ.out _ _).2⟩
      case measure => simp [intOf]; omega
    · have hjn : j = n := by omega
      subst hjn
      clear ha
      go_wp2
      go_ret
      exact ⟨m, hmj, rfl, hm⟩

/-- Which cells of an element are texts. -/
def txL : Nat → Prop := fun _ => False

set_option maxHeartbeats 4000000 in
theorem markLM (lo hi g n : Nat) (F : Nat → Nat → Value) (k : Int) (w : World) (h : Arr w g 143 4 n txL F) (hw : ∀ i, i < n → True) (h1 : lo ≤ g) (h2 : g < hi) (hn : n ≤ 1048576) (hk0 : 0 ≤ k) (hk : k ≤ 70368744177664) :
    Calls Try.prog 58 #[.slice (some ⟨g, 0, none⟩) n n, .int .i64 k] w fun e w' => ∃ m : Nat, m ≤ n * 4 ∧ e = .returned (.int .i64 (k + m)) ∧ Mk lo hi (some g) w w' := by
  have HW : Hid (∀ i, i < n → True) := hw
  have HA : Hid (Arr w g 143 4 n txL F) := h
  have h5 : (143 : TypeId) ≠ 5 := by decide
  have H5 : Hid ((143 : TypeId) ≠ 5) := h5
  clear hw h h5
  go_enter Try.func58, Try.ntmps58
  go_wp2
  go_loopw [1, 5] (fun q i wr => ∃ j m : Nat, j ≤ n ∧ m ≤ j * 4 ∧ i = .int .i64 j ∧ q = .int .i64 (k + m) ∧ Mk lo hi (some g) w wr ∧ Hid (Arr wr g 143 4 n txL F)) (fun _ i _ => n - (intOf i).toNat)
  case atStart => exact ⟨0, 0, Nat.zero_le _, by omega, rfl, by go_num, Mk.re _ _ _ _, HA.out⟩
  case round =>
    obtain ⟨j, m, hj, hmj, rfl, rfl, hm, ha⟩ := hrel
    by_cases hlt : j < n
    · have hlt' : (j : Int) < (n : Int) := by omega
      have HM0 : Hid (Mk lo hi (some g) w wr) := hm
      clear hm
      obtain ⟨⟨u0, a0⟩, f0⟩ := Arr.at ha.out (j * 4 + 0) (by omega)
      rw [Nat.add_zero] at a0 f0
      obtain ⟨⟨u1, a1⟩, f1⟩ := Arr.at ha.out (j * 4 + 1) (by omega)
      obtain ⟨⟨u2, a2⟩, f2⟩ := Arr.at ha.out (j * 4 + 2) (by omega)
      obtain ⟨⟨u3, a3⟩, f3⟩ := Arr.at ha.out (j * 4 + 3) (by omega)
      have HZ : Hid (∀ V0 V1 V2 V3 : Value, Mk lo hi (some g) w ((((wr.setCell ⟨g, j * 4 + 0, none⟩ V0).setCell ⟨g, j * 4 + 1, none⟩ V1).setCell ⟨g, j * 4 + 2, none⟩ V2).setCell ⟨g, j * 4 + 3, none⟩ V3) ∧ Arr ((((wr.setCell ⟨g, j * 4 + 0, none⟩ V0).setCell ⟨g, j * 4 + 1, none⟩ V1).setCell ⟨g, j * 4 + 2, none⟩ V2).setCell ⟨g, j * 4 + 3, none⟩ V3) g 143 4 n txL F) := fun V0 V1 V2 V3 => ⟨((((((((HM0.out).tr (Arr.mkset (ha.out) h1 h2 (j * 4 + 0) V0))).tr (Arr.mkset (((ha.out).set j 0 (by omega) (by unfold txL; first | omega | simp) V0)) h1 h2 (j * 4 + 1) V1))).tr (Arr.mkset (((((ha.out).set j 0 (by omega) (by unfold txL; first | omega | simp) V0)).set j 1 (by omega) (by unfold txL; first | omega | simp) V1)) h1 h2 (j * 4 + 2) V2))).tr (Arr.mkset (((((((ha.out).set j 0 (by omega) (by unfold txL; first | omega | simp) V0)).set j 1 (by omega) (by unfold txL; first | omega | simp) V1)).set j 2 (by omega) (by unfold txL; first | omega | simp) V2)) h1 h2 (j * 4 + 3) V3)), ((((((((ha.out).set j 0 (by omega) (by unfold txL; first | omega | simp) V0)).set j 1 (by omega) (by unfold txL; first | omega | simp) V1)).set j 2 (by omega) (by unfold txL; first | omega | simp) V2)).set j 3 (by omega) (by unfold txL; first | omega | simp) V3)⟩
      clear ha HM0
      go_wp2
      go_roundw
      case rel => exact ⟨j + 1, m + 4, by omega, by omega, by go_num, by go_num, (HZ.out _ _ _ _).1, (HZ.out _ _ _ _).2⟩
      case measure => simp [intOf]; omega
    · have hjn : j = n := by omega
      subst hjn
      clear ha
      go_wp2
      go_ret
      exact ⟨m, hmj, rfl, hm⟩

/-- Only blocks from lo up to hi have turned. -/
structure Mid (lo hi : Nat) (w w' : World) : Prop where
  os : w'.os = w.os
  tape : w'.tape = w.tape
  output : w'.output = w.output
  size : w.heap.size ≤ w'.heap.size
  out : ∀ k, k < w.heap.size → (k < lo ∨ hi ≤ k) → w'.heap[k]? = w.heap[k]?
theorem Mk.mid {lo hi : Nat} {og : Option Nat} {w w' : World} (h : Mk lo hi og w w') : Mid lo hi w w' := ⟨h.os, h.tape, h.output, h.size, h.out⟩
theorem Mid.tr {lo hi : Nat} {a b c : World} (h : Mid lo hi a b) (k : Mid lo hi b c) : Mid lo hi a c :=
  ⟨k.os.trans h.os, k.tape.trans h.tape, k.output.trans h.output, Nat.le_trans h.size k.size, fun i hi' ho => (k.out i (Nat.lt_of_lt_of_le hi' h.size) ho).trans (h.out i hi' ho)⟩
theorem Mid.ext {lo hi : Nat} {a b : World} (h : Ext a b) : Mid lo hi a b := ⟨h.os, h.tape, h.output, h.size, fun i hi' _ => h.block i hi' (by simp)⟩
theorem Mid.below {lo hi B : Nat} {w0 w w' : World} (hb : Below B w0 w) (hs : B ≤ w.heap.size) (hl : B ≤ lo) (h : Mid lo hi w w') : Below B w0 w' :=
  ⟨h.os.trans hb.os, h.tape.trans hb.tape, h.output.trans hb.output, Nat.le_trans hb.size h.size, fun k hk => (h.out k (by omega) (.inl (by omega))).trans (hb.block k hk)⟩

/-- A state's memory, as far as its marks need it: its four arrays and its texts, all from lo up to hi. -/
def Shp (lo hi : Nat) (w : World) (gr gt gs gl nr nt ns nl : Nat) : Prop :=
  ∃ FR FT FS FL : Nat → Nat → Value, (Arr w gr 92 4 nr txR FR ∧ ∀ i, i < nr → WB lo hi w (FR i 0) ∧ WB lo hi w (FR i 1)) ∧ (Arr w gt 94 2 nt txT FT ∧ ∀ i, i < nt → WB lo hi w (FT i 0)) ∧
    Arr w gs 139 2 ns txS FS ∧ Arr w gl 143 4 nl txL FL ∧ (lo ≤ gr ∧ gr < hi) ∧ (lo ≤ gt ∧ gt < hi) ∧ (lo ≤ gs ∧ gs < hi) ∧ (lo ≤ gl ∧ gl < hi) ∧ nr ≤ 1048576 ∧ nt ≤ 1048576 ∧ ns ≤ 1048576 ∧ nl ≤ 1048576

theorem Shp.ext {lo hi : Nat} {w w' : World} {gr gt gs gl nr nt ns nl : Nat} (h : Shp lo hi w gr gt gs gl nr nt ns nl) (e : Ext w w') : Shp lo hi w' gr gt gs gl nr nt ns nl := by
  obtain ⟨FR, FT, FS, FL, ⟨a1, a2⟩, ⟨b1, b2⟩, c1, d1, r⟩ := h
  exact ⟨FR, FT, FS, FL, ⟨a1.ext e, fun i hi => ⟨(a2 i hi).1.grown e, (a2 i hi).2.grown e⟩⟩, ⟨b1.ext e, fun i hi => (b2 i hi).grown e⟩, c1.ext e, d1.ext e, r⟩

theorem shp_of {w : World} {base gr gt gs gl : Nat} {S : DState} (h : OSt w base gr gt gs gl S) (hl : LenSt S 1048576) : Shp base w.heap.size w gr gt gs gl S.rows.length S.tombs.length S.sess.length S.lasts.length := by
  obtain ⟨⟨b1, FR, r1, r2⟩, ⟨b2, FT, t1, t2⟩, ⟨b3, FS, s1, _⟩, ⟨b4, FL, l1, _⟩⟩ := h
  refine ⟨FR, FT, FS, FL, ⟨Arr.of r1, fun i hi => ?_⟩, ⟨Arr.of t1, fun i hi => ?_⟩, Arr.of s1, Arr.of l1, ⟨b1, blk_lt r1⟩, ⟨b2, blk_lt t1⟩, ⟨b3, blk_lt s1⟩, ⟨b4, blk_lt l1⟩, hl.rows, hl.tombs, hl.sess, hl.lasts⟩
  · obtain ⟨r, hr⟩ : ∃ r, S.rows[i]? = some r := ⟨_, List.getElem?_eq_getElem hi⟩
    obtain ⟨o1, o2, _, _⟩ := r2 i r hr
    exact ⟨WB.of o1 (by omega) (hl.row i r hr).1, WB.of o2 (by omega) (hl.row i r hr).2⟩
  · obtain ⟨r, hr⟩ : ∃ r, S.tombs[i]? = some r := ⟨_, List.getElem?_eq_getElem hi⟩
    exact WB.of (t2 i r hr).1 (by omega) (hl.tomb i r hr)

set_option maxHeartbeats 4000000 in
theorem markStM (lo hi gr gt gs gl nr nt ns nl : Nat) (x0 x3 : Value) (k : Int) (w : World) (h : Shp lo hi w gr gt gs gl nr nt ns nl) (hh : hi ≤ w.heap.size) (hk0 : 0 ≤ k) (hk : k ≤ 1073741824) :
    Calls Try.prog 14 #[.agg #[x0, .slice (some ⟨gr, 0, none⟩) nr nr, .slice (some ⟨gt, 0, none⟩) nt nt, x3, .slice (some ⟨gs, 0, none⟩) ns ns, .slice (some ⟨gl, 0, none⟩) nl nl], .int .i64 k] w fun e w' =>
      ∃ k' : Int, 0 ≤ k' ∧ k' ≤ 35184372088832 ∧ e = .returned (.int .i64 k') ∧ Mid lo hi w w' := by
  have hE : ∀ w : World, ∀ o, Ext w (w.alloc o) := fun w o => World.grownBy_alloc _ _ _
  go_enter Try.func14, Try.ntmps14
  go_wp2_with fail
  have P0 := heap_alloc_new w (.cells #[x0, .slice (some ⟨gr, 0, none⟩) nr nr, .slice (some ⟨gt, 0, none⟩) nt nt, x3, .slice (some ⟨gs, 0, none⟩) ns ns, .slice (some ⟨gl, 0, none⟩) nl nl] 37 (0, 0))
  have E0 := hE w (.cells #[x0, .slice (some ⟨gr, 0, none⟩) nr nr, .slice (some ⟨gt, 0, none⟩) nt nt, x3, .slice (some ⟨gs, 0, none⟩) ns ns, .slice (some ⟨gl, 0, none⟩) nl nl] 37 (0, 0))
  have z0 : w.heap.size < (w.alloc (.cells #[x0, .slice (some ⟨gr, 0, none⟩) nr nr, .slice (some ⟨gt, 0, none⟩) nt nt, x3, .slice (some ⟨gs, 0, none⟩) ns ns, .slice (some ⟨gl, 0, none⟩) nl nl] 37 (0, 0))).heap.size := by simp
  generalize w.alloc (.cells #[x0, .slice (some ⟨gr, 0, none⟩) nr nr, .slice (some ⟨gt, 0, none⟩) nt nt, x3, .slice (some ⟨gs, 0, none⟩) ns ns, .slice (some ⟨gl, 0, none⟩) nl nl] 37 (0, 0)) = W0 at P0 E0 z0 ⊢
  have HS : Hid (Shp lo hi W0 gr gt gs gl nr nt ns nl) := h.ext E0
  have HD : Hid (Mid lo hi w W0) := Mid.ext E0
  clear h E0
  obtain ⟨FR, FT, FS, FL, ⟨a1, a2⟩, ⟨b1, b2⟩, c1, d1, ⟨l1, l1'⟩, ⟨l2, l2'⟩, ⟨l3, l3'⟩, ⟨l4, l4'⟩, n1, n2, n3, n4⟩ := HS.out
  have neq : gr ≠ gt ∧ gr ≠ gs ∧ gr ≠ gl ∧ gt ≠ gs ∧ gt ≠ gl ∧ gs ≠ gl := by
    obtain ⟨u1, e1, _, _⟩ := a1
    obtain ⟨u2, e2, _, _⟩ := b1
    obtain ⟨u3, e3, _, _⟩ := c1
    obtain ⟨u4, e4, _, _⟩ := d1
    refine ⟨?_, ?_, ?_, ?_, ?_, ?_⟩
    · intro e; subst e; rw [e1] at e2; simp at e2
    · intro e; subst e; rw [e1] at e3; simp at e3
    · intro e; subst e; rw [e1] at e4; simp at e4
    · intro e; subst e; rw [e2] at e3; simp at e3
    · intro e; subst e; rw [e2] at e4; simp at e4
    · intro e; subst e; rw [e3] at e4; simp at e4
  have HNE : Hid (gr ≠ gt ∧ gr ≠ gs ∧ gr ≠ gl ∧ gt ≠ gs ∧ gt ≠ gl ∧ gs ≠ gl) := neq
  have HA : Hid (Arr W0 gr 92 4 nr txR FR ∧ ∀ i, i < nr → WB lo hi W0 (FR i 0) ∧ WB lo hi W0 (FR i 1)) := ⟨a1, a2⟩
  have HB : Hid (Arr W0 gt 94 2 nt txT FT ∧ ∀ i, i < nt → WB lo hi W0 (FT i 0)) := ⟨b1, b2⟩
  have HC : Hid (Arr W0 gs 139 2 ns txS FS) := c1
  have HDD : Hid (Arr W0 gl 143 4 nl txL FL) := d1
  clear HS a1 a2 b1 b2 c1 d1 neq
  refine (markRM lo hi gr nr FR k W0 HA.out.1 HA.out.2 l1 l1' n1 hk0 (by omega)).mono ?_
  rintro e W1 ⟨m1, hm1, rfl, M1⟩
  have P1 := (M1.out w.heap.size z0 (.inr hh)).trans P0
  have z1 := Nat.lt_of_lt_of_le z0 M1.size
  have HM1 : Hid (Mk lo hi (some gr) W0 W1) := M1
  clear M1 P0 z0
  obtain ⟨p2, _⟩ := at_block P1 2 _ rfl
  go_wp2_with fail
  refine (markTM lo hi gt nt FT _ W1 (HB.out.1.mk HM1.out (by decide) (by simp [Ne.symm HNE.out.1])) (fun i hi => (HB.out.2 i hi).mk HM1.out) l2 l2' n2 (by omega) (by omega)).mono ?_
  rintro e W2 ⟨m2, hm2, rfl, M2⟩
  have P2 := (M2.out w.heap.size z1 (.inr hh)).trans P1
  have z2 := Nat.lt_of_lt_of_le z1 M2.size
  have HM2 : Hid (Mk lo hi (some gt) W1 W2) := M2
  clear M2 P1 z1 p2
  obtain ⟨p4, _⟩ := at_block P2 4 _ rfl
  go_wp2_with fail
  refine (markSM lo hi gs ns FS _ W2 ((HC.out.mk HM1.out (by decide) (by simp [Ne.symm HNE.out.2.1])).mk HM2.out (by decide) (by simp [Ne.symm HNE.out.2.2.2.1])) (fun _ _ => trivial) l3 l3' n3 (by omega) (by omega)).mono ?_
  rintro e W3 ⟨m3, hm3, rfl, M3⟩
  have P3 := (M3.out w.heap.size z2 (.inr hh)).trans P2
  have z3 := Nat.lt_of_lt_of_le z2 M3.size
  have HM3 : Hid (Mk lo hi (some gs) W2 W3) := M3
  clear M3 P2 z2 p4
  obtain ⟨p5, _⟩ := at_block P3 5 _ rfl
  go_wp2_with fail
  refine (markLM lo hi gl nl FL _ W3 (((HDD.out.mk HM1.out (by decide) (by simp [Ne.symm HNE.out.2.2.1])).mk HM2.out (by decide) (by simp [Ne.symm HNE.out.2.2.2.2.1])).mk HM3.out (by decide) (by simp [Ne.symm HNE.out.2.2.2.2.2])) (fun _ _ => trivial) l4 l4' n4 (by omega) (by omega)).mono ?_
  rintro e W4 ⟨m4, hm4, rfl, M4⟩
  have HM4 : Hid (Mid lo hi w W4) := (((HD.out.tr HM1.out.mid).tr HM2.out.mid).tr HM3.out.mid).tr M4.mid
  clear M4 P3 z3 p5
  go_wp2
  go_ret
  exact ⟨_, by omega, by omega, rfl, HM4.out⟩

end Go.Proofs.Ytplgnohncdfgcal
