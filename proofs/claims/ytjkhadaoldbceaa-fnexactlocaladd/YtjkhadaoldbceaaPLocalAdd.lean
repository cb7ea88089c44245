
/- At every local and text the program's LocalAdd answers as the specification's, in memory of its own, its arguments as they were, without a condition. -/
import Derived.Test.YtjkhadaoldbceaaSvL
import Derived.Test.YtjkhadaoldbceaaInf
import Derived.Test.YtjkhadaoldbceaaBytes
import Derived.Lib.SliceRun
import Derived.Test.YtjkhadaoldbceaaVal0
import Derived.Test.YtjkhadaoldbceaaCk2
import Derived.Test.YtjkhadaoldbceaaOp2
import Derived.BigQuiet
import Derived.WalkMore
import Derived.Test.YtjkhadaoldbceaaTkF
import Derived.Test.YtjkhadaoldbceaaCsC
import Derived.Test.YtjkhadaoldbceaaSl0
import Derived.Test.YtjkhadaoldbceaaSvF
import Derived.Test.YtjkhadaoldbceaaRgS
import Derived.Deep.CutRange
import Derived.Test.YtjkhadaoldbceaaLo0
import Derived.Test.YtjkhadaoldbceaaCk0
import Derived.Lib.BytesEntry
import Derived.Lib.IndexLaws
import Derived.Test.YtjkhadaoldbceaaLo1
import Derived.Test.YtjkhadaoldbceaaSum0
import Derived.Test.YtjkhadaoldbceaaQB
import Derived.Test.YtjkhadaoldbceaaTkS
import Derived.Test.YtjkhadaoldbceaaSt0
import Derived.Test.YtjkhadaoldbceaaConv
import Derived.Test.YtjkhadaoldbceaaDlG
import Derived.Test.YtjkhadaoldbceaaOwP
import Derived.Test.YtjkhadaoldbceaaInSv
import Derived.Deep.RegionHeld3
import Derived.Deep.RegionLawGrows
import Derived.Test.YtjkhadaoldbceaaMark
import Derived.ProofKit
import Derived.OpenShut
import Derived.Lib.SmallJoins
import Derived.Deep.Slices
import Derived.Test.YtjkhadaoldbceaaLsK
import Derived.Test.YtjkhadaoldbceaaRows
import Derived.ChangeOld
import Derived.Carry
namespace Go.Proofs.Ytjkhadaoldbceaa
open Go.RowKit

theorem toLocV (v : Value) (d : DLoc) (w : World) (h : VLoc w v d) (hl : LenLo d) :
    Calls Try.prog 7 #[v] w fun e w' => ∃ a c b c', e = .returned (.agg #[.slice a d.node.length c, .slice b d.svcs.length c']) ∧ VLoc w' (.agg #[.slice a d.node.length c, .slice b d.svcs.length c']) d ∧ Below w.heap.size w w' := by
  have h0 := h
  obtain ⟨nv, cv, rfl, hn, hc⟩ := h0
  exact (toLoc _ d w h hl).mono fun e w' ⟨a, c, b, h1, h2, h3, h4⟩ => ⟨a, c, _, _, h1, oloc_v h2 h3 hl (rv_rngK hn) (rngSvs_of hc), h4⟩

end Go.Proofs.Ytjkhadaoldbceaa

namespace Go.Proofs.Ytjkhadaoldbceaa
open Go.RowKit

set_option maxHeartbeats 1000000 in
theorem clone (a : Option Addr) (n cap : Nat) (xs : List Int) (w : World) (hr : Rd w a n xs) (hn : n ≤ 2097152) :
    Calls Try.prog 32 #[.slice a n cap] w fun e w' => ∃ v, e = .returned v ∧ Ow w' w.heap.size v xs ∧ Below w.heap.size w w' := by
  have hnl := fun w => Lib.run_eql_slice_nil (P := Try.prog) w 22 5 a n cap 0 0 Try.underlying22
  cases a with
  | none =>
    have h0 : n = 0 := by
      rcases Nat.eq_zero_or_pos n with h | h
      · exact h
      · obtain ⟨b, o, e, _⟩ := hr.pos h
        cases e
    subst h0
    obtain rfl : xs = [] := List.eq_nil_of_length_eq_zero hr.len
    go_enter Try.func32, Try.ntmps32
    go_wp2
    go_ret
    exact ⟨_, rfl, World.ownsRow_nil _ _ _ _, Below.refl _ _⟩
  | some ad =>
    go_enter Try.func32, Try.ntmps32
    go_wp2_with (at_builtin; refine wpList_append_bytes _ rfl (.tmp 5) (.tmp 6) 22 rfl w.heap.size info5 Try.underlying22 _ [] rfl (ow_empty w) (some ad) n cap xs rfl (hr.grown (World.grownBy_alloc _ _ _)) (by simp; omega) (by simp) ?_; intro v1 w1 hown1 hg1)
    go_ret
    refine ⟨_, rfl, hown1, ?_⟩
    exact below_own ((Below.refl _ _).alloc (Nat.le_refl _) _) (by simp) (ow_empty w) hg1

end Go.Proofs.Ytjkhadaoldbceaa

namespace Go.Proofs.Ytjkhadaoldbceaa
open Go.RowKit

theorem cloneV (v : Value) (xs : List Int) (w : World) (h : RV w v xs) (hn : xs.length ≤ 2097152) : Calls Try.prog 32 #[v] w fun e w' => ∃ v', e = .returned v' ∧ Ow w' w.heap.size v' xs ∧ Below w.heap.size w w' := by
  obtain ⟨a, cap, rfl, hr, _, _⟩ := h
  exact clone a xs.length cap xs w hr hn

end Go.Proofs.Ytjkhadaoldbceaa

namespace Go.Proofs.Ytjkhadaoldbceaa
open Go.RowKit

set_option maxHeartbeats 2000000 in
theorem copyKV (v : Value) (P : DChk) (w : World) (h : VChk w v P) (hl : P.name.length ≤ 1048576) :
    Calls Try.prog 41 #[v] w fun e w' => ∃ tv, e = .returned (.agg #[tv, .int .i64 P.ttl, .int .i64 P.most, .int .i64 P.st, .int .i64 P.age, .int .i64 P.fails]) ∧ OwB w' w.heap.size tv P.name ∧ Below w.heap.size w w' := by
  obtain ⟨ov, rfl, ho⟩ := h
  obtain ⟨a, cap, rfl⟩ := rv_shape ho
  obtain ⟨n, hnn⟩ : ∃ n, n = P.name.length := ⟨_, rfl⟩
  have HV : Hid (RV w (.slice a n cap) P.name) := by rw [hnn]; exact ho
  have HN : Hid (n = P.name.length) := hnn
  rw [← hnn] at hl ⊢
  have HRG0 := rv_rngK ho
  clear ho hnn
  obtain ⟨os, nx, sd, st, wh, wt⟩ := P
  simp only at HV HN HRG0 ⊢
  have HRG : Hid (∀ x ∈ os, 0 ≤ x ∧ x ≤ 255) := HRG0
  clear HRG0
  go_enter Try.func41, Try.ntmps41
  go_upto_region 1 with fail
  generalize hW : World.alloc (World.alloc w _) _ = W
  have XW : Ext w W := by rw [← hW]; exact Ext.tr (World.grownBy_alloc w _ none) (World.grownBy_alloc _ _ none)
  have P0 : W.heap[w.heap.size]? = some (.cells #[.slice a n cap, .int .i64 nx, .int .i64 sd, .int .i64 st, .int .i64 wh, .int .i64 wt] 43 (0, 0)) := by rw [← hW, Below.heap_alloc _ _ _ (by simp)]; exact heap_alloc_new w _
  have P1 : W.heap[w.heap.size + 1]? = some (.cells #[.slice none 0 0, .int .i64 0, .int .i64 0, .int .i64 0, .int .i64 0, .int .i64 0] 43 (0, 0)) := by rw [← hW]; simpa using heap_alloc_new (World.alloc w _) (.cells #[.slice none 0 0, .int .i64 0, .int .i64 0, .int .i64 0, .int .i64 0, .int .i64 0] 43 (0, 0))
  have sW : w.heap.size + 1 < W.heap.size := (Array.getElem?_eq_some_iff.1 P1).1
  clear hW
  have HP : Hid (W.heap[w.heap.size]? = some (.cells #[.slice a n cap, .int .i64 nx, .int .i64 sd, .int .i64 st, .int .i64 wh, .int .i64 wt] 43 (0, 0)) ∧ W.heap[w.heap.size + 1]? = some (.cells #[.slice none 0 0, .int .i64 0, .int .i64 0, .int .i64 0, .int .i64 0, .int .i64 0] 43 (0, 0))) := ⟨P0, P1⟩
  obtain ⟨x0, f0⟩ := at_block P0 0 _ rfl
  clear P0 P1
  go_wp2_with fail
  refine (cloneV _ os W (HV.out.ext XW) (by have := HN.out; omega)).mono ?_
  rintro e w1 ⟨v1, rfl, O1a, b1⟩
  have O1 : OwB w1 W.heap.size v1 os := ⟨O1a, HRG.out⟩
  clear O1a
  obtain ⟨a1, c1, hv1⟩ : ∃ a1 c1, v1 = .slice a1 n c1 := (by have := O1.shape; rw [← HN.out] at this; exact this)
  subst hv1
  have X1 : Ext W w1 := ext_below b1
  obtain ⟨z0, y0⟩ := at_block (ext_blk X1 HP.out.1) 0 _ rfl
  clear x0 f0 b1
  go_upto_region 2 with fail
  have Q0 : (w1.setCell ⟨w.heap.size, 0, none⟩ (.slice a1 n c1)).heap[w.heap.size]? = some (.cells #[.slice a1 n c1, .int .i64 nx, .int .i64 sd, .int .i64 st, .int .i64 wh, .int .i64 wt] 43 (0, 0)) := set_block (ext_blk X1 HP.out.1) 0 _
  have Q1 : (w1.setCell ⟨w.heap.size, 0, none⟩ (.slice a1 n c1)).heap[w.heap.size + 1]? = some (.cells #[.slice none 0 0, .int .i64 0, .int .i64 0, .int .i64 0, .int .i64 0, .int .i64 0] 43 (0, 0)) := set_other _ _ _ (by omega) (ext_blk X1 HP.out.2)
  have nb : ∀ b, b < W.heap.size → (Value.slice a1 n c1).ownBlock = none ∨ (Value.slice a1 n c1).ownBlock ≠ some b := fun b hb => by
    cases hv : (Value.slice a1 n c1).ownBlock with
    | none => exact .inl rfl
    | some k => exact .inr (by have := (O1.lt k hv).1; simp; omega)
  have OO : OwB (w1.setCell ⟨w.heap.size, 0, none⟩ (.slice a1 n c1)) W.heap.size (.slice a1 n c1) os := O1.keep (set_grown _ _ _ _) (nb _ (by omega))
  have BB : Below w.heap.size w (w1.setCell ⟨w.heap.size, 0, none⟩ (.slice a1 n c1)) := (ext_bel (XW.tr X1)).setCell (Nat.le_refl _) _
  have hsW : w.heap.size ≤ W.heap.size := by omega
  have NB := nb (w.heap.size + 1) (by omega)
  generalize w1.setCell ⟨w.heap.size, 0, none⟩ (.slice a1 n c1) = U at Q0 Q1 OO BB ⊢
  have HOO : Hid (OwB U W.heap.size (.slice a1 n c1) os) := OO
  have HBB : Hid (Below w.heap.size w U) := BB
  clear z0 y0 X1 O1 nb OO BB
  obtain ⟨p0, p1, p2, p3, p4, p5⟩ := cells6 Q0
  obtain ⟨r0, f0⟩ := at_block Q1 0 _ rfl
  obtain ⟨r1, f1⟩ := at_block Q1 1 _ rfl
  obtain ⟨r2, f2⟩ := at_block Q1 2 _ rfl
  obtain ⟨r3, f3⟩ := at_block Q1 3 _ rfl
  obtain ⟨r4, f4⟩ := at_block Q1 4 _ rfl
  obtain ⟨r5, f5⟩ := at_block Q1 5 _ rfl
  clear Q0 Q1
  go_wp2
  refine bodyPost_ret (v := .agg #[.slice a1 n c1, .int .i64 nx, .int .i64 sd, .int .i64 st, .int .i64 wh, .int .i64 wt]) (by simp [results, Try.results41, go_sem, *]) rfl ?_
  exact ⟨_, rfl, (chk_own HOO.out NB _ _ _ _ _ _).base hsW, chk_below HBB.out (Nat.le_succ _) _ _ _ _ _ _⟩

set_option maxHeartbeats 2000000 in
theorem isOverV (v : Value) (C : DChk) (w : World) (h : VChk w v C) :
    Calls Try.prog 62 #[v] w fun e w' => e = .returned (.bool (decide (0 < C.ttl) && decide (C.ttl ≤ C.age))) ∧ Below w.heap.size w w' := by
  have hB : ∀ w : World, ∀ o, Below w.heap.size w (w.alloc o) := fun w o => (Below.refl _ w).alloc (Nat.le_refl _) _
  obtain ⟨ov, rfl, ho⟩ := h
  obtain ⟨os, t, m, s, a, f⟩ := C
  simp only
  have HM : ∀ b : Bool, b = (decide (0 < t) && decide (t ≤ a)) → (e : Ending) → e = .returned (.bool b) → e = Ending.returned (.bool (decide (0 < t) && decide (t ≤ a))) := fun b hb e he => by rw [he, hb]
  clear ho
  go_enter Try.func62, Try.ntmps62
  by_cases h1 : 0 < t
  · by_cases h2 : t ≤ a
    · go_wp2
      go_ret
      exact ⟨HM true (by simp [h1, h2]) _ rfl, hB _ _⟩
    · go_wp2
      go_ret
      exact ⟨HM false (by simp [h2]) _ rfl, hB _ _⟩
  · go_wp2
    go_ret
    exact ⟨HM false (by simp; omega) _ rfl, hB _ _⟩

end Go.Proofs.Ytjkhadaoldbceaa

namespace Go.Proofs.Ytjkhadaoldbceaa
open Go.RowKit

/-- It lies within. -/
def inB (n lo hi : Int) : Bool := decide (lo ≤ n) && decide (n ≤ hi)

set_option maxHeartbeats 1000000 in
theorem withinV (n lo hi : Int) (w : World) : Calls Try.prog 61 #[.int .i64 n, .int .i64 lo, .int .i64 hi] w fun e w' => e = .returned (.bool (inB n lo hi)) ∧ w' = w := by
  by_cases h0 : lo ≤ n
  · by_cases h1 : n ≤ hi
    · have HK : Hid (inB n lo hi = true) := by unfold Hid inB; simp [h0, h1]
      go_enter Try.func61, Try.ntmps61
      go_wp2
      go_ret
      exact ⟨by rw [HK.out]; rfl, rfl⟩
    · have HK : Hid (inB n lo hi = false) := by unfold Hid inB; simp [h1]
      have h1' : decide (n ≤ hi) = false := decide_eq_false h1
      go_enter Try.func61, Try.ntmps61
      go_wp2
      go_ret
      exact ⟨by rw [HK.out]; rfl, rfl⟩
  · have HK : Hid (inB n lo hi = false) := by unfold Hid inB; simp [h0]
    have h0' : decide (lo ≤ n) = false := decide_eq_false h0
    go_enter Try.func61, Try.ntmps61
    go_wp2
    go_ret
    exact ⟨by rw [HK.out]; rfl, rfl⟩

end Go.Proofs.Ytjkhadaoldbceaa

namespace Go.Proofs.Ytjkhadaoldbceaa
open Go.RowKit

set_option maxHeartbeats 1000000 in
theorem keyOkB (a : Option Addr) (n cap : Nat) (xs : List Int) (w : World) (hr : Rd w a n xs) (hn : n ≤ 9223372036854775807) :
    Calls Try.prog 60 #[.slice a n cap] w fun e w' => e = .returned (.bool (keyB xs)) ∧ w' = w := by
  have hl := hr.len
  by_cases h1 : inB n 1 20 = false
  · have HK : Hid (keyB xs = false) := by unfold Hid keyB; unfold inB at h1; simp at h1 ⊢; omega
    go_enter Try.func60, Try.ntmps60
    go_wp2_with (go_at_call 61; refine (withinV _ _ _ _).mono ?_; rintro e w1 ⟨rfl, rfl⟩; try rw [h1])
    go_ret
    exact ⟨by rw [HK.out]; rfl, rfl⟩
  have h1 : inB n 1 20 = true := by simpa using h1
  have h2 : 1 ≤ n ∧ n ≤ 20 := by unfold inB at h1; simp at h1; omega
  obtain ⟨b, o, rfl, _, hc⟩ := hr.pos (by omega)
  have HC : Hid (∀ i, i < n → w.cell? ⟨b, o + i, none⟩ = some (.int .u8 (xs.getD i 0))) := hc
  clear hc
  go_enter Try.func60, Try.ntmps60
  go_wp2_with (go_at_call 61; refine (withinV _ _ _ _).mono ?_; rintro e w1 ⟨rfl, rfl⟩; try rw [h1])
  go_loop [11] (fun i => ∃ k : Nat, k ≤ n ∧ i = .int .i64 k ∧ Hid (∀ j, j < k → keyC (xs.getD j 0) = true)) (fun i => n - (intOf i).toNat)
  case atStart => exact ⟨0, Nat.zero_le _, rfl, fun j hj => absurd hj (by omega)⟩
  case round =>
    obtain ⟨k, hk, rfl, hall⟩ := hrel
    by_cases hlt : k < n
    · have hck := HC.out k hlt
      have HN : Hid (keyC (xs.getD k 0) = true → ∀ j, j < k + 1 → keyC (xs.getD j 0) = true) := fun h j hj => by
        by_cases e : j = k
        · subst e; exact h
        · exact hall.out j (by omega)
      have HF : Hid (keyC (xs.getD k 0) = false → keyB xs = false) := fun h => by
        unfold keyB; rw [not_all (by omega) h]; simp
      generalize xs.getD k 0 = c at hck HN HF
      clear HC hall
      have hlt' : (k : Int) < (n : Int) := by omega
      by_cases hz : c = 47
      · subst hz
        have HN' := HN.out (by decide)
        have HN2 : Hid (∀ j, j < k + 1 → keyC (xs.getD j 0) = true) := HN'
        clear HN HF HN'
        go_wp2
        go_round
        case rel => exact ⟨k + 1, by omega, by go_num, HN2⟩
        case measure => simp [intOf]; omega
      · have hz' : (c != 47) = true := by simpa using hz
        by_cases h97 : c < 97
        · have HF2 : Hid (keyB xs = false) := HF.out (by unfold keyC; simp; omega)
          clear HN HF
          go_wp2
          go_ret
          exact ⟨by rw [HF2.out]; rfl, rfl⟩
        · by_cases h122 : 122 < c
          · have HF2 : Hid (keyB xs = false) := HF.out (by unfold keyC; simp; omega)
            clear HN HF
            go_wp2
            go_ret
            exact ⟨by rw [HF2.out]; rfl, rfl⟩
          · have HN2 : Hid (∀ j, j < k + 1 → keyC (xs.getD j 0) = true) := HN.out (by unfold keyC; simp; omega)
            clear HN HF
            go_wp2
            go_round
            case rel => exact ⟨k + 1, by omega, by go_num, HN2⟩
            case measure => simp [intOf]; omega
    · have hkn : k = n := by omega
      subst hkn
      have HK : Hid (keyB xs = true) := by
        unfold Hid keyB
        rw [all_get (fun j hj => hall.out j (by omega))]
        simp
        omega
      go_wp2
      go_ret
      exact ⟨by rw [HK.out]; rfl, rfl⟩

theorem keyOkV (v : Value) (xs : List Int) (w : World) (h : RV w v xs) : Calls Try.prog 60 #[v] w fun e w' => e = .returned (.bool (keyB xs)) ∧ w' = w := by
  obtain ⟨a, cap, rfl, hr, h1, h2⟩ := h
  exact keyOkB a xs.length cap xs w hr (by unfold maxLen at h2; omega)

end Go.Proofs.Ytjkhadaoldbceaa

namespace Go.Proofs.Ytjkhadaoldbceaa
open Go.RowKit

theorem chkB_in (os : List Int) (t m s a f : Int) : chkB ⟨os, t, m, s, a, f⟩ = (keyB os && (inB t 0 1000 && (inB a 0 1000 && (inB m 1 5 && (inB s 0 2 && (inB f 0 m && ((decide (s = 2) || !(decide (0 < t) && decide (t ≤ a))) && (!decide (s = 0) || decide (f = 0))))))))) := by
  unfold chkB inB
  generalize keyB os = kb
  rw [Bool.eq_iff_iff]
  simp only [Bool.and_eq_true, Bool.or_eq_true, Bool.not_eq_true', Bool.and_eq_false_iff, decide_eq_true_eq, decide_eq_false_iff_not, Bool.not_eq_false']
  cases kb
  · simp
  · simp only [true_and]
    omega

set_option maxRecDepth 20000 in
set_option maxHeartbeats 4000000 in
theorem iCheckOkV (v : Value) (C : DChk) (w : World) (h : VChk w v C) :
    Calls Try.prog 39 #[v] w fun e w' => e = .returned (.bool (chkB C)) ∧ Below w.heap.size w w' := by
  have hE : ∀ w : World, ∀ o, Ext w (w.alloc o) := fun w o => World.grownBy_alloc _ _ _
  have hB : ∀ w : World, ∀ o, Below w.heap.size w (w.alloc o) := fun w o => (Below.refl _ w).alloc (Nat.le_refl _) _
  obtain ⟨ov, rfl, ho⟩ := h
  obtain ⟨os, t, m, s, a, f⟩ := C
  have HM : Hid (chkB ⟨os, t, m, s, a, f⟩ = (keyB os && (inB t 0 1000 && (inB a 0 1000 && (inB m 1 5 && (inB s 0 2 && (inB f 0 m && ((decide (s = 2) || !(decide (0 < t) && decide (t ≤ a))) && (!decide (s = 0) || decide (f = 0)))))))))) := chkB_in _ _ _ _ _ _
  generalize chkB ⟨os, t, m, s, a, f⟩ = mb at HM ⊢
  simp only at ho ⊢
  go_enter Try.func39, Try.ntmps39
  cases h0 : keyB os
  · have HK : Hid (mb = false) := by show _ = _; rw [HM.out, h0]; simp
    clear HM
    go_wp2_with (first | (go_at_call 60; refine (keyOkV ov os _ (ho.ext (hE _ _))).mono ?_; rintro e w1 ⟨rfl, rfl⟩; rw [h0]) | (go_at_call 61; refine (withinV _ _ _ _).mono ?_; rintro e w1 ⟨rfl, rfl⟩; first | skip))
    go_ret
    exact ⟨by rw [HK.out]; rfl, hB _ _⟩
  cases h1 : inB t 0 1000
  · have HK : Hid (mb = false) := by show _ = _; rw [HM.out, h0, h1]; simp
    clear HM
    go_wp2_with (first | (go_at_call 60; refine (keyOkV ov os _ (ho.ext (hE _ _))).mono ?_; rintro e w1 ⟨rfl, rfl⟩; rw [h0]) | (go_at_call 61; refine (withinV _ _ _ _).mono ?_; rintro e w1 ⟨rfl, rfl⟩; first | rw [h1]))
    go_ret
    exact ⟨by rw [HK.out]; rfl, hB _ _⟩
  cases h2 : inB a 0 1000
  · have HK : Hid (mb = false) := by show _ = _; rw [HM.out, h0, h1, h2]; simp
    clear HM
    go_wp2_with (first | (go_at_call 60; refine (keyOkV ov os _ (ho.ext (hE _ _))).mono ?_; rintro e w1 ⟨rfl, rfl⟩; rw [h0]) | (go_at_call 61; refine (withinV _ _ _ _).mono ?_; rintro e w1 ⟨rfl, rfl⟩; first | rw [h1] | rw [h2]))
    go_ret
    exact ⟨by rw [HK.out]; rfl, hB _ _⟩
  cases h3 : inB m 1 5
  · have HK : Hid (mb = false) := by show _ = _; rw [HM.out, h0, h1, h2, h3]; simp
    clear HM
    go_wp2_with (first | (go_at_call 60; refine (keyOkV ov os _ (ho.ext (hE _ _))).mono ?_; rintro e w1 ⟨rfl, rfl⟩; rw [h0]) | (go_at_call 61; refine (withinV _ _ _ _).mono ?_; rintro e w1 ⟨rfl, rfl⟩; first | rw [h1] | rw [h2] | rw [h3]))
    go_ret
    exact ⟨by rw [HK.out]; rfl, hB _ _⟩
  cases h4 : inB s 0 2
  · have HK : Hid (mb = false) := by show _ = _; rw [HM.out, h0, h1, h2, h3, h4]; simp
    clear HM
    go_wp2_with (first | (go_at_call 60; refine (keyOkV ov os _ (ho.ext (hE _ _))).mono ?_; rintro e w1 ⟨rfl, rfl⟩; rw [h0]) | (go_at_call 61; refine (withinV _ _ _ _).mono ?_; rintro e w1 ⟨rfl, rfl⟩; first | rw [h1] | rw [h2] | rw [h3] | rw [h4]))
    go_ret
    exact ⟨by rw [HK.out]; rfl, hB _ _⟩
  cases h5 : inB f 0 m
  · have HK : Hid (mb = false) := by show _ = _; rw [HM.out, h0, h1, h2, h3, h4, h5]; simp
    clear HM
    go_wp2_with (first | (go_at_call 60; refine (keyOkV ov os _ (ho.ext (hE _ _))).mono ?_; rintro e w1 ⟨rfl, rfl⟩; rw [h0]) | (go_at_call 61; refine (withinV _ _ _ _).mono ?_; rintro e w1 ⟨rfl, rfl⟩; first | rw [h1] | rw [h2] | rw [h3] | rw [h4] | rw [h5]))
    go_ret
    exact ⟨by rw [HK.out]; rfl, hB _ _⟩
  have HK : Hid (mb = ((decide (s = 2) || !(decide (0 < t) && decide (t ≤ a))) && (!decide (s = 0) || decide (f = 0)))) := by show _ = _; rw [HM.out, h0, h1, h2, h3, h4, h5]; simp
  clear HM
  by_cases e2 : s = 2
  · subst e2
    have HK2 : Hid (mb = true) := by show _ = _; rw [HK.out]; simp
    clear HK
    go_wp2_with (first | (go_at_call 60; refine (keyOkV ov os _ (ho.ext (hE _ _))).mono ?_; rintro e w1 ⟨rfl, rfl⟩; rw [h0]) | (go_at_call 61; refine (withinV _ _ _ _).mono ?_; rintro e w1 ⟨rfl, rfl⟩; first | rw [h1] | rw [h2] | rw [h3] | rw [h4] | rw [h5]))
    go_ret
    exact ⟨by rw [HK2.out]; rfl, hB _ _⟩
  have HOV : Hid (∀ b : Bool, b = (decide (0 < t) && decide (t ≤ a)) → mb = (!b && (!decide (s = 0) || decide (f = 0)))) := fun b hb => by rw [HK.out, hb, decide_eq_false e2]; simp
  clear HK
  obtain ⟨b, hb⟩ : ∃ b, (decide (0 < t) && decide (t ≤ a)) = b := ⟨_, rfl⟩
  have HK := hideR (HOV.out b hb.symm)
  have hb2 : (@decide (0 < (⟨os, t, m, s, a, f⟩ : DChk).ttl) _ && @decide ((⟨os, t, m, s, a, f⟩ : DChk).ttl ≤ (⟨os, t, m, s, a, f⟩ : DChk).age) _) = b := hb
  have e2q : (s == 2) = false := by simpa using e2
  clear HOV hb
  cases b
  · by_cases e0 : s = 0
    · have ss0 : (s != 0) = false := by simp [e0]
      by_cases f0 : f = 0
      · have HK2 : Hid (mb = true) := by show _ = _; rw [HK.out]; simp [f0]
        have ff0 : (f == 0) = true := by simpa using f0
        clear HK e0 f0
        go_wp2_with (first | (go_at_call 60; refine (keyOkV ov os _ (ho.ext (hE _ _))).mono ?_; rintro e w1 ⟨rfl, rfl⟩; rw [h0]) | (go_at_call 61; refine (withinV _ _ _ _).mono ?_; rintro e w1 ⟨rfl, rfl⟩; first | rw [h1] | rw [h2] | rw [h3] | rw [h4] | rw [h5]) | (go_at_call 62; refine (isOverV _ ⟨os, t, m, s, a, f⟩ _ ⟨_, rfl, ho.ext (hE _ _)⟩).mono ?_; rintro e w2 ⟨rfl, b2⟩; rw [hb2]; obtain ⟨p0, p1, p2, p3, p4, p5⟩ := cells6 (ext_blk (ext_below b2) (heap_alloc_new w _))))
        go_ret
        exact ⟨by rw [HK2.out]; rfl, (hB w _).trans (b2.mono (by simp))⟩
      · have HK2 : Hid (mb = false) := by show _ = _; rw [HK.out]; simp [e0, f0]
        clear HK e0
        have ff0 : (f == 0) = false := by simpa using f0
        go_wp2_with (first | (go_at_call 60; refine (keyOkV ov os _ (ho.ext (hE _ _))).mono ?_; rintro e w1 ⟨rfl, rfl⟩; rw [h0]) | (go_at_call 61; refine (withinV _ _ _ _).mono ?_; rintro e w1 ⟨rfl, rfl⟩; first | rw [h1] | rw [h2] | rw [h3] | rw [h4] | rw [h5]) | (go_at_call 62; refine (isOverV _ ⟨os, t, m, s, a, f⟩ _ ⟨_, rfl, ho.ext (hE _ _)⟩).mono ?_; rintro e w2 ⟨rfl, b2⟩; rw [hb2]; obtain ⟨p0, p1, p2, p3, p4, p5⟩ := cells6 (ext_blk (ext_below b2) (heap_alloc_new w _))))
        go_ret
        exact ⟨by rw [HK2.out]; rfl, (hB w _).trans (b2.mono (by simp))⟩
    · have HK2 : Hid (mb = true) := by show _ = _; rw [HK.out]; simp [e0]
      clear HK
      have ss0 : (s != 0) = true := by simpa using e0
      go_wp2_with (first | (go_at_call 60; refine (keyOkV ov os _ (ho.ext (hE _ _))).mono ?_; rintro e w1 ⟨rfl, rfl⟩; rw [h0]) | (go_at_call 61; refine (withinV _ _ _ _).mono ?_; rintro e w1 ⟨rfl, rfl⟩; first | rw [h1] | rw [h2] | rw [h3] | rw [h4] | rw [h5]) | (go_at_call 62; refine (isOverV _ ⟨os, t, m, s, a, f⟩ _ ⟨_, rfl, ho.ext (hE _ _)⟩).mono ?_; rintro e w2 ⟨rfl, b2⟩; rw [hb2]; obtain ⟨p0, p1, p2, p3, p4, p5⟩ := cells6 (ext_blk (ext_below b2) (heap_alloc_new w _))))
      go_ret
      exact ⟨by rw [HK2.out]; rfl, (hB w _).trans (b2.mono (by simp))⟩
  · have HK2 : Hid (mb = false) := by show _ = _; rw [HK.out]; rfl
    clear HK
    go_wp2_with (first | (go_at_call 60; refine (keyOkV ov os _ (ho.ext (hE _ _))).mono ?_; rintro e w1 ⟨rfl, rfl⟩; rw [h0]) | (go_at_call 61; refine (withinV _ _ _ _).mono ?_; rintro e w1 ⟨rfl, rfl⟩; first | rw [h1] | rw [h2] | rw [h3] | rw [h4] | rw [h5]) | (go_at_call 62; refine (isOverV _ ⟨os, t, m, s, a, f⟩ _ ⟨_, rfl, ho.ext (hE _ _)⟩).mono ?_; rintro e w2 ⟨rfl, b2⟩; rw [hb2]; obtain ⟨p0, p1, p2, p3, p4, p5⟩ := cells6 (ext_blk (ext_below b2) (heap_alloc_new w _))))
    go_ret
    exact ⟨by rw [HK2.out]; rfl, (hB w _).trans (b2.mono (by simp))⟩

end Go.Proofs.Ytjkhadaoldbceaa

namespace Go.Proofs.Ytjkhadaoldbceaa
open Go.RowKit

theorem chk_other {w : World} {b k : Nat} {o : Obj} (hk : k ≠ b) (h : w.heap[k]? = some o) (v0 v1 v2 v3 v4 v5 : Value) : ((((((w.setCell ⟨b, 0, none⟩ v0).setCell ⟨b, 1, none⟩ v1).setCell ⟨b, 2, none⟩ v2).setCell ⟨b, 3, none⟩ v3).setCell ⟨b, 4, none⟩ v4).setCell ⟨b, 5, none⟩ v5).heap[k]? = some o := set_other _ _ _ hk (set_other _ _ _ hk (set_other _ _ _ hk (set_other _ _ _ hk (set_other _ _ _ hk (set_other _ _ _ hk h)))))

theorem ChB.ext {w w' : World} {g base : Nat} {C : DChk} {tv : Value} (h : ChB g base C tv w) (e : Ext w w') : ChB g base C tv w' := ⟨ext_blk e h.1, h.2.ext e⟩
theorem Ext.any {w w' : World} (e : Ext w w') (r : Option Nat) : w.grownBy w' r := ⟨e.os, e.tape, e.output, e.size, fun k hk _ => e.block k hk (by simp)⟩

end Go.Proofs.Ytjkhadaoldbceaa

namespace Go.Proofs.Ytjkhadaoldbceaa
open Go.RowKit

set_option maxRecDepth 20000

end Go.Proofs.Ytjkhadaoldbceaa

namespace Go.Proofs.Ytjkhadaoldbceaa
open Go.RowKit

/-- The first j checks are ticked. -/
def tkC (n : Int) (cs : List DChk) (j : Nat) : List DChk := cs.mapIdx fun b c => if b < j then (tickD c n).1 else c
theorem tkC_len (n : Int) (cs : List DChk) (j : Nat) : (tkC n cs j).length = cs.length := by unfold tkC; simp
theorem tkC_get {n : Int} {cs : List DChk} {j : Nat} {c : DChk} (h : cs[j]? = some c) : (tkC n cs j)[j]? = some c := by
  unfold tkC
  rw [List.getElem?_mapIdx, h]
  simp
theorem tkC_zero (n : Int) (cs : List DChk) : tkC n cs 0 = cs := by
  apply List.ext_getElem?
  intro b
  unfold tkC
  rw [List.getElem?_mapIdx]
  cases cs[b]? <;> simp
theorem tkC_all (n : Int) (cs : List DChk) : tkC n cs cs.length = cs.map (fun c => (tickD c n).1) := by
  apply List.ext_getElem?
  intro b
  unfold tkC
  rw [List.getElem?_mapIdx, List.getElem?_map]
  cases hb : cs[b]? with
  | none => rfl
  | some c =>
    have := (List.getElem?_eq_some_iff.1 hb).1
    simp [this]
theorem tkC_set {n : Int} {cs : List DChk} {j : Nat} {c : DChk} (h : cs[j]? = some c) : (tkC n cs j).set j (tickD c n).1 = tkC n cs (j + 1) := by
  apply List.ext_getElem?
  intro b
  have hj := (List.getElem?_eq_some_iff.1 h).1
  by_cases eb : b = j
  · subst eb
    rw [List.getElem?_set_self (by rw [tkC_len]; exact hj)]
    unfold tkC
    rw [List.getElem?_mapIdx, h]
    simp
  · rw [List.getElem?_set_ne (Ne.symm eb)]
    unfold tkC
    rw [List.getElem?_mapIdx, List.getElem?_mapIdx]
    cases cs[b]? with
    | none => rfl
    | some d =>
      simp only [Option.map_some]
      by_cases e4 : b < j
      · rw [if_pos e4, if_pos (by omega)]
      · rw [if_neg e4, if_neg (by omega)]
/-- One check of a row: its cells; and what a new one in its place leaves. -/
theorem chk_put {S : Nat → Prop} {w : World} {cv : Value} {cs : List DChk} (h : OW 43 6 ownC S w cv cs) {j : Nat} {c : DChk} (hc : cs[j]? = some c) :
    ∃ g cap F na nc, cv = .slice (some ⟨g, 0, none⟩) cs.length cap ∧ S g ∧ (j < cs.length ∧ cs.length ≤ cap ∧ cap ≤ maxLen) ∧ Blk w g 43 6 cap cs.length F ∧ F j 0 = .slice na c.name.length nc ∧ RV w (.slice na c.name.length nc) c.name ∧ (F j 1 = .int .i64 c.ttl ∧ F j 2 = .int .i64 c.most ∧ F j 3 = .int .i64 c.st ∧ F j 4 = .int .i64 c.age ∧ F j 5 = .int .i64 c.fails) ∧
      ∀ (c' : DChk) (w' : World) (nv : Value) (M R : Nat → Prop), Blk w' g 43 6 cap cs.length (updR F j (elC nv c')) → OwS M w' nv c'.name → (∀ b, M b → b ≠ g ∧ R b) → (∀ b, R b → ¬ S b) → Trn (fun b => b = g) w w' → OW 43 6 ownC (fun b => S b ∨ R b) w' cv (cs.set j c') := by
  have hj := (List.getElem?_eq_some_iff.1 hc).1
  rcases h.cases with ⟨_, _, _, _, h0⟩ | ⟨g, cap, F, N, hv, hB⟩
  · rw [h0] at hj; simp at hj
  obtain ⟨o0, o1⟩ := hB.own j c hc
  obtain ⟨na, nc, e0⟩ := rv_shape o0.rv
  refine ⟨g, cap, F, na, nc, hv, hB.at_, ⟨hj, hB.le, hB.mx⟩, hB.blk, e0, by rw [← e0]; exact o0.rv, o1, fun c' w' nv M R hb ho hM hR t => ?_⟩
  have p1 := hB.put (G := elC nv c') (M := M) (R := R) (x := c') keepsC hj hb ⟨ho, rfl, rfl, rfl, rfl, rfl⟩ (fun b hb => ⟨(hM b hb).1, .inr (hM b hb).2⟩) hR (t.mono (fun b e => .inl e))
  have p2 := p1.ow
  rw [List.length_set] at p2
  rw [hv]
  exact p2
theorem tickPD_ok {c : DChk} {n : Int} (h : chkB c = true) (h0 : 0 ≤ n) : tickPD c n = tickD c n := by
  unfold tickPD
  rw [h, decide_eq_true h0]
  rfl
theorem tickD_name (c : DChk) (n : Int) : (tickD c n).1.name = c.name := by unfold tickD; split; rfl; split <;> rfl

end Go.Proofs.Ytjkhadaoldbceaa

namespace Go.Proofs.Ytjkhadaoldbceaa
open Go.RowKit

set_option maxRecDepth 20000 in
set_option maxHeartbeats 4000000 in
theorem copySvcV (v : Value) (d : DSvc) (w : World) (h : VSvc w v d) (hl : LenSv d) :
    Calls Try.prog 52 #[v] w fun e w' => ∃ nv cv mid, e = .returned (.agg #[nv, cv]) ∧ OwS (Rg w.heap.size mid) w' nv d.name ∧ OKD (Rg mid w'.heap.size) w' cv d.checks ∧ (w.heap.size ≤ mid ∧ mid ≤ w'.heap.size) ∧ Below w.heap.size w w' := by
  have hE : ∀ w : World, ∀ o, Ext w (w.alloc o) := fun w o => World.grownBy_alloc _ _ _
  obtain ⟨nv, cv, rfl, hn, hc⟩ := h
  have hrn := rv_rngK hn
  have HL := hidL hl
  obtain ⟨na, nc, rfl⟩ := rv_shape hn
  obtain ⟨ca, cc, rfl⟩ := chks_shape hc
  obtain ⟨nn, hnn⟩ : ∃ nn, nn = d.name.length := ⟨_, rfl⟩
  obtain ⟨n, hnl⟩ : ∃ n, n = d.checks.length := ⟨_, rfl⟩
  have HNL := hidL hnl
  have HNN := hidL hnn
  rw [← hnn] at hn ⊢
  rw [← hnl] at hc ⊢
  have hn1 : (n : Int) ≤ 1048576 := by have := hl.2.1; omega
  have hnn2 : nn ≤ 1048576 := by have := hl.1; omega
  have HV : Hid (RV w (.slice na nn nc) d.name) := hn
  have HC0 := hidL hc
  clear hnl hnn hn hc hl
  go_enter Try.func52, Try.ntmps52
  go_wp2_with fail
  have PA := al2a w (.cells #[.slice na nn nc, .slice ca n cc] 54 (0, 0)) (.cells #[.slice none 0 0, .slice none 0 0] 54 (0, 0))
  have PR := al2b w (.cells #[.slice na nn nc, .slice ca n cc] 54 (0, 0)) (.cells #[.slice none 0 0, .slice none 0 0] 54 (0, 0))
  have BW : Below w.heap.size w ((w.alloc (.cells #[.slice na nn nc, .slice ca n cc] 54 (0, 0))).alloc (.cells #[.slice none 0 0, .slice none 0 0] 54 (0, 0))) := ((Below.refl _ w).alloc (Nat.le_refl _) _).alloc (by simp) _
  have SW : ((w.alloc (.cells #[.slice na nn nc, .slice ca n cc] 54 (0, 0))).alloc (.cells #[.slice none 0 0, .slice none 0 0] 54 (0, 0))).heap.size = w.heap.size + 2 := by simp
  generalize (w.alloc (.cells #[.slice na nn nc, .slice ca n cc] 54 (0, 0))).alloc (.cells #[.slice none 0 0, .slice none 0 0] 54 (0, 0)) = W at PA PR BW SW ⊢
  refine (cloneV (.slice na nn nc) d.name W (HV.out.ext (ext_below BW)) (by have := HNN.out; omega)).mono ?_
  rintro e w1 ⟨v1, rfl, o1, b1⟩
  obtain ⟨a1, c1, rfl⟩ := rv_shape (Ow.rv o1 hrn)
  rw [← HNN.out]
  rw [← HNN.out] at o1
  have B1 := hidL (BW.trans (b1.mono BW.size))
  have S1 : W.heap.size ≤ w1.heap.size := b1.size
  have PA1 := below_blk b1 (by omega) PA
  have PR1 := below_blk b1 (by omega) PR
  have O1 : Hid (OwS (Rg w.heap.size w1.heap.size) w1 (.slice a1 nn c1) d.name) := ows_of o1 hrn (by omega)
  have NB1 : (Value.slice a1 nn c1).ownBlock = none ∨ (Value.slice a1 nn c1).ownBlock ≠ some w.heap.size := by
    cases hv : (Value.slice a1 nn c1).ownBlock with
    | none => exact .inl rfl
    | some k => exact .inr (by have := (World.ownsRow.lt o1 k hv).1; simp; omega)
  obtain ⟨x0, f0⟩ := at_block PA1 0 _ rfl
  obtain ⟨x1, f1⟩ := at_block PA1 1 _ rfl
  have HST : Hid (∀ u : Value, (w1.setCell ⟨w.heap.size, 0, none⟩ u).heap[w.heap.size]? = some (.cells #[u, .slice ca n cc] 54 (0, 0)) ∧ (w1.setCell ⟨w.heap.size, 0, none⟩ u).heap[w.heap.size + 1]? = some (.cells #[.slice none 0 0, .slice none 0 0] 54 (0, 0))) := fun u => ⟨by simpa using set_block PA1 0 u, set_other w.heap.size 0 u (by omega) PR1⟩
  clear PA PR PA1 PR1 b1 o1 BW
  go_upto_region 2 with fail
  have HS2 := HST.out (.slice a1 nn c1)
  have BS : Hid (Below w.heap.size w (w1.setCell ⟨w.heap.size, 0, none⟩ (.slice a1 nn c1))) := B1.out.setCell (Nat.le_refl _) _
  have OS : Hid (OwS (Rg w.heap.size w1.heap.size) (w1.setCell ⟨w.heap.size, 0, none⟩ (.slice a1 nn c1)) (.slice a1 nn c1) d.name) := ⟨⟨World.ownsRow.kept O1.out.1.1 (set_grown _ _ _ _) NB1, hrn⟩, O1.out.2⟩
  have SS : (w1.setCell ⟨w.heap.size, 0, none⟩ (.slice a1 nn c1)).heap.size = w1.heap.size := by simp
  generalize w1.setCell ⟨w.heap.size, 0, none⟩ (.slice a1 nn c1) = w2 at HS2 BS OS SS ⊢
  obtain ⟨PA2, PR2⟩ := HS2
  clear x0 x1 f0 f1 HST B1 O1
  obtain ⟨x0, f0⟩ := at_block PA2 0 _ rfl
  obtain ⟨x1, f1⟩ := at_block PA2 1 _ rfl
  go_wp2_with fail
  refine (cloneKs w (.slice ca n cc) d.checks w2 HC0.out (ext_below BS.out) HL.out.2.1).mono ?_
  rintro e w3 ⟨v3, C, rfl, hr3, b3, hC3⟩
  rw [← HNL.out] at hr3
  have HC := hidL hC3
  have SZ3 := b3.size
  have PA3 := below_blk b3 (Array.getElem?_eq_some_iff.1 PA2).1 PA2
  have PR3 := below_blk b3 (Array.getElem?_eq_some_iff.1 PR2).1 PR2
  have B3 := hidL (BS.out.trans (b3.mono BS.out.size))
  have O3 := hidL (OS.out.ext (ext_below b3))
  obtain ⟨mid, hmid⟩ : ∃ mid, mid = w1.heap.size := ⟨_, rfl⟩
  rw [← hmid] at O3 S1 SS
  have HSM : Hid (w.heap.size + 2 ≤ mid ∧ mid = w2.heap.size) := ⟨by omega, by omega⟩
  clear hmid OS BS x0 x1 f0 f1 hC3
  obtain ⟨a3, c3, hv3⟩ := hr3.shape
  obtain ⟨x0, f0⟩ := at_block PA3 0 _ rfl
  obtain ⟨x1, f1⟩ := at_block PA3 1 _ rfl
  have NBR : ∀ b, v3.ownBlock = some b → w2.heap.size ≤ b ∧ b < w3.heap.size := fun b hb => World.ownsRow.lt hr3 b hb
  have HR4 : Hid (Row w2.heap.size 43 6 (w3.setCell ⟨w.heap.size, 1, none⟩ (.slice a3 n c3)) (.slice a3 n c3) n C) := by
    have := hr3.kept (set_grown w3 w.heap.size 1 (.slice a3 n c3)) (by
      cases hvb : v3.ownBlock with
      | none => exact .inl rfl
      | some k => exact .inr (by have := NBR k hvb; have := HSM.out; simp; omega))
    rw [hv3] at this
    exact this
  have PA4 := hidL (show (w3.setCell ⟨w.heap.size, 1, none⟩ (.slice a3 n c3)).heap[w.heap.size]? = some (.cells #[.slice a1 nn c1, .slice a3 n c3] 54 (0, 0)) by simpa using set_block PA3 1 (.slice a3 n c3))
  have PR4 := hidL (set_other w.heap.size 1 (.slice a3 n c3) (show w.heap.size + 1 ≠ w.heap.size by omega) PR3)
  have B4 : Hid (Below w.heap.size w (w3.setCell ⟨w.heap.size, 1, none⟩ (.slice a3 n c3))) := B3.out.setCell (Nat.le_refl _) _
  have O4 : Hid (OwS (Rg w.heap.size mid) (w3.setCell ⟨w.heap.size, 1, none⟩ (.slice a3 n c3)) (.slice a1 nn c1) d.name) := ⟨⟨World.ownsRow.kept O3.out.1.1 (set_grown _ _ _ _) NB1, hrn⟩, O3.out.2⟩
  have SZ4 : (w3.setCell ⟨w.heap.size, 1, none⟩ (.slice a3 n c3)).heap.size = w3.heap.size := by simp
  rw [hv3]
  clear hr3 NBR hv3 PA3 PR3 B3 O3 b3 PA2 PR2
  go_upto_region 3 with fail
  generalize w3.setCell ⟨w.heap.size, 1, none⟩ (.slice a3 n c3) = w4 at HR4 PA4 PR4 B4 O4 SZ4 ⊢
  clear x0 x1 f0 f1
  have HFIN : Hid (∀ W, Below w.heap.size w W → OwS (Rg w.heap.size mid) W (.slice a1 nn c1) d.name → W.heap[w.heap.size + 1]? = some (.cells #[.slice none 0 0, .slice none 0 0] 54 (0, 0)) → mid ≤ W.heap.size → OW 43 6 ownC (fun b => mid ≤ b ∧ b < W.heap.size) W (.slice a3 n c3) d.checks →
      ∃ nv cv mid', (Ending.returned (.agg #[.slice a1 nn c1, .slice a3 n c3]) : Ending) = .returned (.agg #[nv, cv]) ∧ OwS (Rg w.heap.size mid') ((W.setCell ⟨w.heap.size + 1, 0, none⟩ (.slice a1 nn c1)).setCell ⟨w.heap.size + 1, 1, none⟩ (.slice a3 n c3)) nv d.name ∧ OKD (Rg mid' ((W.setCell ⟨w.heap.size + 1, 0, none⟩ (.slice a1 nn c1)).setCell ⟨w.heap.size + 1, 1, none⟩ (.slice a3 n c3)).heap.size) ((W.setCell ⟨w.heap.size + 1, 0, none⟩ (.slice a1 nn c1)).setCell ⟨w.heap.size + 1, 1, none⟩ (.slice a3 n c3)) cv d.checks ∧ (w.heap.size ≤ mid' ∧ mid' ≤ ((W.setCell ⟨w.heap.size + 1, 0, none⟩ (.slice a1 nn c1)).setCell ⟨w.heap.size + 1, 1, none⟩ (.slice a3 n c3)).heap.size) ∧ Below w.heap.size w ((W.setCell ⟨w.heap.size + 1, 0, none⟩ (.slice a1 nn c1)).setCell ⟨w.heap.size + 1, 1, none⟩ (.slice a3 n c3))) := fun W hb ho hp hm hw => by
    have t : Trn (fun b => b = w.heap.size + 1) W ((W.setCell ⟨w.heap.size + 1, 0, none⟩ (.slice a1 nn c1)).setCell ⟨w.heap.size + 1, 1, none⟩ (.slice a3 n c3)) := (Trn.set (fun b => b = w.heap.size + 1) _ _ _ _ rfl).trans (Trn.set (fun b => b = w.heap.size + 1) _ _ _ _ rfl)
    have hsz : ((W.setCell ⟨w.heap.size + 1, 0, none⟩ (.slice a1 nn c1)).setCell ⟨w.heap.size + 1, 1, none⟩ (.slice a3 n c3)).heap.size = W.heap.size := by simp
    have hne : (Value.slice a1 nn c1).ownBlock ≠ some (w.heap.size + 1) := ho.ne hp (by decide)
    refine ⟨_, _, mid, rfl, ⟨⟨?_, hrn⟩, ho.2⟩, ?_, ⟨by have := HSM.out; omega, by omega⟩, (hb.setCell (Nat.le_succ _) _).setCell (Nat.le_succ _) _⟩
    · exact World.ownsRow.kept (World.ownsRow.kept ho.1.1 (set_grown _ _ _ _) (.inr hne)) (set_grown _ _ _ _) (.inr hne)
    · have h5 := hw.keep keepsC t (fun b hb e => by have := HSM.out; omega)
      rw [← hsz] at h5
      exact okd_iff.2 h5
  rcases HR4.out.blk with ⟨e1, e2⟩ | ⟨g, cap, e1, hg, hcap, hmax, hB⟩
  · cases e1
    have HW := hidL (HFIN.out w4 B4.out O4.out PR4.out (by have := HSM.out; omega) (.inl ⟨none, 0, rfl, ⟨rfl, rfl⟩, List.eq_nil_of_length_eq_zero HNL.out.symm⟩))
    obtain ⟨x0, f0⟩ := at_block PA4.out 0 _ rfl
    obtain ⟨x1, f1⟩ := at_block PA4.out 1 _ rfl
    obtain ⟨r0, k0⟩ := at_block PR4.out 0 _ rfl
    obtain ⟨r1, k1⟩ := at_block PR4.out 1 _ rfl
    go_wp2
    refine wp_loop_rounds 1 ?_
    rw [rounds_succ]
    go_wp2
    refine bodyPost_ret (v := .agg #[.slice a1 nn c1, .slice none 0 0]) (by simp [results, Try.results52, go_sem, *]) rfl ?_
    exact HW.out
  · cases e1
    have HG : Hid (mid ≤ g ∧ g < w4.heap.size ∧ n ≤ c3 ∧ c3 ≤ maxLen) := ⟨by have := HSM.out; omega, blk_lt hB, hcap, hmax⟩
    have hcap63 : c3 ≤ 9223372036854775807 := by unfold maxLen at hmax; omega
    have HB4 := hidL hB
    obtain ⟨x0, f0⟩ := at_block PA4.out 0 _ rfl
    obtain ⟨x1, f1⟩ := at_block PA4.out 1 _ rfl
    clear hg hB
    go_wp2
    go_loopw [16] (fun i wr => ∃ j : Nat, j ≤ n ∧ i = .int .i64 j ∧ ∃ (F : Nat → Nat → Value) (N : Nat → Nat → Prop), Hid (Blk wr g 43 6 c3 n F) ∧ Hid (PO ownC mid g wr d.checks j F N) ∧ Hid (∀ i, j ≤ i → i < n → ∀ c, c < 6 → F i c = C i c) ∧ Hid (Trn (fun b => b = g) w4 wr)) (fun i _ => n - (intOf i).toNat)
    case atStart => exact ⟨0, Nat.zero_le _, rfl, C, _, HB4.out, PO.start _ _ _ _ _ _, fun _ _ _ _ _ => rfl, Trn.refl _ _⟩
    case round =>
      obtain ⟨j, hj, rfl, F, N, HB, HPO, HRAW, HT⟩ := hrel
      have HSZ : Hid (w4.heap.size ≤ wr.heap.size) := HT.out.size
      have PAr := hidL ((HT.out.block _ (Array.getElem?_eq_some_iff.1 PA4.out).1 (by have := HSM.out; have := HG.out; omega)).trans PA4.out)
      have PRr := hidL ((HT.out.block _ (Array.getElem?_eq_some_iff.1 PR4.out).1 (by have := HSM.out; have := HG.out; omega)).trans PR4.out)
      clear x0 x1 f0 f1
      obtain ⟨x0, f0⟩ := at_block PAr.out 0 _ rfl
      obtain ⟨x1, f1⟩ := at_block PAr.out 1 _ rfl
      by_cases hjl : j < n
      · have hjl' : (j : Int) < (n : Int) := by omega
        obtain ⟨x, hx⟩ : ∃ x, d.checks[j]? = some x := ⟨_, List.getElem?_eq_getElem (by have := HNL.out; omega)⟩
        have HX := hidL hx
        have HBC : Hid (∀ c, c < 6 → wr.cell? ⟨g, j * 6 + c, none⟩ = some (F j c)) := fun c hc => by
          obtain ⟨cur, h1, _, h3⟩ := HB.out
          rw [cell_of_row wr g _ cur _ (0, 0) h1]
          exact h3 j hjl c hc
        obtain ⟨e0, e1, e2, e3, e4, e5⟩ := HC.out j x hx
        have HLX := hidL (HL.out.2.2 j x hx)
        clear hx
        obtain ⟨ma, mc, hmv⟩ := rv_shape e0
        obtain ⟨mn, hmn⟩ : ∃ mn, mn = x.name.length := ⟨_, rfl⟩
        rw [← hmn] at hmv
        have HMN := hidL hmn
        rw [hmv] at e0
        have HE0 := hidL e0
        clear hmn
        have cc0 := HBC.out 0 (by omega)
        rw [Nat.add_zero, HRAW.out j (Nat.le_refl _) hjl 0 (by omega), hmv] at cc0
        have cc1 := HBC.out 1 (by omega)
        rw [HRAW.out j (Nat.le_refl _) hjl 1 (by omega), e1] at cc1
        have cc2 := HBC.out 2 (by omega)
        rw [HRAW.out j (Nat.le_refl _) hjl 2 (by omega), e2] at cc2
        have cc3 := HBC.out 3 (by omega)
        rw [HRAW.out j (Nat.le_refl _) hjl 3 (by omega), e3] at cc3
        have cc4 := HBC.out 4 (by omega)
        rw [HRAW.out j (Nat.le_refl _) hjl 4 (by omega), e4] at cc4
        have cc5 := HBC.out 5 (by omega)
        rw [HRAW.out j (Nat.le_refl _) hjl 5 (by omega), e5] at cc5
        clear e0 e1 e2 e3 e4 e5
        go_upto_region 6 with fail
        generalize hU : World.alloc wr _ = U
        have XU : Ext wr U := by rw [← hU]; exact hE _ _
        have PU : U.heap[wr.heap.size]? = some (.cells #[.slice ma mn mc, .int .i64 x.ttl, .int .i64 x.most, .int .i64 x.st, .int .i64 x.age, .int .i64 x.fails] 43 (0, 0)) := by rw [← hU]; exact heap_alloc_new wr _
        clear hU
        have hgw : g ≠ w.heap.size := by have := HSM.out; have := HG.out; omega
        have hgu : g ≠ wr.heap.size := by have := HSZ.out; have := HG.out; omega
        have z1 := fun p => tw_cell (S := fun b => b = g) (World.grownBy.cell XU x1 (by simp)) (fun e => hgw e.symm) p
        have y0 := fun p => tw_cell (S := fun b => b = g) (at_block PU 0 _ rfl).1 (fun e => by omega) p
        have y1 := fun p => tw_cell (S := fun b => b = g) (at_block PU 1 _ rfl).1 (fun e => by omega) p
        have y2 := fun p => tw_cell (S := fun b => b = g) (at_block PU 2 _ rfl).1 (fun e => by omega) p
        have y3 := fun p => tw_cell (S := fun b => b = g) (at_block PU 3 _ rfl).1 (fun e => by omega) p
        have y4 := fun p => tw_cell (S := fun b => b = g) (at_block PU 4 _ rfl).1 (fun e => by omega) p
        have y5 := fun p => tw_cell (S := fun b => b = g) (at_block PU 5 _ rfl).1 (fun e => by omega) p
        have nonV := tw_ne (fun b => b = g) U
        have HBU : Hid (Blk U g 43 6 c3 n F) := blk_kept HB.out (XU.block g (blk_lt HB.out) (by simp))
        have HXU := hidL XU
        have HTU : Hid (Trn (fun b => b = g) w4 U) := HT.out.trans (Trn.ext XU)
        have HCALL : Hid (∀ V, Trn (fun b => b = g) U V → Calls Try.prog 41 #[.agg #[.slice ma mn mc, .int .i64 x.ttl, .int .i64 x.most, .int .i64 x.st, .int .i64 x.age, .int .i64 x.fails]] V fun e w' => ∃ ta tc, e = .returned (.agg #[.slice ta mn tc, .int .i64 x.ttl, .int .i64 x.most, .int .i64 x.st, .int .i64 x.age, .int .i64 x.fails]) ∧ OwS (Rg V.heap.size w'.heap.size) w' (.slice ta mn tc) x.name ∧ Below V.heap.size V w') := fun V t => by
          have bV : Below w.heap.size w V := Trn.below (Trn.below B4.out HTU.out (by have := HSM.out; omega) (fun b e => by have := HSM.out; have := HG.out; omega)) t (by have := HSM.out; have := HTU.out.size; omega) (fun b e => by have := HSM.out; have := HG.out; omega)
          refine (copyKV _ x V ⟨_, rfl, HE0.out.ext (ext_below bV)⟩ HLX.out).mono ?_
          rintro e w' ⟨tv, rfl, ho, hb⟩
          obtain ⟨ta, tc, rfl⟩ := rv_shape ho.rv
          rw [← HMN.out] at ho ⊢
          exact ⟨ta, tc, rfl, ows_of ho.1 ho.2 (Nat.le_refl _), hb⟩
        clear x0 x1 f0 f1 XU cc0 cc1 cc2 cc3 cc4 cc5 HBC PU
        have hgb : j * 6 + 6 ≤ c3 * 6 := by
          have := HG.out
          have h1 : (j + 1) * 6 ≤ c3 * 6 := Nat.mul_le_mul_right 6 (by omega)
          omega
        have hidx : (j : Int) < (n : Int) := hjl'
        refine wp_region_seg (S := fun w' => ∃ p : TW (fun b => b = g) U, w' = p.u) (by kernel_rfl) (tw_drew _ U) (fun hHeld => ?_)
        refine wpAnyH_seg 0 4 3 (by kernel_rfl) (by kernel_rfl) (by kernel_rfl) (by kernel_rfl) (fun _ _ _ _ _ h => h) hHeld ?_
        simp only [List.drop_zero, List.take_succ_cons, List.take_zero]
        repeat (go_big_quiet_step (fail))
        refine wpQuiet_nil ?_
        refine wpAnyH_one 4 2 (by kernel_rfl) (by kernel_rfl) rfl (fun K hK => ?_)
        go_simp
        go_at_call 41
        refine (HCALL.out _ (Trn.ext (ext_drewN U 1))).mono ?_
        rintro e w5 ⟨ta, tc, rfl, o5, b5⟩
        have BX : Ext U w5 := (ext_drewN U 1).tr (ext_below b5)
        dsimp only
        refine hK.out _ _ ⟨⟨w5, BX.os, BX.size, fun k hk _ => BX.block k hk (by simp)⟩, rfl⟩ (fun hHeld => ?_)
        clear hK K
        try simp only [Act.put, List.setIfInBounds_toArray, List.set_cons_zero, List.set_cons_succ]
        refine wpAnyH_seg 5 1 1 (by kernel_rfl) (by kernel_rfl) (by kernel_rfl) (by kernel_rfl) (fun _ _ _ _ _ h => h) hHeld ?_
        simp only [List.drop_succ_cons, List.drop_zero, List.take_succ_cons, List.take_zero]
        repeat (go_big_quiet_step (fail))
        refine wpQuiet_nil ?_
        have HB5 := blk_kept HBU.out (BX.block g (blk_lt HBU.out) (by simp))
        obtain ⟨⟨u0, d0⟩, f0⟩ := blk_cell HB5 (j * 6) (by omega)
        obtain ⟨⟨u1, d1⟩, f1⟩ := blk_cell HB5 (j * 6 + 1) (by omega)
        obtain ⟨⟨u2, d2⟩, f2⟩ := blk_cell HB5 (j * 6 + 2) (by omega)
        obtain ⟨⟨u3, d3⟩, f3⟩ := blk_cell HB5 (j * 6 + 3) (by omega)
        obtain ⟨⟨u4, d4⟩, f4⟩ := blk_cell HB5 (j * 6 + 4) (by omega)
        obtain ⟨⟨u5, d5⟩, f5⟩ := blk_cell HB5 (j * 6 + 5) (by omega)
        have HX5 := hidL BX
        have HPN : Hid (PO ownC mid g ((((((w5.setCell ⟨g, j * 6, none⟩ (.slice ta mn tc)).setCell ⟨g, j * 6 + 1, none⟩ (.int .i64 x.ttl)).setCell ⟨g, j * 6 + 2, none⟩ (.int .i64 x.most)).setCell ⟨g, j * 6 + 3, none⟩ (.int .i64 x.st)).setCell ⟨g, j * 6 + 4, none⟩ (.int .i64 x.age)).setCell ⟨g, j * 6 + 5, none⟩ (.int .i64 x.fails)) d.checks (j + 1) (fun i => if i = j then (fun c => if c = 0 then (.slice ta mn tc) else if c = 1 then (.int .i64 x.ttl) else if c = 2 then (.int .i64 x.most) else if c = 3 then (.int .i64 x.st) else if c = 4 then (.int .i64 x.age) else (.int .i64 x.fails)) else F i) (fun i => if i = j then (fun b => U.heap.size ≤ b ∧ b < w5.heap.size) else N i)) :=
          (HPO.out.ext keepsC HXU.out).next keepsC BX HX.out ⟨o5, rfl, rfl, rfl, rfl, rfl⟩ (fun b h => h) (by have := HSM.out; have := HTU.out.size; omega) (blk_lt HBU.out) (((((((Trn.refl (fun b => b = g) w5).trans (Trn.set (fun b => b = g) _ _ _ _ rfl)).trans (Trn.set (fun b => b = g) _ _ _ _ rfl)).trans (Trn.set (fun b => b = g) _ _ _ _ rfl)).trans (Trn.set (fun b => b = g) _ _ _ _ rfl)).trans (Trn.set (fun b => b = g) _ _ _ _ rfl)).trans (Trn.set (fun b => b = g) _ _ _ _ rfl))
        have HBN : Hid (Blk ((((((w5.setCell ⟨g, j * 6, none⟩ (.slice ta mn tc)).setCell ⟨g, j * 6 + 1, none⟩ (.int .i64 x.ttl)).setCell ⟨g, j * 6 + 2, none⟩ (.int .i64 x.most)).setCell ⟨g, j * 6 + 3, none⟩ (.int .i64 x.st)).setCell ⟨g, j * 6 + 4, none⟩ (.int .i64 x.age)).setCell ⟨g, j * 6 + 5, none⟩ (.int .i64 x.fails)) g 43 6 c3 n (fun i => if i = j then (fun c => if c = 0 then (.slice ta mn tc) else if c = 1 then (.int .i64 x.ttl) else if c = 2 then (.int .i64 x.most) else if c = 3 then (.int .i64 x.st) else if c = 4 then (.int .i64 x.age) else (.int .i64 x.fails)) else F i)) := by
          obtain ⟨cur, q1, q2, q3⟩ := (blk_put (blk_put (blk_put (blk_put (blk_put (blk_put HB5 j 0 (by omega) (by omega) (.slice ta mn tc)) j 1 (by omega) (by omega) (.int .i64 x.ttl)) j 2 (by omega) (by omega) (.int .i64 x.most)) j 3 (by omega) (by omega) (.int .i64 x.st)) j 4 (by omega) (by omega) (.int .i64 x.age)) j 5 (by omega) (by omega) (.int .i64 x.fails))
          refine ⟨cur, q1, q2, fun i hi c hc => ?_⟩
          rw [q3 i hi c hc]
          by_cases e : i = j
          · subst e
            obtain rfl | rfl | rfl | rfl | rfl | rfl : c = 0 ∨ c = 1 ∨ c = 2 ∨ c = 3 ∨ c = 4 ∨ c = 5 := by omega
            all_goals simp [updK]
          · simp [updK, e]
        have HTN : Hid (Trn (fun b => b = g) w4 ((((((w5.setCell ⟨g, j * 6, none⟩ (.slice ta mn tc)).setCell ⟨g, j * 6 + 1, none⟩ (.int .i64 x.ttl)).setCell ⟨g, j * 6 + 2, none⟩ (.int .i64 x.most)).setCell ⟨g, j * 6 + 3, none⟩ (.int .i64 x.st)).setCell ⟨g, j * 6 + 4, none⟩ (.int .i64 x.age)).setCell ⟨g, j * 6 + 5, none⟩ (.int .i64 x.fails))) := (HTU.out.trans (Trn.ext BX)).trans (((((((Trn.refl (fun b => b = g) w5).trans (Trn.set (fun b => b = g) _ _ _ _ rfl)).trans (Trn.set (fun b => b = g) _ _ _ _ rfl)).trans (Trn.set (fun b => b = g) _ _ _ _ rfl)).trans (Trn.set (fun b => b = g) _ _ _ _ rfl)).trans (Trn.set (fun b => b = g) _ _ _ _ rfl)).trans (Trn.set (fun b => b = g) _ _ _ _ rfl))
        clear HB5 BX b5
        refine wpAnyH_one 6 0 (by kernel_rfl) (by kernel_rfl) rfl (fun K hK => ?_)
        go_simp
        refine hK.out _ _ ⟨⟨((((((w5.setCell ⟨g, j * 6, none⟩ (.slice ta mn tc)).setCell ⟨g, j * 6 + 1, none⟩ (.int .i64 x.ttl)).setCell ⟨g, j * 6 + 2, none⟩ (.int .i64 x.most)).setCell ⟨g, j * 6 + 3, none⟩ (.int .i64 x.st)).setCell ⟨g, j * 6 + 4, none⟩ (.int .i64 x.age)).setCell ⟨g, j * 6 + 5, none⟩ (.int .i64 x.fails)), (HTN.out.os.trans HTU.out.os.symm), (by simpa using HX5.out.size), fun k hk hn => ((((((((((Trn.refl (fun b => b = g) w5).trans (Trn.set (fun b => b = g) _ _ _ _ rfl)).trans (Trn.set (fun b => b = g) _ _ _ _ rfl)).trans (Trn.set (fun b => b = g) _ _ _ _ rfl)).trans (Trn.set (fun b => b = g) _ _ _ _ rfl)).trans (Trn.set (fun b => b = g) _ _ _ _ rfl)).trans (Trn.set (fun b => b = g) _ _ _ _ rfl)) : Trn (fun b => b = g) w5 _).block k (Nat.lt_of_lt_of_le hk HX5.out.size) hn).trans (HX5.out.block k hk (by simp)))⟩, rfl⟩ (fun hHeld => ?_)
        clear hK K
        try simp only [Act.put, List.setIfInBounds_toArray, List.set_cons_zero, List.set_cons_succ]
        refine wpAnyH_endN (by kernel_rfl) ?_
        have HRN : Hid (∀ i, j + 1 ≤ i → i < n → ∀ c, c < 6 → (fun i => if i = j then (fun c => if c = 0 then (.slice ta mn tc) else if c = 1 then (.int .i64 x.ttl) else if c = 2 then (.int .i64 x.most) else if c = 3 then (.int .i64 x.st) else if c = 4 then (.int .i64 x.age) else (.int .i64 x.fails)) else F i) i c = C i c) := fun i hi hn c hc => by
          show (if i = j then _ else F i) c = _
          rw [if_neg (by omega)]
          exact HRAW.out i (by omega) hn c hc
        clear nonV z1 y0 y1 y2 y3 y4 y5 d0 f0 d1 f1 d2 f2 d3 f3 d4 f4 d5 f5 HCALL
        go_wp2
        go_roundw
        case rel => exact ⟨j + 1, by omega, by go_num, _, _, HBN, HPN, HRN, HTN⟩
        case measure => simp [intOf]; omega
      · have hjn : j = n := by omega
        subst hjn
        have hbw : Below w.heap.size w wr := Trn.below B4.out HT.out (by have := HSM.out; omega) (fun b e => by have := HSM.out; have := HG.out; omega)
        have HPD := HPO.out
        rw [HNL.out] at HPD
        have HBD := HB.out
        rw [HNL.out] at HBD
        have HOW := HPD.done (T := 43) (K := 6) HG.out.1 HBD (by have := HG.out; have := HNL.out; omega) HG.out.2.2.2
        rw [← HNL.out] at HOW
        have HW := hidL (HFIN.out wr hbw (O4.out.keep HT.out (fun b hb e => by have := HG.out; have := hb.2; omega)) PRr.out (by have := HSM.out; have := HSZ.out; omega) HOW)
        obtain ⟨r0, k0⟩ := at_block PRr.out 0 _ rfl
        obtain ⟨r1, k1⟩ := at_block PRr.out 1 _ rfl
        clear HPD HBD HOW
        go_wp2
        refine bodyPost_ret (v := .agg #[.slice a1 nn c1, .slice (some ⟨g, 0, none⟩) j c3]) (by simp [results, Try.results52, go_sem, *]) rfl ?_
        exact HW.out

end Go.Proofs.Ytjkhadaoldbceaa

namespace Go.Proofs.Ytjkhadaoldbceaa
open Go.RowKit

set_option maxRecDepth 20000 in
set_option maxHeartbeats 4000000 in
theorem copyLocV (v : Value) (d : DLoc) (w : World) (h : VLoc w v d) (hl : LenLo d) :
    Calls Try.prog 29 #[v] w fun e w' => ∃ nv cv mid, e = .returned (.agg #[nv, cv]) ∧ OwS (Rg w.heap.size mid) w' nv d.node ∧ OSD (Rg mid w'.heap.size) w' cv d.svcs ∧ (w.heap.size ≤ mid ∧ mid ≤ w'.heap.size) ∧ Below w.heap.size w w' := by
  have hE : ∀ w : World, ∀ o, Ext w (w.alloc o) := fun w o => World.grownBy_alloc _ _ _
  obtain ⟨nv, cv, rfl, hn, hc⟩ := h
  have hrn := rv_rngK hn
  have HL := hidL hl
  obtain ⟨na, nc, rfl⟩ := rv_shape hn
  obtain ⟨ca, cc, rfl⟩ := svcs_shape hc
  obtain ⟨nn, hnn⟩ : ∃ nn, nn = d.node.length := ⟨_, rfl⟩
  obtain ⟨n, hnl⟩ : ∃ n, n = d.svcs.length := ⟨_, rfl⟩
  have HNL := hidL hnl
  have HNN := hidL hnn
  rw [← hnn] at hn ⊢
  rw [← hnl] at hc ⊢
  have hn1 : (n : Int) ≤ 1048576 := by have := hl.2.1; omega
  have hnn2 : nn ≤ 1048576 := by have := hl.1; omega
  have HV : Hid (RV w (.slice na nn nc) d.node) := hn
  have HC0 := hidL hc
  clear hnl hnn hn hc hl
  go_enter Try.func29, Try.ntmps29
  go_wp2_with fail
  have PA := al2a w (.cells #[.slice na nn nc, .slice ca n cc] 29 (0, 0)) (.cells #[.slice none 0 0, .slice none 0 0] 29 (0, 0))
  have PR := al2b w (.cells #[.slice na nn nc, .slice ca n cc] 29 (0, 0)) (.cells #[.slice none 0 0, .slice none 0 0] 29 (0, 0))
  have BW : Below w.heap.size w ((w.alloc (.cells #[.slice na nn nc, .slice ca n cc] 29 (0, 0))).alloc (.cells #[.slice none 0 0, .slice none 0 0] 29 (0, 0))) := ((Below.refl _ w).alloc (Nat.le_refl _) _).alloc (by simp) _
  have SW : ((w.alloc (.cells #[.slice na nn nc, .slice ca n cc] 29 (0, 0))).alloc (.cells #[.slice none 0 0, .slice none 0 0] 29 (0, 0))).heap.size = w.heap.size + 2 := by simp
  generalize (w.alloc (.cells #[.slice na nn nc, .slice ca n cc] 29 (0, 0))).alloc (.cells #[.slice none 0 0, .slice none 0 0] 29 (0, 0)) = W at PA PR BW SW ⊢
  refine (cloneV (.slice na nn nc) d.node W (HV.out.ext (ext_below BW)) (by have := HNN.out; omega)).mono ?_
  rintro e w1 ⟨v1, rfl, o1, b1⟩
  obtain ⟨a1, c1, rfl⟩ := rv_shape (Ow.rv o1 hrn)
  rw [← HNN.out]
  rw [← HNN.out] at o1
  have B1 := hidL (BW.trans (b1.mono BW.size))
  have S1 : W.heap.size ≤ w1.heap.size := b1.size
  have PA1 := below_blk b1 (by omega) PA
  have PR1 := below_blk b1 (by omega) PR
  have O1 : Hid (OwS (Rg w.heap.size w1.heap.size) w1 (.slice a1 nn c1) d.node) := ows_of o1 hrn (by omega)
  have NB1 : (Value.slice a1 nn c1).ownBlock = none ∨ (Value.slice a1 nn c1).ownBlock ≠ some w.heap.size := by
    cases hv : (Value.slice a1 nn c1).ownBlock with
    | none => exact .inl rfl
    | some k => exact .inr (by have := (World.ownsRow.lt o1 k hv).1; simp; omega)
  obtain ⟨x0, f0⟩ := at_block PA1 0 _ rfl
  obtain ⟨x1, f1⟩ := at_block PA1 1 _ rfl
  have HST : Hid (∀ u : Value, (w1.setCell ⟨w.heap.size, 0, none⟩ u).heap[w.heap.size]? = some (.cells #[u, .slice ca n cc] 29 (0, 0)) ∧ (w1.setCell ⟨w.heap.size, 0, none⟩ u).heap[w.heap.size + 1]? = some (.cells #[.slice none 0 0, .slice none 0 0] 29 (0, 0))) := fun u => ⟨by simpa using set_block PA1 0 u, set_other w.heap.size 0 u (by omega) PR1⟩
  clear PA PR PA1 PR1 b1 o1 BW
  go_upto_region 2 with fail
  have HS2 := HST.out (.slice a1 nn c1)
  have BS : Hid (Below w.heap.size w (w1.setCell ⟨w.heap.size, 0, none⟩ (.slice a1 nn c1))) := B1.out.setCell (Nat.le_refl _) _
  have OS : Hid (OwS (Rg w.heap.size w1.heap.size) (w1.setCell ⟨w.heap.size, 0, none⟩ (.slice a1 nn c1)) (.slice a1 nn c1) d.node) := ⟨⟨World.ownsRow.kept O1.out.1.1 (set_grown _ _ _ _) NB1, hrn⟩, O1.out.2⟩
  have SS : (w1.setCell ⟨w.heap.size, 0, none⟩ (.slice a1 nn c1)).heap.size = w1.heap.size := by simp
  generalize w1.setCell ⟨w.heap.size, 0, none⟩ (.slice a1 nn c1) = w2 at HS2 BS OS SS ⊢
  obtain ⟨PA2, PR2⟩ := HS2
  clear x0 x1 f0 f1 HST B1 O1
  obtain ⟨x0, f0⟩ := at_block PA2 0 _ rfl
  obtain ⟨x1, f1⟩ := at_block PA2 1 _ rfl
  go_wp2_with fail
  refine (cloneSv w (.slice ca n cc) d.svcs w2 HC0.out (ext_below BS.out) HL.out.2.1).mono ?_
  rintro e w3 ⟨v3, C, rfl, hr3, b3, hC3⟩
  rw [← HNL.out] at hr3
  have HC := hidL hC3
  have SZ3 := b3.size
  have PA3 := below_blk b3 (Array.getElem?_eq_some_iff.1 PA2).1 PA2
  have PR3 := below_blk b3 (Array.getElem?_eq_some_iff.1 PR2).1 PR2
  have B3 := hidL (BS.out.trans (b3.mono BS.out.size))
  have O3 := hidL (OS.out.ext (ext_below b3))
  obtain ⟨mid, hmid⟩ : ∃ mid, mid = w1.heap.size := ⟨_, rfl⟩
  rw [← hmid] at O3 S1 SS
  have HSM : Hid (w.heap.size + 2 ≤ mid ∧ mid = w2.heap.size) := ⟨by omega, by omega⟩
  clear hmid OS BS x0 x1 f0 f1 hC3
  obtain ⟨a3, c3, hv3⟩ := hr3.shape
  obtain ⟨x0, f0⟩ := at_block PA3 0 _ rfl
  obtain ⟨x1, f1⟩ := at_block PA3 1 _ rfl
  have NBR : ∀ b, v3.ownBlock = some b → w2.heap.size ≤ b ∧ b < w3.heap.size := fun b hb => World.ownsRow.lt hr3 b hb
  have HR4 : Hid (Row w2.heap.size 54 2 (w3.setCell ⟨w.heap.size, 1, none⟩ (.slice a3 n c3)) (.slice a3 n c3) n C) := by
    have := hr3.kept (set_grown w3 w.heap.size 1 (.slice a3 n c3)) (by
      cases hvb : v3.ownBlock with
      | none => exact .inl rfl
      | some k => exact .inr (by have := NBR k hvb; have := HSM.out; simp; omega))
    rw [hv3] at this
    exact this
  have PA4 := hidL (show (w3.setCell ⟨w.heap.size, 1, none⟩ (.slice a3 n c3)).heap[w.heap.size]? = some (.cells #[.slice a1 nn c1, .slice a3 n c3] 29 (0, 0)) by simpa using set_block PA3 1 (.slice a3 n c3))
  have PR4 := hidL (set_other w.heap.size 1 (.slice a3 n c3) (show w.heap.size + 1 ≠ w.heap.size by omega) PR3)
  have B4 : Hid (Below w.heap.size w (w3.setCell ⟨w.heap.size, 1, none⟩ (.slice a3 n c3))) := B3.out.setCell (Nat.le_refl _) _
  have O4 : Hid (OwS (Rg w.heap.size mid) (w3.setCell ⟨w.heap.size, 1, none⟩ (.slice a3 n c3)) (.slice a1 nn c1) d.node) := ⟨⟨World.ownsRow.kept O3.out.1.1 (set_grown _ _ _ _) NB1, hrn⟩, O3.out.2⟩
  have SZ4 : (w3.setCell ⟨w.heap.size, 1, none⟩ (.slice a3 n c3)).heap.size = w3.heap.size := by simp
  rw [hv3]
  clear hr3 NBR hv3 PA3 PR3 B3 O3 b3 PA2 PR2
  go_upto_region 3 with fail
  generalize w3.setCell ⟨w.heap.size, 1, none⟩ (.slice a3 n c3) = w4 at HR4 PA4 PR4 B4 O4 SZ4 ⊢
  clear x0 x1 f0 f1
  have HFIN : Hid (∀ W, Below w.heap.size w W → OwS (Rg w.heap.size mid) W (.slice a1 nn c1) d.node → W.heap[w.heap.size + 1]? = some (.cells #[.slice none 0 0, .slice none 0 0] 29 (0, 0)) → mid ≤ W.heap.size → OW 54 2 ownV (fun b => mid ≤ b ∧ b < W.heap.size) W (.slice a3 n c3) d.svcs →
      ∃ nv cv mid', (Ending.returned (.agg #[.slice a1 nn c1, .slice a3 n c3]) : Ending) = .returned (.agg #[nv, cv]) ∧ OwS (Rg w.heap.size mid') ((W.setCell ⟨w.heap.size + 1, 0, none⟩ (.slice a1 nn c1)).setCell ⟨w.heap.size + 1, 1, none⟩ (.slice a3 n c3)) nv d.node ∧ OSD (Rg mid' ((W.setCell ⟨w.heap.size + 1, 0, none⟩ (.slice a1 nn c1)).setCell ⟨w.heap.size + 1, 1, none⟩ (.slice a3 n c3)).heap.size) ((W.setCell ⟨w.heap.size + 1, 0, none⟩ (.slice a1 nn c1)).setCell ⟨w.heap.size + 1, 1, none⟩ (.slice a3 n c3)) cv d.svcs ∧ (w.heap.size ≤ mid' ∧ mid' ≤ ((W.setCell ⟨w.heap.size + 1, 0, none⟩ (.slice a1 nn c1)).setCell ⟨w.heap.size + 1, 1, none⟩ (.slice a3 n c3)).heap.size) ∧ Below w.heap.size w ((W.setCell ⟨w.heap.size + 1, 0, none⟩ (.slice a1 nn c1)).setCell ⟨w.heap.size + 1, 1, none⟩ (.slice a3 n c3))) := fun W hb ho hp hm hw => by
    have t : Trn (fun b => b = w.heap.size + 1) W ((W.setCell ⟨w.heap.size + 1, 0, none⟩ (.slice a1 nn c1)).setCell ⟨w.heap.size + 1, 1, none⟩ (.slice a3 n c3)) := (Trn.set (fun b => b = w.heap.size + 1) _ _ _ _ rfl).trans (Trn.set (fun b => b = w.heap.size + 1) _ _ _ _ rfl)
    have hsz : ((W.setCell ⟨w.heap.size + 1, 0, none⟩ (.slice a1 nn c1)).setCell ⟨w.heap.size + 1, 1, none⟩ (.slice a3 n c3)).heap.size = W.heap.size := by simp
    have hne : (Value.slice a1 nn c1).ownBlock ≠ some (w.heap.size + 1) := ho.ne hp (by decide)
    refine ⟨_, _, mid, rfl, ⟨⟨?_, hrn⟩, ho.2⟩, ?_, ⟨by have := HSM.out; omega, by omega⟩, (hb.setCell (Nat.le_succ _) _).setCell (Nat.le_succ _) _⟩
    · exact World.ownsRow.kept (World.ownsRow.kept ho.1.1 (set_grown _ _ _ _) (.inr hne)) (set_grown _ _ _ _) (.inr hne)
    · have h5 := hw.keep keepsV t (fun b hb e => by have := HSM.out; omega)
      rw [← hsz] at h5
      exact osd_iff.2 h5
  rcases HR4.out.blk with ⟨e1, e2⟩ | ⟨g, cap, e1, hg, hcap, hmax, hB⟩
  · cases e1
    have HW := hidL (HFIN.out w4 B4.out O4.out PR4.out (by have := HSM.out; omega) (.inl ⟨none, 0, rfl, ⟨rfl, rfl⟩, List.eq_nil_of_length_eq_zero HNL.out.symm⟩))
    obtain ⟨x0, f0⟩ := at_block PA4.out 0 _ rfl
    obtain ⟨x1, f1⟩ := at_block PA4.out 1 _ rfl
    obtain ⟨r0, k0⟩ := at_block PR4.out 0 _ rfl
    obtain ⟨r1, k1⟩ := at_block PR4.out 1 _ rfl
    go_wp2
    refine wp_loop_rounds 1 ?_
    rw [rounds_succ]
    go_wp2
    refine bodyPost_ret (v := .agg #[.slice a1 nn c1, .slice none 0 0]) (by simp [results, Try.results29, go_sem, *]) rfl ?_
    exact HW.out
  · cases e1
    have HG : Hid (mid ≤ g ∧ g < w4.heap.size ∧ n ≤ c3 ∧ c3 ≤ maxLen) := ⟨by have := HSM.out; omega, blk_lt hB, hcap, hmax⟩
    have hcap63 : c3 ≤ 9223372036854775807 := by unfold maxLen at hmax; omega
    have HB4 := hidL hB
    obtain ⟨x0, f0⟩ := at_block PA4.out 0 _ rfl
    obtain ⟨x1, f1⟩ := at_block PA4.out 1 _ rfl
    clear hg hB
    go_wp2
    go_loopw [16] (fun i wr => ∃ j : Nat, j ≤ n ∧ i = .int .i64 j ∧ ∃ (F : Nat → Nat → Value) (N : Nat → Nat → Prop), Hid (Blk wr g 54 2 c3 n F) ∧ Hid (PO ownV mid g wr d.svcs j F N) ∧ Hid (∀ i, j ≤ i → i < n → ∀ c, c < 2 → F i c = C i c) ∧ Hid (Trn (fun b => b = g) w4 wr)) (fun i _ => n - (intOf i).toNat)
    case atStart => exact ⟨0, Nat.zero_le _, rfl, C, _, HB4.out, PO.start _ _ _ _ _ _, fun _ _ _ _ _ => rfl, Trn.refl _ _⟩
    case round =>
      obtain ⟨j, hj, rfl, F, N, HB, HPO, HRAW, HT⟩ := hrel
      have HSZ : Hid (w4.heap.size ≤ wr.heap.size) := HT.out.size
      have PAr := hidL ((HT.out.block _ (Array.getElem?_eq_some_iff.1 PA4.out).1 (by have := HSM.out; have := HG.out; omega)).trans PA4.out)
      have PRr := hidL ((HT.out.block _ (Array.getElem?_eq_some_iff.1 PR4.out).1 (by have := HSM.out; have := HG.out; omega)).trans PR4.out)
      clear x0 x1 f0 f1
      obtain ⟨x0, f0⟩ := at_block PAr.out 0 _ rfl
      obtain ⟨x1, f1⟩ := at_block PAr.out 1 _ rfl
      by_cases hjl : j < n
      · have hjl' : (j : Int) < (n : Int) := by omega
        obtain ⟨x, hx⟩ : ∃ x, d.svcs[j]? = some x := ⟨_, List.getElem?_eq_getElem (by have := HNL.out; omega)⟩
        have HX := hidL hx
        have HBC : Hid (∀ c, c < 2 → wr.cell? ⟨g, j * 2 + c, none⟩ = some (F j c)) := fun c hc => by
          obtain ⟨cur, h1, _, h3⟩ := HB.out
          rw [cell_of_row wr g _ cur _ (0, 0) h1]
          exact h3 j hjl c hc
        obtain ⟨e0, e1⟩ := HC.out j x hx
        have HLX := hidL (HL.out.2.2 j x hx)
        clear hx
        obtain ⟨ma, mc, hmv⟩ := rv_shape e0
        obtain ⟨ka, kc, hkv⟩ := chks_shape e1
        obtain ⟨mn, hmn⟩ : ∃ mn, mn = x.name.length := ⟨_, rfl⟩
        obtain ⟨kn, hkn⟩ : ∃ kn, kn = x.checks.length := ⟨_, rfl⟩
        rw [← hmn] at hmv
        rw [← hkn] at hkv
        have HMN := hidL hmn
        have HKN := hidL hkn
        rw [hmv] at e0
        rw [hkv] at e1
        have HE0 := hidL e0
        have HE1 := hidL e1
        clear hmn hkn
        have cc0 := HBC.out 0 (by omega)
        rw [Nat.add_zero, HRAW.out j (Nat.le_refl _) hjl 0 (by omega), hmv] at cc0
        have cc1 := HBC.out 1 (by omega)
        rw [HRAW.out j (Nat.le_refl _) hjl 1 (by omega), hkv] at cc1
        clear e0 e1
        go_upto_region 6 with fail
        generalize hU : World.alloc wr _ = U
        have XU : Ext wr U := by rw [← hU]; exact hE _ _
        have PU : U.heap[wr.heap.size]? = some (.cells #[.slice ma mn mc, .slice ka kn kc] 54 (0, 0)) := by rw [← hU]; exact heap_alloc_new wr _
        clear hU
        have hgw : g ≠ w.heap.size := by have := HSM.out; have := HG.out; omega
        have hgu : g ≠ wr.heap.size := by have := HSZ.out; have := HG.out; omega
        have z1 := fun p => tw_cell (S := fun b => b = g) (World.grownBy.cell XU x1 (by simp)) (fun e => hgw e.symm) p
        have y0 := fun p => tw_cell (S := fun b => b = g) (at_block PU 0 _ rfl).1 (fun e => by omega) p
        have y1 := fun p => tw_cell (S := fun b => b = g) (at_block PU 1 _ rfl).1 (fun e => by omega) p
        have nonV := tw_ne (fun b => b = g) U
        have HBU : Hid (Blk U g 54 2 c3 n F) := blk_kept HB.out (XU.block g (blk_lt HB.out) (by simp))
        have HXU := hidL XU
        have HTU : Hid (Trn (fun b => b = g) w4 U) := HT.out.trans (Trn.ext XU)
        have HCALL : Hid (∀ V, Trn (fun b => b = g) U V → Calls Try.prog 52 #[.agg #[.slice ma mn mc, .slice ka kn kc]] V fun e w' => ∃ ta tc tb td, e = .returned (.agg #[.slice ta mn tc, .slice tb kn td]) ∧ ownV (fun b => V.heap.size ≤ b ∧ b < w'.heap.size) w' (fun c => if c = 0 then (.slice ta mn tc) else (.slice tb kn td)) x ∧ Below V.heap.size V w') := fun V t => by
          have bV : Below w.heap.size w V := Trn.below (Trn.below B4.out HTU.out (by have := HSM.out; omega) (fun b e => by have := HSM.out; have := HG.out; omega)) t (by have := HSM.out; have := HTU.out.size; omega) (fun b e => by have := HSM.out; have := HG.out; omega)
          refine (copySvcV _ x V ⟨_, _, rfl, HE0.out.ext (ext_below bV), HE1.out.ext (ext_below bV)⟩ HLX.out).mono ?_
          rintro e w' ⟨nv, cv, mid', rfl, ho, hc, hmm, hb⟩
          obtain ⟨ta, tc, rfl⟩ := rv_shape ho.rv
          obtain ⟨tb, td, rfl⟩ := chks_shape hc.v
          rw [← HMN.out] at ho ⊢
          rw [← HKN.out] at hc ⊢
          exact ⟨ta, tc, tb, td, rfl, ⟨_, _, ho, hc, fun b h1 h2 => by have := h1.2; have := h2.1; omega, fun b h => ⟨h.1, by have := h.2; omega⟩, fun b h => ⟨by have := h.1; omega, h.2⟩⟩, hb⟩
        clear x0 x1 f0 f1 XU cc0 cc1 HBC PU
        have hgb : j * 2 + 2 ≤ c3 * 2 := by
          have := HG.out
          have h1 : (j + 1) * 2 ≤ c3 * 2 := Nat.mul_le_mul_right 2 (by omega)
          omega
        have hidx : (j : Int) < (n : Int) := hjl'
        refine wp_region_seg (S := fun w' => ∃ p : TW (fun b => b = g) U, w' = p.u) (by kernel_rfl) (tw_drew _ U) (fun hHeld => ?_)
        refine wpAnyH_seg 0 4 3 (by kernel_rfl) (by kernel_rfl) (by kernel_rfl) (by kernel_rfl) (fun _ _ _ _ _ h => h) hHeld ?_
        simp only [List.drop_zero, List.take_succ_cons, List.take_zero]
        repeat (go_big_quiet_step (fail))
        refine wpQuiet_nil ?_
        refine wpAnyH_one 4 2 (by kernel_rfl) (by kernel_rfl) rfl (fun K hK => ?_)
        go_simp
        go_at_call 52
        refine (HCALL.out _ (Trn.ext (ext_drewN U 1))).mono ?_
        rintro e w5 ⟨ta, tc, tb, td, rfl, o5, b5⟩
        have BX : Ext U w5 := (ext_drewN U 1).tr (ext_below b5)
        dsimp only
        refine hK.out _ _ ⟨⟨w5, BX.os, BX.size, fun k hk _ => BX.block k hk (by simp)⟩, rfl⟩ (fun hHeld => ?_)
        clear hK K
        try simp only [Act.put, List.setIfInBounds_toArray, List.set_cons_zero, List.set_cons_succ]
        refine wpAnyH_seg 5 1 1 (by kernel_rfl) (by kernel_rfl) (by kernel_rfl) (by kernel_rfl) (fun _ _ _ _ _ h => h) hHeld ?_
        simp only [List.drop_succ_cons, List.drop_zero, List.take_succ_cons, List.take_zero]
        repeat (go_big_quiet_step (fail))
        refine wpQuiet_nil ?_
        have HB5 := blk_kept HBU.out (BX.block g (blk_lt HBU.out) (by simp))
        obtain ⟨⟨u0, d0⟩, f0⟩ := blk_cell HB5 (j * 2) (by omega)
        obtain ⟨⟨u1, d1⟩, f1⟩ := blk_cell HB5 (j * 2 + 1) (by omega)
        have HX5 := hidL BX
        have HPN : Hid (PO ownV mid g ((w5.setCell ⟨g, j * 2, none⟩ (.slice ta mn tc)).setCell ⟨g, j * 2 + 1, none⟩ (.slice tb kn td)) d.svcs (j + 1) (fun i => if i = j then (fun c => if c = 0 then (.slice ta mn tc) else (.slice tb kn td)) else F i) (fun i => if i = j then (fun b => U.heap.size ≤ b ∧ b < w5.heap.size) else N i)) :=
          (HPO.out.ext keepsV HXU.out).next keepsV BX HX.out (o5 : ownV (fun b => U.heap.size ≤ b ∧ b < w5.heap.size) w5 _ x) (fun b h => h) (by have := HSM.out; have := HTU.out.size; omega) (blk_lt HBU.out) (((Trn.refl (fun b => b = g) w5).trans (Trn.set (fun b => b = g) _ _ _ _ rfl)).trans (Trn.set (fun b => b = g) _ _ _ _ rfl))
        have HBN : Hid (Blk ((w5.setCell ⟨g, j * 2, none⟩ (.slice ta mn tc)).setCell ⟨g, j * 2 + 1, none⟩ (.slice tb kn td)) g 54 2 c3 n (fun i => if i = j then (fun c => if c = 0 then (.slice ta mn tc) else (.slice tb kn td)) else F i)) := by
          obtain ⟨cur, q1, q2, q3⟩ := (blk_put (blk_put HB5 j 0 (by omega) (by omega) (.slice ta mn tc)) j 1 (by omega) (by omega) (.slice tb kn td))
          refine ⟨cur, q1, q2, fun i hi c hc => ?_⟩
          rw [q3 i hi c hc]
          by_cases e : i = j
          · subst e
            obtain rfl | rfl : c = 0 ∨ c = 1 := by omega
            all_goals simp [updK]
          · simp [updK, e]
        have HTN : Hid (Trn (fun b => b = g) w4 ((w5.setCell ⟨g, j * 2, none⟩ (.slice ta mn tc)).setCell ⟨g, j * 2 + 1, none⟩ (.slice tb kn td))) := (HTU.out.trans (Trn.ext BX)).trans (((Trn.refl (fun b => b = g) w5).trans (Trn.set (fun b => b = g) _ _ _ _ rfl)).trans (Trn.set (fun b => b = g) _ _ _ _ rfl))
        clear HB5 BX b5
        refine wpAnyH_one 6 0 (by kernel_rfl) (by kernel_rfl) rfl (fun K hK => ?_)
        go_simp
        refine hK.out _ _ ⟨⟨((w5.setCell ⟨g, j * 2, none⟩ (.slice ta mn tc)).setCell ⟨g, j * 2 + 1, none⟩ (.slice tb kn td)), (HTN.out.os.trans HTU.out.os.symm), (by simpa using HX5.out.size), fun k hk hn => ((((((Trn.refl (fun b => b = g) w5).trans (Trn.set (fun b => b = g) _ _ _ _ rfl)).trans (Trn.set (fun b => b = g) _ _ _ _ rfl)) : Trn (fun b => b = g) w5 _).block k (Nat.lt_of_lt_of_le hk HX5.out.size) hn).trans (HX5.out.block k hk (by simp)))⟩, rfl⟩ (fun hHeld => ?_)
        clear hK K
        try simp only [Act.put, List.setIfInBounds_toArray, List.set_cons_zero, List.set_cons_succ]
        refine wpAnyH_endN (by kernel_rfl) ?_
        have HRN : Hid (∀ i, j + 1 ≤ i → i < n → ∀ c, c < 2 → (fun i => if i = j then (fun c => if c = 0 then (.slice ta mn tc) else (.slice tb kn td)) else F i) i c = C i c) := fun i hi hn c hc => by
          show (if i = j then _ else F i) c = _
          rw [if_neg (by omega)]
          exact HRAW.out i (by omega) hn c hc
        clear nonV z1 y0 y1 d0 f0 d1 f1 HCALL
        go_wp2
        go_roundw
        case rel => exact ⟨j + 1, by omega, by go_num, _, _, HBN, HPN, HRN, HTN⟩
        case measure => simp [intOf]; omega
      · have hjn : j = n := by omega
        subst hjn
        have hbw : Below w.heap.size w wr := Trn.below B4.out HT.out (by have := HSM.out; omega) (fun b e => by have := HSM.out; have := HG.out; omega)
        have HPD := HPO.out
        rw [HNL.out] at HPD
        have HBD := HB.out
        rw [HNL.out] at HBD
        have HOW := HPD.done (T := 54) (K := 2) HG.out.1 HBD (by have := HG.out; have := HNL.out; omega) HG.out.2.2.2
        rw [← HNL.out] at HOW
        have HW := hidL (HFIN.out wr hbw (O4.out.keep HT.out (fun b hb e => by have := HG.out; have := hb.2; omega)) PRr.out (by have := HSM.out; have := HSZ.out; omega) HOW)
        obtain ⟨r0, k0⟩ := at_block PRr.out 0 _ rfl
        obtain ⟨r1, k1⟩ := at_block PRr.out 1 _ rfl
        clear HPD HBD HOW
        go_wp2
        refine bodyPost_ret (v := .agg #[.slice a1 nn c1, .slice (some ⟨g, 0, none⟩) j c3]) (by simp [results, Try.results29, go_sem, *]) rfl ?_
        exact HW.out

end Go.Proofs.Ytjkhadaoldbceaa

namespace Go.Proofs.Ytjkhadaoldbceaa
open Go.RowKit

set_option maxRecDepth 10000 in
set_option maxHeartbeats 1000000 in
theorem grow0 (m : Nat) (w : World) (hm : m ≤ 4294967296) :
    Calls Try.prog 81 #[.slice none 0 0, .int .i64 m] w fun e w' => ∃ v, e = .returned v ∧ Ow w' w.heap.size v [] ∧ Below w.heap.size w w' := by
  obtain ⟨i0, hi, hz0, hz1, hz2⟩ := info_parts info5
  rcases Nat.eq_zero_or_pos m with h0 | h0
  · subst h0
    go_enter Try.func81, Try.ntmps81
    go_wp2
    go_ret
    exact ⟨_, rfl, World.ownsRow_nil _ _ _ _, Below.refl _ _⟩
  · have hpos : (0 : Int) < (m : Int) := by omega
    have hold : (Builtin.firstCells i0.size 0 (.slice none 0 0)).run Try.prog w.drew = .ok ([] : List Value).toArray w.drew := by
      simp [Builtin.firstCells]
    have hrz : ∀ ty, (Builtin.append_ #[22, 3] ty #[.slice none 0 0, .int .i64 (m : Int)]).run Try.prog w =
        .ok (.slice (some ⟨w.heap.size, 0, none⟩) m (grownCap w m 0 5)) (w.drew.alloc (.cells (([] : List Value).toArray ++ Builtin.zeroCells (Value.int .u8 0).cells m ++ Builtin.zeroCells (Value.int .u8 0).cells (grownCap w m 0 5 - m)) 5)) := fun ty => by
      have h := Lib.run_append_grow_zeros (P := Try.prog) w 22 3 ty 5 i0 (.int .u8 0) .i64 .i64 Try.underlying22 Try.underlying3 hi hz0 none 0 0 [] hold m h0 (by omega) (by omega) (by omega) (by rw [hz2]; omega)
        (growslice_fits (by omega) (by rw [hz2]; omega))
      simpa using h
    have hGn : m ≤ grownCap w m 0 5 := grownCap_ge w _ _ _
    have hGm : grownCap w m 0 5 ≤ maxLen := grownCap_le_maxLen w m 0 5 (by unfold maxLen; omega)
    obtain ⟨G, hG⟩ : ∃ G, G = grownCap w m 0 5 := ⟨_, rfl⟩
    rw [← hG] at hrz hGn hGm
    obtain ⟨cs, hcs⟩ : ∃ cs, cs = (([] : List Value).toArray ++ Builtin.zeroCells (Value.int .u8 0).cells m ++ Builtin.zeroCells (Value.int .u8 0).cells (G - m)) := ⟨_, rfl⟩
    rw [← hcs] at hrz
    have hsz : cs.size = G := by
      rw [hcs]
      simp [size_zeroCells, Value.cells]
      omega
    have HW : Hid (Ow (w.drew.alloc (.cells cs 5)) w.heap.size (.slice (some ⟨w.heap.size, 0, none⟩) 0 G) []) := World.ownsRow_made w.drew cs G (Nat.le_refl _) hGm (by omega)
    have hG63 : G ≤ 9223372036854775807 := by unfold maxLen at hGm; omega
    clear hold hG hcs hGm hsz
    go_enter Try.func81, Try.ntmps81
    go_wp2_with (at_builtin; refine Lib.wpList_append_run _ rfl _ _ _ _ rfl _ _ rfl rfl _ _ (hrz _) ?_)
    all_goals
      go_ret
      exact ⟨_, rfl, HW.out, ((Below.refl _ w).drew).alloc (Nat.le_refl _) _⟩

/-- The first k of some lists, one behind the other. -/
def cat (X : Nat → List Int) : Nat → List Int
  | 0 => []
  | k + 1 => cat X k ++ X k

theorem cat_le (X : Nat → List Int) {k m : Nat} (h : k ≤ m) : (cat X k).length ≤ (cat X m).length := by
  induction m with
  | zero => obtain rfl : k = 0 := by omega
            exact Nat.le_refl _
  | succ m ih =>
    by_cases e : k = m + 1
    · subst e; exact Nat.le_refl _
    · have := ih (by omega)
      simp only [cat, List.length_append]
      omega

theorem cat_rng (X : Nat → List Int) (m : Nat) (h : ∀ j, j < m → ∀ x ∈ X j, 0 ≤ x ∧ x ≤ 255) : ∀ x ∈ cat X m, 0 ≤ x ∧ x ≤ 255 := by
  induction m with
  | zero => intro x hx; cases hx
  | succ m ih =>
    intro x hx
    rcases List.mem_append.1 hx with hx | hx
    · exact ih (fun j hj => h j (by omega)) x hx
    · exact h m (by omega) x hx

set_option maxHeartbeats 2000000 in
theorem conc (g m c : Nat) (A : Nat → Option Addr) (L C : Nat → Nat) (X : Nat → List Int) (w : World) (hm : m ≤ 1000)
    (hc : ∀ j, j < m → w.cell? ⟨g, j, none⟩ = some (.slice (A j) (L j) (C j))) (hR : ∀ j, j < m → Rd w (A j) (L j) (X j)) (hb : (cat X m).length ≤ 4294967296) :
    Calls Try.prog 78 #[.slice (some ⟨g, 0, none⟩) m c] w fun e w' => ∃ v, e = .returned v ∧ Ow w' w.heap.size v (cat X m) ∧ Below w.heap.size w w' := by
  have hstep : ∀ k, k < m → (cat X k).length + L k ≤ (cat X m).length := fun k hk => by
    have := cat_le X (show k + 1 ≤ m by omega)
    simp only [cat, List.length_append, (hR k hk).len] at this
    exact this
  have HS : Hid (∀ k, k < m → (cat X k).length + L k ≤ (cat X m).length) := hstep
  have HC : Hid (∀ j, j < m → w.cell? ⟨g, j, none⟩ = some (.slice (A j) (L j) (C j))) := hc
  have HR : Hid (∀ j, j < m → Rd w (A j) (L j) (X j)) := hR
  clear hstep hc hR
  go_enter Try.func78, Try.ntmps78
  go_wp2
  go_loop [3, 11] (fun s i => ∃ k : Nat, k ≤ m ∧ i = .int .i64 k ∧ s = .int .i64 (cat X k).length) (fun _ i => m - (intOf i).toNat)
  case atStart => exact ⟨0, Nat.zero_le _, rfl, rfl⟩
  case round =>
    obtain ⟨k, hk, rfl, rfl⟩ := hrel
    by_cases hlt : k < m
    · have hck := HC.out k hlt
      have hbk := HS.out k hlt
      have HL : Hid ((cat X (k + 1)).length = (cat X k).length + L k) := by simp only [Hid, cat, List.length_append, (HR.out k hlt).len]
      go_wp2
      go_round
      case rel => exact ⟨k + 1, by omega, by go_num, by rw [HL.out]; go_num⟩
      case measure => simp [intOf]; omega
    · have hkm : k = m := by omega
      subst hkm
      go_wp2_with (go_at_call 81; refine (grow0 (cat X k).length _ hb).mono ?_; rintro e w1 ⟨v1, rfl, hown1, hb1⟩)
      go_loopw [6, 27] (fun v i wr => ∃ j : Nat, j ≤ k ∧ i = .int .i64 j ∧ Ow wr w.heap.size v (cat X j) ∧ Below w.heap.size w wr) (fun _ i _ => k - (intOf i).toNat)
      case atStart => exact ⟨0, Nat.zero_le _, rfl, hown1, hb1⟩
      case round =>
        obtain ⟨j, hj, rfl, hown, hbj⟩ := hrel
        clear hown1 hb1
        have hsz := hbj.size
        by_cases hlt : j < k
        · have hcj := HC.out j hlt
          have hcj' : wr.cell? ⟨g, j, none⟩ = some (.slice (A j) (L j) (C j)) := (hbj.cell (p := ⟨g, j, none⟩) (World.block_lt_of_cell? w _ hcj)).trans hcj
          have hbk := HS.out j hlt
          have hrj := (HR.out j hlt).below hbj (Nat.le_refl _)
          clear hcj
          go_wp2_with (at_builtin; refine wpList_append_bytes _ rfl (.tmp 31) (.tmp 32) 22 rfl w.heap.size info5 Try.underlying22 _ (cat X j) rfl hown (A j) (L j) (C j) (X j) rfl hrj (by omega) hsz ?_; intro v2 w2 hown2 hg2)
          have hb2 : Below w.heap.size w w2 := below_own hbj hsz hown hg2
          clear hg2
          go_wp2
          go_roundw
          case rel => exact ⟨j + 1, by omega, by go_num, hown2, hb2⟩
          case measure => simp [intOf]; omega
        · have hjk : j = k := by omega
          subst hjk
          go_wp2
          go_ret
          exact ⟨_, rfl, hown, hbj⟩

end Go.Proofs.Ytjkhadaoldbceaa

namespace Go.Proofs.Ytjkhadaoldbceaa
open Go.RowKit

theorem run_idx {w : World} {b o n c : Nat} {xs : List Int} (hx : xs.length = n) (hc : ∀ i, i < n → w.cell? ⟨b, o + i, none⟩ = some (.int .u8 (xs.getD i 0))) (cv : Int) :
    (callFunc 77 #[.slice (some ⟨b, o, none⟩) n c, .int .u8 cv]).run Try.prog w = .ok (.value (.int .i64 (Lib.indexByte (Lib.bytesOf xs) cv.toNat.toUInt8))) w := by
  rw [run_callFunc_extern (e := Extern.BytealgIndexByte.indexByte) Try.func77 (by kernel_rfl) (by kernel_rfl) (by kernel_rfl) (by kernel_rfl)]
  rw [Lib.run_indexByteSlice w b o n c xs hx hc cv]
  rfl

/-- Where it is not there, and where it is. -/
theorem idx47 {xs : List Int} (hr : ∀ x ∈ xs, 0 ≤ x ∧ x ≤ 255) : decide (Lib.indexByte (Lib.bytesOf xs) (47 : Int).toNat.toUInt8 < 0) = xs.all (fun c => !decide (c = 47)) := by
  rw [Bool.eq_iff_iff, decide_eq_true_eq, List.all_eq_true]
  have hge := Lib.indexByte_ge (Lib.bytesOf xs) (47 : Int).toNat.toUInt8
  constructor
  · intro h x hx
    have h1 := Lib.indexByte_none (l := Lib.bytesOf xs) (c := (47 : Int).toNat.toUInt8) (by omega)
    obtain ⟨j, hj, rfl⟩ := List.getElem_of_mem hx
    have h2 := h1 j
    simp only [Bool.not_eq_true', decide_eq_false_iff_not]
    intro e
    apply h2
    unfold Lib.bytesOf
    rw [List.getElem?_map, List.getElem?_eq_getElem hj, e]
    rfl
  · intro h
    by_cases hn : Lib.indexByte (Lib.bytesOf xs) (47 : Int).toNat.toUInt8 < 0
    · exact hn
    · exfalso
      obtain ⟨o, ho⟩ : ∃ o : Nat, Lib.indexByte (Lib.bytesOf xs) (47 : Int).toNat.toUInt8 = o := ⟨_, (Int.toNat_of_nonneg (by omega)).symm⟩
      have h1 := (Lib.indexByte_some ho).1
      unfold Lib.bytesOf at h1
      rw [List.getElem?_map] at h1
      obtain ⟨x, hx, hxe⟩ := Option.map_eq_some_iff.1 h1
      have hm := List.mem_of_getElem? hx
      have h2 := h x hm
      have h3 := hr x hm
      simp only [Bool.not_eq_true', decide_eq_false_iff_not] at h2
      apply h2
      have h4 := congrArg UInt8.toNat hxe
      simp at h4
      omega

set_option maxHeartbeats 1000000 in
theorem iPartV (v : Value) (xs : List Int) (w : World) (h : RV w v xs) : Calls Try.prog 48 #[v] w fun e w' => e = .returned (.bool (partB xs)) ∧ w' = w := by
  have HK : Hid (Calls Try.prog 60 #[v] w fun e w' => e = .returned (.bool (keyB xs)) ∧ w' = w) := keyOkV v xs w h
  have HD : Hid (partB xs = (xs.all (fun c => !decide (c = 47)) && keyB xs)) := rfl
  have hrg := rv_rngK h
  obtain ⟨a, cap, rfl, hr, h1, h2⟩ := h
  cases hk : keyB xs
  · have HE : Hid (partB xs = false) := by show _ = _; rw [HD.out, hk, Bool.and_false]
    go_enter Try.func48, Try.ntmps48
    go_wp2_with (go_at_call 60; refine HK.out.mono ?_; rintro e w1 ⟨rfl, rfl⟩; rw [hk])
    go_ret
    exact ⟨by rw [HE.out]; rfl, rfl⟩
  · have hl : 0 < xs.length := by
      rcases Nat.eq_zero_or_pos xs.length with e | e
      · exfalso
        have : xs = [] := List.length_eq_zero_iff.1 e
        rw [this] at hk
        exact absurd hk (by decide)
      · exact e
    have HE : Hid (partB xs = decide (Lib.indexByte (Lib.bytesOf xs) (47 : Int).toNat.toUInt8 < 0)) := by show _ = _; rw [HD.out, hk, Bool.and_true, idx47 hrg]
    obtain ⟨b, o, rfl, _, hc⟩ := hr.pos hl
    have hrun := run_idx (c := cap) rfl hc 47
    obtain ⟨r, hre⟩ : ∃ r, r = Lib.indexByte (Lib.bytesOf xs) (47 : Int).toNat.toUInt8 := ⟨_, rfl⟩
    rw [← hre] at hrun HE
    have HIX : Hid (Calls Try.prog 68 #[.slice (some ⟨b, o, none⟩) xs.length cap, .int .u8 47] w fun e w' => e = .returned (.int .i64 r) ∧ w' = w) := by
      show Calls _ _ _ _ _
      clear HD HE HK hre hc hk
      go_enter Try.func68, Try.ntmps68
      go_wp2
      go_ret
      exact ⟨rfl, rfl⟩
    clear hrun hre hc HD hr
    go_enter Try.func48, Try.ntmps48
    go_wp2_with (first | (go_at_call 60; refine HK.out.mono ?_; rintro e w1 ⟨rfl, rfl⟩; rw [hk]) | (go_at_call 68; refine HIX.out.mono ?_; rintro e w1 ⟨rfl, rfl⟩))
    go_ret
    exact ⟨by rw [HE.out]; rfl, rfl⟩

theorem rd_blk {W : World} {g : Nat} {xs : List Int} (p : W.heap[g]? = some (.cells (xs.map (Value.int .u8)).toArray 5 (0, 0))) (hr : ∀ x ∈ xs, 0 ≤ x ∧ x ≤ 255) : Rd W (some ⟨g, 0, none⟩) xs.length xs :=
  ⟨rfl, fun i hi => ⟨g, 0, rfl, by
    refine (at_block p (0 + i) _ ?_).1
    rw [List.getElem?_toArray, Nat.zero_add, List.getElem?_map, List.getElem?_eq_getElem hi, List.getD_eq_getElem?_getD, List.getElem?_eq_getElem hi]
    rfl⟩, hr⟩

set_option maxRecDepth 20000 in
set_option maxHeartbeats 2000000 in
theorem iPlaceV (nv mv : Value) (node name : List Int) (w : World) (h1 : RV w nv node) (h2 : RV w mv name) (l1 : node.length ≤ 1048576) (l2 : name.length ≤ 1048576) :
    Calls Try.prog 69 #[nv, mv] w fun e w' => ∃ v, e = .returned v ∧ Ow w' w.heap.size v (placeL node name) ∧ Below w.heap.size w w' := by
  have hE : ∀ w : World, ∀ o, Ext w (w.alloc o) := fun w o => World.grownBy_alloc _ _ _
  obtain ⟨na, nc, rfl, r1, _, _⟩ := h1
  obtain ⟨ma, mc, rfl, r2, _, _⟩ := h2
  have HC : Hid (∀ W : World, Ext w W → Rd W (some ⟨w.heap.size, 0, none⟩) 4 [115, 118, 99, 47] → W.heap[w.heap.size + 1]? = some (.cells #[.int .u8 47] 5 (0, 0)) →
      W.heap[w.heap.size + 1 + 1]? = some (.cells #[.slice (some ⟨w.heap.size, 0, none⟩) 4 4, .slice na node.length nc, .slice (some ⟨w.heap.size + 1, 0, none⟩) 1 1, .slice ma name.length mc] 22 (0, 0)) →
      Calls Try.prog 78 #[.slice (some ⟨w.heap.size + 1 + 1, 0, none⟩) 4 4] W fun e w' => ∃ v, e = .returned v ∧ Ow w' w.heap.size v (placeL node name) ∧ Below W.heap.size W w') := fun W X p0 p1 p2 => by
    have c0 := conc (w.heap.size + 1 + 1) 4 4 (fun j => if j = 0 then some ⟨w.heap.size, 0, none⟩ else if j = 1 then na else if j = 2 then some ⟨w.heap.size + 1, 0, none⟩ else ma) (fun j => if j = 0 then 4 else if j = 1 then node.length else if j = 2 then 1 else name.length)
      (fun j => if j = 0 then 4 else if j = 1 then nc else if j = 2 then 1 else mc) (fun j => if j = 0 then [115, 118, 99, 47] else if j = 1 then node else if j = 2 then [47] else name) W (by omega) (fun j hj => by
        obtain rfl | rfl | rfl | rfl : j = 0 ∨ j = 1 ∨ j = 2 ∨ j = 3 := by omega
        · exact (at_block p2 0 _ rfl).1
        · exact (at_block p2 1 _ rfl).1
        · exact (at_block p2 2 _ rfl).1
        · exact (at_block p2 3 _ rfl).1) (fun j hj => by
        obtain rfl | rfl | rfl | rfl : j = 0 ∨ j = 1 ∨ j = 2 ∨ j = 3 := by omega
        · exact p0
        · exact r1.grown X
        · exact rd_blk (xs := [47]) p1 (by decide)
        · exact r2.grown X) (by simp [cat]; omega)
    refine c0.mono fun e w' ⟨v, h1, h2, h3⟩ => ⟨v, h1, ?_, h3⟩
    have h4 := ow_base h2 (Nat.le_trans (by omega) X.size : w.heap.size ≤ W.heap.size)
    have h5 : cat (fun j => if j = 0 then [115, 118, 99, 47] else if j = 1 then node else if j = 2 then [47] else name) 4 = placeL node name := by simp [cat, placeL]
    rw [h5] at h4
    exact h4
  have kc := fun (w : World) (C : Array Value) (n c : Nat) => Lib.run_convert_bytes_const (P := Try.prog) w 22 5 C n c Try.underlying22 Try.underlying5
  have kcw := kc w #[.int .u8 115, .int .u8 118, .int .u8 99, .int .u8 47] 4 4
  clear kc
  have HR4 : Hid (Rd (w.alloc (.cells #[.int .u8 115, .int .u8 118, .int .u8 99, .int .u8 47] 5 (4, 4 + 1))) (some ⟨w.heap.size, 0, none⟩) 4 [115, 118, 99, 47]) := by
    obtain ⟨a1, c1, e1, r1, _, _⟩ := (m_const4 w).rv (by decide)
    cases e1
    exact r1
  clear r1 r2
  go_enter Try.func69, Try.ntmps69
  go_wp2_with fail
  refine (HC.out _ (((hE _ _).tr (hE _ _)).tr (hE _ _)) (HR4.out.grown ((hE _ _).tr (hE _ _))) (h3_1 _ _ _ _) (h3_2 _ _ _ _)).mono ?_
  rintro e w1 ⟨v, rfl, o1, b1⟩
  have HO := hidL o1
  have HB : Hid (Below w.heap.size w w1) := (((((Below.refl _ w).alloc (Nat.le_refl _) _).alloc (by simp) _).alloc (by simp; omega) _)).trans (b1.mono (by simp; omega))
  clear o1 b1
  go_wp2
  go_ret
  exact ⟨_, rfl, HO.out, HB.out⟩

end Go.Proofs.Ytjkhadaoldbceaa

namespace Go.Proofs.Ytjkhadaoldbceaa
open Go.RowKit

def ChksB (cs : List DChk) : Prop := cs.length ≤ 4 ∧ ChksP cs

set_option maxRecDepth 20000 in
set_option maxHeartbeats 4000000 in
theorem iChecksOkV (v : Value) (cs : List DChk) (w : World) (h : VChks w v cs) (hl : cs.length ≤ 1048576) :
    Calls Try.prog 70 #[v] w fun e w' => e = .returned (.bool (tB (ChksB cs))) ∧ Below w.heap.size w w' := by
  have hE : ∀ w : World, ∀ o, Ext w (w.alloc o) := fun w o => World.grownBy_alloc _ _ _
  obtain ⟨D, ⟨a, cd, rfl, q4, q5, q6⟩, hD⟩ := h
  obtain ⟨cl, hcl⟩ : ∃ cl, cl = cs.length := ⟨_, rfl⟩
  have HCL := hidL hcl
  rw [← hcl] at q4 q6 hl ⊢
  have HD : Hid (∀ i d, cs[i]? = some d → RV w (D i 0) d.name ∧ D i 1 = .int .i64 d.ttl ∧ D i 2 = .int .i64 d.most ∧ D i 3 = .int .i64 d.st ∧ D i 4 = .int .i64 d.age ∧ D i 5 = .int .i64 d.fails) := hD
  have H6 : Hid (0 < cl → ∃ b o, a = some ⟨b, o, none⟩ ∧ b < w.heap.size ∧ ∀ i, i < cl → ∀ j, j < 6 → w.cell? ⟨b, o + i * 6 + j, none⟩ = some (D i j)) := q6
  have hcm : (cl : Int) ≤ 1048576 := by omega
  obtain ⟨R, hR⟩ : ∃ R, R = tB (ChksB cs) := ⟨_, rfl⟩
  rw [← hR]
  have HNO : Hid (¬ ChksB cs → R = false) := fun h => by rw [hR]; exact tB_false h
  have HYE : Hid (ChksB cs → R = true) := fun h => by rw [hR]; exact tB_true h
  clear hD q6 q5 hR hcl
  go_enter Try.func70, Try.ntmps70
  by_cases h4 : 4 < cl
  · have HK : Hid (R = false) := HNO.out (fun h => by have := h.1; have := HCL.out; omega)
    have h4' : (4 : Int) < (cl : Int) := by omega
    go_wp2
    go_ret
    exact ⟨by rw [HK.out]; rfl, Below.refl _ w⟩
  have h4' : ¬ (4 : Int) < (cl : Int) := by omega
  go_wp2
  go_loopw [10] (fun i wr => ∃ j : Nat, j ≤ cl ∧ i = .int .i64 j ∧ Hid (∀ t, t < j → ChkAt cs t) ∧ Hid (Below w.heap.size w wr)) (fun i _ => cl - (intOf i).toNat)
  case atStart => exact ⟨0, Nat.zero_le _, rfl, fun j hj => absurd hj (by omega), Below.refl _ w⟩
  case round =>
    obtain ⟨j, hj, rfl, hdone, hb⟩ := hrel
    by_cases hjl : j < cl
    · obtain ⟨g, og, rfl, hgl, hgc⟩ := H6.out (by omega)
      obtain ⟨c, hcs⟩ : ∃ c, cs[j]? = some c := ⟨_, List.getElem?_eq_getElem (by have := HCL.out; omega)⟩
      obtain ⟨f0, f1, f2, f3, f4, f5⟩ := HD.out j c hcs
      have XV : Ext w wr := ext_below hb.out
      have r0 := f0.ext XV
      obtain ⟨ma, mc, hmv⟩ := rv_shape f0
      have cc0 := World.grownBy.cell XV (hgc j hjl 0 (by omega)) (by simp)
      rw [Nat.add_zero, hmv] at cc0
      rw [hmv] at r0
      have cc1 := World.grownBy.cell XV (hgc j hjl 1 (by omega)) (by simp)
      rw [f1] at cc1
      have cc2 := World.grownBy.cell XV (hgc j hjl 2 (by omega)) (by simp)
      rw [f2] at cc2
      have cc3 := World.grownBy.cell XV (hgc j hjl 3 (by omega)) (by simp)
      rw [f3] at cc3
      have cc4 := World.grownBy.cell XV (hgc j hjl 4 (by omega)) (by simp)
      rw [f4] at cc4
      have cc5 := World.grownBy.cell XV (hgc j hjl 5 (by omega)) (by simp)
      rw [f5] at cc5
      have HCI := hidL (chkAt_iff hcs)
      have hjl' : (j : Int) < (cl : Int) := by omega
      have HGC := hidL (show ∀ i, i < cl → ∀ j, j < 6 → w.cell? ⟨g, og + i * 6 + j, none⟩ = some (D i j) from hgc)
      have HXV := hidL XV
      have HRN := hidL r0
      have HNX : Hid (ChkAt cs j → ∀ t, t < j + 1 → ChkAt cs t) := fun h t ht => by
        by_cases e : t = j
        · subst e; exact h
        · exact hdone.out t (by omega)
      have HFC : Hid (¬ ChkAt cs j → R = false) := fun h => HNO.out (fun h' => h (h'.2 j (by have := HCL.out; omega)))
      clear hgc f0 f1 f2 f3 f4 f5 hmv hcs XV hdone r0
      obtain ⟨cn, hcn⟩ : ∃ cn, cn = c.name.length := ⟨_, rfl⟩
      rw [← hcn] at cc0 HRN
      clear hcn
      go_upto_region 6 with fail
      generalize hV : World.alloc wr _ = V
      have XV2 : Ext wr V := by rw [← hV]; exact hE _ _
      have PV : V.heap[wr.heap.size]? = some (.cells #[.slice ma cn mc, .int .i64 c.ttl, .int .i64 c.most, .int .i64 c.st, .int .i64 c.age, .int .i64 c.fails] 43 (0, 0)) := by rw [← hV]; exact heap_alloc_new wr _
      clear hV
      have HX2 := hidL XV2
      have HBV := hidL (hb.out.trans ((ext_bel XV2).mono hb.out.size))
      have y0 := bw_cell (at_block PV 0 _ rfl).1
      have y1 := bw_cell (at_block PV 1 _ rfl).1
      have y2 := bw_cell (at_block PV 2 _ rfl).1
      have y3 := bw_cell (at_block PV 3 _ rfl).1
      have y4 := bw_cell (at_block PV 4 _ rfl).1
      have y5 := bw_cell (at_block PV 5 _ rfl).1
      clear cc0 cc1 cc2 cc3 cc4 cc5 XV2 PV
      have nonV := bw_ne V
      obtain ⟨b1, hb1⟩ : ∃ b1, b1 = chkB c := ⟨_, rfl⟩
      have HB1 := hidL hb1
      have HCO : Hid (∀ U, Ext V U → Calls Try.prog 39 #[.agg #[.slice ma cn mc, .int .i64 c.ttl, .int .i64 c.most, .int .i64 c.st, .int .i64 c.age, .int .i64 c.fails]] U fun e w' => e = .returned (.bool b1) ∧ Below U.heap.size U w') := fun U e => by
        rw [hb1]
        exact iCheckOkV _ c U ⟨_, rfl, (HRN.out.ext HX2.out).ext e⟩
      clear hb1
      go_cut [33] from 15 to 33 (fun s33 wx => ∃ bb, s33 = .bool bb ∧ Hid (bb = true → ¬ ChkAt cs j) ∧ Hid (bb = false → ChkAt cs j) ∧ Hid (Below V.heap.size V wx))
      case first =>
        cases b1
        case false =>
          have HK : Hid (¬ ChkAt cs j) := fun h => by have h1 := (HCI.out.1 h).1; rw [← HB1.out] at h1; cases h1
          refine wp_region_bw (by kernel_rfl) (by kernel_rfl) ?_
          repeat (go_big_quiet_step ((go_at_call 39; exact bw_below (HCO.out _ (bw_ext _)))))
          refine wpQuiet_nil ?_
          rintro _ ⟨z, rfl⟩
          go_wp2_with fail
          go_meet
          exact ⟨true, rfl, fun _ => HK.out, fun h => (by cases h), z.h⟩
        case true =>
          by_cases hj0 : j = 0
          · have hkd : decide ((0 : Int) < (j : Int)) = false := decide_eq_false (by omega)
            have hkn : decide (0 < j) = false := decide_eq_false (by omega)
            have HJ0 := hidL hj0
            clear hj0
            refine wp_region_bw (by kernel_rfl) (by kernel_rfl) ?_
            repeat (go_big_quiet_step ((go_at_call 39; exact bw_below (HCO.out _ (bw_ext _)))))
            refine wpQuiet_nil ?_
            rintro _ ⟨z, rfl⟩
            go_wp2_with fail
            go_meet
            exact ⟨false, by simp, fun h => (by cases h), fun _ => HCI.out.2 ⟨HB1.out.symm, fun p h => by have := HJ0.out; omega⟩, z.h⟩
          · obtain ⟨p, hp⟩ : ∃ p, cs[j - 1]? = some p := ⟨_, List.getElem?_eq_getElem (by have := HCL.out; omega)⟩
            obtain ⟨j', rfl⟩ : ∃ j', j = j' + 1 := ⟨j - 1, by omega⟩
            have hpi : cs[j']? = some p := hp
            obtain ⟨f0, _⟩ := HD.out j' p hpi
            obtain ⟨pa, pc, hpv⟩ := rv_shape f0
            have y6 := World.grownBy.cell (HXV.out.tr HX2.out) (HGC.out j' (by omega) 0 (by omega)) (by simp)
            rw [Nat.add_zero, hpv] at y6
            rw [hpv] at f0
            have y7 := bw_cell y6
            obtain ⟨pn, hpn⟩ : ∃ pn, pn = p.name.length := ⟨_, rfl⟩
            rw [← hpn] at y7 f0
            obtain ⟨r, hr⟩ : ∃ r, r = cmpK p.name c.name := ⟨_, rfl⟩
            have HR : Hid (r < 0 ↔ ltK p.name c.name = true) := by show _ ↔ _; rw [hr]; exact cmpK_lt _ _
            have HCM : Hid (∀ U, Ext V U → Calls Try.prog 50 #[.slice pa pn pc, .slice ma cn mc] U fun e w' => e = .returned (.int .i64 r) ∧ w' = U) := fun U e => by
              rw [hr]
              exact compareE _ _ _ _ U ((f0.ext (HXV.out.tr HX2.out)).ext e) ((HRN.out.ext HX2.out).ext e)
            have HPI := hidL hpi
            have hw1 : IntKind.i64.wrap ((j' : Int) + 1 - 1) = (j' : Int) := by rw [Int.add_sub_cancel, IntKind.wrap_i64]; omega
            have hw2 : IntKind.i64.wrap (j' : Int) = (j' : Int) := by rw [IntKind.wrap_i64]; omega
            have hkd : decide ((0 : Int) < (j' : Int) + 1) = true := decide_eq_true (by omega)
            have hkm : (j' : Int) < (cl : Int) := by omega
            clear hj0 hp hpi f0 hpv y6 hpn hr
            refine wp_region_bw (by kernel_rfl) (by kernel_rfl) ?_
            repeat (go_big_quiet_step ((first | (go_at_call 39; exact bw_below (HCO.out _ (bw_ext _))) | (go_at_call 50; exact bw_same (HCM.out _ (bw_ext _))))))
            refine wpQuiet_nil ?_
            rintro _ ⟨z, rfl⟩
            go_wp2_with fail
            go_meet
            refine ⟨decide (0 ≤ r), by simp, fun h h' => ?_, fun h => HCI.out.2 ⟨HB1.out.symm, fun q _ hq => ?_⟩, z.h⟩
            · have h1 := (HCI.out.1 h').2 p (by omega) HPI.out
              have h2 := HR.out.2 h1
              have h3 := of_decide_eq_true h
              omega
            · have h2 : cs[j']? = some q := hq
              rw [HPI.out] at h2
              cases h2
              have h3 := of_decide_eq_false h
              exact HR.out.1 (by omega)
      obtain ⟨bb, rfl, HBT, HBF, HBY⟩ := hcut
      clear y0 y1 y2 y3 y4 y5
      have HZ := hidL (HBV.out.trans (HBY.out.mono HBV.out.size))
      cases bb
      · have HK := hidL (HNX.out (HBF.out rfl))
        clear HBT HBF HFC HCI
        go_wp2
        go_roundw
        case rel => exact ⟨j + 1, by omega, by go_num, HK, HZ⟩
        case measure => simp [intOf]; omega
      · have HK : Hid (R = false) := HFC.out (HBT.out rfl)
        clear HBT HBF HFC HCI
        go_wp2
        go_ret
        exact ⟨by rw [HK.out]; rfl, HZ.out⟩
    · have hjl2 : j = cl := by omega
      subst hjl2
      have HK : Hid (R = true) := HYE.out ⟨by have := HCL.out; omega, fun t ht => hdone.out t (by have := HCL.out; omega)⟩
      go_wp2
      go_ret
      exact ⟨by rw [HK.out]; rfl, hb.out⟩

def SvcP (node : List Int) (s : DSvc) : Prop := partB s.name = true ∧ keyB (placeL node s.name) = true ∧ ChksB s.checks

set_option maxRecDepth 20000 in
set_option maxHeartbeats 2000000 in
theorem iServiceOkV (nv sv : Value) (node : List Int) (s : DSvc) (w : World) (h : RV w nv node) (k : VSvc w sv s) (hn : node.length ≤ 1048576) (hl : LenSv s) :
    Calls Try.prog 49 #[nv, sv] w fun e w' => e = .returned (.bool (tB (SvcP node s))) ∧ Below w.heap.size w w' := by
  have hE : ∀ w : World, ∀ o, Ext w (w.alloc o) := fun w o => World.grownBy_alloc _ _ _
  obtain ⟨mv, cv, rfl, hm, hc⟩ := k
  obtain ⟨na, nc, rfl⟩ := rv_shape h
  obtain ⟨ma, mc, rfl⟩ := rv_shape hm
  obtain ⟨ca, cc, rfl⟩ := chks_shape hc
  obtain ⟨nn, hnn⟩ : ∃ nn, nn = node.length := ⟨_, rfl⟩
  obtain ⟨mn, hmn⟩ : ∃ mn, mn = s.name.length := ⟨_, rfl⟩
  obtain ⟨cn, hcn⟩ : ∃ cn, cn = s.checks.length := ⟨_, rfl⟩
  rw [← hnn] at h ⊢
  rw [← hmn] at hm ⊢
  rw [← hcn] at hc ⊢
  obtain ⟨R, hR⟩ : ∃ R, R = tB (SvcP node s) := ⟨_, rfl⟩
  rw [← hR]
  have HNO : Hid (¬ SvcP node s → R = false) := fun h => by rw [hR]; exact tB_false h
  have HYE : Hid (SvcP node s → R = true) := fun h => by rw [hR]; exact tB_true h
  have HP : Hid (∀ V, Ext w V → Calls Try.prog 48 #[.slice ma mn mc] V fun e w' => e = .returned (.bool (partB s.name)) ∧ w' = V) := fun V e => iPartV _ _ V (hm.ext e)
  have HQ : Hid (∀ V, Ext w V → Calls Try.prog 69 #[.slice na nn nc, .slice ma mn mc] V fun e w' => ∃ v, e = .returned v ∧ RV w' v (placeL node s.name) ∧ Below V.heap.size V w') := fun V e => (iPlaceV _ _ _ _ V (h.ext e) (hm.ext e) hn hl.1).mono fun e' w' ⟨v, h1, h2, h3⟩ => ⟨v, h1, Ow.rv h2 (placeL_rng (rv_rngK h) (rv_rngK hm)), h3⟩
  have HC : Hid (∀ V, Ext w V → Calls Try.prog 70 #[.slice ca cn cc] V fun e w' => e = .returned (.bool (tB (ChksB s.checks))) ∧ Below V.heap.size V w') := fun V e => iChecksOkV _ _ V (hc.ext e) hl.2.1
  clear h hm hc hnn hmn hcn hR
  go_enter Try.func49, Try.ntmps49
  cases hp : partB s.name
  · have HK : Hid (R = false) := HNO.out (fun h => by have h1 := h.1; rw [hp] at h1; cases h1)
    go_wp2_with (go_at_call 48; refine (HP.out _ (hE _ _)).mono ?_; rintro e w1 ⟨rfl, rfl⟩; rw [hp])
    go_ret
    exact ⟨by rw [HK.out]; rfl, ext_bel (hE _ _)⟩
  go_wp2_with (first | (go_at_call 48; refine (HP.out _ (hE _ _)).mono ?_; rintro e w1 ⟨rfl, rfl⟩; rw [hp]))
  refine (HQ.out _ (hE _ _)).mono ?_
  rintro e w2 ⟨v, rfl, rv, b2⟩
  obtain ⟨va, vc, rfl⟩ := rv_shape rv
  have HB2 := hidL ((ext_bel (hE w _)).trans (b2.mono (by simp)))
  have z1 := World.grownBy.cell (ext_below b2) (at_block (heap_alloc_new w _) 1 _ rfl).1 (by simp)
  clear b2
  cases hk : keyB (placeL node s.name)
  · have HK : Hid (R = false) := HNO.out (fun h => by have h1 := h.2.1; rw [hk] at h1; cases h1)
    go_wp2_with (go_at_call 60; refine (keyOkV _ _ _ rv).mono ?_; rintro e w1 ⟨rfl, rfl⟩; rw [hk])
    go_ret
    exact ⟨by rw [HK.out]; rfl, HB2.out⟩
  go_wp2_with (first | (go_at_call 60; refine (keyOkV _ _ _ rv).mono ?_; rintro e w1 ⟨rfl, rfl⟩; rw [hk]))
  refine (HC.out _ (ext_below HB2.out)).mono ?_
  rintro e w3 ⟨rfl, b3⟩
  have HB3 := hidL (HB2.out.trans (b3.mono HB2.out.size))
  have HK : Hid (R = tB (ChksB s.checks)) := by
    show _ = _
    by_cases hh : ChksB s.checks
    · rw [tB_true hh]; exact HYE.out ⟨hp, hk, hh⟩
    · rw [tB_false hh]; exact HNO.out (fun h => hh h.2.2)
  generalize tB (ChksB s.checks) = t at HK ⊢
  clear b3 rv z1
  go_wp2
  go_ret
  exact ⟨by rw [HK.out]; rfl, HB3.out⟩

end Go.Proofs.Ytjkhadaoldbceaa

namespace Go.Proofs.Ytjkhadaoldbceaa
open Go.RowKit

theorem svcAt_svcP {node : List Int} {ss : List DSvc} {i : Nat} {s : DSvc} (h : ss[i]? = some s) : SvcAt node ss i ↔ SvcP node s ∧ ∀ p, 0 < i → ss[i - 1]? = some p → ltK p.name s.name = true := by
  rw [svcAt_iff h]
  unfold SvcP ChksB
  constructor
  · rintro ⟨h1, h2, h3, h4, h5⟩
    exact ⟨⟨h1, h2, h3, h5⟩, h4⟩
  · rintro ⟨⟨h1, h2, h3, h5⟩, h4⟩
    exact ⟨h1, h2, h3, h4, h5⟩

set_option maxRecDepth 20000 in
set_option maxHeartbeats 4000000 in
theorem iLocalOkV (v : Value) (L : DLoc) (w : World) (h : VLoc w v L) (hl : LenLo L) :
    Calls Try.prog 28 #[v] w fun e w' => e = .returned (.bool (tB (LocP L))) ∧ Below w.heap.size w w' := by
  have hE : ∀ w : World, ∀ o, Ext w (w.alloc o) := fun w o => World.grownBy_alloc _ _ _
  obtain ⟨nv, sv, rfl, hn, hs⟩ := h
  have HL := hidL hl
  obtain ⟨na, nc, hnv⟩ := rv_shape hn
  obtain ⟨nn, hnn⟩ : ∃ nn, nn = L.node.length := ⟨_, rfl⟩
  rw [← hnn] at hnv
  subst hnv
  have HNV : Hid (RV w (.slice na nn nc) L.node) := hn
  obtain ⟨C, ⟨a, sc, rfl, q1, q2, q3⟩, hC⟩ := hs
  obtain ⟨m, hm⟩ : ∃ m, m = L.svcs.length := ⟨_, rfl⟩
  have HM := hidL hm
  have HC : Hid (∀ i d, L.svcs[i]? = some d → RV w (C i 0) d.name ∧ VChks w (C i 1) d.checks) := hC
  rw [← hm] at q1 q3 ⊢
  have H3 : Hid (0 < m → ∃ b o, a = some ⟨b, o, none⟩ ∧ b < w.heap.size ∧ ∀ i, i < m → ∀ j, j < 2 → w.cell? ⟨b, o + i * 2 + j, none⟩ = some (C i j)) := q3
  have hmm : (m : Int) ≤ 1048576 := by have := hl.2.1; omega
  obtain ⟨R, hR⟩ : ∃ R, R = tB (LocP L) := ⟨_, rfl⟩
  rw [← hR]
  have HNO : Hid (¬ LocP L → R = false) := fun h => by rw [hR]; exact tB_false h
  have HYE : Hid (LocP L → R = true) := fun h => by rw [hR]; exact tB_true h
  unfold maxLen at q2
  clear hn hnn hC hm q3 hR hl
  go_enter Try.func28, Try.ntmps28
  go_wp2_with fail
  generalize hW : World.alloc w _ = W
  have XW : Ext w W := by rw [← hW]; exact hE _ _
  have P0 : W.heap[w.heap.size]? = some (.cells #[.slice na nn nc, .slice a m sc] 29 (0, 0)) := by rw [← hW]; exact heap_alloc_new w _
  clear hW
  refine (iPartV (.slice na nn nc) L.node W (HNV.out.ext XW)).mono ?_
  rintro e w1 ⟨rfl, rfl⟩
  have HP0 := hidL P0
  have HXW := hidL XW
  obtain ⟨p0, f0⟩ := at_block P0 0 _ rfl
  obtain ⟨p1, f1⟩ := at_block P0 1 _ rfl
  clear P0 XW f0 f1
  cases hb : partB L.node
  · have HK : Hid (R = false) := HNO.out (fun h => by have h1 := h.1; rw [hb] at h1; cases h1)
    clear hb
    go_wp2
    go_ret
    exact ⟨by rw [HK.out]; rfl, ext_bel HXW.out⟩
  have HNB := hidL hb
  clear hb
  by_cases h6 : 6 < m
  · have HK : Hid (R = false) := HNO.out (fun h => by have := h.2.1; have := HM.out; omega)
    have h6' : (6 : Int) < (m : Int) := by omega
    go_wp2
    go_ret
    exact ⟨by rw [HK.out]; rfl, ext_bel HXW.out⟩
  have h6' : ¬ (6 : Int) < (m : Int) := by omega
  go_wp2
  go_loopw [18] (fun i wr => ∃ k : Nat, k ≤ m ∧ i = .int .i64 k ∧ Hid (∀ j, j < k → SvcAt L.node L.svcs j) ∧ Hid (Ext w1 wr)) (fun i _ => m - (intOf i).toNat)
  case atStart => exact ⟨0, Nat.zero_le _, rfl, fun j hj => absurd hj (by omega), grown_same _ _⟩
  case round =>
    obtain ⟨k, hk, rfl, hall, hX⟩ := hrel
    clear p0 p1
    have PX := ext_blk hX.out HP0.out
    obtain ⟨p0, f0⟩ := at_block PX 0 _ rfl
    obtain ⟨p1, f1⟩ := at_block PX 1 _ rfl
    clear PX f0 f1
    by_cases hlt : k < m
    · obtain ⟨b, o, rfl, hbl, hc⟩ := H3.out (by omega)
      obtain ⟨s, hs⟩ : ∃ s, L.svcs[k]? = some s := ⟨_, List.getElem?_eq_getElem (by have := HM.out; omega)⟩
      obtain ⟨e0, e1⟩ := HC.out k s hs
      have HLS := hidL (HL.out.2.2 k s hs)
      have HXA := hidL (HXW.out.tr hX.out)
      obtain ⟨ka, kc, hkv⟩ := rv_shape e0
      obtain ⟨cb, cd, hcv⟩ := chks_shape e1
      obtain ⟨kl, hkl⟩ : ∃ kl, kl = s.name.length := ⟨_, rfl⟩
      obtain ⟨cl, hcl⟩ : ∃ cl, cl = s.checks.length := ⟨_, rfl⟩
      rw [← hkl] at hkv
      rw [← hcl] at hcv
      rw [hkv] at e0
      rw [hcv] at e1
      have x0 := World.grownBy.cell HXA.out (hc k hlt 0 (by omega)) (by simp)
      rw [Nat.add_zero, hkv] at x0
      have x1 := World.grownBy.cell HXA.out (hc k hlt 1 (by omega)) (by simp)
      rw [hcv] at x1
      have HCB := hidL (show ∀ i, i < m → ∀ j, j < 2 → w.cell? ⟨b, o + i * 2 + j, none⟩ = some (C i j) from hc)
      have HNM : Hid (RV wr (.slice ka kl kc) s.name) := e0.ext HXA.out
      have HCK : Hid (VChks wr (.slice cb cl cd) s.checks) := e1.ext HXA.out
      have HSI := hidL (svcAt_svcP (node := L.node) hs)
      have hlt' : (k : Int) < (m : Int) := by omega
      have HAA : Hid (SvcAt L.node L.svcs k → ∀ j, j < k + 1 → SvcAt L.node L.svcs j) := fun h j hj => by
        by_cases e : j = k
        · subst e; exact h
        · exact hall.out j (by omega)
      have HF : Hid (¬ SvcAt L.node L.svcs k → R = false) := fun h => HNO.out (fun h' => h (h'.2.2 k (by have := HM.out; omega)))
      have HSS := hidL hs
      clear hc hkv hcv e0 e1 hs hall hkl hcl
      go_upto_region 6 with fail
      generalize hU : World.alloc wr _ = U
      have XU : Ext wr U := by rw [← hU]; exact hE _ _
      have PU : U.heap[wr.heap.size]? = some (.cells #[.slice ka kl kc, .slice cb cl cd] 54 (0, 0)) := by rw [← hU]; exact heap_alloc_new wr _
      clear hU
      have HXU := hidL XU
      have HBU := hidL (ext_bel (HXA.out.tr XU))
      obtain ⟨b1, hb1⟩ : ∃ b1, b1 = tB (SvcP L.node s) := ⟨_, rfl⟩
      have HB1 := hidL hb1
      have HSV : Hid (∀ V, Ext U V → Calls Try.prog 49 #[.slice na nn nc, .agg #[.slice ka kl kc, .slice cb cl cd]] V fun e w' => e = .returned (.bool b1) ∧ Below V.heap.size V w') := fun V e => by
        rw [hb1]
        exact iServiceOkV _ _ L.node s V ((HNV.out.ext (HXA.out.tr HXU.out)).ext e) ⟨_, _, rfl, (HNM.out.ext HXU.out).ext e, (HCK.out.ext HXU.out).ext e⟩ HL.out.1 HLS.out
      clear hb1
      have z0 := bw_cell (at_block PU 0 _ rfl).1
      have z1 := bw_cell (at_block PU 1 _ rfl).1
      have z2 := bw_cell (World.grownBy.cell XU p0 (by simp))
      have z3 := bw_cell (World.grownBy.cell XU p1 (by simp))
      clear p0 p1 x0 x1 XU PU
      have nonV := bw_ne U
      go_cut [44] from 23 to 44 (fun s44 wx => ∃ bb, s44 = .bool bb ∧ Hid (bb = true → ¬ SvcAt L.node L.svcs k) ∧ Hid (bb = false → SvcAt L.node L.svcs k) ∧ Hid (Below U.heap.size U wx))
      case first =>
        cases b1
        case false =>
          have HK : Hid (¬ SvcAt L.node L.svcs k) := fun h => by have h1 := tB_true (HSI.out.1 h).1; rw [← HB1.out] at h1; cases h1
          refine wp_region_bw (by kernel_rfl) (by kernel_rfl) ?_
          repeat (go_big_quiet_step ((go_at_call 49; exact bw_below (HSV.out _ (bw_ext _)))))
          refine wpQuiet_nil ?_
          rintro _ ⟨z, rfl⟩
          go_wp2_with fail
          go_meet
          exact ⟨true, rfl, fun _ => HK.out, fun h => (by cases h), z.h⟩
        case true =>
          have HSP : Hid (SvcP L.node s) := tB_iff.1 HB1.out.symm
          by_cases hk0 : k = 0
          · have hkd : decide ((0 : Int) < (k : Int)) = false := decide_eq_false (by omega)
            have hkn : decide (0 < k) = false := decide_eq_false (by omega)
            have HK0 := hidL hk0
            clear hk0
            refine wp_region_bw (by kernel_rfl) (by kernel_rfl) ?_
            repeat (go_big_quiet_step ((go_at_call 49; exact bw_below (HSV.out _ (bw_ext _)))))
            refine wpQuiet_nil ?_
            rintro _ ⟨z, rfl⟩
            go_wp2_with fail
            go_meet
            exact ⟨false, by simp, fun h => (by cases h), fun _ => HSI.out.2 ⟨HSP.out, fun p h => by have := HK0.out; omega⟩, z.h⟩
          · obtain ⟨p, hp⟩ : ∃ p, L.svcs[k - 1]? = some p := ⟨_, List.getElem?_eq_getElem (by have := HM.out; omega)⟩
            obtain ⟨k', rfl⟩ : ∃ k', k = k' + 1 := ⟨k - 1, by omega⟩
            have hpi : L.svcs[k']? = some p := hp
            obtain ⟨f0, _⟩ := HC.out k' p hpi
            obtain ⟨pa, pc, hpv⟩ := rv_shape f0
            have y6 := World.grownBy.cell (HXA.out.tr HXU.out) (HCB.out k' (by omega) 0 (by omega)) (by simp)
            rw [Nat.add_zero, hpv] at y6
            rw [hpv] at f0
            have y7 := bw_cell y6
            obtain ⟨pn, hpn⟩ : ∃ pn, pn = p.name.length := ⟨_, rfl⟩
            rw [← hpn] at y7 f0
            obtain ⟨r, hr⟩ : ∃ r, r = cmpK p.name s.name := ⟨_, rfl⟩
            have HR : Hid (r < 0 ↔ ltK p.name s.name = true) := by show _ ↔ _; rw [hr]; exact cmpK_lt _ _
            have HCM : Hid (∀ V, Ext U V → Calls Try.prog 50 #[.slice pa pn pc, .slice ka kl kc] V fun e w' => e = .returned (.int .i64 r) ∧ w' = V) := fun V e => by
              rw [hr]
              exact compareE _ _ _ _ V ((f0.ext (HXA.out.tr HXU.out)).ext e) ((HNM.out.ext HXU.out).ext e)
            have HPI := hidL hpi
            have hw1 : IntKind.i64.wrap ((k' : Int) + 1 - 1) = (k' : Int) := by rw [Int.add_sub_cancel, IntKind.wrap_i64]; omega
            have hw2 : IntKind.i64.wrap (k' : Int) = (k' : Int) := by rw [IntKind.wrap_i64]; omega
            have hkd : decide ((0 : Int) < (k' : Int) + 1) = true := decide_eq_true (by omega)
            have hkm : (k' : Int) < (m : Int) := by omega
            clear hk0 hp hpi f0 hpv y6 hpn hr
            refine wp_region_bw (by kernel_rfl) (by kernel_rfl) ?_
            repeat (go_big_quiet_step ((first | (go_at_call 49; exact bw_below (HSV.out _ (bw_ext _))) | (go_at_call 50; exact bw_same (HCM.out _ (bw_ext _))))))
            refine wpQuiet_nil ?_
            rintro _ ⟨z, rfl⟩
            go_wp2_with fail
            go_meet
            refine ⟨decide (0 ≤ r), by simp, fun h h' => ?_, fun h => HSI.out.2 ⟨HSP.out, fun q _ hq => ?_⟩, z.h⟩
            · have h1 := (HSI.out.1 h').2 p (by omega) HPI.out
              have h2 := HR.out.2 h1
              have h3 := of_decide_eq_true h
              omega
            · have h2 : L.svcs[k']? = some q := hq
              rw [HPI.out] at h2
              cases h2
              have h3 := of_decide_eq_false h
              exact HR.out.1 (by omega)
      obtain ⟨bb, rfl, HBT, HBF, HBX⟩ := hcut
      clear z0 z1 z2 z3
      cases bb
      · have HK := hidL (HAA.out (HBF.out rfl))
        have HZ := hidL (hX.out.tr (HXU.out.tr (ext_below HBX.out)))
        clear HBT HBF HF HSI HAA
        go_wp2
        go_roundw
        case rel => exact ⟨k + 1, by omega, by go_num, HK, HZ⟩
        case measure => simp [intOf]; omega
      · have HK : Hid (R = false) := HF.out (HBT.out rfl)
        have HZ := hidL (HBU.out.trans (HBX.out.mono HBU.out.size))
        clear HBT HBF HF HSI HAA
        go_wp2
        go_ret
        exact ⟨by rw [HK.out]; rfl, HZ.out⟩
    · have hkm : k = m := by omega
      subst hkm
      have HK : Hid (R = true) := HYE.out ⟨HNB.out, by have := HM.out; omega, fun i hi => hall.out i (by have := HM.out; omega)⟩
      have HZ := hidL (ext_bel (HXW.out.tr hX.out))
      clear H3
      go_wp2
      go_ret
      exact ⟨by rw [HK.out]; rfl, HZ.out⟩

end Go.Proofs.Ytjkhadaoldbceaa

namespace Go.Proofs.Ytjkhadaoldbceaa
open Go.RowKit

/-- One service of a row: its parts; and what other checks leave. -/
theorem svc_focus {S : Nat → Prop} {w : World} {sv : Value} {xs : List DSvc} (h : OW 54 2 ownV S w sv xs) {i : Nat} {s : DSvc} (hs : xs[i]? = some s) :
    ∃ g cap nv cv B, sv = .slice (some ⟨g, 0, none⟩) xs.length cap ∧ S g ∧ g < w.heap.size ∧ w.cell? ⟨g, i * 2, none⟩ = some nv ∧ w.cell? ⟨g, i * 2 + 1, none⟩ = some cv ∧ RV w nv s.name ∧ OKD B w cv s.checks ∧ (∀ b, B b → S b) ∧
      ∀ cs' w' (R : Nat → Prop), OKD (fun b => B b ∨ R b) w' cv cs' → Trn B w w' → (∀ b, R b → ¬ S b) → OW 54 2 ownV (fun b => S b ∨ R b) w' sv (xs.set i ⟨s.name, cs'⟩) := by
  have hi := (List.getElem?_eq_some_iff.1 hs).1
  rcases h.cases with ⟨_, _, _, _, h0⟩ | ⟨g, cap, F, N, hv, hB⟩
  · rw [h0] at hi; simp at hi
  obtain ⟨A, B, h1, h2, h3, h4, h5⟩ := hB.own i s hs
  have q0 := hB.cell i 0 hi (by omega)
  have q1 := hB.cell i 1 hi (by omega)
  rw [Nat.add_zero] at q0
  refine ⟨g, cap, F i 0, F i 1, B, hv, hB.at_, blk_lt hB.blk, q0, q1, h1.rv, h2, fun b hb => (hB.rng i b (h5 b hb)).1, fun cs' w' R hk t hR => ?_⟩
  have hgn : ¬ B g := fun e => (hB.rng i g (h5 g e)).2 rfl
  have hbS : Blk w' g 54 2 cap xs.length (updR F i (F i)) := blk_congr (blk_kept hB.blk (t.block g (blk_lt hB.blk) hgn)) fun a _ d _ => by
    by_cases e : a = i
    · subst e; rw [updR_at]
    · rw [updR_ne _ _ _ e]
  have p3 := hB.put (G := F i) (M := fun b => N i b ∨ R b) (R := R) (x := (⟨s.name, cs'⟩ : DSvc)) keepsV hi hbS ⟨A, fun b => B b ∨ R b, h1.keep t h3, hk, fun b ha hb => by
    rcases hb with hb | hb
    · exact h3 b ha hb
    · exact hR b hb (hB.rng i b (h4 b ha)).1, fun b ha => .inl (h4 b ha), fun b hb => hb.imp (h5 b) id⟩ (fun b hb => by
    rcases hb with hb | hb
    · exact ⟨(hB.rng i b hb).2, .inl hb⟩
    · exact ⟨fun e => hR b hb (by rw [e]; exact hB.at_), .inr hb⟩) hR (t.mono (fun b e => .inr (h5 b e)))
  have p4 := p3.ow
  rw [List.length_set] at p4
  rw [hv]
  exact p4
theorem tkL_set2 {n : Int} {ss : List DSvc} {i : Nat} {s : DSvc} (h : ss[i]? = some s) : (tkL n ss i 0).set i ⟨s.name, s.checks.map (fun c => (tickD c n).1)⟩ = tkL n ss (i + 1) 0 := by
  apply List.ext_getElem?
  intro a
  have hi := (List.getElem?_eq_some_iff.1 h).1
  by_cases e : a = i
  · subst e
    rw [List.getElem?_set_self (by rw [tkL_len]; exact hi), tkL_get h, if_pos (by omega)]
    rfl
  · rw [List.getElem?_set_ne (Ne.symm e)]
    cases ha : ss[a]? with
    | none =>
      have := List.getElem?_eq_none_iff.1 ha
      rw [List.getElem?_eq_none (by rw [tkL_len]; exact this), List.getElem?_eq_none (by rw [tkL_len]; exact this)]
    | some r =>
      rw [tkL_get ha, tkL_get ha, if_neg e]
      by_cases e1 : a < i
      · rw [if_pos e1, if_pos (by omega)]
      · rw [if_neg e1, if_neg (by omega)]
        by_cases e3 : a = i + 1
        · rw [if_pos e3]
          congr 1
          obtain ⟨nm, cs⟩ := r
          congr 1
          apply List.ext_getElem?
          intro b
          rw [List.getElem?_mapIdx]
          cases cs[b]? <;> simp
        · rw [if_neg e3]
theorem tkL_at {n : Int} {ss : List DSvc} {i : Nat} {s : DSvc} (h : ss[i]? = some s) : (tkL n ss i 0)[i]? = some s := by
  rw [tkL_get h, if_neg (Nat.lt_irrefl i), if_pos rfl]
  congr 1
  obtain ⟨nm, cs⟩ := s
  congr 1
  apply List.ext_getElem?
  intro b
  rw [List.getElem?_mapIdx]
  cases cs[b]? <;> simp

end Go.Proofs.Ytjkhadaoldbceaa

namespace Go.Proofs.Ytjkhadaoldbceaa
open Go.RowKit

/-- The law's argument, the specification's answer, the program's argument and its answer: each in its own range of blocks. -/
structure LKL (w W : World) (av : Array Value) (sn ss xn xs gn gs : Value) (slo shi bs xlo xhi bx glo ghi bg : Nat) (R DX RG : DLoc) : Prop where
  ord : w.heap.size < slo ∧ slo ≤ shi ∧ shi ≤ bs ∧ bs < xlo ∧ xlo ≤ xhi ∧ xhi ≤ bx ∧ bx < glo ∧ glo ≤ ghi ∧ ghi ≤ bg ∧ bg < W.heap.size
  low : Below w.heap.size w W
  a : W.heap[w.heap.size]? = some (.cells av 25 (0, 0))
  s : W.heap[bs]? = some (.cells #[sn, ss] 29 (0, 0))
  x : W.heap[bx]? = some (.cells #[xn, xs] 29 (0, 0))
  g : W.heap[bg]? = some (.cells #[gn, gs] 29 (0, 0))
  sO : OLD (Rg slo shi) W sn ss R
  xO : OLD (Rg xlo xhi) W xn xs DX
  gO : OLD (Rg glo ghi) W gn gs RG
theorem LKL.grow {w W : World} {av : Array Value} {sn ss xn xs gn gs : Value} {slo shi bs xlo xhi bx glo ghi bg : Nat} {R DX RG : DLoc} {W' : World} (h : LKL w W av sn ss xn xs gn gs slo shi bs xlo xhi bx glo ghi bg R DX RG) (b : Below W.heap.size W W') : LKL w W' av sn ss xn xs gn gs slo shi bs xlo xhi bx glo ghi bg R DX RG := by
  have e := ext_below b
  have o := h.ord
  exact ⟨⟨o.1, o.2.1, o.2.2.1, o.2.2.2.1, o.2.2.2.2.1, o.2.2.2.2.2.1, o.2.2.2.2.2.2.1, o.2.2.2.2.2.2.2.1, o.2.2.2.2.2.2.2.2.1, Nat.lt_of_lt_of_le o.2.2.2.2.2.2.2.2.2 b.size⟩, h.low.trans (b.mono h.low.size), ext_blk e h.a, ext_blk e h.s, ext_blk e h.x, ext_blk e h.g, h.sO.ext e, h.xO.ext e, h.gO.ext e⟩
theorem LKL.turnX {w W : World} {av : Array Value} {sn ss xn xs gn gs : Value} {slo shi bs xlo xhi bx glo ghi bg : Nat} {R DX RG : DLoc} {W' : World} {D2 : DLoc} (h : LKL w W av sn ss xn xs gn gs slo shi bs xlo xhi bx glo ghi bg R DX RG) (t : Trn (Rg xlo xhi) W W') (x2 : OLD (Rg xlo xhi) W' xn xs D2) : LKL w W' av sn ss xn xs gn gs slo shi bs xlo xhi bx glo ghi bg R D2 RG := by
  have o := h.ord
  have f := fun k (hk : k < W.heap.size) (hn : ¬ Rg xlo xhi k) => t.block k hk hn
  refine ⟨⟨o.1, o.2.1, o.2.2.1, o.2.2.2.1, o.2.2.2.2.1, o.2.2.2.2.2.1, o.2.2.2.2.2.2.1, o.2.2.2.2.2.2.2.1, o.2.2.2.2.2.2.2.2.1, Nat.lt_of_lt_of_le o.2.2.2.2.2.2.2.2.2 t.size⟩, Trn.below h.low t h.low.size (fun b hb => by have := hb.1; omega), (f _ (by omega) (fun e => by have := e.1; omega)).trans h.a, (f _ (by omega) (fun e => by have := e.1; omega)).trans h.s, (f _ (by omega) (fun e => by have := e.2; omega)).trans h.x, (f _ (by omega) (fun e => by have := e.2; omega)).trans h.g, h.sO.keep t (fun b h1 h2 => by have := h1.2; have := h2.1; omega), x2, h.gO.keep t (fun b h1 h2 => by have := h1.1; have := h2.2; omega)⟩
theorem LKL.turnG {w W : World} {av : Array Value} {sn ss xn xs gn gs : Value} {slo shi bs xlo xhi bx glo ghi bg : Nat} {R DX RG : DLoc} {W' : World} {D2 : DLoc} (h : LKL w W av sn ss xn xs gn gs slo shi bs xlo xhi bx glo ghi bg R DX RG) (t : Trn (Rg glo ghi) W W') (g2 : OLD (Rg glo ghi) W' gn gs D2) : LKL w W' av sn ss xn xs gn gs slo shi bs xlo xhi bx glo ghi bg R DX D2 := by
  have o := h.ord
  have f := fun k (hk : k < W.heap.size) (hn : ¬ Rg glo ghi k) => t.block k hk hn
  refine ⟨⟨o.1, o.2.1, o.2.2.1, o.2.2.2.1, o.2.2.2.2.1, o.2.2.2.2.2.1, o.2.2.2.2.2.2.1, o.2.2.2.2.2.2.2.1, o.2.2.2.2.2.2.2.2.1, Nat.lt_of_lt_of_le o.2.2.2.2.2.2.2.2.2 t.size⟩, Trn.below h.low t h.low.size (fun b hb => by have := hb.1; omega), (f _ (by omega) (fun e => by have := e.1; omega)).trans h.a, (f _ (by omega) (fun e => by have := e.1; omega)).trans h.s, (f _ (by omega) (fun e => by have := e.1; omega)).trans h.x, (f _ (by omega) (fun e => by have := e.2; omega)).trans h.g, h.sO.keep t (fun b h1 h2 => by have := h1.2; have := h2.1; omega), h.xO.keep t (fun b h1 h2 => by have := h1.2; have := h2.1; omega), g2⟩
theorem zM_le (s : DSvc) : zM s ≤ 5 * zSv s := by unfold zM zSv; omega
theorem sM_le (ss : List DSvc) : sM ss ≤ 5 * sSv ss := by
  unfold sM sSv
  induction ss with
  | nil => simp
  | cons s r ih =>
    have := zM_le s
    simp only [List.map_cons, List.sum_cons]
    omega
theorem lenLM_of {d : DLoc} (h : zLo d ≤ 1048576) : LenLM d := by
  have h1 := sM_le d.svcs
  have h2 := h
  unfold zLo at h2
  refine ⟨by omega, by omega, by omega, fun i s hs => ?_⟩
  have h3 := lenSv_of (s := s) (by have := sum_mem zSv d.svcs i s hs; have h5 : (d.svcs.map zSv).sum = sSv d.svcs := rfl; omega)
  refine ⟨h3.1, ?_, h3.2.2⟩
  have h4 := sum_mem zM d.svcs i s hs
  have h5 : (d.svcs.map zM).sum = sM d.svcs := rfl
  have h6 : zM s = s.name.length + (s.checks.length * 5 + sK s.checks) := rfl
  omega
theorem sK_tick (n : Int) (cs : List DChk) : sK (cs.map (fun c => (tickD c n).1)) = sK cs := by
  unfold sK
  rw [List.map_map]
  congr 1
  apply List.map_congr_left
  intro c _
  show zK _ = zK _
  unfold zK
  rw [tickD_name]
theorem zLo_tick (ok : Bool) (L : DLoc) (n : Int) : zLo (tickLX ok L n).1 ≤ zLo L := by
  unfold tickLX
  split
  · unfold zLo
    simp only [List.length_map]
    have : sSv (L.svcs.map (tickS n)) = sSv L.svcs := by
      unfold sSv
      rw [List.map_map]
      congr 1
      apply List.map_congr_left
      intro s _
      show zSv _ = zSv _
      unfold zSv tickS
      simp only [List.length_map]
      rw [sK_tick]
    omega
  · simp [zLo, zeroLoc, sSv]

end Go.Proofs.Ytjkhadaoldbceaa

namespace Go.Proofs.Ytjkhadaoldbceaa
open Go.RowKit

/-- Where the first one is, or -1. -/
def fnd {α : Type} (p : α → Bool) (l : List α) : Int := match l.findIdx? p with | some j => (j : Int) | none => -1
theorem fnd_at {α : Type} {p : α → Bool} {l : List α} {k : Nat} {x : α} (h : ∀ i y, i < k → l[i]? = some y → p y = false) (hx : l[k]? = some x) (hp : p x = true) : fnd p l = k := by
  obtain ⟨hk, e⟩ := List.getElem?_eq_some_iff.1 hx
  have : l.findIdx? p = some k := by
    rw [List.findIdx?_eq_some_iff_getElem]
    refine ⟨hk, by rw [e]; exact hp, fun j hj => ?_⟩
    have := h j l[j] hj (List.getElem?_eq_getElem (by omega))
    simp [this]
  unfold fnd
  rw [this]
theorem fnd_none {α : Type} {p : α → Bool} {l : List α} (h : ∀ (i : Nat) (y : α), l[i]? = some y → p y = false) : fnd p l = -1 := by
  have : l.findIdx? p = none := by
    rw [List.findIdx?_eq_none_iff]
    intro x hx
    obtain ⟨i, hi⟩ := List.getElem?_of_mem hx
    simpa using h i x hi
  unfold fnd
  rw [this]
theorem fnd_neg {α : Type} {p : α → Bool} {l : List α} (h : fnd p l < 0) : ∀ (i : Nat) (y : α), l[i]? = some y → p y = false := by
  unfold fnd at h
  cases e : l.findIdx? p with
  | none =>
    intro i y hy
    rw [List.findIdx?_eq_none_iff] at e
    have := e y (List.mem_of_getElem? hy)
    simpa using this
  | some j => rw [e] at h; simp at h <;> omega
theorem fnd_le {α : Type} (p : α → Bool) (l : List α) : -1 ≤ fnd p l ∧ fnd p l ≤ l.length := by
  unfold fnd
  cases e : l.findIdx? p with
  | none => simp
  | some j =>
    rw [List.findIdx?_eq_some_iff_getElem] at e
    obtain ⟨h, _⟩ := e
    simp
    omega
theorem fnd_hit {α : Type} {p : α → Bool} {l : List α} (h : 0 ≤ fnd p l) : ∃ (j : Nat) (x : α), fnd p l = (j : Int) ∧ l[j]? = some x ∧ p x = true ∧ ∀ i y, i < j → l[i]? = some y → p y = false := by
  unfold fnd at h ⊢
  cases e : l.findIdx? p with
  | none => rw [e] at h; simp at h
  | some j =>
    rw [List.findIdx?_eq_some_iff_getElem] at e
    obtain ⟨hj, h1, h2⟩ := e
    refine ⟨j, l[j], rfl, List.getElem?_eq_getElem hj, h1, fun i y hi hy => ?_⟩
    obtain ⟨hil, rfl⟩ := List.getElem?_eq_some_iff.1 hy
    simpa using h2 i hi

end Go.Proofs.Ytjkhadaoldbceaa

namespace Go.Proofs.Ytjkhadaoldbceaa
open Go.RowKit

theorem cmpB_gtF : ∀ (a b : List UInt8), 0 < Lib.compareBytes a b ↔ Op.bytesLess b a = true
  | [], [] => by simp [Lib.compareBytes, Op.bytesLess]
  | [], _ :: _ => by simp [Lib.compareBytes, Op.bytesLess]
  | _ :: _, [] => by simp [Lib.compareBytes, Op.bytesLess]
  | x :: a, y :: b => by
    have ih := cmpB_gtF a b
    unfold Lib.compareBytes Op.bytesLess
    by_cases h : x < y
    · have h' : ¬ y < x := fun h2 => UInt8.lt_irrefl _ (UInt8.lt_trans h h2)
      have hne : ¬ y = x := fun e => by subst e; exact UInt8.lt_irrefl _ h
      simp [h, h', hne]
    · by_cases h' : y < x
      · simp [h, h']
      · have he : x = y := UInt8.le_antisymm (UInt8.not_lt.1 h') (UInt8.not_lt.1 h)
        subst he
        simp [h, ih]
theorem cmpB_eqF : ∀ (a b : List UInt8), Lib.compareBytes a b = 0 → a = b
  | [], [] => fun _ => rfl
  | [], _ :: _ => by simp [Lib.compareBytes]
  | _ :: _, [] => by simp [Lib.compareBytes]
  | x :: a, y :: b => fun h0 => by
    have ih := cmpB_eqF a b
    unfold Lib.compareBytes at h0
    by_cases h : x < y
    · simp [h] at h0
    · by_cases h' : y < x
      · simp [h, h'] at h0
      · have he : x = y := UInt8.le_antisymm (UInt8.not_lt.1 h') (UInt8.not_lt.1 h)
        subst he
        simp [h] at h0
        rw [ih h0]
theorem blF_trans : ∀ (a b c : List UInt8), Op.bytesLess a b = true → Op.bytesLess b c = true → Op.bytesLess a c = true
  | _, [], _ => fun h => by simp [Op.bytesLess] at h
  | _, _ :: _, [] => fun _ h => by simp [Op.bytesLess] at h
  | [], _ :: _, _ :: _ => fun _ _ => by simp [Op.bytesLess]
  | x :: a, y :: b, z :: c => fun h1 h2 => by
    simp only [Op.bytesLess, Bool.or_eq_true, Bool.and_eq_true, decide_eq_true_eq, beq_iff_eq] at h1 h2 ⊢
    rcases h1 with h1 | ⟨rfl, h1⟩
    · rcases h2 with h2 | ⟨rfl, h2⟩
      · exact .inl (UInt8.lt_trans h1 h2)
      · exact .inl h1
    · rcases h2 with h2 | ⟨rfl, h2⟩
      · exact .inl h2
      · exact .inr ⟨rfl, blF_trans a b c h1 h2⟩
theorem blF_irr : ∀ a : List UInt8, Op.bytesLess a a = false
  | [] => rfl
  | x :: a => by simp [Op.bytesLess, blF_irr a, UInt8.lt_irrefl]
theorem ltF_trans {a b c : List Int} (h1 : ltK a b = true) (h2 : ltK b c = true) : ltK a c = true := blF_trans _ _ _ h1 h2
theorem ltF_irr (a : List Int) : ltK a a = false := blF_irr _
theorem cmpF_gt (xs ys : List Int) : 0 < cmpK xs ys ↔ ltK ys xs = true := by
  rw [cmpK, cmpB_gtF, ltK, ByteArray.toList_eq, ByteArray.toList_eq]
theorem cmpF_self (xs : List Int) : cmpK xs xs = 0 := by
  have h1 := cmpK_lt xs xs
  have h2 := cmpF_gt xs xs
  rw [ltF_irr] at h1 h2
  have h3 : ¬ cmpK xs xs < 0 := fun h => by have := h1.1 h; cases this
  have h4 : ¬ 0 < cmpK xs xs := fun h => by have := h2.1 h; cases this
  omega
theorem cmpF_eq {xs ys : List Int} (hx : ∀ x ∈ xs, 0 ≤ x ∧ x ≤ 255) (hy : ∀ x ∈ ys, 0 ≤ x ∧ x ≤ 255) (h : cmpK xs ys = 0) : xs = ys := by
  have h1 := cmpB_eqF _ _ h
  have h2 := str_eq xs ys hx hy
  rw [ByteArray.toList_eq, ByteArray.toList_eq, h1] at h2
  simpa using h2.symm

/-- The names ascend. -/
def AscF (ns : List (List Int)) : Prop := ∀ (i j : Nat) a b, i < j → ns[i]? = some a → ns[j]? = some b → ltK a b = true
theorem ascF_of {ns : List (List Int)} (h : ∀ (i : Nat) a b, ns[i]? = some a → ns[i + 1]? = some b → ltK a b = true) : AscF ns := by
  intro i j a b hij ha hb
  obtain ⟨k, rfl⟩ : ∃ k, j = i + 1 + k := ⟨j - (i + 1), by omega⟩
  clear hij
  induction k generalizing b with
  | zero => exact h i a b ha hb
  | succ k ih =>
    obtain ⟨c, hc⟩ : ∃ c, ns[i + 1 + k]? = some c := ⟨_, List.getElem?_eq_getElem (by have := (List.getElem?_eq_some_iff.1 hb).1; omega)⟩
    exact ltF_trans (ih c hc) (h (i + 1 + k) c b hc hb)
theorem ascF_svcs {node : List Int} {ss : List DSvc} (h : ∀ i, i < ss.length → SvcAt node ss i) : AscF (ss.map (·.name)) := ascF_of fun i a b ha hb => by
  rw [List.getElem?_map, Option.map_eq_some_iff] at ha hb
  obtain ⟨s, hs, rfl⟩ := ha
  obtain ⟨t, ht, rfl⟩ := hb
  exact (h (i + 1) (List.getElem?_eq_some_iff.1 ht).1 t ht).2.2.2.1 s (by omega) hs
theorem ascF_chks {cs : List DChk} (h : ChksP cs) : AscF (cs.map (·.name)) := ascF_of fun i a b ha hb => by
  rw [List.getElem?_map, Option.map_eq_some_iff] at ha hb
  obtain ⟨s, hs, rfl⟩ := ha
  obtain ⟨t, ht, rfl⟩ := hb
  exact (h (i + 1) (List.getElem?_eq_some_iff.1 ht).1 t ht).2 s (by omega) hs

/-- What a search by bytes.Compare answers: the place, and whether the name is there. -/
def FndF (ns : List (List Int)) (ks : List Int) (w : World) (e : Ending) (w' : World) : Prop :=
  ∃ (t : Nat) (fb : Bool), e = .returned (.tuple #[.int .i64 t, .bool fb]) ∧ Below w.heap.size w w' ∧ t ≤ ns.length ∧ (∀ (i : Nat) a, i < t → ns[i]? = some a → ltK a ks = true) ∧ (∀ (i : Nat) a, t ≤ i → ns[i]? = some a → ltK a ks = false) ∧ (fb = true → ns[t]? = some ks) ∧ (fb = false → ∀ (i : Nat) a, ns[i]? = some a → a ≠ ks)

end Go.Proofs.Ytjkhadaoldbceaa

namespace Go.Proofs.Ytjkhadaoldbceaa
open Go.RowKit

theorem skipF_lo {i a : Nat} {F : Nat → Nat → Value} (h : a < i) : skipF i F a = F a := by funext j; unfold skipF; rw [if_pos h]
theorem skipF_hi {i a : Nat} {F : Nat → Nat → Value} (h : ¬ a < i) : skipF i F a = F (a + 1) := by funext j; unfold skipF; rw [if_neg h]
def skipN (i : Nat) (N : Nat → Nat → Prop) : Nat → Nat → Prop := fun a => if a < i then N a else N (a + 1)
theorem skipN_at (i a : Nat) (N : Nat → Nat → Prop) : skipN i N a = N (if a < i then a else a + 1) := by unfold skipN; split <;> rfl
section
variable {α : Type} {T K : Nat} {own : (Nat → Prop) → World → (Nat → Value) → α → Prop} {S : Nat → Prop} {w w' : World} {g cap : Nat} {xs : List α} {F : Nat → Nat → Value} {N : Nat → Nat → Prop}
theorem OWB.erase {i : Nat} (hk : Keeps own) (h : OWB T K own S w g cap xs F N) (hi : i < xs.length) (hb : Blk w' g T K cap (xs.length - 1) (skipF i F)) (t : Trn (fun b => b = g) w w') : OWB T K own S w' g cap (xs.eraseIdx i) (skipF i F) (skipN i N) := by
  have hl : (xs.eraseIdx i).length = xs.length - 1 := by rw [List.length_eraseIdx, if_pos hi]
  refine ⟨by rw [hl]; have := h.le; omega, h.mx, h.at_, by rw [hl]; exact hb, fun a c b hac ha hc => ?_, fun a b hb => ?_, fun a x hx => ?_⟩
  · rw [skipN_at] at ha hc
    exact h.dis _ _ b (by split <;> split <;> omega) ha hc
  · rw [skipN_at] at hb
    exact h.rng _ b hb
  · rw [List.getElem?_eraseIdx] at hx
    have hg : ∀ c b, N c b → ¬ (b = g) := fun c b hb e => (h.rng c b hb).2 e
    by_cases ha : a < i
    · rw [if_pos ha] at hx
      rw [skipF_lo ha, show skipN i N a = N a by unfold skipN; rw [if_pos ha]]
      exact hk _ _ _ _ _ _ (h.own a x hx) t (hg a)
    · rw [if_neg ha] at hx
      rw [skipF_hi ha, show skipN i N a = N (a + 1) by unfold skipN; rw [if_neg ha]]
      exact hk _ _ _ _ _ _ (h.own (a + 1) x hx) t (hg (a + 1))
end

theorem asc_erase {node : List Int} {ss : List DSvc} {k : Nat} (h : ∀ i, i < ss.length → SvcAt node ss i) (i : Nat) : SvcAt node (ss.eraseIdx k) i := by
  intro s hs
  have hasc := ascF_svcs h
  rw [List.getElem?_eraseIdx] at hs
  have hp : ∀ (a : Nat) x, ss[a]? = some x → partB x.name = true ∧ keyB (placeL node x.name) = true ∧ x.checks.length ≤ 4 ∧ ChksP x.checks := fun a x hx => by
    have h1 := (svcAt_iff hx).1 (h a (List.getElem?_eq_some_iff.1 hx).1)
    exact ⟨h1.1, h1.2.1, h1.2.2.1, h1.2.2.2.2⟩
  have hlt : ∀ (a c : Nat) x y, a < c → ss[a]? = some x → ss[c]? = some y → ltK x.name y.name = true := fun a c x y hac hx hy => hasc a c x.name y.name hac (by rw [List.getElem?_map, hx]; rfl) (by rw [List.getElem?_map, hy]; rfl)
  by_cases hik : i < k
  · rw [if_pos hik] at hs
    obtain ⟨h1, h2, h3, h4⟩ := hp i s hs
    refine ⟨h1, h2, h3, fun p h0 hpp => ?_, h4⟩
    rw [List.getElem?_eraseIdx, if_pos (by omega)] at hpp
    exact hlt (i - 1) i p s (by omega) hpp hs
  · rw [if_neg hik] at hs
    obtain ⟨h1, h2, h3, h4⟩ := hp (i + 1) s hs
    refine ⟨h1, h2, h3, fun p h0 hpp => ?_, h4⟩
    rw [List.getElem?_eraseIdx] at hpp
    by_cases hk2 : i - 1 < k
    · rw [if_pos hk2] at hpp
      exact hlt (i - 1) (i + 1) p s (by omega) hpp hs
    · rw [if_neg hk2, show i - 1 + 1 = i by omega] at hpp
      exact hlt i (i + 1) p s (by omega) hpp hs
theorem locP_erase {L : DLoc} (h : LocP L) (k : Nat) : LocP ⟨L.node, L.svcs.eraseIdx k⟩ := by
  refine ⟨h.1, ?_, fun i _ => asc_erase h.2.2 i⟩
  have h1 := h.2.1
  have h2 : (L.svcs.eraseIdx k).length ≤ L.svcs.length := (List.eraseIdx_sublist _ _).length_le
  exact Nat.le_trans h2 h1

/-- Where the service of that name is. -/
def plS (L : DLoc) (ks : List Int) : Int := fnd (fun s : DSvc => decide (s.name = ks)) L.svcs
def dropLX (ok : Bool) (L : DLoc) (ks : List Int) : DLoc × Bool := if ok then (if 0 ≤ plS L ks then (⟨L.node, L.svcs.eraseIdx (plS L ks).toNat⟩, true) else (L, false)) else (zeroLoc, false)
theorem plS_hit {L : DLoc} {ks : List Int} {t : Nat} (h0 : ∀ (i : Nat) a, i < t → (L.svcs.map (·.name))[i]? = some a → ltK a ks = true) (h1 : (L.svcs.map (·.name))[t]? = some ks) : plS L ks = t := by
  rw [List.getElem?_map, Option.map_eq_some_iff] at h1
  obtain ⟨s, hs, e⟩ := h1
  refine fnd_at (fun i y hi hy => ?_) hs (by simpa using e)
  have h2 := h0 i y.name hi (by rw [List.getElem?_map, hy]; rfl)
  simp only [decide_eq_false_iff_not]
  intro e2
  rw [e2, ltF_irr] at h2
  cases h2
theorem plS_none {L : DLoc} {ks : List Int} (h : ∀ (i : Nat) a, (L.svcs.map (·.name))[i]? = some a → a ≠ ks) : plS L ks = -1 := by
  refine fnd_none (fun i y hy => ?_)
  simp only [decide_eq_false_iff_not]
  exact h i y.name (by rw [List.getElem?_map, hy]; rfl)

end Go.Proofs.Ytjkhadaoldbceaa

namespace Go.Proofs.Ytjkhadaoldbceaa
open Go.RowKit

/-- The new local where it may be one, else the elder. -/
def doneX (ok : Bool) (O L : DLoc) : DLoc × Bool := if ok then (O, true) else (L, false)

set_option maxRecDepth 20000 in
set_option maxHeartbeats 4000000 in
theorem sl14doneV (v u : Value) (L O : DLoc) (w : World) (h : VLoc w v L) (k : VLoc w u O) (hl : LenLo L) (ho : LenLo O) :
    Calls Try.prog 26 #[v, u] w fun e w' => ∃ nv sv mid, e = .returned (.tuple #[.agg #[nv, sv], .bool (doneX (tB (LocP O)) O L).2]) ∧ OwS (Rg w.heap.size mid) w' nv (doneX (tB (LocP O)) O L).1.node ∧ OSD (Rg mid w'.heap.size) w' sv (doneX (tB (LocP O)) O L).1.svcs ∧ (w.heap.size ≤ mid ∧ mid ≤ w'.heap.size) ∧ Below w.heap.size w w' := by
  have hE : ∀ w : World, ∀ o, Ext w (w.alloc o) := fun w o => World.grownBy_alloc _ _ _
  have h0 := hidL h
  have j0 := hidL k
  obtain ⟨nv, sv, rfl, hn, hs⟩ := h
  obtain ⟨na, nc, rfl⟩ := rv_shape hn
  obtain ⟨sa, sc, rfl⟩ := svcs_shape hs
  obtain ⟨mv, tv, rfl, qn, qs⟩ := k
  obtain ⟨oa, oc, rfl⟩ := rv_shape qn
  obtain ⟨ua, uc, rfl⟩ := svcs_shape qs
  obtain ⟨nn, hnn⟩ : ∃ nn, nn = L.node.length := ⟨_, rfl⟩
  obtain ⟨m, hm⟩ : ∃ m, m = L.svcs.length := ⟨_, rfl⟩
  obtain ⟨on, hon⟩ : ∃ on, on = O.node.length := ⟨_, rfl⟩
  obtain ⟨om, hom⟩ : ∃ om, om = O.svcs.length := ⟨_, rfl⟩
  have HNN := hidL hnn
  have HM := hidL hm
  have HON := hidL hon
  have HOM := hidL hom
  rw [← hnn, ← hm] at h0 ⊢
  rw [← hon, ← hom] at j0 ⊢
  have HL := hidL hl
  have HO := hidL ho
  clear hnn hm hn hs hl hon hom qn qs ho
  have HLO : Hid (∀ V, Ext w V → Calls Try.prog 23 #[.agg #[.slice oa on oc, .slice ua om uc]] V fun e w' => e = .returned (.bool (tB (LocP O))) ∧ Below V.heap.size V w') := fun V e => sLocalOkV _ O V (j0.out.ext e) HO.out
  have HOW : Hid (∀ V, Ext w V → Calls Try.prog 25 #[.agg #[.slice na nn nc, .slice sa m sc]] V fun e w' => ∃ xa xc xb xd mid, e = .returned (.agg #[.slice xa nn xc, .slice xb m xd]) ∧ OwS (Rg V.heap.size mid) w' (.slice xa nn xc) L.node ∧ OSD (Rg mid w'.heap.size) w' (.slice xb m xd) L.svcs ∧ (V.heap.size ≤ mid ∧ mid ≤ w'.heap.size) ∧ Below V.heap.size V w') := fun V e => (sOwnLV _ L V (h0.out.ext e) HL.out).mono fun e w' ⟨nv, sv, mid, h1, h2, h3, h4, h5⟩ => by
    obtain ⟨xa, xc, rfl⟩ := rv_shape h2.rv
    obtain ⟨xb, xd, rfl⟩ := svcs_shape h3.v
    rw [← HNN.out] at h1 h2
    rw [← HM.out] at h1 h3
    exact ⟨xa, xc, xb, xd, mid, h1, h2, h3, h4, h5⟩
  have HOX : Hid (∀ V, Ext w V → Calls Try.prog 25 #[.agg #[.slice oa on oc, .slice ua om uc]] V fun e w' => ∃ xa xc xb xd mid, e = .returned (.agg #[.slice xa on xc, .slice xb om xd]) ∧ OwS (Rg V.heap.size mid) w' (.slice xa on xc) O.node ∧ OSD (Rg mid w'.heap.size) w' (.slice xb om xd) O.svcs ∧ (V.heap.size ≤ mid ∧ mid ≤ w'.heap.size) ∧ Below V.heap.size V w') := fun V e => (sOwnLV _ O V (j0.out.ext e) HO.out).mono fun e w' ⟨nv, sv, mid, h1, h2, h3, h4, h5⟩ => by
    obtain ⟨xa, xc, rfl⟩ := rv_shape h2.rv
    obtain ⟨xb, xd, rfl⟩ := svcs_shape h3.v
    rw [← HON.out] at h1 h2
    rw [← HOM.out] at h1 h3
    exact ⟨xa, xc, xb, xd, mid, h1, h2, h3, h4, h5⟩
  have HR : Hid (∀ x, tB (LocP O) = x → doneX (tB (LocP O)) O L = if x then (O, true) else (L, false)) := fun x h => by subst h; rfl
  obtain ⟨R, hR⟩ : ∃ R, R = doneX (tB (LocP O)) O L := ⟨_, rfl⟩
  rw [← hR] at HR ⊢
  clear hR
  go_enter Try.func26, Try.ntmps26
  go_upto_region 1 with fail
  generalize hW : World.alloc (World.alloc (World.alloc w _) _) _ = W
  have PA : W.heap[w.heap.size]? = some (.cells #[.slice na nn nc, .slice sa m sc] 29 (0, 0)) := by rw [← hW]; exact ext_blk (hE _ _) (al2a _ _ _)
  have PO : W.heap[w.heap.size + 1]? = some (.cells #[.slice oa on oc, .slice ua om uc] 29 (0, 0)) := by rw [← hW]; exact ext_blk (hE _ _) (al2b _ _ _)
  have PR : W.heap[w.heap.size + 2]? = some (.cells #[.slice none 0 0, .slice none 0 0] 29 (0, 0)) := by rw [← hW]; simpa using heap_alloc_new (World.alloc (World.alloc w _) _) _
  have BW : Below w.heap.size w W := by rw [← hW]; exact (((Below.refl _ w).alloc (Nat.le_refl _) _).alloc (by simp) _).alloc (by simp; omega) _
  have hW2 : Hid (W.heap.size = w.heap.size + 3) := by show _ = _; rw [← hW]; simp
  clear hW
  obtain ⟨⟨y0, y1⟩, _, _⟩ := cells2S PO
  go_wp2_with fail
  refine (HLO.out W (ext_below BW)).mono ?_
  rintro e w1 ⟨rfl, b1⟩
  have PA1 := below_blk b1 (by have := hW2.out; omega) PA
  have PO1 := below_blk b1 (by have := hW2.out; omega) PO
  have PR1 := below_blk b1 (by have := hW2.out; omega) PR
  have B1 := hidL (BW.trans (b1.mono BW.size))
  clear y0 y1 PA PO PR BW b1
  obtain ⟨⟨x0, x1⟩, _, _⟩ := cells2S PA1
  obtain ⟨⟨y0, y1⟩, _, _⟩ := cells2S PO1
  obtain ⟨⟨r0, r1⟩, k0, k1⟩ := cells2S PR1
  clear PA1 PO1
  cases hb : tB (LocP O)
  · have HK : Hid (R = (L, false)) := by show _ = _; rw [HR.out false hb]; rfl
    clear hb HR
    go_wp2_with fail
    refine (HOW.out w1 (ext_below B1.out)).mono ?_
    rintro e w2 ⟨xa, xc, xb, xd, mid, rfl, o2, s2, hm2, b2⟩
    have PR2 := below_blk b2 (Array.getElem?_eq_some_iff.1 PR1).1 PR1
    have B2 := B1.out.trans (b2.mono B1.out.size)
    have hw1 := (Array.getElem?_eq_some_iff.1 PR1).1
    have TR : Trn (fun b => b = w.heap.size + 2) w2 ((w2.setCell ⟨w.heap.size + 2, 0, none⟩ (.slice xa nn xc)).setCell ⟨w.heap.size + 2, 1, none⟩ (.slice xb m xd)) := (Trn.set (fun b => b = w.heap.size + 2) _ _ _ _ rfl).trans (Trn.set (fun b => b = w.heap.size + 2) _ _ _ _ rfl)
    have hss : ((w2.setCell ⟨w.heap.size + 2, 0, none⟩ (.slice xa nn xc)).setCell ⟨w.heap.size + 2, 1, none⟩ (.slice xb m xd)).heap.size = w2.heap.size := by simp
    have HW1 : Hid (OwS (Rg w.heap.size mid) ((w2.setCell ⟨w.heap.size + 2, 0, none⟩ (.slice xa nn xc)).setCell ⟨w.heap.size + 2, 1, none⟩ (.slice xb m xd)) (.slice xa nn xc) L.node) := (o2.keep TR (fun b h e => by have := h.1; omega)).mono (fun b h => ⟨by have := h.1; omega, h.2⟩)
    have HW2 : Hid (OSD (Rg mid ((w2.setCell ⟨w.heap.size + 2, 0, none⟩ (.slice xa nn xc)).setCell ⟨w.heap.size + 2, 1, none⟩ (.slice xb m xd)).heap.size) ((w2.setCell ⟨w.heap.size + 2, 0, none⟩ (.slice xa nn xc)).setCell ⟨w.heap.size + 2, 1, none⟩ (.slice xb m xd)) (.slice xb m xd) L.svcs) := by
      rw [hss]
      exact s2.keep TR (fun b h e => by have := h.1; have := hm2.1; omega)
    have HW3 : Hid (Below w.heap.size w ((w2.setCell ⟨w.heap.size + 2, 0, none⟩ (.slice xa nn xc)).setCell ⟨w.heap.size + 2, 1, none⟩ (.slice xb m xd))) := (B2.setCell (by show w.heap.size ≤ w.heap.size + 2; omega) _).setCell (by show w.heap.size ≤ w.heap.size + 2; omega) _
    have HW4 := hidL (show w.heap.size ≤ mid ∧ mid ≤ ((w2.setCell ⟨w.heap.size + 2, 0, none⟩ (.slice xa nn xc)).setCell ⟨w.heap.size + 2, 1, none⟩ (.slice xb m xd)).heap.size by rw [hss]; omega)
    clear x0 x1 y0 y1 r0 r1 k0 k1 hss TR o2 s2 hm2 b2 B2 hw1
    obtain ⟨⟨r0, r1⟩, k0, k1⟩ := cells2S PR2
    clear PR2 PR1
    go_wp2
    refine bodyPost_ret (v := .tuple #[.agg #[.slice xa nn xc, .slice xb m xd], .bool false]) (by simp [results, Try.results26, go_sem, *]) rfl ?_
    rw [HK.out]
    exact ⟨_, _, mid, rfl, HW1.out, HW2.out, HW4.out, HW3.out⟩
  · have HK : Hid (R = (O, true)) := by show _ = _; rw [HR.out true hb]; rfl
    clear hb HR
    go_wp2_with fail
    refine (HOX.out w1 (ext_below B1.out)).mono ?_
    rintro e w2 ⟨xa, xc, xb, xd, mid, rfl, o2, s2, hm2, b2⟩
    have PR2 := below_blk b2 (Array.getElem?_eq_some_iff.1 PR1).1 PR1
    have B2 := B1.out.trans (b2.mono B1.out.size)
    have hw1 := (Array.getElem?_eq_some_iff.1 PR1).1
    have TR : Trn (fun b => b = w.heap.size + 2) w2 ((w2.setCell ⟨w.heap.size + 2, 0, none⟩ (.slice xa on xc)).setCell ⟨w.heap.size + 2, 1, none⟩ (.slice xb om xd)) := (Trn.set (fun b => b = w.heap.size + 2) _ _ _ _ rfl).trans (Trn.set (fun b => b = w.heap.size + 2) _ _ _ _ rfl)
    have hss : ((w2.setCell ⟨w.heap.size + 2, 0, none⟩ (.slice xa on xc)).setCell ⟨w.heap.size + 2, 1, none⟩ (.slice xb om xd)).heap.size = w2.heap.size := by simp
    have HW1 : Hid (OwS (Rg w.heap.size mid) ((w2.setCell ⟨w.heap.size + 2, 0, none⟩ (.slice xa on xc)).setCell ⟨w.heap.size + 2, 1, none⟩ (.slice xb om xd)) (.slice xa on xc) O.node) := (o2.keep TR (fun b h e => by have := h.1; omega)).mono (fun b h => ⟨by have := h.1; omega, h.2⟩)
    have HW2 : Hid (OSD (Rg mid ((w2.setCell ⟨w.heap.size + 2, 0, none⟩ (.slice xa on xc)).setCell ⟨w.heap.size + 2, 1, none⟩ (.slice xb om xd)).heap.size) ((w2.setCell ⟨w.heap.size + 2, 0, none⟩ (.slice xa on xc)).setCell ⟨w.heap.size + 2, 1, none⟩ (.slice xb om xd)) (.slice xb om xd) O.svcs) := by
      rw [hss]
      exact s2.keep TR (fun b h e => by have := h.1; have := hm2.1; omega)
    have HW3 : Hid (Below w.heap.size w ((w2.setCell ⟨w.heap.size + 2, 0, none⟩ (.slice xa on xc)).setCell ⟨w.heap.size + 2, 1, none⟩ (.slice xb om xd))) := (B2.setCell (by show w.heap.size ≤ w.heap.size + 2; omega) _).setCell (by show w.heap.size ≤ w.heap.size + 2; omega) _
    have HW4 := hidL (show w.heap.size ≤ mid ∧ mid ≤ ((w2.setCell ⟨w.heap.size + 2, 0, none⟩ (.slice xa on xc)).setCell ⟨w.heap.size + 2, 1, none⟩ (.slice xb om xd)).heap.size by rw [hss]; omega)
    clear x0 x1 y0 y1 r0 r1 k0 k1 hss TR o2 s2 hm2 b2 B2 hw1
    obtain ⟨⟨r0, r1⟩, k0, k1⟩ := cells2S PR2
    clear PR2 PR1
    go_wp2
    refine bodyPost_ret (v := .tuple #[.agg #[.slice xa on xc, .slice xb om xd], .bool true]) (by simp [results, Try.results26, go_sem, *]) rfl ?_
    rw [HK.out]
    exact ⟨_, _, mid, rfl, HW1.out, HW2.out, HW4.out, HW3.out⟩

end Go.Proofs.Ytjkhadaoldbceaa

namespace Go.Proofs.Ytjkhadaoldbceaa
open Go.RowKit

/-- How many have lesser names. -/
def insP (L : DLoc) (ks : List Int) : Nat := (L.svcs.takeWhile (fun s => ltK s.name ks)).length
/-- The local with one service more. -/
def addL (L : DLoc) (ks : List Int) : DLoc := ⟨L.node, L.svcs.take (insP L ks) ++ ⟨ks, []⟩ :: L.svcs.drop (insP L ks)⟩
def addLX (c d : Bool) (L : DLoc) (ks : List Int) : DLoc × Bool := if c then (if 0 ≤ plS L ks then (L, false) else doneX d (addL L ks) L) else (zeroLoc, false)
theorem tw_len {α : Type} {p : α → Bool} {l : List α} {t : Nat} (h1 : ∀ (i : Nat) a, i < t → l[i]? = some a → p a = true) (h2 : ∀ a, l[t]? = some a → p a = false) (ht : t ≤ l.length) : (l.takeWhile p).length = t := by
  induction l generalizing t with
  | nil => simp at ht; subst ht; rfl
  | cons x xs ih =>
    cases t with
    | zero =>
      have := h2 x rfl
      rw [List.takeWhile_cons, this]
      rfl
    | succ t =>
      have h3 := h1 0 x (by omega) rfl
      rw [List.takeWhile_cons, h3]
      simp only [if_true, List.length_cons]
      rw [ih (t := t) (fun i a hi ha => h1 (i + 1) a (by omega) (by simpa using ha)) (fun a ha => h2 a (by simpa using ha)) (by simpa using ht)]
theorem insP_eq {L : DLoc} {ks : List Int} {t : Nat} (h1 : ∀ (i : Nat) a, i < t → (L.svcs.map (·.name))[i]? = some a → ltK a ks = true) (h2 : ∀ (i : Nat) a, t ≤ i → (L.svcs.map (·.name))[i]? = some a → ltK a ks = false) (ht : t ≤ L.svcs.length) : insP L ks = t :=
  tw_len (fun i a hi ha => h1 i a.name hi (by rw [List.getElem?_map, ha]; rfl)) (fun a ha => h2 t a.name (Nat.le_refl _) (by rw [List.getElem?_map, ha]; rfl)) ht
theorem addL_len (L : DLoc) (ks : List Int) : (addL L ks).svcs.length = L.svcs.length + 1 := by
  have : insP L ks ≤ L.svcs.length := (List.takeWhile_sublist _).length_le
  simp [addL]
  omega
theorem addL_get {L : DLoc} {ks : List Int} {i : Nat} {c : DSvc} (h : (addL L ks).svcs[i]? = some c) : c = ⟨ks, []⟩ ∨ ∃ j : Nat, L.svcs[j]? = some c := by
  have hp : insP L ks ≤ L.svcs.length := (List.takeWhile_sublist _).length_le
  have h' : (L.svcs.take (insP L ks) ++ (⟨ks, []⟩ : DSvc) :: L.svcs.drop (insP L ks))[i]? = some c := h
  rw [ins_get hp] at h'
  split at h'
  · exact .inr ⟨_, h'⟩
  · split at h'
    · cases h'; exact .inl rfl
    · exact .inr ⟨_, h'⟩
theorem lenSv_new {ks : List Int} (h : ks.length ≤ 1048576) : LenSv ⟨ks, []⟩ := ⟨h, Nat.zero_le _, fun i c hc => by simp at hc⟩
theorem lenLo_add {L : DLoc} {ks : List Int} (h : LenLo L) (hk : ks.length ≤ 1048576) (hl : L.svcs.length ≤ 1000) : LenLo (addL L ks) :=
  ⟨h.1, by rw [addL_len]; omega, fun i c hc => by
    rcases addL_get hc with rfl | ⟨j, hj⟩
    · exact lenSv_new hk
    · exact h.2.2 j c hj⟩

/-- The cells of a service without checks. -/
def newG (kv : Value) : Nat → Value := fun j => if j = 0 then kv else .slice none 0 0
theorem own_new {S : Nat → Prop} {w : World} {kv : Value} {ks : List Int} (h : OwS S w kv ks) : ownV S w (newG kv) ⟨ks, []⟩ := ⟨S, fun _ => False, h, .inl ⟨none, 0, rfl, ⟨rfl, rfl⟩, rfl⟩, fun _ _ h => h, fun _ h => h, fun _ h => h.elim⟩
theorem newG_one {w : World} {kv : Value} {ks : List Int} (h : RV w kv ks) : ∀ j, j < 2 → (newG kv j).oneCell' = true := fun j hj => by
  obtain rfl | rfl : j = 0 ∨ j = 1 := by omega
  · exact one_rv h
  · rfl

set_option maxHeartbeats 2000000 in
/-- The program's Insert of a new service at a list that is owned. -/
theorem insSvcV (lo hi t vb m xd : Nat) (xb : Option Addr) (kv : Value) (ks : List Int) (ss : List DSvc) (w : World) (h : OSD (Rg lo hi) w (.slice xb m xd) ss) (hm : m = ss.length) (hml : m ≤ 1000) (ht : t ≤ m) (hv : w.heap[vb]? = some (.cells #[kv, .slice none 0 0] 54 (0, 0))) (hvb : hi ≤ vb) (lk : Nat) (hk : OwS (Rg lk vb) w kv ks) (hlk : hi ≤ lk) (hh : hi ≤ w.heap.size) :
    Calls Try.prog 31 #[.slice xb m xd, .int .i64 t, .slice (some ⟨vb, 0, none⟩) 1 1] w fun e w' => ∃ g' cap', e = .returned (.slice (some ⟨g', 0, none⟩) (m + 1) cap') ∧ OSD (fun b => Rg lo hi b ∨ Rg lk vb b ∨ b = g') w' (.slice (some ⟨g', 0, none⟩) (m + 1) cap') (ss.take t ++ ⟨ks, []⟩ :: ss.drop t) ∧ (Rg lo hi g' ∨ g' = w.heap.size) ∧ Trn (Rg lo hi) w w' := by
  have hvr : w.heap[vb]? = some (.cells ((List.range 2).map (newG kv)).toArray 54 (0, 0)) := hv
  have hone := newG_one hk.rv
  have hlen : (ss.take t ++ (⟨ks, []⟩ : DSvc) :: ss.drop t).length = m + 1 := by simp; omega
  rcases (ow_osd h).cases with ⟨a, c, e1, ⟨rfl, rfl⟩, e3⟩ | ⟨g, cap, F, N, e1, hB⟩
  · injection e1 with q1 q2 q3
    subst q1 q3
    subst e3
    subst q2
    obtain rfl : t = 0 := by omega
    refine (ins_endSv (.slice none 0 0) 0 vb (fun _ _ => .bool true) (newG kv) w (Row.nil _ _ _ _ _) hone (by omega) hvr).mono ?_
    rintro e w' ⟨g', cap', rfl, q1, q2, q3, q4, q5⟩
    have hg' : g' = w.heap.size := by
      rcases q4 with q4 | q4
      · cases q4
      · exact q4
    have tr : Trn (fun _ => False) w w' := Trn.ext q5
    have O : OWB 54 2 ownV (fun b => Rg lo hi b ∨ Rg lk vb b ∨ b = g') w' g' cap' [⟨ks, []⟩] (insF 0 (fun _ _ => .bool true) (newG kv)) (fun i b => i = 0 ∧ Rg lk vb b) := by
      refine ⟨q2, q3, .inr (.inr rfl), q1, fun i j b hij hi hj => ?_, fun i b hb => ⟨.inr (.inl hb.2), ?_⟩, fun i x hx => ?_⟩
      · exact hij (hi.1.trans hj.1.symm)
      · have := hb.2.2
        have := (Array.getElem?_eq_some_iff.1 hv).1
        omega
      · have hi : i = 0 := by have := (List.getElem?_eq_some_iff.1 hx).1; simpa using this
        subst hi
        have : x = ⟨ks, []⟩ := by simpa using hx.symm
        subst this
        rw [insF_at]
        obtain ⟨A, B, z1, z2, z3, z4, z5⟩ := own_new hk
        exact keepsV _ _ _ _ _ _ (show ownV (fun b => 0 = 0 ∧ Rg lk vb b) w (newG kv) ⟨ks, []⟩ from ⟨A, B, z1, z2, z3, fun b hb => ⟨rfl, z4 b hb⟩, fun b hb => ⟨rfl, z5 b hb⟩⟩) tr (fun _ _ h => h)
    exact ⟨g', cap', rfl, osd_of (by simpa using O.ow), .inr hg', tr.mono (fun _ h => h.elim)⟩
  · injection e1 with q1 q2 q3
    subst q1 q3
    have hgl := hB.at_
    have hvl := (Array.getElem?_eq_some_iff.1 hv).1
    refine (insertSv g m xd vb t F (newG kv) w (by rw [hm]; exact hB.blk) (fun a ha j hj => ?_) hone hml (by rw [hm]; exact hB.le) hB.mx ht hvr (by have := hgl.2; omega)).mono ?_
    · obtain ⟨A, B, q1, q2, _⟩ := hB.own a _ (List.getElem?_eq_getElem (by omega))
      obtain rfl | rfl : j = 0 ∨ j = 1 := by omega
      · exact one_rv q1.rv
      · exact one_chks q2.v
    · rintro e w' ⟨g', cap', rfl, q1, q2, q3, q4, q5⟩
      have tr : Trn (fun b => b = g) w w' := Trn.one q5 (fun x e => by cases e; rfl)
      have O := hB.insert (M := Rg lk vb) (R := fun b => b = g) (G := newG kv) (x := ⟨ks, []⟩) (i := t) (w' := w') (g' := g') (cap' := cap') keepsV (by omega) (by rw [← hm]; exact q1) (by rw [← hm]; exact q2) q3 (keepsV _ _ _ _ _ _ (own_new hk) tr (fun b hb e => by have := hb.1; have := hgl.2; omega)) tr (fun a b hb e => (hB.rng a b hb).2 e) (fun b hb => ⟨fun e => by have := hb.1; have := hb.2; have := hgl.2; omega, fun hs => by have := hb.1; have := hs.2; omega⟩) (by
        rcases q4 with q4 | q4
        · exact .inl q4
        · exact .inr (fun hs => by have := hs.2; omega))
      refine ⟨g', cap', rfl, osd_of (by have := O.ow; rw [hlen] at this; exact this), ?_, tr.mono (fun b e => by subst e; exact hgl)⟩
      rcases q4 with q4 | q4
      · left; rw [q4]; exact hgl
      · exact .inr q4

end Go.Proofs.Ytjkhadaoldbceaa

namespace Go.Proofs.Ytjkhadaoldbceaa
open Go.RowKit

set_option maxRecDepth 20000 in
set_option maxHeartbeats 4000000 in
/-- It answers the work itself where it may be a local, else a copy of the elder. -/
theorem iIfOkV (u v : Value) (O L : DLoc) (w : World) (k : VLoc w u O) (h : VLoc w v L) (ho : LenLo O) (hl : LenLo L) :
    Calls Try.prog 33 #[u, v] w fun e w' => Below w.heap.size w w' ∧ ((tB (LocP O) = true ∧ e = .returned (.tuple #[u, .bool true])) ∨ (tB (LocP O) = false ∧ ∃ nv sv mid, e = .returned (.tuple #[.agg #[nv, sv], .bool false]) ∧ OwS (Rg w.heap.size mid) w' nv L.node ∧ OSD (Rg mid w'.heap.size) w' sv L.svcs ∧ (w.heap.size ≤ mid ∧ mid ≤ w'.heap.size))) := by
  have hE : ∀ w : World, ∀ o, Ext w (w.alloc o) := fun w o => World.grownBy_alloc _ _ _
  have h0 := hidL h
  have j0 := hidL k
  obtain ⟨nv, sv, rfl, hn, hs⟩ := h
  obtain ⟨na, nc, rfl⟩ := rv_shape hn
  obtain ⟨sa, sc, rfl⟩ := svcs_shape hs
  obtain ⟨mv, tv, rfl, qn, qs⟩ := k
  obtain ⟨oa, oc, rfl⟩ := rv_shape qn
  obtain ⟨ua, uc, rfl⟩ := svcs_shape qs
  obtain ⟨nn, hnn⟩ : ∃ nn, nn = L.node.length := ⟨_, rfl⟩
  obtain ⟨m, hm⟩ : ∃ m, m = L.svcs.length := ⟨_, rfl⟩
  obtain ⟨on, hon⟩ : ∃ on, on = O.node.length := ⟨_, rfl⟩
  obtain ⟨om, hom⟩ : ∃ om, om = O.svcs.length := ⟨_, rfl⟩
  have HNN := hidL hnn
  have HM := hidL hm
  rw [← hnn, ← hm] at h0 ⊢
  rw [← hon, ← hom] at j0 ⊢
  have HL := hidL hl
  have HO := hidL ho
  clear hnn hm hn hs hl hon hom qn qs ho
  have HLO : Hid (∀ V, Ext w V → Calls Try.prog 28 #[.agg #[.slice oa on oc, .slice ua om uc]] V fun e w' => e = .returned (.bool (tB (LocP O))) ∧ Below V.heap.size V w') := fun V e => iLocalOkV _ O V (j0.out.ext e) HO.out
  have HOW : Hid (∀ V, Ext w V → Calls Try.prog 29 #[.agg #[.slice na nn nc, .slice sa m sc]] V fun e w' => ∃ xa xc xb xd mid, e = .returned (.agg #[.slice xa nn xc, .slice xb m xd]) ∧ OwS (Rg V.heap.size mid) w' (.slice xa nn xc) L.node ∧ OSD (Rg mid w'.heap.size) w' (.slice xb m xd) L.svcs ∧ (V.heap.size ≤ mid ∧ mid ≤ w'.heap.size) ∧ Below V.heap.size V w') := fun V e => (copyLocV _ L V (h0.out.ext e) HL.out).mono fun e w' ⟨nv, sv, mid, h1, h2, h3, h4, h5⟩ => by
    obtain ⟨xa, xc, rfl⟩ := rv_shape h2.rv
    obtain ⟨xb, xd, rfl⟩ := svcs_shape h3.v
    rw [← HNN.out] at h1 h2
    rw [← HM.out] at h1 h3
    exact ⟨xa, xc, xb, xd, mid, h1, h2, h3, h4, h5⟩
  obtain ⟨R, hR⟩ : ∃ R, R = tB (LocP O) := ⟨_, rfl⟩
  rw [← hR] at HLO ⊢
  clear hR
  go_enter Try.func33, Try.ntmps33
  go_upto_region 1 with fail
  generalize hW : World.alloc (World.alloc (World.alloc w _) _) _ = W
  have PO : W.heap[w.heap.size]? = some (.cells #[.slice oa on oc, .slice ua om uc] 29 (0, 0)) := by rw [← hW]; exact ext_blk (hE _ _) (al2a _ _ _)
  have PA : W.heap[w.heap.size + 1]? = some (.cells #[.slice na nn nc, .slice sa m sc] 29 (0, 0)) := by rw [← hW]; exact ext_blk (hE _ _) (al2b _ _ _)
  have PR : W.heap[w.heap.size + 2]? = some (.cells #[.slice none 0 0, .slice none 0 0] 29 (0, 0)) := by rw [← hW]; simpa using heap_alloc_new (World.alloc (World.alloc w _) _) _
  have BW : Below w.heap.size w W := by rw [← hW]; exact (((Below.refl _ w).alloc (Nat.le_refl _) _).alloc (by simp) _).alloc (by simp; omega) _
  have hW2 : Hid (W.heap.size = w.heap.size + 3) := by show _ = _; rw [← hW]; simp
  clear hW
  obtain ⟨⟨y0, y1⟩, _, _⟩ := cells2S PO
  go_wp2_with fail
  refine (HLO.out W (ext_below BW)).mono ?_
  rintro e w1 ⟨rfl, b1⟩
  have PA1 := below_blk b1 (by have := hW2.out; omega) PA
  have PO1 := below_blk b1 (by have := hW2.out; omega) PO
  have PR1 := below_blk b1 (by have := hW2.out; omega) PR
  have B1 := hidL (BW.trans (b1.mono BW.size))
  clear y0 y1 PA PO PR BW b1
  obtain ⟨⟨x0, x1⟩, _, _⟩ := cells2S PA1
  obtain ⟨⟨y0, y1⟩, _, _⟩ := cells2S PO1
  obtain ⟨⟨r0, r1⟩, k0, k1⟩ := cells2S PR1
  clear PA1 PO1
  cases R
  · go_wp2_with fail
    refine (HOW.out w1 (ext_below B1.out)).mono ?_
    rintro e w2 ⟨xa, xc, xb, xd, mid, rfl, o2, s2, hm2, b2⟩
    have PR2 := below_blk b2 (Array.getElem?_eq_some_iff.1 PR1).1 PR1
    have B2 := B1.out.trans (b2.mono B1.out.size)
    have hw1 := (Array.getElem?_eq_some_iff.1 PR1).1
    have TR : Trn (fun b => b = w.heap.size + 2) w2 ((w2.setCell ⟨w.heap.size + 2, 0, none⟩ (.slice xa nn xc)).setCell ⟨w.heap.size + 2, 1, none⟩ (.slice xb m xd)) := (Trn.set (fun b => b = w.heap.size + 2) _ _ _ _ rfl).trans (Trn.set (fun b => b = w.heap.size + 2) _ _ _ _ rfl)
    have hss : ((w2.setCell ⟨w.heap.size + 2, 0, none⟩ (.slice xa nn xc)).setCell ⟨w.heap.size + 2, 1, none⟩ (.slice xb m xd)).heap.size = w2.heap.size := by simp
    have HW1 : Hid (OwS (Rg w.heap.size mid) ((w2.setCell ⟨w.heap.size + 2, 0, none⟩ (.slice xa nn xc)).setCell ⟨w.heap.size + 2, 1, none⟩ (.slice xb m xd)) (.slice xa nn xc) L.node) := (o2.keep TR (fun b h e => by have := h.1; omega)).mono (fun b h => ⟨by have := h.1; omega, h.2⟩)
    have HW2 : Hid (OSD (Rg mid ((w2.setCell ⟨w.heap.size + 2, 0, none⟩ (.slice xa nn xc)).setCell ⟨w.heap.size + 2, 1, none⟩ (.slice xb m xd)).heap.size) ((w2.setCell ⟨w.heap.size + 2, 0, none⟩ (.slice xa nn xc)).setCell ⟨w.heap.size + 2, 1, none⟩ (.slice xb m xd)) (.slice xb m xd) L.svcs) := by
      rw [hss]
      exact s2.keep TR (fun b h e => by have := h.1; have := hm2.1; omega)
    have HW3 : Hid (Below w.heap.size w ((w2.setCell ⟨w.heap.size + 2, 0, none⟩ (.slice xa nn xc)).setCell ⟨w.heap.size + 2, 1, none⟩ (.slice xb m xd))) := (B2.setCell (by show w.heap.size ≤ w.heap.size + 2; omega) _).setCell (by show w.heap.size ≤ w.heap.size + 2; omega) _
    have HW4 := hidL (show w.heap.size ≤ mid ∧ mid ≤ ((w2.setCell ⟨w.heap.size + 2, 0, none⟩ (.slice xa nn xc)).setCell ⟨w.heap.size + 2, 1, none⟩ (.slice xb m xd)).heap.size by rw [hss]; omega)
    clear x0 x1 y0 y1 r0 r1 k0 k1 hss TR o2 s2 hm2 b2 B2 hw1
    obtain ⟨⟨r0, r1⟩, k0, k1⟩ := cells2S PR2
    clear PR2 PR1
    go_wp2
    refine bodyPost_ret (v := .tuple #[.agg #[.slice xa nn xc, .slice xb m xd], .bool false]) (by simp [results, Try.results33, go_sem, *]) rfl ?_
    exact ⟨HW3.out, _, _, rfl, mid, HW1.out, HW2.out, HW4.out⟩
  · have HW3 : Hid (Below w.heap.size w ((w1.setCell ⟨w.heap.size + 2, 0, none⟩ (.slice oa on oc)).setCell ⟨w.heap.size + 2, 1, none⟩ (.slice ua om uc))) := (B1.out.setCell (by show w.heap.size ≤ w.heap.size + 2; omega) _).setCell (by show w.heap.size ≤ w.heap.size + 2; omega) _
    clear PR1
    go_wp2
    refine bodyPost_ret (v := .tuple #[.agg #[.slice oa on oc, .slice ua om uc], .bool true]) (by simp [results, Try.results33, go_sem, *]) rfl ?_
    exact ⟨HW3.out, rfl⟩

end Go.Proofs.Ytjkhadaoldbceaa

namespace Go.Proofs.Ytjkhadaoldbceaa
open Go.RowKit

theorem cmpSv (nv kv : Value) (cb : Option Addr) (cl cd : Nat) (xs ks : List Int) (w : World) (h : RV w nv xs) (k : RV w kv ks) : Calls Try.prog 54 #[.agg #[nv, .slice cb cl cd], kv] w fun e w' => e = .returned (.int .i64 (cmpK xs ks)) ∧ Below w.heap.size w w' := by
  have hB : ∀ w : World, ∀ o, Below w.heap.size w (w.alloc o) := fun w o => (Below.refl _ w).alloc (Nat.le_refl _) _
  have hE : ∀ w : World, ∀ o, Ext w (w.alloc o) := fun w o => World.grownBy_alloc _ _ _
  obtain ⟨na, nc, rfl, hr, h5, h6⟩ := h
  have HN : Hid (∀ V, Ext w V → RV V (.slice na xs.length nc) xs) := fun V e => by
    have h0 : RV w (.slice na xs.length nc) xs := ⟨na, nc, rfl, hr, h5, h6⟩
    exact h0.ext e
  have HK := hidL k
  generalize xs.length = xn at *
  clear hr h5 h6 k
  go_enter Try.func54, Try.ntmps54
  go_upto_region 1 with fail
  generalize hU : World.alloc w _ = U
  have HU : Hid (Below w.heap.size w U ∧ Ext w U) := by rw [← hU]; exact ⟨hB _ _, hE _ _⟩
  have p0 : U.cell? ⟨w.heap.size, 0, none⟩ = some (.slice na xn nc) := by rw [← hU]; exact (at_block (heap_alloc_new w _) 0 _ rfl).1
  clear hU
  go_wp2_with (go_at_call 50; refine (compareE _ _ _ _ _ (HN.out _ HU.out.2) (HK.out.ext HU.out.2)).mono ?_; rintro e w1 ⟨rfl, rfl⟩)
  go_ret
  exact ⟨rfl, HU.out.1⟩

set_option maxHeartbeats 4000000 in
theorem bsSv (v kv : Value) (ls : List DSvc) (ks : List Int) (w : World) (h : VSvcs w v ls) (rk : RV w kv ks) (hn4 : ls.length ≤ 12) (hasc : AscF (ls.map (·.name))) :
    Calls Try.prog 53 #[v, kv, .func (.func 54) #[] #[]] w fun e w' => FndF (ls.map (·.name)) ks w e w' := by
  have hE : ∀ w : World, ∀ o, Ext w (w.alloc o) := fun w o => World.grownBy_alloc _ _ _
  obtain ⟨C, ⟨a, cap, rfl, h1, h2, h3⟩, hC⟩ := h
  have HC : Hid (∀ i d, ls[i]? = some d → RV w (C i 0) d.name ∧ VChks w (C i 1) d.checks) := hC
  have HNM : Hid (∀ (i : Nat) a, (ls.map (·.name))[i]? = some a → ∃ s, ls[i]? = some s ∧ s.name = a) := fun i a h => by
    rw [List.getElem?_map, Option.map_eq_some_iff] at h
    exact h
  have HNS : Hid (∀ (i : Nat) s, ls[i]? = some s → (ls.map (·.name))[i]? = some s.name) := fun i s h => by
    rw [List.getElem?_map, h]; rfl
  have HLN : Hid ((ls.map (·.name)).length = ls.length) := List.length_map _
  have HAS := hidL hasc
  have HRK := hidL rk
  have hkr : ∀ x ∈ ks, 0 ≤ x ∧ x ≤ 255 := by obtain ⟨_, _, _, r, _⟩ := rk; exact r.rng
  have HKR := hidL hkr
  obtain ⟨ka, kc, hkv⟩ := rv_shape rk
  obtain ⟨kl, hkl⟩ : ∃ kl, kl = ks.length := ⟨_, rfl⟩
  rw [← hkl] at hkv
  subst hkv
  obtain ⟨ns, hns⟩ : ∃ ns, ns = ls.map (·.name) := ⟨_, rfl⟩
  rw [← hns] at HNM HNS HLN HAS ⊢
  obtain ⟨n, hnn⟩ : ∃ n, n = ls.length := ⟨_, rfl⟩
  rw [← hnn] at h1 h3 hn4 HLN ⊢
  have HN : Hid (n = ls.length) := hnn
  clear hnn hC hasc rk hkr hkl hns
  unfold maxLen at h2
  have H3 : Hid (0 < n → ∃ b o, a = some ⟨b, o, none⟩ ∧ b < w.heap.size ∧ ∀ i, i < n → ∀ j, j < 2 → w.cell? ⟨b, o + i * 2 + j, none⟩ = some (C i j)) := h3
  clear h3
  go_enter Try.func53, Try.ntmps53
  go_wp2
  go_loopw [9, 10] (fun i j wr => ∃ p q : Nat, p ≤ q ∧ q ≤ n ∧ i = .int .i64 p ∧ j = .int .i64 q ∧ Below w.heap.size w wr ∧ Hid (∀ t s, t < p → ns[t]? = some s → ltK s ks = true) ∧ Hid (∀ t s, q ≤ t → ns[t]? = some s → ltK s ks = false)) (fun i j _ => (intOf j).toNat - (intOf i).toNat)
  case atStart => exact ⟨0, n, Nat.zero_le _, Nat.le_refl _, rfl, rfl, Below.refl _ _, fun t s ht => absurd ht (by omega), fun t s ht hs => absurd (List.getElem?_eq_some_iff.1 hs).1 (by have := HLN.out; omega)⟩
  case round =>
    obtain ⟨p, q, hpq, hqn, rfl, rfl, hb, hlo, hhi⟩ := hrel
    by_cases hlt : p < q
    · obtain ⟨b, o, rfl, hbl, hc⟩ := H3.out (by omega)
      obtain ⟨m, hm⟩ : ∃ m, m = (p + q) / 2 := ⟨_, rfl⟩
      have H1 : m < n := by omega
      have hm2 : p ≤ m := by omega
      have hm3 : m < q := by omega
      obtain ⟨s, hs⟩ : ∃ s, ls[m]? = some s := ⟨_, List.getElem?_eq_getElem (by have := HN.out; omega)⟩
      obtain ⟨e0, e1⟩ := HC.out m s hs
      obtain ⟨sa, sc, se⟩ := rv_shape e0
      obtain ⟨cb, cd, e1⟩ := chks_shape e1
      generalize s.checks.length = cl at e1
      have X := ext_below hb
      have c0 := World.grownBy.cell X (hc m H1 0 (by omega)) (by simp)
      have c1 := World.grownBy.cell X (hc m H1 1 (by omega)) (by simp)
      rw [Nat.add_zero, se] at c0
      rw [e1] at c1
      have HNE : Hid (RV w (.slice sa s.name.length sc) s.name) := by show RV _ _ _; rw [← se]; exact e0
      rw [hm] at c0 c1
      generalize s.name.length = sl at c0 HNE
      have hlt' : (p : Int) < (q : Int) := by omega
      have HM : Hid (m = (p + q) / 2) := hm
      have HS : Hid (ns[m]? = some s.name) := HNS.out m s hs
      have HX := hidL X
      obtain ⟨cv, hcv⟩ : ∃ cv, cmpK s.name ks = cv := ⟨_, rfl⟩
      have HCV : Hid (cmpK s.name ks = cv) := hcv
      have HCL : Hid (∀ V, Ext wr V → Calls Try.prog 54 #[.agg #[.slice sa sl sc, .slice cb cl cd], .slice ka kl kc] V fun e w' => e = .returned (.int .i64 cv) ∧ Below V.heap.size V w') := fun V e => by
        rw [← HCV.out]
        exact cmpSv _ _ _ _ _ _ _ V ((HNE.out.ext HX.out).ext e) ((HRK.out.ext HX.out).ext e)
      clear hc hs hm hcv X e0 e1 se
      by_cases hcl : cv < 0
      · have dcv : decide (cv < 0) = true := decide_eq_true hcl
        have HLO : Hid (∀ t s, t < m + 1 → ns[t]? = some s → ltK s ks = true) := fun t s' ht hs' => by
          have h0 : ltK s.name ks = true := (cmpK_lt _ _).1 (by rw [HCV.out]; exact hcl)
          by_cases e : t = m
          · subst e
            rw [HS.out] at hs'
            cases hs'
            exact h0
          · exact ltF_trans (HAS.out t m s' s.name (by omega) hs' HS.out) h0
        clear hlo hcl
        go_wp2_with (go_at_call 54; refine (HCL.out _ (World.grownBy.refl _ _)).mono ?_; rintro e w2 ⟨rfl, b2⟩)
        go_roundw
        case rel => exact ⟨m + 1, q, by omega, hqn, by rw [HM.out]; go_num, rfl, hb.trans (b2.mono hb.size), HLO, hhi⟩
        case measure => simp [intOf]; omega
      · have dcv : decide (cv < 0) = false := decide_eq_false hcl
        have HHI : Hid (∀ t s, m ≤ t → ns[t]? = some s → ltK s ks = false) := fun t s' ht hs' => by
          have h0 : ¬ ltK s.name ks = true := fun h => hcl (by rw [← HCV.out]; exact (cmpK_lt _ _).2 h)
          by_cases e : t = m
          · subst e
            rw [HS.out] at hs'
            cases hs'
            exact Bool.eq_false_iff.2 h0
          · exact Bool.eq_false_iff.2 fun h => h0 (ltF_trans (HAS.out m t s.name s' (by omega) HS.out hs') h)
        clear hhi hcl
        go_wp2_with (go_at_call 54; refine (HCL.out _ (World.grownBy.refl _ _)).mono ?_; rintro e w2 ⟨rfl, b2⟩)
        go_roundw
        case rel => exact ⟨p, m, by omega, by omega, rfl, by rw [HM.out]; go_num, hb.trans (b2.mono hb.size), hlo, HHI⟩
        case measure => simp [intOf]; omega
    · obtain rfl : q = p := by omega
      clear hlt hpq
      by_cases hqn' : q < n
      · obtain ⟨b, o, rfl, hbl, hc⟩ := H3.out (by omega)
        obtain ⟨s, hs⟩ : ∃ s, ls[q]? = some s := ⟨_, List.getElem?_eq_getElem (by have := HN.out; omega)⟩
        have H1 := hqn'
        obtain ⟨e0, e1⟩ := HC.out q s hs
        obtain ⟨sa, sc, se⟩ := rv_shape e0
        obtain ⟨cb, cd, e1⟩ := chks_shape e1
        generalize s.checks.length = cl at e1
        have X := ext_below hb
        have c0 := World.grownBy.cell X (hc q H1 0 (by omega)) (by simp)
        have c1 := World.grownBy.cell X (hc q H1 1 (by omega)) (by simp)
        rw [Nat.add_zero, se] at c0
        rw [e1] at c1
        have HNE : Hid (RV w (.slice sa s.name.length sc) s.name) := by show RV _ _ _; rw [← se]; exact e0
        generalize s.name.length = sl at c0 HNE
        have hlt' : (q : Int) < (n : Int) := by omega
        have HLO : Hid (∀ t s, t < q → ns[t]? = some s → ltK s ks = true) := hlo
        have HHI : Hid (∀ t s, q ≤ t → ns[t]? = some s → ltK s ks = false) := hhi
        have HS : Hid (ns[q]? = some s.name) := HNS.out q s hs
        have HX := hidL X
        have HSR : Hid (∀ x ∈ s.name, 0 ≤ x ∧ x ≤ 255) := by
          obtain ⟨_, _, _, r, _⟩ := HNE.out
          exact r.rng
        obtain ⟨cv, hcv⟩ : ∃ cv, cmpK s.name ks = cv := ⟨_, rfl⟩
        have HCV : Hid (cmpK s.name ks = cv) := hcv
        have HCL : Hid (∀ V, Ext wr V → Calls Try.prog 54 #[.agg #[.slice sa sl sc, .slice cb cl cd], .slice ka kl kc] V fun e w' => e = .returned (.int .i64 cv) ∧ Below V.heap.size V w') := fun V e => by
          rw [← HCV.out]
          exact cmpSv _ _ _ _ _ _ _ V ((HNE.out.ext HX.out).ext e) ((HRK.out.ext HX.out).ext e)
        clear hc hs hcv hlo hhi X e0 e1 se
        have HQ : Hid (q ≤ ns.length) := by show _ ≤ _; have := HLN.out; omega
        by_cases hcl : cv = 0
        · have hne : (cv == 0) = true := by rw [hcl]; rfl
          have HF : Hid (ns[q]? = some ks) := by
            show _ = _
            rw [HS.out, cmpF_eq HSR.out HKR.out (by rw [HCV.out]; exact hcl)]
          clear hcl
          go_wp2_with (go_at_call 54; refine (HCL.out _ (World.grownBy.refl _ _)).mono ?_; rintro e w2 ⟨rfl, b2⟩)
          go_ret2
          exact ⟨q, true, rfl, hb.trans (b2.mono hb.size), HQ.out, HLO.out, HHI.out, fun _ => HF.out, (fun h => by cases h)⟩
        · have hne : (cv == 0) = false := by simpa using hcl
          have HF : Hid (∀ (i : Nat) a, ns[i]? = some a → a ≠ ks) := fun i y hy e => by
            subst e
            have h0 : s.name ≠ y := fun e => hcl (by rw [← HCV.out, e]; exact cmpF_self _)
            by_cases h1 : i < q
            · have := HLO.out i y h1 hy
              rw [ltF_irr] at this
              cases this
            · by_cases h2 : i = q
              · subst h2
                rw [HS.out] at hy
                cases hy
                exact h0 rfl
              · have h3 := HAS.out q i s.name y (by omega) HS.out hy
                have h4 := HHI.out q s.name (Nat.le_refl _) HS.out
                rw [h3] at h4
                cases h4
          clear hcl
          go_wp2_with (go_at_call 54; refine (HCL.out _ (World.grownBy.refl _ _)).mono ?_; rintro e w2 ⟨rfl, b2⟩)
          go_ret2
          exact ⟨q, false, rfl, hb.trans (b2.mono hb.size), HQ.out, HLO.out, HHI.out, (fun h => by cases h), fun _ => HF.out⟩
      · obtain rfl : q = n := by omega
        have HQ : Hid (q ≤ ns.length) := by show _ ≤ _; have := HLN.out; omega
        have HF : Hid (∀ (i : Nat) a, ns[i]? = some a → a ≠ ks) := fun i y hy e => by
          subst e
          have := hlo.out i y (by have := (List.getElem?_eq_some_iff.1 hy).1; have := HLN.out; omega) hy
          rw [ltF_irr] at this
          cases this
        have HLO := hidL hlo.out
        have HHI := hidL hhi.out
        clear hlo hhi
        go_wp2
        go_ret2
        exact ⟨q, false, rfl, hb, HQ.out, HLO.out, HHI.out, (fun h => by cases h), fun _ => HF.out⟩

theorem iFindSvcV (v kv : Value) (ls : List DSvc) (ks : List Int) (w : World) (h : VSvcs w v ls) (rk : RV w kv ks) (hn4 : ls.length ≤ 12) (hasc : AscF (ls.map (·.name))) :
    Calls Try.prog 30 #[v, kv] w fun e w' => FndF (ls.map (·.name)) ks w e w' := by
  have HC : Hid (Calls Try.prog 53 #[v, kv, .func (.func 54) #[] #[]] w fun e w' => FndF (ls.map (·.name)) ks w e w') := bsSv v kv ls ks w h rk hn4 hasc
  clear h rk hn4 hasc
  go_enter Try.func30, Try.ntmps30
  go_wp2_with (go_at_call 53; refine HC.out.mono ?_; rintro e w1 ⟨t, fb, rfl, b1, f1⟩)
  go_ret2
  exact ⟨t, fb, rfl, b1, f1⟩

end Go.Proofs.Ytjkhadaoldbceaa

namespace Go.Proofs.Ytjkhadaoldbceaa
open Go.RowKit

/-- Behind the insertion. -/
structure AddE (w w' : World) (L : DLoc) (ks : List Int) (mid g6 m : Nat) (nav sav nv bv sv : Value) : Prop where
  box : w'.heap[g6]? = some (.cells #[nv, bv] 29 (0, 0))
  res : w'.heap[w.heap.size + 1]? = some (.cells #[.slice none 0 0, .slice none 0 0] 29 (0, 0))
  arg : w'.heap[w.heap.size]? = some (.cells #[nav, sav] 29 (0, 0))
  bel : Below w.heap.size w w'
  nod : OwS (Rg (w.heap.size + 2) mid) w' nv L.node
  svs : OSD (fun b => mid ≤ b ∧ b < w'.heap.size ∧ b ≠ g6) w' sv (addL L ks).svcs
  low : mid ≤ w'.heap.size
theorem AddE.put {w w' : World} {L : DLoc} {ks : List Int} {mid g6 m : Nat} {nav sav nv bv sv : Value} (h : AddE w w' L ks mid g6 m nav sav nv bv sv) (h1 : w.heap.size + 1 < mid) (h2 : mid ≤ g6) : AddE w (w'.setCell ⟨g6, 1, none⟩ sv) L ks mid g6 m nav sav nv sv sv := by
  have tr : Trn (fun b => b = g6) w' (w'.setCell ⟨g6, 1, none⟩ sv) := Trn.set _ _ _ _ _ rfl
  have hs : (w'.setCell ⟨g6, 1, none⟩ sv).heap.size = w'.heap.size := by simp
  refine ⟨by simpa using set_block h.box 1 sv, (tr.block _ (Array.getElem?_eq_some_iff.1 h.res).1 (fun e => by omega)).trans h.res, (tr.block _ (Array.getElem?_eq_some_iff.1 h.arg).1 (fun e => by omega)).trans h.arg, h.bel.setCell (by show w.heap.size ≤ g6; omega) _, h.nod.keep tr (fun b hb e => by have := hb.2; omega), ?_, by rw [hs]; exact h.low⟩
  rw [hs]
  exact osd_of ((ow_osd h.svs).keep keepsV tr (fun b hb e => hb.2.2 e))
theorem AddE.below {w w' w2 : World} {L : DLoc} {ks : List Int} {mid g6 m : Nat} {nav sav nv bv sv : Value} (h : AddE w w' L ks mid g6 m nav sav nv bv sv) (b : Below w'.heap.size w' w2) : AddE w w2 L ks mid g6 m nav sav nv bv sv :=
  ⟨ext_blk (ext_below b) h.box, ext_blk (ext_below b) h.res, ext_blk (ext_below b) h.arg, h.bel.trans (b.mono h.bel.size), h.nod.ext (ext_below b), osd_of (((ow_osd h.svs).keep keepsV (R := fun _ => False) (Trn.ext (ext_below b)) (fun _ _ h => h)).mono (fun _ hx => ⟨hx.1, Nat.lt_of_lt_of_le hx.2.1 b.size, hx.2.2⟩)), Nat.le_trans h.low b.size⟩

set_option maxRecDepth 20000 in
set_option maxHeartbeats 4000000 in
theorem iLocalAddV (v kv : Value) (L : DLoc) (ks : List Int) (w : World) (h : VLoc w v L) (hl : LenLo L) (rk : RV w kv ks) (hkl0 : ks.length ≤ 1048576) :
    Calls Try.prog 9 #[v, kv] w fun e w' => ∃ nv sv mid, e = .returned (.tuple #[.agg #[nv, sv], .bool (addLX (tB (LocP L)) (tB (LocP (addL L ks))) L ks).2]) ∧ OwS (Rg w.heap.size mid) w' nv (addLX (tB (LocP L)) (tB (LocP (addL L ks))) L ks).1.node ∧ OSD (Rg mid w'.heap.size) w' sv (addLX (tB (LocP L)) (tB (LocP (addL L ks))) L ks).1.svcs ∧ (w.heap.size ≤ mid ∧ mid ≤ w'.heap.size) ∧ Below w.heap.size w w' := by
  have hE : ∀ w : World, ∀ o, Ext w (w.alloc o) := fun w o => World.grownBy_alloc _ _ _
  have h0 := hidL h
  obtain ⟨nv, sv, rfl, hn, hs⟩ := h
  obtain ⟨na, nc, rfl⟩ := rv_shape hn
  obtain ⟨sa, sc, rfl⟩ := svcs_shape hs
  obtain ⟨nn, hnn⟩ : ∃ nn, nn = L.node.length := ⟨_, rfl⟩
  obtain ⟨m, hm⟩ : ∃ m, m = L.svcs.length := ⟨_, rfl⟩
  have HNN := hidL hnn
  have HM := hidL hm
  rw [← hnn, ← hm] at h0 ⊢
  have HL := hidL hl
  have HRK := hidL rk
  obtain ⟨ka, kc, hkv⟩ := rv_shape rk
  obtain ⟨kl, hkl⟩ : ∃ kl, kl = ks.length := ⟨_, rfl⟩
  rw [← hkl] at hkv
  subst hkv
  have HKLN := hidL hkl
  clear hnn hm hn hs hl rk hkl
  have HLO : Hid (∀ V, Ext w V → Calls Try.prog 28 #[.agg #[.slice na nn nc, .slice sa m sc]] V fun e w' => e = .returned (.bool (tB (LocP L))) ∧ Below V.heap.size V w') := fun V e => iLocalOkV _ L V (h0.out.ext e) HL.out
  have HOW : Hid (∀ V, Ext w V → Calls Try.prog 29 #[.agg #[.slice na nn nc, .slice sa m sc]] V fun e w' => ∃ xa xc xb xd mid, e = .returned (.agg #[.slice xa nn xc, .slice xb m xd]) ∧ OwS (Rg V.heap.size mid) w' (.slice xa nn xc) L.node ∧ OSD (Rg mid w'.heap.size) w' (.slice xb m xd) L.svcs ∧ (V.heap.size ≤ mid ∧ mid ≤ w'.heap.size) ∧ Below V.heap.size V w') := fun V e => (copyLocV _ L V (h0.out.ext e) HL.out).mono fun e w' ⟨nv, sv, mid, h1, h2, h3, h4, h5⟩ => by
    obtain ⟨xa, xc, rfl⟩ := rv_shape h2.rv
    obtain ⟨xb, xd, rfl⟩ := svcs_shape h3.v
    rw [← HNN.out] at h1 h2
    rw [← HM.out] at h1 h3
    exact ⟨xa, xc, xb, xd, mid, h1, h2, h3, h4, h5⟩
  have HR : Hid (∀ x, tB (LocP L) = x → addLX (tB (LocP L)) (tB (LocP (addL L ks))) L ks = if x then (if 0 ≤ plS L ks then (L, false) else doneX (tB (LocP (addL L ks))) (addL L ks) L) else (zeroLoc, false)) := fun x h => by subst h; rfl
  have HKL := hidL hkl0
  have HLP : Hid (tB (LocP L) = true → LocP L) := fun h => tB_iff.1 h
  obtain ⟨R, hR⟩ : ∃ R, R = addLX (tB (LocP L)) (tB (LocP (addL L ks))) L ks := ⟨_, rfl⟩
  rw [← hR] at HR ⊢
  clear hR hkl0
  go_enter Try.func9, Try.ntmps9
  go_upto_region 1 with fail
  generalize hW : World.alloc (World.alloc w _) _ = W
  have PA : W.heap[w.heap.size]? = some (.cells #[.slice na nn nc, .slice sa m sc] 29 (0, 0)) := by rw [← hW]; exact al2a _ _ _
  have PR : W.heap[w.heap.size + 1]? = some (.cells #[.slice none 0 0, .slice none 0 0] 29 (0, 0)) := by rw [← hW]; exact al2b _ _ _
  have BW : Below w.heap.size w W := by rw [← hW]; exact ((Below.refl _ w).alloc (Nat.le_refl _) _).alloc (by simp) _
  have hW2 : Hid (W.heap.size = w.heap.size + 2) := by show _ = _; rw [← hW]; simp
  clear hW
  obtain ⟨⟨x0, x1⟩, _, _⟩ := cells2S PA
  go_wp2_with fail
  refine (HLO.out W (ext_below BW)).mono ?_
  rintro e w1 ⟨rfl, b1⟩
  have PA1 := below_blk b1 (by have := hW2.out; omega) PA
  have PR1 := below_blk b1 (by have := hW2.out; omega) PR
  have B1 := hidL (BW.trans (b1.mono BW.size))
  have HFAIL : Hid (R = (zeroLoc, false) → ∃ nv sv mid, (Ending.returned (.tuple #[.agg #[.slice none 0 0, .slice none 0 0], .bool false]) : Ending) = .returned (.tuple #[.agg #[nv, sv], .bool R.2]) ∧ OwS (Rg w.heap.size mid) ((w1.setCell ⟨w.heap.size + 1, 0, none⟩ (.slice none 0 0)).setCell ⟨w.heap.size + 1, 1, none⟩ (.slice none 0 0)) nv R.1.node ∧ OSD (Rg mid ((w1.setCell ⟨w.heap.size + 1, 0, none⟩ (.slice none 0 0)).setCell ⟨w.heap.size + 1, 1, none⟩ (.slice none 0 0)).heap.size) ((w1.setCell ⟨w.heap.size + 1, 0, none⟩ (.slice none 0 0)).setCell ⟨w.heap.size + 1, 1, none⟩ (.slice none 0 0)) sv R.1.svcs ∧ (w.heap.size ≤ mid ∧ mid ≤ ((w1.setCell ⟨w.heap.size + 1, 0, none⟩ (.slice none 0 0)).setCell ⟨w.heap.size + 1, 1, none⟩ (.slice none 0 0)).heap.size) ∧ Below w.heap.size w ((w1.setCell ⟨w.heap.size + 1, 0, none⟩ (.slice none 0 0)).setCell ⟨w.heap.size + 1, 1, none⟩ (.slice none 0 0))) := fun hr => by
    rw [hr]
    exact ⟨_, _, w.heap.size, rfl, ows_nil _ _, osd_nil _ _, ⟨Nat.le_refl _, by simp; have := B1.out.size; omega⟩, (B1.out.setCell (Nat.le_succ _) _).setCell (Nat.le_succ _) _⟩
  clear x0 x1 PA PR BW b1
  obtain ⟨⟨x0, x1⟩, _, _⟩ := cells2S PA1
  obtain ⟨⟨r0, r1⟩, k0, k1⟩ := cells2S PR1
  cases hb : tB (LocP L)
  · have HK : Hid (R = (zeroLoc, false)) := by show _ = _; rw [HR.out false hb]; rfl
    clear hb HR
    go_wp2
    refine bodyPost_ret (v := .tuple #[.agg #[.slice none 0 0, .slice none 0 0], .bool false]) (by simp [results, Try.results9, go_sem, *]) rfl ?_
    exact HFAIL.out HK.out
  have HB := hidL (HLP.out hb)
  have HHIT : Hid (∀ t : Nat, plS L ks = t → R = (L, false)) := fun t ht => by rw [HR.out true hb, if_pos rfl, if_pos (by omega)]
  have HMISS : Hid (plS L ks = -1 → R = doneX (tB (LocP (addL L ks))) (addL L ks) L) := fun ht => by rw [HR.out true hb, if_pos rfl, if_neg (by omega)]
  clear hb HR HFAIL
  go_wp2_with fail
  refine (HOW.out w1 (ext_below B1.out)).mono ?_
  rintro e w2 ⟨xa, xc, xb, xd, mid, rfl, o2, s2, hm2, b2⟩
  have PR2 := below_blk b2 (Array.getElem?_eq_some_iff.1 PR1).1 PR1
  have B2 := hidL (B1.out.trans (b2.mono B1.out.size))
  have hw1 := (Array.getElem?_eq_some_iff.1 PR1).1
  clear x0 x1 r0 r1 k0 k1
  go_upto_region 4 with fail
  generalize hU : World.alloc w2 _ = U
  have PU : U.heap[w2.heap.size]? = some (.cells #[.slice xa nn xc, .slice xb m xd] 29 (0, 0)) := by rw [← hU]; exact heap_alloc_new _ _
  have XU : Ext w2 U := by rw [← hU]; exact hE _ _
  clear hU
  have HPU := hidL PU
  have HPAU := hidL (ext_blk XU (below_blk b2 (Array.getElem?_eq_some_iff.1 PA1).1 PA1))
  have HPRU := hidL (ext_blk XU PR2)
  have HBU := hidL (B2.out.trans ((ext_bel XU).mono B2.out.size))
  have HOU := hidL (o2.ext XU)
  have HSU := hidL (s2.ext XU)
  have HRU := hidL (HRK.out.ext (ext_below HBU.out))
  have PUL := (Array.getElem?_eq_some_iff.1 PU).1
  obtain ⟨g6, hg6⟩ : ∃ g6, g6 = w2.heap.size := ⟨_, rfl⟩
  rw [← hg6] at HPU HSU PUL ⊢
  have HSZ : Hid (w.heap.size + 1 < w1.heap.size ∧ w1.heap.size ≤ mid ∧ mid ≤ g6 ∧ g6 < U.heap.size) := ⟨hw1, hm2.1, by omega, PUL⟩
  clear hg6 PU XU PR2 o2 s2 hm2 b2 B2 PA1 PR1 hw1
  have hmm : (m : Int) ≤ 1000 := by have := HB.out.2.1; have := HM.out; omega
  obtain ⟨⟨x0, x1⟩, _, _⟩ := cells2S HPU.out
  go_wp2_with fail
  refine (iFindSvcV _ _ L.svcs ks U HSU.out.v HRU.out (by have := HB.out.2.1; omega) (ascF_svcs HB.out.2.2)).mono ?_
  rintro e w3 ⟨t, fb, rfl, b3, f0, f1, f2, f3, f4⟩
  have X3 := ext_below b3
  have HP3 := hidL (ext_blk X3 HPU.out)
  have HR3 := hidL (ext_blk X3 HPRU.out)
  have HA3 := hidL (ext_blk X3 HPAU.out)
  have HB3 := hidL (HBU.out.trans (b3.mono HBU.out.size))
  have HO3 := hidL (HOU.out.ext X3)
  have HS3 := hidL (HSU.out.ext X3)
  have HZ3 := hidL b3.size
  have HF1 := hidL f1
  have HF2 := hidL f2
  have HF0 := hidL f0
  have HF3 := hidL f3
  have HF4 := hidL f4
  clear x0 x1 b3 X3 f0 f1 f2 f3 f4
  obtain ⟨⟨x0, x1⟩, l0, l1⟩ := cells2S HP3.out
  obtain ⟨⟨r0, r1⟩, k0, k1⟩ := cells2S HR3.out
  cases fb
  rotate_left
  · have HK : Hid (R = (L, false)) := HHIT.out t (plS_hit HF1.out (HF3.out rfl))
    have hsz := HSZ.out
    have hz3 := HZ3.out
    have TR : Trn (fun b => b = w.heap.size + 1) w3 ((w3.setCell ⟨w.heap.size + 1, 0, none⟩ (.slice xa nn xc)).setCell ⟨w.heap.size + 1, 1, none⟩ (.slice xb m xd)) := (Trn.set (fun b => b = w.heap.size + 1) _ _ _ _ rfl).trans (Trn.set (fun b => b = w.heap.size + 1) _ _ _ _ rfl)
    have hss : ((w3.setCell ⟨w.heap.size + 1, 0, none⟩ (.slice xa nn xc)).setCell ⟨w.heap.size + 1, 1, none⟩ (.slice xb m xd)).heap.size = w3.heap.size := by simp
    have HW1 : Hid (OwS (Rg w.heap.size mid) ((w3.setCell ⟨w.heap.size + 1, 0, none⟩ (.slice xa nn xc)).setCell ⟨w.heap.size + 1, 1, none⟩ (.slice xb m xd)) (.slice xa nn xc) L.node) := (HO3.out.keep TR (fun b h e => by have := h.1; omega)).mono (fun b h => ⟨by have := h.1; omega, h.2⟩)
    have HW2 : Hid (OSD (Rg mid ((w3.setCell ⟨w.heap.size + 1, 0, none⟩ (.slice xa nn xc)).setCell ⟨w.heap.size + 1, 1, none⟩ (.slice xb m xd)).heap.size) ((w3.setCell ⟨w.heap.size + 1, 0, none⟩ (.slice xa nn xc)).setCell ⟨w.heap.size + 1, 1, none⟩ (.slice xb m xd)) (.slice xb m xd) L.svcs) := by
      rw [hss]
      exact (HS3.out.keep TR (fun b h e => by have := h.1; omega)).mono (fun b h => ⟨h.1, by have := h.2; omega⟩)
    have HW3 : Hid (Below w.heap.size w ((w3.setCell ⟨w.heap.size + 1, 0, none⟩ (.slice xa nn xc)).setCell ⟨w.heap.size + 1, 1, none⟩ (.slice xb m xd))) := (HB3.out.setCell (Nat.le_succ _) _).setCell (Nat.le_succ _) _
    have HW4 := hidL (show w.heap.size ≤ mid ∧ mid ≤ ((w3.setCell ⟨w.heap.size + 1, 0, none⟩ (.slice xa nn xc)).setCell ⟨w.heap.size + 1, 1, none⟩ (.slice xb m xd)).heap.size by rw [hss]; omega)
    clear hss TR hsz hz3 HF0 HF1 HF2 HF3 HF4 HHIT HMISS
    go_wp2
    refine bodyPost_ret (v := .tuple #[.agg #[.slice xa nn xc, .slice xb m xd], .bool false]) (by simp [results, Try.results9, go_sem, *]) rfl ?_
    rw [HK.out]
    exact ⟨_, _, mid, rfl, HW1.out, HW2.out, HW4.out, HW3.out⟩
  · have HK : Hid (R = doneX (tB (LocP (addL L ks))) (addL L ks) L) := HMISS.out (plS_none (HF4.out rfl))
    have HIP : Hid (insP L ks = t) := insP_eq HF1.out HF2.out (by simpa using HF0.out)
    have htm : t ≤ m := by have := HF0.out; have := HM.out; simp at *; omega
    have HTM := hidL htm
    have HML : Hid (m ≤ 6) := by have := HB.out.2.1; have := HM.out; show _ ≤ _; omega
    have HCL : Hid (∀ V, Ext w3 V → Calls Try.prog 32 #[.slice ka kl kc] V fun e w' => ∃ qa qc, e = .returned (.slice qa kl qc) ∧ (w'.cell? ⟨g6, 0, none⟩ = some (.slice xa nn xc) ∧ w'.cell? ⟨g6, 1, none⟩ = some (.slice xb m xd)) ∧ Hid (OwS (Rg w3.heap.size w'.heap.size) w' (.slice qa kl qc) ks) ∧ Hid (Ext w3 w')) := fun V e => (cloneV _ ks V ((HRK.out.ext (ext_below HB3.out)).ext e) (by have := HKL.out; omega)).mono fun e' w' ⟨v', h1, h2, h3⟩ => by
      have X : Ext w3 w' := e.trans (ext_below h3)
      have hr := rv_rngK HRK.out
      obtain ⟨qa, qc, rfl⟩ := rv_shape (Ow.rv h2 hr)
      rw [← HKLN.out] at h1 h2
      exact ⟨qa, qc, h1, ⟨(at_block (ext_blk X HP3.out) 0 _ rfl).1, (at_block (ext_blk X HP3.out) 1 _ rfl).1⟩, ows_of h2 hr e.size, X⟩
    have HINS : Hid (∀ (w4 : World) qa qc, Ext w3 w4 → OwS (Rg w3.heap.size w4.heap.size) w4 (.slice qa kl qc) ks → ∀ W, Ext (w4.alloc (.cells #[.slice qa kl qc, .slice none 0 0] 54 (0, 0))) W → Calls Try.prog 31 #[.slice xb m xd, .int .i64 t, .slice (some ⟨w4.heap.size, 0, none⟩) 1 1] W fun e w' => ∃ g' cap', e = .returned (.slice (some ⟨g', 0, none⟩) (m + 1) cap') ∧ (w'.cell? ⟨g6, 0, none⟩ = some (.slice xa nn xc) ∧ w'.cell? ⟨g6, 1, none⟩ = some (.slice xb m xd) ∧ w'.frozen? ⟨g6, 1, none⟩ = false) ∧ Hid (AddE w w' L ks mid g6 m (.slice na nn nc) (.slice sa m sc) (.slice xa nn xc) (.slice xb m xd) (.slice (some ⟨g', 0, none⟩) (m + 1) cap'))) := fun w4 qa qc X4 o4 W XW => by
      have hsz := HSZ.out
      have hz3 := HZ3.out
      have hz4 := X4.size
      have XA : Ext w4 W := (hE _ _).trans XW
      have X3W : Ext w3 W := X4.trans XA
      have hzw : w4.heap.size + 1 ≤ W.heap.size := by have := XW.size; simpa using this
      refine (insSvcV mid g6 t w4.heap.size m xd xb _ ks L.svcs W (osd_of ((ow_osd HS3.out).keep keepsV (R := fun _ => False) (Trn.ext X3W) (fun _ _ h => h))) HM.out (by have := HML.out; omega) HTM.out (ext_blk XW (heap_alloc_new _ _)) (by omega) w3.heap.size (o4.ext XA) (by omega) (by omega)).mono ?_
      rintro e w' ⟨g', cap', rfl, q1, q2, q3⟩
      have P6 := (q3.block g6 (by omega) (fun hb => by have := hb.2; omega)).trans (ext_blk X3W HP3.out)
      have hz' := q3.size
      refine ⟨g', cap', rfl, ⟨(at_block P6 0 _ rfl).1, (at_block P6 1 _ rfl).1, (at_block P6 1 _ rfl).2⟩, P6, (q3.block _ (by omega) (fun hb => by have := hb.1; omega)).trans (ext_blk X3W HR3.out), (q3.block _ (by omega) (fun hb => by have := hb.1; omega)).trans (ext_blk X3W HA3.out), Trn.below (HB3.out.trans ((ext_bel X3W).mono HB3.out.size)) q3 (by have := HB3.out.size; omega) (fun _ hx => by have := hx.1; omega), ((HO3.out.ext X3W).keep q3 (fun b hb hb2 => by have := hb.2; have := hb2.1; omega)).mono (fun b hb => ⟨by have := hb.1; omega, hb.2⟩), ?_, by omega⟩
      have e1 : (addL L ks).svcs = L.svcs.take t ++ ⟨ks, []⟩ :: L.svcs.drop t := by unfold addL; rw [HIP.out]
      rw [e1]
      have hgl : g' < w'.heap.size := by
        rcases (ow_osd q1).cases with ⟨_, _, _, ⟨e2, _⟩, e3⟩ | ⟨g2, _, _, _, e2, e3⟩
        · simp at e3
        · injection e2 with e4
          injection e4 with e5
          injection e5 with e6
          rw [e6]
          exact blk_lt e3.blk
      refine osd_of ((ow_osd q1).mono fun b hb => ?_)
      rcases hb with hb | hb | rfl
      · exact ⟨hb.1, by have := hb.2; omega, by have := hb.2; omega⟩
      · exact ⟨by have := hb.1; omega, by have := hb.2; omega, by have := hb.1; omega⟩
      · rcases q2 with hb | hb
        · exact ⟨hb.1, hgl, by have := hb.2; omega⟩
        · exact ⟨by omega, hgl, by omega⟩
    have hne6 := World.new_ne w3 _ x1
    clear HHIT HMISS HF0 HF1 HF2 HF3 HF4 htm
    clear r0 r1 k0 k1 l0
    go_wp2_with fail
    go_region_law (first | (go_simp; go_at_call 31; refine (HINS.out w4 qa qc X4.out o4.out _ ?_).mono ?_; (first | exact World.grownBy.refl _ _ | exact ext_drewN _ _); rintro e w5 ⟨g', cap', rfl, ⟨y0, y1, z1⟩, E5⟩) | (go_simp; go_at_call 32; refine (HCL.out _ ?_).mono ?_; (first | exact ext_drewN w3 1 | exact World.grownBy.refl _ _); rintro e w4 ⟨qa, qc, rfl, ⟨u0, u1⟩, o4, X4⟩; have hn4 := World.new_ne w4 _ u1; have u2 := (show ∀ o, (w4.alloc o).cell? ⟨g6, 1, none⟩ = some (.slice xb m xd) from fun o => World.grownBy.cell (World.grownBy_alloc w4 o none) u1 (by simp))))
    all_goals
      have hsz := HSZ.out
      have hz3 := HZ3.out
      generalize hw6 : w5.setCell ⟨g6, 1, none⟩ (.slice (some ⟨g', 0, none⟩) (m + 1) cap') = w6
      have HE6 : Hid (AddE w w6 L ks mid g6 m (.slice na nn nc) (.slice sa m sc) (.slice xa nn xc) (.slice (some ⟨g', 0, none⟩) (m + 1) cap') (.slice (some ⟨g', 0, none⟩) (m + 1) cap')) := by rw [← hw6]; exact E5.out.put (by omega) (by omega)
      have HE7 := HE6
      clear hw6 E5 y0 y1 z1 u0 u1 u2 hn4 X4 o4 HINS HCL hne6 x0 x1 l1
      obtain ⟨⟨x0, x1⟩, _, _⟩ := cells2S HE6.out.box
      obtain ⟨⟨p0, p1⟩, _, _⟩ := cells2S HE6.out.arg
      go_wp2_with fail
      refine (iIfOkV _ _ (addL L ks) L w6 ⟨_, _, rfl, HE6.out.nod.rv, HE6.out.svs.v⟩ (h0.out.ext (ext_below HE6.out.bel)) (lenLo_add HL.out HKL.out (by have := HML.out; have := HM.out; omega)) HL.out).mono ?_
      rintro e w7 ⟨b7, h7⟩
      have hz6 := HE6.out.low
      have hz7 := b7.size
      clear x0 x1 p0 p1
      rcases h7 with ⟨ho, rfl⟩ | ⟨ho, nv, sv, mid2, rfl, o7, s7, hm7⟩
      · have HE8 := hidL (HE6.out.below b7)
        have TR : Trn (fun b => b = w.heap.size + 1) w7 ((w7.setCell ⟨w.heap.size + 1, 0, none⟩ (.slice xa nn xc)).setCell ⟨w.heap.size + 1, 1, none⟩ (.slice (some ⟨g', 0, none⟩) (m + 1) cap')) := (Trn.set (fun b => b = w.heap.size + 1) _ _ _ _ rfl).trans (Trn.set (fun b => b = w.heap.size + 1) _ _ _ _ rfl)
        have hss : ((w7.setCell ⟨w.heap.size + 1, 0, none⟩ (.slice xa nn xc)).setCell ⟨w.heap.size + 1, 1, none⟩ (.slice (some ⟨g', 0, none⟩) (m + 1) cap')).heap.size = w7.heap.size := by simp
        have HW1 : Hid (OwS (Rg w.heap.size mid) ((w7.setCell ⟨w.heap.size + 1, 0, none⟩ (.slice xa nn xc)).setCell ⟨w.heap.size + 1, 1, none⟩ (.slice (some ⟨g', 0, none⟩) (m + 1) cap')) (.slice xa nn xc) L.node) := ((HE8.out.nod).keep TR (fun b h e => by have := h.1; omega)).mono (fun b h => ⟨by have := h.1; omega, h.2⟩)
        have HW2 : Hid (OSD (Rg mid ((w7.setCell ⟨w.heap.size + 1, 0, none⟩ (.slice xa nn xc)).setCell ⟨w.heap.size + 1, 1, none⟩ (.slice (some ⟨g', 0, none⟩) (m + 1) cap')).heap.size) ((w7.setCell ⟨w.heap.size + 1, 0, none⟩ (.slice xa nn xc)).setCell ⟨w.heap.size + 1, 1, none⟩ (.slice (some ⟨g', 0, none⟩) (m + 1) cap')) (.slice (some ⟨g', 0, none⟩) (m + 1) cap') (addL L ks).svcs) := by
          rw [hss]
          exact osd_of (((ow_osd (HE8.out.svs)).keep keepsV TR (fun b h e => by have := h.1; omega)).mono (fun b h => ⟨h.1, h.2.1⟩))
        have HW3 : Hid (Below w.heap.size w ((w7.setCell ⟨w.heap.size + 1, 0, none⟩ (.slice xa nn xc)).setCell ⟨w.heap.size + 1, 1, none⟩ (.slice (some ⟨g', 0, none⟩) (m + 1) cap'))) := ((HE6.out.bel.trans (b7.mono HE6.out.bel.size)).setCell (Nat.le_succ _) _).setCell (Nat.le_succ _) _
        have HW4 := hidL (show w.heap.size ≤ mid ∧ mid ≤ ((w7.setCell ⟨w.heap.size + 1, 0, none⟩ (.slice xa nn xc)).setCell ⟨w.heap.size + 1, 1, none⟩ (.slice (some ⟨g', 0, none⟩) (m + 1) cap')).heap.size by rw [hss]; omega)
        have HKK : Hid (R = (addL L ks, true)) := by show _ = _; rw [HK.out, ho]; rfl
        obtain ⟨⟨r0, r1⟩, k0, k1⟩ := cells2S (ext_blk (ext_below b7) HE6.out.res)
        clear hss TR b7 ho hsz hz3 hz6 hz7
        go_wp2
        refine bodyPost_ret (v := .tuple #[.agg #[.slice xa nn xc, .slice (some ⟨g', 0, none⟩) (m + 1) cap'], .bool true]) (by simp [results, Try.results9, go_sem, *]) rfl ?_
        rw [HKK.out]
        exact ⟨_, _, mid, rfl, HW1.out, HW2.out, HW4.out, HW3.out⟩
      · obtain ⟨va, vc, rfl⟩ := rv_shape o7.rv
        obtain ⟨ta, tc, rfl⟩ := svcs_shape s7.v
        obtain ⟨vn, hvn⟩ : ∃ n, n = L.node.length := ⟨_, rfl⟩
        obtain ⟨tn, htn⟩ : ∃ n, n = L.svcs.length := ⟨_, rfl⟩
        rw [← hvn] at o7 ⊢
        rw [← htn] at s7 ⊢
        clear hvn htn
        have hlow : w.heap.size + 1 < w6.heap.size := (Array.getElem?_eq_some_iff.1 HE6.out.res).1
        have TR : Trn (fun b => b = w.heap.size + 1) w7 ((w7.setCell ⟨w.heap.size + 1, 0, none⟩ (.slice va vn vc)).setCell ⟨w.heap.size + 1, 1, none⟩ (.slice ta tn tc)) := (Trn.set (fun b => b = w.heap.size + 1) _ _ _ _ rfl).trans (Trn.set (fun b => b = w.heap.size + 1) _ _ _ _ rfl)
        have hss : ((w7.setCell ⟨w.heap.size + 1, 0, none⟩ (.slice va vn vc)).setCell ⟨w.heap.size + 1, 1, none⟩ (.slice ta tn tc)).heap.size = w7.heap.size := by simp
        have HW1 : Hid (OwS (Rg w.heap.size mid2) ((w7.setCell ⟨w.heap.size + 1, 0, none⟩ (.slice va vn vc)).setCell ⟨w.heap.size + 1, 1, none⟩ (.slice ta tn tc)) (.slice va vn vc) L.node) := ((o7).keep TR (fun b h e => by have := h.1; omega)).mono (fun b h => ⟨by have := h.1; omega, h.2⟩)
        have HW2 : Hid (OSD (Rg mid2 ((w7.setCell ⟨w.heap.size + 1, 0, none⟩ (.slice va vn vc)).setCell ⟨w.heap.size + 1, 1, none⟩ (.slice ta tn tc)).heap.size) ((w7.setCell ⟨w.heap.size + 1, 0, none⟩ (.slice va vn vc)).setCell ⟨w.heap.size + 1, 1, none⟩ (.slice ta tn tc)) (.slice ta tn tc) L.svcs) := by
          rw [hss]
          exact osd_of (((ow_osd (s7)).keep keepsV TR (fun b h e => by have := h.1; omega)).mono (fun b h => ⟨h.1, h.2⟩))
        have HW3 : Hid (Below w.heap.size w ((w7.setCell ⟨w.heap.size + 1, 0, none⟩ (.slice va vn vc)).setCell ⟨w.heap.size + 1, 1, none⟩ (.slice ta tn tc))) := ((HE6.out.bel.trans (b7.mono HE6.out.bel.size)).setCell (Nat.le_succ _) _).setCell (Nat.le_succ _) _
        have HW4 := hidL (show w.heap.size ≤ mid2 ∧ mid2 ≤ ((w7.setCell ⟨w.heap.size + 1, 0, none⟩ (.slice va vn vc)).setCell ⟨w.heap.size + 1, 1, none⟩ (.slice ta tn tc)).heap.size by rw [hss]; omega)
        have HKK : Hid (R = (L, false)) := by show _ = _; rw [HK.out, ho]; rfl
        obtain ⟨⟨r0, r1⟩, k0, k1⟩ := cells2S (ext_blk (ext_below b7) HE6.out.res)
        clear hss TR b7 ho hsz hz3 hz6 hz7 hlow o7 s7 hm7
        go_wp2
        refine bodyPost_ret (v := .tuple #[.agg #[.slice va vn vc, .slice ta tn tc], .bool false]) (by simp [results, Try.results9, go_sem, *]) rfl ?_
        rw [HKK.out]
        exact ⟨_, _, mid2, rfl, HW1.out, HW2.out, HW4.out, HW3.out⟩

end Go.Proofs.Ytjkhadaoldbceaa

namespace Go.Proofs.Ytjkhadaoldbceaa
open Go.RowKit

set_option maxHeartbeats 2000000 in
theorem sFind14V (x0 v : Value) (ss : List DSvc) (kv : Value) (ks : List Int) (w : World) (h : VSvcs w v ss) (rk : RV w kv ks) :
    Calls Try.prog 24 #[.agg #[x0, v], kv] w fun e w' => e = .returned (.int .i64 (fnd (fun s => decide (s.name = ks)) ss)) ∧ Below w.heap.size w w' := by
  have hE : ∀ w : World, ∀ o, Ext w (w.alloc o) := fun w o => World.grownBy_alloc _ _ _
  have hB : ∀ w : World, ∀ o, Below w.heap.size w (w.alloc o) := fun w o => (Below.refl _ w).alloc (Nat.le_refl _) _
  obtain ⟨C, ⟨a, cap, rfl, h1, h2, h3⟩, hC⟩ := h
  have HC : Hid (∀ i r, ss[i]? = some r → RV w (C i 0) r.name ∧ VChks w (C i 1) r.checks) := hC
  clear hC
  obtain ⟨n, hnn⟩ : ∃ n, n = ss.length := ⟨_, rfl⟩
  rw [← hnn] at h1 h3 ⊢
  have HN : Hid (n = ss.length) := hnn
  clear hnn
  unfold maxLen at h2
  have H3 : Hid (0 < n → ∃ b o, a = some ⟨b, o, none⟩ ∧ b < w.heap.size ∧ ∀ i, i < n → ∀ j, j < 2 → w.cell? ⟨b, o + i * 2 + j, none⟩ = some (C i j)) := h3
  clear h3
  obtain ⟨ka, kc, rfl, krd, _, _⟩ := rk
  have krg := krd.rng
  obtain ⟨kn, hkn0⟩ : ∃ kn, kn = ks.length := ⟨_, rfl⟩
  rw [← hkn0] at krd ⊢
  clear hkn0
  go_enter Try.func24, Try.ntmps24
  go_wp2
  generalize hW : w.alloc _ = W
  have HW : Hid (Below w.heap.size w W ∧ Ext w W) := by rw [← hW]; exact ⟨hB _ _, hE _ _⟩
  have hq : W.cell? ⟨w.heap.size, 1, none⟩ = some (.slice a n cap) := by rw [← hW]; exact (at_block (heap_alloc_new w _) 1 _ rfl).1
  clear hW
  go_loopw [5] (fun i wr => ∃ k q : Nat, k ≤ n ∧ i = .int .i64 k ∧ wr = W.drewN q ∧ Hid (∀ i s, i < k → ss[i]? = some s → (fun s => decide (s.name = ks)) s = false)) (fun i _ => n - (intOf i).toNat)
  case atStart => exact ⟨0, 0, Nat.zero_le _, rfl, rfl, fun i s hi => absurd hi (by omega)⟩
  case round =>
    obtain ⟨k, q, hk, rfl, rfl, hall⟩ := hrel
    by_cases hlt : k < n
    · obtain ⟨b, o, rfl, hbl, hc⟩ := H3.out (by omega)
      obtain ⟨s, hs⟩ : ∃ s, ss[k]? = some s := ⟨_, List.getElem?_eq_getElem (by have := HN.out; omega)⟩
      obtain ⟨e0, e1⟩ := HC.out k s hs
      have c0 := World.grownBy.cell HW.out.2 (hc k hlt 0 (by omega)) (by simp)
      obtain ⟨sa, sc, se, srd, _, _⟩ := e0
      rw [Nat.add_zero, se] at c0
      have HS : Hid (((strOfNums s.name).toList == (strOfNums ks).toList) = decide (s.name = ks)) := str_eq s.name ks srd.rng krg
      have hcv := fun q => convR (w := W.drewN q) ((srd.grown HW.out.2).grown (ext_drewN W q)) sc
      have hcu := fun q => convR (w := W.drewN q) ((krd.grown HW.out.2).grown (ext_drewN W q)) kc
      generalize s.name.length = sn at c0 hcv
      have hlt' : (k : Int) < (n : Int) := by omega
      clear hc
      by_cases hid : s.name = ks
      · have HK : Hid (fnd (fun s => decide (s.name = ks)) ss = (k : Int)) := fnd_at hall.out hs (decide_eq_true hid)
        have hse : ((strOfNums s.name).toList == (strOfNums ks).toList) = true := by rw [HS.out]; exact decide_eq_true hid
        clear hall hid
        go_wp2
        go_quiet (fail)
        go_wp2
        go_ret
        exact ⟨by rw [HK.out]; rfl, below_drewN (below_drewN HW.out.1 _) _⟩
      · have HA : Hid (∀ i s, i < k + 1 → ss[i]? = some s → (fun s => decide (s.name = ks)) s = false) := fun i s' hi hs' => by
          by_cases e : i = k
          · subst e
            rw [hs] at hs'
            cases hs'
            exact decide_eq_false hid
          · exact hall.out i s' (by omega) hs'
        have hse : ((strOfNums s.name).toList == (strOfNums ks).toList) = false := by rw [HS.out]; exact decide_eq_false hid
        clear hall hid
        go_wp2
        go_quiet (fail)
        go_wp2
        go_roundw
        case rel => exact ⟨k + 1, q + nq, by omega, by go_num, rfl, HA⟩
        case measure => simp [intOf]; omega
    · have hkn : k = n := by omega
      subst hkn
      have HK : Hid (fnd (fun s => decide (s.name = ks)) ss = -1) := fnd_none (fun i s hs => hall.out i s (by have := (List.getElem?_eq_some_iff.1 hs).1; have := HN.out; omega) hs)
      clear hall
      go_wp2
      go_ret
      exact ⟨by rw [HK.out]; rfl, below_drewN HW.out.1 _⟩

end Go.Proofs.Ytjkhadaoldbceaa

namespace Go.Proofs.Ytjkhadaoldbceaa
open Go.RowKit

theorem row_sl {base T K : Nat} {w : World} {v : Value} {n : Nat} {F : Nat → Nat → Value} (h : Row base T K w v n F) : SL w K v n F := by
  rcases h.blk with ⟨rfl, rfl⟩ | ⟨g, cap, rfl, _, hc, hm, cur, hg, hs, hF⟩
  · exact ⟨none, 0, rfl, Nat.le_refl _, Nat.zero_le _, fun h => absurd h (by omega)⟩
  · refine ⟨_, cap, rfl, hc, hm, fun _ => ⟨g, 0, rfl, (Array.getElem?_eq_some_iff.1 hg).1, fun i hi j hj => ?_⟩⟩
    rw [Nat.zero_add, cell_of_row w g _ cur _ (0, 0) hg]
    exact hF i hi j hj
theorem erase_get {α : Type} {l : List α} {t i : Nat} {x : α} (h : (l.eraseIdx t)[i]? = some x) : l[if i < t then i else i + 1]? = some x := by
  rw [List.getElem?_eraseIdx] at h
  split
  · rename_i hi
    rw [if_pos hi] at h
    exact h
  · rename_i hi
    rw [if_neg hi] at h
    exact h
theorem lenLo_erase {L : DLoc} (h : LenLo L) (t : Nat) : LenLo ⟨L.node, L.svcs.eraseIdx t⟩ :=
  ⟨h.1, Nat.le_trans (List.eraseIdx_sublist _ _).length_le h.2.1, fun _ c hc => h.2.2 _ c (erase_get hc)⟩
/-- Behind the first append. -/
structure Drop5 (w U : World) (g7 : Nat) (na : Option Addr) (nn nc t : Nat) (C : Nat → Nat → Value) (v5 : Value) (w5 : World) : Prop where
  row : Row 0 54 2 w5 v5 t C
  box : w5.heap[g7]? = some (.cells #[.slice na nn nc, .slice none 0 0] 29 (0, 0))
  bel : Below g7 U w5
  blk : ∀ b, v5.ownBlock = some b → g7 < b
/-- Behind the second append. -/
structure Drop7 (w U : World) (g7 : Nat) (na : Option Addr) (nn nc t r : Nat) (C : Nat → Nat → Value) (qa : Option Addr) (qc : Nat) (v7 : Value) (w6 : World) : Prop where
  row : Row 0 54 2 w6 v7 r (skipF t C)
  box : w6.heap[g7]? = some (.cells #[.slice na nn nc, .slice qa t qc] 29 (0, 0))
  bel : Below g7 U w6
  blk : ∀ b, v7.ownBlock = some b → g7 < b
structure Drop6 (w w5 : World) (g7 : Nat) (na : Option Addr) (nn nc sc : Nat) (C : Nat → Nat → Value) (qa : Option Addr) (t qc m b o : Nat) : Prop where
  boxL : (w5.setCell ⟨g7, 1, none⟩ (.slice qa t qc)).heap[w.heap.size]? = some (.cells #[.slice na nn nc, .slice (some ⟨b, o, none⟩) m sc] 29 (0, 0))
  boxO : (w5.setCell ⟨g7, 1, none⟩ (.slice qa t qc)).heap[g7]? = some (.cells #[.slice na nn nc, .slice qa t qc] 29 (0, 0))
  row2 : Row 0 54 2 (w5.setCell ⟨g7, 1, none⟩ (.slice qa t qc)) (.slice qa t qc) t C
  src : ∀ ad (k : Nat), k = m - (t + 1) → (0 < k → ad = (⟨b, o + (t + 1) * 2, none⟩ : Addr)) → Src 2 (w5.setCell ⟨g7, 1, none⟩ (.slice qa t qc)) (some ad) k (fun a => C (t + 1 + a))
structure Drop8 (w w7 : World) (na : Option Addr) (nn nc : Nat) (sa : Option Addr) (m sc g7 : Nat) (ra : Option Addr) (r rc t : Nat) (L : DLoc) : Prop where
  locL : VLoc w7 (.agg #[.slice na nn nc, .slice sa m sc]) L
  locO : VLoc w7 (.agg #[.slice na nn nc, .slice ra r rc]) ⟨L.node, L.svcs.eraseIdx t⟩
  bel : Below w.heap.size w w7
  boxL : w7.heap[w.heap.size]? = some (.cells #[.slice na nn nc, .slice sa m sc] 29 (0, 0))
  boxO : w7.heap[g7]? = some (.cells #[.slice na nn nc, .slice ra r rc] 29 (0, 0))
  boxR : w7.heap[w.heap.size + 1]? = some (.cells #[.slice none 0 0, .slice none 0 0] 29 (0, 0))

end Go.Proofs.Ytjkhadaoldbceaa

namespace Go.Proofs.Ytjkhadaoldbceaa
open Go.RowKit

/-- What is carried through the appends: the row v of n services, and the box g7 that holds 'cur' in their place. -/
structure AddB (U V : World) (g7 : Nat) (nav cur : Value) (n : Nat) (F : Nat → Nat → Value) (v : Value) : Prop where
  row : Row 0 54 2 V v n F
  box : V.heap[g7]? = some (.cells #[nav, cur] 29 (0, 0))
  bel : Below g7 U V
  blk : ∀ b, v.ownBlock = some b → g7 < b
section
variable {U V V' : World} {g7 n n' : Nat} {nav cur v v' : Value} {F F' : Nat → Nat → Value}
theorem AddB.app (h : AddB U V g7 nav cur n F v) (hg : g7 < V.heap.size) (g : V.grownBy V' v.ownBlock) (r : Row 0 54 2 V' v' n' F') (hv : v'.ownBlock = v.ownBlock ∨ v'.ownBlock = some V.heap.size) : AddB U V' g7 nav cur n' F' v' :=
  ⟨r, (g.block g7 hg (fun e => by have := h.blk g7 e.symm; omega)).trans h.box, h.bel.grown g (by omega) (fun k hk => Nat.le_of_lt (h.blk k hk)), fun b hb => by
    rcases hv with e | e
    · rw [e] at hb; exact h.blk b hb
    · rw [e] at hb; cases hb; exact hg⟩
theorem AddB.put (h : AddB U V g7 nav cur n F v) : AddB U (V.setCell ⟨g7, 1, none⟩ v) g7 nav v n F v :=
  ⟨h.row.kept (set_grown _ _ _ _) (.inr (fun e => by have := h.blk g7 e; omega)), by simpa using set_block h.box 1 v, h.bel.setCell (Nat.le_refl _) _, h.blk⟩
theorem AddB.grow (h : AddB U V g7 nav cur n F v) (e : Ext V V') : AddB U V' g7 nav cur n F v :=
  ⟨h.row.kept e (by cases v.ownBlock <;> simp), ext_blk e h.box, h.bel.trans (⟨e.os, e.tape, e.output, e.size, fun k hk => e.block k (by have := h.bel.size; have := (Array.getElem?_eq_some_iff.1 h.box).1; omega) (by simp)⟩), h.blk⟩
theorem AddB.congr (h : AddB U V g7 nav cur n F v) (e : ∀ i, i < n → ∀ c, c < 2 → F i c = F' i c) : AddB U V g7 nav cur n F' v := ⟨h.row.congr e, h.box, h.bel, h.blk⟩
end
theorem newG_src (w : World) (kv : Value) : Src 2 (w.alloc (.cells #[kv, .slice none 0 0] 54 (0, 0))) (some ⟨w.heap.size, 0, none⟩) 1 (fun _ => newG kv) := fun _ => ⟨_, rfl, fun i hi j hj => by
  obtain rfl : i = 0 := by omega
  rw [Addr.add_lit]
  obtain rfl | rfl : j = 0 ∨ j = 1 := by omega
  · exact (at_block (heap_alloc_new w _) 0 _ rfl).1
  · exact (at_block (heap_alloc_new w _) 1 _ rfl).1⟩
theorem join3 (t : Nat) (C : Nat → Nat → Value) (G : Nat → Value) (a : Nat) : joinF (t + 1) (joinF t C (fun _ => G)) (fun a => C (t + a)) a = insF t C G a := by
  funext c
  unfold joinF insF
  by_cases h1 : a < t
  · rw [if_pos (by omega), if_pos h1, if_pos h1]
  · by_cases h2 : a = t
    · rw [if_pos (by omega), if_neg h1, if_neg h1, if_pos h2]
    · rw [if_neg (by omega), if_neg h1, if_neg h2]
      show C (t + (a - (t + 1))) c = _
      rw [show t + (a - (t + 1)) = a - 1 by omega]

set_option maxRecDepth 20000 in
set_option maxHeartbeats 4000000 in
theorem sLocalAddV (v kv : Value) (L : DLoc) (ks : List Int) (w : World) (h : VLoc w v L) (hl : LenLo L) (rk : RV w kv ks) (hkl0 : ks.length ≤ 1048576) (S0 : Nat → Prop) (hz : ∃ nv sv, v = .agg #[nv, sv] ∧ OSD S0 w sv L.svcs) :
    Calls Try.prog 6 #[v, kv] w fun e w' => ∃ nv sv mid, e = .returned (.tuple #[.agg #[nv, sv], .bool (addLX (tB (LocP L)) (tB (LocP (addL L ks))) L ks).2]) ∧ OwS (Rg w.heap.size mid) w' nv (addLX (tB (LocP L)) (tB (LocP (addL L ks))) L ks).1.node ∧ OSD (Rg mid w'.heap.size) w' sv (addLX (tB (LocP L)) (tB (LocP (addL L ks))) L ks).1.svcs ∧ (w.heap.size ≤ mid ∧ mid ≤ w'.heap.size) ∧ Below w.heap.size w w' := by
  have hE : ∀ w : World, ∀ o, Ext w (w.alloc o) := fun w o => World.grownBy_alloc _ _ _
  have h0 := hidL h
  obtain ⟨nv, sv, rfl, hn, hs⟩ := h
  obtain ⟨na, nc, rfl⟩ := rv_shape hn
  obtain ⟨sa, sc, rfl⟩ := svcs_shape hs
  obtain ⟨nn, hnn⟩ : ∃ nn, nn = L.node.length := ⟨_, rfl⟩
  obtain ⟨m, hm⟩ : ∃ m, m = L.svcs.length := ⟨_, rfl⟩
  have HNN := hidL hnn
  have HM := hidL hm
  rw [← hnn, ← hm] at h0 ⊢
  have HL := hidL hl
  have HRK := hidL rk
  have HZ : Hid (OSD S0 w (.slice sa m sc) L.svcs) := by
    obtain ⟨_, _, e, h1⟩ := hz
    rw [HM.out]
    cases e
    exact h1
  clear hz
  obtain ⟨ka, kc, hkv⟩ := rv_shape rk
  obtain ⟨kl, hkl⟩ : ∃ kl, kl = ks.length := ⟨_, rfl⟩
  rw [← hkl] at hkv
  subst hkv
  have HKLN := hidL hkl
  clear hnn hm hn hs hl rk hkl
  have HLO : Hid (∀ V, Ext w V → Calls Try.prog 23 #[.agg #[.slice na nn nc, .slice sa m sc]] V fun e w' => e = .returned (.bool (tB (LocP L))) ∧ Below V.heap.size V w') := fun V e => sLocalOkV _ L V (h0.out.ext e) HL.out
  have HOW : Hid (∀ V, Ext w V → Calls Try.prog 25 #[.agg #[.slice na nn nc, .slice sa m sc]] V fun e w' => ∃ xa xc xb xd mid, e = .returned (.agg #[.slice xa nn xc, .slice xb m xd]) ∧ OwS (Rg V.heap.size mid) w' (.slice xa nn xc) L.node ∧ OSD (Rg mid w'.heap.size) w' (.slice xb m xd) L.svcs ∧ (V.heap.size ≤ mid ∧ mid ≤ w'.heap.size) ∧ Below V.heap.size V w') := fun V e => (sOwnLV _ L V (h0.out.ext e) HL.out).mono fun e w' ⟨nv, sv, mid, h1, h2, h3, h4, h5⟩ => by
    obtain ⟨xa, xc, rfl⟩ := rv_shape h2.rv
    obtain ⟨xb, xd, rfl⟩ := svcs_shape h3.v
    rw [← HNN.out] at h1 h2
    rw [← HM.out] at h1 h3
    exact ⟨xa, xc, xb, xd, mid, h1, h2, h3, h4, h5⟩
  have HR : Hid (∀ x, tB (LocP L) = x → addLX (tB (LocP L)) (tB (LocP (addL L ks))) L ks = if x then (if 0 ≤ plS L ks then (L, false) else doneX (tB (LocP (addL L ks))) (addL L ks) L) else (zeroLoc, false)) := fun x h => by subst h; rfl
  have HKL := hidL hkl0
  have HLP : Hid (tB (LocP L) = true → LocP L) := fun h => tB_iff.1 h
  obtain ⟨R, hR⟩ : ∃ R, R = addLX (tB (LocP L)) (tB (LocP (addL L ks))) L ks := ⟨_, rfl⟩
  rw [← hR] at HR ⊢
  clear hR hkl0
  go_enter Try.func6, Try.ntmps6
  go_upto_region 1 with fail
  generalize hW : World.alloc (World.alloc w _) _ = W
  have PA : W.heap[w.heap.size]? = some (.cells #[.slice na nn nc, .slice sa m sc] 29 (0, 0)) := by rw [← hW]; exact al2a _ _ _
  have PR : W.heap[w.heap.size + 1]? = some (.cells #[.slice none 0 0, .slice none 0 0] 29 (0, 0)) := by rw [← hW]; exact al2b _ _ _
  have BW : Below w.heap.size w W := by rw [← hW]; exact ((Below.refl _ w).alloc (Nat.le_refl _) _).alloc (by simp) _
  have hW2 : Hid (W.heap.size = w.heap.size + 2) := by show _ = _; rw [← hW]; simp
  clear hW
  obtain ⟨⟨x0, x1⟩, _, _⟩ := cells2S PA
  go_wp2_with fail
  refine (HLO.out W (ext_below BW)).mono ?_
  rintro e w1 ⟨rfl, b1⟩
  have PA1 := below_blk b1 (by have := hW2.out; omega) PA
  have PR1 := below_blk b1 (by have := hW2.out; omega) PR
  have B1 := hidL (BW.trans (b1.mono BW.size))
  have HFAIL : Hid (R = (zeroLoc, false) → ∃ nv sv mid, (Ending.returned (.tuple #[.agg #[.slice none 0 0, .slice none 0 0], .bool false]) : Ending) = .returned (.tuple #[.agg #[nv, sv], .bool R.2]) ∧ OwS (Rg w.heap.size mid) ((w1.setCell ⟨w.heap.size + 1, 0, none⟩ (.slice none 0 0)).setCell ⟨w.heap.size + 1, 1, none⟩ (.slice none 0 0)) nv R.1.node ∧ OSD (Rg mid ((w1.setCell ⟨w.heap.size + 1, 0, none⟩ (.slice none 0 0)).setCell ⟨w.heap.size + 1, 1, none⟩ (.slice none 0 0)).heap.size) ((w1.setCell ⟨w.heap.size + 1, 0, none⟩ (.slice none 0 0)).setCell ⟨w.heap.size + 1, 1, none⟩ (.slice none 0 0)) sv R.1.svcs ∧ (w.heap.size ≤ mid ∧ mid ≤ ((w1.setCell ⟨w.heap.size + 1, 0, none⟩ (.slice none 0 0)).setCell ⟨w.heap.size + 1, 1, none⟩ (.slice none 0 0)).heap.size) ∧ Below w.heap.size w ((w1.setCell ⟨w.heap.size + 1, 0, none⟩ (.slice none 0 0)).setCell ⟨w.heap.size + 1, 1, none⟩ (.slice none 0 0))) := fun hr => by
    rw [hr]
    exact ⟨_, _, w.heap.size, rfl, ows_nil _ _, osd_nil _ _, ⟨Nat.le_refl _, by simp; have := B1.out.size; omega⟩, (B1.out.setCell (Nat.le_succ _) _).setCell (Nat.le_succ _) _⟩
  clear x0 x1 PA PR BW b1
  obtain ⟨⟨x0, x1⟩, _, _⟩ := cells2S PA1
  obtain ⟨⟨r0, r1⟩, k0, k1⟩ := cells2S PR1
  cases hb : tB (LocP L)
  · have HK : Hid (R = (zeroLoc, false)) := by show _ = _; rw [HR.out false hb]; rfl
    clear hb HR
    go_wp2
    refine bodyPost_ret (v := .tuple #[.agg #[.slice none 0 0, .slice none 0 0], .bool false]) (by simp [results, Try.results6, go_sem, *]) rfl ?_
    exact HFAIL.out HK.out
  have HB := hidL (HLP.out hb)
  have HHIT : Hid (∀ t : Nat, plS L ks = t → R = (L, false)) := fun t ht => by rw [HR.out true hb, if_pos rfl, if_pos (by omega)]
  have HMISS : Hid (plS L ks = -1 → R = doneX (tB (LocP (addL L ks))) (addL L ks) L) := fun ht => by rw [HR.out true hb, if_pos rfl, if_neg (by omega)]
  clear hb HR HFAIL
  have HSVW : Hid (RV w (.slice na nn nc) L.node ∧ VSvcs w (.slice sa m sc) L.svcs) := by
    obtain ⟨_, _, e, h1, h2⟩ := h0.out
    cases e
    exact ⟨h1, h2⟩
  go_wp2_with fail
  refine (sFind14V _ _ L.svcs _ ks w1 (HSVW.out.2.ext (ext_below B1.out)) (HRK.out.ext (ext_below B1.out))).mono ?_
  rintro e w2 ⟨rfl, b2⟩
  have PA2 := below_blk b2 (Array.getElem?_eq_some_iff.1 PA1).1 PA1
  have PR2 := below_blk b2 (Array.getElem?_eq_some_iff.1 PR1).1 PR1
  have B2 := hidL (B1.out.trans (b2.mono B1.out.size))
  have hw1 := (Array.getElem?_eq_some_iff.1 PR1).1
  have HW12 : Hid (w.heap.size + 1 < w1.heap.size ∧ w1.heap.size ≤ w2.heap.size) := ⟨hw1, b2.size⟩
  clear x0 x1 r0 r1 k0 k1 b2 hw1 PA1 PR1
  obtain ⟨⟨x0, x1⟩, _, _⟩ := cells2S PA2
  obtain ⟨⟨r0, r1⟩, k0, k1⟩ := cells2S PR2
  have HPL : Hid (fnd (fun s : DSvc => decide (s.name = ks)) L.svcs = plS L ks) := rfl
  rw [HPL.out]
  by_cases hneg : 0 ≤ plS L ks
  · obtain ⟨p, hp1⟩ : ∃ p, p = plS L ks := ⟨_, rfl⟩
    have HK : Hid (R = (L, false)) := HHIT.out (plS L ks).toNat (by omega)
    rw [← hp1] at hneg ⊢
    clear hp1 HHIT HMISS HPL
    go_wp2_with fail
    refine (HOW.out w2 (ext_below B2.out)).mono ?_
    rintro e w3 ⟨xa, xc, xb, xd, mid, rfl, o3, s3, hm3, b3⟩
    have PR3 := below_blk b3 (Array.getElem?_eq_some_iff.1 PR2).1 PR2
    have B3 := B2.out.trans (b3.mono B2.out.size)
    have hw12 := HW12.out
    have TR : Trn (fun b => b = w.heap.size + 1) w3 ((w3.setCell ⟨w.heap.size + 1, 0, none⟩ (.slice xa nn xc)).setCell ⟨w.heap.size + 1, 1, none⟩ (.slice xb m xd)) := (Trn.set (fun b => b = w.heap.size + 1) _ _ _ _ rfl).trans (Trn.set (fun b => b = w.heap.size + 1) _ _ _ _ rfl)
    have hss : ((w3.setCell ⟨w.heap.size + 1, 0, none⟩ (.slice xa nn xc)).setCell ⟨w.heap.size + 1, 1, none⟩ (.slice xb m xd)).heap.size = w3.heap.size := by simp
    have HW1 : Hid (OwS (Rg w.heap.size mid) ((w3.setCell ⟨w.heap.size + 1, 0, none⟩ (.slice xa nn xc)).setCell ⟨w.heap.size + 1, 1, none⟩ (.slice xb m xd)) (.slice xa nn xc) L.node) := (o3.keep TR (fun b h e => by have := h.1; omega)).mono (fun b h => ⟨by have := h.1; omega, h.2⟩)
    have HW2 : Hid (OSD (Rg mid ((w3.setCell ⟨w.heap.size + 1, 0, none⟩ (.slice xa nn xc)).setCell ⟨w.heap.size + 1, 1, none⟩ (.slice xb m xd)).heap.size) ((w3.setCell ⟨w.heap.size + 1, 0, none⟩ (.slice xa nn xc)).setCell ⟨w.heap.size + 1, 1, none⟩ (.slice xb m xd)) (.slice xb m xd) L.svcs) := by
      rw [hss]
      exact s3.keep TR (fun b h e => by have := h.1; have := hm3.1; omega)
    have HW3 : Hid (Below w.heap.size w ((w3.setCell ⟨w.heap.size + 1, 0, none⟩ (.slice xa nn xc)).setCell ⟨w.heap.size + 1, 1, none⟩ (.slice xb m xd))) := (B3.setCell (Nat.le_succ _) _).setCell (Nat.le_succ _) _
    have HW4 := hidL (show w.heap.size ≤ mid ∧ mid ≤ ((w3.setCell ⟨w.heap.size + 1, 0, none⟩ (.slice xa nn xc)).setCell ⟨w.heap.size + 1, 1, none⟩ (.slice xb m xd)).heap.size by rw [hss]; omega)
    clear x0 x1 r0 r1 k0 k1 hss TR o3 s3 hm3 b3 B3 hw12 PA2 PR2
    obtain ⟨⟨r0, r1⟩, k0, k1⟩ := cells2S PR3
    clear PR3
    go_wp2
    refine bodyPost_ret (v := .tuple #[.agg #[.slice xa nn xc, .slice xb m xd], .bool false]) (by simp [results, Try.results6, go_sem, *]) rfl ?_
    rw [HK.out]
    exact ⟨_, _, mid, rfl, HW1.out, HW2.out, HW4.out, HW3.out⟩
  · have hp1 : plS L ks = -1 := by have := (fnd_le (fun s : DSvc => decide (s.name = ks)) L.svcs).1; have : plS L ks = fnd (fun s : DSvc => decide (s.name = ks)) L.svcs := rfl; omega
    have HK : Hid (R = doneX (tB (LocP (addL L ks))) (addL L ks) L) := HMISS.out hp1
    rw [hp1]
    have hmm : m ≤ 6 := by have := HB.out.2.1; have := HM.out; omega
    have hmm' : (m : Int) ≤ 6 := by omega
    obtain ⟨hnv, C, hSL, hC⟩ := HSVW.out
    have HNV := hidL hnv
    have HC := hidL hC
    rw [← HM.out] at hSL
    obtain ⟨sa', sc', e, hsl1, hsl2, hsl3⟩ := hSL
    cases e
    have HSL3 := hidL hsl3
    have HSLC : Hid (m ≤ sc ∧ sc ≤ maxLen) := ⟨hsl1, hsl2⟩
    have hscl : sc ≤ 9223372036854775807 := by unfold maxLen at hsl2; omega
    have HRKD := HRK.out
    obtain ⟨ka', kc', ek, krd, _, _⟩ := HRKD
    rw [← HKLN.out] at ek krd
    cases ek
    have HKRD := hidL krd
    have HRG := hidL (rv_rngK HRK.out)
    have HE2 := hidL (ext_below B2.out)
    clear hneg hp1 HHIT HMISS HPL hnv hC hsl3 krd
    go_wp2_with fail
    go_loopw [6] (fun i wr => ∃ k : Nat, k ≤ m ∧ i = .int .i64 k ∧ Hid (Ext w2 wr) ∧ Hid (∀ (i : Nat) s, i < k → L.svcs[i]? = some s → ltK s.name ks = true)) (fun i _ => m - (intOf i).toNat)
    case atStart => exact ⟨0, Nat.zero_le _, rfl, World.grownBy.refl _ _, fun i s hi => absurd hi (by omega)⟩
    case round =>
      obtain ⟨k, hk, rfl, HX, hall⟩ := hrel
      have z1 := bw_cell (World.grownBy.cell HX.out x1 (by simp))
      have nonV := bw_ne wr
      clear r0 r1 k0 k1 x0 x1
      go_upto_region 6 with fail
      go_cut [34] from 18 to 34 (fun c wy => ∃ x wx, wy = wx ∧ c = .bool x ∧ Hid (x = true → ∃ s, L.svcs[k]? = some s ∧ ltK s.name ks = true) ∧ Hid (x = false → ∀ s, L.svcs[k]? = some s → ltK s.name ks = false) ∧ Hid (Ext w2 wx))
      case first =>
        by_cases hlt : k < m
        · obtain ⟨s, hs⟩ : ∃ s, L.svcs[k]? = some s := ⟨_, List.getElem?_eq_getElem (by have := HM.out; omega)⟩
          obtain ⟨b, o, hsa, hbl, hc⟩ := HSL3.out (by omega)
          subst hsa
          obtain ⟨f0, _⟩ := HC.out k s hs
          obtain ⟨pa, pc, hpv⟩ := rv_shape f0
          have y0 := World.grownBy.cell (HE2.out.tr HX.out) (hc k hlt 0 (by omega)) (by simp)
          rw [Nat.add_zero, hpv] at y0
          rw [hpv] at f0
          have z4 := bw_cell y0
          have hcp : ∀ z : BW wr, (convert 22 9 (.slice pa s.name.length pc)).run Try.prog z.u = .ok (.string (strOfNums s.name)) z.u := fun z => by
            have h1 := (f0.ext (HE2.out.tr HX.out)).ext (bw_ext z)
            obtain ⟨a1, c1, e1, r1, _, _⟩ := h1
            cases e1
            exact convR r1 pc
          have hck : ∀ z : BW wr, (convert 22 9 (.slice ka kl kc)).run Try.prog z.u = .ok (.string (strOfNums ks)) z.u := fun z => convR (((HKRD.out.grown (ext_below B2.out)).grown HX.out).grown (bw_ext z)) kc
          obtain ⟨b4, K4⟩ : ∃ c, Op.bytesLess (strOfNums s.name).toList (strOfNums ks).toList = c := ⟨_, rfl⟩
          have HB4 : Hid (b4 = ltK s.name ks) := K4.symm
          have HS := hidL hs
          generalize s.name.length = pn at z4 hcp
          have hkm : (k : Int) < (m : Int) := by omega
          have hkmd : decide ((k : Int) < (m : Int)) = true := decide_eq_true hkm
          clear hc hs f0 hpv y0
          go_wp2_with fail
          refine wp_region_bw (by kernel_rfl) (by kernel_rfl) ?_
          repeat (go_big_quiet_step (fail))
          refine wpQuiet_nil ?_
          intro _ hw'
          obtain ⟨z, hw''⟩ := hw'
          subst hw''
          go_wp2_with fail
          go_meet
          refine ⟨b4, _, rfl, rfl, fun h => ⟨s, HS.out, HB4.out.symm.trans h⟩, fun h s' hs' => ?_, HX.out.trans (bw_ext z)⟩
          rw [HS.out] at hs'
          cases hs'
          exact HB4.out.symm.trans h
        · have hkm : ¬ ((k : Int) < (m : Int)) := by omega
          have hkmd : decide ((k : Int) < (m : Int)) = false := decide_eq_false hkm
          go_wp2_with fail
          refine wp_region_bw (by kernel_rfl) (by kernel_rfl) ?_
          repeat (go_big_quiet_step (fail))
          refine wpQuiet_nil ?_
          intro _ hw'
          obtain ⟨z, hw''⟩ := hw'
          subst hw''
          go_wp2_with fail
          go_meet
          refine ⟨false, _, rfl, rfl, fun h => (by cases h), fun _ s' hs' => ?_, HX.out.trans (bw_ext z)⟩
          have := (List.getElem?_eq_some_iff.1 hs').1
          have := HM.out
          omega
      obtain ⟨x, wx, hwy, rfl, HT, HFa, HXX⟩ := hcut
      have hwy' := hwy.symm
      clear hwy
      subst hwy'
      cases x
      rotate_left
      · have HKS := HT.out rfl
        have hkm : k < m := by
          obtain ⟨s, hs, _⟩ := HKS
          have := (List.getElem?_eq_some_iff.1 hs).1
          have := HM.out
          omega
        have HA : Hid (∀ (i : Nat) s, i < k + 1 → L.svcs[i]? = some s → ltK s.name ks = true) := fun i s' hi hs' => by
          by_cases e : i = k
          · subst e
            obtain ⟨s, hs, h⟩ := HKS
            rw [hs] at hs'
            cases hs'
            exact h
          · exact hall.out i s' (by omega) hs'
        go_wp2
        go_roundw
        case rel => exact ⟨k + 1, by omega, by go_num, HXX, HA⟩
        case measure => simp [intOf]; omega
      · have HIP : Hid (insP L ks = k) := tw_len (fun i a hi ha => hall.out i a hi ha) (fun a ha => HFa.out rfl a ha) (by have := HM.out; omega)
        have HX2 := hidL (HE2.out.trans HXX.out)
        have BX2 := hidL (B2.out.trans ((ext_bel HXX.out).mono B2.out.size))
        have PAX := ext_blk HXX.out PA2
        have PRX := ext_blk HXX.out PR2
        have hw2x := HXX.out.size
        obtain ⟨⟨x0, x1⟩, _, _⟩ := cells2S PAX
        clear hall HT HFa z1 nonV HX
        go_upto_region 9 with fail
        generalize hU : World.alloc wx _ = U
        have PU : U.heap[wx.heap.size]? = some (.cells #[.slice na nn nc, .slice none 0 0] 29 (0, 0)) := by rw [← hU]; exact heap_alloc_new _ _
        have XU : Ext wx U := by rw [← hU]; exact hE _ _
        have hUS : U.heap.size = wx.heap.size + 1 := by rw [← hU]; simp
        clear hU
        have HPU := hidL PU
        have HPAU := hidL (ext_blk XU PAX)
        have HPRU := hidL (ext_blk XU PRX)
        have HBU := hidL (BX2.out.trans ((ext_bel XU).mono BX2.out.size))
        obtain ⟨g7, hg7⟩ : ∃ g7, g7 = wx.heap.size := ⟨_, rfl⟩
        rw [← hg7] at HPU hUS ⊢
        have HG7 : Hid (w.heap.size + 1 < g7 ∧ U.heap.size = g7 + 1) := ⟨by have := HW12.out; omega, hUS⟩
        have hkm : k ≤ m := hk
        have HXU := hidL (ext_below HBU.out)
        have HKU := hidL (HRK.out.ext HXU.out)
        generalize k = t at *
        have HONE : Hid (∀ a, a < m → ∀ j, j < 2 → (C a j).oneCell' = true) := fun a ha j hj => by
          obtain ⟨q1, q2⟩ := HC.out a _ (List.getElem?_eq_getElem (by have := HM.out; omega))
          obtain rfl | rfl : j = 0 ∨ j = 1 := by omega
          · exact one_rv q1
          · exact one_chks q2
        have HONE1 : Hid (∀ a, a < t → ∀ j, j < 2 → (C a j).oneCell' = true) := fun a ha => HONE.out a (by omega)
        have HONEK : Hid (∀ i, i < 1 → ∀ j, j < 2 → (newG (.slice ka kl kc) j).oneCell' = true) := fun _ _ => newG_one HRK.out
        have HK5 : Hid (∀ v5 w5, Row 0 54 2 w5 v5 t (joinF 0 C C) → U.grownBy w5 none → (v5.ownBlock = (Value.slice none 0 0).ownBlock ∨ v5.ownBlock = some U.heap.size) → AddB U w5 g7 (.slice na nn nc) (.slice none 0 0) t (joinF 0 C C) v5) := fun v5 w5 q1 q2 q3 => by
          have hg := HG7.out
          refine ⟨q1, (q2.block g7 (by omega) (by simp)).trans HPU.out, (ext_bel q2).mono (by omega), fun b hb => ?_⟩
          rcases q3 with q3 | q3
          · rw [q3] at hb; cases hb
          · rw [q3] at hb; cases hb; omega
        have HFIN : Hid (∀ V za zc r cur, r = m + 1 → AddB U V g7 (.slice na nn nc) cur r (joinF (t + 1) (joinF t C (fun _ => newG (.slice ka kl kc))) (fun a => C (t + a))) (.slice za r zc) → VLoc V (.agg #[.slice na nn nc, .slice za r zc]) (addL L ks)) := fun V za zc r cur hr q => by
          have hb := ext_below (HBU.out.trans (q.bel.mono (by have := HG7.out; omega)))
          refine ⟨_, _, rfl, HNV.out.ext hb, insF t C (newG (.slice ka kl kc)), ?_, fun i d hd => ?_⟩
          · rw [addL_len, ← HM.out, ← hr]
            exact row_sl (q.row.congr fun i _ c _ => by rw [join3])
          · have hd' : (L.svcs.take (insP L ks) ++ (⟨ks, []⟩ : DSvc) :: L.svcs.drop (insP L ks))[i]? = some d := hd
            rw [HIP.out, ins_get (by have := HM.out; omega)] at hd'
            rcases Nat.lt_trichotomy i t with h1 | h1 | h1
            · rw [if_pos h1] at hd'
              rw [insF_lo h1]
              obtain ⟨z1, z2⟩ := HC.out i d hd'
              exact ⟨z1.ext hb, z2.ext hb⟩
            · subst h1
              rw [if_neg (Nat.lt_irrefl _), if_pos rfl] at hd'
              cases hd'
              rw [insF_at]
              exact ⟨HRK.out.ext hb, fun _ _ => .bool true, ⟨none, 0, rfl, Nat.le_refl _, Nat.zero_le _, fun h => absurd h (by simp)⟩, fun i d hd => by simp at hd⟩
            · rw [if_neg (by omega), if_neg (by omega)] at hd'
              rw [insF_hi h1]
              obtain ⟨z1, z2⟩ := HC.out (i - 1) d hd'
              exact ⟨z1.ext hb, z2.ext hb⟩
        have HDONE : Hid (∀ V ra rc r, r = m + 1 → VLoc V (.agg #[.slice na nn nc, .slice sa m sc]) L → VLoc V (.agg #[.slice na nn nc, .slice ra r rc]) (addL L ks) → Calls Try.prog 26 #[.agg #[.slice na nn nc, .slice sa m sc], .agg #[.slice na nn nc, .slice ra r rc]] V fun e w' => ∃ xa xc xb xl xd mid, xl = R.1.svcs.length ∧ e = .returned (.tuple #[.agg #[.slice xa nn xc, .slice xb xl xd], .bool R.2]) ∧ OwS (Rg V.heap.size mid) w' (.slice xa nn xc) R.1.node ∧ OSD (Rg mid w'.heap.size) w' (.slice xb xl xd) R.1.svcs ∧ (V.heap.size ≤ mid ∧ mid ≤ w'.heap.size) ∧ Below V.heap.size V w') := fun V ra rc r hr h1 h2 => (sl14doneV _ _ L _ V h1 h2 HL.out (lenLo_add HL.out HKL.out (by have := HM.out; omega))).mono fun e w' ⟨nv, sv, mid, e1, e2, e3, e4, e5⟩ => by
          rw [← HK.out] at e1 e2 e3
          obtain ⟨xa, xc, rfl⟩ := rv_shape e2.rv
          obtain ⟨xb, xd, rfl⟩ := svcs_shape e3.v
          have hnl : R.1.node.length = nn := by
            rw [HK.out, HNN.out]
            unfold doneX
            split <;> rfl
          rw [hnl] at e1 e2
          exact ⟨xa, xc, xb, _, xd, mid, rfl, e1, e2, e3, e4, e5⟩
        have htm := hkm
        have hti2 : (t : Int) ≤ (m : Int) := by omega
        have htc : t ≤ sc := by omega
        have htc2 : (t : Int) ≤ (sc : Int) := by omega
        have hmc : (m : Int) ≤ (sc : Int) := by omega
        have hnn0 : ¬ ((t : Int) < 0) := by omega
        have HSL4 := HSL3
        clear x0 x1 PU XU PAX PRX hUS hg7 hw2x BX2 HX2 HXX hk PA2 PR2 hsl1 hsl2
        obtain ⟨⟨x0, x1⟩, _, _⟩ := cells2S HPAU.out
        obtain ⟨⟨y0, y1⟩, m0, m1⟩ := cells2S HPU.out
        rcases (ow_osd HZ.out).cases with ⟨a0, c0, e1, ⟨rfl, rfl⟩, e3⟩ | ⟨g, cap0, F0, N0, e1, hB0⟩
        · injection e1 with q1 q2 q3
          subst q1 q3
          obtain rfl : m = 0 := q2
          obtain rfl : t = 0 := by omega
          have HS1 : Hid (Src 2 U none 0 C) := fun h => absurd h (by omega)
          go_region_law (refine step_rowG info_SvC rfl (by omega) rfl (.tmp 41) (.tmp 45) 27 Try.underlying27 rfl 0 (.slice none 0 0) 0 C rfl (Row.nil _ _ _ _ _) _ 0 _ C rfl HS1.out HONE1.out (fun e => by first | (cases e; done) | omega) (by unfold maxLen; omega) (by omega) (Nat.zero_le _) ?_; intro v5 w5 r5 g5 h5; have g5' : U.grownBy w5 none := (by first | exact g5 | exact grown_un g5); have E5 := hidL (HK5.out v5 w5 (by simpa using r5) g5' h5); obtain ⟨qa, qc, rfl⟩ := E5.out.row.shape; clear r5 g5 g5' h5; obtain ⟨⟨y0, y1⟩, m0, m1⟩ := cells2S E5.out.box)
          all_goals
            generalize hw6 : w5.setCell ⟨g7, 1, none⟩ (.slice qa 0 qc) = w6
            have E6 : Hid (AddB U w6 g7 (.slice na nn nc) (.slice qa 0 qc) 0 (joinF 0 C C) (.slice qa 0 qc)) := by rw [← hw6]; exact E5.out.put
            clear hw6 E5 x0 x1 y0 y1 m0 m1
            obtain ⟨⟨y0, y1⟩, m0, m1⟩ := cells2S E6.out.box
            have E6r : Hid (∀ X, AddB U (w6.alloc X) g7 (.slice na nn nc) (.slice qa 0 qc) 0 C (.slice qa 0 qc)) := fun X => (E6.out.grow (hE _ _)).congr fun i hi c hc => by unfold joinF; rw [if_neg (by omega), Nat.sub_zero]
            have ESRC : Hid (Src 2 (w6.alloc (.cells #[.slice ka kl kc, .slice none 0 0] 54 (0, 0))) (some ⟨w6.heap.size, 0, none⟩) 1 (fun _ => newG (.slice ka kl kc))) := newG_src _ _
            go_upto_region 11 with (at_builtin; refine wpList_rowG info_SvC rfl (by omega) _ rfl (.tmp 49) (.tmp 52) 27 Try.underlying27 rfl 0 _ 0 C rfl (E6r.out _).row _ 1 1 (fun _ => newG (.slice ka kl kc)) rfl ESRC.out HONEK.out (fun e => by cases e) (by unfold maxLen; omega) (by omega) (Nat.zero_le _) ?_; intro v7 w7 r7 g7x h7; have E7 := hidL ((E6r.out _).app (by have := HG7.out; have := (E6r.out (.cells #[.slice ka kl kc, .slice none 0 0] 54 (0, 0))).bel.size; omega) g7x r7 h7); obtain ⟨ra, rc, rfl⟩ := E7.out.row.shape; clear r7 g7x h7; obtain ⟨⟨y0, y1⟩, m0, m1⟩ := cells2S E7.out.box)
            generalize hw8 : w7.setCell ⟨g7, 1, none⟩ (.slice ra (0 + 1) rc) = w8
            have E8 : Hid (AddB U w8 g7 (.slice na nn nc) (.slice ra (0 + 1) rc) (0 + 1) (joinF 0 C (fun _ => newG (.slice ka kl kc))) (.slice ra (0 + 1) rc)) := by rw [← hw8]; exact E7.out.put
            clear hw8 E7 E6 E6r ESRC y0 y1 m0 m1
            have HPA8 : Hid (w8.heap[w.heap.size]? = some (.cells #[.slice na nn nc, .slice none 0 0] 29 (0, 0))) := below_blk E8.out.bel (by have := HG7.out; omega) HPAU.out
            have HBW8 := hidL (HBU.out.trans (E8.out.bel.mono (by have := HG7.out; omega)))
            obtain ⟨⟨x0, x1⟩, _, _⟩ := cells2S HPA8.out
            obtain ⟨⟨y0, y1⟩, m0, m1⟩ := cells2S E8.out.box
            go_region_law (refine step_rowG info_SvC rfl (by omega) rfl (.tmp 56) (.tmp 60) 27 Try.underlying27 rfl 0 (.slice ra (0 + 1) rc) (0 + 1) (joinF 0 C (fun _ => newG (.slice ka kl kc))) rfl E8.out.row _ _ _ (fun a => C (0 + a)) rfl (fun h => absurd h (by omega)) (fun a ha j hj => HONE.out _ (by omega) j hj) (fun e => by first | (cases e; done) | omega) (by unfold maxLen; omega) (by omega) (Nat.zero_le _) ?_; intro v9 w9 r9 g9 h9; have g9' : w8.grownBy w9 (Value.slice ra (0 + 1) rc).ownBlock := (by first | exact g9 | exact grown_un g9); have E9 := hidL (E8.out.app (by have := HG7.out; have := E8.out.bel.size; omega) g9' (by first | exact r9 | (simpa using r9)) h9); obtain ⟨za, zc, rfl⟩ := E9.out.row.shape; clear r9 g9 g9' h9; obtain ⟨⟨u0, u1⟩, n0, n1⟩ := cells2S E9.out.box)
            all_goals
              generalize hw10 : w9.setCell ⟨g7, 1, none⟩ (.slice za (0 + 1 + 0) zc) = w10
              have E10 : Hid (AddB U w10 g7 (.slice na nn nc) (.slice za (0 + 1 + 0) zc) (0 + 1 + 0) (joinF (0 + 1) (joinF 0 C (fun _ => newG (.slice ka kl kc))) (fun a => C (0 + a))) (.slice za (0 + 1 + 0) zc)) := by rw [← hw10]; exact E9.out.put
              have HBW := hidL (HBU.out.trans (E10.out.bel.mono (by have := HG7.out; omega)))
              have HFV := hidL (HFIN.out w10 za zc (0 + 1 + 0) _ (by omega) E10.out)
              have PL := below_blk E10.out.bel (by have := HG7.out; omega) HPAU.out
              have PRR := below_blk E10.out.bel (by have := HG7.out; omega) HPRU.out
              have hw8 := (Array.getElem?_eq_some_iff.1 PRR).1
              have PO := E10.out.box
              clear hw10 E9 E8 x0 x1 y0 y1 u0 u1 m0 m1 n0 n1 HPA8 HBW8
              obtain ⟨⟨x0, x1⟩, _, _⟩ := cells2S PL
              obtain ⟨⟨y0, y1⟩, _, _⟩ := cells2S PO
              go_wp2_with fail
              refine (HDONE.out w10 za zc (0 + 1 + 0) (by omega) (h0.out.ext (ext_below HBW.out)) HFV.out).mono ?_
              rintro e w11 ⟨xa, xc, xb, xl, xd, mid, -, rfl, o8, s8, hm8, b8⟩
              have PR8 := below_blk b8 hw8 PRR
              have hbw := HBW.out.size
              have B8 := HBW.out.trans (b8.mono HBW.out.size)
              have TR : Trn (fun b => b = w.heap.size + 1) w11 ((w11.setCell ⟨w.heap.size + 1, 0, none⟩ (.slice xa nn xc)).setCell ⟨w.heap.size + 1, 1, none⟩ (.slice xb xl xd)) := (Trn.set (fun b => b = w.heap.size + 1) _ _ _ _ rfl).trans (Trn.set (fun b => b = w.heap.size + 1) _ _ _ _ rfl)
              have hss : ((w11.setCell ⟨w.heap.size + 1, 0, none⟩ (.slice xa nn xc)).setCell ⟨w.heap.size + 1, 1, none⟩ (.slice xb xl xd)).heap.size = w11.heap.size := by simp
              have HW1 := hidL (o8.keep TR (fun b h e => by have := h.1; omega))
              have HW2 := hidL (s8.keep TR (fun b h e => by have := h.1; have := hm8.1; omega))
              have HW3 : Hid (Below w.heap.size w ((w11.setCell ⟨w.heap.size + 1, 0, none⟩ (.slice xa nn xc)).setCell ⟨w.heap.size + 1, 1, none⟩ (.slice xb xl xd))) := (B8.setCell (Nat.le_succ _) _).setCell (Nat.le_succ _) _
              have HW4 := hidL (show w.heap.size ≤ mid ∧ mid ≤ ((w11.setCell ⟨w.heap.size + 1, 0, none⟩ (.slice xa nn xc)).setCell ⟨w.heap.size + 1, 1, none⟩ (.slice xb xl xd)).heap.size by rw [hss]; omega)
              have HSS := hidL hss
              have HWL : Hid (w.heap.size ≤ w10.heap.size) := hbw
              clear x0 x1 y0 y1 hss TR o8 s8 hm8 b8 B8 hw8 hbw PL PO PRR
              obtain ⟨⟨r0, r1⟩, k0, k1⟩ := cells2S PR8
              clear PR8
              go_wp2
              refine bodyPost_ret (v := .tuple #[.agg #[.slice xa nn xc, .slice xb xl xd], .bool R.2]) (by simp [results, Try.results6, go_sem, *]) rfl ?_
              refine ⟨_, _, mid, rfl, HW1.out.mono (fun b h => ⟨Nat.le_trans HWL.out h.1, h.2⟩), ?_, HW4.out, HW3.out⟩
              rw [HSS.out]
              exact HW2.out
        · injection e1 with q1 q2 q3
          subst q1 q3
          clear q2
          have HSRC3 : Hid (∀ V, Below g7 U V → ∀ ad, (0 < m - t → ad = (⟨g, t * 2, none⟩ : Addr)) → Src 2 V (some ad) (m - t) (fun a => C (t + a))) := fun V hV ad had hpos => ⟨ad, rfl, fun i hi j hj => by
            obtain ⟨b', o', e2, _, hc⟩ := HSL4.out (by omega)
            injection e2 with e3
            injection e3 with e4 e5
            subst e4 e5
            rw [had hpos, Addr.add_lit, show t * 2 + (i * 2 + j) = 0 + (t + i) * 2 + j by omega]
            exact World.grownBy.cell (ext_below (HBU.out.trans (hV.mono (by have := HG7.out; omega)))) (hc (t + i) (by omega) j hj) (by simp)⟩
          have HS1 : Hid (Src 2 U (some ⟨g, 0, none⟩) t C) := fun hpos => ⟨_, rfl, fun i hi j hj => by
            obtain ⟨b', o', e2, _, hc⟩ := HSL4.out (by omega)
            injection e2 with e3
            injection e3 with e4 e5
            subst e4 e5
            rw [Addr.add_lit, ← Nat.add_assoc]
            exact World.grownBy.cell HXU.out (hc i (by omega) j hj) (by simp)⟩
          by_cases hce : sc = t
          · obtain rfl : m = t := by omega
            subst hce
            go_region_law (refine step_rowG info_SvC rfl (by omega) rfl (.tmp 41) (.tmp 45) 27 Try.underlying27 rfl 0 (.slice none 0 0) 0 C rfl (Row.nil _ _ _ _ _) _ sc _ C rfl HS1.out HONE1.out (fun e => by first | (cases e; done) | omega) (by unfold maxLen; omega) (by omega) (Nat.zero_le _) ?_; intro v5 w5 r5 g5 h5; have g5' : U.grownBy w5 none := (by first | exact g5 | exact grown_un g5); have E5 := hidL (HK5.out v5 w5 (by simpa using r5) g5' h5); obtain ⟨qa, qc, rfl⟩ := E5.out.row.shape; clear r5 g5 g5' h5; obtain ⟨⟨y0, y1⟩, m0, m1⟩ := cells2S E5.out.box)
            all_goals
              generalize hw6 : w5.setCell ⟨g7, 1, none⟩ (.slice qa sc qc) = w6
              have E6 : Hid (AddB U w6 g7 (.slice na nn nc) (.slice qa sc qc) sc (joinF 0 C C) (.slice qa sc qc)) := by rw [← hw6]; exact E5.out.put
              clear hw6 E5 x0 x1 y0 y1 m0 m1
              obtain ⟨⟨y0, y1⟩, m0, m1⟩ := cells2S E6.out.box
              have E6r : Hid (∀ X, AddB U (w6.alloc X) g7 (.slice na nn nc) (.slice qa sc qc) sc C (.slice qa sc qc)) := fun X => (E6.out.grow (hE _ _)).congr fun i hi c hc => by unfold joinF; rw [if_neg (by omega), Nat.sub_zero]
              have ESRC : Hid (Src 2 (w6.alloc (.cells #[.slice ka kl kc, .slice none 0 0] 54 (0, 0))) (some ⟨w6.heap.size, 0, none⟩) 1 (fun _ => newG (.slice ka kl kc))) := newG_src _ _
              go_upto_region 11 with (at_builtin; refine wpList_rowG info_SvC rfl (by omega) _ rfl (.tmp 49) (.tmp 52) 27 Try.underlying27 rfl 0 _ sc C rfl (E6r.out _).row _ 1 1 (fun _ => newG (.slice ka kl kc)) rfl ESRC.out HONEK.out (fun e => by cases e) (by unfold maxLen; omega) (by omega) (Nat.zero_le _) ?_; intro v7 w7 r7 g7x h7; have E7 := hidL ((E6r.out _).app (by have := HG7.out; have := (E6r.out (.cells #[.slice ka kl kc, .slice none 0 0] 54 (0, 0))).bel.size; omega) g7x r7 h7); obtain ⟨ra, rc, rfl⟩ := E7.out.row.shape; clear r7 g7x h7; obtain ⟨⟨y0, y1⟩, m0, m1⟩ := cells2S E7.out.box)
              generalize hw8 : w7.setCell ⟨g7, 1, none⟩ (.slice ra (sc + 1) rc) = w8
              have E8 : Hid (AddB U w8 g7 (.slice na nn nc) (.slice ra (sc + 1) rc) (sc + 1) (joinF sc C (fun _ => newG (.slice ka kl kc))) (.slice ra (sc + 1) rc)) := by rw [← hw8]; exact E7.out.put
              clear hw8 E7 E6 E6r ESRC y0 y1 m0 m1
              have HPA8 : Hid (w8.heap[w.heap.size]? = some (.cells #[.slice na nn nc, .slice (some ⟨g, 0, none⟩) sc sc] 29 (0, 0))) := below_blk E8.out.bel (by have := HG7.out; omega) HPAU.out
              have HBW8 := hidL (HBU.out.trans (E8.out.bel.mono (by have := HG7.out; omega)))
              obtain ⟨⟨x0, x1⟩, _, _⟩ := cells2S HPA8.out
              obtain ⟨⟨y0, y1⟩, m0, m1⟩ := cells2S E8.out.box
              go_region_law (refine step_rowG info_SvC rfl (by omega) rfl (.tmp 56) (.tmp 60) 27 Try.underlying27 rfl 0 (.slice ra (sc + 1) rc) (sc + 1) (joinF sc C (fun _ => newG (.slice ka kl kc))) rfl E8.out.row _ _ _ (fun a => C (sc + a)) rfl (fun h => absurd h (by omega)) (fun a ha j hj => HONE.out _ (by omega) j hj) (fun e => by first | (cases e; done) | omega) (by unfold maxLen; omega) (by omega) (Nat.zero_le _) ?_; intro v9 w9 r9 g9 h9; have g9' : w8.grownBy w9 (Value.slice ra (sc + 1) rc).ownBlock := (by first | exact g9 | exact grown_un g9); have E9 := hidL (E8.out.app (by have := HG7.out; have := E8.out.bel.size; omega) g9' (by first | exact r9 | (simpa using r9)) h9); obtain ⟨za, zc, rfl⟩ := E9.out.row.shape; clear r9 g9 g9' h9; obtain ⟨⟨u0, u1⟩, n0, n1⟩ := cells2S E9.out.box)
              all_goals
                generalize hw10 : w9.setCell ⟨g7, 1, none⟩ (.slice za (sc + 1 + 0) zc) = w10
                have E10 : Hid (AddB U w10 g7 (.slice na nn nc) (.slice za (sc + 1 + 0) zc) (sc + 1 + 0) (joinF (sc + 1) (joinF sc C (fun _ => newG (.slice ka kl kc))) (fun a => C (sc + a))) (.slice za (sc + 1 + 0) zc)) := by rw [← hw10]; exact E9.out.put
                have HBW := hidL (HBU.out.trans (E10.out.bel.mono (by have := HG7.out; omega)))
                have HFV := hidL (HFIN.out w10 za zc (sc + 1 + 0) _ (by omega) E10.out)
                have PL := below_blk E10.out.bel (by have := HG7.out; omega) HPAU.out
                have PRR := below_blk E10.out.bel (by have := HG7.out; omega) HPRU.out
                have hw8 := (Array.getElem?_eq_some_iff.1 PRR).1
                have PO := E10.out.box
                clear hw10 E9 E8 x0 x1 y0 y1 u0 u1 m0 m1 n0 n1 HPA8 HBW8
                obtain ⟨⟨x0, x1⟩, _, _⟩ := cells2S PL
                obtain ⟨⟨y0, y1⟩, _, _⟩ := cells2S PO
                go_wp2_with fail
                refine (HDONE.out w10 za zc (sc + 1 + 0) (by omega) (h0.out.ext (ext_below HBW.out)) HFV.out).mono ?_
                rintro e w11 ⟨xa, xc, xb, xl, xd, mid, -, rfl, o8, s8, hm8, b8⟩
                have PR8 := below_blk b8 hw8 PRR
                have hbw := HBW.out.size
                have B8 := HBW.out.trans (b8.mono HBW.out.size)
                have TR : Trn (fun b => b = w.heap.size + 1) w11 ((w11.setCell ⟨w.heap.size + 1, 0, none⟩ (.slice xa nn xc)).setCell ⟨w.heap.size + 1, 1, none⟩ (.slice xb xl xd)) := (Trn.set (fun b => b = w.heap.size + 1) _ _ _ _ rfl).trans (Trn.set (fun b => b = w.heap.size + 1) _ _ _ _ rfl)
                have hss : ((w11.setCell ⟨w.heap.size + 1, 0, none⟩ (.slice xa nn xc)).setCell ⟨w.heap.size + 1, 1, none⟩ (.slice xb xl xd)).heap.size = w11.heap.size := by simp
                have HW1 := hidL (o8.keep TR (fun b h e => by have := h.1; omega))
                have HW2 := hidL (s8.keep TR (fun b h e => by have := h.1; have := hm8.1; omega))
                have HW3 : Hid (Below w.heap.size w ((w11.setCell ⟨w.heap.size + 1, 0, none⟩ (.slice xa nn xc)).setCell ⟨w.heap.size + 1, 1, none⟩ (.slice xb xl xd))) := (B8.setCell (Nat.le_succ _) _).setCell (Nat.le_succ _) _
                have HW4 := hidL (show w.heap.size ≤ mid ∧ mid ≤ ((w11.setCell ⟨w.heap.size + 1, 0, none⟩ (.slice xa nn xc)).setCell ⟨w.heap.size + 1, 1, none⟩ (.slice xb xl xd)).heap.size by rw [hss]; omega)
                have HSS := hidL hss
                have HWL : Hid (w.heap.size ≤ w10.heap.size) := hbw
                clear x0 x1 y0 y1 hss TR o8 s8 hm8 b8 B8 hw8 hbw PL PO PRR
                obtain ⟨⟨r0, r1⟩, k0, k1⟩ := cells2S PR8
                clear PR8
                go_wp2
                refine bodyPost_ret (v := .tuple #[.agg #[.slice xa nn xc, .slice xb xl xd], .bool R.2]) (by simp [results, Try.results6, go_sem, *]) rfl ?_
                refine ⟨_, _, mid, rfl, HW1.out.mono (fun b h => ⟨Nat.le_trans HWL.out h.1, h.2⟩), ?_, HW4.out, HW3.out⟩
                rw [HSS.out]
                exact HW2.out
          · go_region_law (refine step_rowG info_SvC rfl (by omega) rfl (.tmp 41) (.tmp 45) 27 Try.underlying27 rfl 0 (.slice none 0 0) 0 C rfl (Row.nil _ _ _ _ _) _ t _ C rfl HS1.out HONE1.out (fun e => by first | (cases e; done) | omega) (by unfold maxLen; omega) (by omega) (Nat.zero_le _) ?_; intro v5 w5 r5 g5 h5; have g5' : U.grownBy w5 none := (by first | exact g5 | exact grown_un g5); have E5 := hidL (HK5.out v5 w5 (by simpa using r5) g5' h5); obtain ⟨qa, qc, rfl⟩ := E5.out.row.shape; clear r5 g5 g5' h5; obtain ⟨⟨y0, y1⟩, m0, m1⟩ := cells2S E5.out.box)
            all_goals
              generalize hw6 : w5.setCell ⟨g7, 1, none⟩ (.slice qa t qc) = w6
              have E6 : Hid (AddB U w6 g7 (.slice na nn nc) (.slice qa t qc) t (joinF 0 C C) (.slice qa t qc)) := by rw [← hw6]; exact E5.out.put
              clear hw6 E5 x0 x1 y0 y1 m0 m1
              obtain ⟨⟨y0, y1⟩, m0, m1⟩ := cells2S E6.out.box
              have E6r : Hid (∀ X, AddB U (w6.alloc X) g7 (.slice na nn nc) (.slice qa t qc) t C (.slice qa t qc)) := fun X => (E6.out.grow (hE _ _)).congr fun i hi c hc => by unfold joinF; rw [if_neg (by omega), Nat.sub_zero]
              have ESRC : Hid (Src 2 (w6.alloc (.cells #[.slice ka kl kc, .slice none 0 0] 54 (0, 0))) (some ⟨w6.heap.size, 0, none⟩) 1 (fun _ => newG (.slice ka kl kc))) := newG_src _ _
              go_upto_region 11 with (at_builtin; refine wpList_rowG info_SvC rfl (by omega) _ rfl (.tmp 49) (.tmp 52) 27 Try.underlying27 rfl 0 _ t C rfl (E6r.out _).row _ 1 1 (fun _ => newG (.slice ka kl kc)) rfl ESRC.out HONEK.out (fun e => by cases e) (by unfold maxLen; omega) (by omega) (Nat.zero_le _) ?_; intro v7 w7 r7 g7x h7; have E7 := hidL ((E6r.out _).app (by have := HG7.out; have := (E6r.out (.cells #[.slice ka kl kc, .slice none 0 0] 54 (0, 0))).bel.size; omega) g7x r7 h7); obtain ⟨ra, rc, rfl⟩ := E7.out.row.shape; clear r7 g7x h7; obtain ⟨⟨y0, y1⟩, m0, m1⟩ := cells2S E7.out.box)
              generalize hw8 : w7.setCell ⟨g7, 1, none⟩ (.slice ra (t + 1) rc) = w8
              have E8 : Hid (AddB U w8 g7 (.slice na nn nc) (.slice ra (t + 1) rc) (t + 1) (joinF t C (fun _ => newG (.slice ka kl kc))) (.slice ra (t + 1) rc)) := by rw [← hw8]; exact E7.out.put
              clear hw8 E7 E6 E6r ESRC y0 y1 m0 m1
              have HPA8 : Hid (w8.heap[w.heap.size]? = some (.cells #[.slice na nn nc, .slice (some ⟨g, 0, none⟩) m sc] 29 (0, 0))) := below_blk E8.out.bel (by have := HG7.out; omega) HPAU.out
              have HBW8 := hidL (HBU.out.trans (E8.out.bel.mono (by have := HG7.out; omega)))
              obtain ⟨⟨x0, x1⟩, _, _⟩ := cells2S HPA8.out
              obtain ⟨⟨y0, y1⟩, m0, m1⟩ := cells2S E8.out.box
              go_region_law (refine step_rowG info_SvC rfl (by omega) rfl (.tmp 56) (.tmp 60) 27 Try.underlying27 rfl 0 (.slice ra (t + 1) rc) (t + 1) (joinF t C (fun _ => newG (.slice ka kl kc))) rfl E8.out.row _ _ _ (fun a => C (t + a)) rfl (HSRC3.out _ E8.out.bel _ (fun _ => rfl)) (fun a ha j hj => HONE.out _ (by omega) j hj) (fun e => by first | (cases e; done) | omega) (by unfold maxLen; omega) (by omega) (Nat.zero_le _) ?_; intro v9 w9 r9 g9 h9; have g9' : w8.grownBy w9 (Value.slice ra (t + 1) rc).ownBlock := (by first | exact g9 | exact grown_un g9); have E9 := hidL (E8.out.app (by have := HG7.out; have := E8.out.bel.size; omega) g9' (by first | exact r9 | (simpa using r9)) h9); obtain ⟨za, zc, rfl⟩ := E9.out.row.shape; clear r9 g9 g9' h9; obtain ⟨⟨u0, u1⟩, n0, n1⟩ := cells2S E9.out.box)
              all_goals
                generalize hw10 : w9.setCell ⟨g7, 1, none⟩ (.slice za (t + 1 + (m - t)) zc) = w10
                have E10 : Hid (AddB U w10 g7 (.slice na nn nc) (.slice za (t + 1 + (m - t)) zc) (t + 1 + (m - t)) (joinF (t + 1) (joinF t C (fun _ => newG (.slice ka kl kc))) (fun a => C (t + a))) (.slice za (t + 1 + (m - t)) zc)) := by rw [← hw10]; exact E9.out.put
                have HBW := hidL (HBU.out.trans (E10.out.bel.mono (by have := HG7.out; omega)))
                have HFV := hidL (HFIN.out w10 za zc (t + 1 + (m - t)) _ (by omega) E10.out)
                have PL := below_blk E10.out.bel (by have := HG7.out; omega) HPAU.out
                have PRR := below_blk E10.out.bel (by have := HG7.out; omega) HPRU.out
                have hw8 := (Array.getElem?_eq_some_iff.1 PRR).1
                have PO := E10.out.box
                clear hw10 E9 E8 x0 x1 y0 y1 u0 u1 m0 m1 n0 n1 HPA8 HBW8
                obtain ⟨⟨x0, x1⟩, _, _⟩ := cells2S PL
                obtain ⟨⟨y0, y1⟩, _, _⟩ := cells2S PO
                go_wp2_with fail
                refine (HDONE.out w10 za zc (t + 1 + (m - t)) (by omega) (h0.out.ext (ext_below HBW.out)) HFV.out).mono ?_
                rintro e w11 ⟨xa, xc, xb, xl, xd, mid, -, rfl, o8, s8, hm8, b8⟩
                have PR8 := below_blk b8 hw8 PRR
                have hbw := HBW.out.size
                have B8 := HBW.out.trans (b8.mono HBW.out.size)
                have TR : Trn (fun b => b = w.heap.size + 1) w11 ((w11.setCell ⟨w.heap.size + 1, 0, none⟩ (.slice xa nn xc)).setCell ⟨w.heap.size + 1, 1, none⟩ (.slice xb xl xd)) := (Trn.set (fun b => b = w.heap.size + 1) _ _ _ _ rfl).trans (Trn.set (fun b => b = w.heap.size + 1) _ _ _ _ rfl)
                have hss : ((w11.setCell ⟨w.heap.size + 1, 0, none⟩ (.slice xa nn xc)).setCell ⟨w.heap.size + 1, 1, none⟩ (.slice xb xl xd)).heap.size = w11.heap.size := by simp
                have HW1 := hidL (o8.keep TR (fun b h e => by have := h.1; omega))
                have HW2 := hidL (s8.keep TR (fun b h e => by have := h.1; have := hm8.1; omega))
                have HW3 : Hid (Below w.heap.size w ((w11.setCell ⟨w.heap.size + 1, 0, none⟩ (.slice xa nn xc)).setCell ⟨w.heap.size + 1, 1, none⟩ (.slice xb xl xd))) := (B8.setCell (Nat.le_succ _) _).setCell (Nat.le_succ _) _
                have HW4 := hidL (show w.heap.size ≤ mid ∧ mid ≤ ((w11.setCell ⟨w.heap.size + 1, 0, none⟩ (.slice xa nn xc)).setCell ⟨w.heap.size + 1, 1, none⟩ (.slice xb xl xd)).heap.size by rw [hss]; omega)
                have HSS := hidL hss
                have HWL : Hid (w.heap.size ≤ w10.heap.size) := hbw
                clear x0 x1 y0 y1 hss TR o8 s8 hm8 b8 B8 hw8 hbw PL PO PRR
                obtain ⟨⟨r0, r1⟩, k0, k1⟩ := cells2S PR8
                clear PR8
                go_wp2
                refine bodyPost_ret (v := .tuple #[.agg #[.slice xa nn xc, .slice xb xl xd], .bool R.2]) (by simp [results, Try.results6, go_sem, *]) rfl ?_
                refine ⟨_, _, mid, rfl, HW1.out.mono (fun b h => ⟨Nat.le_trans HWL.out h.1, h.2⟩), ?_, HW4.out, HW3.out⟩
                rw [HSS.out]
                exact HW2.out

end Go.Proofs.Ytjkhadaoldbceaa

namespace Go.Proofs.Ytjkhadaoldbceaa
open Go.RowKit

theorem LKL.turnK {w W : World} {av : Array Value} {sn ss xn xs gn gs : Value} {slo shi bs xlo xhi bx glo ghi bg klo : Nat} {R DX RG : DLoc} {W' : World} (h : LKL w W av sn ss xn xs gn gs slo shi bs xlo xhi bx glo ghi bg R DX RG) (hk : bx < klo ∧ klo ≤ glo) (t : Trn (Rg klo glo) W W') : LKL w W' av sn ss xn xs gn gs slo shi bs xlo xhi bx glo ghi bg R DX RG := by
  have o := h.ord
  have f := fun k (hk : k < W.heap.size) (hn : ¬ Rg klo glo k) => t.block k hk hn
  refine ⟨⟨o.1, o.2.1, o.2.2.1, o.2.2.2.1, o.2.2.2.2.1, o.2.2.2.2.2.1, o.2.2.2.2.2.2.1, o.2.2.2.2.2.2.2.1, o.2.2.2.2.2.2.2.2.1, Nat.lt_of_lt_of_le o.2.2.2.2.2.2.2.2.2 t.size⟩, Trn.below h.low t h.low.size (fun b hb => by have := hb.1; omega), (f _ (by omega) (fun e => by have := e.1; omega)).trans h.a, (f _ (by omega) (fun e => by have := e.1; omega)).trans h.s, (f _ (by omega) (fun e => by have := e.1; omega)).trans h.x, (f _ (by omega) (fun e => by have := e.2; omega)).trans h.g, h.sO.keep t (fun b h1 h2 => by have := h1.2; have := h2.1; omega), h.xO.keep t (fun b h1 h2 => by have := h1.2; have := h2.1; omega), h.gO.keep t (fun b h1 h2 => by have := h1.1; have := h2.2; omega)⟩
theorem sum_le {α : Type} {f : α → Nat} {B : Nat} : ∀ {l : List α}, (∀ (i : Nat) x, l[i]? = some x → f x ≤ B) → (l.map f).sum ≤ l.length * B
  | [], _ => by simp
  | x :: l, h => by
    have h1 := h 0 x rfl
    have h2 := sum_le (l := l) (fun i y hy => h (i + 1) y (by simpa using hy))
    simp only [List.map_cons, List.sum_cons, List.length_cons, Nat.succ_mul]
    omega
theorem keyB_len {xs : List Int} (h : keyB xs = true) : xs.length ≤ 20 := by
  unfold keyB at h
  simp only [Bool.and_eq_true, decide_eq_true_eq] at h
  exact h.1.2
theorem zLo_locP {L : DLoc} (h : LocP L) : zLo L ≤ 1048576 := by
  have hp : ∀ xs, partB xs = true → xs.length ≤ 20 := fun xs hx => by
    unfold partB at hx
    simp only [Bool.and_eq_true] at hx
    exact keyB_len hx.2
  have h1 : sSv L.svcs ≤ L.svcs.length * 200 := sum_le (f := zSv) fun i s hs => by
    obtain ⟨q1, _, q2, _, q3⟩ := (svcAt_iff hs).1 (h.2.2 i (List.getElem?_eq_some_iff.1 hs).1)
    have hn := hp _ q1
    have hc : sK s.checks ≤ s.checks.length * 20 := sum_le (f := zK) fun k c hc => by
      have := ((chkAt_iff hc).1 (q3 k (List.getElem?_eq_some_iff.1 hc).1)).1
      unfold chkB at this
      simp only [Bool.and_eq_true] at this
      exact keyB_len this.1.1.1.1.1.1.1.1.1.1.1.1
    unfold zSv
    omega
  have h2 := h.2.1
  have h3 := hp _ h.1
  unfold zLo
  have : L.svcs.length * 200 ≤ 6 * 200 := Nat.mul_le_mul_right 200 h2
  omega
theorem zLo_add (c : Bool) (L : DLoc) (ks : List Int) (h : zLo L ≤ 1048576) : zLo (addLX c (tB (LocP (addL L ks))) L ks).1 ≤ 1048576 := by
  unfold addLX
  split
  · split
    · exact h
    · unfold doneX
      split
      · rename_i h1
        exact zLo_locP (tB_iff.1 h1)
      · exact h
  · simp [zLo, zeroLoc, sSv]

set_option maxRecDepth 20000 in
set_option maxHeartbeats 8000000 in
theorem law_LocalAdd (v : Value) (D : DLoc) (ya : Option Addr) (yn yc : Nat) (ys : List Int) (w : World) (h : VLoc w v D) (hr : Rd w ya yn ys) (hyc : yn ≤ yc) (hym : yc ≤ maxLen) :
    Calls Try.prog 3 #[v, .slice ya yn yc] w fun e w' => e = .returned (.bool true) ∧ Below w.heap.size w w' := by
  have hE : ∀ w : World, ∀ o, Ext w (w.alloc o) := fun w o => World.grownBy_alloc _ _ _
  have hB : ∀ w : World, ∀ o, Below w.heap.size w (w.alloc o) := fun w o => (Below.refl _ w).alloc (Nat.le_refl _) _
  have h0 : Hid (VLoc w v D) := h
  obtain ⟨nv, sv, rfl, hn, hs⟩ := h
  obtain ⟨na, nc, rfl⟩ := rv_shape hn
  obtain ⟨sa, sc, rfl⟩ := svcs_shape hs
  obtain ⟨nn, hnn⟩ : ∃ nn, nn = D.node.length := ⟨_, rfl⟩
  obtain ⟨m, hm⟩ : ∃ m, m = D.svcs.length := ⟨_, rfl⟩
  have HNN := hidL hnn
  have HMM := hidL hm
  rw [← hnn, ← hm] at h0 ⊢
  clear hnn hm hn hs
  have hyl2 : yn ≤ 9223372036854775807 := by unfold maxLen at hym; omega
  by_cases hyn : yn ≤ 1048576
  case neg =>
    have hn' : (1048576 : Int) < (yn : Int) := by omega
    go_enter Try.func3, Try.ntmps3
    go_wp2
    go_ret
    exact ⟨rfl, hB _ _⟩
  have hyn' : ¬ (1048576 : Int) < (yn : Int) := by omega
  have hyl := hr.len
  have HYV : Hid (RV w (.slice ya yn yc) ys) := ⟨ya, yc, by rw [hyl], by rw [hyl]; exact hr, by omega, hym⟩
  have HYL : Hid (ys.length ≤ 1048576) := by show _ ≤ _; omega
  have HYR : Hid (∀ x ∈ ys, 0 ≤ x ∧ x ≤ 255) := hr.rng
  clear hr hyl hyc hym
  have HTV : Hid (∀ V, Below w.heap.size w V → Calls Try.prog 8 #[.slice ya yn yc] V fun e w' => ∃ v1, e = .returned v1 ∧ Hid (OwS (Rg V.heap.size w'.heap.size) w' v1 ys) ∧ Below V.heap.size V w') := fun V hb => (toV _ ys V (HYV.out.ext (ext_below hb)) HYL.out).mono (fun e w' ⟨v1, h1, h2, h3⟩ => ⟨v1, h1, ows_of h2 HYR.out (Nat.le_refl _), h3⟩)
  go_enter Try.func3, Try.ntmps3
  go_wp2_with fail
  refine (szLoc _ D 1048576 _ (h0.out.ext (hE _ _)) (by omega) (by omega)).mono ?_
  rintro e w1 ⟨r, rfl, hrr, b1⟩
  have B1 := (hB w _).trans (b1.mono (by simp))
  have P1 : w1.heap[w.heap.size]? = some (.cells #[.slice na nn nc, .slice sa m sc] 25 (0, 0)) := below_blk b1 (by simp) (heap_alloc_new w _)
  rcases hrr with ⟨h1, rfl⟩ | ⟨h1, h2⟩
  · go_wp2_with fail
    go_ret
    exact ⟨rfl, B1⟩
  have HZL : Hid (zLo D ≤ 1048576) := by show _ ≤ _; omega
  have HLE : Hid (LenLo D) := lenLo_of HZL.out
  have HLM : Hid (LenLM D) := lenLM_of HZL.out
  have hr0 : 0 ≤ r := by omega
  clear h1 h2 b1
  have HW1 : Hid (w.heap.size < w1.heap.size) := (Array.getElem?_eq_some_iff.1 P1).1
  have HTA : Hid (∀ V, Below w.heap.size w V → Calls Try.prog 7 #[.agg #[.slice na nn nc, .slice sa m sc]] V fun e w' => ∃ xa xc xb xd, e = .returned (.agg #[.slice xa nn xc, .slice xb m xd]) ∧ Hid (OLD (Rg V.heap.size w'.heap.size) w' (.slice xa nn xc) (.slice xb m xd) D) ∧ Below V.heap.size V w') := fun V e => (toLocD _ D V (h0.out.ext (ext_below e)) HLE.out).mono (fun e w' ⟨a, c, b, mid, h1, h2, h3, h4, h5⟩ => by rw [← HNN.out, ← HMM.out] at h1; rw [← HNN.out] at h2; rw [← HMM.out] at h3; exact ⟨a, c, _, _, h1, old_of h2 h3 h4, h5⟩)
  obtain ⟨RR, hRR⟩ : ∃ RR, RR = addLX (tB (LocP D)) (tB (LocP (addL D ys))) D ys := ⟨_, rfl⟩
  obtain ⟨R, z⟩ := RR
  obtain ⟨rn, hrn⟩ : ∃ rn, rn = R.node.length := ⟨_, rfl⟩
  obtain ⟨rm, hrm⟩ : ∃ rm, rm = R.svcs.length := ⟨_, rfl⟩
  have HRN := hidL hrn
  have HRM := hidL hrm
  have HZR : Hid (zLo R ≤ 1048576) := by
    have h9 : R = (addLX (tB (LocP D)) (tB (LocP (addL D ys))) D ys).1 := by rw [← hRR]
    rw [h9]
    exact zLo_add _ _ _ HZL.out
  have HLR : Hid (LenLo R) := lenLo_of HZR.out
  have HMR : Hid (LenLM R) := lenLM_of HZR.out
  have HRR := hidL hRR

  have HS : Hid (∀ V xn xs yv, (∃ S, OLD S V xn xs D) → RV V yv ys → Below w.heap.size w V → Calls Try.prog 6 #[.agg #[xn, xs], yv] V fun e w' => ∃ ta tc tb td, e = .returned (.tuple #[.agg #[.slice ta rn tc, .slice tb rm td], .bool z]) ∧ Hid (OLD (Rg V.heap.size w'.heap.size) w' (.slice ta rn tc) (.slice tb rm td) R) ∧ Below V.heap.size V w') := fun V xn xs yv ⟨_, _, K, q1, q2, _⟩ hy hb => (sLocalAddV (.agg #[xn, xs]) yv D ys V ⟨_, _, rfl, q1.rv, q2.v⟩ HLE.out hy HYL.out K ⟨_, _, rfl, q2⟩).mono fun e w' ⟨nv, sv, mid, h1, h2, h3, h4, h5⟩ => by
    rw [← HRR.out] at h1 h2 h3
    obtain ⟨ta, tc, rfl⟩ := rv_shape h2.rv
    obtain ⟨tb, td, rfl⟩ := svcs_shape h3.v
    simp only at h1 h2 h3
    rw [← HRN.out] at h1 h2
    rw [← HRM.out] at h1 h3
    exact ⟨ta, tc, tb, td, h1, old_of h2 h3 h4, h5⟩
  have HI : Hid (∀ V xv yv, VLoc V xv D → RV V yv ys → Below w.heap.size w V → Calls Try.prog 9 #[xv, yv] V fun e w' => ∃ ta tc tb td, e = .returned (.tuple #[.agg #[.slice ta rn tc, .slice tb rm td], .bool z]) ∧ Hid (OLD (Rg V.heap.size w'.heap.size) w' (.slice ta rn tc) (.slice tb rm td) R) ∧ Below V.heap.size V w') := fun V xv yv hx hy hb => (iLocalAddV xv yv D ys V hx HLE.out hy HYL.out).mono fun e w' ⟨nv, sv, mid, h1, h2, h3, h4, h5⟩ => by
    rw [← HRR.out] at h1 h2 h3
    obtain ⟨ta, tc, rfl⟩ := rv_shape h2.rv
    obtain ⟨tb, td, rfl⟩ := svcs_shape h3.v
    simp only at h1 h2 h3
    rw [← HRN.out] at h1 h2
    rw [← HRM.out] at h1 h3
    exact ⟨ta, tc, tb, td, h1, old_of h2 h3 h4, h5⟩
  clear hRR hrn hrm
  obtain ⟨p0, p1⟩ := cells2L P1
  -- the specification's answer
  go_wp2_with fail
  refine (HTA.out w1 B1).mono ?_
  rintro e w2a ⟨xa2, xc2, xb2, xd2, rfl, o2a, b2a⟩
  have B2a : Below w.heap.size w w2a := B1.trans (b2a.mono B1.size)
  go_wp2_with fail
  refine (HTV.out w2a B2a).mono ?_
  rintro e w2 ⟨y2, rfl, oy2, by2⟩
  have X2 : Ext w1 w2 := (ext_below b2a).tr (ext_below by2)
  have B2 : Below w.heap.size w w2 := B1.trans ((ext_bel X2).mono B1.size)
  have o2 := hidL (o2a.out.ext (ext_below by2))
  clear b2a by2 B2a o2a
  go_wp2_with fail
  refine (HS.out w2 _ _ _ ⟨_, o2.out⟩ oy2.out.rv B2).mono ?_
  rintro e v3 ⟨ta, tc, tb, td, rfl, o3, b3⟩
  have X3 : Ext w1 v3 := X2.tr (ext_below b3)
  have HM3 : Hid (∀ W, W = v3.alloc (.cells #[.slice ta rn tc, .slice tb rm td] 29 (0, 0)) → Ext w1 W ∧ W.heap[v3.heap.size]? = some (.cells #[.slice ta rn tc, .slice tb rm td] 29 (0, 0)) ∧ OLD (Rg w2.heap.size v3.heap.size) W (.slice ta rn tc) (.slice tb rm td) R ∧ W.heap.size = v3.heap.size + 1) := fun W hW => by
    subst hW
    exact ⟨X3.tr (hE _ _), heap_alloc_new _ _, o3.out.ext (hE _ _), by simp⟩
  have HSZ3 : Hid (w1.heap.size ≤ w2.heap.size ∧ w2.heap.size ≤ v3.heap.size) := ⟨X2.size, b3.size⟩
  clear b3 X2 o2 oy2 p0 p1
  go_upto_region 8 with fail
  generalize hU : v3.alloc _ = w3
  obtain ⟨X13, PS3, O3, S3⟩ := HM3.out w3 hU.symm
  have HS3 := hidL S3
  clear hU HM3 X3 o3 S3
  have HO3 := hidL O3
  have B3 : Below w.heap.size w w3 := B1.trans ((ext_bel X13).mono B1.size)
  have P3 := ext_blk X13 P1
  obtain ⟨p0, p1⟩ := cells2L P3
  generalize hbs : v3.heap.size = bs at *
  clear O3 P1 hbs
  -- the program's argument
  go_wp2_with fail
  refine (HTA.out w3 B3).mono ?_
  rintro e w4 ⟨xa4, xc4, xb4, xd4, rfl, o4, b4⟩
  have X34 : Ext w3 w4 := ext_below b4
  have HM4 : Hid (∀ W, W = w4.alloc (.cells #[.slice xa4 nn xc4, .slice xb4 m xd4] 29 (0, 0)) → Ext w3 W ∧ W.heap[w4.heap.size]? = some (.cells #[.slice xa4 nn xc4, .slice xb4 m xd4] 29 (0, 0)) ∧ OLD (Rg w3.heap.size w4.heap.size) W (.slice xa4 nn xc4) (.slice xb4 m xd4) D ∧ W.heap.size = w4.heap.size + 1) := fun W hW => by
    subst hW
    exact ⟨X34.tr (hE _ _), heap_alloc_new _ _, o4.out.ext (hE _ _), by simp⟩
  have HSZ4 : Hid (w3.heap.size ≤ w4.heap.size) := X34.size
  clear b4 p0 p1
  go_upto_region 9 with fail
  generalize hU : w4.alloc _ = U4a
  obtain ⟨X3a, XUa, OXa, S4⟩ := HM4.out U4a hU.symm
  clear hU HM4 X34 o4
  generalize hbx : w4.heap.size = bx at *
  clear hbx
  have BU4a : Below w.heap.size w U4a := B3.trans ((ext_bel X3a).mono B3.size)
  go_wp2_with fail
  refine (HTV.out U4a BU4a).mono ?_
  rintro e U4 ⟨yk, rfl, oyk, byk⟩
  obtain ⟨ka, kc, hykv⟩ := rv_shape oyk.out.rv
  obtain ⟨kn, hkn⟩ : ∃ kn, kn = ys.length := ⟨_, rfl⟩
  have HKN := hidL hkn
  rw [← hkn] at hykv
  subst hykv
  have X3U : Ext w3 U4 := X3a.tr (ext_below byk)
  have XU := ext_blk (ext_below byk) XUa
  have HOX := hidL (OXa.ext (ext_below byk))
  have HS4 : Hid (bx < U4.heap.size) := by show _ < _; have := byk.size; omega
  obtain ⟨klo, hklo⟩ : ∃ klo, klo = U4a.heap.size := ⟨_, rfl⟩
  have HKO : Hid (bx < klo ∧ klo ≤ U4.heap.size) := by refine ⟨by omega, ?_⟩; rw [hklo]; exact byk.size
  have HYK : Hid (OwS (Rg klo U4.heap.size) U4 (.slice ka kn kc) ys) := by rw [hklo]; exact oyk.out
  have BU4 : Below w.heap.size w U4 := B3.trans ((ext_bel X3U).mono B3.size)
  clear hklo hkn oyk byk X3a XUa OXa S4 BU4a
  obtain ⟨q0, q1⟩ := cells2L XU
  -- the program
  go_wp2_with fail
  refine (HI.out U4 _ _ HOX.out.v HYK.out.rv BU4).mono ?_
  rintro e w5 ⟨ga, gc, gb, gd, rfl, O5, b5⟩
  have HSZ5 : Hid (U4.heap.size ≤ w5.heap.size) := b5.size
  have HLL : Hid (∀ W, W = w5.alloc (.cells #[.slice ga rn gc, .slice gb rm gd] 29 (0, 0)) → LKL w W #[.slice na nn nc, .slice sa m sc] (.slice ta rn tc) (.slice tb rm td) (.slice xa4 nn xc4) (.slice xb4 m xd4) (.slice ga rn gc) (.slice gb rm gd) w2.heap.size bs bs w3.heap.size bx bx U4.heap.size w5.heap.size w5.heap.size R D R ∧ OwS (Rg klo U4.heap.size) W (.slice ka kn kc) ys) := fun W hW => by
    subst hW
    have X4W : Ext U4 (w5.alloc (.cells #[.slice ga rn gc, .slice gb rm gd] 29 (0, 0))) := (ext_below b5).tr (hE _ _)
    have X3W := X3U.tr X4W
    have := HW1.out; have := HSZ3.out; have := HS3.out; have := HSZ4.out; have := HS4.out; have := HSZ5.out
    exact ⟨⟨⟨by omega, by omega, by omega, by omega, by omega, by omega, by omega, by omega, Nat.le_refl _, by simp⟩, B3.trans ((ext_bel X3W).mono B3.size), ext_blk X3W P3, ext_blk X3W PS3, ext_blk X4W XU, heap_alloc_new _ _, HO3.out.ext X3W, HOX.out.ext X4W, O5.out.ext (hE _ _)⟩, HYK.out.ext X4W⟩
  clear q0 q1
  go_upto_region 11 with fail
  generalize hU : w5.alloc _ = W0
  have HL0 := hidL (HLL.out W0 hU.symm).1
  have HY0 := hidL (HLL.out W0 hU.symm).2
  clear hU HLL O5 b5 XU X3U PS3 P3 HO3 B3 HOX BU4 B1 B2 X13 HYK
  generalize w5.heap.size = bg at *
  generalize U4.heap.size = glo at *
  generalize w3.heap.size = xlo at *
  generalize w2.heap.size = slo at *
  obtain ⟨s0, s1⟩ := cells2L HL0.out.s
  obtain ⟨y0, y1⟩ := cells2L HL0.out.g
  -- its answer held against the specification's
  go_wp2_with fail
  refine (eqLoc _ _ R _ HL0.out.gO.v HL0.out.sO.v HLR.out).mono ?_
  rintro e W1 ⟨rfl, b1⟩
  have HL1 := hidL (HL0.out.grow b1)
  have HY1 := hidL (HY0.out.ext (ext_below b1))
  have HLOW : Hid (Below w.heap.size w W1) := HL1.out.low
  clear s0 s1 y0 y1 b1 HL0 HY0
  obtain ⟨x0, x1⟩ := cells2L HL1.out.x
  obtain ⟨a0, a1⟩ := cells2L HL1.out.a
  -- its argument is as it was
  go_upto_region 13 with fail
  have z0 := bw_cell x0
  have z1 := bw_cell x1
  have z2 := bw_cell a0
  have z3 := bw_cell a1
  have nonV := bw_ne W1
  clear x0 x1 a0 a1
  refine wp_region_seg (S := fun w' => ∃ p : BW W1, w' = p.u) (by kernel_rfl) (inBW_drew W1) (fun hHeld => ?_)
  refine wpAnyH_seg 0 2 3 (by kernel_rfl) (by kernel_rfl) (by kernel_rfl) (by kernel_rfl) (fun _ _ _ _ _ h => h) hHeld ?_
  simp only [List.drop_zero, List.take_succ_cons, List.take_zero]
  repeat (go_big_quiet_step (fail))
  refine wpQuiet_nil ?_
  refine wpAnyH_one 2 2 (by kernel_rfl) (by kernel_rfl) rfl (fun K hK => ?_)
  go_simp
  go_at_call 7
  refine (HTA.out _ (HLOW.out.trans ((below_drew1 W1).mono HLOW.out.size))).mono ?_
  rintro e w6 ⟨xa6, xc6, xb6, xd6, rfl, o6, b6⟩
  dsimp only
  have B6 : Below W1.heap.size W1 w6 := (below_drew1 W1).trans b6
  refine hK.out _ _ ⟨⟨w6, B6⟩, rfl⟩ (fun hHeld => ?_)
  clear hK K
  try simp only [Act.put, List.setIfInBounds_toArray, List.set_cons_zero, List.set_cons_succ]
  refine wpAnyH_one 3 1 (by kernel_rfl) (by kernel_rfl) rfl (fun K hK => ?_)
  go_simp
  go_at_call 10
  refine (eqLoc _ _ D _ ((HL1.out.grow B6).xO.v) o6.out.v HLE.out).mono ?_
  rintro e w7 ⟨rfl, b7⟩
  dsimp only
  have B7 : Below W1.heap.size W1 w7 := B6.trans (b7.mono B6.size)
  refine hK.out _ _ ⟨⟨w7, B7⟩, rfl⟩ (fun hHeld => ?_)
  clear hK K
  try simp only [Act.put, List.setIfInBounds_toArray, List.set_cons_zero, List.set_cons_succ]
  refine wpAnyH_seg 4 1 0 (by kernel_rfl) (by kernel_rfl) (by kernel_rfl) (by kernel_rfl) (fun _ _ _ _ _ h => h) hHeld ?_
  simp only [List.drop_succ_cons, List.drop_zero, List.take_succ_cons, List.take_zero]
  repeat (go_big_quiet_step (fail))
  refine wpQuiet_nil ?_
  refine wpAnyH_endN (by kernel_rfl) ?_
  have HL2a := hidL (HL1.out.grow B7)
  have HY2a := hidL (HY1.out.ext (ext_below B7))
  clear z0 z1 z2 z3 nonV hHeld B6 B7 b6 b7 o6 HL1 HLOW HY1
  -- its text is as it was
  go_wp2_with fail
  refine (HTV.out w7 HL2a.out.low).mono ?_
  rintro e w8 ⟨v8, rfl, o8, b8⟩
  have HY8 := hidL (HY2a.out.ext (ext_below b8))
  go_wp2_with fail
  refine (eqV_yes _ _ ys w8 HY8.out.rv o8.out.rv (Nat.le_trans HYL.out (by omega))).mono ?_
  rintro e w9 ⟨rfl, q9, h9⟩
  have b9 : Below w7.heap.size w7 w9 := by rw [h9]; exact below_drewN b8 _
  have HL2 := hidL (HL2a.out.grow b9)
  have HY2 := hidL (HY2a.out.ext (ext_below b9))
  clear h9 b9 o8 b8 HY8 HL2a HY2a
  obtain ⟨x0, x1⟩ := cells2L HL2.out.x
  -- marks in its argument
  have HK1 : Hid (0 ≤ kL 1 D) := kL_pos (by omega)
  obtain ⟨k1, hk1⟩ : ∃ k1, k1 = kL 1 D := ⟨_, rfl⟩
  have HKD := hidL hk1
  rw [← hk1] at HK1
  clear hk1
  go_wp2_with fail
  refine (markLD _ _ _ D 1 _ HL2.out.xO HLM.out (by omega) (by omega)).mono ?_
  rintro e W3 ⟨rfl, o3, t3⟩
  rw [← HKD.out]
  have HL3a := hidL (HL2.out.turnX t3 o3)
  have HY3 := hidL (HY2.out.keep t3 (fun b h1 h2 => by have := h1.1; have := h2.2; have := HKO.out; have := HL2.out.ord; omega))
  clear o3 t3 x0 x1 HL2 HY2
  -- marks in its text
  have HKM : Hid (k1 ≤ 1073741824) := by
    show _ ≤ _
    have q1 := (kS_le (1 + D.node.length) D.svcs D.svcs.length).2
    have q2 := HLM.out.1
    have q3 := HLM.out.2.1
    rw [HKD.out]
    unfold kL
    omega
  go_wp2_with fail
  refine (markV 0 _ ys k1 _ HY3.out.1.1 (Nat.le_trans HYL.out (by omega)) HK1.out HKM.out).mono ?_
  rintro e W3b ⟨rfl, o3b, g3b⟩
  have HL3 := hidL (HL3a.out.turnK HKO.out (Trn.one g3b (fun x e => HY3.out.2 x e)))
  clear o3b g3b HL3a HY3
  obtain ⟨k5, hk5⟩ : ∃ k5, k5 = k1 + (ys.length : Int) := ⟨_, rfl⟩
  have hk6 : 0 ≤ k5 := by have := HK1.out; omega
  rw [← hk5]
  clear hk5
  obtain ⟨s0, s1⟩ := cells2L HL3.out.s
  obtain ⟨y0, y1⟩ := cells2L HL3.out.g
  have hk0 : ¬ (k5 < 0) := by omega
  have hk2 : decide (k5 < 0) = false := by simp; omega
  go_wp2_with fail
  refine (eqLoc _ _ R _ HL3.out.gO.v HL3.out.sO.v HLR.out).mono ?_
  rintro e W4 ⟨rfl, b4⟩
  have HL4 := hidL (HL3.out.grow b4)
  clear s0 s1 y0 y1 b4 HL3
  obtain ⟨y0, y1⟩ := cells2L HL4.out.g
  -- marks in its answer
  have HK2 : Hid (0 ≤ kL 1 R) := kL_pos (by omega)
  obtain ⟨k2, hk3⟩ : ∃ k2, k2 = kL 1 R := ⟨_, rfl⟩
  have HKR := hidL hk3
  rw [← hk3] at HK2
  clear hk3
  go_wp2_with fail
  refine (markLD _ _ _ R 1 _ HL4.out.gO HMR.out (by omega) (by omega)).mono ?_
  rintro e W5 ⟨rfl, o5, t5⟩
  rw [← HKR.out]
  have HL5 := hidL (HL4.out.turnG t5 o5)
  clear o5 t5 y0 y1 HL4
  obtain ⟨y0, y1⟩ := cells2L HL5.out.g
  go_wp2_with fail
  refine (heldLD _ R 1 _ HL5.out.gO.v HMR.out (by omega) (by omega)).mono ?_
  rintro e W6 ⟨rfl, b6⟩
  rw [← HKR.out]
  have HL6 := hidL (HL5.out.grow b6)
  clear y0 y1 b6 HL5
  obtain ⟨a0, a1⟩ := cells2L HL6.out.a
  have hm0 : ¬ (k2 < 0) := by have := HK2.out; omega
  -- another call
  go_wp2_with fail
  refine (HTA.out W6 HL6.out.low).mono ?_
  rintro e W7a ⟨xa7, xc7, xb7, xd7, rfl, o7a, b7a⟩
  have HL7a := hidL (HL6.out.grow b7a)
  clear b7a a0 a1 HL6
  go_wp2_with fail
  refine (HTV.out W7a HL7a.out.low).mono ?_
  rintro e W7 ⟨y7, rfl, oy7, b7⟩
  have HL7 := hidL (HL7a.out.grow b7)
  have o7 := hidL (o7a.out.v.ext (ext_below b7))
  clear b7 o7a HL7a
  go_wp2_with fail
  refine (HI.out W7 _ _ o7.out oy7.out.rv HL7.out.low).mono ?_
  rintro e W8 ⟨ha, hc, hb, hd, rfl, O8, b8⟩
  have HL8 := hidL (HL7.out.grow b8)
  have HH : Hid (∀ W, W = W8.alloc (.cells #[.slice ha rn hc, .slice hb rm hd] 29 (0, 0)) → LKL w W #[.slice na nn nc, .slice sa m sc] (.slice ta rn tc) (.slice tb rm td) (.slice xa4 nn xc4) (.slice xb4 m xd4) (.slice ga rn gc) (.slice gb rm gd) slo bs bs xlo bx bx glo bg bg R (mkLo 1 D) (mkLo 1 R) ∧ W.heap[W8.heap.size]? = some (.cells #[.slice ha rn hc, .slice hb rm hd] 29 (0, 0)) ∧ VLoc W (.agg #[.slice ha rn hc, .slice hb rm hd]) R) := fun W hW => by
    subst hW
    exact ⟨HL8.out.grow (hB _ _), heap_alloc_new _ _, (O8.out.ext (hE _ _)).v⟩
  clear b8 o7 oy7 HL7
  go_upto_region 31 with fail
  generalize hU : W8.alloc _ = W9
  obtain ⟨L9, Q9, T9⟩ := HH.out W9 hU.symm
  have HL9 := hidL L9
  have HT9 := hidL T9
  clear hU HH L9 T9 HL8 O8
  generalize W8.heap.size = bh at *
  obtain ⟨t0, t1⟩ := cells2L Q9
  obtain ⟨s0, s1⟩ := cells2L HL9.out.s
  go_wp2_with fail
  refine (eqLoc _ _ R _ HT9.out HL9.out.sO.v HLR.out).mono ?_
  rintro e W10 ⟨rfl, b10⟩
  have HL10 := hidL (HL9.out.grow b10)
  clear s0 s1 t0 t1 b10 HL9 HT9 Q9
  obtain ⟨y0, y1⟩ := cells2L HL10.out.g
  go_wp2_with fail
  refine (heldLD _ R 1 _ HL10.out.gO.v HMR.out (by omega) (by omega)).mono ?_
  rintro e W11 ⟨rfl, b11⟩
  rw [← HKR.out]
  have HZ := hidL (HL10.out.grow b11).low
  clear y0 y1 b11 HL10
  go_wp2
  go_ret
  exact ⟨rfl, HZ.out⟩

end Go.Proofs.Ytjkhadaoldbceaa

namespace Go.Proofs.Ytjkhadaoldbceaa
open Go.ChangeShapes Go.WideShapes Go.ChangeAt Go.RowKit Go.Joins

section
variable {H : Type} {enc : TypeId × Value → H} {W : World} {fuel : Nat} {v : Value} {y : DataW H × List MemPlace}

theorem int_of_trod (h : DataW.trod enc Try.prog W 0 (fun _ => true) true fuel 3 [v] = some y) : ∃ q : Int, v = .int .i64 q ∧ -9223372036854775808 ≤ q ∧ q ≤ 9223372036854775807 := by
  obtain ⟨q, e0, rfl, wa⟩ := DataW.trod_int Try.underlying3 h
  simp only [List.cons.injEq, and_true] at e0
  subst e0
  simp [Lit.wf, IntKind.min, IntKind.max, IntKind.signed, IntKind.bits] at wa
  exact ⟨q, rfl, by omega, by omega⟩
end

theorem array6 {cs : Array Value} (h : cs.size = 6) : ∃ a b c d e f, cs = #[a, b, c, d, e, f] := by
  obtain ⟨l⟩ := cs
  match l, h with
  | [a, b, c, d, e, f], _ => exact ⟨a, b, c, d, e, f, rfl⟩

end Go.Proofs.Ytjkhadaoldbceaa

namespace Go.Proofs.Ytjkhadaoldbceaa
open Go.ChangeShapes Go.WideShapes Go.ChangeAt Go.RowKit Go.Joins

section
variable {H : Type} {enc : TypeId × Value → H} {W : World} {fuel : Nat} {v : Value} {y : DataW H × List MemPlace}

theorem rv_of_trod (h : DataW.trod enc Try.prog W 0 (fun _ => true) true fuel 22 [v] = some y) : ∃ xs, RV W v xs ∧ ∀ x ∈ xs, 0 ≤ x ∧ x ≤ 255 := by
  rcases open_ints Try.underlying22 Try.underlying5 (by kernel_rfl) h with ⟨hcs, _⟩ | ⟨x, len, cap, zs, hcs, _, hl, hm, hz, _, hcell, hwz⟩
  · simp only [List.cons.injEq, and_true] at hcs
    subst hcs
    exact ⟨[], ⟨none, 0, rfl, Rd.nil _ _, Nat.le_refl _, Nat.zero_le _⟩, fun x hx => by cases hx⟩
  · simp only [List.cons.injEq, and_true] at hcs
    subst hcs
    have hz' : zs.length = cap := by simpa using hz
    have hln : (zs.take len).length = len := by simp; omega
    have hrng : ∀ n ∈ zs.take len, 0 ≤ n ∧ n ≤ 255 := fun n hn => by
      have := hwz n (List.mem_of_mem_take hn)
      simp [Lit.wf, IntKind.min, IntKind.max, IntKind.signed, IntKind.bits] at this
      omega
    refine ⟨zs.take len, ⟨some x, cap, by rw [hln], ⟨rfl, fun i hi => ?_, hrng⟩, by omega, hm⟩, hrng⟩
    rw [hln] at hi
    obtain ⟨b, off, spot⟩ := x
    have hspot : spot = none := by simpa [Addr.add] using World.cell?_spot (hcell 0 (by omega))
    subst hspot
    have hc := hcell i (by omega)
    refine ⟨b, off, rfl, ?_⟩
    rw [Addr.add_lit] at hc
    rw [hc]
    simp [List.getD, hi]

end

end Go.Proofs.Ytjkhadaoldbceaa

namespace Go.Proofs.Ytjkhadaoldbceaa
open Go.ChangeShapes Go.WideShapes Go.ChangeAt Go.RowKit Go.Joins

theorem list_of {α : Type} {p : Nat → α → Prop} : ∀ n : Nat, (∀ i, i < n → ∃ x, p i x) → ∃ rs : List α, rs.length = n ∧ ∀ (i : Nat) (r : α), rs[i]? = some r → p i r
  | 0, _ => ⟨[], rfl, fun i r h => by simp at h⟩
  | n + 1, h => by
    obtain ⟨rs, hl, hr⟩ := list_of n (fun i hi => h i (by omega))
    obtain ⟨x, hx⟩ := h n (by omega)
    refine ⟨rs ++ [x], by simp [hl], fun i r hi => ?_⟩
    by_cases e : i < n
    · rw [List.getElem?_append_left (by omega)] at hi
      exact hr i r hi
    · rw [List.getElem?_append_right (by omega)] at hi
      have e2 : i - rs.length = 0 := by
        have := (List.getElem?_eq_some_iff.1 hi).1
        simp at this
        omega
      rw [e2] at hi
      simp at hi
      obtain rfl : i = n := by omega
      rw [← hi]
      exact hx

section
variable {H : Type} {enc : TypeId × Value → H} {W : World} {fuel : Nat} {v : Value} {y : DataW H × List MemPlace}

set_option maxRecDepth 100000 in
/-- A slice of whatever structs: its cells, element by element. -/
theorem sl_of_trod {t e : TypeId} {k : Nat} (ht : Try.prog.underlying t = some (.slice e)) (hc : Try.prog.cellsOf e = k) (hk : 0 < k)
    (h : DataW.trod enc Try.prog W 0 (fun _ => true) true fuel t [v] = some y) :
    ∃ (n : Nat) (C : Nat → Nat → Value), SL W k v n C ∧ ∃ (m : Nat) (D : Nat → DataW H × List MemPlace), ∀ i, i < n → DataW.trod enc Try.prog W 0 (fun _ => true) true m e ((List.range k).map (C i)) = some (D i) := by
  rcases Go.Deep.open_slice ht h with ⟨hcs, _⟩ | ⟨a, len, cap, m, n, D, Pl, hcs, _, hl, hm, hmm, _, hx⟩
  · simp only [List.cons.injEq, and_true] at hcs
    subst hcs
    exact ⟨0, fun _ _ => .int .i64 0, ⟨none, 0, rfl, Nat.le_refl _, Nat.zero_le _, fun h => absurd h (by omega)⟩, 0, fun _ => y, fun i hi => absurd hi (by omega)⟩
  · simp only [List.cons.injEq, and_true] at hcs
    subst hcs
    rw [hc] at hx
    have hmm' : m = cap := by rw [hmm]; simp
    subst hmm'
    have hex : ∀ i, i < len → ∃ cs' : List Value, W.cells? 0 (a.add (i * k)) k = some cs' ∧ DataW.trod enc Try.prog W 0 (fun _ => true) true n e cs' = some (D i, Pl i) := fun i hi => hx i (by omega)
    obtain ⟨cs, hcsl, hcs⟩ := list_of len hex
    have hget : ∀ i, i < len → ∃ c, cs[i]? = some c := fun i hi => ⟨_, List.getElem?_eq_getElem (by omega)⟩
    refine ⟨len, fun i j => ((cs.getD i []).getD j (.int .i64 0)), ⟨some a, m, rfl, hl, hm, fun hpos => ?_⟩, n, fun i => (D i, Pl i), fun i hi => ?_⟩
    · obtain ⟨c, hcc⟩ := hget 0 hpos
      obtain ⟨h1, _⟩ := hcs 0 c hcc
      obtain ⟨_, hln, hce⟩ := World.cells?_some h1
      obtain ⟨b, off, spot⟩ := a
      have hc0 := hce 0 hk
      have hsome : W.cell? ((Addr.add ⟨b, off, spot⟩ (0 * k)).add 0) = some (c[0]'(by omega)) := by rw [hc0, List.getElem?_eq_getElem (by omega)]
      have hspot : spot = none := by simpa [Addr.add] using World.cell?_spot hsome
      subst hspot
      have hbl := World.block_lt_of_cell? W _ hsome
      rw [Addr.add_lit, Addr.add_lit] at hbl
      refine ⟨b, off, rfl, hbl, fun i hi j hj => ?_⟩
      obtain ⟨c', hcc'⟩ := hget i hi
      obtain ⟨h1', _⟩ := hcs i c' hcc'
      obtain ⟨_, hln', hce'⟩ := World.cells?_some h1'
      have := hce' j hj
      rw [Addr.add_lit, Addr.add_lit] at this
      rw [this, List.getElem?_eq_getElem (by omega)]
      simp [List.getD, hcc', List.getElem?_eq_getElem (show j < c'.length by omega)]
    · obtain ⟨c', hcc'⟩ := hget i hi
      obtain ⟨h1', h2'⟩ := hcs i c' hcc'
      obtain ⟨_, hln', _⟩ := World.cells?_some h1'
      have hce : (List.range k).map (fun j => ((cs.getD i []).getD j (.int .i64 0))) = c' := by
        apply List.ext_getElem?
        intro j
        by_cases hj : j < k
        · simp [List.getD, hcc', hj, List.getElem?_eq_getElem (show j < c'.length by omega)]
        · simp [hj, hln']
      rw [hce]
      exact h2'

theorem bool_of_trod (h : DataW.trod enc Try.prog W 0 (fun _ => true) true fuel 4 [v] = some y) : ∃ b, v = .bool b := by
  obtain ⟨b, e0, _⟩ := DataW.trod_bool Try.underlying4 h
  simp only [List.cons.injEq, and_true] at e0
  exact ⟨b, e0⟩
end

end Go.Proofs.Ytjkhadaoldbceaa

namespace Go.Proofs.Ytjkhadaoldbceaa
open Go.ChangeShapes Go.WideShapes Go.ChangeAt Go.RowKit Go.Joins

set_option maxRecDepth 100000 in
theorem chks_of_trod {H : Type} {enc : TypeId × Value → H} {W : World} {fuel : Nat} {v : Value} {y : DataW H × List MemPlace} (h : DataW.trod enc Try.prog W 0 (fun _ => true) true fuel 66 [v] = some y) : ∃ rs, VChks W v rs := by
  obtain ⟨n, C, hS, m, D, hD⟩ := sl_of_trod (k := 6) Try.underlying66 (by kernel_rfl) (by omega) h
  obtain ⟨rs, hl, hr⟩ := list_of (p := fun i (d : DChk) => RV W (C i 0) d.name ∧ C i 1 = .int .i64 d.ttl ∧ C i 2 = .int .i64 d.most ∧ C i 3 = .int .i64 d.st ∧ C i 4 = .int .i64 d.age ∧ C i 5 = .int .i64 d.fails) n (fun i hi => by
    have hC : DataW.trod enc Try.prog W 0 (fun _ => true) true m 40 [C i 0, C i 1, C i 2, C i 3, C i 4, C i 5] = some (D i) := hD i hi
    obtain ⟨us, n', _, _, _, hul, hu⟩ := DataW.trod_struct Try.underlying40 hC
    match us, hul with
    | [u0, u1, u2, u3, u4, u5], _ =>
      have e0 : DataW.trod enc Try.prog W 0 (fun _ => true) true n' 22 [C i 0] = some u0 := hu 0 _ rfl
      have e1 : DataW.trod enc Try.prog W 0 (fun _ => true) true n' 3 [C i 1] = some u1 := hu 1 _ rfl
      have e2 : DataW.trod enc Try.prog W 0 (fun _ => true) true n' 3 [C i 2] = some u2 := hu 2 _ rfl
      have e3 : DataW.trod enc Try.prog W 0 (fun _ => true) true n' 3 [C i 3] = some u3 := hu 3 _ rfl
      have e4 : DataW.trod enc Try.prog W 0 (fun _ => true) true n' 3 [C i 4] = some u4 := hu 4 _ rfl
      have e5 : DataW.trod enc Try.prog W 0 (fun _ => true) true n' 3 [C i 5] = some u5 := hu 5 _ rfl
      obtain ⟨ts, r0, _⟩ := rv_of_trod e0
      obtain ⟨q1, x1, _, _⟩ := int_of_trod e1
      obtain ⟨q2, x2, _, _⟩ := int_of_trod e2
      obtain ⟨q3, x3, _, _⟩ := int_of_trod e3
      obtain ⟨q4, x4, _, _⟩ := int_of_trod e4
      obtain ⟨q5, x5, _, _⟩ := int_of_trod e5
      exact ⟨⟨ts, q1, q2, q3, q4, q5⟩, r0, x1, x2, x3, x4, x5⟩)
  exact ⟨rs, C, by rw [hl]; exact hS, hr⟩

end Go.Proofs.Ytjkhadaoldbceaa

namespace Go.Proofs.Ytjkhadaoldbceaa
open Go.ChangeShapes Go.WideShapes Go.ChangeAt Go.RowKit Go.Joins

set_option maxRecDepth 100000 in
theorem svcs_of_trod {H : Type} {enc : TypeId × Value → H} {W : World} {fuel : Nat} {v : Value} {y : DataW H × List MemPlace} (h : DataW.trod enc Try.prog W 0 (fun _ => true) true fuel 23 [v] = some y) : ∃ rs, VSvcs W v rs := by
  obtain ⟨n, C, hS, m, D, hD⟩ := sl_of_trod (k := 2) Try.underlying23 (by kernel_rfl) (by omega) h
  obtain ⟨rs, hl, hr⟩ := list_of (p := fun i (d : DSvc) => RV W (C i 0) d.name ∧ VChks W (C i 1) d.checks) n (fun i hi => by
    have hC : DataW.trod enc Try.prog W 0 (fun _ => true) true m 68 [C i 0, C i 1] = some (D i) := hD i hi
    obtain ⟨us, n', _, _, _, hul, hu⟩ := DataW.trod_struct Try.underlying68 hC
    match us, hul with
    | [u0, u1], _ =>
      have e0 : DataW.trod enc Try.prog W 0 (fun _ => true) true n' 22 [C i 0] = some u0 := hu 0 _ rfl
      have e1 : DataW.trod enc Try.prog W 0 (fun _ => true) true n' 66 [C i 1] = some u1 := hu 1 _ rfl
      obtain ⟨ts, r0, _⟩ := rv_of_trod e0
      obtain ⟨cs, r1⟩ := chks_of_trod e1
      exact ⟨⟨ts, cs⟩, r0, r1⟩)
  exact ⟨rs, C, by rw [hl]; exact hS, hr⟩

theorem arr2L {cs : Array Value} (h : cs.size = 2) : ∃ a b, cs = #[a, b] := by
  obtain ⟨l⟩ := cs
  match l, h with
  | [a, b], _ => exact ⟨a, b, rfl⟩

set_option maxRecDepth 100000 in
theorem open_Local {H : Type} {enc : TypeId × Value → H} {W : World} {r : Reach} {b0 : Nat} {v : Value} {d : DataW H} {p : List MemPlace}
    (hv : Value.okWide Try.prog W r b0 25 v) (h : DataW.Trod enc Try.prog W 0 (fun _ => true) true 25 v d p) : ∃ D, VLoc W v D := by
  obtain ⟨cs, rfl, hsz⟩ := okWide_struct Try.underlying25 hv
  have h6 : Try.prog.cellsOf 25 = 2 := by kernel_rfl
  obtain ⟨c0, c1, rfl⟩ := arr2L (hsz.trans h6)
  obtain ⟨fuel, hf⟩ := h
  obtain ⟨xs, n, _, _, _, hxl, hx⟩ := DataW.trod_struct Try.underlying25 hf
  match xs, hxl with
  | [y0, y1], _ =>
    have h0 : DataW.trod enc Try.prog W 0 (fun _ => true) true n 22 [c0] = some y0 := hx 0 _ rfl
    have h1 : DataW.trod enc Try.prog W 0 (fun _ => true) true n 23 [c1] = some y1 := hx 1 _ rfl
    obtain ⟨ts, r0, _⟩ := rv_of_trod h0
    obtain ⟨ss, r1⟩ := svcs_of_trod h1
    exact ⟨⟨ts, ss⟩, c0, c1, rfl, r0, r1⟩

end Go.Proofs.Ytjkhadaoldbceaa

namespace Go.Proofs.Ytjkhadaoldbceaa
open Go.ChangeShapes Go.WideShapes Go.ChangeAt Go.RowKit

theorem own : ownKnob Try.prog.godebug = none := by kernel_rfl
theorem laidOut : laidOutB Try.prog = true := by kernel_rfl

/-- What is known of a slice of bytes that came in. -/
def IsRow (w : World) (a : Option Addr) (len cap : Nat) (xs : List Int) : Prop := Rd w a len xs ∧ len ≤ cap ∧ cap ≤ maxLen

theorem isRow_open {H : Type} {enc : TypeId × Value → H} {W : World} {a : Option Addr} {len cap : Nat} {d : DataW H} {p : List MemPlace} (h : DataW.Trod enc Try.prog W 0 (fun _ => true) true 22 (Value.slice a len cap) d p) : ∃ xs, IsRow W a len cap xs := by
  obtain ⟨fuel, hf⟩ := h
  rcases open_ints Try.underlying22 Try.underlying5 (by kernel_rfl) hf with ⟨hcs, _⟩ | ⟨x, l, c, zs, hcs, _, hl, hm, hz, _, hcell, hwz⟩
  · simp [Value.cells] at hcs
    obtain ⟨rfl, rfl, rfl⟩ := hcs
    exact ⟨[], Rd.nil _ _, Nat.le_refl _, Nat.zero_le _⟩
  · simp [Value.cells] at hcs
    obtain ⟨rfl, rfl, rfl⟩ := hcs
    have hz' : zs.length = cap := by simpa using hz
    refine ⟨zs.take len, ⟨by simp; omega, fun i hi => ?_, fun x hx => ?_⟩, hl, hm⟩
    · have hi' : i < zs.length := by omega
      have hc := hcell i hi'
      obtain ⟨b, off, spot⟩ := x
      have hspot : spot = none := by simpa [Addr.add] using World.cell?_spot (hcell 0 (by omega))
      subst hspot
      refine ⟨b, off, rfl, ?_⟩
      rw [Addr.add_lit] at hc
      rw [hc]
      simp [List.getD, hi]
    · have := hwz x (List.mem_of_mem_take hx)
      simp [Lit.wf, IntKind.min, IntKind.max, IntKind.signed, IntKind.bits] at this
      omega

set_option maxRecDepth 100000 in
theorem lifted (os : Os) (started : os.Started) (H : Type) (enc : TypeId × Value → H) :
    ReturnsInHanded {} Try.checked os 3 .any (Rows.fnExactLocalAddSpec.pre6 enc Try.prog Try.f3 Rows.fnExactLocalAddRow.domain false) (Rows.fnExactLocalAddSpec.post enc Try.prog Try.f3 false true false false) := by
  refine returnsInHanded_of_change (C := Try.checked) own started (by kernel_rfl) Try.func3
    (ChangeSpec.witness6 (enc := enc) (C := Try.checked) false ⟨#[], #[.agg #[.slice none 0 0, .slice none 0 0], .slice none 0 0], []⟩ 8 (by kernel_rfl) (by kernel_rfl) (by kernel_rfl) (by kernel_rfl)) ?_
  intro W base args ds gs before hval0 hW hcnd _
  have hval : ∀ (j : Nat) t v, Try.f3.params[j]? = some t → args[j]? = some v → Value.okWide Try.prog W .any base t v := hval0
  have hW' := hW
  obtain ⟨p, q, hA0, hV, rfl, hfz, hnd⟩ := hW
  have hA : DataW.TrodAll enc Try.prog W 0 (fun _ => true) true Try.f3.params.toList args.toList ds p := hA0
  rw [Try.params3] at hA hval
  obtain ⟨v0, vs0, d0, ds0, p0, q0, hargs, rfl, rfl, h0, r0⟩ := trodAll_cons hA
  obtain ⟨v1, vs1, d1, ds1, p1, q1, rfl, rfl, rfl, h1, r1⟩ := trodAll_cons r0
  obtain ⟨rfl, rfl, rfl⟩ := trodAll_nil r1
  obtain rfl : args = #[v0, v1] := by cases args; simp_all
  obtain ⟨rfl, rfl⟩ := trodVars_none hV
  have k0 := h0
  have lt0 : ∀ x ∈ p0, x.block < W.heap.size := by obtain ⟨m, hm⟩ := k0; exact DataW.trod_lt m _ _ _ hm
  obtain ⟨D0, w0⟩ := open_Local (hval 0 25 v0 rfl rfl) h0
  obtain ⟨a1, len1, cap1, rfl⟩ := okWide_slice Try.underlying22 (hval 1 22 v1 rfl rfl)
  have k1 := h1
  have lt1 : ∀ x ∈ p1, x.block < W.heap.size := by obtain ⟨m, hm⟩ := k1; exact DataW.trod_lt m _ _ _ hm
  obtain ⟨z1, w1⟩ := isRow_open h1
  clear hA0 hval0
  refine (law_LocalAdd v0 D0 a1 len1 cap1 z1 W w0 w1.1 w1.2.1 w1.2.2).mono fun e W' ⟨he, bel⟩ => ?_
  subst he
  exact ⟨_, rfl, _, _, _, [], _, [], hW', trodAll_mk1 (shut_bool Try.underlying4 _), (trodAll_cons_mk (Below.trod laidOut (by kernel_rfl) (of_decide_eq_true (by kernel_rfl)) k0 bel lt0) (trodAll_cons_mk (Below.trod laidOut (by kernel_rfl) (of_decide_eq_true (by kernel_rfl)) k1 bel lt1) trodAll_mk0)), rfl, bel.frame _, fun h => by cases h⟩

theorem over : Rows.fnExactLocalAddRow.holds Try.pinned (OpenSpec.ofChange Rows.fnExactLocalAddSpec) :=
  OpenClaim.holds_of_wide 3 Try.f3 rfl rfl rfl rfl rfl rfl rfl ⟨rfl, rfl, rfl, rfl, rfl⟩ rfl rfl rfl rfl rfl (by kernel_rfl) Try.func3 (by kernel_rfl)
    (of_decide_eq_true (by kernel_rfl)) (by unfold Func.isWrapper; first | (rw [if_pos (by decide +kernel)]; kernel_rfl) | (rw [if_neg (by decide +kernel)]; exact ⟨rfl, rfl⟩))
    (fun os started H enc _ => lifted os started H enc)

theorem proved : Rows.FnExactLocalAddSaid := over
#print axioms proved
end Go.Proofs.Ytjkhadaoldbceaa

