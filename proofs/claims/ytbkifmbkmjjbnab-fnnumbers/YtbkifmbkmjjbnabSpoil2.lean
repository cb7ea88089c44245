/- The draws' l1spoil of a text that is not empty. -/
import Derived.Test.YtbkifmbkmjjbnabSpoil
namespace Go.Proofs.Ytbkifmbkmjjbnab
open Go.RowKit

theorem ow_at {w : World} {base g n cap : Nat} {xs : List Int} (h : Ow w base (.slice (some ⟨g, 0, none⟩) n cap) xs) (hn : n = xs.length) (i : Nat) (hi : i < n) :
    w.cell? ⟨g, i, none⟩ = some (.int .u8 (xs.getD i 0)) ∧ w.frozen? ⟨g, i, none⟩ = false := by
  subst hn
  refine ⟨?_, World.ownsRow.frozenAt h i⟩
  rw [World.ownsRow.cellAt h i (by omega)]
  simp [List.getD, hi]

theorem xor_rng (a b : Int) : 0 ≤ bits .xor .u8 a b ∧ bits .xor .u8 a b ≤ 255 := by
  have h : bits .xor .u8 a b = ((BitVec.ofInt 8 a ^^^ BitVec.ofInt 8 b).toNat : Int) % 256 := by
    show IntKind.u8.wrap ((BitVec.ofInt 8 a ^^^ BitVec.ofInt 8 b).toNat : Int) = _
    rw [IntKind.wrap_u8']
  omega

theorem ow_rd {w : World} {base g n cap : Nat} {xs : List Int} (h : Ow w base (.slice (some ⟨g, 0, none⟩) n cap) xs) (hn : n = xs.length) (hr : ∀ x ∈ xs, 0 ≤ x ∧ x ≤ 255) : Rd w (some ⟨g, 0, none⟩) n xs := by
  subst hn
  exact ⟨rfl, fun i hi => ⟨g, 0, rfl, by rw [Nat.zero_add]; exact (ow_at h rfl i hi).1⟩, hr⟩

/-- A text in an older block stays as it was while a younger row is written. -/
theorem Rd.at_row {w w' : World} {n base b o : Nat} {v : Value} {xs ys : List Int} (h : Rd w (some ⟨b, o, none⟩) n xs) (ho : Ow w base v ys) (hg : w.grownBy w' v.ownBlock) (hb : b < base) : Rd w' (some ⟨b, o, none⟩) n xs :=
  ⟨h.len, fun i hi => by
    obtain ⟨b', o', e, hc⟩ := h.cell i hi
    simp only [Option.some.injEq, Addr.mk.injEq, and_true] at e
    obtain ⟨rfl, rfl⟩ := e
    exact ⟨b, o, rfl, hg.cell hc (fun e => by have := (ho.lt b e.symm).1; omega)⟩, h.rng⟩

set_option maxHeartbeats 8000000 in
theorem spoil_some (B g : Nat) (a0 : Option Addr) (n cap0 : Nat) (xs : List Int) (w : World) (hd0 : Rd w a0 n xs) (hxl : n ≤ 30) (hpos : 0 < n) (hc : Cur w B g) (hgs : g < w.heap.size) :
    Calls Try.prog 21 #[.pointer (some ⟨g, 0, none⟩), .slice a0 n cap0] w (SpoilPost w B g) := by
  have hE : ∀ w : World, ∀ o, Ext w (w.alloc o) := fun w o => World.grownBy_alloc _ _ _
  have hxr := hd0.rng
  have hln := hd0.len
  have hnz : ((n : Int) == 0) = false := by simp; omega
  go_enter Try.func21, Try.ntmps21
  go_wp2_with (first | (at_builtin; refine wpList_append_bytes _ rfl (.tmp 7) (.tmp 8) 22 rfl w.heap.size info5 Try.underlying22 _ [] rfl (ow_empty w) a0 n cap0 xs rfl (hd0.grown (hE _ _)) (by simp; omega) (by simp) ?_; intro v1 w1 ho1 hg1; simp only [List.nil_append] at ho1; obtain ⟨g1, cap1, rfl, hgb, hgw, hlc, hcm⟩ := ow_pos ho1 (by omega); rw [hln]) | fail)
  have hc1 : Cur w1 B g := (hc.ext (hE _ _)).row (ow_empty w) hgs hg1
  have hg1' : w.grownBy w1 (some g) := grown_own (ext_row (hE _ _) _) (ow_empty w) hg1
  rw [hln] at ho1
  clear hg1
  go_wp2_with fail
  refine (belowC B g n w1 hc1 (by omega)).mono ?_
  rintro e w2 ⟨i, hi0, hi1, hi2, rfl, hc2, hg2⟩
  have hi3 := hi1 (by omega)
  clear hi1 hi2
  obtain ⟨i, rfl⟩ := Int.eq_ofNat_of_zero_le hi0
  have hin : i < n := by omega
  have ho2 : Ow w2 w.heap.size _ xs := ho1.row hg2 hgs
  have hg2' := grown_tr hg1' hg2
  clear hg1' hg2 hc1
  go_wp2_with fail
  refine (belowC B g 5 w2 hc2 (by omega)).mono ?_
  rintro e w3 ⟨r, hr0, hr1, hr2, rfl, hc3, hg3⟩
  have hr3 := hr1 (by omega)
  clear hr1 hr2
  have ho3 : Ow w3 w.heap.size _ xs := ho2.row hg3 hgs
  have hg3' := grown_tr hg2' hg3
  have hs3 := hg3'.size
  clear hg2' hg3 hc2 ho2 ho1 hc
  have hic : (i : Int) ≤ (cap1 : Int) := by omega
  rcases (show r = 0 ∨ r = 1 ∨ r = 2 ∨ r = 3 ∨ r = 4 by omega) with rfl | rfl | rfl | rfl | rfl
  · go_wp2
    go_ret
    exact ⟨_, xs.take i, rfl, by simp; omega, take_rng hxr i, ow_cut ho3 i (by omega), hc3, hg3'⟩
  · go_wp2_with fail
    refine (byteC B g w3 hc3).mono ?_
    rintro e w4 ⟨x, hx0, hx1, rfl, hc4, hg4⟩
    have ho4 : Ow w4 w.heap.size _ xs := ho3.row hg4 hgs
    have hg5 := grown_tr hg3' hg4
    have hs5 := hg5.size
    go_wp2_with (at_builtin; refine wpList_append_bytes _ rfl (.tmp 43) (.tmp 47) 22 rfl w.heap.size info5 Try.underlying22 _ xs rfl (ho4.alloc _) (some ⟨w4.heap.size, 0, none⟩) 1 1 [x] rfl (rd_one w4 x hx0 hx1) (by omega) (by simp; omega) ?_; intro v6 w6 ho6 hg6)
    go_ret
    exact ⟨_, xs ++ [x], rfl, by simp; omega, snoc_rng hxr hx0 hx1, ho6, (hc4.ext (hE _ _)).row (ho4.alloc _) hgs hg6, grown_own (grown_tr hg5 (ext_row (hE _ _) _)) (ho4.alloc _) hg6⟩
  · go_wp2_with fail
    refine (byteC B g w3 hc3).mono ?_
    rintro e w4 ⟨x, hx0, hx1, rfl, hc4, hg4⟩
    have ho4 : Ow w4 w.heap.size _ xs := ho3.row hg4 hgs
    have hg5 := grown_tr hg3' hg4
    obtain ⟨hu, hf⟩ := ow_at ho4 hln.symm i hin
    have R := ow_store ho4 hln.symm i x
    have HR : Hid (Ow (w4.setCell ⟨g1, i, none⟩ (.int .u8 x)) w.heap.size (.slice (some ⟨g1, 0, none⟩) n cap1) (xs.set i x)) := R.1
    have HG : Hid (w4.grownBy (w4.setCell ⟨g1, i, none⟩ (.int .u8 x)) (some g1)) := R.2
    clear R
    go_wp2
    go_ret
    exact ⟨_, xs.set i x, rfl, by simp; omega, set_rng hxr i x hx0 hx1, HR.out, hc4.at (by omega) HG.out, grown_at hg5 hgb HG.out⟩
  · have hoe : Ow (w3.alloc (.cells #[] 5)).drew w3.heap.size (.slice (some ⟨w3.heap.size, 0, none⟩) 0 0) [] := ow_empty w3
    have hrd := ow_rd ho3 hln.symm hxr
    have hrt : Rd (w3.alloc (.cells #[] 5)).drew (some ⟨g1, 0, none⟩) i (xs.take i) := (rd_head hrd i (by omega)).grown ((hE _ _).tr (ext_drewN _ 1))
    have hgw3 : g1 < w3.heap.size := (ho3.lt g1 rfl).2
    have hin1 : ((i : Int) + 1) ≤ (n : Int) := by omega
    have hin2 : 0 ≤ (i : Int) + 1 := by omega
    have hwr : IntKind.i64.wrap ((i : Int) + 1) = (i : Int) + 1 := by rw [IntKind.wrap_i64]; omega
    have htn : ((i : Int) + 1).toNat = i + 1 := by omega
    by_cases hct : cap1 = i + 1
    · have hrs : Rd w3 (some ⟨g1, 0, none⟩) (n - (i + 1)) (xs.drop (i + 1)) := by
        have e : n - (i + 1) = 0 := by omega
        rw [e, List.drop_of_length_le (by omega)]
        exact Rd.nil _ _
      subst hct
      have hii : (i : Int) ≤ (i : Int) + 1 := by omega
      go_wp2
      go_region_law (first | (refine step_append_bytes rfl (.tmp 59) (.tmp 62) 22 rfl w3.heap.size info5 Try.underlying22 (.slice (some ⟨w3.heap.size, 0, none⟩) 0 0) [] (by first | rfl | simp [Act.eval, Act.put]) hoe (some ⟨g1, 0, none⟩) i (i + 1) (xs.take i) (by first | rfl | simp [Act.eval, Act.put]) hrt (by simp; omega) (by simp) ?_; intro v4 w4 ho4 hg4) | (refine step_append_bytes rfl (.tmp 63) (.tmp 67) 22 rfl w3.heap.size info5 Try.underlying22 v4 (xs.take i) (by first | rfl | simp [Act.eval, Act.put]) (by simpa using ho4) (some ⟨g1, 0, none⟩) (n - (i + 1)) _ (xs.drop (i + 1)) (by first | rfl | simp [Act.eval, Act.put]) ((hrs.grown ((hE _ _).tr (ext_drewN _ 1))).at_row hoe hg4 (by omega)) (by simp; omega) (by have := hg4.size; simp at this; omega) ?_; intro v5 w5 ho5 hg5))
      all_goals
        go_wp2
        go_ret
        have hE2 : Ext w3 (w3.alloc (.cells #[] 5)).drew := (hE _ _).tr (ext_drewN _ 1)
        have hc4 : Cur w4 B g := (hc3.ext hE2).row hoe (by omega) hg4
        have hg4' : w.grownBy w4 (some g) := grown_own (grown_tr hg3' (ext_row hE2 _)) (ow_base hoe hs3) hg4
        have ho4' : Ow w4 w3.heap.size v4 (xs.take i) := by simpa using ho4
        have hrng2 : ∀ y ∈ xs.take i ++ xs.drop (i + 1), 0 ≤ y ∧ y ≤ 255 := app_rng (take_rng hxr i) (fun y hy => hxr y (List.mem_of_mem_drop hy))
        exact ⟨_, xs.take i ++ xs.drop (i + 1), rfl, by simp; omega, hrng2, ow_base ho5 hs3, hc4.row ho4' (by omega) hg5, grown_own hg4' (ow_base ho4' hs3) hg5⟩
    · have hrs : Rd w3 (some ⟨g1, 0 + (i + 1), none⟩) (n - (i + 1)) ((xs.drop (i + 1)).take (n - (i + 1))) := rd_sub hrd (i + 1) (n - (i + 1)) (by omega)
      rw [List.take_of_length_le (by simp; omega), Nat.zero_add] at hrs
      go_wp2
      go_region_law (first | (refine step_append_bytes rfl (.tmp 59) (.tmp 62) 22 rfl w3.heap.size info5 Try.underlying22 (.slice (some ⟨w3.heap.size, 0, none⟩) 0 0) [] (by first | rfl | simp [Act.eval, Act.put]) hoe (some ⟨g1, 0, none⟩) i cap1 (xs.take i) (by first | rfl | simp [Act.eval, Act.put]) hrt (by simp; omega) (by simp) ?_; intro v4 w4 ho4 hg4) | (refine step_append_bytes rfl (.tmp 63) (.tmp 67) 22 rfl w3.heap.size info5 Try.underlying22 v4 (xs.take i) (by first | rfl | simp [Act.eval, Act.put]) (by simpa using ho4) (some ⟨g1, i + 1, none⟩) (n - (i + 1)) (cap1 - (i + 1)) (xs.drop (i + 1)) (by first | rfl | simp [Act.eval, Act.put]) ((hrs.grown ((hE _ _).tr (ext_drewN _ 1))).at_row hoe hg4 (by omega)) (by simp; omega) (by have := hg4.size; simp at this; omega) ?_; intro v5 w5 ho5 hg5))
      all_goals
        go_wp2
        go_ret
        have hE2 : Ext w3 (w3.alloc (.cells #[] 5)).drew := (hE _ _).tr (ext_drewN _ 1)
        have hc4 : Cur w4 B g := (hc3.ext hE2).row hoe (by omega) hg4
        have hg4' : w.grownBy w4 (some g) := grown_own (grown_tr hg3' (ext_row hE2 _)) (ow_base hoe hs3) hg4
        have ho4' : Ow w4 w3.heap.size v4 (xs.take i) := by simpa using ho4
        have hrng2 : ∀ y ∈ xs.take i ++ xs.drop (i + 1), 0 ≤ y ∧ y ≤ 255 := app_rng (take_rng hxr i) (fun y hy => hxr y (List.mem_of_mem_drop hy))
        exact ⟨_, xs.take i ++ xs.drop (i + 1), rfl, by simp; omega, hrng2, ow_base ho5 hs3, hc4.row ho4' (by omega) hg5, grown_own hg4' (ow_base ho4' hs3) hg5⟩
  · obtain ⟨hu, hf⟩ := ow_at ho3 hln.symm i hin
    have hgne : some g1 ≠ some g := by simp; omega
    generalize xs.getD i 0 = c at hu
    go_wp2
    go_region_with (go_at_call 18; refine (belowC B g 8 _ ?_ (by omega)).mono ?_; exact hc3.ext (ext_drewN w3 1); rintro e w4 ⟨r, hr0, hr1, hr2, rfl, hc4, hg4⟩; have hr3 := hr1 (by omega); clear hr1 hr2; have hu4 : w4.cell? ⟨g1, i, none⟩ = some (.int .u8 c) := hg4.cell (by exact hu) hgne; have hf4 : w4.frozen? ⟨g1, i, none⟩ = false := (World.frozen?_of_block (hg4.block g1 (by exact (ho3.lt g1 rfl).2) hgne)).trans hf)
    all_goals
      have hz := xor_rng c (IntKind.u8.wrap (2 ^ r.toNat))
      generalize bits .xor .u8 c (IntKind.u8.wrap (2 ^ r.toNat)) = z at hz ⊢
      have ho4 : Ow w4 w.heap.size (.slice (some ⟨g1, 0, none⟩) n cap1) xs := Ow.row (Ow.ext ho3 (ext_drewN w3 1)) hg4 hgs
      have R := ow_store ho4 hln.symm i z
      have HR : Hid (Ow (w4.setCell ⟨g1, i, none⟩ (.int .u8 z)) w.heap.size (.slice (some ⟨g1, 0, none⟩) n cap1) (xs.set i z)) := R.1
      have HG : Hid (w4.grownBy (w4.setCell ⟨g1, i, none⟩ (.int .u8 z)) (some g1)) := R.2
      have hg5 : w.grownBy w4 (some g) := grown_tr hg3' (grown_tr (ext_row (ext_drewN w3 1) _) hg4)
      clear R hg4
      go_wp2
      go_ret
      exact ⟨_, xs.set i z, rfl, by simp; omega, set_rng hxr i z hz.1 hz.2, HR.out, hc4.at (by omega) HG.out, grown_at hg5 hgb HG.out⟩

end Go.Proofs.Ytbkifmbkmjjbnab
