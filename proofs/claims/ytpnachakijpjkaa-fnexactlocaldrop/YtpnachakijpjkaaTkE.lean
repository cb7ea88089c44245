
/- The specification's l13tick at an element of a row. -/
import Derived.Test.YtpnachakijpjkaaOwP
import Derived.Test.YtpnachakijpjkaaOwC
import Derived.Test.YtpnachakijpjkaaCk4
namespace Go.Proofs.Ytpnachakijpjkaa
open Go.RowKit

/-- A check's cells. -/
def elC (nv : Value) (C : DChk) : Nat → Value := fun c => if c = 0 then nv else if c = 1 then .int .i64 C.ttl else if c = 2 then .int .i64 C.most else if c = 3 then .int .i64 C.st else if c = 4 then .int .i64 C.age else .int .i64 C.fails
/-- Element i of the row in block g reads as C, its name's value nv; the others as F. -/
def ElB (g cap m i : Nat) (F : Nat → Nat → Value) (nv : Value) (C : DChk) (w : World) : Prop := (i < m ∧ m ≤ cap) ∧ Blk w g 45 6 cap m (updR F i (elC nv C))
section
variable {g cap m i : Nat} {F : Nat → Nat → Value} {nv : Value} {C : DChk} {w : World}
theorem ElB.cell (h : ElB g cap m i F nv C w) (c : Nat) (hc : c < 6) : w.cell? ⟨g, i * 6 + c, none⟩ = some (elC nv C c) := by
  obtain ⟨cur, h1, _, h3⟩ := h.2
  rw [cell_of_row w g _ cur _ (0, 0) h1]
  have := h3 i h.1.1 c hc
  rw [updR_at] at this
  exact this
theorem ElB.cells (h : ElB g cap m i F nv C w) : w.cell? ⟨g, i * 6, none⟩ = some nv ∧ w.cell? ⟨g, i * 6 + 1, none⟩ = some (.int .i64 C.ttl) ∧ w.cell? ⟨g, i * 6 + 2, none⟩ = some (.int .i64 C.most) ∧ w.cell? ⟨g, i * 6 + 3, none⟩ = some (.int .i64 C.st) ∧ w.cell? ⟨g, i * 6 + 4, none⟩ = some (.int .i64 C.age) ∧ w.cell? ⟨g, i * 6 + 5, none⟩ = some (.int .i64 C.fails) :=
  ⟨h.cell 0 (by omega), h.cell 1 (by omega), h.cell 2 (by omega), h.cell 3 (by omega), h.cell 4 (by omega), h.cell 5 (by omega)⟩
theorem ElB.fz (h : ElB g cap m i F nv C w) : w.frozen? ⟨g, i * 6 + 3, none⟩ = false ∧ w.frozen? ⟨g, i * 6 + 4, none⟩ = false := by
  have hle : (i + 1) * 6 ≤ cap * 6 := Nat.mul_le_mul_right 6 (by have := h.1; omega)
  exact ⟨(blk_cell h.2 (i * 6 + 3) (by omega)).2, (blk_cell h.2 (i * 6 + 4) (by omega)).2⟩
theorem ElB.drew (h : ElB g cap m i F nv C w) (q : Nat) : ElB g cap m i F nv C (w.drewN q) := ⟨h.1, blk_kept h.2 rfl⟩
theorem ElB.st (h : ElB g cap m i F nv C w) (s : Int) : ElB g cap m i F nv ⟨C.name, C.ttl, C.most, s, C.age, C.fails⟩ (w.setCell ⟨g, i * 6 + 3, none⟩ (.int .i64 s)) ∧ w.grownBy (w.setCell ⟨g, i * 6 + 3, none⟩ (.int .i64 s)) (some g) := by
  refine ⟨⟨h.1, blk_congr (blk_put h.2 i 3 (by have := h.1; omega) (by omega) (.int .i64 s)) fun a ha c hc => ?_⟩, set_grown _ _ _ _⟩
  by_cases e : a = i
  · subst e
    obtain rfl | rfl | rfl | rfl | rfl | rfl : c = 0 ∨ c = 1 ∨ c = 2 ∨ c = 3 ∨ c = 4 ∨ c = 5 := by omega
    all_goals simp [updK, updR, elC]
  · simp [updK, updR, e]
theorem ElB.age (h : ElB g cap m i F nv C w) (s : Int) : ElB g cap m i F nv ⟨C.name, C.ttl, C.most, C.st, s, C.fails⟩ (w.setCell ⟨g, i * 6 + 4, none⟩ (.int .i64 s)) ∧ w.grownBy (w.setCell ⟨g, i * 6 + 4, none⟩ (.int .i64 s)) (some g) := by
  refine ⟨⟨h.1, blk_congr (blk_put h.2 i 4 (by have := h.1; omega) (by omega) (.int .i64 s)) fun a ha c hc => ?_⟩, set_grown _ _ _ _⟩
  by_cases e : a = i
  · subst e
    obtain rfl | rfl | rfl | rfl | rfl | rfl : c = 0 ∨ c = 1 ∨ c = 2 ∨ c = 3 ∨ c = 4 ∨ c = 5 := by omega
    all_goals simp [updK, updR, elC]
  · simp [updK, updR, e]
end

set_option maxHeartbeats 2000000 in
theorem sTickEl (g cap m i : Nat) (F : Nat → Nat → Value) (nv : Value) (C : DChk) (n : Int) (w : World) (h : ElB g cap m i F nv C w) (hc : chkB C = true) (h0 : 0 ≤ n) (h1 : n ≤ 9223372036854775807) :
    Calls Try.prog 56 #[.pointer (some ⟨g, i * 6, none⟩), .int .i64 n] w fun e w' => e = .returned (.bool (tickD C n).2) ∧ ElB g cap m i F nv (tickD C n).1 w' ∧ w.grownBy w' (some g) := by
  have hN := chkB_num hc
  clear hc
  obtain ⟨os, t, mo, s, a, f⟩ := C
  simp only at hN
  obtain ⟨n1, n2, n3, n4, n5, n6, n7, n8, n9, n10⟩ := hN
  have HSA := fun x => hideR (h.age x)
  have HSS := fun x y => hideR ((h.age x).1.st y)
  obtain ⟨p0, p1, p2, p3, p4, p5⟩ := h.cells
  have f3 := h.fz.1
  have f4 := h.fz.2
  simp only at p1 p3 p4 HSA HSS
  by_cases e0 : t = 0
  · subst e0
    have HR : tickD ⟨os, 0, mo, s, a, f⟩ n = (⟨os, 0, mo, s, a, f⟩, false) := if_pos rfl
    rw [HR]
    have HB := hideR h
    clear HR h HSA HSS p0 p2 p5
    go_enter Try.func56, Try.ntmps56
    go_wp2
    go_ret
    exact ⟨rfl, HB.out, World.grownBy.refl _ _⟩
  have hA : tickA ⟨os, t, mo, s, a, f⟩ n = if n > 1000 - a then 1000 else a + n := by
    unfold tickA
    simp only
    split <;> omega
  generalize hZ : tickA ⟨os, t, mo, s, a, f⟩ n = z at hA
  have hz : a ≤ z ∧ z ≤ 1000 := by
    rw [hA]
    split <;> omega
  have HR : Hid (tickD ⟨os, t, mo, s, a, f⟩ n = if t ≤ z then (⟨os, t, mo, 2, z, f⟩, s != 2) else (⟨os, t, mo, s, z, f⟩, false)) := by
    show _ = _
    rw [← hZ]
    exact if_neg e0
  clear h hZ HSS
  go_enter Try.func56, Try.ntmps56
  by_cases e1 : n > 1000 - a
  · rw [if_pos e1] at hA
    subst hA
    go_upto_region 6 with fail
    have HUA := (HSA 1000).out
    generalize w.setCell _ (Value.int .i64 1000) = U at HUA ⊢
    obtain ⟨HU, GU⟩ := HUA
    have HUH := hideR HU
    have HSU := fun y q => hideR ((HU.drew q).st y)
    have GUH := hideR GU
    obtain ⟨q0, q1, q2, q3, q4, q5⟩ := HU.cells
    have k3 := HU.fz.1
    clear HU GU HSA p1 p3 p4 f3 f4 q0 q2 q5
    simp only at q1 q3 q4 HSU
    by_cases e2 : s = 2
    · subst e2
      have HRR : Hid (tickD ⟨os, t, mo, 2, a, f⟩ n = (⟨os, t, mo, 2, 1000, f⟩, false)) := by
        show _ = _
        rw [HR.out]
        split <;> rfl
      by_cases e3 : t ≤ 1000
      · go_quiet (fail)
        go_wp2
        go_ret
        rw [HRR.out]
        exact ⟨rfl, HUH.out.drew _, GUH.out.trans (grown_drewN _ _ _)⟩
      · exact absurd n2 e3
    · have hs2 : (s != 2) = true := by simpa using e2
      by_cases e3 : t ≤ 1000
      · have HRR : Hid (tickD ⟨os, t, mo, s, a, f⟩ n = (⟨os, t, mo, 2, 1000, f⟩, true)) := by
          show _ = _
          rw [HR.out, if_pos e3, hs2]
        go_quiet (fail)
        go_wp2
        go_ret
        rw [HRR.out]
        exact ⟨rfl, (HSU _ _).out.1, (GUH.out.trans (grown_drewN _ _ _)).trans (HSU _ _).out.2⟩
      · exact absurd n2 e3
  · rw [if_neg e1] at hA
    subst hA
    have hw : IntKind.wrap .i64 (a + n) = a + n := by rw [IntKind.wrap_i64]; omega
    go_upto_region 6 with fail
    have HUA := (HSA (a + n)).out
    generalize w.setCell _ (Value.int .i64 (a + n)) = U at HUA ⊢
    obtain ⟨HU, GU⟩ := HUA
    have HUH := hideR HU
    have HSU := fun y q => hideR ((HU.drew q).st y)
    have GUH := hideR GU
    obtain ⟨q0, q1, q2, q3, q4, q5⟩ := HU.cells
    have k3 := HU.fz.1
    clear HU GU HSA p1 p3 p4 f3 f4 q0 q2 q5
    simp only at q1 q3 q4 HSU
    by_cases e2 : s = 2
    · subst e2
      have HRR : Hid (tickD ⟨os, t, mo, 2, a, f⟩ n = (⟨os, t, mo, 2, a + n, f⟩, false)) := by
        show _ = _
        rw [HR.out]
        split <;> rfl
      by_cases e3 : t ≤ a + n
      · go_quiet (fail)
        go_wp2
        go_ret
        rw [HRR.out]
        exact ⟨rfl, HUH.out.drew _, GUH.out.trans (grown_drewN _ _ _)⟩
      · go_quiet (fail)
        go_wp2
        go_ret
        rw [HRR.out]
        exact ⟨rfl, HUH.out.drew _, GUH.out.trans (grown_drewN _ _ _)⟩
    · have hs2 : (s != 2) = true := by simpa using e2
      by_cases e3 : t ≤ a + n
      · have HRR : Hid (tickD ⟨os, t, mo, s, a, f⟩ n = (⟨os, t, mo, 2, a + n, f⟩, true)) := by
          show _ = _
          rw [HR.out, if_pos e3, hs2]
        go_quiet (fail)
        go_wp2
        go_ret
        rw [HRR.out]
        exact ⟨rfl, (HSU _ _).out.1, (GUH.out.trans (grown_drewN _ _ _)).trans (HSU _ _).out.2⟩
      · have HRR : Hid (tickD ⟨os, t, mo, s, a, f⟩ n = (⟨os, t, mo, s, a + n, f⟩, false)) := by
          show _ = _
          rw [HR.out, if_neg e3]
        go_quiet (fail)
        go_wp2
        go_ret
        rw [HRR.out]
        exact ⟨rfl, HUH.out.drew _, GUH.out.trans (grown_drewN _ _ _)⟩

end Go.Proofs.Ytpnachakijpjkaa
