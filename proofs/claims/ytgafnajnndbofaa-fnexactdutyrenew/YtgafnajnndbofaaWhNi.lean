
/- The contracts of WheelNext and WheelLeft. -/
import Derived.Test.YtgafnajnndbofaaWhN0
import Derived.Test.YtgafnajnndbofaaWhI
namespace Go.Proofs.Ytgafnajnndbofaa
open Go.RowKit

set_option maxHeartbeats 2000000 in
theorem iLeftV (v : Value) (D : DWheel) (id : Int) (w : World) (h : VWheel w v D) :
    Calls Try.prog 42 #[v, .int .i64 id] w fun e w' => e = .returned (.tuple #[.int .i64 (leftB (tB (WheelP D)) D id).1, .bool (leftB (tB (WheelP D)) D id).2]) ∧ Below w.heap.size w w' := by
  have hE : ∀ w : World, ∀ o, Ext w (w.alloc o) := fun w o => World.grownBy_alloc _ _ _
  have hB : ∀ w : World, ∀ o, Below w.heap.size w (w.alloc o) := fun w o => (Below.refl _ w).alloc (Nat.le_refl _) _
  have HV0 : Hid (VWheel w v D) := h
  obtain ⟨tv, rfl, h⟩ := h
  have HVT : Hid (VTims w tv D.tms) := h
  obtain ⟨C, ⟨a, cap, rfl, h1, h2, h3⟩, hC⟩ := h
  obtain ⟨n, hn⟩ : ∃ n, n = D.tms.length := ⟨_, rfl⟩
  rw [← hn] at h1 h3 HV0 HVT ⊢
  have HN : Hid (n = D.tms.length) := hn
  unfold maxLen at h2
  obtain ⟨R, hR⟩ : ∃ R, R = leftB (tB (WheelP D)) D id := ⟨_, rfl⟩
  rw [← hR]
  have HR : Hid (R = leftB (tB (WheelP D)) D id) := hR
  clear hR hn
  cases hok : tB (WheelP D) with
  | false =>
    have HOK : Hid (tB (WheelP D) = false) := hok
    have HK : Hid (R = (0, false)) := by rw [HR.out]; unfold leftB; rw [hok]; exact rfl
    clear hok h3 hC
    go_enter Try.func42, Try.ntmps42
    go_wp2_with (go_at_call 21; refine (iWheelOkV _ D _ (HV0.out.ext (hE _ _))).mono ?_; rintro e w1 ⟨rfl, b1⟩; rw [HOK.out])
    go_ret2
    exact ⟨by rw [HK.out]; rfl, (hB w _).trans (b1.mono (by simp))⟩
  | true =>
    have HOK : Hid (tB (WheelP D) = true) := hok
    have HP : Hid (WheelP D) := tB_iff.1 hok
    rcases placeT_cases D.tms id with ⟨hp, _⟩ | ⟨i, s, hs, _, _, hp⟩
    · have HPL : Hid (placeT D.tms id = -1) := hp
      have HK : Hid (R = (0, false)) := by rw [HR.out]; unfold leftB; rw [hok, hp]; exact rfl
      clear hok h3 hC hp
      go_enter Try.func42, Try.ntmps42
      go_wp2_with fail
      generalize hW : w.alloc _ = W
      have y0 : W.cell? ⟨w.heap.size, 0, none⟩ = some (.int .i64 D.now) := by rw [← hW]; exact (at_block (heap_alloc_new w _) 0 _ rfl).1
      have y1 : W.cell? ⟨w.heap.size, 1, none⟩ = some (.slice a n cap) := by rw [← hW]; exact (at_block (heap_alloc_new w _) 1 _ rfl).1
      have BW0 : Below w.heap.size w W := by rw [← hW]; exact hB _ _
      have hs : w.heap.size < W.heap.size := by rw [← hW]; simp
      refine (iWheelOkV _ D _ (HV0.out.ext (ext_below BW0))).mono ?_
      rintro e w1 ⟨rfl, b1⟩
      rw [HOK.out]
      have c0 := (b1.cell (p := ⟨w.heap.size, 0, none⟩) hs).trans y0
      have c1 := (b1.cell (p := ⟨w.heap.size, 1, none⟩) hs).trans y1
      have HB1 : Hid (Below w.heap.size w w1) := BW0.trans (b1.mono BW0.size)
      have hs1 : w.heap.size < w1.heap.size := Nat.lt_of_lt_of_le hs b1.size
      clear y0 y1 hW b1 BW0 hs
      go_wp2_with fail
      refine (placeV _ D.tms id _ (HVT.out.ext (ext_below HB1.out))).mono ?_
      rintro e w2 ⟨rfl, b2⟩
      rw [HPL.out]
      have c0 := (b2.cell (p := ⟨w.heap.size, 0, none⟩) hs1).trans c0
      have c1 := (b2.cell (p := ⟨w.heap.size, 1, none⟩) hs1).trans c1
      have HB1 : Hid (Below w.heap.size w w2) := HB1.out.trans (b2.mono HB1.out.size)
      go_wp2
      go_ret2
      exact ⟨by rw [HK.out]; rfl, HB1.out⟩
    · have HPL : Hid (placeT D.tms id = (i : Int)) := hp
      have hin : i < n := by have := (List.getElem?_eq_some_iff.1 hs).1; have := HN.out; omega
      have HK : Hid (R = (s.due - D.now, true)) := by
        rw [HR.out]; unfold leftB; rw [hok, if_pos rfl, hp, if_neg (by omega), Int.toNat_natCast, hs]; exact rfl
      obtain ⟨b, o, rfl, hbl, hc⟩ := h3 (by omega)
      have e0 := hc i hin 1 (by omega)
      rw [(hC i s hs).2] at e0
      have HE0 : Hid (w.cell? ⟨b, o + i * 2 + 1, none⟩ = some (.int .i64 s.due)) := e0
      obtain ⟨⟨_, _⟩, ⟨_, _⟩, _⟩ := HP.out.2.2 i (by have := HN.out; omega) s hs
      obtain ⟨_, _⟩ := HP.out.1
      have hin' : (i : Int) < n := by omega
      clear hok hc hC hs hp e0
      go_enter Try.func42, Try.ntmps42
      go_wp2_with fail
      generalize hW : w.alloc _ = W
      have y0 : W.cell? ⟨w.heap.size, 0, none⟩ = some (.int .i64 D.now) := by rw [← hW]; exact (at_block (heap_alloc_new w _) 0 _ rfl).1
      have y1 : W.cell? ⟨w.heap.size, 1, none⟩ = some (.slice (some ⟨b, o, none⟩) n cap) := by rw [← hW]; exact (at_block (heap_alloc_new w _) 1 _ rfl).1
      have BW0 : Below w.heap.size w W := by rw [← hW]; exact hB _ _
      have hs : w.heap.size < W.heap.size := by rw [← hW]; simp
      refine (iWheelOkV _ D _ (HV0.out.ext (ext_below BW0))).mono ?_
      rintro e w1 ⟨rfl, b1⟩
      rw [HOK.out]
      have c0 := (b1.cell (p := ⟨w.heap.size, 0, none⟩) hs).trans y0
      have c1 := (b1.cell (p := ⟨w.heap.size, 1, none⟩) hs).trans y1
      have HB1 : Hid (Below w.heap.size w w1) := BW0.trans (b1.mono BW0.size)
      have hs1 : w.heap.size < w1.heap.size := Nat.lt_of_lt_of_le hs b1.size
      clear y0 y1 hW b1 BW0 hs
      go_wp2_with fail
      refine (placeV _ D.tms id _ (HVT.out.ext (ext_below HB1.out))).mono ?_
      rintro e w2 ⟨rfl, b2⟩
      rw [HPL.out]
      have c0 := (b2.cell (p := ⟨w.heap.size, 0, none⟩) hs1).trans c0
      have c1 := (b2.cell (p := ⟨w.heap.size, 1, none⟩) hs1).trans c1
      have HB1 : Hid (Below w.heap.size w w2) := HB1.out.trans (b2.mono HB1.out.size)
      have x0 := World.grownBy.cell (ext_below HB1.out) HE0.out (by simp)
      go_wp2_with fail
      go_quiet (fail)
      go_wp2
      go_ret2
      exact ⟨by rw [HK.out]; rfl, below_drewN HB1.out _⟩

end Go.Proofs.Ytgafnajnndbofaa
