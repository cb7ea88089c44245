
/- The program's CheckOk. -/
import Derived.Test.YtollbjbgncjkoaaCk3
import Derived.Test.YtollbjbgncjkoaaIKey
import Derived.Test.YtollbjbgncjkoaaWi
namespace Go.Proofs.Ytollbjbgncjkoaa
open Go.RowKit

theorem chkB_in (os : List Int) (t m s a f : Int) : chkB ⟨os, t, m, s, a, f⟩ = (keyB os && (inB t 0 1000 && (inB a 0 1000 && (inB m 1 5 && (inB s 0 2 && (inB f 0 m && ((decide (s = 2) || !(decide (0 < t) && decide (t ≤ a))) && (!decide (s = 0) || decide (f = 0))))))))) := by
  unfold chkB inB
  generalize keyB os = kb
  rw [Bool.eq_iff_iff]
  simp only [Bool.and_eq_true, Bool.or_eq_true, Bool.not_eq_true', Bool.and_eq_false_iff, decide_eq_true_eq, decide_eq_false_iff_not, Bool.not_eq_false']
  cases kb
  · simp
  · simp only [true_and]
    omega

set_option maxRecDepth 20000 in
set_option maxHeartbeats 4000000 in
theorem iCheckOkV (v : Value) (C : DChk) (w : World) (h : VChk w v C) :
    Calls Try.prog 42 #[v] w fun e w' => e = .returned (.bool (chkB C)) ∧ Below w.heap.size w w' := by
  have hE : ∀ w : World, ∀ o, Ext w (w.alloc o) := fun w o => World.grownBy_alloc _ _ _
  have hB : ∀ w : World, ∀ o, Below w.heap.size w (w.alloc o) := fun w o => (Below.refl _ w).alloc (Nat.le_refl _) _
  obtain ⟨ov, rfl, ho⟩ := h
  obtain ⟨os, t, m, s, a, f⟩ := C
  have HM : Hid (chkB ⟨os, t, m, s, a, f⟩ = (keyB os && (inB t 0 1000 && (inB a 0 1000 && (inB m 1 5 && (inB s 0 2 && (inB f 0 m && ((decide (s = 2) || !(decide (0 < t) && decide (t ≤ a))) && (!decide (s = 0) || decide (f = 0)))))))))) := chkB_in _ _ _ _ _ _
  generalize chkB ⟨os, t, m, s, a, f⟩ = mb at HM ⊢
  simp only at ho ⊢
  go_enter Try.func42, Try.ntmps42
  cases h0 : keyB os
  · have HK : Hid (mb = false) := by show _ = _; rw [HM.out, h0]; simp
    clear HM
    go_wp2_with (first | (go_at_call 47; refine (keyOkV ov os _ (ho.ext (hE _ _))).mono ?_; rintro e w1 ⟨rfl, rfl⟩; rw [h0]) | (go_at_call 52; refine (withinV _ _ _ _).mono ?_; rintro e w1 ⟨rfl, rfl⟩; first | skip))
    go_ret
    exact ⟨by rw [HK.out]; rfl, hB _ _⟩
  cases h1 : inB t 0 1000
  · have HK : Hid (mb = false) := by show _ = _; rw [HM.out, h0, h1]; simp
    clear HM
    go_wp2_with (first | (go_at_call 47; refine (keyOkV ov os _ (ho.ext (hE _ _))).mono ?_; rintro e w1 ⟨rfl, rfl⟩; rw [h0]) | (go_at_call 52; refine (withinV _ _ _ _).mono ?_; rintro e w1 ⟨rfl, rfl⟩; first | rw [h1]))
    go_ret
    exact ⟨by rw [HK.out]; rfl, hB _ _⟩
  cases h2 : inB a 0 1000
  · have HK : Hid (mb = false) := by show _ = _; rw [HM.out, h0, h1, h2]; simp
    clear HM
    go_wp2_with (first | (go_at_call 47; refine (keyOkV ov os _ (ho.ext (hE _ _))).mono ?_; rintro e w1 ⟨rfl, rfl⟩; rw [h0]) | (go_at_call 52; refine (withinV _ _ _ _).mono ?_; rintro e w1 ⟨rfl, rfl⟩; first | rw [h1] | rw [h2]))
    go_ret
    exact ⟨by rw [HK.out]; rfl, hB _ _⟩
  cases h3 : inB m 1 5
  · have HK : Hid (mb = false) := by show _ = _; rw [HM.out, h0, h1, h2, h3]; simp
    clear HM
    go_wp2_with (first | (go_at_call 47; refine (keyOkV ov os _ (ho.ext (hE _ _))).mono ?_; rintro e w1 ⟨rfl, rfl⟩; rw [h0]) | (go_at_call 52; refine (withinV _ _ _ _).mono ?_; rintro e w1 ⟨rfl, rfl⟩; first | rw [h1] | rw [h2] | rw [h3]))
    go_ret
    exact ⟨by rw [HK.out]; rfl, hB _ _⟩
  cases h4 : inB s 0 2
  · have HK : Hid (mb = false) := by show _ = _; rw [HM.out, h0, h1, h2, h3, h4]; simp
    clear HM
    go_wp2_with (first | (go_at_call 47; refine (keyOkV ov os _ (ho.ext (hE _ _))).mono ?_; rintro e w1 ⟨rfl, rfl⟩; rw [h0]) | (go_at_call 52; refine (withinV _ _ _ _).mono ?_; rintro e w1 ⟨rfl, rfl⟩; first | rw [h1] | rw [h2] | rw [h3] | rw [h4]))
    go_ret
    exact ⟨by rw [HK.out]; rfl, hB _ _⟩
  cases h5 : inB f 0 m
  · have HK : Hid (mb = false) := by show _ = _; rw [HM.out, h0, h1, h2, h3, h4, h5]; simp
    clear HM
    go_wp2_with (first | (go_at_call 47; refine (keyOkV ov os _ (ho.ext (hE _ _))).mono ?_; rintro e w1 ⟨rfl, rfl⟩; rw [h0]) | (go_at_call 52; refine (withinV _ _ _ _).mono ?_; rintro e w1 ⟨rfl, rfl⟩; first | rw [h1] | rw [h2] | rw [h3] | rw [h4] | rw [h5]))
    go_ret
    exact ⟨by rw [HK.out]; rfl, hB _ _⟩
  have HK : Hid (mb = ((decide (s = 2) || !(decide (0 < t) && decide (t ≤ a))) && (!decide (s = 0) || decide (f = 0)))) := by show _ = _; rw [HM.out, h0, h1, h2, h3, h4, h5]; simp
  clear HM
  by_cases e2 : s = 2
  · subst e2
    have HK2 : Hid (mb = true) := by show _ = _; rw [HK.out]; simp
    clear HK
    go_wp2_with (first | (go_at_call 47; refine (keyOkV ov os _ (ho.ext (hE _ _))).mono ?_; rintro e w1 ⟨rfl, rfl⟩; rw [h0]) | (go_at_call 52; refine (withinV _ _ _ _).mono ?_; rintro e w1 ⟨rfl, rfl⟩; first | rw [h1] | rw [h2] | rw [h3] | rw [h4] | rw [h5]))
    go_ret
    exact ⟨by rw [HK2.out]; rfl, hB _ _⟩
  have HOV : Hid (∀ b : Bool, b = (decide (0 < t) && decide (t ≤ a)) → mb = (!b && (!decide (s = 0) || decide (f = 0)))) := fun b hb => by rw [HK.out, hb, decide_eq_false e2]; simp
  clear HK
  obtain ⟨b, hb⟩ : ∃ b, (decide (0 < t) && decide (t ≤ a)) = b := ⟨_, rfl⟩
  have HK := hideR (HOV.out b hb.symm)
  have hb2 : (@decide (0 < (⟨os, t, m, s, a, f⟩ : DChk).ttl) _ && @decide ((⟨os, t, m, s, a, f⟩ : DChk).ttl ≤ (⟨os, t, m, s, a, f⟩ : DChk).age) _) = b := hb
  have e2q : (s == 2) = false := by simpa using e2
  clear HOV hb
  cases b
  · by_cases e0 : s = 0
    · have ss0 : (s != 0) = false := by simp [e0]
      by_cases f0 : f = 0
      · have HK2 : Hid (mb = true) := by show _ = _; rw [HK.out]; simp [f0]
        have ff0 : (f == 0) = true := by simpa using f0
        clear HK e0 f0
        go_wp2_with (first | (go_at_call 47; refine (keyOkV ov os _ (ho.ext (hE _ _))).mono ?_; rintro e w1 ⟨rfl, rfl⟩; rw [h0]) | (go_at_call 52; refine (withinV _ _ _ _).mono ?_; rintro e w1 ⟨rfl, rfl⟩; first | rw [h1] | rw [h2] | rw [h3] | rw [h4] | rw [h5]) | (go_at_call 53; refine (isOverV _ ⟨os, t, m, s, a, f⟩ _ ⟨_, rfl, ho.ext (hE _ _)⟩).mono ?_; rintro e w2 ⟨rfl, b2⟩; rw [hb2]; obtain ⟨p0, p1, p2, p3, p4, p5⟩ := cells6 (ext_blk (ext_below b2) (heap_alloc_new w _))))
        go_ret
        exact ⟨by rw [HK2.out]; rfl, (hB w _).trans (b2.mono (by simp))⟩
      · have HK2 : Hid (mb = false) := by show _ = _; rw [HK.out]; simp [e0, f0]
        clear HK e0
        have ff0 : (f == 0) = false := by simpa using f0
        go_wp2_with (first | (go_at_call 47; refine (keyOkV ov os _ (ho.ext (hE _ _))).mono ?_; rintro e w1 ⟨rfl, rfl⟩; rw [h0]) | (go_at_call 52; refine (withinV _ _ _ _).mono ?_; rintro e w1 ⟨rfl, rfl⟩; first | rw [h1] | rw [h2] | rw [h3] | rw [h4] | rw [h5]) | (go_at_call 53; refine (isOverV _ ⟨os, t, m, s, a, f⟩ _ ⟨_, rfl, ho.ext (hE _ _)⟩).mono ?_; rintro e w2 ⟨rfl, b2⟩; rw [hb2]; obtain ⟨p0, p1, p2, p3, p4, p5⟩ := cells6 (ext_blk (ext_below b2) (heap_alloc_new w _))))
        go_ret
        exact ⟨by rw [HK2.out]; rfl, (hB w _).trans (b2.mono (by simp))⟩
    · have HK2 : Hid (mb = true) := by show _ = _; rw [HK.out]; simp [e0]
      clear HK
      have ss0 : (s != 0) = true := by simpa using e0
      go_wp2_with (first | (go_at_call 47; refine (keyOkV ov os _ (ho.ext (hE _ _))).mono ?_; rintro e w1 ⟨rfl, rfl⟩; rw [h0]) | (go_at_call 52; refine (withinV _ _ _ _).mono ?_; rintro e w1 ⟨rfl, rfl⟩; first | rw [h1] | rw [h2] | rw [h3] | rw [h4] | rw [h5]) | (go_at_call 53; refine (isOverV _ ⟨os, t, m, s, a, f⟩ _ ⟨_, rfl, ho.ext (hE _ _)⟩).mono ?_; rintro e w2 ⟨rfl, b2⟩; rw [hb2]; obtain ⟨p0, p1, p2, p3, p4, p5⟩ := cells6 (ext_blk (ext_below b2) (heap_alloc_new w _))))
      go_ret
      exact ⟨by rw [HK2.out]; rfl, (hB w _).trans (b2.mono (by simp))⟩
  · have HK2 : Hid (mb = false) := by show _ = _; rw [HK.out]; rfl
    clear HK
    go_wp2_with (first | (go_at_call 47; refine (keyOkV ov os _ (ho.ext (hE _ _))).mono ?_; rintro e w1 ⟨rfl, rfl⟩; rw [h0]) | (go_at_call 52; refine (withinV _ _ _ _).mono ?_; rintro e w1 ⟨rfl, rfl⟩; first | rw [h1] | rw [h2] | rw [h3] | rw [h4] | rw [h5]) | (go_at_call 53; refine (isOverV _ ⟨os, t, m, s, a, f⟩ _ ⟨_, rfl, ho.ext (hE _ _)⟩).mono ?_; rintro e w2 ⟨rfl, b2⟩; rw [hb2]; obtain ⟨p0, p1, p2, p3, p4, p5⟩ := cells6 (ext_blk (ext_below b2) (heap_alloc_new w _))))
    go_ret
    exact ⟨by rw [HK2.out]; rfl, (hB w _).trans (b2.mono (by simp))⟩

end Go.Proofs.Ytollbjbgncjkoaa
