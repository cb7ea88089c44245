/- Contracts of GetText: the specification's and the program's. -/
import Derived.Test.YtbkifmbkmjjbnaiGet2
namespace Go.Proofs.Ytbkifmbkmjjbnai
open Go.RowKit

def GtPost (xs : List Int) (t : Int) (w : World) (e : Ending) (w' : World) : Prop :=
  ∃ v, e = .returned (.tuple #[v, .int .i64 (gt xs t).2]) ∧ Ow w' w.heap.size v (gt xs t).1 ∧ Below w.heap.size w w'

set_option maxHeartbeats 2000000 in
theorem sGetT (a : Option Addr) (n cap : Nat) (xs : List Int) (t : Int) (w : World) (hr : Rd w a n xs) (hn : n ≤ 2097152) (hcap : n ≤ cap) (hcap2 : cap ≤ 9223372036854775807) (ht1 : t ≤ 9223372036854775807) :
    Calls Try.prog 18 #[.slice a n cap, .int .i64 t] w (GtPost xs t w) := by
  have hl := hr.len
  rcases gt_cases xs t hr.rng with ⟨m, p, hg, hc, hgt, hb1, hb2, hb3, hb4⟩ | ⟨m, p, hg, hm, hp, hpm, hgt⟩
  · have HG : Hid (gn xs t = (m, p)) := hg
    have HT : Hid (gt xs t = ([], -1)) := hgt
    clear hg hgt
    rw [hl] at hc hb2
    rcases hc with hc | ⟨hc0, hc⟩ | ⟨hc0, hc1, hc⟩
    all_goals
      go_enter Try.func18, Try.ntmps18
      go_wp2_with fail
      refine (sGet a n cap xs t w hr hn ht1).mono ?_
      rintro e w1 ⟨rfl, rfl⟩
      rw [HG.out, pairV]
      go_wp2
      go_ret2
      refine ⟨_, by rw [HT.out]; rfl, ?_, Below.refl _ _⟩
      rw [HT.out]
      exact World.ownsRow_nil _ _ _ _
  · have HG : Hid (gn xs t = ((m : Int), (p : Int))) := hg
    have HT : Hid (gt xs t = ((xs.drop p).take m, (p : Int) + m)) := hgt
    clear hg hgt
    rw [hl] at hpm
    have hm' : ¬ (20 : Int) < (m : Int) := by omega
    have hp' : ¬ (p : Int) < 0 := by omega
    have hpm' : ¬ (n : Int) - (p : Int) < (m : Int) := by omega
    obtain ⟨b, o, rfl, _, _⟩ := hr.pos (by omega)
    by_cases hct : cap = p
    · have hm0 : m = 0 := by omega
      subst hm0
      subst hct
      have HE : Hid (gt xs t = ([], (cap : Int))) := by have := HT.out; simpa [Hid] using this
      clear HT
      go_enter Try.func18, Try.ntmps18
      go_wp2_with fail
      refine (sGet _ n cap xs t w hr hn ht1).mono ?_
      rintro e w1 ⟨rfl, rfl⟩
      rw [HG.out, pairV]
      go_wp2
      go_ret2
      refine ⟨_, by rw [HE.out]; rfl, ?_, (Below.refl _ _).alloc (Nat.le_refl _) _⟩
      rw [HE.out]
      exact ow_empty w1
    · have hrs : Rd w (some ⟨b, o + p, none⟩) (p + m - p) ((xs.drop p).take m) := by rw [Nat.add_sub_cancel_left]; exact rd_sub hr p m hpm
      go_enter Try.func18, Try.ntmps18
      go_wp2_with fail
      refine (sGet _ n cap xs t w hr hn ht1).mono ?_
      rintro e w1 ⟨rfl, rfl⟩
      rw [HG.out, pairV]
      go_wp2_with (at_builtin; refine wpList_append_bytes _ rfl (.tmp 28) (.tmp 34) 22 rfl w1.heap.size info5 Try.underlying22 _ [] rfl (ow_empty w1) (some ⟨b, o + p, none⟩) (p + m - p) _ ((xs.drop p).take m) rfl (hrs.grown (World.grownBy_alloc _ _ _)) (by simp; omega) (by simp) ?_; intro v1 w2 hown1 hg1)
      go_ret2
      refine ⟨_, by rw [HT.out]; rfl, ?_, ?_⟩
      · rw [HT.out]
        exact hown1
      · exact below_own ((Below.refl _ _).alloc (Nat.le_refl _) _) (by simp) (ow_empty w1) hg1

set_option maxHeartbeats 2000000 in
theorem iGetT (a : Option Addr) (n cap : Nat) (xs : List Int) (t : Int) (w : World) (hr : Rd w a n xs) (hn : n ≤ 2097152) (hcap : n ≤ cap) (hcap2 : cap ≤ 9223372036854775807) (ht1 : t ≤ 9223372036854775807) :
    Calls Try.prog 19 #[.slice a n cap, .int .i64 t] w (GtPost xs t w) := by
  have hl := hr.len
  rcases gt_cases xs t hr.rng with ⟨m, p, hg, hc, hgt, hb1, hb2, hb3, hb4⟩ | ⟨m, p, hg, hm, hp, hpm, hgt⟩
  · have HG : Hid (gn xs t = (m, p)) := hg
    have HT : Hid (gt xs t = ([], -1)) := hgt
    clear hg hgt
    rw [hl] at hc hb2
    rcases hc with hc | ⟨hc0, hc⟩ | ⟨hc0, hc1, hc⟩
    all_goals
      go_enter Try.func19, Try.ntmps19
      go_wp2_with fail
      refine (iGet a n cap xs t w hr hn hcap hcap2 ht1).mono ?_
      rintro e w1 ⟨rfl, rfl⟩
      rw [HG.out, pairV]
      go_wp2
      go_ret2
      refine ⟨_, by rw [HT.out]; rfl, ?_, Below.refl _ _⟩
      rw [HT.out]
      exact World.ownsRow_nil _ _ _ _
  · have HG : Hid (gn xs t = ((m : Int), (p : Int))) := hg
    have HT : Hid (gt xs t = ((xs.drop p).take m, (p : Int) + m)) := hgt
    clear hg hgt
    rw [hl] at hpm
    have hm' : ¬ (20 : Int) < (m : Int) := by omega
    have hp' : ¬ (p : Int) < 0 := by omega
    have hpm' : ¬ (n : Int) - (p : Int) < (m : Int) := by omega
    obtain ⟨b, o, rfl, _, _⟩ := hr.pos (by omega)
    by_cases hct : cap = p
    · have hm0 : m = 0 := by omega
      subst hm0
      subst hct
      have HE : Hid (gt xs t = ([], (cap : Int))) := by have := HT.out; simpa [Hid] using this
      clear HT
      go_enter Try.func19, Try.ntmps19
      go_wp2_with fail
      refine (iGet _ n cap xs t w hr hn hcap hcap2 ht1).mono ?_
      rintro e w1 ⟨rfl, rfl⟩
      rw [HG.out, pairV]
      go_wp2_with (go_at_call 24; refine (clone (some ⟨b, o, none⟩) 0 0 [] w1 (Rd.nil _ _) (by omega)).mono ?_; rintro e w2 ⟨v, rfl, hown, hb⟩)
      go_ret2
      exact ⟨_, by rw [HE.out]; rfl, by rw [HE.out]; exact hown, hb⟩
    · have hrs : Rd w (some ⟨b, o + p, none⟩) m ((xs.drop p).take m) := rd_sub hr p m hpm
      go_enter Try.func19, Try.ntmps19
      go_wp2_with fail
      refine (iGet _ n cap xs t w hr hn hcap hcap2 ht1).mono ?_
      rintro e w1 ⟨rfl, rfl⟩
      rw [HG.out, pairV]
      go_wp2_with (go_at_call 24; refine (clone (some ⟨b, o + p, none⟩) m (cap - p) ((xs.drop p).take m) w1 hrs (by omega)).mono ?_; rintro e w2 ⟨v, rfl, hown, hb⟩)
      go_ret2
      exact ⟨_, by rw [HT.out]; rfl, by rw [HT.out]; exact hown, hb⟩

end Go.Proofs.Ytbkifmbkmjjbnai
