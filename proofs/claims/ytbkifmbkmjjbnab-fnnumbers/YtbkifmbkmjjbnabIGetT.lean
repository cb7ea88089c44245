/- The contract of the program's GetText. -/
import Derived.Test.YtbkifmbkmjjbnabIGet
import Derived.Test.YtbkifmbkmjjbnabClone
namespace Go.Proofs.Ytbkifmbkmjjbnab
open Go.RowKit

set_option maxHeartbeats 2000000 in
theorem iGetT (a : Option Addr) (n cap : Nat) (xs : List Int) (t : Int) (w : World) (hr : Rd w a n xs) (hn : n ≤ 2097152) (hcap : n ≤ cap) (hcap2 : cap ≤ 9223372036854775807) (ht1 : t ≤ 9223372036854775807) :
    Calls Try.prog 9 #[.slice a n cap, .int .i64 t] w (GtPost xs t w) := by
  have hl := hr.len
  rcases gt_cases xs t hr.rng with ⟨m, p, hg, hc, hgt, hb1, hb2, hb3, hb4⟩ | ⟨m, p, hg, hm, hp, hpm, hgt⟩
  · have HG : Hid (gn xs t = (m, p)) := hg
    have HT : Hid (gt xs t = ([], -1)) := hgt
    clear hg hgt
    rw [hl] at hc hb2
    rcases hc with hc | ⟨hc0, hc⟩ | ⟨hc0, hc1, hc⟩
    all_goals
      go_enter Try.func9, Try.ntmps9
      go_wp2_with fail
      refine (iGet a n cap xs t w hr hn hcap hcap2 ht1).mono ?_
      rintro e w1 ⟨rfl, rfl⟩
      rw [HG.out, pairV]
      go_wp2
      go_ret2
      refine ⟨_, by rw [HT.out]; rfl, ?_, Below.refl _ _⟩
      rw [HT.out]
      exact World.ownsRow_nil _ _ _ _
  · have HG : Hid (gn xs t = ((m : Int), (p : Int))) := hg
    have HT : Hid (gt xs t = ((xs.drop p).take m, (p : Int) + m)) := hgt
    clear hg hgt
    rw [hl] at hpm
    have hm' : ¬ (20 : Int) < (m : Int) := by omega
    have hp' : ¬ (p : Int) < 0 := by omega
    have hpm' : ¬ (n : Int) - (p : Int) < (m : Int) := by omega
    obtain ⟨b, o, rfl, _, _⟩ := hr.pos (by omega)
    by_cases hct : cap = p
    · have hm0 : m = 0 := by omega
      subst hm0
      subst hct
      have HE : Hid (gt xs t = ([], (cap : Int))) := by have := HT.out; simpa [Hid] using this
      clear HT
      go_enter Try.func9, Try.ntmps9
      go_wp2_with fail
      refine (iGet _ n cap xs t w hr hn hcap hcap2 ht1).mono ?_
      rintro e w1 ⟨rfl, rfl⟩
      rw [HG.out, pairV]
      go_wp2_with (go_at_call 19; refine (clone (some ⟨b, o, none⟩) 0 0 [] w1 (Rd.nil _ _) (by omega)).mono ?_; rintro e w2 ⟨v, rfl, hown, hb⟩)
      go_ret2
      exact ⟨_, by rw [HE.out]; rfl, by rw [HE.out]; exact hown, hb⟩
    · have hrs : Rd w (some ⟨b, o + p, none⟩) m ((xs.drop p).take m) := rd_sub hr p m hpm
      go_enter Try.func9, Try.ntmps9
      go_wp2_with fail
      refine (iGet _ n cap xs t w hr hn hcap hcap2 ht1).mono ?_
      rintro e w1 ⟨rfl, rfl⟩
      rw [HG.out, pairV]
      go_wp2_with (go_at_call 19; refine (clone (some ⟨b, o + p, none⟩) m (cap - p) ((xs.drop p).take m) w1 hrs (by omega)).mono ?_; rintro e w2 ⟨v, rfl, hown, hb⟩)
      go_ret2
      exact ⟨_, by rw [HT.out]; rfl, by rw [HT.out]; exact hown, hb⟩

end Go.Proofs.Ytbkifmbkmjjbnab
