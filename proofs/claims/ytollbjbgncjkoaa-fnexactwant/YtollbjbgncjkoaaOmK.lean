
/- Marks of bytes that a call owns in a row behind whose end a conversion's mark may lie. -/
import Derived.Test.YtollbjbgncjkoaaOm
import Derived.Test.YtollbjbgncjkoaaCmp3
namespace Go.Proofs.Ytollbjbgncjkoaa
open Go.RowKit

theorem m_set {w : World} {base g n cap : Nat} {xs : List Int} (h : OwM w base (.slice (some ⟨g, 0, none⟩) n cap) xs) (j : Nat) (hj : j < xs.length) (x : Int) :
    OwM (w.setCell ⟨g, j, none⟩ (.int .u8 x)) base (.slice (some ⟨g, 0, none⟩) n cap) (xs.set j x) ∧ w.frozen? ⟨g, j, none⟩ = false := by
  rcases h with ⟨e, _⟩ | ⟨g', cap', cur, fz, e, hb, hg, hf, hnc, hcm, hcs, ht⟩
  · cases e
  · simp only [Value.slice.injEq, Option.some.injEq, Addr.mk.injEq, and_true] at e
    obtain ⟨rfl, rfl, rfl⟩ := e
    refine ⟨.inr ⟨g, cap, cur.setIfInBounds j (.int .u8 x), fz, by simp, hb, ?_, by simpa [Free] using hf, by simpa using hnc, hcm, by simpa using hcs, ?_⟩, free_at hg hf (by omega)⟩
    · rw [setCell_eq_setRow w g j cur 5 fz _ hg]
      exact setRow_heap w g cur _ 5 _ hg
    · rw [Array.toList_setIfInBounds, List.length_set, List.take_set, ht, B8, B8, List.map_set]

set_option maxHeartbeats 1000000 in
theorem markMG (base g n cap : Nat) (xs : List Int) (k : Int) (w : World) (hown : OwM w base (.slice (some ⟨g, 0, none⟩) n cap) xs) (hl : xs.length = n) (hn : n ≤ 2097152) (hk0 : 0 ≤ k) (hk : k ≤ 1073741824) :
    Calls Try.prog 26 #[.slice (some ⟨g, 0, none⟩) n cap, .int .i64 k] w fun e w' => e = .returned (.int .i64 (k + n)) ∧
      OwM w' base (.slice (some ⟨g, 0, none⟩) n cap) (marks k n) ∧ w.grownBy w' (some g) := by
  have hms : ∀ j, j < n → (marked xs k j).set j ((k + j) % 256) = marked xs k (j + 1) := fun j hj => by
    have := marked_set xs k j n hl hj
    rw [B8, B8, ← List.map_set] at this
    exact (List.map_inj_right (by intro a b h; cases h; rfl)).1 this
  have HM : Hid (∀ j, j < n → (marked xs k j).set j ((k + j) % 256) = marked xs k (j + 1)) := hms
  have hml : Hid (∀ j, j ≤ n → (marked xs k j).length = n) := fun j hj => by simp [marked, marks_len, hl]; omega
  clear hms
  go_enter Try.func26, Try.ntmps26
  go_wp2
  go_loopw [1, 5] (fun q i wr => ∃ j : Nat, j ≤ n ∧ i = .int .i64 j ∧ q = .int .i64 (k + j) ∧ OwM wr base (.slice (some ⟨g, 0, none⟩) n cap) (marked xs k j) ∧ w.grownBy wr (some g)) (fun _ i _ => n - (intOf i).toNat)
  case atStart => exact ⟨0, Nat.zero_le _, rfl, by go_num, by simpa [marked, marks] using hown, World.grownBy.refl _ _⟩
  case round =>
    obtain ⟨j, hj, rfl, rfl, hown', hg⟩ := hrel
    by_cases hlt : j < n
    · have hjl : j < (marked xs k j).length := by rw [hml.out j hj]; exact hlt
      obtain ⟨R, hf⟩ := m_set hown' j hjl ((k + j) % 256)
      have hu := hown'.cellAt j hjl
      rw [HM.out j hlt] at R
      have HR : Hid (OwM (wr.setCell ⟨g, j, none⟩ (.int .u8 ((k + j) % 256))) base (.slice (some ⟨g, 0, none⟩) n cap) (marked xs k (j + 1))) := R
      have HG : Hid (w.grownBy (wr.setCell ⟨g, j, none⟩ (.int .u8 ((k + j) % 256))) (some g)) :=
        ⟨hg.os, hg.tape, hg.output, by simpa using hg.size, fun i hi he => by
          rw [Below.heap_setCell _ _ _ _ (fun e => he (by simp [e]))]
          exact hg.block i hi he⟩
      clear R
      go_wp2
      go_roundw
      case rel => exact ⟨j + 1, by omega, by go_num, by go_num, HR.out, HG.out⟩
      case measure => simp [intOf]; omega
    · have hjn : j = n := by omega
      subst hjn
      go_wp2
      go_ret
      refine ⟨rfl, ?_, hg⟩
      have e : marked xs k j = marks k j := by simp [marked, List.drop_of_length_le (Nat.le_of_eq hl)]
      rw [← e]
      exact hown'

theorem markM (base : Nat) (v : Value) (xs : List Int) (k : Int) (w : World) (h : OwM w base v xs) (hn : xs.length ≤ 2097152) (hk0 : 0 ≤ k) (hk : k ≤ 1073741824) :
    Calls Try.prog 26 #[v, .int .i64 k] w fun e w' => e = .returned (.int .i64 (k + xs.length)) ∧ OwM w' base v (marks k xs.length) ∧ w.grownBy w' v.ownBlock := by
  have h' := h
  rcases h with ⟨rfl, rfl⟩ | ⟨g, cap, cur, fz, rfl, r⟩
  · refine (markB0 none 0 k w).mono fun e w' ⟨h1, h2⟩ => ?_
    subst h2
    exact ⟨by simpa using h1, h', World.grownBy.refl _ _⟩
  · exact (markMG base g xs.length cap xs k w h' rfl hn hk0 hk).mono fun e w' ⟨h1, h2, h3⟩ => ⟨h1, h2, h3⟩

end Go.Proofs.Ytollbjbgncjkoaa
