
/- The library's Clone at checks and services. -/
import Derived.Test.YtjkhadaoldbceaaOwC
import Derived.Test.YtjkhadaoldbceaaLo0
import Derived.Lib.SliceRun
namespace Go.Proofs.Ytjkhadaoldbceaa
open Go.RowKit

theorem info_KsC : (Try.prog.info? 43).map (fun i => (i.zero, i.size, i.bytes)) = some (some (.agg #[.slice none 0 0, .int .i64 0, .int .i64 0, .int .i64 0, .int .i64 0, .int .i64 0]), 6, 64) := by kernel_rfl
theorem info_SvC : (Try.prog.info? 54).map (fun i => (i.zero, i.size, i.bytes)) = some (some (.agg #[.slice none 0 0, .slice none 0 0]), 2, 48) := by kernel_rfl
theorem one_rv {w : World} {v : Value} {xs : List Int} (h : RV w v xs) : v.oneCell' = true := by
  obtain ⟨a, c, rfl, _⟩ := h
  rfl
theorem one_chks {w : World} {v : Value} {xs : List DChk} (h : VChks w v xs) : v.oneCell' = true := by
  obtain ⟨C, ⟨a, c, rfl, _⟩, _⟩ := h
  rfl

set_option maxHeartbeats 1000000 in
theorem cloneKs (w0 : World) (v : Value) (xs : List DChk) (w : World) (h : VChks w0 v xs) (hx0 : Ext w0 w) (hn : xs.length ≤ 1048576) :
    Calls Try.prog 72 #[v] w fun e w' => ∃ v' C, e = .returned v' ∧ Row w.heap.size 43 6 w' v' xs.length C ∧ Below w.heap.size w w' ∧ ∀ (i : Nat) d, xs[i]? = some d → RV w0 (C i 0) d.name ∧ C i 1 = .int .i64 d.ttl ∧ C i 2 = .int .i64 d.most ∧ C i 3 = .int .i64 d.st ∧ C i 4 = .int .i64 d.age ∧ C i 5 = .int .i64 d.fails := by
  obtain ⟨C, hS, hC⟩ := h
  have hone : ∀ i, i < xs.length → ∀ j, j < 6 → (C i j).oneCell' = true := fun i hi j hj => by
    have h1 := hC i _ (List.getElem?_eq_getElem hi)
    obtain ⟨e0, e1, e2, e3, e4, e5⟩ := h1
    obtain rfl | rfl | rfl | rfl | rfl | rfl : j = 0 ∨ j = 1 ∨ j = 2 ∨ j = 3 ∨ j = 4 ∨ j = 5 := by omega
    · exact one_rv e0
    · rw [e1]; rfl
    · rw [e2]; rfl
    · rw [e3]; rfl
    · rw [e4]; rfl
    · rw [e5]; rfl
  obtain ⟨a, cap, rfl, h1, h2, h3⟩ := hS
  obtain ⟨n, hnn⟩ : ∃ n, n = xs.length := ⟨_, rfl⟩
  rw [← hnn] at h1 h3 hn hone ⊢
  have hsrc : Src 6 w a n C := (SL.src (⟨a, cap, rfl, h1, h2, h3⟩ : SL w0 6 (.slice a n cap) n C)).2.ext hx0
  have hn1 : (n : Int) ≤ 1048576 := by omega
  have hnl := fun w => Lib.run_eql_slice_nil (P := Try.prog) w 52 43 a n cap 0 0 Try.underlying52
  have HSRC := hidL hsrc
  have HONE := hidL hone
  have HCC := hidL hC
  cases a with
  | none =>
    have h0 : n = 0 := by
      rcases Nat.eq_zero_or_pos n with h' | h'
      · exact h'
      · obtain ⟨b, o, e', _⟩ := h3 h'
        cases e'
    subst h0
    clear hnn h3 hsrc hone hC
    go_enter Try.func72, Try.ntmps72
    go_wp2
    go_ret
    exact ⟨_, C, rfl, Row.nil _ _ _ _ _, Below.refl _ _, HCC.out⟩
  | some ad =>
    clear hnn h3 hsrc hone hC
    have HM : Hid (Row w.heap.size 43 6 (w.alloc (.cells #[] 43)) (.slice (some ⟨w.heap.size, 0, none⟩) 0 0) 0 C) := World.ownsRow_made w #[] 0 (Nat.le_refl _) (Nat.zero_le _) (by simp)
    have HS2 : Hid (Src 6 (w.alloc (.cells #[] 43)) (some ad) n C) := HSRC.out.ext (World.grownBy_alloc _ _ _)
    go_enter Try.func72, Try.ntmps72
    go_wp2_with (at_builtin; refine wpList_rowG info_KsC rfl (by omega) _ rfl (.tmp 5) (.tmp 6) 52 Try.underlying52 rfl w.heap.size _ 0 C rfl HM.out (some ad) n cap C rfl HS2.out HONE.out (fun e => by cases e) (by unfold maxLen; omega) (by omega) (by simp) ?_; intro v1 w1 hown1 hg1 _)
    go_ret
    have hr : Row w.heap.size 43 6 w1 v1 n C := by
      have h5 : Row w.heap.size 43 6 w1 v1 n (joinF 0 C C) := by simpa using hown1
      exact h5.congr fun i hi c hc => by unfold joinF; rw [if_neg (by omega), Nat.sub_zero]
    exact ⟨_, C, rfl, hr, ((Below.refl _ _).alloc (Nat.le_refl _) _).grown hg1 (by simp) (fun k hk => by cases hk; exact Nat.le_refl _), HCC.out⟩

set_option maxHeartbeats 1000000 in
theorem cloneSv (w0 : World) (v : Value) (xs : List DSvc) (w : World) (h : VSvcs w0 v xs) (hx0 : Ext w0 w) (hn : xs.length ≤ 1048576) :
    Calls Try.prog 51 #[v] w fun e w' => ∃ v' C, e = .returned v' ∧ Row w.heap.size 54 2 w' v' xs.length C ∧ Below w.heap.size w w' ∧ ∀ (i : Nat) d, xs[i]? = some d → RV w0 (C i 0) d.name ∧ VChks w0 (C i 1) d.checks := by
  obtain ⟨C, hS, hC⟩ := h
  have hone : ∀ i, i < xs.length → ∀ j, j < 2 → (C i j).oneCell' = true := fun i hi j hj => by
    have h1 := hC i _ (List.getElem?_eq_getElem hi)
    obtain rfl | rfl : j = 0 ∨ j = 1 := by omega
    · exact one_rv h1.1
    · exact one_chks h1.2
  obtain ⟨a, cap, rfl, h1, h2, h3⟩ := hS
  obtain ⟨n, hnn⟩ : ∃ n, n = xs.length := ⟨_, rfl⟩
  rw [← hnn] at h1 h3 hn hone ⊢
  have hsrc : Src 2 w a n C := (SL.src (⟨a, cap, rfl, h1, h2, h3⟩ : SL w0 2 (.slice a n cap) n C)).2.ext hx0
  have hn1 : (n : Int) ≤ 1048576 := by omega
  have hnl := fun w => Lib.run_eql_slice_nil (P := Try.prog) w 27 54 a n cap 0 0 Try.underlying27
  have HSRC := hidL hsrc
  have HONE := hidL hone
  have HCC := hidL hC
  cases a with
  | none =>
    have h0 : n = 0 := by
      rcases Nat.eq_zero_or_pos n with h' | h'
      · exact h'
      · obtain ⟨b, o, e', _⟩ := h3 h'
        cases e'
    subst h0
    clear hnn h3 hsrc hone hC
    go_enter Try.func51, Try.ntmps51
    go_wp2
    go_ret
    exact ⟨_, C, rfl, Row.nil _ _ _ _ _, Below.refl _ _, HCC.out⟩
  | some ad =>
    clear hnn h3 hsrc hone hC
    have HM : Hid (Row w.heap.size 54 2 (w.alloc (.cells #[] 54)) (.slice (some ⟨w.heap.size, 0, none⟩) 0 0) 0 C) := World.ownsRow_made w #[] 0 (Nat.le_refl _) (Nat.zero_le _) (by simp)
    have HS2 : Hid (Src 2 (w.alloc (.cells #[] 54)) (some ad) n C) := HSRC.out.ext (World.grownBy_alloc _ _ _)
    go_enter Try.func51, Try.ntmps51
    go_wp2_with (at_builtin; refine wpList_rowG info_SvC rfl (by omega) _ rfl (.tmp 5) (.tmp 6) 27 Try.underlying27 rfl w.heap.size _ 0 C rfl HM.out (some ad) n cap C rfl HS2.out HONE.out (fun e => by cases e) (by unfold maxLen; omega) (by omega) (by simp) ?_; intro v1 w1 hown1 hg1 _)
    go_ret
    have hr : Row w.heap.size 54 2 w1 v1 n C := by
      have h5 : Row w.heap.size 54 2 w1 v1 n (joinF 0 C C) := by simpa using hown1
      exact h5.congr fun i hi c hc => by unfold joinF; rw [if_neg (by omega), Nat.sub_zero]
    exact ⟨_, C, rfl, hr, ((Below.refl _ _).alloc (Nat.le_refl _) _).grown hg1 (by simp) (fun k hk => by cases hk; exact Nat.le_refl _), HCC.out⟩

end Go.Proofs.Ytjkhadaoldbceaa
