
/- The specification's MemberOk, Beats, l10find. -/
import Derived.Test.YtmodliaieienfaaMd
namespace Go.Proofs.Ytmodliaieienfaa
open Go.RowKit

set_option maxHeartbeats 2000000 in
theorem sMemberOkV (m : DMem) (w : World) :
    Calls Try.prog 17 #[.agg #[.int .i64 m.id, .int .i64 m.st, .int .i64 m.life]] w fun e w' => e = .returned (.bool (memB m)) ∧ Below w.heap.size w w' := by
  have hB : ∀ w : World, ∀ o, Below w.heap.size w (w.alloc o) := fun w o => (Below.refl _ w).alloc (Nat.le_refl _) _
  have HM : Hid (memB m = (decide (0 ≤ m.id) && decide (m.id < 12) && decide (0 ≤ m.st) && decide (m.st ≤ 3) && decide (0 ≤ m.life) && decide (m.life ≤ 1000))) := rfl
  generalize memB m = mb at HM ⊢
  obtain ⟨i, s, l⟩ := m
  simp only at HM ⊢
  go_enter Try.func17, Try.ntmps17
  cases h1 : decide (0 ≤ i)
  · have HK : Hid (mb = false) := by show _ = _; rw [HM.out, h1]; simp
    go_wp2
    go_ret
    exact ⟨by rw [HK.out]; rfl, hB _ _⟩
  cases h2 : decide (i < 12)
  · have HK : Hid (mb = false) := by show _ = _; rw [HM.out, h2]; simp
    go_wp2
    go_ret
    exact ⟨by rw [HK.out]; rfl, hB _ _⟩
  cases h3 : decide (0 ≤ s)
  · have HK : Hid (mb = false) := by show _ = _; rw [HM.out, h3]; simp
    go_wp2
    go_ret
    exact ⟨by rw [HK.out]; rfl, hB _ _⟩
  cases h4 : decide (s ≤ 3)
  · have HK : Hid (mb = false) := by show _ = _; rw [HM.out, h4]; simp
    go_wp2
    go_ret
    exact ⟨by rw [HK.out]; rfl, hB _ _⟩
  cases h5 : decide (0 ≤ l)
  · have HK : Hid (mb = false) := by show _ = _; rw [HM.out, h5]; simp
    go_wp2
    go_ret
    exact ⟨by rw [HK.out]; rfl, hB _ _⟩
  have HK : Hid (mb = decide (l ≤ 1000)) := by show _ = _; rw [HM.out, h1, h2, h3, h4, h5]; simp
  generalize hd : decide (l ≤ 1000) = d6 at HK
  go_wp2
  go_ret
  exact ⟨by rw [HK.out]; rfl, hB _ _⟩

set_option maxHeartbeats 2000000 in
theorem sFindV (v : Value) (T : DTab) (id : Int) (w : World) (h : VTab w v T) (hn : T.mems.length ≤ 1048576) :
    Calls Try.prog 18 #[v, .int .i64 id] w fun e w' => e = .returned (.int .i64 (placeM T.mems id)) ∧ Below w.heap.size w w' := by
  have hE : ∀ w : World, ∀ o, Ext w (w.alloc o) := fun w o => World.grownBy_alloc _ _ _
  have hB : ∀ w : World, ∀ o, Below w.heap.size w (w.alloc o) := fun w o => (Below.refl _ w).alloc (Nat.le_refl _) _
  obtain ⟨tv, rfl, h⟩ := h
  obtain ⟨a, cap, rfl⟩ := h.shape
  obtain ⟨n, hnn⟩ : ∃ n, n = T.mems.length := ⟨_, rfl⟩
  have HV : Hid (VMem w (.slice a T.mems.length cap) T.mems) := h
  have HN : Hid (n = T.mems.length) := hnn
  rw [← hnn] at HV hn ⊢
  clear h hnn
  have hml2 : (n : Int) ≤ 1048576 := by omega
  go_enter Try.func18, Try.ntmps18
  go_wp2
  go_loopw [5] (fun i wr => ∃ k : Nat, k ≤ n ∧ i = .int .i64 k ∧ wr = w.alloc (.cells #[.int .i64 T.self, .slice a n cap] 28 (0, 0)) ∧ Hid (∀ (j : Nat) (u : DMem), j < k → T.mems[j]? = some u → u.id ≠ id)) (fun i _ => n - (intOf i).toNat)
  case atStart => exact ⟨0, Nat.zero_le _, rfl, rfl, fun j u hj => absurd hj (by omega)⟩
  case round =>
    obtain ⟨k, hk, rfl, rfl, hall⟩ := hrel
    by_cases hlt : k < n
    · obtain ⟨s, hs⟩ : ∃ s, T.mems[k]? = some s := ⟨_, List.getElem?_eq_getElem (by have := HN.out; omega)⟩
      obtain ⟨b, o, rfl, c0, c1, c2⟩ := HV.out.at (hE w (.cells #[.int .i64 T.self, .slice a n cap] 28 (0, 0))) hs
      have hlt' : (k : Int) < (n : Int) := by omega
      clear c1 c2
      by_cases e : s.id = id
      · have HR : Hid (placeM T.mems id = k) := placeM_some hs e hall.out
        subst e
        go_wp2
        go_ret
        exact ⟨by rw [HR.out]; rfl, hB _ _⟩
      · have e' : (s.id == id) = false := by simpa using e
        have HA : Hid (∀ (j : Nat) (u : DMem), j < k + 1 → T.mems[j]? = some u → u.id ≠ id) := fun j u hj hu => by
          by_cases ej : j = k
          · subst ej
            rw [hs] at hu
            cases hu
            exact e
          · exact hall.out j u (by omega) hu
        go_wp2
        go_roundw
        case rel => exact ⟨k + 1, by omega, by go_num, (by first | rfl | trivial), HA⟩
        case measure => simp [intOf]; omega
    · have hkn : k = n := by omega
      subst hkn
      have HR : Hid (placeM T.mems id = -1) := placeM_none (fun i t ht => hall.out i t (by have := (List.getElem?_eq_some_iff.1 ht).1; have := HN.out; omega) ht)
      go_wp2
      go_ret
      exact ⟨by rw [HR.out]; rfl, hB _ _⟩

end Go.Proofs.Ytmodliaieienfaa
