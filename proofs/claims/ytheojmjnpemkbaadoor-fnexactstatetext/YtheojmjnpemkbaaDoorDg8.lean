/- The contracts of the specification's l8digits and l8word. -/
import Derived.Test.YtheojmjnpemkbaaDoorDe8
import Derived.Test.YtheojmjnpemkbaaDoorOm
import Derived.Test.YtheojmjnpemkbaaDoorInf
import Derived.Lib.Hide
namespace Go.Proofs.YtheojmjnpemkbaaDoor
open Go.RowKit

abbrev DigSays (u : Nat) : Prop := ∀ w : World, Calls Tryd.prog 44 #[.int .i64 (u : Int)] w fun e w' => ∃ v, e = .returned v ∧ Ow w' w.heap.size v (decL u) ∧ Below w.heap.size w w'

set_option maxHeartbeats 1000000 in
theorem dig_small (u : Nat) (h : u < 10) : DigSays u := by
  intro w
  have HD : Hid (decL u = [48 + (u : Int)]) := decL_lt h
  have h1 : (u : Int) < 10 := by omega
  have h2 : (48 + (u : Int)) % 256 = 48 + (u : Int) := by omega
  go_enter Tryd.func44, Tryd.ntmps44
  go_wp2
  go_ret
  refine ⟨_, rfl, ?_, (Below.refl _ w).alloc (Nat.le_refl _) _⟩
  rw [HD.out]
  exact World.ownsRow_lit w #[_] 1 (Nat.le_refl _) (by decide) rfl

set_option maxHeartbeats 1000000 in
theorem dig_step (u : Nat) (h : ¬ u < 10) (hu : u ≤ 9223372036854775807) (ih : DigSays (u / 10)) : DigSays u := by
  intro w
  have HD : Hid (decL u = decL (u / 10) ++ [48 + ((u % 10 : Nat) : Int)]) := decL_ge h
  have hl := decL_len (u / 10) (by omega)
  obtain ⟨m, hm⟩ : ∃ m, m = u % 10 := ⟨_, rfl⟩
  have h1 : ¬ (u : Int) < 10 := by omega
  have h4 : ((m : Nat) : Int) < 10 := by omega
  have hq : (u : Int).tdiv 10 = ((u / 10 : Nat) : Int) := by
    rw [Int.tdiv_eq_ediv_of_nonneg (by omega)]; omega
  have hr : (u : Int).tmod 10 = ((m : Nat) : Int) := by
    rw [Int.tmod_eq_emod_of_nonneg (by omega)]; omega
  rw [← hm] at HD
  clear hm
  obtain ⟨q, hq2⟩ : ∃ q, q = u / 10 := ⟨_, rfl⟩
  rw [← hq2] at HD hl ih hq
  have h2 : (48 + (m : Int)) % 256 = 48 + (m : Int) := by omega
  have IH : Hid (DigSays q) := ih
  have hqb : (q : Int) ≤ 922337203685477580 := by omega
  clear hq2 ih
  go_enter Tryd.func44, Tryd.ntmps44
  go_wp2_with (first
    | (go_at_call 44; refine (IH.out w).mono ?_; rintro e w1 ⟨v1, rfl, o1, b1⟩)
    | (at_builtin; refine wpList_append_bytes _ rfl _ _ 29 rfl w.heap.size info5 Tryd.underlying29 v1 (decL q) rfl (o1.ext (World.grownBy_alloc _ _ _)) _ 1 1 [48 + (m : Int)] rfl (rd_one w1 _ (by omega) (by omega)) (by omega) (by have := b1.size; simp; omega) ?_; intro v2 w2 o2 g2))
  go_ret
  refine ⟨v2, rfl, by rw [HD.out]; exact o2, ?_⟩
  exact ((b1.alloc b1.size _).grown g2 (by have := b1.size; simp; omega) (fun k hk => (o1.lt k hk).1))

theorem digitsV : ∀ u : Nat, u ≤ 9223372036854775807 → DigSays u := by
  intro u
  induction u using Nat.strongRecOn with
  | ind u ih =>
    intro hu
    by_cases h : u < 10
    · exact dig_small u h
    · exact dig_step u h hu (ih (u / 10) (by omega) (by omega))

set_option maxHeartbeats 1000000 in
/-- A word behind others. -/
theorem wordV (base : Nat) (bv wv : Value) (xs ys : List Int) (w : World) (h : OwM w base bv xs) (hb : base ≤ w.heap.size) (h0 : 0 < xs.length) (hl : xs.length ≤ 2147483647) (hk : ∀ w', w.grownBy w' bv.ownBlock → RV w' wv ys) (hy : ys.length ≤ 2147483646) :
    Calls Tryd.prog 45 #[bv, wv] w fun e w' => ∃ v, e = .returned v ∧ OwM w' base v (xs ++ 32 :: ys) ∧ w.grownBy w' bv.ownBlock ∧ Nb w bv v := by
  obtain ⟨aw, capw, rfl, hrw, _, _⟩ := hk w (World.grownBy.refl _ _)
  clear hrw
  have HK : Hid (∀ w', w.grownBy w' bv.ownBlock → RV w' (.slice aw ys.length capw) ys) := hk
  clear hk
  have h' := h
  rcases h' with ⟨rfl, rfl⟩ | ⟨g, cap, cur, fz, rfl, hg, hcs, _, _, hcm, _, _⟩
  · simp at h0
  · have hgl : g < w.heap.size := (Array.getElem?_eq_some_iff.1 hcs).1
    clear hcs
    obtain ⟨n, hn⟩ : ∃ n, n = xs.length := ⟨_, rfl⟩
    have HN : Hid (n = xs.length) := hn
    rw [← hn] at h h0 hl HK ⊢
    clear hn
    have h0' : (0 : Int) < (n : Int) := by omega
    obtain ⟨m, hm⟩ : ∃ m, m = ys.length := ⟨_, rfl⟩
    have HM : Hid (m = ys.length) := hm
    rw [← hm] at hy HK ⊢
    clear hm
    have one : Rd (w.alloc (.cells #[.int .u8 32] 5)) (some ⟨w.heap.size, 0, none⟩) 1 [32] := rd_one w 32 (by omega) (by omega)
    go_enter Tryd.func45, Tryd.ntmps45
    go_wp2_with (at_builtin; refine wpList_append_m _ rfl _ _ 29 rfl base info5 Tryd.underlying29 (.slice (some ⟨g, 0, none⟩) n cap) xs rfl (h.ext (World.grownBy_alloc _ _ _)) _ 1 1 [32] rfl one (by have := HN.out; omega) (by simp; omega) ?_; intro v1 w1 o1 g1 n1; refine Hid.out ?_)
    refine Lib.hid ?_
    have e1 : (xs ++ [32]).length = n + 1 := by have := HN.out; simp; omega
    have G1 : w.grownBy w1 (some g) := by
      refine ⟨g1.os, g1.tape, g1.output, by have := g1.size; simp at this; omega, fun k hk he => ?_⟩
      rw [g1.block k (by simp; omega) (by simpa [Value.ownBlock] using he), Below.heap_alloc _ _ _ hk]
    obtain ⟨aw', capw', ew, hrw, _, _⟩ := HK.out w1 G1
    simp only [Value.slice.injEq] at ew
    obtain ⟨rfl, _, rfl⟩ := ew
    rw [← HM.out] at hrw
    go_wp2_with (at_builtin; refine wpList_append_m _ rfl _ _ 29 rfl base info5 Tryd.underlying29 v1 (xs ++ [32]) rfl o1 aw m capw ys rfl hrw (by rw [e1]; omega) (by have := G1.size; omega) ?_; intro v2 w2 o2 g2 n2; refine Hid.out ?_)
    refine Lib.hid ?_
    go_wp2
    go_ret
    have N1 : Nb w (.slice (some ⟨g, 0, none⟩) n cap) v1 := fun k hk => by
      rcases n1 k hk with h1 | h1
      · exact .inl h1
      · right
        simp at h1
        omega
    exact ⟨v2, rfl, by simpa using o2, grow_tr (v := .slice (some ⟨g, 0, none⟩) n cap) G1 g2 N1, grow_nb G1 N1 n2⟩

end Go.Proofs.YtheojmjnpemkbaaDoor
