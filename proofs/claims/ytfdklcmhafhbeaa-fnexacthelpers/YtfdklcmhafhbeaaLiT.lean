/- Lists of numbers: sized, copied. -/
import Derived.Test.YtfdklcmhafhbeaaLiV
import Derived.Test.YtfdklcmhafhbeaaLiO
import Derived.Test.YtfdklcmhafhbeaaSz1
import Derived.Test.YtfdklcmhafhbeaaRows
import Derived.Laws.MakeOwn
import Derived.WalkKit
namespace Go.Proofs.Ytfdklcmhafhbeaa
open Go.RowKit

theorem vl_set {α : Type} (f : α → Value) (z : Value) (xs : List α) (k n : Nat) (x : α) (hl : xs.length = n) (hx : xs[k]? = some x) : ((xs.take k).map f ++ List.replicate (n - k) z).set k (f x) = (xs.take (k + 1)).map f ++ List.replicate (n - (k + 1)) z := by
  have hk : k < n := by have := (List.getElem?_eq_some_iff.1 hx).1; omega
  have e1 : n - k = (n - (k + 1)) + 1 := by omega
  rw [List.set_append_right _ _ (by simp; omega), List.take_add_one, hx, e1, List.replicate_succ]
  have e2 : k - ((xs.take k).map f).length = 0 := by simp; omega
  rw [e2, List.set_cons_zero]
  simp
theorem info3 : (Try.prog.info? 3).map (fun i => (i.zero, i.size, i.bytes)) = some (some (.int .i64 0), 1, 8) := by kernel_rfl

theorem ol_of {α : Type} {f : α → Value} {t : TypeId} {w : World} {g base k : Nat} {xs : List α} (h : w.ownsRow base t 1 (.slice (some ⟨g, 0, none⟩) k k) k (xs.map f)) (hk : k = xs.length) : OVL f t w g xs := by
  rcases h.2 with ⟨h0, _⟩ | ⟨g', cap, cur, hv, _, hg, _, _, hs, ht⟩
  · cases h0
  · simp only [Value.slice.injEq, Option.some.injEq, Addr.mk.injEq, and_true] at hv
    obtain ⟨rfl, _, rfl⟩ := hv
    have e : cur = (xs.map f).toArray := by
      apply Array.toList_inj.1
      have h9 : cur.toList.take (k * 1) = xs.map f := ht
      rw [List.take_of_length_le (by simp; omega)] at h9
      simpa using h9
    rw [e] at hg
    exact hg

set_option maxHeartbeats 1000000 in
theorem szL_I (v : Value) (xs : List Int) (l : Int) (w : World) (h : VL fI w v xs) (hl0 : 0 ≤ l) (hl : l ≤ 1048576) :
    Calls Try.prog 24 #[v, .int .i64 l] w (SzPost l xs.length w) := by
  obtain ⟨a, cap, rfl, h1, h2, h3⟩ := h
  clear h3
  unfold maxLen at h2
  generalize xs.length = n at h1 ⊢
  by_cases hn : l - n < 0
  · go_enter Try.func24, Try.ntmps24
    go_wp2
    go_ret
    exact ⟨-1, rfl, .inl ⟨by omega, rfl⟩, Below.refl _ _⟩
  · go_enter Try.func24, Try.ntmps24
    go_wp2
    go_ret
    exact ⟨l - n, rfl, .inr ⟨by omega, rfl⟩, Below.refl _ _⟩

set_option maxHeartbeats 1000000 in
theorem toL_I (v : Value) (xs : List Int) (w : World) (h : VL fI w v xs) (hn : xs.length ≤ 1048576) :
    Calls Try.prog 30 #[v] w fun e w' => e = .returned (.slice (some ⟨w.heap.size, 0, none⟩) xs.length xs.length) ∧ OVL fI 3 w' w.heap.size xs ∧ Below w.heap.size w w' := by
  obtain ⟨a, cap, rfl, h1, h2, h3⟩ := h
  obtain ⟨n, hnn⟩ : ∃ n, n = xs.length := ⟨_, rfl⟩
  rw [← hnn] at h1 h3 hn ⊢
  have HN : Hid (n = xs.length) := hnn
  clear hnn
  have H3 : Hid (0 < n → ∃ b o, a = some ⟨b, o, none⟩ ∧ b < w.heap.size ∧ ∀ (i : Nat) (x : Int), xs[i]? = some x → w.cell? ⟨b, o + i, none⟩ = some (fI x)) := h3
  clear h3
  obtain ⟨i0, hi, hz0, hz1, hz2⟩ := info_parts info3
  have hml : n ≤ maxLen := by unfold maxLen; omega
  go_enter Try.func30, Try.ntmps30
  go_wp2_with (at_make; refine wpList_make_full _ rfl _ _ 22 rfl w.heap.size 3 i0 (.int .i64 0) 1 Try.underlying22 hi hz0 hz1 _ _ _ _ n rfl rfl rfl rfl ?b1 ?b2 ?b3 ?_)
  case b1 => rw [hz2]; omega
  case b2 => exact hml
  case b3 => exact Nat.le_refl _
  intro w1 hown hgr
  have hb1 : Below w.heap.size w w1 := (Below.refl _ _).grown hgr (Nat.le_refl _) (fun k hk => by cases hk)
  have hown1 : w1.ownsRow w.heap.size 3 1 (.slice (some ⟨w.heap.size, 0, none⟩) n n) n ((xs.take 0).map fI ++ List.replicate (n - 0) (.int .i64 0 : Value)) := by
    simpa [Value.cells, toList_madeCells_one] using hown
  clear hown hgr
  go_wp2
  go_loopw [4] (fun i wr => ∃ k : Nat, k ≤ n ∧ i = .int .i64 k ∧ wr.ownsRow w.heap.size 3 1 (.slice (some ⟨w.heap.size, 0, none⟩) n n) n ((xs.take k).map fI ++ List.replicate (n - k) (.int .i64 0 : Value)) ∧ Below w.heap.size w wr)
    (fun i _ => n - (intOf i).toNat)
  case atStart => exact ⟨0, Nat.zero_le _, rfl, hown1, hb1⟩
  case round =>
    obtain ⟨k, hk, rfl, hown, hb⟩ := hrel
    clear hown1 hb1
    by_cases hlt : k < n
    · obtain ⟨b, o, rfl, hbl, hc⟩ := H3.out (by omega)
      obtain ⟨x, hx⟩ : ∃ x, xs[k]? = some x := ⟨_, List.getElem?_eq_getElem (by have := HN.out; omega)⟩
      have hck : wr.cell? ⟨b, o + k, none⟩ = some (.int .i64 x) := (hb.cell (p := ⟨b, o + k, none⟩) hbl).trans (hc k x hx)
      have hf : wr.frozen? ⟨w.heap.size, k, none⟩ = false := hown.frozenAt k
      obtain ⟨u, hu⟩ : ∃ u, wr.cell? ⟨w.heap.size, k, none⟩ = some u := by
        rw [hown.cellAt k (by omega)]
        exact ⟨_, List.getElem?_eq_getElem (by simp; have := HN.out; omega)⟩
      have R := hown.stored k (fI x)
      rw [vl_set fI _ xs k n x HN.out.symm hx] at R
      have hbR := hb.grown R.2 hb.size (fun k hk => by simp at hk; omega)
      have HR : Hid ((wr.setCell ⟨w.heap.size, k, none⟩ (.int .i64 x)).ownsRow w.heap.size 3 1 (.slice (some ⟨w.heap.size, 0, none⟩) n n) n ((xs.take (k + 1)).map fI ++ List.replicate (n - (k + 1)) (.int .i64 0 : Value))) := R.1
      have HB : Hid (Below w.heap.size w (wr.setCell ⟨w.heap.size, k, none⟩ (.int .i64 x))) := hbR
      have hlt' : (k : Int) < (n : Int) := by omega
      clear R hbR hc
      go_wp2
      go_roundw
      case rel => exact ⟨k + 1, by omega, by go_num, HR.out, HB.out⟩
      case measure => simp [intOf]; omega
    · have hkn : k = n := by omega
      subst hkn
      go_wp2
      go_ret
      refine ⟨rfl, ?_, hb⟩
      rw [List.take_of_length_le (by have := HN.out; omega), Nat.sub_self, List.replicate_zero, List.append_nil] at hown
      exact ol_of hown HN.out

/-- A block that holds just this list is owned. -/
theorem OVL.own {w : World} {g base n : Nat} {xs : List Int} (h : OVL fI 3 w g xs) (hb : base ≤ g) (hn : n = xs.length) (hm : n ≤ 1048576) : OwI w base (.slice (some ⟨g, 0, none⟩) n n) xs := by
  subst hn
  exact ⟨by simp, .inr ⟨g, xs.length, (xs.map fI).toArray, rfl, hb, h, Nat.le_refl _, by unfold maxLen; omega, by simp, by simp only [Nat.mul_one]; rw [List.take_of_length_le (by simp)]⟩⟩

end Go.Proofs.Ytfdklcmhafhbeaa
