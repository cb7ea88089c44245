
/- Lists of numbers: sized, copied. -/
import Derived.Test.YtmodliaieienfaaLiV
import Derived.Test.YtmodliaieienfaaLiO
import Derived.Test.YtmodliaieienfaaSz1
import Derived.Test.YtmodliaieienfaaRows
import Derived.Laws.MakeOwn
import Derived.WalkKit
namespace Go.Proofs.Ytmodliaieienfaa
open Go.RowKit

theorem vl_set {α : Type} (f : α → Value) (z : Value) (xs : List α) (k n : Nat) (x : α) (hl : xs.length = n) (hx : xs[k]? = some x) : ((xs.take k).map f ++ List.replicate (n - k) z).set k (f x) = (xs.take (k + 1)).map f ++ List.replicate (n - (k + 1)) z := by
  have hk : k < n := by have := (List.getElem?_eq_some_iff.1 hx).1; omega
  have e1 : n - k = (n - (k + 1)) + 1 := by omega
  rw [List.set_append_right _ _ (by simp; omega), List.take_add_one, hx, e1, List.replicate_succ]
  have e2 : k - ((xs.take k).map f).length = 0 := by simp; omega
  rw [e2, List.set_cons_zero]
  simp
theorem info3 : (Try.prog.info? 3).map (fun i => (i.zero, i.size, i.bytes)) = some (some (.int .i64 0), 1, 8) := by kernel_rfl

theorem ol_of {α : Type} {f : α → Value} {t : TypeId} {w : World} {g base k : Nat} {xs : List α} (h : w.ownsRow base t 1 (.slice (some ⟨g, 0, none⟩) k k) k (xs.map f)) (hk : k = xs.length) : OVL f t w g xs := by
  rcases h.2 with ⟨h0, _⟩ | ⟨g', cap, cur, hv, _, hg, _, _, hs, ht⟩
  · cases h0
  · simp only [Value.slice.injEq, Option.some.injEq, Addr.mk.injEq, and_true] at hv
    obtain ⟨rfl, _, rfl⟩ := hv
    have e : cur = (xs.map f).toArray := by
      apply Array.toList_inj.1
      have h9 : cur.toList.take (k * 1) = xs.map f := ht
      rw [List.take_of_length_le (by simp; omega)] at h9
      simpa using h9
    rw [e] at hg
    exact hg

/-- A block that holds just this list is owned. -/
theorem OVL.own {w : World} {g base n : Nat} {xs : List Int} (h : OVL fI 3 w g xs) (hb : base ≤ g) (hn : n = xs.length) (hm : n ≤ 1048576) : OwI w base (.slice (some ⟨g, 0, none⟩) n n) xs := by
  subst hn
  exact ⟨by simp, .inr ⟨g, xs.length, (xs.map fI).toArray, rfl, hb, h, Nat.le_refl _, by unfold maxLen; omega, by simp, by simp only [Nat.mul_one]; rw [List.take_of_length_le (by simp)]⟩⟩

end Go.Proofs.Ytmodliaieienfaa
