/- The library's DeleteFunc at numbers, with a function that tells one number; the program's without. -/
import Derived.Test.YtfdklcmhafhbeaaPr6
import Derived.Test.YtfdklcmhafhbeaaPr2a
import Derived.Lib.SliceRun
import Derived.Deep.CutRange
namespace Go.Proofs.Ytfdklcmhafhbeaa
open Go.RowKit

/-- A row's beginning, and stores behind it. -/
theorem OwI.head {w : World} {base g cap n : Nat} {ys : List Int} (h : OwI w base (.slice (some ⟨g, 0, none⟩) n cap) ys) (hn : n = ys.length) (i : Nat) (hi : i ≤ n) : OwI w base (.slice (some ⟨g, 0, none⟩) i cap) (ys.take i) := by
  have hil : (ys.take i).length = i := by rw [List.length_take]; omega
  unfold OwI at h ⊢
  rw [hil]
  rw [← hn] at h
  obtain ⟨h1, h2⟩ := h
  refine ⟨by simp; omega, .inr ?_⟩
  rcases h2 with ⟨e, _⟩ | ⟨g', c', cur, e, hb, hg, hc, hm, hs, ht⟩
  · cases e
  · simp only [Value.slice.injEq, Option.some.injEq, Addr.mk.injEq] at e
    obtain ⟨⟨rfl, _⟩, _, rfl⟩ := e
    refine ⟨_, _, cur, rfl, hb, hg, by omega, hm, hs, ?_⟩
    rw [List.map_take, ← ht, List.take_take]
    congr 1
    omega
theorem OwI.tail {w : World} {base g cap i : Nat} {zs : List Int} (h : OwI w base (.slice (some ⟨g, 0, none⟩) i cap) zs) (j : Nat) (hj : i ≤ j) (v : Value) : OwI (w.setCell ⟨g, j, none⟩ v) base (.slice (some ⟨g, 0, none⟩) i cap) zs := by
  unfold OwI at h ⊢
  obtain ⟨h1, h2⟩ := h
  refine ⟨h1, .inr ?_⟩
  rcases h2 with ⟨e, _⟩ | ⟨g', c', cur, e, hb, hg, hc, hm, hs, ht⟩
  · cases e
  · simp only [Value.slice.injEq, Option.some.injEq, Addr.mk.injEq] at e
    obtain ⟨⟨rfl, _⟩, hzi, rfl⟩ := e
    refine ⟨_, _, cur.setIfInBounds j v, by rw [hzi], hb, set_block hg j v, hc, hm, by rw [Array.size_setIfInBounds]; exact hs, ?_⟩
    rw [Array.toList_setIfInBounds, List.take_set_of_le (by omega)]
    exact ht
theorem OwI.tails {base g cap i : Nat} {zs : List Int} : ∀ (vs : List Value) (j : Nat) (w : World), OwI w base (.slice (some ⟨g, 0, none⟩) i cap) zs → i ≤ j → OwI (w.setCells g j vs) base (.slice (some ⟨g, 0, none⟩) i cap) zs ∧ w.grownBy (w.setCells g j vs) (some g)
  | [], _, w, h, _ => ⟨h, World.grownBy.refl _ _⟩
  | v :: r, j, w, h, hj => by
    have := OwI.tails r (j + 1) (w.setCell ⟨g, j, none⟩ v) (h.tail j hj v) (by omega)
    exact ⟨this.1, (set_grown _ _ _ _).trans this.2⟩

set_option maxHeartbeats 1000000 in
theorem isOneV (x y : Int) (g : Nat) (w : World) (hg : w.cell? ⟨g, 0, none⟩ = some (.int .i64 y)) : Calls Try.prog 61 #[.int .i64 x, .pointer (some ⟨g, 0, none⟩)] w fun e w' => e = .returned (.bool (x == y)) ∧ w' = w := by
  go_enter Try.func61, Try.ntmps61
  go_wp2
  go_ret
  exact ⟨rfl, rfl⟩

/-- Where a number lies first. -/
def PlaceP (xs : List Int) (y r : Int) : Prop := (r = -1 ∧ ∀ (j : Nat) z, xs[j]? = some z → z ≠ y) ∨ ∃ k : Nat, r = k ∧ xs[k]? = some y ∧ ∀ (j : Nat) z, j < k → xs[j]? = some z → z ≠ y

set_option maxHeartbeats 2000000 in
theorem indexOneV (v : Value) (xs : List Int) (y : Int) (g : Nat) (w : World) (h : VL fI w v xs) (hg : w.cell? ⟨g, 0, none⟩ = some (.int .i64 y)) :
    Calls Try.prog 72 #[v, .func (.func 61) #[] #[.pointer (some ⟨g, 0, none⟩)]] w fun e w' => (∃ r : Int, e = .returned (.int .i64 r) ∧ PlaceP xs y r) ∧ w' = w := by
  obtain ⟨a, cap, rfl, h1, h2, h3⟩ := h
  obtain ⟨n, hnn⟩ : ∃ n, n = xs.length := ⟨_, rfl⟩
  rw [← hnn] at h1 h3 ⊢
  have HN : Hid (n = xs.length) := hnn
  clear hnn
  unfold maxLen at h2
  have H3 : Hid (0 < n → ∃ b o, a = some ⟨b, o, none⟩ ∧ b < w.heap.size ∧ ∀ (i : Nat) (x : Int), xs[i]? = some x → w.cell? ⟨b, o + i, none⟩ = some (fI x)) := h3
  clear h3
  go_enter Try.func72, Try.ntmps72
  go_wp2
  go_loopw [8] (fun i wr => ∃ k : Nat, k ≤ n ∧ i = .int .i64 k ∧ wr = w ∧ Hid (∀ (j : Nat) z, j < k → xs[j]? = some z → z ≠ y)) (fun i _ => n - (intOf i).toNat)
  case atStart => exact ⟨0, Nat.zero_le _, rfl, rfl, fun j y hj => absurd hj (by omega)⟩
  case round =>
    obtain ⟨k, hk, rfl, rfl, hall⟩ := hrel
    by_cases hlt : k < n
    · obtain ⟨b, o, rfl, hbl, hc⟩ := H3.out (by omega)
      obtain ⟨x, hx⟩ : ∃ x, xs[k]? = some x := ⟨_, List.getElem?_eq_getElem (by have := HN.out; omega)⟩
      have hck : wr.cell? ⟨b, o + k, none⟩ = some (.int .i64 x) := hc k x hx
      have hlt' : (k : Int) < (n : Int) := by omega
      have HS : Hid (xs[k]? = some x) := hx
      clear hc hx
      cases K1 : (x == y)
      case true =>
        have HF : Hid (xs[k]? = some y) := by rw [← eq_of_beq K1]; exact HS.out
        go_wp2_with (go_at_call 61; refine (isOneV x y g _ hg).mono ?_; rintro e w2 ⟨rfl, rfl⟩; rw [K1])
        go_ret
        exact ⟨⟨k, rfl, .inr ⟨k, rfl, HF.out, hall.out⟩⟩, rfl⟩
      case false =>
        have HA : Hid (∀ (j : Nat) z, j < k + 1 → xs[j]? = some z → z ≠ y) := fun j z hj hz => by
          by_cases e : j = k
          · subst e
            rw [HS.out] at hz
            cases hz
            exact fun e => by rw [e] at K1; simp at K1
          · exact hall.out j z (by omega) hz
        clear hall
        go_wp2_with (go_at_call 61; refine (isOneV x y g _ hg).mono ?_; rintro e w2 ⟨rfl, rfl⟩; rw [K1])
        go_roundw
        case rel => exact ⟨k + 1, by omega, by go_num, trivial, HA⟩
        case measure => simp [intOf]; omega
    · have hkn : k = n := by omega
      subst hkn
      go_wp2
      go_ret
      exact ⟨⟨-1, rfl, .inl ⟨rfl, fun j z hz => hall.out j z (by have := (List.getElem?_eq_some_iff.1 hz).1; have := HN.out; omega) hz⟩⟩, rfl⟩

theorem except_same {xs : List Int} {y : Int} (h : ∀ (j : Nat) z, xs[j]? = some z → z ≠ y) : exceptL xs y = xs := by
  unfold exceptL
  rw [List.filter_eq_self]
  intro z hz
  obtain ⟨j, hj⟩ := List.getElem?_of_mem hz
  simpa using h j z hj
theorem except_first {xs : List Int} {y : Int} {k : Nat} (h : ∀ (j : Nat) z, j < k → xs[j]? = some z → z ≠ y) : exceptL (xs.take k) y = xs.take k := except_same (fun j z hz => by
  rw [List.getElem?_take] at hz
  split at hz
  · exact h j z ‹_› hz
  · cases hz)
theorem zero3 (w : World) : (zeroValue 3).run Try.prog w = .ok (.int .i64 0) w := by kernel_rfl

set_option maxRecDepth 20000 in
set_option maxHeartbeats 4000000 in
theorem deleteOneV (v : Value) (xs : List Int) (y : Int) (gy base : Nat) (w : World) (h : OwI w base v xs) (hg : w.cell? ⟨gy, 0, none⟩ = some (.int .i64 y)) (hgy : v.ownBlock = none ∨ v.ownBlock ≠ some gy) (hn : xs.length ≤ 1048576) :
    Calls Try.prog 60 #[v, .func (.func 61) #[] #[.pointer (some ⟨gy, 0, none⟩)]] w fun e w' => ∃ v', e = .returned v' ∧ OwI w' base v' (exceptL xs y) ∧ w.grownBy w' v.ownBlock := by
  obtain ⟨a, cap, hv⟩ := h.shape
  obtain ⟨n, hnn⟩ : ∃ n, n = xs.length := ⟨_, rfl⟩
  rw [← hnn] at hv hn
  subst hv
  have HO : Hid (OwI w base (.slice a n cap) xs) := h
  have HN : Hid (n = xs.length) := hnn
  have HV : Hid (VL fI w (.slice a n cap) xs) := h.vl
  have hn1 : (n : Int) ≤ 1048576 := by omega
  clear hnn h
  go_enter Try.func60, Try.ntmps60
  go_wp2_with fail
  refine (indexOneV _ xs y gy w HV.out hg).mono ?_
  rintro e w1 ⟨⟨r, rfl, hp⟩, hw⟩
  have hw' := hw.symm
  clear hw
  subst hw'
  rcases hp with ⟨rfl, hno⟩ | ⟨k, rfl, hk, hfst⟩
  · have HE : Hid (exceptL xs y = xs) := except_same hno
    clear hno
    go_wp2
    go_ret
    exact ⟨_, rfl, by rw [HE.out]; exact HO.out, World.grownBy.refl _ _⟩
  have hkn : k < n := by have := (List.getElem?_eq_some_iff.1 hk).1; have := HN.out; omega
  obtain ⟨g, hgg⟩ : ∃ g, a = some ⟨g, 0, none⟩ := by
    rcases HO.out.2 with ⟨h0, _⟩ | ⟨g, c, cur, hv, _⟩
    · simp only [Value.slice.injEq] at h0; omega
    · simp only [Value.slice.injEq] at hv; exact ⟨g, hv.1⟩
  subst hgg
  have hcap : n ≤ cap ∧ cap ≤ 9223372036854775807 := by
    rcases HO.out.2 with ⟨h0, _⟩ | ⟨g', c, cur, hv, _, _, h1, h2, _⟩
    · cases h0
    · simp only [Value.slice.injEq] at hv
      unfold maxLen at h2
      have := HN.out
      omega
  obtain ⟨hc1, hc2⟩ := hcap
  have hne : gy ≠ g := by
    rcases hgy with h | h
    · cases h
    · intro e; exact h (by rw [e]; rfl)
  have hk1 : ((k : Int) == -1) = false := by simp
  have HK0 : Hid (k = (exceptL (xs.take (k + 1)) y).length ∧ (xs.take k) = exceptL (xs.take (k + 1)) y) := by
    rw [except_take hk, if_pos rfl, List.append_nil, except_first hfst]
    exact ⟨by rw [List.length_take]; have := HN.out; omega, rfl⟩
  clear hk hfst hgy
  go_wp2
  go_loopw [5, 6] (fun iv jv wr => ∃ (i j : Nat) (ys : List Int), iv = .int .i64 i ∧ jv = .int .i64 j ∧ i < j ∧ j ≤ n ∧ Hid (n = ys.length) ∧ Hid (ys.take i = exceptL (xs.take j) y) ∧ Hid (∀ q, j ≤ q → ys[q]? = xs[q]?) ∧ Hid (OwI wr base (.slice (some ⟨g, 0, none⟩) n cap) ys) ∧ Hid (w.grownBy wr (some g))) (fun _ jv _ => n - (intOf jv).toNat)
  case atStart => exact ⟨k, k + 1, xs, rfl, by go_num, by omega, by omega, HN, HK0.out.2, fun q _ => rfl, HO, World.grownBy.refl _ _⟩
  case round =>
    obtain ⟨i, j, ys, rfl, rfl, hij, hjn, hyl, htk, hrest, hO, hG⟩ := hrel
    have hgw : wr.cell? ⟨gy, 0, none⟩ = some (.int .i64 y) := World.grownBy.cell hG.out hg (by simpa using hne)
    by_cases hlt : j < n
    · obtain ⟨x, hx⟩ : ∃ x, xs[j]? = some x := ⟨_, List.getElem?_eq_getElem (by have := HN.out; omega)⟩
      obtain ⟨cj, _⟩ := hO.out.get hyl.out j hlt
      have hyx : ys.getD j 0 = x := by rw [List.getD_eq_getElem?_getD, hrest.out j (Nat.le_refl _), hx]; rfl
      rw [hyx] at cj
      have hlt' : (j : Int) < (n : Int) := by omega
      have hin : (i : Int) < (n : Int) := by omega
      have hin' : i < n := by omega
      obtain ⟨ci, fi⟩ := hO.out.get hyl.out i hin'
      cases K1 : (x == y)
      · have HT : Hid (∀ zs : List Int, zs = ys.set i x → zs.take (i + 1) = exceptL (xs.take (j + 1)) y) := fun zs hz => by
          rw [hz, except_take hx, if_neg (fun e => by rw [e] at K1; simp at K1), ← htk.out, List.take_add_one, List.getElem?_set_self (by have := hyl.out; omega), List.take_set_of_le (Nat.le_refl _)]
          rfl
        have HR2 : Hid (∀ q, j + 1 ≤ q → (ys.set i x)[q]? = xs[q]?) := fun q hq => by rw [List.getElem?_set_ne (by omega)]; exact hrest.out q (by omega)
        obtain ⟨O2, G2⟩ := hO.out.put hyl.out i x
        have HO2 : Hid (OwI (wr.setCell ⟨g, i, none⟩ (.int .i64 x)) base (.slice (some ⟨g, 0, none⟩) n cap) (ys.set i x)) := O2
        have HG2 : Hid (w.grownBy (wr.setCell ⟨g, i, none⟩ (.int .i64 x)) (some g)) := hG.out.trans G2
        have HL2 : Hid (n = (ys.set i x).length) := by show _ = _; rw [List.length_set]; exact hyl.out
        clear O2 G2 hyx hx
        go_wp2_with (go_at_call 61; refine (isOneV x y gy _ hgw).mono ?_; rintro e w2 ⟨rfl, rfl⟩; rw [K1])
        go_roundw
        case rel => exact ⟨i + 1, j + 1, ys.set i x, by go_num, by go_num, by omega, by omega, HL2, HT.out _ rfl, HR2, HO2, HG2⟩
        case measure => simp [intOf]; omega
      · have HT : Hid (ys.take i = exceptL (xs.take (j + 1)) y) := by
          show _ = _
          rw [except_take hx, if_pos (eq_of_beq K1), List.append_nil]
          exact htk.out
        have HR2 : Hid (∀ q, j + 1 ≤ q → ys[q]? = xs[q]?) := fun q hq => hrest.out q (by omega)
        clear hyx hx
        go_wp2_with (go_at_call 61; refine (isOneV x y gy _ hgw).mono ?_; rintro e w2 ⟨rfl, rfl⟩; rw [K1])
        go_roundw
        case rel => exact ⟨i, j + 1, ys, rfl, by go_num, by omega, by omega, hyl, HT, HR2, hO, hG⟩
        case measure => simp [intOf]; omega
    · have hjn' : j = n := by omega
      subst hjn'
      have hcl : ∀ ty, (Builtin.clear_ #[22] ty #[.slice (some ⟨g, i, none⟩) (j - i) (cap - i)]).run Try.prog wr = .ok (.tuple #[]) (wr.setCells g i (List.replicate (j - i) (.int .i64 0))) := fun ty => Lib.run_clear_slice wr _ 3 ty _ Try.underlying22 zero3 rfl rfl g i _ _ (by omega) (fun q hq => by rw [(hO.out.get hyl.out (i + q) (by omega)).1]; rfl) (fun q hq => (hO.out.get hyl.out (i + q) (by omega)).2)
      have hci : i ≤ cap := by omega
      have HF : Hid (OwI (wr.setCells g i (List.replicate (j - i) (.int .i64 0))) base (.slice (some ⟨g, 0, none⟩) i cap) (exceptL xs y) ∧ wr.grownBy (wr.setCells g i (List.replicate (j - i) (.int .i64 0))) (some g)) := by
        have h1 := hO.out.head hyl.out i (by omega)
        rw [htk.out, HN.out, List.take_length] at h1
        exact OwI.tails _ _ _ h1 (Nat.le_refl _)
      have HF2 : Hid (w.grownBy (wr.setCells g i (List.replicate (j - i) (.int .i64 0))) (some g)) := hG.out.trans HF.out.2
      generalize wr.setCells g i (List.replicate (j - i) (.int .i64 0)) = WF at *
      go_wp2
      go_ret
      exact ⟨_, rfl, HF.out.1, HF2.out⟩

set_option maxHeartbeats 2000000 in
theorem withoutV (v : Value) (xs : List Int) (y : Int) (base : Nat) (w : World) (h : OwI w base v xs) (hn : xs.length ≤ 1048576) :
    Calls Try.prog 41 #[v, .int .i64 y] w fun e w' => ∃ v', e = .returned v' ∧ OwI w' base v' (exceptL xs y) ∧ w.grownBy w' v.ownBlock := by
  have HO : Hid (OwI w base v xs) := h
  have HNB : Hid (v.ownBlock = none ∨ v.ownBlock ≠ some w.heap.size) := by
    cases hv : v.ownBlock with
    | none => exact .inl rfl
    | some k => exact .inr (by have := (World.ownsRow.lt h k hv).2; simp; omega)
  obtain ⟨a, cap, rfl⟩ := h.shape
  obtain ⟨n, hnn⟩ : ∃ n, n = xs.length := ⟨_, rfl⟩
  rw [← hnn] at HO HNB ⊢
  clear hnn h
  go_enter Try.func41, Try.ntmps41
  go_wp2_with fail
  refine (deleteOneV _ xs y w.heap.size base _ (HO.out.ext (World.grownBy_alloc _ _ _)) (cell_of_row _ w.heap.size 0 _ _ (0, 0) (heap_alloc_new w _)) HNB.out hn).mono ?_
  rintro e w2 ⟨v', rfl, o2, g2⟩
  have HG : Hid (w.grownBy w2 (Value.slice a n cap).ownBlock) := ⟨g2.os, g2.tape, g2.output, Nat.le_trans (by simp) g2.size, fun k hk hne => (g2.block k (by simp; omega) hne).trans (Below.heap_alloc _ _ _ hk)⟩
  have HO2 : Hid (OwI w2 base v' (exceptL xs y)) := o2
  obtain ⟨a2, c2, rfl⟩ := o2.shape
  clear g2 o2
  go_wp2
  go_ret
  exact ⟨_, rfl, HO2.out, HG.out⟩

end Go.Proofs.Ytfdklcmhafhbeaa
