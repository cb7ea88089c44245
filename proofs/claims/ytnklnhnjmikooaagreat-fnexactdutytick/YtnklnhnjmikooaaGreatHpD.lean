
/- The contracts of the library's down and up over the timers. -/
import Derived.Test.YtnklnhnjmikooaaGreatHpC
import Derived.Test.YtnklnhnjmikooaaGreatHpM
namespace Go.Proofs.YtnklnhnjmikooaaGreat
open Go.RowKit

theorem HP.grown {w w' : World} {base h g cap : Nat} {ts ts' : List DTim} (p : HP w base h (some ⟨g, 0, none⟩) cap ts) (hl : ts'.length = ts.length) (ho : OwT w' base (.slice (some ⟨g, 0, none⟩) ts'.length cap) ts') (hg : w.grownBy w' (some g)) : HP w' base h (some ⟨g, 0, none⟩) cap ts' := by
  have hne : g ≠ h := by simpa [Value.ownBlock] using p.ne
  refine ⟨?_, ho, by simpa [Value.ownBlock] using hne, p.low⟩
  rw [hl, ← p.box]
  exact hg.block h (Array.getElem?_eq_some_iff.1 p.box).1 (by simp; omega)
theorem HP.below {w w' : World} {base h cap : Nat} {a : Option Addr} {ts : List DTim} (p : HP w base h a cap ts) (b : Below w.heap.size w w') : HP w' base h a cap ts :=
  ⟨(b.block h (Array.getElem?_eq_some_iff.1 p.box).1).trans p.box, p.row.kept (ext_below b) (by cases hv : (Value.slice a ts.length cap).ownBlock <;> simp), p.ne, p.low⟩
theorem grown_below {w w' : World} (b : Below w.heap.size w w') (row : Option Nat) : w.grownBy w' row := ⟨b.os, b.tape, b.output, b.size, fun k hk _ => b.block k hk⟩
theorem grown_re (w : World) (row : Option Nat) : w.grownBy w row := ⟨rfl, rfl, rfl, Nat.le_refl _, fun _ _ _ => rfl⟩

/-- The pointer to the timers, as the library takes it. -/
abbrev ifA (h : Nat) : Value := .iface 163 (.pointer (some ⟨h, 0, none⟩))

theorem lessI (g n cap i j : Nat) (x y : Int) (ts : List DTim) (s t : DTim) (base : Nat) (w : World) (h : OwT w base (.slice (some ⟨g, 0, none⟩) n cap) ts) (hn : n = ts.length) (hm : n ≤ 1048576) (hi : ts[i]? = some s) (hj : ts[j]? = some t) (hx : x = (i : Int)) (hy : y = (j : Int)) :
    Calls Tryz.prog 143 #[.slice (some ⟨g, 0, none⟩) n cap, .int .i64 x, .int .i64 y] w fun e w' => e = .returned (.bool (aheadB s t)) ∧ Below w.heap.size w w' := by
  subst hx hy
  exact lessV g n cap i j ts s t base w h hn hm hi hj
theorem swapI (g n cap i j : Nat) (x y : Int) (ts : List DTim) (s t : DTim) (base : Nat) (w : World) (h : OwT w base (.slice (some ⟨g, 0, none⟩) n cap) ts) (hn : n = ts.length) (hm : n ≤ 1048576) (hi : ts[i]? = some s) (hj : ts[j]? = some t) (hx : x = (i : Int)) (hy : y = (j : Int)) :
    Calls Tryz.prog 146 #[.slice (some ⟨g, 0, none⟩) n cap, .int .i64 x, .int .i64 y] w fun e w' => e = .returned (.tuple #[]) ∧ OwT w' base (.slice (some ⟨g, 0, none⟩) n cap) ((ts.set i t).set j s) ∧ w.grownBy w' (some g) := by
  subst hx hy
  exact swapV g n cap i j ts s t base w h hn hm hi hj
theorem rowOf {w : World} {base h cap m : Nat} {a : Option Addr} {ts : List DTim} (p : HP w base h a cap ts) (hl : ts.length = m) : OwT w base (.slice a m cap) ts := by
  rw [← hl]
  exact p.row

set_option maxRecDepth 20000 in
set_option maxHeartbeats 4000000 in
theorem downV (h g cap base n i0 : Nat) (ts : List DTim) (w : World) (p : HP w base h (some ⟨g, 0, none⟩) cap ts) (gd : GoodT ts) (hm : ts.length ≤ 100) (hn : n ≤ ts.length) (hi0 : i0 ≤ n) (hinv : DInv n i0 ts ts i0) :
    Calls Tryz.prog 125 #[ifA h, .int .i64 i0, .int .i64 n] w fun e w' => ∃ i ts', e = .returned (.bool (decide (i0 < i))) ∧ DEnd n i0 ts ts' i ∧ HP w' base h (some ⟨g, 0, none⟩) cap ts' ∧ w.grownBy w' (some g) := by
  have HP0 : Hid (HP w base h (some ⟨g, 0, none⟩) cap ts) := p
  have GD : Hid (GoodT ts) := gd
  have HI0 : Hid (DInv n i0 ts ts i0) := hinv
  obtain ⟨m, hmm⟩ : ∃ m, m = ts.length := ⟨_, rfl⟩
  have HM : Hid (m = ts.length) := hmm
  rw [← hmm] at hm hn
  clear hmm p gd hinv
  have hn1 : (n : Int) ≤ 100 := by omega
  go_enter Tryz.func125, Tryz.ntmps125
  go_wp2
  go_loopw [7] (fun iv wr => ∃ (i : Nat) (cur : List DTim), iv = .int .i64 i ∧ i ≤ n ∧ Hid (DInv n i0 ts cur i) ∧ Hid (HP wr base h (some ⟨g, 0, none⟩) cap cur) ∧ Hid (w.grownBy wr (some g))) (fun iv _ => n - (intOf iv).toNat)
  case atStart => exact ⟨i0, ts, rfl, hi0, HI0, HP0, grown_re _ _⟩
  case round =>
    obtain ⟨i, cur, rfl, hin, HI, HPc, HG⟩ := hrel
    have hcl : cur.length = m := by rw [HI.out.len, HM.out]
    have hbx := HPc.out.cell.1
    rw [hcl] at hbx
    have GC : Hid (GoodT cur) := GD.out.perm HI.out.perm
    have HCL : Hid (cur.length = m) := hcl
    clear hcl
    have mL := mLess h _ m cap wr hbx
    have mS := mSwap h _ m cap wr hbx
    by_cases h1 : 2 * (i : Int) + 1 < n
    · have h1' : decide ((n : Int) ≤ 2 * (i : Int) + 1) = false := by simp; omega
      obtain ⟨s, hs⟩ : ∃ s, cur[i]? = some s := ⟨_, List.getElem?_eq_getElem (by have := HCL.out; omega)⟩
      obtain ⟨t1, ht1⟩ : ∃ t, cur[2 * i + 1]? = some t := ⟨_, List.getElem?_eq_getElem (by have := HCL.out; omega)⟩
      by_cases h2 : 2 * (i : Int) + 1 + 1 < n
      · obtain ⟨t2, ht2⟩ : ∃ t, cur[2 * i + 2]? = some t := ⟨_, List.getElem?_eq_getElem (by have := HCL.out; omega)⟩
        go_wp2_with fail
        obtain ⟨r, hr⟩ : ∃ r, r = aheadB t2 t1 := ⟨_, rfl⟩
        have HR : Hid (r = decide (kk cur (2 * i + 2) < kk cur (2 * i + 1))) := by rw [hr, ahead_k (GC.out.get ht2) (GC.out.get ht1), kk_eq ht2, kk_eq ht1]; exact rfl
        have HR0 : Hid (r = aheadB t2 t1) := hr
        clear hr
        refine (lessI g m cap (2 * i + 2) (2 * i + 1) _ _ cur t2 t1 base _ (rowOf HPc.out HCL.out) HCL.out.symm (by omega) ht2 ht1 (by omega) (by omega)).mono ?_
        rintro e w2 ⟨rfl, b2⟩
        rw [← HR0.out]
        have HP2 : Hid (HP w2 base h (some ⟨g, 0, none⟩) cap cur) := HP.below HPc.out b2
        have HG2 : Hid (w.grownBy w2 (some g)) := HG.out.trans (grown_below b2 _)
        clear b2 mL mS hbx HPc HG
        have hbx := HP2.out.cell.1
        rw [HCL.out] at hbx
        have mL := mLess h _ m cap w2 hbx
        have mS := mSwap h _ m cap w2 hbx
        cases r
        case false =>
          have hmin : ∀ c, 0 < c → c < n → (c - 1) / 2 = i → kk cur (2 * i + 1) ≤ kk cur c := fun c hc0 hcn hcp => by
            have h3 : ¬ kk cur (2 * i + 2) < kk cur (2 * i + 1) := of_decide_eq_false HR.out.symm
            have : c = 2 * i + 1 ∨ c = 2 * i + 2 := by omega
            rcases this with rfl | rfl <;> omega
          have HMIN : Hid (∀ c, 0 < c → c < n → (c - 1) / 2 = i → kk cur (2 * i + 1) ≤ kk cur c) := hmin
          clear hmin HR HR0
          go_wp2_with fail
          obtain ⟨q, hq⟩ : ∃ q, q = aheadB t1 s := ⟨_, rfl⟩
          have HQ : Hid (q = decide (kk cur (2 * i + 1) < kk cur i)) := by rw [hq, ahead_k (GC.out.get ht1) (GC.out.get hs), kk_eq ht1, kk_eq hs]; exact rfl
          have HQ0 : Hid (q = aheadB t1 s) := hq
          clear hq
          refine (lessI g m cap (2 * i + 1) i _ _ cur t1 s base _ (rowOf HP2.out HCL.out) HCL.out.symm (by omega) ht1 hs (by omega) rfl).mono ?_
          rintro e w3 ⟨rfl, b3⟩
          rw [← HQ0.out]
          have HP3 : Hid (HP w3 base h (some ⟨g, 0, none⟩) cap cur) := HP.below HP2.out b3
          have HG3 : Hid (w.grownBy w3 (some g)) := HG2.out.trans (grown_below b3 _)
          clear b3 mL mS hbx
          have hbx := HP3.out.cell.1
          rw [HCL.out] at hbx
          have mS := mSwap h _ m cap w3 hbx
          cases q
          case false =>
            have HE : Hid (DEnd n i0 ts cur i) := HI.out.stop (fun c hc0 hcn hcp => by
              have h3 : ¬ kk cur (2 * i + 1) < kk cur i := of_decide_eq_false HQ.out.symm
              have h4 := HMIN.out c hc0 hcn hcp
              omega)
            clear HQ HQ0
            go_wp2
            go_ret
            exact ⟨i, cur, by simp, HE.out, HP3.out, HG3.out⟩
          case true =>
            have HS : Hid (DInv n i0 ts ((cur.set i t1).set (2 * i + 1) s) (2 * i + 1)) := HI.out.step hs ht1 (by omega) (by omega) (by omega) (of_decide_eq_true HQ.out.symm) HMIN.out
            clear HQ HQ0
            go_wp2_with fail
            refine (swapI g m cap i (2 * i + 1) _ _ cur s t1 base _ (rowOf HP3.out HCL.out) HCL.out.symm (by omega) hs ht1 rfl (by omega)).mono ?_
            rintro e w4 ⟨rfl, o4, g4⟩
            have HP4 : Hid (HP w4 base h (some ⟨g, 0, none⟩) cap ((cur.set i t1).set (2 * i + 1) s)) := HP3.out.grown (by simp) (by simpa [HCL.out] using o4) g4
            have HG4 : Hid (w.grownBy w4 (some g)) := HG3.out.trans g4
            clear o4 g4
            go_wp2
            go_roundw
            case rel => exact ⟨2 * i + 1, _, by go_num, by omega, HS, HP4, HG4⟩
            case measure => simp [intOf]; omega
        case true =>
          have hmin : ∀ c, 0 < c → c < n → (c - 1) / 2 = i → kk cur (2 * i + 2) ≤ kk cur c := fun c hc0 hcn hcp => by
            have h3 : kk cur (2 * i + 2) < kk cur (2 * i + 1) := of_decide_eq_true HR.out.symm
            have : c = 2 * i + 1 ∨ c = 2 * i + 2 := by omega
            rcases this with rfl | rfl <;> omega
          have HMIN : Hid (∀ c, 0 < c → c < n → (c - 1) / 2 = i → kk cur (2 * i + 2) ≤ kk cur c) := hmin
          clear hmin HR HR0
          go_wp2_with fail
          obtain ⟨q, hq⟩ : ∃ q, q = aheadB t2 s := ⟨_, rfl⟩
          have HQ : Hid (q = decide (kk cur (2 * i + 2) < kk cur i)) := by rw [hq, ahead_k (GC.out.get ht2) (GC.out.get hs), kk_eq ht2, kk_eq hs]; exact rfl
          have HQ0 : Hid (q = aheadB t2 s) := hq
          clear hq
          refine (lessI g m cap (2 * i + 2) i _ _ cur t2 s base _ (rowOf HP2.out HCL.out) HCL.out.symm (by omega) ht2 hs (by omega) rfl).mono ?_
          rintro e w3 ⟨rfl, b3⟩
          rw [← HQ0.out]
          have HP3 : Hid (HP w3 base h (some ⟨g, 0, none⟩) cap cur) := HP.below HP2.out b3
          have HG3 : Hid (w.grownBy w3 (some g)) := HG2.out.trans (grown_below b3 _)
          clear b3 mL mS hbx
          have hbx := HP3.out.cell.1
          rw [HCL.out] at hbx
          have mS := mSwap h _ m cap w3 hbx
          cases q
          case false =>
            have HE : Hid (DEnd n i0 ts cur i) := HI.out.stop (fun c hc0 hcn hcp => by
              have h3 : ¬ kk cur (2 * i + 2) < kk cur i := of_decide_eq_false HQ.out.symm
              have h4 := HMIN.out c hc0 hcn hcp
              omega)
            clear HQ HQ0
            go_wp2
            go_ret
            exact ⟨i, cur, by simp, HE.out, HP3.out, HG3.out⟩
          case true =>
            have HS : Hid (DInv n i0 ts ((cur.set i t2).set (2 * i + 2) s) (2 * i + 2)) := HI.out.step hs ht2 (by omega) (by omega) (by omega) (of_decide_eq_true HQ.out.symm) HMIN.out
            clear HQ HQ0
            go_wp2_with fail
            refine (swapI g m cap i (2 * i + 2) _ _ cur s t2 base _ (rowOf HP3.out HCL.out) HCL.out.symm (by omega) hs ht2 rfl (by omega)).mono ?_
            rintro e w4 ⟨rfl, o4, g4⟩
            have HP4 : Hid (HP w4 base h (some ⟨g, 0, none⟩) cap ((cur.set i t2).set (2 * i + 2) s)) := HP3.out.grown (by simp) (by simpa [HCL.out] using o4) g4
            have HG4 : Hid (w.grownBy w4 (some g)) := HG3.out.trans g4
            clear o4 g4
            go_wp2
            go_roundw
            case rel => exact ⟨2 * i + 2, _, by go_num, by omega, HS, HP4, HG4⟩
            case measure => simp [intOf]; omega
      · have h2' : decide (2 * (i : Int) + 1 + 1 < n) = false := by simpa using h2
        have hmin : ∀ c, 0 < c → c < n → (c - 1) / 2 = i → kk cur (2 * i + 1) ≤ kk cur c := fun c hc0 hcn hcp => by
          have : c = 2 * i + 1 := by omega
          subst this
          omega
        have HMIN : Hid (∀ c, 0 < c → c < n → (c - 1) / 2 = i → kk cur (2 * i + 1) ≤ kk cur c) := hmin
        clear hmin
        go_wp2_with fail
        obtain ⟨q, hq⟩ : ∃ q, q = aheadB t1 s := ⟨_, rfl⟩
        have HQ : Hid (q = decide (kk cur (2 * i + 1) < kk cur i)) := by rw [hq, ahead_k (GC.out.get ht1) (GC.out.get hs), kk_eq ht1, kk_eq hs]; exact rfl
        have HQ0 : Hid (q = aheadB t1 s) := hq
        clear hq
        refine (lessI g m cap (2 * i + 1) i _ _ cur t1 s base _ (rowOf HPc.out HCL.out) HCL.out.symm (by omega) ht1 hs (by omega) rfl).mono ?_
        rintro e w3 ⟨rfl, b3⟩
        rw [← HQ0.out]
        have HP3 : Hid (HP w3 base h (some ⟨g, 0, none⟩) cap cur) := HP.below HPc.out b3
        have HG3 : Hid (w.grownBy w3 (some g)) := HG.out.trans (grown_below b3 _)
        clear b3 mL mS hbx
        have hbx := HP3.out.cell.1
        rw [HCL.out] at hbx
        have mS := mSwap h _ m cap w3 hbx
        cases q
        case false =>
          have HE : Hid (DEnd n i0 ts cur i) := HI.out.stop (fun c hc0 hcn hcp => by
            have h3 : ¬ kk cur (2 * i + 1) < kk cur i := of_decide_eq_false HQ.out.symm
            have h4 := HMIN.out c hc0 hcn hcp
            omega)
          clear HQ HQ0
          go_wp2
          go_ret
          exact ⟨i, cur, by simp, HE.out, HP3.out, HG3.out⟩
        case true =>
          have HS : Hid (DInv n i0 ts ((cur.set i t1).set (2 * i + 1) s) (2 * i + 1)) := HI.out.step hs ht1 (by omega) (by omega) (by omega) (of_decide_eq_true HQ.out.symm) HMIN.out
          clear HQ HQ0
          go_wp2_with fail
          refine (swapI g m cap i (2 * i + 1) _ _ cur s t1 base _ (rowOf HP3.out HCL.out) HCL.out.symm (by omega) hs ht1 rfl (by omega)).mono ?_
          rintro e w4 ⟨rfl, o4, g4⟩
          have HP4 : Hid (HP w4 base h (some ⟨g, 0, none⟩) cap ((cur.set i t1).set (2 * i + 1) s)) := HP3.out.grown (by simp) (by simpa [HCL.out] using o4) g4
          have HG4 : Hid (w.grownBy w4 (some g)) := HG3.out.trans g4
          clear o4 g4
          go_wp2
          go_roundw
          case rel => exact ⟨2 * i + 1, _, by go_num, by omega, HS, HP4, HG4⟩
          case measure => simp [intOf]; omega
    · have h1' : decide ((n : Int) ≤ 2 * (i : Int) + 1) = true := by simp; omega
      have HE : Hid (DEnd n i0 ts cur i) := HI.out.stop (fun c hc0 hcn hcp => by omega)
      go_wp2
      go_ret
      exact ⟨i, rfl, cur, HE.out, HPc.out, HG.out⟩

set_option maxRecDepth 20000 in
set_option maxHeartbeats 4000000 in
theorem upV (h g cap base m j0 : Nat) (x0 : Int) (ts : List DTim) (w : World) (p : HP w base h (some ⟨g, 0, none⟩) cap ts) (gd : GoodT ts) (hm : ts.length ≤ 100) (hn : m ≤ ts.length) (hj0 : j0 < m) (hinv : UInv m ts ts j0) (hx0 : x0 = (j0 : Int)) :
    Calls Tryz.prog 126 #[ifA h, .int .i64 x0] w fun e w' => ∃ ts', e = .returned (.tuple #[]) ∧ ts'.Perm ts ∧ (∀ c, m ≤ c → ts'[c]? = ts[c]?) ∧ HeapL m ts' ∧ HP w' base h (some ⟨g, 0, none⟩) cap ts' ∧ w.grownBy w' (some g) := by
  subst hx0
  have HP0 : Hid (HP w base h (some ⟨g, 0, none⟩) cap ts) := p
  have GD : Hid (GoodT ts) := gd
  have HI0 : Hid (UInv m ts ts j0) := hinv
  obtain ⟨n, hmm⟩ : ∃ n, n = ts.length := ⟨_, rfl⟩
  have HM : Hid (n = ts.length) := hmm
  rw [← hmm] at hm hn
  clear hmm p gd hinv
  have hn1 : (n : Int) ≤ 100 := by omega
  have hm1 : (m : Int) ≤ 100 := by omega
  go_enter Tryz.func126, Tryz.ntmps126
  go_wp2
  go_loopw [1] (fun jv wr => ∃ (j : Nat) (cur : List DTim), jv = .int .i64 j ∧ j < m ∧ Hid (UInv m ts cur j) ∧ Hid (HP wr base h (some ⟨g, 0, none⟩) cap cur) ∧ Hid (w.grownBy wr (some g))) (fun jv _ => (intOf jv).toNat)
  case atStart => exact ⟨j0, ts, rfl, hj0, HI0, HP0, grown_re _ _⟩
  case round =>
    obtain ⟨j, cur, rfl, hjm, HI, HPc, HG⟩ := hrel
    have hcl : cur.length = n := by rw [HI.out.perm.length_eq, HM.out]
    have hbx := HPc.out.cell.1
    rw [hcl] at hbx
    have GC : Hid (GoodT cur) := GD.out.perm HI.out.perm
    have HCL : Hid (cur.length = n) := hcl
    clear hcl
    have mL := mLess h _ n cap wr hbx
    by_cases h0 : j = 0
    · have HE : Hid (HeapL m cur) := HI.out.stop (fun h => absurd h (by omega))
      subst h0
      go_wp2_with fail
      go_end0
      exact ⟨cur, rfl, HI.out.perm, HI.out.tail, HE.out, HPc.out, HG.out⟩
    · obtain ⟨i, hij⟩ : ∃ i, i = (j - 1) / 2 := ⟨_, rfl⟩
      have HIJ : Hid (i = (j - 1) / 2) := hij
      have hq1 : ((j : Int) - 1).tdiv 2 = (i : Int) := by rw [Int.tdiv_eq_ediv_of_nonneg (by omega)]; omega
      have hq2 : ((j : Int) - 1) / 2 = (i : Int) := by omega
      have hilt : i < j := by omega
      have hne : ((i : Int) == (j : Int)) = false := by simp; omega
      have hne2 : decide ((i : Int) = (j : Int)) = false := by simp; omega
      have h0' : (1 : Int) ≤ (j : Int) := by omega
      obtain ⟨s, hs⟩ : ∃ s, cur[i]? = some s := ⟨_, List.getElem?_eq_getElem (by have := HCL.out; omega)⟩
      obtain ⟨t, ht⟩ : ∃ t, cur[j]? = some t := ⟨_, List.getElem?_eq_getElem (by have := HCL.out; omega)⟩
      clear hij
      go_wp2_with fail
      obtain ⟨q, hq⟩ : ∃ q, q = aheadB t s := ⟨_, rfl⟩
      have HQ : Hid (q = decide (kk cur j < kk cur i)) := by rw [hq, ahead_k (GC.out.get ht) (GC.out.get hs), kk_eq ht, kk_eq hs]; exact rfl
      have HQ0 : Hid (q = aheadB t s) := hq
      clear hq
      refine (lessI g n cap j i _ _ cur t s base _ (rowOf HPc.out HCL.out) HCL.out.symm (by omega) ht hs (by omega) (by omega)).mono ?_
      rintro e w3 ⟨rfl, b3⟩
      rw [← HQ0.out]
      have HP3 : Hid (HP w3 base h (some ⟨g, 0, none⟩) cap cur) := HP.below HPc.out b3
      have HG3 : Hid (w.grownBy w3 (some g)) := HG.out.trans (grown_below b3 _)
      clear b3 mL hbx
      have hbx := HP3.out.cell.1
      rw [HCL.out] at hbx
      have mS := mSwap h _ n cap w3 hbx
      cases q
      case false =>
        have HE : Hid (HeapL m cur) := HI.out.stop (fun _ => by
          have h3 : ¬ kk cur j < kk cur i := of_decide_eq_false HQ.out.symm
          rw [← HIJ.out]
          omega)
        clear HQ HQ0
        go_wp2_with fail
        go_end0
        exact ⟨cur, rfl, HI.out.perm, HI.out.tail, HE.out, HP3.out, HG3.out⟩
      case true =>
        have HS : Hid (UInv m ts ((cur.set i t).set j s) i) := HI.out.step hs ht (by omega) hjm HIJ.out.symm (of_decide_eq_true HQ.out.symm)
        clear HQ HQ0
        go_wp2_with fail
        refine (swapI g n cap i j _ _ cur s t base _ (rowOf HP3.out HCL.out) HCL.out.symm (by omega) hs ht (by omega) (by omega)).mono ?_
        rintro e w4 ⟨rfl, o4, g4⟩
        have HP4 : Hid (HP w4 base h (some ⟨g, 0, none⟩) cap ((cur.set i t).set j s)) := HP3.out.grown (by simp) (by simpa [HCL.out] using o4) g4
        have HG4 : Hid (w.grownBy w4 (some g)) := HG3.out.trans g4
        clear o4 g4
        go_wp2
        go_roundw
        case rel => exact ⟨i, _, by go_num, by omega, HS, HP4, HG4⟩
        case measure => simp [intOf]; omega

end Go.Proofs.YtnklnhnjmikooaaGreat
