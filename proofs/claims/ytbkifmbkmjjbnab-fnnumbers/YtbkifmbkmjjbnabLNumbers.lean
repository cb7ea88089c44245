/- The law on numbers: drawn numbers and texts come back from their bytes, and whatever bytes are read ds one are just the bytes of it: the walk of the law itself. -/
import Derived.Test.YtbkifmbkmjjbnabDraw4
import Derived.Test.YtbkifmbkmjjbnabNumMath
import Derived.Test.YtbkifmbkmjjbnabIPut
import Derived.Test.YtbkifmbkmjjbnabIPutT
import Derived.Test.YtbkifmbkmjjbnabIGet
import Derived.Test.YtbkifmbkmjjbnabIGetT
import Derived.Test.YtbkifmbkmjjbnabSame
import Derived.Deep.RegionHeld3
namespace Go.Proofs.Ytbkifmbkmjjbnab
open Go.RowKit

set_option maxHeartbeats 16000000 in
theorem law_FnNumbers (a : Option Addr) (n cap : Nat) (zs : List Int) (w : World) (hr : Rd w a n zs) (_hc : n ≤ cap) (hm : cap ≤ maxLen) :
    Calls Try.prog 3 #[.slice a n cap] w fun e w' => e = .returned (.bool true) ∧ Below w.heap.size w w' := by
  have hnm : n ≤ maxLen := by omega
  have hE : ∀ w : World, ∀ o, Ext w (w.alloc o) := fun w o => World.grownBy_alloc _ _ _
  go_enter Try.func3, Try.ntmps3
  go_wp2_with fail
  refine (drawPutNum a n cap zs w hr hnm).mono ?_
  rintro e w1 ⟨v1, q, bs, rfl, hb4, hq, hbr, hv1, b1⟩
  obtain ⟨a1, cp1, rfl, hd1, _, _⟩ := hv1
  go_wp2_with fail
  refine (iPut a1 bs.length cp1 bs q w1 hd1 (by omega)).mono ?_
  rintro e w2 ⟨v2, rfl, o2, b2⟩
  have c2 := b1.trans (b2.mono b1.size)
  have hnl := numL_len q
  have hpr : ∀ y ∈ bs ++ numL q, 0 ≤ y ∧ y ≤ 255 := app_rng hbr (numL_rng q)
  have hpl : (bs ++ numL q).length ≤ 9 := by simp; omega
  obtain ⟨ps, hps⟩ : ∃ ps, ps = bs ++ numL q := ⟨_, rfl⟩
  have HPS : Hid (ps = bs ++ numL q) := hps
  rw [← hps] at o2 hpr hpl
  clear hps
  obtain ⟨a2, cp2, rfl, hd2⟩ := o2.rd hpr
  have hs2 := b2.size
  go_wp2_with (first | (at_builtin; refine wpList_append_bytes _ rfl (.tmp 26) (.tmp 27) 22 rfl w1.heap.size info5 Try.underlying22 _ ps rfl (o2.alloc _) (some ⟨w2.heap.size, 0, none⟩) 1 1 [7] rfl (rd_one w2 7 (by omega) (by omega)) (by omega) (by simp; omega) ?_; intro v3 w3 o3 g3) | fail)
  have c3 : Below w.heap.size w w3 := (c2.alloc c2.size _).grown g3 (by have := c2.size; simp; omega) (fun k hk => Nat.le_trans b1.size (World.ownsRow.lt o2 k hk).1)
  have h3r : ∀ y ∈ ps ++ [7], 0 ≤ y ∧ y ≤ 255 := app_rng hpr (fun y hy => by simp only [List.mem_cons, List.not_mem_nil, or_false] at hy; omega)
  have h3l : (ps ++ [7]).length ≤ 2097152 := by simp; omega
  obtain ⟨qs, hqs⟩ : ∃ qs, qs = ps ++ [7] := ⟨_, rfl⟩
  have HQS : Hid (qs = bs ++ numL q ++ [7]) := by rw [← HPS.out]; exact hqs
  rw [← hqs] at o3 h3r h3l
  clear hqs
  obtain ⟨a3, cp3, rfl, hd3, hl3, hm3⟩ := Ow.rv o3 h3r
  have hm3' : cp3 ≤ 9223372036854775807 := by unfold maxLen at hm3; omega
  clear g3 o2 hd2 hs2
  refine (iGet a3 qs.length cp3 qs bs.length w3 hd3 h3l hl3 hm3' (by omega)).mono ?_
  rintro e w3' ⟨rfl, rfl⟩
  have hput := gn_put bs [7] q
  rw [← HQS.out] at hput
  have HLP : Hid (ps.length = bs.length + (numL q).length) := by rw [HPS.out]; simp [Hid]
  obtain ⟨m, nx, hmn⟩ : ∃ m nx, gn qs bs.length = (m, nx) := ⟨_, _, rfl⟩
  rw [hmn] at hput ⊢
  clear hmn
  rw [pairV]
  by_cases hin : 0 ≤ q ∧ q ≤ 2147483647
  · obtain ⟨hq0, hq1⟩ := hin
    have := hput hq0 hq1
    simp only [Prod.mk.injEq] at this
    obtain ⟨rfl, e2⟩ := this
    have e2' : nx = (ps.length : Int) := by rw [HLP.out, e2]; omega
    subst e2'
    clear hput e2
    go_wp2_with fail
    refine (drawPutText a n cap zs _ (hr.below c3 (Nat.le_refl _)) hnm).mono ?_
    rintro e w4 ⟨vc, vt, cs, ts, rfl, hc3, ht21, hcr, htr, rc, rt, b4⟩
    have c4 := c3.trans (b4.mono c3.size)
    obtain ⟨ac, cpc, rfl, hdc, _, _⟩ := id rc
    obtain ⟨at', cpt, rfl, hdt, _, _⟩ := id rt
    go_wp2_with fail
    refine (iPutT ac at' cs.length cpc ts.length cpt cs ts w4 hdc hdt (by omega) (by omega)).mono ?_
    rintro e w5 ⟨v5, rfl, o5, b5⟩
    have c5 := c4.trans (b5.mono c4.size)
    have hyr : ∀ y ∈ textL cs ts, 0 ≤ y ∧ y ≤ 255 := textL_rng hcr htr
    obtain ⟨a5, cp5, rfl, hd5, hl5, hm5⟩ := Ow.rv o5 hyr
    have hm5' : cp5 ≤ 9223372036854775807 := by unfold maxLen at hm5; omega
    have hl5' : (textL cs ts).length ≤ 2097152 := by have := textL_len cs ts; omega
    go_wp2_with fail
    refine (iGetT a5 (textL cs ts).length cp5 (textL cs ts) cs.length w5 hd5 hl5' hl5 hm5' (by omega)).mono ?_
    rintro e w6 ⟨v6, rfl, o6, b6⟩
    have c6 := c5.trans (b6.mono c5.size)
    have rt6 : RV w6 (.slice at' ts.length cpt) ts := (rt.ext (ext_below b5)).ext (ext_below b6)
    have hgt := gt_put cs ts
    by_cases h20 : ts.length ≤ 20
    · have hg2 := hgt h20
      rw [hg2] at o6 ⊢
      clear hgt hg2
      have h20' : (ts.length : Int) ≤ 20 := by omega
      obtain ⟨a6, cp6, rfl, hd6, _, _⟩ := Ow.rv o6 htr
      obtain ⟨at6, cpt6, he6, hdt6, _, _⟩ := rt6
      simp only [Value.slice.injEq] at he6
      obtain ⟨rfl, _, rfl⟩ := he6
      go_wp2_with fail
      refine (same a6 at' ts.length cp6 ts.length cpt ts ts w6 hd6 hdt6).mono ?_
      rintro e w6' ⟨rfl, rfl⟩
      simp only [decide_true]
      go_wp2_with fail
      refine (drawGetNum a n cap zs _ (hr.below c6 (Nat.le_refl _)) hnm).mono ?_
      rintro e w7 ⟨v7, fr, ds, rfl, ha60, hfr, har, r7, b7⟩
      have c7 := c6.trans (b7.mono c6.size)
      obtain ⟨a7, cp7, rfl, hd7, hl7, hm7⟩ := id r7
      have hm7' : cp7 ≤ 9223372036854775807 := by unfold maxLen at hm7; omega
      go_wp2_with fail
      refine (iGet a7 ds.length cp7 ds fr w7 hd7 (by omega) hl7 hm7' hfr.2).mono ?_
      rintro e w8 ⟨rfl, rfl⟩
      have hinv := gn_inv ds fr har
      have hfa := gn_facts ds fr har
      obtain ⟨k, st, hks⟩ : ∃ k st, gn ds fr = (k, st) := ⟨_, _, rfl⟩
      rw [hks] at hinv hfa ⊢
      rw [pairV]
      clear hks
      by_cases hst : st < 0
      · go_wp2
        go_quiet (fail)
        go_wp2
        go_ret
        exact ⟨rfl, below_drewN c7 nq⟩
      · obtain ⟨hfr0, heq⟩ := hinv (by simp only; omega)
        have hb : 0 ≤ k ∧ k ≤ 2147483647 ∧ 0 ≤ fr ∧ fr < st ∧ st ≤ ds.length := by
          rcases hfa with h | h
          · simp only [Prod.mk.injEq] at h; omega
          · exact h
        clear hinv hfa
        obtain ⟨f, rfl⟩ := Int.eq_ofNat_of_zero_le hfr0
        obtain ⟨s, rfl⟩ := Int.eq_ofNat_of_zero_le (show 0 ≤ st by omega)
        simp only [Int.toNat_natCast] at heq
        have hsl : s ≤ ds.length := by omega
        have hfl : f ≤ ds.length := by omega
        have hfc : (f : Int) ≤ (cp7 : Int) := by omega
        have hsc : (s : Int) ≤ (cp7 : Int) := by omega
        have hst' : ¬ (s : Int) < 0 := by omega
        have HP : Hid (∀ w', Ext w8 w' → Calls Try.prog 5 #[.slice a7 f cp7, .int .i64 k] w' fun e w'' => ∃ v, e = .returned v ∧ Ow w'' w'.heap.size v (ds.take s) ∧ Below w'.heap.size w' w'') := fun w' hx => by
          have := iPut a7 f cp7 (ds.take f) k w' ((rd_head hd7 f hfl).grown hx) (by omega)
          rw [heq] at this
          exact this
        have hsr : ∀ y ∈ ds.take s, 0 ≤ y ∧ y ≤ 255 := take_rng har s
        have hlt : (ds.take s).length = s := by simp; omega
        have HT : Hid (∀ (v : Value) (w' : World), Ext w8 w' → RV w' v (ds.take s) → Calls Try.prog 10 #[v, .slice a7 s cp7] w' fun e w'' => e = .returned (.bool true) ∧ w'' = w') := fun v w' hx hv => by
          obtain ⟨av, cpv, rfl, hdv, _, _⟩ := hv
          have := same av a7 (ds.take s).length cpv s cp7 (ds.take s) (ds.take s) w' hdv ((rd_head hd7 s hsl).grown hx)
          simpa using this
        clear heq hlt
        have x0 : Ext w8 w8.drew := ext_drewN w8 1
        have x8 : Ext w8 w8 := World.grownBy.refl _ _
        have hd : decide ((s : Int) < 0) = false := by simp
        clear hst' hst
        go_wp2
        go_region_held3 (fun w' => Ext w8 w') (assumption) (first | (go_at_call 5; refine (HP.out _ ?_).mono ?_; exact x0; rintro e w9 ⟨v9, rfl, o9, b9⟩; have x9 : Ext w8 w9 := x0.tr (ext_below b9)) | (go_at_call 10; refine (HT.out _ _ ?_ ?_).mono ?_; exact x9; exact o9.rv hsr; rintro e w10 ⟨rfl, rfl⟩))
        all_goals
          go_wp2
          go_ret
          exact ⟨rfl, (below_drewN c7 1).trans (b9.mono c7.size)⟩
    · clear hgt
      have h20' : ¬ (ts.length : Int) ≤ 20 := by omega
      obtain ⟨us, en, hue⟩ : ∃ us en, gt (textL cs ts) cs.length = (us, en) := ⟨_, _, rfl⟩
      rw [hue] at o6 ⊢
      clear hue
      go_wp2_with fail
      refine (drawGetNum a n cap zs _ (hr.below c6 (Nat.le_refl _)) hnm).mono ?_
      rintro e w7 ⟨v7, fr, ds, rfl, ha60, hfr, har, r7, b7⟩
      have c7 := c6.trans (b7.mono c6.size)
      obtain ⟨a7, cp7, rfl, hd7, hl7, hm7⟩ := id r7
      have hm7' : cp7 ≤ 9223372036854775807 := by unfold maxLen at hm7; omega
      go_wp2_with fail
      refine (iGet a7 ds.length cp7 ds fr w7 hd7 (by omega) hl7 hm7' hfr.2).mono ?_
      rintro e w8 ⟨rfl, rfl⟩
      have hinv := gn_inv ds fr har
      have hfa := gn_facts ds fr har
      obtain ⟨k, st, hks⟩ : ∃ k st, gn ds fr = (k, st) := ⟨_, _, rfl⟩
      rw [hks] at hinv hfa ⊢
      rw [pairV]
      clear hks
      by_cases hst : st < 0
      · go_wp2
        go_quiet (fail)
        go_wp2
        go_ret
        exact ⟨rfl, below_drewN c7 nq⟩
      · obtain ⟨hfr0, heq⟩ := hinv (by simp only; omega)
        have hb : 0 ≤ k ∧ k ≤ 2147483647 ∧ 0 ≤ fr ∧ fr < st ∧ st ≤ ds.length := by
          rcases hfa with h | h
          · simp only [Prod.mk.injEq] at h; omega
          · exact h
        clear hinv hfa
        obtain ⟨f, rfl⟩ := Int.eq_ofNat_of_zero_le hfr0
        obtain ⟨s, rfl⟩ := Int.eq_ofNat_of_zero_le (show 0 ≤ st by omega)
        simp only [Int.toNat_natCast] at heq
        have hsl : s ≤ ds.length := by omega
        have hfl : f ≤ ds.length := by omega
        have hfc : (f : Int) ≤ (cp7 : Int) := by omega
        have hsc : (s : Int) ≤ (cp7 : Int) := by omega
        have hst' : ¬ (s : Int) < 0 := by omega
        have HP : Hid (∀ w', Ext w8 w' → Calls Try.prog 5 #[.slice a7 f cp7, .int .i64 k] w' fun e w'' => ∃ v, e = .returned v ∧ Ow w'' w'.heap.size v (ds.take s) ∧ Below w'.heap.size w' w'') := fun w' hx => by
          have := iPut a7 f cp7 (ds.take f) k w' ((rd_head hd7 f hfl).grown hx) (by omega)
          rw [heq] at this
          exact this
        have hsr : ∀ y ∈ ds.take s, 0 ≤ y ∧ y ≤ 255 := take_rng har s
        have hlt : (ds.take s).length = s := by simp; omega
        have HT : Hid (∀ (v : Value) (w' : World), Ext w8 w' → RV w' v (ds.take s) → Calls Try.prog 10 #[v, .slice a7 s cp7] w' fun e w'' => e = .returned (.bool true) ∧ w'' = w') := fun v w' hx hv => by
          obtain ⟨av, cpv, rfl, hdv, _, _⟩ := hv
          have := same av a7 (ds.take s).length cpv s cp7 (ds.take s) (ds.take s) w' hdv ((rd_head hd7 s hsl).grown hx)
          simpa using this
        clear heq hlt
        have x0 : Ext w8 w8.drew := ext_drewN w8 1
        have x8 : Ext w8 w8 := World.grownBy.refl _ _
        have hd : decide ((s : Int) < 0) = false := by simp
        clear hst' hst
        go_wp2
        go_region_held3 (fun w' => Ext w8 w') (assumption) (first | (go_at_call 5; refine (HP.out _ ?_).mono ?_; exact x0; rintro e w9 ⟨v9, rfl, o9, b9⟩; have x9 : Ext w8 w9 := x0.tr (ext_below b9)) | (go_at_call 10; refine (HT.out _ _ ?_ ?_).mono ?_; exact x9; exact o9.rv hsr; rintro e w10 ⟨rfl, rfl⟩))
        all_goals
          go_wp2
          go_ret
          exact ⟨rfl, (below_drewN c7 1).trans (b9.mono c7.size)⟩
  · clear hput
    by_cases hq0 : 0 ≤ q
    · have hq1 : ¬ q ≤ 2147483647 := by omega
      go_wp2_with fail
      refine (drawPutText a n cap zs _ (hr.below c3 (Nat.le_refl _)) hnm).mono ?_
      rintro e w4 ⟨vc, vt, cs, ts, rfl, hc3, ht21, hcr, htr, rc, rt, b4⟩
      have c4 := c3.trans (b4.mono c3.size)
      obtain ⟨ac, cpc, rfl, hdc, _, _⟩ := id rc
      obtain ⟨at', cpt, rfl, hdt, _, _⟩ := id rt
      go_wp2_with fail
      refine (iPutT ac at' cs.length cpc ts.length cpt cs ts w4 hdc hdt (by omega) (by omega)).mono ?_
      rintro e w5 ⟨v5, rfl, o5, b5⟩
      have c5 := c4.trans (b5.mono c4.size)
      have hyr : ∀ y ∈ textL cs ts, 0 ≤ y ∧ y ≤ 255 := textL_rng hcr htr
      obtain ⟨a5, cp5, rfl, hd5, hl5, hm5⟩ := Ow.rv o5 hyr
      have hm5' : cp5 ≤ 9223372036854775807 := by unfold maxLen at hm5; omega
      have hl5' : (textL cs ts).length ≤ 2097152 := by have := textL_len cs ts; omega
      go_wp2_with fail
      refine (iGetT a5 (textL cs ts).length cp5 (textL cs ts) cs.length w5 hd5 hl5' hl5 hm5' (by omega)).mono ?_
      rintro e w6 ⟨v6, rfl, o6, b6⟩
      have c6 := c5.trans (b6.mono c5.size)
      have rt6 : RV w6 (.slice at' ts.length cpt) ts := (rt.ext (ext_below b5)).ext (ext_below b6)
      have hgt := gt_put cs ts
      by_cases h20 : ts.length ≤ 20
      · have hg2 := hgt h20
        rw [hg2] at o6 ⊢
        clear hgt hg2
        have h20' : (ts.length : Int) ≤ 20 := by omega
        obtain ⟨a6, cp6, rfl, hd6, _, _⟩ := Ow.rv o6 htr
        obtain ⟨at6, cpt6, he6, hdt6, _, _⟩ := rt6
        simp only [Value.slice.injEq] at he6
        obtain ⟨rfl, _, rfl⟩ := he6
        go_wp2_with fail
        refine (same a6 at' ts.length cp6 ts.length cpt ts ts w6 hd6 hdt6).mono ?_
        rintro e w6' ⟨rfl, rfl⟩
        simp only [decide_true]
        go_wp2_with fail
        refine (drawGetNum a n cap zs _ (hr.below c6 (Nat.le_refl _)) hnm).mono ?_
        rintro e w7 ⟨v7, fr, ds, rfl, ha60, hfr, har, r7, b7⟩
        have c7 := c6.trans (b7.mono c6.size)
        obtain ⟨a7, cp7, rfl, hd7, hl7, hm7⟩ := id r7
        have hm7' : cp7 ≤ 9223372036854775807 := by unfold maxLen at hm7; omega
        go_wp2_with fail
        refine (iGet a7 ds.length cp7 ds fr w7 hd7 (by omega) hl7 hm7' hfr.2).mono ?_
        rintro e w8 ⟨rfl, rfl⟩
        have hinv := gn_inv ds fr har
        have hfa := gn_facts ds fr har
        obtain ⟨k, st, hks⟩ : ∃ k st, gn ds fr = (k, st) := ⟨_, _, rfl⟩
        rw [hks] at hinv hfa ⊢
        rw [pairV]
        clear hks
        by_cases hst : st < 0
        · go_wp2
          go_quiet (fail)
          go_wp2
          go_ret
          exact ⟨rfl, below_drewN c7 nq⟩
        · obtain ⟨hfr0, heq⟩ := hinv (by simp only; omega)
          have hb : 0 ≤ k ∧ k ≤ 2147483647 ∧ 0 ≤ fr ∧ fr < st ∧ st ≤ ds.length := by
            rcases hfa with h | h
            · simp only [Prod.mk.injEq] at h; omega
            · exact h
          clear hinv hfa
          obtain ⟨f, rfl⟩ := Int.eq_ofNat_of_zero_le hfr0
          obtain ⟨s, rfl⟩ := Int.eq_ofNat_of_zero_le (show 0 ≤ st by omega)
          simp only [Int.toNat_natCast] at heq
          have hsl : s ≤ ds.length := by omega
          have hfl : f ≤ ds.length := by omega
          have hfc : (f : Int) ≤ (cp7 : Int) := by omega
          have hsc : (s : Int) ≤ (cp7 : Int) := by omega
          have hst' : ¬ (s : Int) < 0 := by omega
          have HP : Hid (∀ w', Ext w8 w' → Calls Try.prog 5 #[.slice a7 f cp7, .int .i64 k] w' fun e w'' => ∃ v, e = .returned v ∧ Ow w'' w'.heap.size v (ds.take s) ∧ Below w'.heap.size w' w'') := fun w' hx => by
            have := iPut a7 f cp7 (ds.take f) k w' ((rd_head hd7 f hfl).grown hx) (by omega)
            rw [heq] at this
            exact this
          have hsr : ∀ y ∈ ds.take s, 0 ≤ y ∧ y ≤ 255 := take_rng har s
          have hlt : (ds.take s).length = s := by simp; omega
          have HT : Hid (∀ (v : Value) (w' : World), Ext w8 w' → RV w' v (ds.take s) → Calls Try.prog 10 #[v, .slice a7 s cp7] w' fun e w'' => e = .returned (.bool true) ∧ w'' = w') := fun v w' hx hv => by
            obtain ⟨av, cpv, rfl, hdv, _, _⟩ := hv
            have := same av a7 (ds.take s).length cpv s cp7 (ds.take s) (ds.take s) w' hdv ((rd_head hd7 s hsl).grown hx)
            simpa using this
          clear heq hlt
          have x0 : Ext w8 w8.drew := ext_drewN w8 1
          have x8 : Ext w8 w8 := World.grownBy.refl _ _
          have hd : decide ((s : Int) < 0) = false := by simp
          clear hst' hst
          go_wp2
          go_region_held3 (fun w' => Ext w8 w') (assumption) (first | (go_at_call 5; refine (HP.out _ ?_).mono ?_; exact x0; rintro e w9 ⟨v9, rfl, o9, b9⟩; have x9 : Ext w8 w9 := x0.tr (ext_below b9)) | (go_at_call 10; refine (HT.out _ _ ?_ ?_).mono ?_; exact x9; exact o9.rv hsr; rintro e w10 ⟨rfl, rfl⟩))
          all_goals
            go_wp2
            go_ret
            exact ⟨rfl, (below_drewN c7 1).trans (b9.mono c7.size)⟩
      · clear hgt
        have h20' : ¬ (ts.length : Int) ≤ 20 := by omega
        obtain ⟨us, en, hue⟩ : ∃ us en, gt (textL cs ts) cs.length = (us, en) := ⟨_, _, rfl⟩
        rw [hue] at o6 ⊢
        clear hue
        go_wp2_with fail
        refine (drawGetNum a n cap zs _ (hr.below c6 (Nat.le_refl _)) hnm).mono ?_
        rintro e w7 ⟨v7, fr, ds, rfl, ha60, hfr, har, r7, b7⟩
        have c7 := c6.trans (b7.mono c6.size)
        obtain ⟨a7, cp7, rfl, hd7, hl7, hm7⟩ := id r7
        have hm7' : cp7 ≤ 9223372036854775807 := by unfold maxLen at hm7; omega
        go_wp2_with fail
        refine (iGet a7 ds.length cp7 ds fr w7 hd7 (by omega) hl7 hm7' hfr.2).mono ?_
        rintro e w8 ⟨rfl, rfl⟩
        have hinv := gn_inv ds fr har
        have hfa := gn_facts ds fr har
        obtain ⟨k, st, hks⟩ : ∃ k st, gn ds fr = (k, st) := ⟨_, _, rfl⟩
        rw [hks] at hinv hfa ⊢
        rw [pairV]
        clear hks
        by_cases hst : st < 0
        · go_wp2
          go_quiet (fail)
          go_wp2
          go_ret
          exact ⟨rfl, below_drewN c7 nq⟩
        · obtain ⟨hfr0, heq⟩ := hinv (by simp only; omega)
          have hb : 0 ≤ k ∧ k ≤ 2147483647 ∧ 0 ≤ fr ∧ fr < st ∧ st ≤ ds.length := by
            rcases hfa with h | h
            · simp only [Prod.mk.injEq] at h; omega
            · exact h
          clear hinv hfa
          obtain ⟨f, rfl⟩ := Int.eq_ofNat_of_zero_le hfr0
          obtain ⟨s, rfl⟩ := Int.eq_ofNat_of_zero_le (show 0 ≤ st by omega)
          simp only [Int.toNat_natCast] at heq
          have hsl : s ≤ ds.length := by omega
          have hfl : f ≤ ds.length := by omega
          have hfc : (f : Int) ≤ (cp7 : Int) := by omega
          have hsc : (s : Int) ≤ (cp7 : Int) := by omega
          have hst' : ¬ (s : Int) < 0 := by omega
          have HP : Hid (∀ w', Ext w8 w' → Calls Try.prog 5 #[.slice a7 f cp7, .int .i64 k] w' fun e w'' => ∃ v, e = .returned v ∧ Ow w'' w'.heap.size v (ds.take s) ∧ Below w'.heap.size w' w'') := fun w' hx => by
            have := iPut a7 f cp7 (ds.take f) k w' ((rd_head hd7 f hfl).grown hx) (by omega)
            rw [heq] at this
            exact this
          have hsr : ∀ y ∈ ds.take s, 0 ≤ y ∧ y ≤ 255 := take_rng har s
          have hlt : (ds.take s).length = s := by simp; omega
          have HT : Hid (∀ (v : Value) (w' : World), Ext w8 w' → RV w' v (ds.take s) → Calls Try.prog 10 #[v, .slice a7 s cp7] w' fun e w'' => e = .returned (.bool true) ∧ w'' = w') := fun v w' hx hv => by
            obtain ⟨av, cpv, rfl, hdv, _, _⟩ := hv
            have := same av a7 (ds.take s).length cpv s cp7 (ds.take s) (ds.take s) w' hdv ((rd_head hd7 s hsl).grown hx)
            simpa using this
          clear heq hlt
          have x0 : Ext w8 w8.drew := ext_drewN w8 1
          have x8 : Ext w8 w8 := World.grownBy.refl _ _
          have hd : decide ((s : Int) < 0) = false := by simp
          clear hst' hst
          go_wp2
          go_region_held3 (fun w' => Ext w8 w') (assumption) (first | (go_at_call 5; refine (HP.out _ ?_).mono ?_; exact x0; rintro e w9 ⟨v9, rfl, o9, b9⟩; have x9 : Ext w8 w9 := x0.tr (ext_below b9)) | (go_at_call 10; refine (HT.out _ _ ?_ ?_).mono ?_; exact x9; exact o9.rv hsr; rintro e w10 ⟨rfl, rfl⟩))
          all_goals
            go_wp2
            go_ret
            exact ⟨rfl, (below_drewN c7 1).trans (b9.mono c7.size)⟩
    · have hq1 : ¬ 0 ≤ q := by omega
      go_wp2_with fail
      refine (drawPutText a n cap zs _ (hr.below c3 (Nat.le_refl _)) hnm).mono ?_
      rintro e w4 ⟨vc, vt, cs, ts, rfl, hc3, ht21, hcr, htr, rc, rt, b4⟩
      have c4 := c3.trans (b4.mono c3.size)
      obtain ⟨ac, cpc, rfl, hdc, _, _⟩ := id rc
      obtain ⟨at', cpt, rfl, hdt, _, _⟩ := id rt
      go_wp2_with fail
      refine (iPutT ac at' cs.length cpc ts.length cpt cs ts w4 hdc hdt (by omega) (by omega)).mono ?_
      rintro e w5 ⟨v5, rfl, o5, b5⟩
      have c5 := c4.trans (b5.mono c4.size)
      have hyr : ∀ y ∈ textL cs ts, 0 ≤ y ∧ y ≤ 255 := textL_rng hcr htr
      obtain ⟨a5, cp5, rfl, hd5, hl5, hm5⟩ := Ow.rv o5 hyr
      have hm5' : cp5 ≤ 9223372036854775807 := by unfold maxLen at hm5; omega
      have hl5' : (textL cs ts).length ≤ 2097152 := by have := textL_len cs ts; omega
      go_wp2_with fail
      refine (iGetT a5 (textL cs ts).length cp5 (textL cs ts) cs.length w5 hd5 hl5' hl5 hm5' (by omega)).mono ?_
      rintro e w6 ⟨v6, rfl, o6, b6⟩
      have c6 := c5.trans (b6.mono c5.size)
      have rt6 : RV w6 (.slice at' ts.length cpt) ts := (rt.ext (ext_below b5)).ext (ext_below b6)
      have hgt := gt_put cs ts
      by_cases h20 : ts.length ≤ 20
      · have hg2 := hgt h20
        rw [hg2] at o6 ⊢
        clear hgt hg2
        have h20' : (ts.length : Int) ≤ 20 := by omega
        obtain ⟨a6, cp6, rfl, hd6, _, _⟩ := Ow.rv o6 htr
        obtain ⟨at6, cpt6, he6, hdt6, _, _⟩ := rt6
        simp only [Value.slice.injEq] at he6
        obtain ⟨rfl, _, rfl⟩ := he6
        go_wp2_with fail
        refine (same a6 at' ts.length cp6 ts.length cpt ts ts w6 hd6 hdt6).mono ?_
        rintro e w6' ⟨rfl, rfl⟩
        simp only [decide_true]
        go_wp2_with fail
        refine (drawGetNum a n cap zs _ (hr.below c6 (Nat.le_refl _)) hnm).mono ?_
        rintro e w7 ⟨v7, fr, ds, rfl, ha60, hfr, har, r7, b7⟩
        have c7 := c6.trans (b7.mono c6.size)
        obtain ⟨a7, cp7, rfl, hd7, hl7, hm7⟩ := id r7
        have hm7' : cp7 ≤ 9223372036854775807 := by unfold maxLen at hm7; omega
        go_wp2_with fail
        refine (iGet a7 ds.length cp7 ds fr w7 hd7 (by omega) hl7 hm7' hfr.2).mono ?_
        rintro e w8 ⟨rfl, rfl⟩
        have hinv := gn_inv ds fr har
        have hfa := gn_facts ds fr har
        obtain ⟨k, st, hks⟩ : ∃ k st, gn ds fr = (k, st) := ⟨_, _, rfl⟩
        rw [hks] at hinv hfa ⊢
        rw [pairV]
        clear hks
        by_cases hst : st < 0
        · go_wp2
          go_quiet (fail)
          go_wp2
          go_ret
          exact ⟨rfl, below_drewN c7 nq⟩
        · obtain ⟨hfr0, heq⟩ := hinv (by simp only; omega)
          have hb : 0 ≤ k ∧ k ≤ 2147483647 ∧ 0 ≤ fr ∧ fr < st ∧ st ≤ ds.length := by
            rcases hfa with h | h
            · simp only [Prod.mk.injEq] at h; omega
            · exact h
          clear hinv hfa
          obtain ⟨f, rfl⟩ := Int.eq_ofNat_of_zero_le hfr0
          obtain ⟨s, rfl⟩ := Int.eq_ofNat_of_zero_le (show 0 ≤ st by omega)
          simp only [Int.toNat_natCast] at heq
          have hsl : s ≤ ds.length := by omega
          have hfl : f ≤ ds.length := by omega
          have hfc : (f : Int) ≤ (cp7 : Int) := by omega
          have hsc : (s : Int) ≤ (cp7 : Int) := by omega
          have hst' : ¬ (s : Int) < 0 := by omega
          have HP : Hid (∀ w', Ext w8 w' → Calls Try.prog 5 #[.slice a7 f cp7, .int .i64 k] w' fun e w'' => ∃ v, e = .returned v ∧ Ow w'' w'.heap.size v (ds.take s) ∧ Below w'.heap.size w' w'') := fun w' hx => by
            have := iPut a7 f cp7 (ds.take f) k w' ((rd_head hd7 f hfl).grown hx) (by omega)
            rw [heq] at this
            exact this
          have hsr : ∀ y ∈ ds.take s, 0 ≤ y ∧ y ≤ 255 := take_rng har s
          have hlt : (ds.take s).length = s := by simp; omega
          have HT : Hid (∀ (v : Value) (w' : World), Ext w8 w' → RV w' v (ds.take s) → Calls Try.prog 10 #[v, .slice a7 s cp7] w' fun e w'' => e = .returned (.bool true) ∧ w'' = w') := fun v w' hx hv => by
            obtain ⟨av, cpv, rfl, hdv, _, _⟩ := hv
            have := same av a7 (ds.take s).length cpv s cp7 (ds.take s) (ds.take s) w' hdv ((rd_head hd7 s hsl).grown hx)
            simpa using this
          clear heq hlt
          have x0 : Ext w8 w8.drew := ext_drewN w8 1
          have x8 : Ext w8 w8 := World.grownBy.refl _ _
          have hd : decide ((s : Int) < 0) = false := by simp
          clear hst' hst
          go_wp2
          go_region_held3 (fun w' => Ext w8 w') (assumption) (first | (go_at_call 5; refine (HP.out _ ?_).mono ?_; exact x0; rintro e w9 ⟨v9, rfl, o9, b9⟩; have x9 : Ext w8 w9 := x0.tr (ext_below b9)) | (go_at_call 10; refine (HT.out _ _ ?_ ?_).mono ?_; exact x9; exact o9.rv hsr; rintro e w10 ⟨rfl, rfl⟩))
          all_goals
            go_wp2
            go_ret
            exact ⟨rfl, (below_drewN c7 1).trans (b9.mono c7.size)⟩
      · clear hgt
        have h20' : ¬ (ts.length : Int) ≤ 20 := by omega
        obtain ⟨us, en, hue⟩ : ∃ us en, gt (textL cs ts) cs.length = (us, en) := ⟨_, _, rfl⟩
        rw [hue] at o6 ⊢
        clear hue
        go_wp2_with fail
        refine (drawGetNum a n cap zs _ (hr.below c6 (Nat.le_refl _)) hnm).mono ?_
        rintro e w7 ⟨v7, fr, ds, rfl, ha60, hfr, har, r7, b7⟩
        have c7 := c6.trans (b7.mono c6.size)
        obtain ⟨a7, cp7, rfl, hd7, hl7, hm7⟩ := id r7
        have hm7' : cp7 ≤ 9223372036854775807 := by unfold maxLen at hm7; omega
        go_wp2_with fail
        refine (iGet a7 ds.length cp7 ds fr w7 hd7 (by omega) hl7 hm7' hfr.2).mono ?_
        rintro e w8 ⟨rfl, rfl⟩
        have hinv := gn_inv ds fr har
        have hfa := gn_facts ds fr har
        obtain ⟨k, st, hks⟩ : ∃ k st, gn ds fr = (k, st) := ⟨_, _, rfl⟩
        rw [hks] at hinv hfa ⊢
        rw [pairV]
        clear hks
        by_cases hst : st < 0
        · go_wp2
          go_quiet (fail)
          go_wp2
          go_ret
          exact ⟨rfl, below_drewN c7 nq⟩
        · obtain ⟨hfr0, heq⟩ := hinv (by simp only; omega)
          have hb : 0 ≤ k ∧ k ≤ 2147483647 ∧ 0 ≤ fr ∧ fr < st ∧ st ≤ ds.length := by
            rcases hfa with h | h
            · simp only [Prod.mk.injEq] at h; omega
            · exact h
          clear hinv hfa
          obtain ⟨f, rfl⟩ := Int.eq_ofNat_of_zero_le hfr0
          obtain ⟨s, rfl⟩ := Int.eq_ofNat_of_zero_le (show 0 ≤ st by omega)
          simp only [Int.toNat_natCast] at heq
          have hsl : s ≤ ds.length := by omega
          have hfl : f ≤ ds.length := by omega
          have hfc : (f : Int) ≤ (cp7 : Int) := by omega
          have hsc : (s : Int) ≤ (cp7 : Int) := by omega
          have hst' : ¬ (s : Int) < 0 := by omega
          have HP : Hid (∀ w', Ext w8 w' → Calls Try.prog 5 #[.slice a7 f cp7, .int .i64 k] w' fun e w'' => ∃ v, e = .returned v ∧ Ow w'' w'.heap.size v (ds.take s) ∧ Below w'.heap.size w' w'') := fun w' hx => by
            have := iPut a7 f cp7 (ds.take f) k w' ((rd_head hd7 f hfl).grown hx) (by omega)
            rw [heq] at this
            exact this
          have hsr : ∀ y ∈ ds.take s, 0 ≤ y ∧ y ≤ 255 := take_rng har s
          have hlt : (ds.take s).length = s := by simp; omega
          have HT : Hid (∀ (v : Value) (w' : World), Ext w8 w' → RV w' v (ds.take s) → Calls Try.prog 10 #[v, .slice a7 s cp7] w' fun e w'' => e = .returned (.bool true) ∧ w'' = w') := fun v w' hx hv => by
            obtain ⟨av, cpv, rfl, hdv, _, _⟩ := hv
            have := same av a7 (ds.take s).length cpv s cp7 (ds.take s) (ds.take s) w' hdv ((rd_head hd7 s hsl).grown hx)
            simpa using this
          clear heq hlt
          have x0 : Ext w8 w8.drew := ext_drewN w8 1
          have x8 : Ext w8 w8 := World.grownBy.refl _ _
          have hd : decide ((s : Int) < 0) = false := by simp
          clear hst' hst
          go_wp2
          go_region_held3 (fun w' => Ext w8 w') (assumption) (first | (go_at_call 5; refine (HP.out _ ?_).mono ?_; exact x0; rintro e w9 ⟨v9, rfl, o9, b9⟩; have x9 : Ext w8 w9 := x0.tr (ext_below b9)) | (go_at_call 10; refine (HT.out _ _ ?_ ?_).mono ?_; exact x9; exact o9.rv hsr; rintro e w10 ⟨rfl, rfl⟩))
          all_goals
            go_wp2
            go_ret
            exact ⟨rfl, (below_drewN c7 1).trans (b9.mono c7.size)⟩

end Go.Proofs.Ytbkifmbkmjjbnab
