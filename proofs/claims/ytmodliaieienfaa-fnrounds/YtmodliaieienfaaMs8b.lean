
/- The specification's l10say: what is said of a member that is there. -/
import Derived.Test.YtmodliaieienfaaMs8a
import Derived.Deep.RegionWith
namespace Go.Proofs.Ytmodliaieienfaa
open Go.RowKit

theorem say_set3 {w w2 : World} {gt base g cap n i q : Nat} {T : DTab} (m : DMem) (PT : w2.heap[gt]? = some (.cells #[.int .i64 T.self, .slice (some ⟨g, 0, none⟩) n cap] 28 (0, 0))) (O : OwMem w2 base (.slice (some ⟨g, 0, none⟩) n cap) T.mems) (hn : n = T.mems.length) (hin : i < n) (hne : g ≠ gt) (X : Ext w w2) :
    ((((w2.drewN q).setCell ⟨g, i * 3, none⟩ (.int .i64 m.id)).setCell ⟨g, i * 3 + 1, none⟩ (.int .i64 m.st)).setCell ⟨g, i * 3 + 2, none⟩ (.int .i64 m.life)).heap[gt]? = some (.cells #[.int .i64 T.self, .slice (some ⟨g, 0, none⟩) n cap] 28 (0, 0)) ∧ OwMem ((((w2.drewN q).setCell ⟨g, i * 3, none⟩ (.int .i64 m.id)).setCell ⟨g, i * 3 + 1, none⟩ (.int .i64 m.st)).setCell ⟨g, i * 3 + 2, none⟩ (.int .i64 m.life)) base (.slice (some ⟨g, 0, none⟩) n cap) (T.mems.set i m) ∧ SayW gt (some g) w ((((w2.drewN q).setCell ⟨g, i * 3, none⟩ (.int .i64 m.id)).setCell ⟨g, i * 3 + 1, none⟩ (.int .i64 m.st)).setCell ⟨g, i * 3 + 2, none⟩ (.int .i64 m.life)) := by
  have PD : (w2.drewN q).heap[gt]? = some (.cells #[.int .i64 T.self, .slice (some ⟨g, 0, none⟩) n cap] 28 (0, 0)) := PT
  have hg : ∀ k, some g = some k → k = gt ∨ some k = some g ∨ w.heap.size ≤ k := fun k hk => .inr (.inl hk.symm)
  exact ⟨set_other g _ _ (Ne.symm hne) (set_other g _ _ (Ne.symm hne) (set_other g _ _ (Ne.symm hne) PD)), (O.ext (ext_drewN w2 q)).set hn i hin m, (((SayW.ext (X.tr (ext_drewN w2 q))).grown (set_grown _ g _ _) hg).grown (set_grown _ g _ _) hg).grown (set_grown _ g _ _) hg⟩
theorem say_set1 {w w2 : World} {gt base g cap n i q : Nat} {T : DTab} {t : DMem} (x : Int) (PT : w2.heap[gt]? = some (.cells #[.int .i64 T.self, .slice (some ⟨g, 0, none⟩) n cap] 28 (0, 0))) (O : OwMem w2 base (.slice (some ⟨g, 0, none⟩) n cap) T.mems) (hn : n = T.mems.length) (ht : T.mems[i]? = some t) (hne : g ≠ gt) (X : Ext w w2) :
    ((w2.drewN q).setCell ⟨g, i * 3 + 2, none⟩ (.int .i64 x)).heap[gt]? = some (.cells #[.int .i64 T.self, .slice (some ⟨g, 0, none⟩) n cap] 28 (0, 0)) ∧ OwMem ((w2.drewN q).setCell ⟨g, i * 3 + 2, none⟩ (.int .i64 x)) base (.slice (some ⟨g, 0, none⟩) n cap) (T.mems.set i ⟨t.id, t.st, x⟩) ∧ SayW gt (some g) w ((w2.drewN q).setCell ⟨g, i * 3 + 2, none⟩ (.int .i64 x)) := by
  have PD : (w2.drewN q).heap[gt]? = some (.cells #[.int .i64 T.self, .slice (some ⟨g, 0, none⟩) n cap] 28 (0, 0)) := PT
  have hg : ∀ k, some g = some k → k = gt ∨ some k = some g ∨ w.heap.size ≤ k := fun k hk => .inr (.inl hk.symm)
  exact ⟨set_other g _ _ (Ne.symm hne) PD, (O.ext (ext_drewN w2 q)).put2 hn ht x, (SayW.ext (X.tr (ext_drewN w2 q))).grown (set_grown _ g _ _) hg⟩

set_option maxRecDepth 20000 in
set_option maxHeartbeats 8000000 in
theorem sSay_some (gt base g cap n i : Nat) (T : DTab) (m t : DMem) (w : World) (hb : w.heap[gt]? = some (.cells #[.int .i64 T.self, .slice (some ⟨g, 0, none⟩) n cap] 28 (0, 0))) (ho : OwMem w base (.slice (some ⟨g, 0, none⟩) n cap) T.mems) (hn : n = T.mems.length) (hl : n ≤ 1000000) (hp : placeM T.mems m.id = (i : Int)) (ht : T.mems[i]? = some t) (hne : g ≠ gt) (hlo : -9223372036854775808 ≤ m.life) :
    Calls Try.prog 41 #[.pointer (some ⟨gt, 0, none⟩), .agg #[.int .i64 m.id, .int .i64 m.st, .int .i64 m.life]] w fun e w' => e = .returned (.bool (overD T m t i).2) ∧ w'.heap[gt]? = some (.cells #[.int .i64 T.self, .slice (some ⟨g, 0, none⟩) n cap] 28 (0, 0)) ∧ OwMem w' base (.slice (some ⟨g, 0, none⟩) n cap) (overD T m t i).1.mems ∧ SayW gt (some g) w w' := by
  have hE : ∀ w : World, ∀ o, Ext w (w.alloc o) := fun w o => World.grownBy_alloc _ _ _
  have HNN : Hid (n = T.mems.length) := hn
  have hin : i < n := by have := (List.getElem?_eq_some_iff.1 ht).1; omega
  have hin' : (i : Int) < (n : Int) := by omega
  obtain ⟨R, hR⟩ : ∃ R, R = overD T m t i := ⟨_, rfl⟩
  rw [← hR]
  have HR : Hid (R = overD T m t i) := hR
  clear hR hn
  go_enter Try.func41, Try.ntmps41
  go_wp2_with fail
  have PM := heap_alloc_new w (.cells #[.int .i64 m.id, .int .i64 m.st, .int .i64 m.life] 40 (0, 0))
  have X0 := hE w (.cells #[.int .i64 m.id, .int .i64 m.st, .int .i64 m.life] 40 (0, 0))
  generalize w.alloc (.cells #[.int .i64 m.id, .int .i64 m.st, .int .i64 m.life] 40 (0, 0)) = W at PM X0 ⊢
  have HV : Hid (VTab W (.agg #[.int .i64 T.self, .slice (some ⟨g, 0, none⟩) n cap]) T) := ⟨_, rfl, ho.v.ext X0⟩
  have HF : Hid (∀ W', Ext W W' → Calls Try.prog 18 #[.agg #[.int .i64 T.self, .slice (some ⟨g, 0, none⟩) n cap], .int .i64 m.id] W' fun e w' => e = .returned (.int .i64 (i : Int)) ∧ Below W'.heap.size W' w') := fun W' e => by rw [← hp]; exact sFindV _ T m.id W' (HV.out.ext e) (by have := HNN.out; omega)
  have HBX : Hid (w.heap[gt]? = some (.cells #[.int .i64 T.self, .slice (some ⟨g, 0, none⟩) n cap] 28 (0, 0))) := hb
  have HPM : Hid (W.heap[w.heap.size]? = some (.cells #[.int .i64 m.id, .int .i64 m.st, .int .i64 m.life] 40 (0, 0))) := PM
  obtain ⟨q0, q1⟩ := two_cells (ext_blk X0 hb)
  have m0 := (at_block PM 0 _ rfl).1
  have m1 := (at_block PM 1 _ rfl).1
  have m2 := (at_block PM 2 _ rfl).1
  have q0w := bw_cell q0
  have q1w := bw_cell q1
  have m0w := bw_cell m0
  have nonV := bw_ne W
  refine wp_region_bw (by kernel_rfl) (by kernel_rfl) ?_
  repeat (go_big_quiet_step ((go_at_call 18; exact bw_below (HF.out _ (bw_ext _)))))
  refine wpQuiet_nil ?_
  intro _ hw'
  obtain ⟨z, hw''⟩ := hw'
  subst hw''
  have X1 : Ext w z.u := X0.tr (bw_ext z)
  have PM1 := ext_blk (bw_ext z) PM
  have HO1 : Hid (OwMem z.u base (.slice (some ⟨g, 0, none⟩) n cap) T.mems) := ho.ext X1
  generalize z.u = w1 at X1 PM1 HO1 ⊢
  clear q0 q1 m0 m1 m2 q0w q1w m0w nonV HF HV PM z X0 ho hb
  obtain ⟨q0, q1⟩ := two_cells (ext_blk X1 HBX.out)
  have m0 := (at_block PM1 0 _ rfl).1
  have m1 := (at_block PM1 1 _ rfl).1
  have m2 := (at_block PM1 2 _ rfl).1
  obtain ⟨c0, c1, c2, k0, k1, k2⟩ := HO1.out.cells HNN.out ht
  have q0w := bw_cell q0
  have q1w := bw_cell q1
  have m0w := bw_cell m0
  have m1w := bw_cell m1
  have m2w := bw_cell m2
  have c0w := bw_cell c0
  have c1w := bw_cell c1
  have c2w := bw_cell c2
  have nonV := bw_ne w1
  have HB : Hid (∀ W', Calls Try.prog 53 #[.agg #[.int .i64 m.id, .int .i64 m.st, .int .i64 m.life], .agg #[.int .i64 t.id, .int .i64 t.st, .int .i64 t.life]] W' fun e w' => e = .returned (.bool (beatsB m t)) ∧ Below W'.heap.size W' w') := fun W' => sBeatsV m t W'
  go_wp2_with fail
  refine wp_region_bw (by kernel_rfl) (by kernel_rfl) ?_
  repeat (go_big_quiet_step ((go_at_call 53; exact bw_below (HB.out _))))
  refine wpQuiet_nil ?_
  intro _ hw'
  obtain ⟨z, hw''⟩ := hw'
  subst hw''
  have X2 : Ext w z.u := X1.tr (bw_ext z)
  have PM2 := ext_blk (bw_ext z) PM1
  have HO2 : Hid (OwMem z.u base (.slice (some ⟨g, 0, none⟩) n cap) T.mems) := HO1.out.ext (bw_ext z)
  generalize z.u = w2 at X2 PM2 HO2 ⊢
  clear q0 q1 m0 m1 m2 q0w q1w m0w m1w m2w c0w c1w c2w nonV c0 c1 c2 k0 k1 k2 z X1 PM1 HO1 HB
  have PT2 := ext_blk X2 HBX.out
  obtain ⟨q0, q1⟩ := two_cells PT2
  have m0 := (at_block PM2 0 _ rfl).1
  have m1 := (at_block PM2 1 _ rfl).1
  have m2 := (at_block PM2 2 _ rfl).1
  obtain ⟨c0, c1, c2, k0, k1, k2⟩ := HO2.out.cells HNN.out ht
  cases hbt : beatsB m t
  · have HK : Hid (R = (T, false)) := by show _ = _; rw [HR.out]; unfold overD; rw [if_pos hbt]
    go_wp2
    go_ret
    rw [HK.out]
    exact ⟨rfl, PT2, HO2.out, SayW.ext X2⟩
  have HK1 : Hid (R = if m.id = T.self ∧ t.st = 0 ∧ m.st ≠ 0 ∧ m.life < 1000 then (⟨T.self, T.mems.set i ⟨t.id, t.st, m.life + 1⟩⟩, true) else if m.id = T.self ∧ t.st = 3 ∧ m.life < 1000 then (⟨T.self, T.mems.set i ⟨t.id, t.st, m.life⟩⟩, true) else (⟨T.self, T.mems.set i m⟩, true)) := by
    show _ = _
    rw [HR.out]
    unfold overD
    rw [if_neg (by rw [hbt]; decide)]
  clear hbt
  by_cases e1 : m.id = T.self
  · have e1' : (m.id == T.self) = true := by simpa using e1
    by_cases e2 : t.st = 0
    · have e2' : (t.st == 0) = true := by simpa using e2
      have e3' : (t.st == 3) = false := by rw [e2]; rfl
      by_cases e4 : m.st = 0
      · have e4' : (m.st == 0) = true := by simpa using e4
        have e4n : (m.st != 0) = false := by simpa using e4
        have HK : Hid (R = (⟨T.self, T.mems.set i m⟩, true)) := by show _ = _; rw [HK1.out, if_neg (fun h => h.2.2.1 e4), if_neg (fun h => by have := h.2.1; omega)]
        clear e1 e2 e4
        as_aux_lemma =>
          go_wp2_with fail
          go_quiet (fail)
          go_wp2_with fail
          go_quiet (fail)
          go_wp2_with fail
          go_region
          go_wp2
          go_ret
          rw [HK.out]
          obtain ⟨r1, r2, r3⟩ := say_set3 m PT2 HO2.out HNN.out hin hne X2
          exact ⟨rfl, r1, r2, r3⟩
      · have e4' : (m.st == 0) = false := by simpa using e4
        have e4n : (m.st != 0) = true := by simpa using e4
        cases e5 : decide (m.life < 1000)
        · have HK : Hid (R = (⟨T.self, T.mems.set i m⟩, true)) := by show _ = _; rw [HK1.out, if_neg (fun h => absurd h.2.2.2 (of_decide_eq_false e5)), if_neg (fun h => by have := h.2.1; omega)]
          clear e1 e2 e4
          as_aux_lemma =>
            go_wp2_with fail
            go_quiet (fail)
            go_wp2_with fail
            go_quiet (fail)
            go_wp2_with fail
            go_region
            go_wp2
            go_ret
            rw [HK.out]
            obtain ⟨r1, r2, r3⟩ := say_set3 m PT2 HO2.out HNN.out hin hne X2
            exact ⟨rfl, r1, r2, r3⟩
        · have HK : Hid (R = (⟨T.self, T.mems.set i ⟨t.id, t.st, m.life + 1⟩⟩, true)) := by show _ = _; rw [HK1.out, if_pos ⟨e1, e2, e4, of_decide_eq_true e5⟩]
          have hlf : m.life < 1000 := of_decide_eq_true e5
          clear e1 e2 e4
          as_aux_lemma =>
            go_wp2_with fail
            go_quiet (fail)
            go_wp2_with fail
            go_region
            go_wp2
            go_ret
            rw [HK.out]
            obtain ⟨r1, r2, r3⟩ := say_set1 (m.life + 1) PT2 HO2.out HNN.out ht hne X2
            exact ⟨rfl, r1, r2, r3⟩
    · have e2' : (t.st == 0) = false := by simpa using e2
      by_cases e3 : t.st = 3
      · have e3' : (t.st == 3) = true := by simpa using e3
        cases e5 : decide (m.life < 1000)
        · have HK : Hid (R = (⟨T.self, T.mems.set i m⟩, true)) := by show _ = _; rw [HK1.out, if_neg (fun h => e2 h.2.1), if_neg (fun h => absurd h.2.2 (of_decide_eq_false e5))]
          clear e1 e2 e3
          as_aux_lemma =>
            go_wp2_with fail
            go_quiet (fail)
            go_wp2_with fail
            go_quiet (fail)
            go_wp2_with fail
            go_region
            go_wp2
            go_ret
            rw [HK.out]
            obtain ⟨r1, r2, r3⟩ := say_set3 m PT2 HO2.out HNN.out hin hne X2
            exact ⟨rfl, r1, r2, r3⟩
        · have HK : Hid (R = (⟨T.self, T.mems.set i ⟨t.id, t.st, m.life⟩⟩, true)) := by show _ = _; rw [HK1.out, if_neg (fun h => e2 h.2.1), if_pos ⟨e1, e3, of_decide_eq_true e5⟩]
          clear e1 e2 e3
          as_aux_lemma =>
            go_wp2_with fail
            go_quiet (fail)
            go_wp2_with fail
            go_quiet (fail)
            go_wp2_with fail
            go_region
            go_wp2
            go_ret
            rw [HK.out]
            obtain ⟨r1, r2, r3⟩ := say_set1 (m.life) PT2 HO2.out HNN.out ht hne X2
            exact ⟨rfl, r1, r2, r3⟩
      · have e3' : (t.st == 3) = false := by simpa using e3
        have HK : Hid (R = (⟨T.self, T.mems.set i m⟩, true)) := by show _ = _; rw [HK1.out, if_neg (fun h => e2 h.2.1), if_neg (fun h => e3 h.2.1)]
        clear e1 e2 e3
        as_aux_lemma =>
          go_wp2_with fail
          go_quiet (fail)
          go_wp2_with fail
          go_quiet (fail)
          go_wp2_with fail
          go_region
          go_wp2
          go_ret
          rw [HK.out]
          obtain ⟨r1, r2, r3⟩ := say_set3 m PT2 HO2.out HNN.out hin hne X2
          exact ⟨rfl, r1, r2, r3⟩
  · have e1' : (m.id == T.self) = false := by simpa using e1
    have HK : Hid (R = (⟨T.self, T.mems.set i m⟩, true)) := by show _ = _; rw [HK1.out, if_neg (fun h => e1 h.1), if_neg (fun h => e1 h.1)]
    clear e1
    as_aux_lemma =>
      go_wp2_with fail
      go_quiet (fail)
      go_wp2_with fail
      go_quiet (fail)
      go_wp2_with fail
      go_region
      go_wp2
      go_ret
      rw [HK.out]
      obtain ⟨r1, r2, r3⟩ := say_set3 m PT2 HO2.out HNN.out hin hne X2
      exact ⟨rfl, r1, r2, r3⟩

end Go.Proofs.Ytmodliaieienfaa
