/- The program's method hear: a member that is there. -/
import Derived.Test.YtbphmgcfbjiadaaMiHa
import Derived.Test.YtbphmgcfbjiadaaMs8b
import Derived.Laws.StructEq
namespace Go.Proofs.Ytbphmgcfbjiadaa
open Go.RowKit

theorem ext_set {w w' : World} (h : Ext w w') (b o : Nat) (v : Value) (hb : w.heap.size ≤ b) : Ext w (w'.setCell ⟨b, o, none⟩ v) := by
  have g := set_grown w' b o v
  exact ⟨g.os.trans h.os, g.tape.trans h.tape, g.output.trans h.output, Nat.le_trans h.size g.size, fun k hk _ => (g.block k (Nat.lt_of_lt_of_le hk h.size) (by simp; omega)).trans (h.block k hk (by simp))⟩
/-- The box of a member, laid anew. -/
theorem set3_block {w : World} {b : Nat} {t : TypeId} {a0 a1 a2 : Value} (h : w.heap[b]? = some (.cells #[a0, a1, a2] t (0, 0))) (v0 v1 v2 : Value) : (((w.setCell ⟨b, 0, none⟩ v0).setCell ⟨b, 1, none⟩ v1).setCell ⟨b, 2, none⟩ v2).heap[b]? = some (.cells #[v0, v1, v2] t (0, 0)) := set_block (set_block (set_block h 0 v0) 1 v1) 2 v2

set_option maxRecDepth 20000 in
set_option maxHeartbeats 8000000 in
theorem hear_some (gt base g cap n i : Nat) (T : DTab) (m t : DMem) (w : World) (hb : w.heap[gt]? = some (.cells #[.int .i64 T.self, .slice (some ⟨g, 0, none⟩) n cap] 30 (0, 0))) (ho : OwMem w base (.slice (some ⟨g, 0, none⟩) n cap) T.mems) (hn : n = T.mems.length) (hT : TabP T) (hm : memB m = true) (hp : placeM T.mems m.id = (i : Int)) (ht : T.mems[i]? = some t) (hne : g ≠ gt) :
    Calls Try.prog 24 #[.pointer (some ⟨gt, 0, none⟩), .agg #[.int .i64 m.id, .int .i64 m.st, .int .i64 m.life]] w fun e w' => e = .returned (.bool (overD T m t i).2) ∧ w'.heap[gt]? = some (.cells #[.int .i64 T.self, .slice (some ⟨g, 0, none⟩) n cap] 30 (0, 0)) ∧ OwMem w' base (.slice (some ⟨g, 0, none⟩) n cap) (overD T m t i).1.mems ∧ SayW gt (some g) w w' := by
  have hE : ∀ w : World, ∀ o, Ext w (w.alloc o) := fun w o => World.grownBy_alloc _ _ _
  have hl : n ≤ 12 := by have := hT.1; omega
  have hin : i < n := by have := (List.getElem?_eq_some_iff.1 ht).1; omega
  have hin' : (i : Int) < (n : Int) := by omega
  have sT : gt < w.heap.size := (Array.getElem?_eq_some_iff.1 hb).1
  have sG : g < w.heap.size := (ho.lt g (by simp [Value.ownBlock])).2
  obtain ⟨R, hR⟩ : ∃ R, R = overD T m t i := ⟨_, rfl⟩
  rw [← hR]
  have HNO : Hid (beatsB m t = false → R = (T, false)) := fun h => by rw [hR]; unfold overD; rw [if_pos h]
  have HYES : Hid (beatsB m t = true → R = (⟨T.self, T.mems.set i (hearD T.self t m)⟩, true) ∧ hearD T.self t m ≠ t ∧ (hearD T.self t m).id = t.id) := fun h => by
    rw [hR]
    exact ⟨(over_hear hT hm ht h).1, (over_hear hT hm ht h).2, hearD_id h⟩
  have HM : Hid (memB m = true) := hm
  have HTT : Hid (T.mems[i]? = some t) := ht
  clear hR
  go_enter Try.func24, Try.ntmps24
  go_wp2_with fail
  have PM := heap_alloc_new w (.cells #[.int .i64 m.id, .int .i64 m.st, .int .i64 m.life] 34 (0, 0))
  have X0 := hE w (.cells #[.int .i64 m.id, .int .i64 m.st, .int .i64 m.life] 34 (0, 0))
  generalize w.alloc (.cells #[.int .i64 m.id, .int .i64 m.st, .int .i64 m.life] 34 (0, 0)) = W at PM X0 ⊢
  have HF : Hid (∀ W', Ext W W' → Calls Try.prog 30 #[.slice (some ⟨g, 0, none⟩) n cap, .int .i64 m.id] W' fun e w' => e = .returned (.tuple #[.int .i64 i, .bool true]) ∧ Below W'.heap.size W' w') := fun W' e => findM_yes _ T.mems m.id W' (ho.v.ext (X0.tr e)) hT.1 (tab_asc hT) i hp
  have HBX : Hid (w.heap[gt]? = some (.cells #[.int .i64 T.self, .slice (some ⟨g, 0, none⟩) n cap] 30 (0, 0))) := hb
  have HO : Hid (OwMem w base (.slice (some ⟨g, 0, none⟩) n cap) T.mems) := ho
  have HNN : Hid (n = T.mems.length) := hn
  obtain ⟨q0, q1⟩ := cells2 (ext_blk X0 hb)
  have m0 := (at_block PM 0 _ rfl).1
  have q0w := bw_cell q0
  have q1w := bw_cell q1
  have m0w := bw_cell m0
  have nonV := bw_ne W
  clear hn ho hb hp hT ht hm
  refine wp_region_bw (by kernel_rfl) (by kernel_rfl) ?_
  repeat (go_big_quiet_step ((go_at_call 30; exact bw_below (HF.out _ (bw_ext _)))))
  refine wpQuiet_nil ?_
  intro _ hw'
  obtain ⟨z, hw''⟩ := hw'
  subst hw''
  have X1 : Ext w z.u := X0.tr (bw_ext z)
  have PM1 := ext_blk (bw_ext z) PM
  generalize z.u = V at X1 PM1 ⊢
  clear q0 q1 m0 q0w q1w m0w nonV HF PM z X0
  have PT1 := ext_blk X1 HBX.out
  have HO1 : Hid (OwMem V base (.slice (some ⟨g, 0, none⟩) n cap) T.mems) := HO.out.ext X1
  obtain ⟨q0, q1⟩ := cells2 PT1
  obtain ⟨m0, m1, m2⟩ := cells3 PM1
  obtain ⟨c0, c1, c2, k0, k1, k2⟩ := HO1.out.cells HNN.out HTT.out
  have sV : w.heap.size < V.heap.size := (Array.getElem?_eq_some_iff.1 PM1).1
  go_wp2_with fail
  have PW := heap_alloc_new V (.cells #[.int .i64 t.id, .int .i64 t.st, .int .i64 t.life] 34 (0, 0))
  have XW := hE V (.cells #[.int .i64 t.id, .int .i64 t.st, .int .i64 t.life] 34 (0, 0))
  generalize V.alloc (.cells #[.int .i64 t.id, .int .i64 t.st, .int .i64 t.life] 34 (0, 0)) = U at PW XW ⊢
  refine (beatsMV m t U).mono ?_
  rintro e w2 ⟨rfl, b2⟩
  have XV : Ext V w2 := XW.tr (ext_below b2)
  have X2 : Ext w w2 := X1.tr XV
  have PW2 := ext_blk (ext_below b2) PW
  have PM2 := ext_blk XV PM1
  have PT2 := ext_blk XV PT1
  have HO2 : Hid (OwMem w2 base (.slice (some ⟨g, 0, none⟩) n cap) T.mems) := HO1.out.ext XV
  have HBX2 : Hid (w2.heap[gt]? = some (.cells #[.int .i64 T.self, .slice (some ⟨g, 0, none⟩) n cap] 30 (0, 0))) := PT2
  clear q0 q1 m0 m1 m2 c0 c1 c2 k0 k1 k2 PW XW b2 PM1 PT1 HO1 HO X1
  obtain ⟨q0, q1⟩ := cells2 PT2
  obtain ⟨m0, y0⟩ := at_block PM2 0 _ rfl
  obtain ⟨m1, y1⟩ := at_block PM2 1 _ rfl
  obtain ⟨m2, y2⟩ := at_block PM2 2 _ rfl
  obtain ⟨d0, d1, d2⟩ := cells3 PW2
  obtain ⟨c0, c1, c2, k0, k1, k2⟩ := HO2.out.cells HNN.out HTT.out
  cases hbt : beatsB m t
  · have HK : Hid (R = (T, false)) := HNO.out hbt
    clear hbt HNO HYES
    as_aux_lemma =>
      go_wp2_with fail
      go_quiet (fail)
      go_wp2
      go_ret
      rw [HK.out]
      exact ⟨rfl, HBX2.out, HO2.out.ext (ext_drewN _ _), SayW.ext (X2.tr (ext_drewN _ _))⟩
  obtain ⟨HK1, HK2, HK3⟩ := HYES.out hbt
  have HK : Hid (R = (⟨T.self, T.mems.set i (hearD T.self t m)⟩, true)) := HK1
  have HX : Hid (hearD T.self t m ≠ t ∧ (hearD T.self t m).id = t.id) := ⟨HK2, HK3⟩
  clear hbt HNO HYES HK1 HK2 HK3
  by_cases e1 : m.id = T.self
  · have e1' : (m.id == T.self) = true := by simpa using e1
    have HH : Hid (hearD T.self t m = afterD t m) := if_pos e1
    rw [HH.out] at HK HX
    clear e1 HH
    · go_wp2_with fail
      go_quiet (fail)
      go_wp2_with fail
      have HA : Hid (∀ W', Calls Try.prog 36 #[.agg #[.int .i64 t.id, .int .i64 t.st, .int .i64 t.life], .agg #[.int .i64 m.id, .int .i64 m.st, .int .i64 m.life]] W' fun e w' => e = .returned (.agg #[.int .i64 (afterD t m).id, .int .i64 (afterD t m).st, .int .i64 (afterD t m).life]) ∧ Below W'.heap.size W' w') := fun W' => afterV t m W' HM.out
      generalize afterD t m = x at HK HX HA
      refine (HA.out _).mono ?_
      rintro e w3 ⟨rfl, b3⟩
      have X23 : Ext w2 w3 := (ext_drewN w2 _).tr (ext_below b3)
      have PM3 := ext_blk X23 PM2
      have PT3 := ext_blk X23 PT2
      have PW3 := ext_blk X23 PW2
      have HO3 : Hid (OwMem w3 base (.slice (some ⟨g, 0, none⟩) n cap) T.mems) := HO2.out.ext X23
      have X3 : Ext w w3 := X2.tr X23
      clear q0 q1 m0 m1 m2 y0 y1 y2 d0 d1 d2 c0 c1 c2 k0 k1 k2 HA
      obtain ⟨m0, y0⟩ := at_block PM3 0 _ rfl
      obtain ⟨m1, y1⟩ := at_block PM3 1 _ rfl
      obtain ⟨m2, y2⟩ := at_block PM3 2 _ rfl
      go_wp2_with fail
      generalize hw4 : (((w3.setCell ⟨w.heap.size, 0, none⟩ (.int .i64 x.id)).setCell ⟨w.heap.size, 1, none⟩ (.int .i64 x.st)).setCell ⟨w.heap.size, 2, none⟩ (.int .i64 x.life)) = w4
      have PM4 : w4.heap[w.heap.size]? = some (.cells #[.int .i64 x.id, .int .i64 x.st, .int .i64 x.life] 34 (0, 0)) := by rw [← hw4]; exact set3_block PM3 _ _ _
      have PT4 : w4.heap[gt]? = some (.cells #[.int .i64 T.self, .slice (some ⟨g, 0, none⟩) n cap] 30 (0, 0)) := by rw [← hw4]; exact set_other _ _ _ (by omega) (set_other _ _ _ (by omega) (set_other _ _ _ (by omega) PT3))
      have PW4 : w4.heap[V.heap.size]? = some (.cells #[.int .i64 t.id, .int .i64 t.st, .int .i64 t.life] 34 (0, 0)) := by rw [← hw4]; exact set_other _ _ _ (by omega) (set_other _ _ _ (by omega) (set_other _ _ _ (by omega) PW3))
      have nb : (Value.slice (some ⟨g, 0, none⟩) n cap).ownBlock = none ∨ (Value.slice (some ⟨g, 0, none⟩) n cap).ownBlock ≠ some w.heap.size := .inr (by simp [Value.ownBlock]; omega)
      have HO4 : Hid (OwMem w4 base (.slice (some ⟨g, 0, none⟩) n cap) T.mems) := by rw [← hw4]; exact ((HO3.out.keep (set_grown _ _ _ _) nb).keep (set_grown _ _ _ _) nb).keep (set_grown _ _ _ _) nb
      have X4 : Ext w w4 := by rw [← hw4]; exact ext_set (ext_set (ext_set X3 _ _ _ (Nat.le_refl _)) _ _ _ (Nat.le_refl _)) _ _ _ (Nat.le_refl _)
      clear hw4 PM3 PT3 PW3 HO3 X3 X23 m0 m1 m2 y0 y1 y2 nb b3 PM2 PT2 PW2 HO2 HBX2 X2 w3 e1'
      have HBX4 : Hid (w4.heap[gt]? = some (.cells #[.int .i64 T.self, .slice (some ⟨g, 0, none⟩) n cap] 30 (0, 0))) := PT4
      obtain ⟨q0, q1⟩ := cells2 PT4
      obtain ⟨m0, m1, m2⟩ := cells3 PM4
      obtain ⟨c0, c1, c2, k0, k1, k2⟩ := HO4.out.cells HNN.out HTT.out
      have hgm : g ≠ w.heap.size := by omega
      have hgw : g ≠ V.heap.size := by omega
      have HEND : Hid (((((w4.setCell ⟨g, i * 3, none⟩ (.int .i64 x.id)).setCell ⟨g, i * 3 + 1, none⟩ (.int .i64 x.st)).setCell ⟨g, i * 3 + 2, none⟩ (.int .i64 x.life)).heap[gt]? = some (.cells #[.int .i64 T.self, .slice (some ⟨g, 0, none⟩) n cap] 30 (0, 0)) ∧ OwMem (((w4.setCell ⟨g, i * 3, none⟩ (.int .i64 x.id)).setCell ⟨g, i * 3 + 1, none⟩ (.int .i64 x.st)).setCell ⟨g, i * 3 + 2, none⟩ (.int .i64 x.life)) base (.slice (some ⟨g, 0, none⟩) n cap) (T.mems.set i x) ∧ SayW gt (some g) w (((w4.setCell ⟨g, i * 3, none⟩ (.int .i64 x.id)).setCell ⟨g, i * 3 + 1, none⟩ (.int .i64 x.st)).setCell ⟨g, i * 3 + 2, none⟩ (.int .i64 x.life))) ∧ (((w4.setCell ⟨g, i * 3, none⟩ (.int .i64 x.id)).setCell ⟨g, i * 3 + 1, none⟩ (.int .i64 x.st)).setCell ⟨g, i * 3 + 2, none⟩ (.int .i64 x.life)).heap[V.heap.size]? = some (.cells #[.int .i64 t.id, .int .i64 t.st, .int .i64 t.life] 34 (0, 0))) := ⟨say_set3 (q := 0) x HBX4.out HO4.out HNN.out hin hne X4, set_other g _ _ (Ne.symm hgw) (set_other g _ _ (Ne.symm hgw) (set_other g _ _ (Ne.symm hgw) PW4))⟩
      clear PT4 PM4 PW4
      go_region
      all_goals
        obtain ⟨⟨PT5, O5, S5⟩, PW5⟩ := HEND.out
        clear HEND
        generalize (((w4.setCell ⟨g, i * 3, none⟩ (.int .i64 x.id)).setCell ⟨g, i * 3 + 1, none⟩ (.int .i64 x.st)).setCell ⟨g, i * 3 + 2, none⟩ (.int .i64 x.life)) = w5 at PT5 O5 S5 PW5 ⊢
        have HO5 : Hid (OwMem w5 base (.slice (some ⟨g, 0, none⟩) n cap) (T.mems.set i x)) := O5
        have HP5 : Hid (w5.heap[gt]? = some (.cells #[.int .i64 T.self, .slice (some ⟨g, 0, none⟩) n cap] 30 (0, 0))) := PT5
        have HS5 : Hid (SayW gt (some g) w w5) := S5
        have HL5 : Hid (n = (T.mems.set i x).length) := by show _ = _; rw [List.length_set]; exact HNN.out
        have HT5 : Hid ((T.mems.set i x)[i]? = some x) := by show _ = _; rw [List.getElem?_set_self (by have := HNN.out; omega)]
        clear q0 q1 m0 m1 m2 c0 c1 c2 k0 k1 k2 HO4 HBX4 O5 S5
        obtain ⟨q0, q1⟩ := cells2 PT5
        obtain ⟨d0, d1, d2⟩ := cells3 PW5
        obtain ⟨c0, c1, c2, _⟩ := HO5.out.cells HL5.out HT5.out
        have HFIN : Hid (∀ W, Ext w5 W → W.heap[gt]? = some (.cells #[.int .i64 T.self, .slice (some ⟨g, 0, none⟩) n cap] 30 (0, 0)) ∧ OwMem W base (.slice (some ⟨g, 0, none⟩) n cap) (T.mems.set i x) ∧ SayW gt (some g) w W) := fun W e => ⟨ext_blk e HP5.out, HO5.out.ext e, HS5.out.grown e (fun k hk => by cases hk)⟩
        clear PT5 PW5 HO5 HP5 HS5 HL5 HT5
        obtain ⟨hx1, hx2⟩ := HX.out
        obtain ⟨xi, xs, xl⟩ := x
        obtain ⟨ti, ts, tl⟩ := t
        simp only at hx2 c0 c1 c2 d0 d1 d2
        subst hx2
        by_cases g1 : xs = ts
        · subst g1
          have g2 : (xl == tl) = false := by
            have : xl ≠ tl := fun e => hx1 (by rw [e])
            simpa using this
          clear hx1 HX HTT
          go_wp2_with fail
          go_quiet (fail)
          go_wp2
          go_ret
          rw [HK.out]
          exact ⟨rfl, HFIN.out _ ((ext_drewN w5 1).tr (ext_drewN _ _))⟩
        · have g1' : (xs == ts) = false := by simpa using g1
          clear hx1 HX HTT
          go_wp2_with fail
          go_quiet (fail)
          go_wp2
          go_ret
          rw [HK.out]
          exact ⟨rfl, HFIN.out _ ((ext_drewN w5 1).tr (ext_drewN _ _))⟩
  · have e1' : (m.id == T.self) = false := by simpa using e1
    have HH : Hid (hearD T.self t m = m) := if_neg e1
    rw [HH.out] at HK HX
    clear e1 HH
    · obtain ⟨x, hx⟩ : ∃ x, x = m := ⟨_, rfl⟩
      rw [← hx] at HK HX
      go_wp2_with fail
      go_quiet (fail)
      generalize hw4 : World.drewN w2 _ = w4
      have X24 : Ext w2 w4 := by rw [← hw4]; exact ext_drewN w2 _
      have PM4 : w4.heap[w.heap.size]? = some (.cells #[.int .i64 x.id, .int .i64 x.st, .int .i64 x.life] 34 (0, 0)) := by rw [hx]; exact ext_blk X24 PM2
      have PT4 := ext_blk X24 PT2
      have PW4 := ext_blk X24 PW2
      have HO4 : Hid (OwMem w4 base (.slice (some ⟨g, 0, none⟩) n cap) T.mems) := HO2.out.ext X24
      have X4 : Ext w w4 := X2.tr X24
      clear hw4 X24 hx q0 q1 m0 m1 m2 y0 y1 y2 d0 d1 d2 c0 c1 c2 k0 k1 k2 PM2 PT2 PW2 HO2 HBX2 X2
      have HBX4 : Hid (w4.heap[gt]? = some (.cells #[.int .i64 T.self, .slice (some ⟨g, 0, none⟩) n cap] 30 (0, 0))) := PT4
      obtain ⟨q0, q1⟩ := cells2 PT4
      obtain ⟨m0, m1, m2⟩ := cells3 PM4
      obtain ⟨c0, c1, c2, k0, k1, k2⟩ := HO4.out.cells HNN.out HTT.out
      have hgm : g ≠ w.heap.size := by omega
      have hgw : g ≠ V.heap.size := by omega
      have HEND : Hid (((((w4.setCell ⟨g, i * 3, none⟩ (.int .i64 x.id)).setCell ⟨g, i * 3 + 1, none⟩ (.int .i64 x.st)).setCell ⟨g, i * 3 + 2, none⟩ (.int .i64 x.life)).heap[gt]? = some (.cells #[.int .i64 T.self, .slice (some ⟨g, 0, none⟩) n cap] 30 (0, 0)) ∧ OwMem (((w4.setCell ⟨g, i * 3, none⟩ (.int .i64 x.id)).setCell ⟨g, i * 3 + 1, none⟩ (.int .i64 x.st)).setCell ⟨g, i * 3 + 2, none⟩ (.int .i64 x.life)) base (.slice (some ⟨g, 0, none⟩) n cap) (T.mems.set i x) ∧ SayW gt (some g) w (((w4.setCell ⟨g, i * 3, none⟩ (.int .i64 x.id)).setCell ⟨g, i * 3 + 1, none⟩ (.int .i64 x.st)).setCell ⟨g, i * 3 + 2, none⟩ (.int .i64 x.life))) ∧ (((w4.setCell ⟨g, i * 3, none⟩ (.int .i64 x.id)).setCell ⟨g, i * 3 + 1, none⟩ (.int .i64 x.st)).setCell ⟨g, i * 3 + 2, none⟩ (.int .i64 x.life)).heap[V.heap.size]? = some (.cells #[.int .i64 t.id, .int .i64 t.st, .int .i64 t.life] 34 (0, 0))) := ⟨say_set3 (q := 0) x HBX4.out HO4.out HNN.out hin hne X4, set_other g _ _ (Ne.symm hgw) (set_other g _ _ (Ne.symm hgw) (set_other g _ _ (Ne.symm hgw) PW4))⟩
      clear PT4 PM4 PW4
      go_wp2_with fail
      go_region
      all_goals
        obtain ⟨⟨PT5, O5, S5⟩, PW5⟩ := HEND.out
        clear HEND
        generalize (((w4.setCell ⟨g, i * 3, none⟩ (.int .i64 x.id)).setCell ⟨g, i * 3 + 1, none⟩ (.int .i64 x.st)).setCell ⟨g, i * 3 + 2, none⟩ (.int .i64 x.life)) = w5 at PT5 O5 S5 PW5 ⊢
        have HO5 : Hid (OwMem w5 base (.slice (some ⟨g, 0, none⟩) n cap) (T.mems.set i x)) := O5
        have HP5 : Hid (w5.heap[gt]? = some (.cells #[.int .i64 T.self, .slice (some ⟨g, 0, none⟩) n cap] 30 (0, 0))) := PT5
        have HS5 : Hid (SayW gt (some g) w w5) := S5
        have HL5 : Hid (n = (T.mems.set i x).length) := by show _ = _; rw [List.length_set]; exact HNN.out
        have HT5 : Hid ((T.mems.set i x)[i]? = some x) := by show _ = _; rw [List.getElem?_set_self (by have := HNN.out; omega)]
        clear q0 q1 m0 m1 m2 c0 c1 c2 k0 k1 k2 HO4 HBX4 O5 S5
        obtain ⟨q0, q1⟩ := cells2 PT5
        obtain ⟨d0, d1, d2⟩ := cells3 PW5
        obtain ⟨c0, c1, c2, _⟩ := HO5.out.cells HL5.out HT5.out
        have HFIN : Hid (∀ W, Ext w5 W → W.heap[gt]? = some (.cells #[.int .i64 T.self, .slice (some ⟨g, 0, none⟩) n cap] 30 (0, 0)) ∧ OwMem W base (.slice (some ⟨g, 0, none⟩) n cap) (T.mems.set i x) ∧ SayW gt (some g) w W) := fun W e => ⟨ext_blk e HP5.out, HO5.out.ext e, HS5.out.grown e (fun k hk => by cases hk)⟩
        clear PT5 PW5 HO5 HP5 HS5 HL5 HT5
        obtain ⟨hx1, hx2⟩ := HX.out
        obtain ⟨xi, xs, xl⟩ := x
        obtain ⟨ti, ts, tl⟩ := t
        simp only at hx2 c0 c1 c2 d0 d1 d2
        subst hx2
        by_cases g1 : xs = ts
        · subst g1
          have g2 : (xl == tl) = false := by
            have : xl ≠ tl := fun e => hx1 (by rw [e])
            simpa using this
          clear hx1 HX HTT
          go_wp2_with fail
          go_quiet (fail)
          go_wp2
          go_ret
          rw [HK.out]
          exact ⟨rfl, HFIN.out _ ((ext_drewN w5 1).tr (ext_drewN _ _))⟩
        · have g1' : (xs == ts) = false := by simpa using g1
          clear hx1 HX HTT
          go_wp2_with fail
          go_quiet (fail)
          go_wp2
          go_ret
          rw [HK.out]
          exact ⟨rfl, HFIN.out _ ((ext_drewN w5 1).tr (ext_drewN _ _))⟩

end Go.Proofs.Ytbphmgcfbjiadaa
