
/- The contract of the program's WheelOk: a map counts the numbers. -/
import Derived.Test.YtnklnhnjmikooaaGreatWhP
import Derived.Test.YtnklnhnjmikooaaGreatWi
import Derived.Maps.Own
import Derived.Maps.OwnOps
import Derived.Maps.OwnSet
import Derived.Maps.Views
namespace Go.Proofs.YtnklnhnjmikooaaGreat
open Go.RowKit Go.Maps

theorem lawI : Keyed Tryz.prog 3 := int_keyed Tryz.underlying3
theorem zeroI (w : World) : (zeroValue 3).run Tryz.prog w = .ok (.int .i64 0) w := by kernel_rfl

theorem own_kept {P : Program} {k : TypeId} {R : Value → Option (DataW Unit × List MemPlace)} {b n : Nat} {D : DataW Unit} {w w' : World} (h : w.ownsMap P k R b n D) (e : w'.heap[b]? = w.heap[b]?) : w'.ownsMap P k R b n D := by
  obtain ⟨es, clock, h1, h2⟩ := h
  exact ⟨es, clock, e.trans h1, h2⟩

/-- Numbers of timers are unlike. -/
def DstT (ts : List DTim) (k : Nat) : Prop := ∀ (j : Nat) (t : DTim), j < k → ts[j]? = some t → ∀ (i : Nat) (p : DTim), i < j → ts[i]? = some p → p.id ≠ t.id
/-- The timer at i may be there, whatever numbers there are. -/
def TimAt0 (now : Int) (ts : List DTim) (i : Nat) : Prop := ∀ t, ts[i]? = some t → (0 ≤ t.id ∧ t.id ≤ 2147483647) ∧ (now + 1 ≤ t.due ∧ t.due ≤ 2000000) ∧ (∀ p, 0 < i → ts[i - 1]? = some p → aheadB p t = true)
theorem TimAt.weak {now : Int} {ts : List DTim} {i : Nat} (h : TimAt now ts i) : TimAt0 now ts i := fun t ht => ⟨(h t ht).1, (h t ht).2.1, (h t ht).2.2.1⟩
/-- A map of those that were seen. -/
def MapSt (ts : List DTim) (k : Nat) (M : DataW Unit) : Prop := Tidy M ∧ (∀ x : Int, has M (.int .i64 x) = true ↔ ∃ (j : Nat) (t : DTim), j < k ∧ ts[j]? = some t ∧ t.id = x) ∧ size M ≤ k ∧ (size M = k ↔ DstT ts k)
theorem MapSt.nil (ts : List DTim) : MapSt ts 0 (.map []) :=
  ⟨tidy_empty, fun x => ⟨fun h => by simp [has_eq] at h, fun ⟨j, t, hj, _⟩ => absurd hj (by omega)⟩, by simp [size_eq], ⟨fun _ j t hj => absurd hj (by omega), fun _ => rfl⟩⟩
theorem MapSt.next {ts : List DTim} {k : Nat} {M : DataW Unit} {t : DTim} (h : MapSt ts k M) (ht : ts[k]? = some t) (d : DataW Unit) : MapSt ts (k + 1) (M.put (.int .i64 t.id) d) := by
  obtain ⟨h1, h2, h3, h4⟩ := h
  have hkey : WideAt.IsKeyLit (.int .i64 t.id) := trivial
  have hs := size_put (k := .int .i64 t.id) h1 d
  refine ⟨h1.put hkey d, fun x => ?_, ?_, ?_⟩
  · by_cases e : x = t.id
    · subst e
      rw [has_put_same h1.isMap hkey]
      exact ⟨fun _ => ⟨k, t, by omega, ht, rfl⟩, fun _ => rfl⟩
    · rw [has_put_other (by simpa using e), h2 x]
      constructor
      · rintro ⟨j, u, hj, hu, hx⟩
        exact ⟨j, u, by omega, hu, hx⟩
      · rintro ⟨j, u, hj, hu, hx⟩
        by_cases ej : j = k
        · subst ej
          rw [ht] at hu
          cases hu
          exact absurd hx.symm e
        · exact ⟨j, u, by omega, hu, hx⟩
  · rw [hs]
    split <;> omega
  · rw [hs]
    by_cases hh : has M (.int .i64 t.id) = true
    · rw [if_pos hh]
      obtain ⟨j, u, hj, hu, hx⟩ := (h2 t.id).1 hh
      exact ⟨fun h => by omega, fun h => absurd hx (h k t (by omega) ht j u hj hu)⟩
    · rw [if_neg hh]
      have hn : ∀ (i : Nat) (p : DTim), i < k → ts[i]? = some p → p.id ≠ t.id := fun i p hi hp e => hh ((h2 t.id).2 ⟨i, p, hi, hp, e⟩)
      have e : size M + 1 = k + 1 ↔ size M = k := by omega
      rw [e, h4]
      constructor
      · intro hd j u hj hu i p hi hp
        by_cases ej : j = k
        · subst ej
          rw [ht] at hu
          cases hu
          exact hn i p hi hp
        · exact hd j u (by omega) hu i p hi hp
      · exact fun hd j u hj hu i p hi hp => hd j u (by omega) hu i p hi hp
theorem wheel_iff {D : DWheel} {n : Nat} (hn : n = D.tms.length) (h1 : 0 ≤ D.now ∧ D.now ≤ 1000000) (h2 : n ≤ 40) (h3 : ∀ j, j < n → TimAt0 D.now D.tms j) : WheelP D ↔ DstT D.tms n := by
  subst hn
  constructor
  · intro h j t hj ht i p hi hp
    exact (h.2.2 j hj t ht).2.2.2 i p hi hp
  · intro h
    exact ⟨h1, h2, fun i hi t ht => ⟨(h3 i hi t ht).1, (h3 i hi t ht).2.1, (h3 i hi t ht).2.2, fun j p hj hp => h i t hi ht j p hj hp⟩⟩

set_option maxHeartbeats 4000000 in
set_option maxRecDepth 20000 in
theorem iWheelOkV (v : Value) (D : DWheel) (w : World) (h : VWheel w v D) :
    Calls Tryz.prog 77 #[v] w fun e w' => e = .returned (.bool (tB (WheelP D))) ∧ Below w.heap.size w w' := by
  have hB : ∀ w : World, ∀ o, Below w.heap.size w (w.alloc o) := fun w o => (Below.refl _ w).alloc (Nat.le_refl _) _
  have hmm := @run_makeMap Tryz.prog
  obtain ⟨tv, rfl, h⟩ := h
  obtain ⟨C, ⟨a, cap, rfl, h1, h2, h3⟩, hC⟩ := h
  have HC : Hid (∀ (i : Nat) (r : DTim), D.tms[i]? = some r → C i 0 = Value.int IntKind.i64 r.id ∧ C i 1 = Value.int IntKind.i64 r.due) := hC
  clear hC
  obtain ⟨n, hn⟩ : ∃ n, n = D.tms.length := ⟨_, rfl⟩
  rw [← hn] at h1 h3 ⊢
  have HN : Hid (n = D.tms.length) := hn
  clear hn
  unfold maxLen at h2
  have H3 : Hid (0 < n → ∃ b o, a = some ⟨b, o, none⟩ ∧ b < w.heap.size ∧ ∀ i, i < n → ∀ j, j < 2 → w.cell? ⟨b, o + i * 2 + j, none⟩ = some (C i j)) := h3
  clear h3
  by_cases g0 : inB D.now 0 1000000 = true
  case neg =>
    have g0' : inB D.now 0 1000000 = false := by simpa using g0
    have HK : Hid (tB (WheelP D) = false) := tB_false (fun h => g0 (by unfold inB; simp [h.1.1, h.1.2]))
    clear g0
    go_enter Tryz.func77, Tryz.ntmps77
    go_wp2_with (go_at_call 53; refine (withinV _ _ _ _).mono ?_; rintro e w2 ⟨rfl, rfl⟩; rw [g0'])
    go_ret
    exact ⟨by rw [HK.out]; rfl, hB _ _⟩
  have g1 : 0 ≤ D.now ∧ D.now ≤ 1000000 := by simpa [inB] using g0
  obtain ⟨g1, g2⟩ := g1
  by_cases g3 : (40 : Int) < n
  · have HK : Hid (tB (WheelP D) = false) := tB_false (fun h => by have := h.2.1; have := HN.out; omega)
    go_enter Tryz.func77, Tryz.ntmps77
    go_wp2_with (go_at_call 53; refine (withinV _ _ _ _).mono ?_; rintro e w2 ⟨rfl, rfl⟩; rw [g0])
    go_ret
    exact ⟨by rw [HK.out]; rfl, hB _ _⟩
  have g3' : decide ((40 : Int) < n) = false := by simpa using g3
  go_enter Tryz.func77, Tryz.ntmps77
  go_wp2_with (go_at_call 53; refine (withinV _ _ _ _).mono ?_; rintro e w2 ⟨rfl, rfl⟩; rw [g0])
  generalize hW : World.alloc (World.alloc w _) _ = W
  have HW : Hid (Below w.heap.size w W) := by rw [← hW]; exact ((Below.refl _ w).alloc (Nat.le_refl _) _).alloc (by simp) _
  have HQ0 : Hid (W.cell? ⟨w.heap.size, 0, none⟩ = some (.int .i64 D.now) ∧ W.cell? ⟨w.heap.size, 1, none⟩ = some (.slice a n cap) ∧ w.heap.size + 1 < W.heap.size) := by
    rw [← hW]
    refine ⟨World.grownBy.cell (World.grownBy_alloc _ _ none) (at_block (heap_alloc_new w _) 0 _ rfl).1 (by simp), World.grownBy.cell (World.grownBy_alloc _ _ none) (at_block (heap_alloc_new w _) 1 _ rfl).1 (by simp), by simp⟩
  have HO0 : Hid (W.ownsMap Tryz.prog 3 (plainElem (H := Unit) Tryz.prog 3) (w.heap.size + 1) 0 (.map [])) := by
    rw [← hW]
    have := World.ownsMap_made (H := Unit) (World.alloc w (.cells #[.int .i64 D.now, .slice a n cap] 37)) Tryz.prog 3 (plainElem Tryz.prog 3)
    show World.ownsMap _ _ _ _ _ _ _
    simpa using this
  clear hW
  go_loopw [20] (fun i wr => ∃ k : Nat, k ≤ n ∧ i = .int .i64 k ∧ wr.cell? ⟨w.heap.size, 0, none⟩ = some (.int .i64 D.now) ∧ wr.cell? ⟨w.heap.size, 1, none⟩ = some (.slice a n cap) ∧ Below w.heap.size w wr ∧ w.heap.size + 1 < wr.heap.size ∧ ∃ M, wr.ownsMap Tryz.prog 3 (plainElem (H := Unit) Tryz.prog 3) (w.heap.size + 1) k M ∧ Hid (MapSt D.tms k M) ∧ Hid (∀ j, j < k → TimAt0 D.now D.tms j)) (fun i _ => n - (intOf i).toNat)
  case atStart => exact ⟨0, Nat.zero_le _, rfl, HQ0.out.1, HQ0.out.2.1, HW.out, HQ0.out.2.2, _, HO0.out, MapSt.nil _, fun j hj => absurd hj (by omega)⟩
  case round =>
    obtain ⟨k, hk, rfl, q0, q1, hb, hsW, M, hown, hms, hall⟩ := hrel
    by_cases hlt : k < n
    · obtain ⟨b, o, rfl, hbl, hc⟩ := H3.out (by omega)
      obtain ⟨s, hs⟩ : ∃ s, D.tms[k]? = some s := ⟨_, List.getElem?_eq_getElem (by have := HN.out; omega)⟩
      have HS : Hid (D.tms[k]? = some s) := hs
      have HMS : Hid (∀ d, MapSt D.tms (k + 1) (M.put (.int .i64 s.id) d)) := fun d => hms.out.next hs d
      obtain ⟨e0, e1⟩ := HC.out k s hs
      have X := ext_below hb
      have c0 := World.grownBy.cell X (hc k hlt 0 (by omega)) (by simp)
      have c1 := World.grownBy.cell X (hc k hlt 1 (by omega)) (by simp)
      rw [e0, Nat.add_zero] at c0
      rw [e1] at c1
      have hlt' : (k : Int) < (n : Int) := by omega
      have HKF : Hid (¬ TimAt0 D.now D.tms k → tB (WheelP D) = false) := fun hh => tB_false (fun h => hh (h.2.2 k (by have := HN.out; omega)).weak)
      have HO : Hid (wr.ownsMap Tryz.prog 3 (plainElem (H := Unit) Tryz.prog 3) (w.heap.size + 1) k M) := hown
      clear hs e0 e1 hown hms
      have HCC : Hid (∀ i, i < n → ∀ j, j < 2 → wr.cell? ⟨b, o + i * 2 + j, none⟩ = some (C i j)) := fun i hi j hj => World.grownBy.cell X (hc i hi j hj) (by simp)
      clear hc
      have HQ : Hid (wr.cell? ⟨w.heap.size, 0, none⟩ = some (.int .i64 D.now) ∧ wr.cell? ⟨w.heap.size, 1, none⟩ = some (.slice (some ⟨b, o, none⟩) n cap)) := ⟨q0, q1⟩
      have qa : ∀ ob, (wr.alloc ob).cell? ⟨w.heap.size, 0, none⟩ = some (.int .i64 D.now) := fun ob => World.grownBy.cell (World.grownBy_alloc wr ob none) q0 (by simp)
      have hb2 : ∀ ob, Below w.heap.size w (wr.alloc ob) := fun ob => hb.alloc hb.size _
      by_cases i1 : inB s.id 0 2147483647 = true
      case neg =>
        have i1' : inB s.id 0 2147483647 = false := by simpa using i1
        have HK : Hid (tB (WheelP D) = false) := HKF.out (fun h => i1 (by have := (h s HS.out).1; unfold inB; simp [this.1, this.2]))
        clear i1 hall HKF
        go_wp2_with (go_at_call 53; refine (withinV _ _ _ _).mono ?_; rintro e w2 ⟨rfl, rfl⟩; rw [i1'])
        go_ret
        exact ⟨by rw [HK.out]; rfl, hb2 _⟩
      have HIN1 : Hid (0 ≤ s.id ∧ s.id ≤ 2147483647) := by simpa [inB, Hid] using i1
      by_cases i2 : inB s.due (D.now + 1) 2000000 = true
      case neg =>
        have i2' : inB s.due (D.now + 1) 2000000 = false := by simpa using i2
        have HK : Hid (tB (WheelP D) = false) := HKF.out (fun h => i2 (by have := (h s HS.out).2.1; unfold inB; simp [this.1, this.2]))
        clear i2 hall HKF
        go_wp2_with (go_at_call 53; refine (withinV _ _ _ _).mono ?_; rintro e w2 ⟨rfl, rfl⟩; first | rw [i2'] | rw [i1])
        go_ret
        exact ⟨by rw [HK.out]; rfl, hb2 _⟩
      have HIN2 : Hid (D.now + 1 ≤ s.due ∧ s.due ≤ 2000000) := by simpa [inB, Hid] using i2
      have HKEY : Hid (keyOf Tryz.prog 3 (.int .i64 s.id) = some (.int .i64 s.id)) := keyOf_int_mk Tryz.underlying3 (by have := HIN1.out; exact WalkArith.wf_i64 (by omega))
      clear q0 q1
      go_wp2_with (go_at_call 53; refine (withinV _ _ _ _).mono ?_; rintro e w2 ⟨rfl, rfl⟩; first | rw [i2] | rw [i1])
      clear qa hb2
      generalize hV : wr.alloc _ = V
      have EV : Ext wr V := by rw [← hV]; exact World.grownBy_alloc _ _ _
      have HBV : Hid (Below w.heap.size w V) := by rw [← hV]; exact hb.alloc hb.size _
      have HSV : Hid (wr.heap.size < V.heap.size) := by rw [← hV]; simp [Hid]
      have HOV : Hid (V.ownsMap Tryz.prog 3 (plainElem (H := Unit) Tryz.prog 3) (w.heap.size + 1) k M) := own_kept HO.out (by rw [← hV]; exact Below.heap_alloc wr _ _ (by omega))
      have y0 : V.cell? ⟨wr.heap.size, 0, none⟩ = some (.int .i64 s.id) := by rw [← hV]; exact (at_block (heap_alloc_new wr _) 0 _ rfl).1
      have y1 : V.cell? ⟨wr.heap.size, 1, none⟩ = some (.int .i64 s.due) := by rw [← hV]; exact (at_block (heap_alloc_new wr _) 1 _ rfl).1
      have q0' := World.grownBy.cell EV HQ.out.1 (by simp)
      have q1' := World.grownBy.cell EV HQ.out.2 (by simp)
      clear hV
      have zy0 := bw_cell y0
      have zy1 := bw_cell y1
      have zq0 := bw_cell q0'
      have zq1 := bw_cell q1'
      clear y0 y1 c0 c1 q0' q1' i1 i2 X
      have nonV := bw_ne V
      by_cases hk0 : k = 0
      · as_aux_lemma =>
          subst hk0
          have hkd2 : decide ((0 : Int) < ((0 : Nat) : Int)) = false := decide_eq_false (by omega)
          refine wp_region_bw (by kernel_rfl) (by kernel_rfl) ?_
          repeat (go_big_quiet_step ((go_at_call 101; exact bw_below (HAH.out _))))
          refine wpQuiet_nil ?_
          intro _ hw'
          obtain ⟨z, hw''⟩ := hw'
          subst hw''
          have HA : Hid (∀ j, j < 0 + 1 → TimAt0 D.now D.tms j) := fun j hj => by
            by_cases e : j = 0
            · subst e
              intro s' hs'
              rw [HS.out] at hs'
              cases hs'
              refine ⟨HIN1.out, HIN2.out, fun p' hp0 hp' => ?_⟩
              exact absurd hp0 (by omega)
            · exact hall.out j (by omega)
          clear HKF hall
          have hsz : wr.heap.size < z.u.heap.size := Nat.lt_of_lt_of_le HSV.out z.h.size
          have own1 : z.u.ownsMap Tryz.prog 3 (plainElem Tryz.prog 3) (w.heap.size + 1) 0 M := own_kept HOV.out (z.h.block _ (by have := HSV.out; omega))
          have x0 := zy0 z
          have x1 := zq0 z
          have x2 := zq1 z
          have HBZ : Hid (Below w.heap.size w z.u) := HBV.out.trans (z.h.mono HBV.out.size)
          generalize z.u = U at *
          clear zy0 zy1 zq0 zq1
          go_wp2_with (first
            | (at_lookup; refine wpList_lookup_own_int _ rfl _ _ 152 rfl 3 3 .i64 lawI Tryz.underlying152 Tryz.underlying3 (zeroI _) (w.heap.size + 1) 0 _ rfl own1 _ _ rfl HKEY.out ?_; intro c hat hwc; clear hat)
            | (at_mapUpdate; refine wpList_mapUpdate_own _ rfl _ _ _ 152 rfl 3 3 lawI Tryz.underlying152 _ (w.heap.size + 1) 0 _ rfl own1 (by unfold maxLen; omega) _ _ _ rfl rfl HKEY.out _ [] (plainElem_int Tryz.underlying3 (wrap64_wf _)) ?_; intro w1 hown1 hgrow1)
            | go_in)
          go_roundw
          case rel => exact ⟨0 + 1, by omega, by go_num, hgrow1.cell x1 (by simp <;> omega), hgrow1.cell x2 (by simp <;> omega), HBZ.out.grown hgrow1 HBZ.out.size (fun j hj => by cases hj; omega), (by have := hgrow1.size; omega), _, hown1, HMS.out _, HA⟩
          case measure => simp [intOf]; omega
      · as_aux_lemma =>
          obtain ⟨k', hkk⟩ : ∃ k', k = k' + 1 := ⟨k - 1, by omega⟩
          subst hkk
          obtain ⟨p, hpr⟩ : ∃ p, D.tms[k']? = some p := ⟨_, List.getElem?_eq_getElem (by have := HN.out; omega)⟩
          have HPR : Hid (D.tms[k' + 1 - 1]? = some p) := by rw [Nat.add_sub_cancel]; exact hpr
          have p0 := World.grownBy.cell EV (HCC.out k' (by omega) 0 (by omega)) (by simp)
          have p1 := World.grownBy.cell EV (HCC.out k' (by omega) 1 (by omega)) (by simp)
          rw [(HC.out k' p hpr).1, Nat.add_zero] at p0
          rw [(HC.out k' p hpr).2] at p1
          have zp0 := bw_cell p0
          have zp1 := bw_cell p1
          obtain ⟨b1, K1⟩ : ∃ c, aheadB p s = c := ⟨_, rfl⟩
          have HAH : Hid (∀ z : BW V, Calls Tryz.prog 101 #[.agg #[.int .i64 p.id, .int .i64 p.due], .agg #[.int .i64 s.id, .int .i64 s.due]] z.u fun e w' => e = .returned (.bool b1) ∧ Below z.u.heap.size z.u w') := fun z => by
            rw [← K1]
            exact iaheadV _ _ _
          have hk1 : (k' : Int) < (n : Int) := by omega
          have hk2 : (0 : Int) ≤ (k' : Int) := by omega
          have hw1 : IntKind.i64.wrap ((k' : Int) + 1 - 1) = (k' : Int) := by rw [Int.add_sub_cancel, IntKind.wrap_i64]; omega
          have hw2 : IntKind.i64.wrap (k' : Int) = (k' : Int) := by rw [IntKind.wrap_i64]; omega
          have hkd : decide ((0 : Int) < (k' : Int) + 1) = true := decide_eq_true (by omega)
          clear hk0 hpr p0 p1
          refine wp_region_bw (by kernel_rfl) (by kernel_rfl) ?_
          repeat (go_big_quiet_step ((go_at_call 101; exact bw_below (HAH.out _))))
          cases b1
          case false =>
            simp only [Bool.not_false]
            repeat (go_big_quiet_step ((go_at_call 101; exact bw_below (HAH.out _))))
            refine wpQuiet_nil ?_
            intro _ hw'
            obtain ⟨z, hw''⟩ := hw'
            subst hw''
            have HK : Hid (tB (WheelP D) = false) := HKF.out (fun h => by
              obtain ⟨⟨a1, a2⟩, ⟨a3, a4⟩, a5⟩ := h s HS.out
              have hh := a5 p (by omega) HPR.out
              rw [K1] at hh
              cases hh)
            clear HKF hall
            go_wp2
            go_ret
            exact ⟨by rw [HK.out]; rfl, HBV.out.trans (z.h.mono HBV.out.size)⟩
          simp only [Bool.not_true]
          repeat (go_big_quiet_step ((go_at_call 101; exact bw_below (HAH.out _))))
          refine wpQuiet_nil ?_
          intro _ hw'
          obtain ⟨z, hw''⟩ := hw'
          subst hw''
          have HA : Hid (∀ j, j < (k' + 1) + 1 → TimAt0 D.now D.tms j) := fun j hj => by
            by_cases e : j = (k' + 1)
            · subst e
              intro s' hs'
              rw [HS.out] at hs'
              cases hs'
              refine ⟨HIN1.out, HIN2.out, fun p' hp0 hp' => ?_⟩
              rw [HPR.out] at hp'; cases hp'; exact K1
            · exact hall.out j (by omega)
          clear HKF hall
          have hsz : wr.heap.size < z.u.heap.size := Nat.lt_of_lt_of_le HSV.out z.h.size
          have own1 : z.u.ownsMap Tryz.prog 3 (plainElem Tryz.prog 3) (w.heap.size + 1) (k' + 1) M := own_kept HOV.out (z.h.block _ (by have := HSV.out; omega))
          have x0 := zy0 z
          have x1 := zq0 z
          have x2 := zq1 z
          have HBZ : Hid (Below w.heap.size w z.u) := HBV.out.trans (z.h.mono HBV.out.size)
          generalize z.u = U at *
          clear zy0 zy1 zq0 zq1
          go_wp2_with (first
            | (at_lookup; refine wpList_lookup_own_int _ rfl _ _ 152 rfl 3 3 .i64 lawI Tryz.underlying152 Tryz.underlying3 (zeroI _) (w.heap.size + 1) (k' + 1) _ rfl own1 _ _ rfl HKEY.out ?_; intro c hat hwc; clear hat)
            | (at_mapUpdate; refine wpList_mapUpdate_own _ rfl _ _ _ 152 rfl 3 3 lawI Tryz.underlying152 _ (w.heap.size + 1) (k' + 1) _ rfl own1 (by unfold maxLen; omega) _ _ _ rfl rfl HKEY.out _ [] (plainElem_int Tryz.underlying3 (wrap64_wf _)) ?_; intro w1 hown1 hgrow1)
            | go_in)
          go_roundw
          case rel => exact ⟨(k' + 1) + 1, by omega, by go_num, hgrow1.cell x1 (by simp <;> omega), hgrow1.cell x2 (by simp <;> omega), HBZ.out.grown hgrow1 HBZ.out.size (fun j hj => by cases hj; omega), (by have := hgrow1.size; omega), _, hown1, HMS.out _, HA⟩
          case measure => simp [intOf]; omega
    · have hkn : k = n := by omega
      subst hkn
      have HI : Hid (WheelP D ↔ DstT D.tms k) := wheel_iff HN.out ⟨g1, g2⟩ (by omega) hall.out
      have HSI : Hid (size M ≤ k) := hms.out.2.2.1
      by_cases he : size M = k
      · have HK : Hid (tB (WheelP D) = true) := tB_true (HI.out.2 (hms.out.2.2.2.1 he))
        have HE : Hid (size M = k) := he
        clear hall hms he HI
        go_wp2_with (first | (at_len; refine wpList_len_own _ rfl _ 152 rfl 3 3 Tryz.underlying152 _ (w.heap.size + 1) k M rfl hown ?_) | go_in)
        go_ret
        exact ⟨by rw [HK.out, HE.out]; first | rfl | simp, hb⟩
      · have HK : Hid (tB (WheelP D) = false) := tB_false (fun h => he (hms.out.2.2.2.2 (HI.out.1 h)))
        have hne : ((size M : Int) == (k : Int)) = false := by simp; omega
        clear hall hms HI
        go_wp2_with (first | (at_len; refine wpList_len_own _ rfl _ 152 rfl 3 3 Tryz.underlying152 _ (w.heap.size + 1) k M rfl hown ?_) | go_in)
        go_ret
        exact ⟨by rw [HK.out]; first | (simp; done) | (simp; omega), hb⟩

end Go.Proofs.YtnklnhnjmikooaaGreat
