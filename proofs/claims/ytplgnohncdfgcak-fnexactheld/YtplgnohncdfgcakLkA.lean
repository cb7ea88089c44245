/- The contract of the specification's Look. -/
import Derived.Test.YtplgnohncdfgcakSFind
import Derived.Test.YtplgnohncdfgcakLsC
import Derived.Test.YtplgnohncdfgcakStA
import Derived.Deep.RegionHeld3
namespace Go.Proofs.Ytplgnohncdfgcak
open Go.RowKit

/-- What a look tells of a key, where it may be asked. -/
def lk0 (S : DState) (key : List Int) : Int × Bool × List Int :=
  match S.rows.find? (fun r => decide (r.key = key)) with
  | some r => (r.turned, true, r.val)
  | none => match S.tombs.find? (fun t => decide (t.key = key)) with
    | some t => (t.index, false, [])
    | none => (S.lost, false, [])
def lkV (S : DState) (key : List Int) (hD : Decidable (StP S) := Classical.propDecidable (StP S)) : Int × Bool × List Int := if tB (StP S) hD = true ∧ keyB key = true then lk0 S key else (0, false, [])

theorem find_at {α : Type} {p : α → Bool} {l : List α} {k : Nat} {x : α} (h : ∀ i y, i < k → l[i]? = some y → p y = false) (hx : l[k]? = some x) (hp : p x = true) : l.find? p = some x := by
  induction l generalizing k with
  | nil => simp at hx
  | cons a l ih =>
    cases k with
    | zero =>
      simp at hx
      subst hx
      simp [hp]
    | succ k =>
      have h0 := h 0 a (by omega) (by simp)
      rw [List.find?_cons, h0]
      exact ih (k := k) (fun i y hi hy => h (i + 1) y (by omega) (by simpa using hy)) (by simpa using hx)
theorem find_no {α : Type} {p : α → Bool} {l : List α} (h : ∀ (i : Nat) (y : α), l[i]? = some y → p y = false) : l.find? p = none := by
  rw [List.find?_eq_none]
  intro x hx
  obtain ⟨i, hi⟩ := List.mem_iff_getElem?.1 hx
  rw [h i x hi]
  simp

theorem ow_shape {w : World} {base : Nat} {v : Value} {xs : List Int} (h : Ow w base v xs) : ∃ a c, v = .slice a xs.length c := by
  rcases h.2 with ⟨rfl, h0⟩ | ⟨g, cap, cur, rfl, _⟩
  · exact ⟨none, 0, by rw [h0]⟩
  · exact ⟨_, cap, rfl⟩
theorem below_own' {B base : Nat} {w0 w w' : World} {v : Value} {xs : List Int} (hb : Below B w0 w) (hs : B ≤ w.heap.size) (ho : Ow w base v xs) (hB : B ≤ base) (hg : w.grownBy w' v.ownBlock) : Below B w0 w' :=
  hb.grown hg hs (fun k hk => Nat.le_trans hB (ho.lt k hk).1)

set_option maxHeartbeats 4000000 in
theorem l2lookV (v u : Value) (S : DState) (p : List Int) (w : World) (h : VState w v S) (hp : RV w u p) (hvl : ∀ (i : Nat) (r : DRow), S.rows[i]? = some r → r.val.length ≤ 2097152) :
    Calls Try.prog 41 #[v, u] w fun e w' => ∃ vv, e = .returned (.agg #[.int .i64 (lk0 S p).1, .bool (lk0 S p).2.1, vv]) ∧ Ow w' w.heap.size vv (lk0 S p).2.2 ∧ Below w.heap.size w w' := by
  have hE : ∀ w : World, ∀ o, Ext w (w.alloc o) := fun w o => World.grownBy_alloc _ _ _
  have hB : ∀ w : World, ∀ o, Below w.heap.size w (w.alloc o) := fun w o => (Below.refl _ w).alloc (Nat.le_refl _) _
  have h0 : Hid (VState w v S) := h
  have HP : Hid (RV w u p) := hp
  have HVL : Hid (∀ (i : Nat) (r : DRow), S.rows[i]? = some r → r.val.length ≤ 2097152) := hvl
  clear hvl
  obtain ⟨rv, tv, sv, lv, rfl, hr, ht, _, _⟩ := h
  obtain ⟨pa, pc, rfl, _, _, _⟩ := hp
  have HRW : Hid (VRows w rv S.rows) := hr
  have HTW : Hid (VTombs w tv S.tombs) := ht
  go_enter Try.func41, Try.ntmps41
  go_wp2_with fail
  refine (sl2rowV _ _ _ _ _ _ S.rows _ p _ (HRW.out.ext (by first | exact hE _ _ | exact (hE _ _).tr (hE _ _))) (HP.out.ext (by first | exact hE _ _ | exact (hE _ _).tr (hE _ _)))).mono ?_
  rintro e w1 ⟨rfl, b1⟩
  have R1 := below_blk b1 (by simp; omega) (h2_0 w _ _)
  have T1 := below_blk b1 (by simp) (h2_1 w _ _)
  have hs1 : w.heap.size + 2 ≤ w1.heap.size := by have := b1.size; simp at this; omega
  have B1 : Below w.heap.size w w1 := ((hB w _).alloc (by simp) _).trans (b1.mono (by simp; omega))
  clear b1
  by_cases hf : 0 ≤ fnd (fun s : DRow => decide (s.key = p)) S.rows
  · obtain ⟨k, s, ek, hs, hps, hbf⟩ := fnd_hit hf
    have HL : Hid (lk0 S p = (s.turned, true, s.val)) := by
      show lk0 S p = _
      unfold lk0
      rw [find_at hbf hs hps]
    rw [ek]
    obtain ⟨C, ⟨a, cap, rfl, h1, h2, h3⟩, hC⟩ := hr
    obtain ⟨e0, e1, e2, e3⟩ := hC k s hs
    have hkn := (List.getElem?_eq_some_iff.1 hs).1
    obtain ⟨b, o, rfl, hbl, hc⟩ := h3 (by omega)
    have X := ext_below B1
    have c1 := World.grownBy.cell X (hc k hkn 1 (by omega)) (by simp)
    have c2 := World.grownBy.cell X (hc k hkn 2 (by omega)) (by simp)
    have HV : Hid (RV w1 (C k 1) s.val) := e1.ext X
    obtain ⟨va, vc, ev, _, _, _⟩ := e1
    rw [ev] at HV c1
    rw [e2] at c2
    unfold maxLen at h2
    have HVN := HVL.out k s hs
    obtain ⟨r1, _⟩ := at_block R1 1 _ rfl
    clear hc e0 e2 e3 h3 hC hs ek hf hbf hps
    generalize S.rows.length = n at *
    have hlt' : (k : Int) < (n : Int) := by omega
    obtain ⟨t0, g0⟩ := at_block T1 0 _ rfl
    obtain ⟨t1, g1⟩ := at_block T1 1 _ rfl
    obtain ⟨t2, g2⟩ := at_block T1 2 _ rfl
    have HVV : Hid (Rd w1 va s.val.length s.val) := by
      obtain ⟨_, _, e, hrd, _, _⟩ := HV.out
      cases e
      exact hrd
    have hvr : Hid (∀ x ∈ s.val, 0 ≤ x ∧ x ≤ 255) := HVV.out.rng
    have HVN' : Hid (s.val.length ≤ 2097152) := HVN
    have HC1 : Hid (b < w.heap.size) := hbl
    clear HV HVN
    have HT1 : Hid (w1.heap[w.heap.size + 1]? = some (.cells #[.int .i64 0, .bool false, .slice none 0 0] 31 (0, 0))) := T1
    have HR1 : Hid (w1.cell? ⟨w.heap.size, 1, none⟩ = some (.slice (some ⟨b, o, none⟩) n cap) ∧ w1.cell? ⟨b, o + k * 4 + 2, none⟩ = some (.int .i64 s.turned)) := ⟨r1, c2⟩
    have HCC : Hid (w1.cell? ⟨b, o + k * 4 + 1, none⟩ = some (.slice va s.val.length vc)) := c1
    clear T1 R1
    have HVL2 : Hid (s.val.length = s.val.length) := rfl
    obtain ⟨vl, hvl⟩ : ∃ vl, s.val.length = vl := ⟨_, rfl⟩
    rw [hvl] at c1 HVV HVN' HCC
    have HVL3 : Hid (s.val.length = vl) := hvl
    clear hvl HVL2
    have hne0 : w.heap.size + 1 ≠ w.heap.size := by omega
    have hne1 : w.heap.size + 1 ≠ b := by omega
    have hne2 : w1.heap.size ≠ w.heap.size := by omega
    have hne3 : w1.heap.size ≠ b := by omega
    have hne4 : w1.heap.size ≠ w.heap.size + 1 := by omega
    have hdz : w1.drew.heap.size = w1.heap.size := rfl
    go_wp2_with fail
    go_region_held3 (fun w' => w'.cell? ⟨w.heap.size, 1, none⟩ = some (.slice (some ⟨b, o, none⟩) n cap) ∧ w'.cell? ⟨b, o + k * 4 + 1, none⟩ = some (.slice va vl vc) ∧ w'.cell? ⟨b, o + k * 4 + 2, none⟩ = some (.int .i64 s.turned)) (go_keep)
      ((refine step_append_bytes rfl (.tmp 18) (.tmp 24) 28 rfl w1.heap.size info5 Try.underlying28 _ [] rfl (ow_empty w1.drew) _ _ _ s.val rfl ((HVV.out.grown (ext_drewN w1 1)).grown (World.grownBy_alloc _ _ _)) (by have := HVN'.out; simp; omega) (by simp) ?_; intro v9 w9 ow9 g9; simp only [List.nil_append] at ow9; obtain ⟨a9, c9, rfl, _, _, _⟩ := Ow.rv ow9 hvr.out; rw [HVL3.out] at ow9 ⊢; have T9 := ((g9.block (w.heap.size + 1) (by simp; omega) (by first | exact fun e => hne4 (Option.some.inj e) | exact fun e => hne4 (Option.some.inj e).symm)).trans ((Below.heap_alloc w1.drew _ _ (by simp; omega)).trans HT1.out)); obtain ⟨t0', g0'⟩ := at_block T9 0 _ rfl; obtain ⟨t1', g1'⟩ := at_block T9 1 _ rfl; obtain ⟨t2', g2'⟩ := at_block T9 2 _ rfl; have k1 := World.grownBy.cell g9 (World.grownBy.cell (hE w1.drew _) (show w1.drew.cell? _ = _ from HR1.out.1) (by simp)) (by first | exact fun e => hne2 (Option.some.inj e) | exact fun e => hne2 (Option.some.inj e).symm); have k2 := World.grownBy.cell g9 (World.grownBy.cell (hE w1.drew _) (show w1.drew.cell? _ = _ from HR1.out.2) (by simp)) (by first | exact fun e => hne3 (Option.some.inj e) | exact fun e => hne3 (Option.some.inj e).symm); have k3 := World.grownBy.cell g9 (World.grownBy.cell (hE w1.drew _) (show w1.drew.cell? _ = _ from HCC.out) (by simp)) (by first | exact fun e => hne3 (Option.some.inj e) | exact fun e => hne3 (Option.some.inj e).symm)))
    have B9 : Below w.heap.size w w9 := below_own' ((below_drewN B1 1).alloc (by have := B1.size; simp; omega) _) (by simp; omega) (ow_empty w1.drew) (by omega) g9
    go_wp2
    refine bodyPost_ret (v := .agg #[.int .i64 s.turned, .bool true, .slice a9 vl c9]) (by simp [results, Try.results41, go_sem, t0', t1', t2']) rfl ?_
    refine ⟨_, by rw [HL.out], ?_, ?_⟩
    · rw [HL.out]
      refine ow_base (base := w1.heap.size) ?_ (by omega)
      repeat (refine ow_set ?_ (by omega))
      rw [← HVL3.out] at ow9 ⊢
      exact ow9
    · repeat (refine below_set ?_ (by omega))
      exact B9
  · have hf' : fnd (fun s : DRow => decide (s.key = p)) S.rows = -1 := by have := (fnd_le (fun s : DRow => decide (s.key = p)) S.rows).1; omega
    have HN1 : Hid (S.rows.find? (fun r => decide (r.key = p)) = none) := find_no (fnd_neg (by omega))
    rw [hf']
    clear hf hf'
    obtain ⟨x0, _⟩ := at_block R1 0 _ rfl
    obtain ⟨x1, _⟩ := at_block R1 1 _ rfl
    obtain ⟨x2, _⟩ := at_block R1 2 _ rfl
    obtain ⟨x3, _⟩ := at_block R1 3 _ rfl
    obtain ⟨x4, _⟩ := at_block R1 4 _ rfl
    obtain ⟨x5, _⟩ := at_block R1 5 _ rfl
    go_wp2_with fail
    refine (sl2tombV _ _ _ _ _ _ S.tombs _ p _ (HTW.out.ext (ext_below B1)) (HP.out.ext (ext_below B1))).mono ?_
    rintro e w2 ⟨rfl, b2⟩
    have R2 := below_blk b2 (by omega) R1
    have T2 := below_blk b2 (by omega) T1
    have B2 := B1.trans (b2.mono B1.size)
    clear b2 R1 T1 x0 x1 x2 x3 x4 x5
    obtain ⟨t0, g0⟩ := at_block T2 0 _ rfl
    obtain ⟨t1, g1⟩ := at_block T2 1 _ rfl
    obtain ⟨t2, g2⟩ := at_block T2 2 _ rfl
    obtain ⟨r2, _⟩ := at_block R2 2 _ rfl
    obtain ⟨r3, _⟩ := at_block R2 3 _ rfl
    by_cases hf : 0 ≤ fnd (fun s : DTomb => decide (s.key = p)) S.tombs
    · obtain ⟨k, s, ek, hs, hps, hbf⟩ := fnd_hit hf
      have HL : Hid (lk0 S p = (s.index, false, [])) := by
        show lk0 S p = _
        unfold lk0
        rw [HN1.out, find_at hbf hs hps]
      rw [ek]
      obtain ⟨C, ⟨a, cap, rfl, h1, h2, h3⟩, hC⟩ := ht
      obtain ⟨e0, e1⟩ := hC k s hs
      have hkn := (List.getElem?_eq_some_iff.1 hs).1
      obtain ⟨b, o, rfl, hbl, hc⟩ := h3 (by omega)
      have c1 := World.grownBy.cell (ext_below B2) (hc k hkn 1 (by omega)) (by simp)
      rw [e1] at c1
      unfold maxLen at h2
      clear hc e0 e1 h3 hC hs ek hf hbf hps
      generalize S.tombs.length = n at *
      have hlt' : (k : Int) < (n : Int) := by omega
      have hne : ¬ b = w.heap.size + 1 := by omega
      go_wp2
      refine bodyPost_ret (v := .agg #[.int .i64 s.index, .bool false, .slice none 0 0]) (by simp [results, Try.results41, go_sem, t0, t1, t2]) rfl ?_
      refine ⟨_, by rw [HL.out], ?_, ?_⟩
      · rw [HL.out]
        exact World.ownsRow_nil _ _ _ _
      · repeat (refine below_set ?_ (by omega))
        exact B2
    · have hf' : fnd (fun s : DTomb => decide (s.key = p)) S.tombs = -1 := by have := (fnd_le (fun s : DTomb => decide (s.key = p)) S.tombs).1; omega
      have HL : Hid (lk0 S p = (S.lost, false, [])) := by
        show lk0 S p = _
        unfold lk0
        rw [HN1.out, find_no (fnd_neg (by omega))]
      rw [hf']
      clear hf hf'
      go_wp2
      refine bodyPost_ret (v := .agg #[.int .i64 S.lost, .bool false, .slice none 0 0]) (by simp [results, Try.results41, go_sem, t0, t1, t2]) rfl ?_
      refine ⟨_, by rw [HL.out], ?_, ?_⟩
      · rw [HL.out]
        exact World.ownsRow_nil _ _ _ _
      · repeat (refine below_set ?_ (by omega))
        exact B2

set_option maxHeartbeats 4000000 in
theorem sLookV (hI : SaysOk 39) (v u : Value) (S : DState) (p : List Int) (w : World) (h : VState w v S) (hp : RV w u p) :
    Calls Try.prog 10 #[v, u] w fun e w' => ∃ vv, e = .returned (.agg #[.int .i64 (lkV S p).1, .bool (lkV S p).2.1, vv]) ∧ Ow w' w.heap.size vv (lkV S p).2.2 ∧ Below w.heap.size w w' := by
  have hE : ∀ w : World, ∀ o, Ext w (w.alloc o) := fun w o => World.grownBy_alloc _ _ _
  have hB : ∀ w : World, ∀ o, Below w.heap.size w (w.alloc o) := fun w o => (Below.refl _ w).alloc (Nat.le_refl _) _
  have h0 : Hid (VState w v S) := h
  have HI : Hid (SaysOk 39) := hI
  have HP : Hid (RV w u p) := hp
  clear hI
  obtain ⟨rv, tv, sv, lv, rfl, hr, ht, _, _⟩ := h
  obtain ⟨pa, pc, rfl, _, _, _⟩ := hp
  go_enter Try.func10, Try.ntmps10
  go_wp2_with fail
  refine (HI.out _ S _ (h0.out.ext (by first | exact hE _ _ | exact (hE _ _).tr (hE _ _)))).mono ?_
  rintro e w1 ⟨rfl, b1⟩
  have R1 := below_blk b1 (by simp; omega) (h2_0 w _ _)
  have T1 := below_blk b1 (by simp) (h2_1 w _ _)
  have hs1 : w.heap.size + 2 ≤ w1.heap.size := by have := b1.size; simp at this; omega
  have B1 : Below w.heap.size w w1 := ((hB w _).alloc (by simp) _).trans (b1.mono (by simp; omega))
  clear b1
  obtain ⟨t0, g0⟩ := at_block T1 0 _ rfl
  obtain ⟨t1, g1⟩ := at_block T1 1 _ rfl
  obtain ⟨t2, g2⟩ := at_block T1 2 _ rfl
  cases hok : tB (StP S)
  · have HL : Hid (lkV S p = (0, false, [])) := if_neg (by rw [hok]; simp)
    clear hok R1
    go_wp2
    refine bodyPost_ret (v := .agg #[.int .i64 0, .bool false, .slice none 0 0]) (by simp [results, Try.results10, go_sem, t0, t1, t2]) rfl ?_
    refine ⟨_, by rw [HL.out], ?_, ?_⟩
    · rw [HL.out]
      exact World.ownsRow_nil _ _ _ _
    · repeat (refine below_set ?_ (by omega))
      exact B1
  have HKL : Hid (∀ (i : Nat) (r : DRow), S.rows[i]? = some r → r.val.length ≤ 2097152) := fun i r hr => by
    have := ((tB_iff.1 hok).2.2.2.1.2 i (List.getElem?_eq_some_iff.1 hr).1 r hr).2.1
    omega
  cases hkb : keyB p
  · have HL : Hid (lkV S p = (0, false, [])) := if_neg (by rw [hkb]; simp)
    clear hok R1
    go_wp2_with (go_at_call 40; refine (l2keyV _ p _ (HP.out.ext (ext_below B1))).mono ?_; rintro e w3 ⟨rfl, rfl⟩; rw [hkb])
    refine bodyPost_ret (v := .agg #[.int .i64 0, .bool false, .slice none 0 0]) (by simp [results, Try.results10, go_sem, t0, t1, t2]) rfl ?_
    refine ⟨_, by rw [HL.out], ?_, ?_⟩
    · rw [HL.out]
      exact World.ownsRow_nil _ _ _ _
    · repeat (refine below_set ?_ (by omega))
      exact B1
  have HL : Hid (lkV S p = lk0 S p) := if_pos ⟨hok, hkb⟩
  have HKB : Hid (keyB p = true) := hkb
  clear hok hkb t0 t1 t2 g0 g1 g2
  obtain ⟨x0, _⟩ := at_block R1 0 _ rfl
  obtain ⟨x1, _⟩ := at_block R1 1 _ rfl
  obtain ⟨x2, _⟩ := at_block R1 2 _ rfl
  obtain ⟨x3, _⟩ := at_block R1 3 _ rfl
  obtain ⟨x4, _⟩ := at_block R1 4 _ rfl
  obtain ⟨x5, _⟩ := at_block R1 5 _ rfl
  go_wp2_with (go_at_call 40; refine (l2keyV _ p _ (HP.out.ext (ext_below B1))).mono ?_; rintro e w3 ⟨rfl, rfl⟩; rw [HKB.out])
  refine (l2lookV _ _ S p w3 (h0.out.ext (ext_below B1)) (HP.out.ext (ext_below B1)) HKL.out).mono ?_
  rintro e w2 ⟨vv, rfl, o2, b2⟩
  have T2 := below_blk b2 (by omega) T1
  have B2 := B1.trans (b2.mono B1.size)
  clear b2 R1 T1 x0 x1 x2 x3 x4 x5
  obtain ⟨t0, g0⟩ := at_block T2 0 _ rfl
  obtain ⟨t1, g1⟩ := at_block T2 1 _ rfl
  obtain ⟨t2, g2⟩ := at_block T2 2 _ rfl
  rw [← HL.out] at o2 ⊢
  obtain ⟨va, vc, rfl⟩ := ow_shape o2
  have HO2 : Hid (Ow w2 w3.heap.size (.slice va (lkV S p).2.2.length vc) (lkV S p).2.2) := o2
  clear o2
  go_wp2
  refine bodyPost_ret (v := .agg #[.int .i64 (lkV S p).1, .bool (lkV S p).2.1, .slice va (lkV S p).2.2.length vc]) (by simp [results, Try.results10, go_sem, t0, t1, t2]) rfl ?_
  refine ⟨_, rfl, ?_, ?_⟩
  · refine ow_base (base := w3.heap.size) ?_ (by omega)
    repeat (refine ow_set ?_ (by omega))
    exact HO2.out
  · repeat (refine below_set ?_ (by omega))
    exact B2

end Go.Proofs.Ytplgnohncdfgcak
