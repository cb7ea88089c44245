
/- The program's DutySync. -/
import Derived.Test.YtnklnhnjmikooaaGreatSFind
import Derived.Test.YtnklnhnjmikooaaGreatDy2
import Derived.Lib.Hide
import Derived.Test.YtnklnhnjmikooaaGreatHpW
import Derived.Test.YtnklnhnjmikooaaGreatHpZ
import Derived.Test.YtnklnhnjmikooaaGreatWhN0
import Derived.Test.YtnklnhnjmikooaaGreatDy7
import Derived.Test.YtnklnhnjmikooaaGreatHpL
import Derived.Test.YtnklnhnjmikooaaGreatElG
import Derived.Deep.RegionHeld3
import Derived.Test.YtnklnhnjmikooaaGreatIState
namespace Go.Proofs.YtnklnhnjmikooaaGreat
open Go.RowKit

set_option maxRecDepth 20000 in
set_option maxHeartbeats 1000000 in
theorem hsOneV (s : DSess) (g : Nat) (id : Int) (w : World) (h : w.cell? ⟨g, 0, none⟩ = some (.int .i64 id)) : Calls Tryz.prog 106 #[.agg #[.int .i64 s.id, .bool s.del], .pointer (some ⟨g, 0, none⟩)] w fun e w' => e = .returned (.bool (decide (s.id = id))) ∧ Below w.heap.size w w' := by
  have hg : g < w.heap.size := World.block_lt_of_cell? w _ h
  have hne : ∀ o, (w.alloc o).cell? ⟨g, 0, none⟩ = some (.int .i64 id) := fun o => World.grownBy.cell (World.grownBy_alloc w o none) h (by simp)
  go_enter Tryz.func106, Tryz.ntmps106
  go_wp2
  go_ret
  exact ⟨by first | rfl | simp, (Below.refl _ w).alloc (Nat.le_refl _) _⟩

set_option maxRecDepth 20000 in
set_option maxHeartbeats 1000000 in
theorem indexSeV (v : Value) (ts : List DSess) (g : Nat) (id : Int) (w : World) (h : VSess w v ts) (hg : w.cell? ⟨g, 0, none⟩ = some (.int .i64 id)) : Calls Tryz.prog 116 #[v, .func (Fn.func 106) #[] #[.pointer (some ⟨g, 0, none⟩)]] w fun e w' => e = .returned (.int .i64 (fnd (fun s : DSess => decide (s.id = id)) ts)) ∧ Below w.heap.size w w' := by
  obtain ⟨C, ⟨a, cap, rfl, h1, h2, h3⟩, hC⟩ := h
  have HC : Hid (∀ (i : Nat) (r : DSess), ts[i]? = some r → C i 0 = Value.int IntKind.i64 r.id ∧ C i 1 = Value.bool r.del) := hC
  clear hC
  have HG : Hid (w.cell? ⟨g, 0, none⟩ = some (.int .i64 id)) := hg
  clear hg
  obtain ⟨n, hn⟩ : ∃ n, n = ts.length := ⟨_, rfl⟩
  rw [← hn] at h1 h3 ⊢
  have HN : Hid (n = ts.length) := hn
  clear hn
  unfold maxLen at h2
  have H3 : Hid (0 < n → ∃ b o, a = some ⟨b, o, none⟩ ∧ b < w.heap.size ∧ ∀ i, i < n → ∀ j, j < 2 → w.cell? ⟨b, o + i * 2 + j, none⟩ = some (C i j)) := h3
  clear h3
  obtain ⟨r, hr⟩ : ∃ r, r = fnd (fun s : DSess => decide (s.id = id)) ts := ⟨_, rfl⟩
  rw [← hr]
  have HR : Hid (r = fnd (fun s : DSess => decide (s.id = id)) ts) := hr
  clear hr
  go_enter Tryz.func116, Tryz.ntmps116
  go_wp2
  go_loopw [8] (fun i wr => ∃ k : Nat, k ≤ n ∧ i = .int .i64 k ∧ Below w.heap.size w wr ∧ Hid (∀ (j : Nat) (u : DSess), j < k → ts[j]? = some u → u.id ≠ id)) (fun i _ => n - (intOf i).toNat)
  case atStart => exact ⟨0, Nat.zero_le _, rfl, Below.refl _ _, fun j u hj => absurd hj (by omega)⟩
  case round =>
    obtain ⟨k, hk, rfl, hb, hall⟩ := hrel
    by_cases hlt : k < n
    · obtain ⟨b, o, rfl, hbl, hc⟩ := H3.out (by omega)
      obtain ⟨s, hs⟩ : ∃ s, ts[k]? = some s := ⟨_, List.getElem?_eq_getElem (by have := HN.out; omega)⟩
      obtain ⟨e0, e1⟩ := HC.out k s hs
      have c0 := World.grownBy.cell (ext_below hb) (hc k hlt 0 (by omega)) (by simp)
      have c1 := World.grownBy.cell (ext_below hb) (hc k hlt 1 (by omega)) (by simp)
      rw [e0, Nat.add_zero] at c0
      rw [e1] at c1
      have HGW := World.grownBy.cell (ext_below hb) HG.out (by simp)
      have hlt' : (k : Int) < (n : Int) := by omega
      clear hc e0 e1
      go_wp2_with fail
      refine (hsOneV s g id _ HGW).mono ?_
      rintro e w2 ⟨rfl, b2⟩
      have hb2 := hb.trans (b2.mono hb.size)
      by_cases he : s.id = id
      · have HK : Hid (r = (k : Int)) := by rw [HR.out]; exact fnd_at (fun i u hi hu => decide_eq_false (hall.out i u hi hu)) hs (decide_eq_true he)
        have he2 : decide (s.id = id) = true := by simpa using he
        rw [he2]
        clear hs hall he he2 c0 c1 HGW
        go_wp2
        go_ret
        exact ⟨by rw [HK.out]; rfl, hb2⟩
      · have HA : Hid (∀ (j : Nat) (u : DSess), j < k + 1 → ts[j]? = some u → u.id ≠ id) := fun j u hj hu => by
          by_cases e : j = k
          · subst e
            rw [hs] at hu
            cases hu
            exact he
          · exact hall.out j u (by omega) hu
        have he2 : decide (s.id = id) = false := by simpa using he
        rw [he2]
        clear hs hall he2 c0 c1 HGW
        go_wp2
        go_roundw
        case rel => exact ⟨k + 1, by omega, by go_num, hb2, HA⟩
        case measure => simp [intOf]; omega
    · have hkn : k = n := by omega
      subst hkn
      have HK : Hid (r = -1) := by
        rw [HR.out]
        exact fnd_none fun i t ht => decide_eq_false (hall.out i t (by have := (List.getElem?_eq_some_iff.1 ht).1; have := HN.out; omega) ht)
      clear hall
      go_wp2
      go_ret
      exact ⟨by rw [HK.out]; rfl, hb⟩


/-- There is a session of this id. -/
def hasI (ss : List DSess) (id : Int) : Bool := decide (0 ≤ fnd (fun s : DSess => decide (s.id = id)) ss)
set_option maxRecDepth 20000 in
set_option maxHeartbeats 1000000 in
theorem hasSessV (v : Value) (ss : List DSess) (id : Int) (w : World) (h : VSess w v ss) : Calls Tryz.prog 83 #[v, .int .i64 id] w fun e w' => e = .returned (.bool (hasI ss id)) ∧ Below w.heap.size w w' := by
  have hv := h
  obtain ⟨C, ⟨a, cap, rfl, h1, h2, h3⟩, hC⟩ := h
  clear h1 h2 h3 hC
  have HCF : Hid (∀ (V : World) g, Ext w V → V.cell? ⟨g, 0, none⟩ = some (.int .i64 id) → Calls Tryz.prog 105 #[.slice a ss.length cap, .func (Fn.func 106) #[] #[.pointer (some ⟨g, 0, none⟩)]] V fun e w' => e = .returned (.bool (hasI ss id)) ∧ Below V.heap.size V w') := fun V g e hg => by
    have HI := Lib.hid (indexSeV _ ss g id V (hv.ext e) hg)
    obtain ⟨r, hr⟩ : ∃ r, r = fnd (fun s : DSess => decide (s.id = id)) ss := ⟨_, rfl⟩
    have HR : Hid (hasI ss id = decide (0 ≤ r)) := by show _ = _; rw [hr]; rfl
    rw [← hr] at HI
    clear hr
    go_enter Tryz.func105, Tryz.ntmps105
    go_wp2_with fail
    refine HI.out.mono ?_
    rintro e w1 ⟨rfl, b1⟩
    go_wp2
    go_ret
    exact ⟨by rw [HR.out]; first | rfl | simp, b1⟩
  clear hv
  go_enter Tryz.func83, Tryz.ntmps83
  go_wp2_with fail
  refine (HCF.out _ w.heap.size (World.grownBy_alloc _ _ _) (at_block (heap_alloc_new w (.cells #[.int .i64 id] 3 (0, 0))) 0 _ rfl).1).mono ?_
  rintro e w1 ⟨rfl, b1⟩
  go_wp2
  go_ret
  exact ⟨rfl, ((Below.refl _ w).alloc (Nat.le_refl _) _).trans (b1.mono (by simp))⟩

end Go.Proofs.YtnklnhnjmikooaaGreat

namespace Go.Proofs.YtnklnhnjmikooaaGreat
open Go.RowKit

/-- A wheel that may be, said of all its timers at once. -/
structure WQ (D : DWheel) : Prop where
  now : 0 ≤ D.now ∧ D.now ≤ 1000000
  len : D.tms.length ≤ 40
  all : ∀ t ∈ D.tms, (0 ≤ t.id ∧ t.id ≤ 2147483647) ∧ (D.now + 1 ≤ t.due ∧ t.due ≤ 2000000)
  sort : SortT D.tms
  ids : (D.tms.map fun t => t.id).Nodup
theorem WQ.good {D : DWheel} (h : WQ D) : GoodT D.tms := fun t ht => (h.all t ht).1
theorem wq_of {D : DWheel} (h : WheelP D) : WQ D := by
  refine ⟨h.1, h.2.1, fun t ht => ?_, wheel_sort h, ?_⟩
  · obtain ⟨i, hi⟩ := List.getElem?_of_mem ht
    have := h.2.2 i (List.getElem?_eq_some_iff.1 hi).1 t hi
    exact ⟨this.1, this.2.1⟩
  · unfold List.Nodup
    rw [List.pairwise_map, List.pairwise_iff_getElem]
    intro i j hi hj hij
    exact (h.2.2 j hj _ (List.getElem?_eq_getElem hj)).2.2.2 i _ hij (List.getElem?_eq_getElem hi)
theorem wq_to {D : DWheel} (h : WQ D) : WheelP D := by
  have hp := h.ids
  unfold List.Nodup at hp
  rw [List.pairwise_map, List.pairwise_iff_getElem] at hp
  have hs := h.sort
  unfold SortT at hs
  rw [List.pairwise_iff_getElem] at hs
  refine ⟨h.now, h.len, fun i hi t ht => ?_⟩
  obtain ⟨_, rfl⟩ := List.getElem?_eq_some_iff.1 ht
  have ha := h.all _ (List.getElem_mem hi)
  refine ⟨ha.1, ha.2, fun p hi0 hpp => ?_, fun j p hj hpp => ?_⟩
  · obtain ⟨hl, rfl⟩ := List.getElem?_eq_some_iff.1 hpp
    have hb := h.all _ (List.getElem_mem hl)
    rw [ahead_k hb.1 ha.1]
    have h1 := hs (i - 1) i hl hi (by omega)
    have h2 := hp (i - 1) i hl hi (by omega)
    have h3 : kT D.tms[i - 1] ≠ kT D.tms[i] := fun e => h2 (congrArg DTim.id (kT_inj hb.1 ha.1 e))
    simp only [decide_eq_true_eq]
    omega
  · obtain ⟨hl, rfl⟩ := List.getElem?_eq_some_iff.1 hpp
    exact hp j i hl hi hj
theorem wq_empty : WheelP ⟨0, []⟩ := wq_to ⟨by simp, by simp, fun t ht => by simp at ht, List.Pairwise.nil, by simp⟩

theorem nodup_inj {ts : List DTim} (h : (ts.map fun t => t.id).Nodup) {s t : DTim} (hs : s ∈ ts) (ht : t ∈ ts) (e : s.id = t.id) : s = t := by
  obtain ⟨i, hi⟩ := List.getElem?_of_mem hs
  obtain ⟨j, hj⟩ := List.getElem?_of_mem ht
  obtain ⟨hil, rfl⟩ := List.getElem?_eq_some_iff.1 hi
  obtain ⟨hjl, rfl⟩ := List.getElem?_eq_some_iff.1 hj
  unfold List.Nodup at h
  rw [List.pairwise_map, List.pairwise_iff_getElem] at h
  rcases Nat.lt_trichotomy i j with hij | hij | hij
  · exact absurd e (h i j hil hjl hij)
  · subst hij; rfl
  · exact absurd e.symm (h j i hjl hil hij)
theorem place_mem {ts : List DTim} {id : Int} (h : placeT ts id < 0) : ∀ t ∈ ts, t.id ≠ id := by
  intro t ht
  rcases placeT_cases ts id with ⟨_, h2⟩ | ⟨i, s, _, _, _, h4⟩
  · obtain ⟨i, hi⟩ := List.getElem?_of_mem ht
    exact h2 i t hi
  · omega
theorem place_of {ts : List DTim} {t : DTim} (hn : (ts.map fun t => t.id).Nodup) (ht : t ∈ ts) : ∃ i : Nat, placeT ts t.id = (i : Int) ∧ ts[i]? = some t := by
  rcases placeT_cases ts t.id with ⟨_, h2⟩ | ⟨i, s, h1, h2, _, h4⟩
  · obtain ⟨i, hi⟩ := List.getElem?_of_mem ht
    exact absurd rfl (h2 i t hi)
  · refine ⟨i, h4, ?_⟩
    rw [h1, nodup_inj hn (List.mem_of_getElem? h1) ht h2]
theorem lessT_no {ts : List DTim} (hn : (ts.map fun t => t.id).Nodup) (id : Int) : ∀ t ∈ lessT ts id, t.id ≠ id := by
  intro t ht
  unfold lessT at ht
  split at ht
  · rename_i h
    exact place_mem h t ht
  · rename_i h
    rcases placeT_cases ts id with ⟨h1, _⟩ | ⟨i, s, h1, h2, _, h4⟩
    · omega
    · rw [h4, Int.toNat_natCast] at ht
      intro e
      have hst : t = s := nodup_inj hn (List.mem_of_mem_eraseIdx ht) (List.mem_of_getElem? h1) (e.trans h2.symm)
      subst hst
      obtain ⟨hil, hsi⟩ := List.getElem?_eq_some_iff.1 h1
      rw [List.mem_eraseIdx_iff_getElem] at ht
      obtain ⟨j, hj, hne, hjt⟩ := ht
      unfold List.Nodup at hn
      rw [List.pairwise_map, List.pairwise_iff_getElem] at hn
      rcases Nat.lt_trichotomy i j with hij | hij | hij
      · exact hn i j hil hj hij (by rw [hsi, hjt])
      · omega
      · exact hn j i hj hil hij (by rw [hsi, hjt])
theorem lessT_nodup {ts : List DTim} (hn : (ts.map fun t => t.id).Nodup) (id : Int) : ((lessT ts id).map fun t => t.id).Nodup := by
  unfold lessT
  split
  · exact hn
  · exact List.Nodup.sublist ((List.eraseIdx_sublist ts _).map _) hn
theorem lessT_len {ts : List DTim} {id : Int} (h : ¬ (placeT ts id < 0 ∧ 40 ≤ ts.length)) (hl : ts.length ≤ 40) : (lessT ts id).length ≤ 39 := by
  unfold lessT
  split
  · omega
  · rcases placeT_cases ts id with ⟨h1, _⟩ | ⟨i, s, h1, h2, _, h4⟩
    · omega
    · have := (List.getElem?_eq_some_iff.1 h1).1
      rw [h4, Int.toNat_natCast, List.length_eraseIdx, if_pos this]
      omega
/-- A wheel in which a timer was set. -/
theorem wq_set {D : DWheel} {id after : Int} (h : WQ D) (hb : badS D id after = false) : WQ ⟨D.now, insT (lessT D.tms id) ⟨id, D.now + after⟩⟩ := by
  have hb' : (0 ≤ id ∧ id ≤ 2147483647) ∧ (1 ≤ after ∧ after ≤ 1000000) ∧ ¬ (placeT D.tms id < 0 ∧ 40 ≤ D.tms.length) := by
    simp only [badS, Bool.or_eq_false_iff, Bool.and_eq_false_iff, decide_eq_false_iff_not] at hb
    omega
  obtain ⟨hid, haf, hfull⟩ := hb'
  have hp := insT_perm (lessT D.tms id) ⟨id, D.now + after⟩
  have gl : GoodT (lessT D.tms id) := fun x hx => h.good x (lessT_sub id x hx)
  refine ⟨h.now, ?_, fun t ht => ?_, insT_sort (lessT_sort id h.sort) gl hid, ?_⟩
  · show (insT _ _).length ≤ 40
    rw [hp.length_eq]
    have := lessT_len hfull h.len
    simp
    omega
  · have := hp.mem_iff.1 ht
    rcases List.mem_append.1 this with h1 | h1
    · exact h.all t (lessT_sub id t h1)
    · have e : t = ⟨id, D.now + after⟩ := by simpa using h1
      subst e
      have := h.now
      exact ⟨hid, by simp only; omega⟩
  · have hp2 := hp.map (fun t => t.id)
    rw [hp2.nodup_iff, List.map_append]
    refine List.nodup_append.2 ⟨lessT_nodup h.ids id, by simp, fun a ha b hb => ?_⟩
    obtain ⟨t, ht, rfl⟩ := List.mem_map.1 ha
    have e : b = id := by simpa using hb
    subst e
    exact lessT_no h.ids b t ht
theorem set_mem (D : DWheel) (id after : Int) : DTim.mk id (D.now + after) ∈ insT (lessT D.tms id) ⟨id, D.now + after⟩ := (insT_perm _ _).mem_iff.2 (by simp)
/-- A wheel that went on. -/
theorem wq_tick {D : DWheel} {n : Int} (h : WQ D) (h0 : 0 ≤ n) (h1 : n ≤ 1000000 - D.now) : WQ ⟨D.now + n, D.tms.filter fun t => decide (D.now + n < t.due)⟩ := by
  have hn := h.now
  refine ⟨by simp only; omega, Nat.le_trans (List.length_filter_le _ _) h.len, fun t ht => ?_, h.sort.filter _, List.Nodup.sublist (List.filter_sublist.map _) h.ids⟩
  obtain ⟨h2, h3⟩ := List.mem_filter.1 ht
  have := h.all t h2
  simp only [decide_eq_true_eq] at h3
  refine ⟨this.1, ?_⟩
  simp only
  omega
theorem split_due {ts : List DTim} (hs : SortT ts) (hg : GoodT ts) (x : Int) : ts.filter (fun t => decide (t.due ≤ x)) ++ ts.filter (fun t => decide (x < t.due)) = ts := by
  have hneg : (fun t : DTim => decide (x < t.due)) = fun t => !decide (t.due ≤ x) := by
    funext t
    by_cases h : t.due ≤ x
    · first | (simp [h]; done) | (simp [h]; omega)
    · first | (simp [h]; done) | (simp [h]; omega)
  have hp : (ts.filter (fun t => decide (t.due ≤ x)) ++ ts.filter (fun t => decide (x < t.due))).Perm ts := by
    rw [hneg]
    exact List.filter_append_perm _ _
  refine sort_uniq (List.pairwise_append.2 ⟨hs.filter _, hs.filter _, fun a ha b hb => ?_⟩) hs (hg.perm hp) hp
  obtain ⟨a1, a2⟩ := List.mem_filter.1 ha
  obtain ⟨b1, b2⟩ := List.mem_filter.1 hb
  simp only [decide_eq_true_eq] at a2 b2
  have := hg a a1
  have := hg b b1
  unfold kT
  omega
/-- Moments one by one ring like many at once. -/
theorem tick_two {ts : List DTim} (hs : SortT ts) (hg : GoodT ts) {x y : Int} (hxy : x ≤ y) : (ts.filter (fun t => decide (x < t.due))).filter (fun t => decide (y < t.due)) = ts.filter (fun t => decide (y < t.due)) ∧ ts.filter (fun t => decide (t.due ≤ x)) ++ (ts.filter (fun t => decide (x < t.due))).filter (fun t => decide (t.due ≤ y)) = ts.filter (fun t => decide (t.due ≤ y)) := by
  refine ⟨?_, ?_⟩
  · rw [List.filter_filter]
    refine List.filter_congr fun t _ => ?_
    by_cases h : y < t.due
    · have : x < t.due := by omega
      simp [h, this]
    · simp [h]
  · have h1 := congrArg (List.filter fun t => decide (t.due ≤ y)) (split_due hs hg x)
    rw [List.filter_append] at h1
    rw [← h1]
    congr 1
    rw [List.filter_filter]
    refine List.filter_congr fun t _ => ?_
    by_cases h : t.due ≤ x
    · have : t.due ≤ y := by omega
      simp [h, this]
    · simp [h]

end Go.Proofs.YtnklnhnjmikooaaGreat

namespace Go.Proofs.YtnklnhnjmikooaaGreat
open Go.RowKit

/-- The wheel D with this timer set. -/
def setW (D : DWheel) (id after : Int) : DWheel := ⟨D.now, insT (lessT D.tms id) ⟨id, D.now + after⟩⟩
theorem bad_no {D : DWheel} {id after : Int} (hb : badS D id after = false) : (0 ≤ id ∧ id ≤ 2147483647) ∧ (1 ≤ after ∧ after ≤ 1000000) := by
  simp only [badS, Bool.or_eq_false_iff, Bool.and_eq_false_iff, decide_eq_false_iff_not] at hb
  omega
theorem set_good {D : DWheel} {id after : Int} (hb : badS D id after = false) : setD true D id after = (setW D id after, true) := by
  unfold setD
  rw [if_pos rfl, hb]
  exact rfl
theorem set_bad {D : DWheel} {id after : Int} (hb : badS D id after = true) : setD true D id after = (D, false) := by
  unfold setD
  rw [if_pos rfl, hb]
  exact rfl
theorem setW_p {D : DWheel} {id after : Int} (h : WheelP D) (hb : badS D id after = false) : WheelP (setW D id after) := wq_to (wq_set (wq_of h) hb)
theorem setW_left {D : DWheel} {id after : Int} (h : WheelP D) (hb : badS D id after = false) : leftB true (setW D id after) id = (after, true) := by
  obtain ⟨i, h1, h2⟩ := place_of (wq_set (wq_of h) hb).ids (set_mem D id after)
  simp only at h1
  unfold leftB setW
  simp only [if_true]
  rw [h1, if_neg (by omega), Int.toNat_natCast, h2]
  simp only [Prod.mk.injEq, and_true]
  omega
theorem setW_next {D : DWheel} {id after : Int} (h : WheelP D) (hb : badS D id after = false) : ∃ nx, nextB true (setW D id after) = (nx, true) ∧ nx ≤ after ∧ 1 ≤ nx := by
  have hq := wq_set (wq_of h) hb
  have hm := set_mem D id after
  obtain ⟨j, hj⟩ := List.getElem?_of_mem hm
  have hjl := (List.getElem?_eq_some_iff.1 hj).1
  obtain ⟨t, ht⟩ : ∃ t, (insT (lessT D.tms id) ⟨id, D.now + after⟩)[0]? = some t := ⟨_, List.getElem?_eq_getElem (by omega)⟩
  have htm := List.mem_of_getElem? ht
  have hk : kT t ≤ kT ⟨id, D.now + after⟩ := by
    have hs := hq.sort
    unfold SortT at hs
    rw [List.pairwise_iff_getElem] at hs
    obtain ⟨h0l, h0e⟩ := List.getElem?_eq_some_iff.1 ht
    obtain ⟨_, hje⟩ := List.getElem?_eq_some_iff.1 hj
    by_cases e : j = 0
    · subst e
      rw [ht] at hj
      cases hj
      omega
    · have := hs 0 j h0l hjl (by omega)
      rw [h0e, hje] at this
      exact this
  have hd := kT_due (hq.all t htm).1 (hq.all _ hm).1 hk
  refine ⟨t.due - D.now, ?_, ?_, ?_⟩
  · unfold nextB setW
    simp only [if_true]
    rw [ht]
  · simp only at hd
    omega
  · have := (hq.all t htm).2.1
    simp only at this
    omega
theorem lessT_at {X : List DTim} {id : Int} {i : Nat} (h : placeT X id = (i : Int)) : lessT X id = X.eraseIdx i := by
  unfold lessT
  rw [h, if_neg (by omega), Int.toNat_natCast]
theorem setW_stop {D : DWheel} {id after : Int} (h : WheelP D) (hb : badS D id after = false) : ∃ S, stopD true (setW D id after) id = (S, true) ∧ ∀ c, leftB c S id = (0, false) := by
  have hq := wq_set (wq_of h) hb
  obtain ⟨i, h1, h2⟩ := place_of hq.ids (set_mem D id after)
  simp only at h1
  refine ⟨⟨D.now, (insT (lessT D.tms id) ⟨id, D.now + after⟩).eraseIdx i⟩, ?_, fun c => ?_⟩
  · unfold stopD setW
    simp only [if_true]
    rw [h1, if_neg (by omega), Int.toNat_natCast]
  · have hno := lessT_no hq.ids id
    have hl := lessT_at h1
    simp only at hno
    have hp : placeT ((insT (lessT D.tms id) ⟨id, D.now + after⟩).eraseIdx i) id = -1 := placeT_none fun j t ht => by
      refine hno t ?_
      show t ∈ lessT (insT (lessT D.tms id) ⟨id, D.now + after⟩) id
      rw [hl]
      exact List.mem_of_getElem? ht
    cases c with
    | false => rfl
    | true =>
      unfold leftB
      simp only [if_true]
      rw [hp, if_pos (by omega)]
/-- Moments one by one and at once. -/
theorem setW_tick {D : DWheel} {id after n : Int} (h : WheelP D) (hb : badS D id after = false) (hf : after ≤ 1000000 - D.now) (h0 : 0 ≤ n) (h1 : n < after) :
    ∃ Y A B C Z, tickD true (setW D id after) n = (Y, A) ∧ WheelP Y ∧ tickD true Y (after - n) = (Z, B) ∧ tickD true (setW D id after) after = (Z, C) ∧ A ++ B = C ∧ id ∈ C ∧ id ∉ A ∧ C.length ≤ 40 ∧ Z.tms.length ≤ 40 := by
  have hq := wq_set (wq_of h) hb
  have hm := set_mem D id after
  obtain ⟨X, hX⟩ : ∃ X, X = insT (lessT D.tms id) ⟨id, D.now + after⟩ := ⟨_, rfl⟩
  have hqX : WQ ⟨D.now, X⟩ := by rw [hX]; exact hq
  rw [← hX] at hm
  have hY := wq_tick hqX h0 (by simp only; omega)
  have t1 : tickD true ⟨D.now, X⟩ n = (⟨D.now + n, X.filter fun t => decide (D.now + n < t.due)⟩, (X.filter fun t => decide (t.due ≤ D.now + n)).map fun t => t.id) := by
    unfold tickD
    rw [if_pos rfl, if_pos (by simp only [Bool.and_eq_true, decide_eq_true_eq]; omega)]
  have t3 : tickD true ⟨D.now, X⟩ after = (⟨D.now + after, X.filter fun t => decide (D.now + after < t.due)⟩, (X.filter fun t => decide (t.due ≤ D.now + after)).map fun t => t.id) := by
    unfold tickD
    rw [if_pos rfl, if_pos (by simp only [Bool.and_eq_true, decide_eq_true_eq]; omega)]
  obtain ⟨e1, e2⟩ := tick_two hqX.sort hqX.good (x := D.now + n) (y := D.now + after) (by omega)
  have t2 : tickD true ⟨D.now + n, X.filter fun t => decide (D.now + n < t.due)⟩ (after - n) = (⟨D.now + after, X.filter fun t => decide (D.now + after < t.due)⟩, ((X.filter fun t => decide (D.now + n < t.due)).filter fun t => decide (t.due ≤ D.now + after)).map fun t => t.id) := by
    unfold tickD
    rw [if_pos rfl, if_pos (by simp only [Bool.and_eq_true, decide_eq_true_eq]; omega)]
    simp only
    rw [show D.now + n + (after - n) = D.now + after by omega, e1]
  have eS : setW D id after = ⟨D.now, X⟩ := by unfold setW; rw [hX]
  rw [eS]
  refine ⟨_, _, _, _, _, t1, wq_to hY, t2, t3, ?_, ?_, ?_, ?_, Nat.le_trans (List.length_filter_le _ _) hqX.len⟩
  · rw [← List.map_append, e2]
  · exact List.mem_map.2 ⟨⟨id, D.now + after⟩, List.mem_filter.2 ⟨hm, by simp⟩, rfl⟩
  · intro hin
    obtain ⟨t, ht, hid⟩ := List.mem_map.1 hin
    obtain ⟨ht1, ht2⟩ := List.mem_filter.1 ht
    have : t = ⟨id, D.now + after⟩ := nodup_inj hqX.ids ht1 hm hid
    subst this
    simp only [decide_eq_true_eq] at ht2
    omega
  · rw [List.length_map]
    exact Nat.le_trans (List.length_filter_le _ _) hqX.len

end Go.Proofs.YtnklnhnjmikooaaGreat

namespace Go.Proofs.YtnklnhnjmikooaaGreat
open Go.RowKit

/-- The timers whose sessions are there. -/
def keepT (ss : List DSess) (ts : List DTim) : List DTim := ts.filter (fun t => hasI ss t.id)
/-- One timer more for each session that has none, and whether any came. -/
def addS (ttl : Int) (ss : List DSess) (W : DWheel) (b : Bool) : DWheel × Bool := ss.foldl (fun p s => if placeT p.1.tms s.id < 0 then ((setD true p.1 s.id ttl).1, true) else p) (W, b)
def goneT (ss : List DSess) (ts : List DTim) : Bool := ts.any (fun t => !hasI ss t.id)
def syncW (D : DDuty) (ss : List DSess) : DWheel × Bool := addS D.ttl ss ⟨D.wh.now, keepT ss D.wh.tms⟩ (goneT ss D.wh.tms)

theorem wheel_sub {now : Int} {ts ts' : List DTim} (h : WheelP ⟨now, ts⟩) (s : ts'.Sublist ts) : WheelP ⟨now, ts'⟩ := by
  have q := wq_of h
  refine wq_to ⟨q.now, Nat.le_trans s.length_le q.len, fun t ht => q.all t (s.mem ht), q.sort.sublist s, ?_⟩
  exact q.ids.sublist (s.map _)
theorem stop_mid {now : Int} {A B : List DTim} {t : DTim} (h : WheelP ⟨now, A ++ t :: B⟩) : stopD true ⟨now, A ++ t :: B⟩ t.id = (⟨now, A ++ B⟩, true) := by
  have q := (wq_of h).ids
  have hA : ∀ s ∈ A, s.id ≠ t.id := fun s hs e => by
    simp only [List.map_append, List.map_cons] at q
    have := (List.nodup_append.1 q).2.2
    exact this s.id (List.mem_map_of_mem hs) t.id (by simp) e
  have hp : placeT (A ++ t :: B) t.id = (A.length : Int) := placeT_some (t := t) (by simp) rfl (fun j u hj hu => by
    rw [List.getElem?_append_left hj] at hu
    exact hA u (List.mem_of_getElem? hu))
  unfold stopD
  rw [if_pos rfl]
  simp only [hp]
  rw [if_neg (by omega), Int.toNat_natCast, List.eraseIdx_append_of_length_le (Nat.le_refl _), Nat.sub_self]
  rfl
theorem keep_sub (ss : List DSess) (ts : List DTim) (j : Nat) : (keepT ss (ts.take j) ++ ts.drop j).Sublist ts := by
  have h : ts = ts.take j ++ ts.drop j := (List.take_append_drop j ts).symm
  have h2 : (keepT ss (ts.take j) ++ ts.drop j).Sublist (ts.take j ++ ts.drop j) := (List.filter_sublist).append_right _
  rw [← h] at h2
  exact h2
theorem keep_next {ss : List DSess} {ts : List DTim} {j : Nat} {t : DTim} (h : ts[j]? = some t) : keepT ss (ts.take (j + 1)) = keepT ss (ts.take j) ++ (if hasI ss t.id then [t] else []) := by
  have : ts.take (j + 1) = ts.take j ++ [t] := by rw [List.take_add_one, h]; rfl
  rw [this]
  unfold keepT
  rw [List.filter_append]
  congr 1
  cases hq : hasI ss t.id <;> simp [hq]
theorem gone_next {ss : List DSess} {ts : List DTim} {j : Nat} {t : DTim} (h : ts[j]? = some t) : goneT ss (ts.take (j + 1)) = (goneT ss (ts.take j) || !hasI ss t.id) := by
  have : ts.take (j + 1) = ts.take j ++ [t] := by rw [List.take_add_one, h]; rfl
  rw [this]
  unfold goneT
  simp
theorem drop_next {ts : List DTim} {j : Nat} {t : DTim} (h : ts[j]? = some t) : ts.drop j = t :: ts.drop (j + 1) := by
  obtain ⟨hl, rfl⟩ := List.getElem?_eq_some_iff.1 h
  exact List.drop_eq_getElem_cons hl
theorem addS_next {ttl : Int} {ss : List DSess} {W : DWheel} {b : Bool} {j : Nat} {s : DSess} (h : ss[j]? = some s) : addS ttl (ss.take (j + 1)) W b = if placeT (addS ttl (ss.take j) W b).1.tms s.id < 0 then ((setD true (addS ttl (ss.take j) W b).1 s.id ttl).1, true) else addS ttl (ss.take j) W b := by
  have : ss.take (j + 1) = ss.take j ++ [s] := by rw [List.take_add_one, h]; rfl
  rw [this]
  unfold addS
  rw [List.foldl_append]
  rfl
theorem setD_now (W : DWheel) (id after : Int) : (setD true W id after).1.now = W.now := by
  cases hb : badS W id after
  · rw [set_good hb]; rfl
  · rw [set_bad hb]
theorem setD_p {W : DWheel} {id after : Int} (h : WheelP W) : WheelP (setD true W id after).1 := by
  cases hb : badS W id after
  · rw [set_good hb]; exact setW_p h hb
  · rw [set_bad hb]; exact h
theorem addS_p (ttl : Int) (ss : List DSess) : ∀ {W : DWheel} {b : Bool}, WheelP W → WheelP (addS ttl ss W b).1 ∧ (addS ttl ss W b).1.now = W.now := by
  induction ss with
  | nil => exact fun h => ⟨h, rfl⟩
  | cons s ss ih =>
    intro W b h
    have e : addS ttl (s :: ss) W b = if placeT W.tms s.id < 0 then addS ttl ss (setD true W s.id ttl).1 true else addS ttl ss W b := by
      unfold addS
      rw [List.foldl_cons]
      split <;> rfl
    rw [e]
    split
    · have h2 := ih (W := (setD true W s.id ttl).1) (b := true) (setD_p h)
      exact ⟨h2.1, h2.2.trans (setD_now _ _ _)⟩
    · exact ih h
theorem syncW_p {D : DDuty} (ss : List DSess) (h : WheelP D.wh) : WheelP (syncW D ss).1 ∧ (syncW D ss).1.now = D.wh.now :=
  addS_p D.ttl ss (wheel_sub (now := D.wh.now) (ts := D.wh.tms) h List.filter_sublist)

set_option maxRecDepth 20000 in
set_option maxHeartbeats 2000000 in
theorem kStopV (h base cap : Nat) (ttl now : Int) (a : Option Addr) (ts : List DTim) (id : Int) (w : World) (p : KB w base h ttl now a cap ts) (hb : base ≤ w.heap.size) (hl : ts.length ≤ 1048576) :
    Calls Tryz.prog 84 #[.pointer (some ⟨h, 0, none⟩), .int .i64 id] w fun e w' => e = .returned (.tuple #[]) ∧ KSet base h ttl (stopD (tB (WheelP ⟨now, ts⟩)) ⟨now, ts⟩ id).1 w w' := by
  obtain ⟨c0, c1, _, _, _⟩ := p.cells
  have HP : Hid (KB w base h ttl now a cap ts) := p
  have HBB : Hid (base ≤ w.heap.size) := hb
  have HL : Hid (ts.length ≤ 1048576) := hl
  obtain ⟨n, hn⟩ : ∃ n, n = ts.length := ⟨_, rfl⟩
  rw [← hn] at c1
  have HV : Hid (VTims w (.slice a n cap) ts) := by rw [hn]; exact p.row.v
  obtain ⟨⟨R, rb⟩, hR⟩ : ∃ R, R = stopD (tB (WheelP ⟨now, ts⟩)) ⟨now, ts⟩ id := ⟨_, rfl⟩
  rw [← hR]
  have HR : Hid ((R, rb) = stopD (tB (WheelP ⟨now, ts⟩)) ⟨now, ts⟩ id) := hR
  clear hn p hR hb hl
  go_enter Tryz.func84, Tryz.ntmps84
  go_wp2_with fail
  refine (iStopV _ ⟨now, ts⟩ id w ⟨_, rfl, HV.out⟩ HL.out).mono ?_
  rintro e w1 ⟨tv, rfl, o1, b1⟩
  rw [← HR.out] at o1 ⊢
  obtain ⟨m, hm⟩ : ∃ m, m = R.tms.length := ⟨_, rfl⟩
  obtain ⟨a1, c1', rfl⟩ := o1.v.shape
  have HO : Hid (OwT w1 w.heap.size (.slice a1 R.tms.length c1') R.tms) := o1
  have HM : Hid (m = R.tms.length) := hm
  rw [← hm]
  have P1 := below_blk b1 (Array.getElem?_eq_some_iff.1 HP.out.box).1 HP.out.box
  obtain ⟨x0, f0⟩ := at_block P1 0 _ rfl
  obtain ⟨x1, f1⟩ := at_block P1 1 _ rfl
  have HB1 := hideD b1
  clear o1 hm b1 P1 c0 c1
  go_wp2
  go_end0
  refine ⟨rfl, a1, c1', ?_⟩
  rw [HM.out]
  exact HP.out.put HB1.out HBB.out HO.out _ _ rfl rfl

end Go.Proofs.YtnklnhnjmikooaaGreat

namespace Go.Proofs.YtnklnhnjmikooaaGreat
open Go.RowKit

theorem KSet.trans {base h : Nat} {ttl : Int} {R : DWheel} {w w1 w2 : World} (g : w.grownBy w1 (some h)) (k : KSet base h ttl R w1 w2) : KSet base h ttl R w w2 := by
  obtain ⟨a, c, k1, k2⟩ := k
  exact ⟨a, c, k1, g.trans k2⟩

set_option maxRecDepth 20000 in
set_option maxHeartbeats 4000000 in
theorem ksyncV (h base cap : Nat) (ttl now : Int) (a : Option Addr) (ts : List DTim) (sv : Value) (ss : List DSess) (w0 w : World) (p : KB w base h ttl now a cap ts) (hb : base ≤ w.heap.size) (hp : WheelP ⟨now, ts⟩) (hv : VSess w0 sv ss) (hx : Below w0.heap.size w0 w) (hh : w0.heap.size ≤ h) (hl : ss.length ≤ 1000000) :
    Calls Tryz.prog 38 #[.pointer (some ⟨h, 0, none⟩), sv] w fun e w' => e = .returned (.bool (syncW ⟨ttl, ⟨now, ts⟩⟩ ss).2) ∧ KSet base h ttl (syncW ⟨ttl, ⟨now, ts⟩⟩ ss).1 w w' := by
  have hE : ∀ w : World, ∀ o, Ext w (w.alloc o) := fun w o => World.grownBy_alloc _ _ _
  obtain ⟨C, ⟨sa, sc, rfl, h1, h2, h3⟩, hC⟩ := hv
  obtain ⟨m, hm⟩ : ∃ m, m = ss.length := ⟨_, rfl⟩
  have HVS : Hid (VSess w0 (.slice sa m sc) ss) := ⟨C, ⟨sa, sc, by rw [hm], h1, h2, h3⟩, hC⟩
  have HC : Hid (∀ (i : Nat) (r : DSess), ss[i]? = some r → C i 0 = .int .i64 r.id ∧ C i 1 = .bool r.del) := hC
  rw [← hm] at h1 h3 ⊢
  have H3 : Hid (0 < m → ∃ b o, sa = some ⟨b, o, none⟩ ∧ b < w0.heap.size ∧ ∀ i, i < m → ∀ j, j < 2 → w0.cell? ⟨b, o + i * 2 + j, none⟩ = some (C i j)) := h3
  have HMM := hideD hm
  have HX := hideD hx
  have HH := hideD hh
  have HBB := hideD hb
  have HWP := hideD hp
  have hml : (m : Int) ≤ 1000000 := by omega
  obtain ⟨n, hn⟩ : ∃ n, n = ts.length := ⟨_, rfl⟩
  have HN := hideD hn
  have HP : Hid (KB w base h ttl now a cap ts) := p
  obtain ⟨c0, c1, c2, _, _⟩ := p.cells
  have HNR : Hid (some h ≠ (Value.slice a n cap).ownBlock) := by rw [hn]; exact ne_row p.row p.box (by decide)
  rw [← hn] at c1
  have hnl : n ≤ 40 := by rw [hn]; exact hp.2.1
  have HV : Hid (∀ W, w.grownBy W (some h) → VTims W (.slice a n cap) ts) := fun W g => by
    rw [hn]
    exact OwT.v (p.row.kept g (by
      have := HNR.out
      rw [hn] at this
      cases hv : (Value.slice a ts.length cap).ownBlock with
      | none => exact .inl rfl
      | some k => exact .inr (fun e => by rw [hv] at this; exact this e.symm)))
  obtain ⟨R, hR⟩ : ∃ R, R = syncW ⟨ttl, ⟨now, ts⟩⟩ ss := ⟨_, rfl⟩
  rw [← hR]
  have HR : Hid (R = syncW ⟨ttl, ⟨now, ts⟩⟩ ss) := hR
  unfold maxLen at h2
  clear hC hm hx hh hb hp hn p h3 hR
  go_enter Tryz.func38, Tryz.ntmps38
  go_wp2_with fail
  go_loopw [5, 16] (fun b i wr => ∃ j : Nat, j ≤ n ∧ b = .bool (goneT ss (ts.take j)) ∧ i = .int .i64 j ∧ Hid (KSet base h ttl ⟨now, keepT ss (ts.take j) ++ ts.drop j⟩ w wr)) (fun _ i _ => n - (intOf i).toNat)
  case atStart => exact ⟨0, Nat.zero_le _, rfl, rfl, a, cap, HP.out, World.grownBy.refl _ _⟩
  case round =>
    obtain ⟨j, hj, rfl, rfl, HK⟩ := hrel
    clear c0 c1 c2
    obtain ⟨HG, HKB⟩ : Hid (w.grownBy wr (some h)) ∧ Hid (∃ a2 cap2, KB wr base h ttl now a2 cap2 (keepT ss (ts.take j) ++ ts.drop j)) := by
      obtain ⟨a2, cap2, k1, k2⟩ := HK.out
      exact ⟨k2, a2, cap2, k1⟩
    have HB0 : Hid (Below w0.heap.size w0 wr) := HX.out.grown HG.out HX.out.size (fun k hk => by cases hk; exact HH.out)
    have HSZ := hideD HG.out.size
    by_cases hlt : j < n
    · obtain ⟨t, ht⟩ : ∃ t, ts[j]? = some t := ⟨_, List.getElem?_eq_getElem (by have := HN.out; omega)⟩
      obtain ⟨C1, ⟨a1, cap1, e1, q1, q2, q3⟩, hC1⟩ := HV.out wr HG.out
      rw [← HN.out] at e1 q1 q3
      injection e1 with e2 _ e3
      obtain ⟨b, o, ha, hbl, hc⟩ := q3 (by omega)
      rw [← e2] at ha
      subst ha
      obtain ⟨f0, f1⟩ := hC1 j t ht
      have x0 := hc j hlt 0 (by omega)
      have x1 := hc j hlt 1 (by omega)
      rw [f0, Nat.add_zero] at x0
      rw [f1] at x1
      have HT := hideD ht
      have hlt' : (j : Int) < (n : Int) := by omega
      have hcl : cap ≤ 9223372036854775807 := by rw [e3]; unfold maxLen at q2; omega
      have hcn : n ≤ cap := by rw [e3]; exact q1
      clear e2 e3 q1 q2 q3 hC1 f0 f1 hc ht HK hcl hcn
      go_wp2_with fail
      generalize hW : wr.alloc _ = W1
      have XW : Ext wr W1 := by rw [← hW]; exact hE _ _
      have P7 : W1.heap[wr.heap.size]? = some (.cells #[.int .i64 t.id, .int .i64 t.due] 114 (0, 0)) := by rw [← hW]; exact heap_alloc_new _ _
      clear hW
      refine (hasSessV _ ss t.id W1 ((HVS.out.ext (ext_below HB0.out)).ext XW)).mono ?_
      rintro e w2 ⟨rfl, b2⟩
      have X2 : Ext wr w2 := XW.trans (ext_below b2)
      have P72 := below_blk b2 (Array.getElem?_eq_some_iff.1 P7).1 P7
      obtain ⟨z0, _⟩ := at_block P72 0 _ rfl
      have HX2 := hideD X2
      have HP72 := hideD P72
      clear x0 x1 b2 P7 XW X2 P72
      cases hh : hasI ss t.id
      · have HGN : Hid (goneT ss (ts.take (j + 1)) = true) := by show _ = _; rw [gone_next HT.out, hh]; simp
        have HKN : Hid (keepT ss (ts.take (j + 1)) = keepT ss (ts.take j)) := by show _ = _; rw [keep_next HT.out, hh]; simp
        have HST : Hid (∀ q, Calls Tryz.prog 84 #[.pointer (some ⟨h, 0, none⟩), .int .i64 t.id] (w2.drewN q) fun e w' => e = .returned (.tuple #[]) ∧ w'.cell? ⟨wr.heap.size, 0, none⟩ = some (.int .i64 t.id) ∧ Hid (KSet base h ttl ⟨now, keepT ss (ts.take (j + 1)) ++ ts.drop (j + 1)⟩ w w')) := fun q => by
          obtain ⟨a2, cap2, kb⟩ := HKB.out
          have hwp := wheel_sub HWP.out (keep_sub ss ts j)
          have hkb := kb.below (ext_bel (HX2.out.trans (ext_drewN w2 q)))
          refine (kStopV h base cap2 ttl now a2 _ t.id (w2.drewN q) hkb (Nat.le_trans HBB.out (Nat.le_trans HSZ.out (by have := HX2.out.size; exact this))) (Nat.le_trans (show _ ≤ 40 from hwp.2.1) (by omega))).mono ?_
          rintro e w' ⟨rfl, k⟩
          rw [tB_true hwp] at k
          rw [drop_next HT.out] at hwp k
          rw [stop_mid hwp] at k
          obtain ⟨a3, cap3, k1, k2⟩ := k
          refine ⟨rfl, ?_, ?_⟩
          · refine k2.cell (show (w2.drewN q).cell? _ = _ from (at_block HP72.out 0 _ rfl).1) ?_
            have := (Array.getElem?_eq_some_iff.1 kb.box).1
            simp
            omega
          · rw [HKN.out]
            exact ⟨a3, cap3, k1, (HG.out.trans ((grown_below (ext_bel (HX2.out.trans (ext_drewN w2 q))) (some h)))).trans k2⟩
        clear hh
        go_wp2_with fail
        go_region_held3 (fun w' => w'.cell? ⟨wr.heap.size, 0, none⟩ = some (.int .i64 t.id)) (simp [*]) (first | (go_at_call 84; refine (HST.out 1).mono ?_; rintro e w3 ⟨rfl, z3, K3⟩))
        all_goals
          go_wp2
          go_roundw
          case rel => exact ⟨j + 1, by omega, by rw [HGN.out], by go_num, K3⟩
          case measure => simp [intOf]; omega
      · have HGN : Hid (goneT ss (ts.take (j + 1)) = goneT ss (ts.take j)) := by show _ = _; rw [gone_next HT.out, hh]; simp
        have HKS : Hid (KSet base h ttl ⟨now, keepT ss (ts.take (j + 1)) ++ ts.drop (j + 1)⟩ w w2) := by
          obtain ⟨a2, cap2, kb⟩ := HKB.out
          refine ⟨a2, cap2, ?_, HG.out.trans (grown_below (ext_bel HX2.out) _)⟩
          have e : keepT ss (ts.take (j + 1)) ++ ts.drop (j + 1) = keepT ss (ts.take j) ++ ts.drop j := by
            rw [keep_next HT.out, hh, if_pos rfl, drop_next HT.out]
            simp
          have := kb.below (ext_bel HX2.out)
          rw [← e] at this
          exact this
        clear hh
        go_wp2
        go_roundw
        case rel => exact ⟨j + 1, by omega, by rw [HGN.out], by go_num, HKS⟩
        case measure => simp [intOf]; omega
    · have hjn : j = n := by omega
      subst hjn
      obtain ⟨wo, hwo⟩ : ∃ wo, wo = wr := ⟨_, rfl⟩
      subst hwo
      have hE1 : keepT ss (ts.take j) ++ ts.drop j = keepT ss ts := by rw [List.take_of_length_le (by have := HN.out; omega), List.drop_of_length_le (by have := HN.out; omega), List.append_nil]
      have hE2 : goneT ss (ts.take j) = goneT ss ts := by rw [List.take_of_length_le (by have := HN.out; omega)]
      rw [hE1] at HK
      rw [hE2]
      obtain ⟨W0, hW0⟩ : ∃ W0, W0 = (⟨now, keepT ss ts⟩ : DWheel) := ⟨_, rfl⟩
      obtain ⟨b0, hb0⟩ : ∃ b0, b0 = goneT ss ts := ⟨_, rfl⟩
      have HW0 : Hid (WheelP W0) := by rw [hW0]; exact wheel_sub HWP.out List.filter_sublist
      have HRR : Hid (R = addS ttl ss W0 b0) := by show _ = _; rw [HR.out, hW0, hb0]; rfl
      rw [← hW0] at HK
      rw [← hb0]
      clear hE1 hE2 hW0 hb0 HKB HB0 HG hlt hj
      go_wp2
      go_loopw [5, 34] (fun b i wr => ∃ j : Nat, j ≤ m ∧ b = .bool (addS ttl (ss.take j) W0 b0).2 ∧ i = .int .i64 j ∧ Hid (KSet base h ttl (addS ttl (ss.take j) W0 b0).1 w wr)) (fun _ i _ => m - (intOf i).toNat)
      case atStart => exact ⟨0, Nat.zero_le _, rfl, rfl, HK⟩
      case round =>
        clear HK
        obtain ⟨j, hj, rfl, rfl, HK⟩ := hrel
        obtain ⟨⟨W, fl⟩, hWf⟩ : ∃ p, p = addS ttl (ss.take j) W0 b0 := ⟨_, rfl⟩
        have HWF : Hid ((W, fl) = addS ttl (ss.take j) W0 b0) := hWf
        rw [← hWf] at HK ⊢
        have HWP2 : Hid (WheelP W) := by have := (addS_p ttl (ss.take j) (b := b0) HW0.out).1; rw [← hWf] at this; exact this
        clear hWf
        obtain ⟨HG, HKB⟩ : Hid (w.grownBy wr (some h)) ∧ Hid (∃ a2 cap2, KB wr base h ttl W.now a2 cap2 W.tms) := by
          obtain ⟨a2, cap2, k1, k2⟩ := HK.out
          exact ⟨k2, a2, cap2, k1⟩
        have HB0 : Hid (Below w0.heap.size w0 wr) := HX.out.grown HG.out HX.out.size (fun k hk => by cases hk; exact HH.out)
        have HSZ := hideD HG.out.size
        by_cases hlt : j < m
        · obtain ⟨s, hs⟩ : ∃ s, ss[j]? = some s := ⟨_, List.getElem?_eq_getElem (by have := HMM.out; omega)⟩
          obtain ⟨b, o, ha, hbl, hc⟩ := H3.out (by omega)
          subst ha
          obtain ⟨f0, f1⟩ := HC.out j s hs
          have x0 := World.grownBy.cell (ext_below HB0.out) (hc j hlt 0 (by omega)) (by simp)
          have x1 := World.grownBy.cell (ext_below HB0.out) (hc j hlt 1 (by omega)) (by simp)
          rw [f0, Nat.add_zero] at x0
          rw [f1] at x1
          have HS := hideD hs
          have hlt' : (j : Int) < (m : Int) := by omega
          clear hbl f0 f1 hc hs HK
          go_upto_region 12 with fail
          generalize hW : wr.alloc _ = W1
          have XW : Ext wr W1 := by rw [← hW]; exact hE _ _
          have P7 : W1.heap[wr.heap.size]? = some (.cells #[.int .i64 s.id, .bool s.del] 121 (0, 0)) := by rw [← hW]; exact heap_alloc_new _ _
          clear hW x0 x1
          have HXW := hideD XW
          have HP7 := hideD P7
          have HHAS : Hid (∀ q, Calls Tryz.prog 85 #[.pointer (some ⟨h, 0, none⟩), .int .i64 s.id] (W1.drewN q) fun e w' => e = .returned (.bool (!decide (placeT W.tms s.id < 0))) ∧ w'.cell? ⟨wr.heap.size, 0, none⟩ = some (.int .i64 s.id) ∧ Hid (Ext wr w') ∧ Hid (w'.heap[wr.heap.size]? = some (.cells #[.int .i64 s.id, .bool s.del] 121 (0, 0)))) := fun q => by
            obtain ⟨a2, cap2, kb⟩ := HKB.out
            refine (hasV h base cap2 ttl W.now a2 W.tms s.id (W1.drewN q) (kb.below (ext_bel (HXW.out.trans (ext_drewN W1 q)))) HWP2.out).mono ?_
            rintro e w' ⟨rfl, b⟩
            have P9 := below_blk b (show wr.heap.size < (W1.drewN q).heap.size from (Array.getElem?_eq_some_iff.1 HP7.out).1) (show (W1.drewN q).heap[wr.heap.size]? = _ from HP7.out)
            exact ⟨rfl, (at_block P9 0 _ rfl).1, (HXW.out.trans (ext_drewN W1 q)).trans (ext_below b), P9⟩
          obtain ⟨z0, _⟩ := at_block P7 0 _ rfl
          clear XW P7
          obtain ⟨pn, hpn⟩ : ∃ pn, pn = decide (placeT W.tms s.id < 0) := ⟨_, rfl⟩
          have HPN := hideD hpn
          rw [← hpn] at HHAS
          clear hpn
          go_cut [44] from 38 to 44 (fun c wx => ∃ wy, wx = wy ∧ c = .bool pn ∧ Hid (Ext wr wy) ∧ Hid (wy.heap[wr.heap.size]? = some (.cells #[.int .i64 s.id, .bool s.del] 121 (0, 0))))
          case first =>
            go_region_held3 (fun w' => w'.cell? ⟨wr.heap.size, 0, none⟩ = some (.int .i64 s.id)) (simp [*]) (first | (go_at_call 85; refine (HHAS.out 1).mono ?_; rintro e w3 ⟨rfl, z3, X3, P3⟩))
            all_goals
              go_wp2_with fail
              go_meet
              exact ⟨_, rfl, by simp, X3, P3⟩
          obtain ⟨wy, hwy, rfl, HXY, HPY⟩ := hcut
          have hwy' := hwy.symm
          clear hwy
          subst hwy'
          obtain ⟨y0, _⟩ := at_block HPY.out 0 _ rfl
          clear HHAS z0
          have HNX : Hid (addS ttl (ss.take (j + 1)) W0 b0 = if pn = true then ((setD true W s.id ttl).1, true) else (W, fl)) := by
            show _ = _
            rw [addS_next HS.out, ← HWF.out, HPN.out]
            simp
          cases pn
          · have HKN : Hid (KSet base h ttl (addS ttl (ss.take (j + 1)) W0 b0).1 w wy) := by
              obtain ⟨a2, cap2, kb⟩ := HKB.out
              rw [HNX.out, if_neg (by simp)]
              exact ⟨a2, cap2, kb.below (ext_bel HXY.out), HG.out.trans (grown_below (ext_bel HXY.out) _)⟩
            have HFN : Hid ((addS ttl (ss.take (j + 1)) W0 b0).2 = fl) := by show _ = _; rw [HNX.out, if_neg (by simp)]
            go_wp2
            go_roundw
            case rel => exact ⟨j + 1, by omega, by rw [HFN.out], by go_num, HKN⟩
            case measure => simp [intOf]; omega
          · have HFN : Hid ((addS ttl (ss.take (j + 1)) W0 b0).2 = true) := by show _ = _; rw [HNX.out, if_pos rfl]
            have HREN : Hid (Calls Tryz.prog 55 #[.pointer (some ⟨h, 0, none⟩), .int .i64 s.id] wy fun e w' => e = .returned (.tuple #[]) ∧ Hid (KSet base h ttl (addS ttl (ss.take (j + 1)) W0 b0).1 w w')) := by
              obtain ⟨a2, cap2, kb⟩ := HKB.out
              refine (renewV h base cap2 ttl W.now a2 W.tms s.id wy (kb.below (ext_bel HXY.out)) (Nat.le_trans HBB.out (Nat.le_trans HSZ.out HXY.out.size)) (Nat.le_trans HWP2.out.2.1 (by omega))).mono ?_
              rintro e w' ⟨rfl, k⟩
              rw [tB_true (show WheelP ⟨W.now, W.tms⟩ from HWP2.out)] at k
              refine ⟨rfl, ?_⟩
              rw [HNX.out, if_pos rfl]
              exact KSet.trans (HG.out.trans (grown_below (ext_bel HXY.out) _)) k
            go_wp2_with fail
            refine HREN.out.mono ?_
            rintro e w5 ⟨rfl, K5⟩
            go_wp2
            go_roundw
            case rel => exact ⟨j + 1, by omega, by rw [HFN.out], by go_num, K5⟩
            case measure => simp [intOf]; omega
        · have hjm : j = m := by omega
          subst hjm
          have HKN : Hid (R = (W, fl)) := by
            show _ = _
            rw [HRR.out, HWF.out, List.take_of_length_le (by have := HMM.out; omega)]
          clear HKB HB0 HG
          go_wp2
          go_ret
          rw [HKN.out]
          exact ⟨rfl, HK.out⟩

end Go.Proofs.YtnklnhnjmikooaaGreat

namespace Go.Proofs.YtnklnhnjmikooaaGreat
open Go.RowKit

/-- The duty synced with these sessions (c: it may be a duty; d: the state may be one). -/
def syncX (c d : Bool) (D : DDuty) (ss : List DSess) : DDuty × Bool := if c then (if d then (⟨D.ttl, (syncW D ss).1⟩, (syncW D ss).2) else (⟨0, ⟨0, []⟩⟩, false)) else (⟨0, ⟨0, []⟩⟩, false)
theorem al3a (w : World) (a b c : Obj) : (((w.alloc a).alloc b).alloc c).heap[w.heap.size]? = some a := by
  rw [Below.heap_alloc _ _ _ (by simp; omega), Below.heap_alloc _ _ _ (by simp)]
  exact heap_alloc_new w a
theorem al3b (w : World) (a b c : Obj) : (((w.alloc a).alloc b).alloc c).heap[w.heap.size + 1]? = some b := by
  rw [Below.heap_alloc _ _ _ (by simp)]
  simpa using heap_alloc_new (w.alloc a) b
theorem al3c (w : World) (a b c : Obj) : (((w.alloc a).alloc b).alloc c).heap[w.heap.size + 2]? = some c := by simpa using heap_alloc_new ((w.alloc a).alloc b) c

set_option maxRecDepth 20000 in
set_option maxHeartbeats 4000000 in
theorem iDutySyncV (v sv : Value) (D : DDuty) (S : DState) (w : World) (h : VDuty w v D) (hs : VState w sv S) (hl : D.wh.tms.length ≤ 1048576) :
    Calls Tryz.prog 10 #[v, sv] w (ResD (syncX (tB (DutyP D)) (tB (StP S)) D S.sess) w) := by
  have HV0 : Hid (VDuty w v D) := h
  have HS0 : Hid (VState w sv S) := hs
  have HL : Hid (D.wh.tms.length ≤ 1048576) := hl
  obtain ⟨tv, rfl, h⟩ := h
  obtain ⟨ta, tc', rfl⟩ := h.shape
  obtain ⟨n, hn⟩ : ∃ n, n = D.wh.tms.length := ⟨_, rfl⟩
  rw [← hn] at HV0 ⊢
  obtain ⟨rv, uv, sev, lv, rfl, hr, ht, hse, hla⟩ := hs
  have HSE : Hid (VSess w sev S.sess) := hse
  obtain ⟨sea, sec, hsev⟩ : ∃ a c, sev = .slice a S.sess.length c := by
    obtain ⟨C, ⟨a, c, e, _⟩, _⟩ := hse
    exact ⟨a, c, e⟩
  obtain ⟨sm, hsm⟩ : ∃ m, m = S.sess.length := ⟨_, rfl⟩
  rw [← hsm] at hsev
  subst hsev
  clear h hn hl hr ht hse hla hsm
  obtain ⟨c, hc⟩ : ∃ c, c = tB (DutyP D) := ⟨_, rfl⟩
  obtain ⟨d, hd⟩ : ∃ d, d = tB (StP S) := ⟨_, rfl⟩
  have HC : Hid (c = tB (DutyP D)) := hc
  have HD : Hid (d = tB (StP S)) := hd
  rw [← hc, ← hd]
  clear hc hd
  have HSO : Hid (∀ V, Ext w V → Calls Tryz.prog 36 #[.agg #[.int .i64 S.index, rv, uv, .int .i64 S.lost, .slice sea sm sec, lv]] V fun e w' => e = .returned (.bool d) ∧ Below V.heap.size V w') := fun V e => by rw [HD.out]; exact iStateOkV _ S V (HS0.out.ext e)
  have HDO : Hid (∀ V, Ext w V → Calls Tryz.prog 35 #[.agg #[.int .i64 D.ttl, .int .i64 D.wh.now, .slice ta n tc']] V fun e w' => e = .returned (.bool c) ∧ Below V.heap.size V w') := fun V e => by rw [HC.out]; exact iDutyOkV _ D V (HV0.out.ext e)
  obtain ⟨R, hR⟩ : ∃ R, R = syncX c d D S.sess := ⟨_, rfl⟩
  have HR : Hid (R = syncX c d D S.sess) := hR
  rw [← hR]
  clear hR
  go_enter Tryz.func10, Tryz.ntmps10
  go_upto_region 1 with fail
  have PA := al3a w (.cells #[.int .i64 D.ttl, .int .i64 D.wh.now, .slice ta n tc'] 39 (0, 0)) (.cells #[.int .i64 S.index, rv, uv, .int .i64 S.lost, .slice sea sm sec, lv] 48 (0, 0)) (.cells #[.int .i64 0, .int .i64 0, .slice none 0 0] 39 (0, 0))
  have PB := al3b w (.cells #[.int .i64 D.ttl, .int .i64 D.wh.now, .slice ta n tc'] 39 (0, 0)) (.cells #[.int .i64 S.index, rv, uv, .int .i64 S.lost, .slice sea sm sec, lv] 48 (0, 0)) (.cells #[.int .i64 0, .int .i64 0, .slice none 0 0] 39 (0, 0))
  have PR := al3c w (.cells #[.int .i64 D.ttl, .int .i64 D.wh.now, .slice ta n tc'] 39 (0, 0)) (.cells #[.int .i64 S.index, rv, uv, .int .i64 S.lost, .slice sea sm sec, lv] 48 (0, 0)) (.cells #[.int .i64 0, .int .i64 0, .slice none 0 0] 39 (0, 0))
  generalize hW : World.alloc (World.alloc (World.alloc w _) _) _ = W at PA PB PR ⊢
  have BW : Below w.heap.size w W := by rw [← hW]; exact (((Below.refl _ w).alloc (Nat.le_refl _) _).alloc (by simp) _).alloc (by simp; omega) _
  clear hW
  obtain ⟨x0, _⟩ := at_block PA 0 _ rfl
  obtain ⟨x1, _⟩ := at_block PA 1 _ rfl
  obtain ⟨x2, _⟩ := at_block PA 2 _ rfl
  go_wp2_with fail
  refine (HDO.out W (ext_below BW)).mono ?_
  rintro e w1 ⟨rfl, b1⟩
  have PA1 := below_blk b1 (Array.getElem?_eq_some_iff.1 PA).1 PA
  have PB1 := below_blk b1 (Array.getElem?_eq_some_iff.1 PB).1 PB
  have PR1 := below_blk b1 (Array.getElem?_eq_some_iff.1 PR).1 PR
  have HB1 : Hid (Below w.heap.size w w1) := BW.trans (b1.mono BW.size)
  clear b1 PA PB PR BW x0 x1 x2
  cases c
  · have HRZ : Hid (R = (⟨0, ⟨0, []⟩⟩, false)) := HR.out
    obtain ⟨z0, y0⟩ := at_block PR1 0 _ rfl
    obtain ⟨z1, y1⟩ := at_block PR1 1 _ rfl
    obtain ⟨z2, y2⟩ := at_block PR1 2 _ rfl
    clear PA1 PB1 PR1
    go_wp2
    refine bodyPost_ret (v := .tuple #[.agg #[.int .i64 0, .int .i64 0, .slice none 0 0], .bool false]) (by simp [results, Tryz.results10, go_sem, *]) rfl ?_
    rw [HRZ.out]
    refine ⟨_, rfl, World.ownsRow_nil _ _ _ _, ?_⟩
    repeat (first | exact HB1.out | (refine Below.setCell ?_ (by simp <;> omega) _))
  obtain ⟨x0, _⟩ := at_block PB1 0 _ rfl
  obtain ⟨x1, _⟩ := at_block PB1 1 _ rfl
  obtain ⟨x2, _⟩ := at_block PB1 2 _ rfl
  obtain ⟨x3, _⟩ := at_block PB1 3 _ rfl
  obtain ⟨x4, _⟩ := at_block PB1 4 _ rfl
  obtain ⟨x5, _⟩ := at_block PB1 5 _ rfl
  go_wp2_with fail
  refine (HSO.out w1 (ext_below HB1.out)).mono ?_
  rintro e w2 ⟨rfl, b2⟩
  have PA2 := below_blk b2 (Array.getElem?_eq_some_iff.1 PA1).1 PA1
  have PB2 := below_blk b2 (Array.getElem?_eq_some_iff.1 PB1).1 PB1
  have PR2 := below_blk b2 (Array.getElem?_eq_some_iff.1 PR1).1 PR1
  have HB2 : Hid (Below w.heap.size w w2) := HB1.out.trans (b2.mono HB1.out.size)
  clear b2 PA1 PB1 PR1 x0 x1 x2 x3 x4 x5 HB1
  cases d
  · have HRZ : Hid (R = (⟨0, ⟨0, []⟩⟩, false)) := HR.out
    obtain ⟨z0, y0⟩ := at_block PR2 0 _ rfl
    obtain ⟨z1, y1⟩ := at_block PR2 1 _ rfl
    obtain ⟨z2, y2⟩ := at_block PR2 2 _ rfl
    clear PA2 PB2 PR2
    go_wp2
    refine bodyPost_ret (v := .tuple #[.agg #[.int .i64 0, .int .i64 0, .slice none 0 0], .bool false]) (by simp [results, Tryz.results10, go_sem, *]) rfl ?_
    rw [HRZ.out]
    refine ⟨_, rfl, World.ownsRow_nil _ _ _ _, ?_⟩
    repeat (first | exact HB2.out | (refine Below.setCell ?_ (by simp <;> omega) _))
  have HDP : Hid (DutyP D) := tB_iff.1 HC.out.symm
  have HSP : Hid (StP S) := tB_iff.1 HD.out.symm
  have HRZ : Hid (R = (⟨D.ttl, (syncW D S.sess).1⟩, (syncW D S.sess).2)) := HR.out
  obtain ⟨⟨Q, qb⟩, hQ⟩ : ∃ q, q = syncW D S.sess := ⟨_, rfl⟩
  have HQ : Hid ((Q, qb) = syncW D S.sess) := hQ
  rw [← hQ] at HRZ
  clear hQ
  obtain ⟨x0, _⟩ := at_block PA2 0 _ rfl
  obtain ⟨x1, _⟩ := at_block PA2 1 _ rfl
  obtain ⟨x2, _⟩ := at_block PA2 2 _ rfl
  have HPB2 := hideD PB2
  have HPR2 := hideD PR2
  clear PA2 PB2 PR2
  go_wp2_with fail
  refine (keeperV _ D w2 (HV0.out.ext (ext_below HB2.out)) HL.out).mono ?_
  rintro e w3 ⟨k, a3, c3, rfl, K3, b3⟩
  have HK3 := hideD K3
  have HPB3 := hideD (ext_blk (ext_below b3) HPB2.out)
  have HPR3 := hideD (ext_blk (ext_below b3) HPR2.out)
  have HB3 : Hid (Below w.heap.size w w3) := HB2.out.trans (b3.mono HB2.out.size)
  have HLO := hideD (Array.getElem?_eq_some_iff.1 HPR2.out).1
  have HZ3 := hideD b3.size
  obtain ⟨x4, _⟩ := at_block HPB3.out 4 _ rfl
  clear x0 x1 x2 K3 b3 HPB2 HPR2
  go_wp2_with fail
  refine (ksyncV k w2.heap.size c3 D.ttl D.wh.now a3 D.wh.tms _ S.sess w w3 HK3.out HZ3.out HDP.out.2.1 HSE.out HB3.out (by have := HK3.out.low; have := HB2.out.size; omega) (by have := HSP.out.2.2.1.1; omega)).mono ?_
  rintro e w4 ⟨rfl, a4, c4, K4, g4⟩
  rw [show (⟨D.ttl, ⟨D.wh.now, D.wh.tms⟩⟩ : DDuty) = D from rfl, ← HQ.out] at K4 ⊢
  have HK4 : Hid (KB w4 w2.heap.size k D.ttl Q.now a4 c4 Q.tms) := K4
  have HPR4 : Hid (w4.heap[w.heap.size + 2]? = some (.cells #[.int .i64 0, .int .i64 0, .slice none 0 0] 39 (0, 0))) := (g4.block _ (Array.getElem?_eq_some_iff.1 HPR3.out).1 (by have := HK3.out.low; have := HLO.out; simp; omega)).trans HPR3.out
  have HB4 : Hid (Below w.heap.size w w4) := HB3.out.grown g4 HB3.out.size (fun k' hk => by cases hk; exact Nat.le_trans HB2.out.size HK3.out.low)
  clear K4 g4 x4 HK3 HPB3 HPR3 HB3
  go_wp2_with fail
  refine (dutyV k w2.heap.size c4 D.ttl Q.now a4 Q.tms w4 HK4.out).mono ?_
  rintro e w5 ⟨rfl, b5⟩
  obtain ⟨x0, f0⟩ := at_block (ext_blk (ext_below b5) HPR4.out) 0 _ rfl
  obtain ⟨x1, f1⟩ := at_block (ext_blk (ext_below b5) HPR4.out) 1 _ rfl
  obtain ⟨x2, f2⟩ := at_block (ext_blk (ext_below b5) HPR4.out) 2 _ rfl
  have HK5 := hideD (HK4.out.below b5)
  have HB5 : Hid (Below w.heap.size w w5) := HB4.out.trans (b5.mono HB4.out.size)
  have HNV : Hid ((Value.slice a4 Q.tms.length c4).ownBlock = none ∨ (Value.slice a4 Q.tms.length c4).ownBlock ≠ some (w.heap.size + 2)) := by
    right
    intro e
    have h1 := (World.ownsRow.lt HK5.out.row _ e).1
    have h2 := HLO.out
    omega
  clear b5
  go_wp2
  refine bodyPost_ret (v := .tuple #[.agg #[.int .i64 D.ttl, .int .i64 Q.now, .slice a4 Q.tms.length c4], .bool qb]) (by simp [results, Tryz.results10, go_sem, *]) rfl ?_
  rw [HRZ.out]
  refine ⟨_, rfl, baseT ((((HK5.out.row.kept (set_grown _ _ _ _) HNV.out).kept (set_grown _ _ _ _) HNV.out).kept (set_grown _ _ _ _) HNV.out)) HB2.out.size, ?_⟩
  repeat (first | exact HB5.out | (refine Below.setCell ?_ (by simp <;> omega) _))

end Go.Proofs.YtnklnhnjmikooaaGreat

