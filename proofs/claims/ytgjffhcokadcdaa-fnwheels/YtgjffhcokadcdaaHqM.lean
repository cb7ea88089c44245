/- Timers that ring just then: plain mathematics of wheels. -/
import Derived.Test.YtgjffhcokadcdaaHpW
import Derived.Test.YtgjffhcokadcdaaHpZ
namespace Go.Proofs.Ytgjffhcokadcdaa
open Go.RowKit

/-- A wheel that may be, said of all its timers at once. -/
structure WQ (D : DWheel) : Prop where
  now : 0 ≤ D.now ∧ D.now ≤ 1000000
  len : D.tms.length ≤ 40
  all : ∀ t ∈ D.tms, (0 ≤ t.id ∧ t.id ≤ 2147483647) ∧ (D.now + 1 ≤ t.due ∧ t.due ≤ 2000000)
  sort : SortT D.tms
  ids : (D.tms.map fun t => t.id).Nodup
theorem WQ.good {D : DWheel} (h : WQ D) : GoodT D.tms := fun t ht => (h.all t ht).1
theorem wq_of {D : DWheel} (h : WheelP D) : WQ D := by
  refine ⟨h.1, h.2.1, fun t ht => ?_, wheel_sort h, ?_⟩
  · obtain ⟨i, hi⟩ := List.getElem?_of_mem ht
    have := h.2.2 i (List.getElem?_eq_some_iff.1 hi).1 t hi
    exact ⟨this.1, this.2.1⟩
  · unfold List.Nodup
    rw [List.pairwise_map, List.pairwise_iff_getElem]
    intro i j hi hj hij
    exact (h.2.2 j hj _ (List.getElem?_eq_getElem hj)).2.2.2 i _ hij (List.getElem?_eq_getElem hi)
theorem wq_to {D : DWheel} (h : WQ D) : WheelP D := by
  have hp := h.ids
  unfold List.Nodup at hp
  rw [List.pairwise_map, List.pairwise_iff_getElem] at hp
  have hs := h.sort
  unfold SortT at hs
  rw [List.pairwise_iff_getElem] at hs
  refine ⟨h.now, h.len, fun i hi t ht => ?_⟩
  obtain ⟨_, rfl⟩ := List.getElem?_eq_some_iff.1 ht
  have ha := h.all _ (List.getElem_mem hi)
  refine ⟨ha.1, ha.2, fun p hi0 hpp => ?_, fun j p hj hpp => ?_⟩
  · obtain ⟨hl, rfl⟩ := List.getElem?_eq_some_iff.1 hpp
    have hb := h.all _ (List.getElem_mem hl)
    rw [ahead_k hb.1 ha.1]
    have h1 := hs (i - 1) i hl hi (by omega)
    have h2 := hp (i - 1) i hl hi (by omega)
    have h3 : kT D.tms[i - 1] ≠ kT D.tms[i] := fun e => h2 (congrArg DTim.id (kT_inj hb.1 ha.1 e))
    simp only [decide_eq_true_eq]
    omega
  · obtain ⟨hl, rfl⟩ := List.getElem?_eq_some_iff.1 hpp
    exact hp j i hl hi hj
theorem wq_empty : WheelP ⟨0, []⟩ := wq_to ⟨by simp, by simp, fun t ht => by simp at ht, List.Pairwise.nil, by simp⟩

theorem nodup_inj {ts : List DTim} (h : (ts.map fun t => t.id).Nodup) {s t : DTim} (hs : s ∈ ts) (ht : t ∈ ts) (e : s.id = t.id) : s = t := by
  obtain ⟨i, hi⟩ := List.getElem?_of_mem hs
  obtain ⟨j, hj⟩ := List.getElem?_of_mem ht
  obtain ⟨hil, rfl⟩ := List.getElem?_eq_some_iff.1 hi
  obtain ⟨hjl, rfl⟩ := List.getElem?_eq_some_iff.1 hj
  unfold List.Nodup at h
  rw [List.pairwise_map, List.pairwise_iff_getElem] at h
  rcases Nat.lt_trichotomy i j with hij | hij | hij
  · exact absurd e (h i j hil hjl hij)
  · subst hij; rfl
  · exact absurd e.symm (h j i hjl hil hij)
theorem place_mem {ts : List DTim} {id : Int} (h : placeT ts id < 0) : ∀ t ∈ ts, t.id ≠ id := by
  intro t ht
  rcases placeT_cases ts id with ⟨_, h2⟩ | ⟨i, s, _, _, _, h4⟩
  · obtain ⟨i, hi⟩ := List.getElem?_of_mem ht
    exact h2 i t hi
  · omega
theorem place_of {ts : List DTim} {t : DTim} (hn : (ts.map fun t => t.id).Nodup) (ht : t ∈ ts) : ∃ i : Nat, placeT ts t.id = (i : Int) ∧ ts[i]? = some t := by
  rcases placeT_cases ts t.id with ⟨_, h2⟩ | ⟨i, s, h1, h2, _, h4⟩
  · obtain ⟨i, hi⟩ := List.getElem?_of_mem ht
    exact absurd rfl (h2 i t hi)
  · refine ⟨i, h4, ?_⟩
    rw [h1, nodup_inj hn (List.mem_of_getElem? h1) ht h2]
theorem lessT_no {ts : List DTim} (hn : (ts.map fun t => t.id).Nodup) (id : Int) : ∀ t ∈ lessT ts id, t.id ≠ id := by
  intro t ht
  unfold lessT at ht
  split at ht
  · rename_i h
    exact place_mem h t ht
  · rename_i h
    rcases placeT_cases ts id with ⟨h1, _⟩ | ⟨i, s, h1, h2, _, h4⟩
    · omega
    · rw [h4, Int.toNat_natCast] at ht
      intro e
      have hst : t = s := nodup_inj hn (List.mem_of_mem_eraseIdx ht) (List.mem_of_getElem? h1) (e.trans h2.symm)
      subst hst
      obtain ⟨hil, hsi⟩ := List.getElem?_eq_some_iff.1 h1
      rw [List.mem_eraseIdx_iff_getElem] at ht
      obtain ⟨j, hj, hne, hjt⟩ := ht
      unfold List.Nodup at hn
      rw [List.pairwise_map, List.pairwise_iff_getElem] at hn
      rcases Nat.lt_trichotomy i j with hij | hij | hij
      · exact hn i j hil hj hij (by rw [hsi, hjt])
      · omega
      · exact hn j i hj hil hij (by rw [hsi, hjt])
theorem lessT_nodup {ts : List DTim} (hn : (ts.map fun t => t.id).Nodup) (id : Int) : ((lessT ts id).map fun t => t.id).Nodup := by
  unfold lessT
  split
  · exact hn
  · exact List.Nodup.sublist ((List.eraseIdx_sublist ts _).map _) hn
theorem lessT_len {ts : List DTim} {id : Int} (h : ¬ (placeT ts id < 0 ∧ 40 ≤ ts.length)) (hl : ts.length ≤ 40) : (lessT ts id).length ≤ 39 := by
  unfold lessT
  split
  · omega
  · rcases placeT_cases ts id with ⟨h1, _⟩ | ⟨i, s, h1, h2, _, h4⟩
    · omega
    · have := (List.getElem?_eq_some_iff.1 h1).1
      rw [h4, Int.toNat_natCast, List.length_eraseIdx, if_pos this]
      omega
/-- A wheel in which a timer was set. -/
theorem wq_set {D : DWheel} {id after : Int} (h : WQ D) (hb : badS D id after = false) : WQ ⟨D.now, insT (lessT D.tms id) ⟨id, D.now + after⟩⟩ := by
  have hb' : (0 ≤ id ∧ id ≤ 2147483647) ∧ (1 ≤ after ∧ after ≤ 1000000) ∧ ¬ (placeT D.tms id < 0 ∧ 40 ≤ D.tms.length) := by
    simp only [badS, Bool.or_eq_false_iff, Bool.and_eq_false_iff, decide_eq_false_iff_not] at hb
    omega
  obtain ⟨hid, haf, hfull⟩ := hb'
  have hp := insT_perm (lessT D.tms id) ⟨id, D.now + after⟩
  have gl : GoodT (lessT D.tms id) := fun x hx => h.good x (lessT_sub id x hx)
  refine ⟨h.now, ?_, fun t ht => ?_, insT_sort (lessT_sort id h.sort) gl hid, ?_⟩
  · show (insT _ _).length ≤ 40
    rw [hp.length_eq]
    have := lessT_len hfull h.len
    simp
    omega
  · have := hp.mem_iff.1 ht
    rcases List.mem_append.1 this with h1 | h1
    · exact h.all t (lessT_sub id t h1)
    · have e : t = ⟨id, D.now + after⟩ := by simpa using h1
      subst e
      have := h.now
      exact ⟨hid, by simp only; omega⟩
  · have hp2 := hp.map (fun t => t.id)
    rw [hp2.nodup_iff, List.map_append]
    refine List.nodup_append.2 ⟨lessT_nodup h.ids id, by simp, fun a ha b hb => ?_⟩
    obtain ⟨t, ht, rfl⟩ := List.mem_map.1 ha
    have e : b = id := by simpa using hb
    subst e
    exact lessT_no h.ids b t ht
theorem set_mem (D : DWheel) (id after : Int) : DTim.mk id (D.now + after) ∈ insT (lessT D.tms id) ⟨id, D.now + after⟩ := (insT_perm _ _).mem_iff.2 (by simp)
/-- A wheel that went on. -/
theorem wq_tick {D : DWheel} {n : Int} (h : WQ D) (h0 : 0 ≤ n) (h1 : n ≤ 1000000 - D.now) : WQ ⟨D.now + n, D.tms.filter fun t => decide (D.now + n < t.due)⟩ := by
  have hn := h.now
  refine ⟨by simp only; omega, Nat.le_trans (List.length_filter_le _ _) h.len, fun t ht => ?_, h.sort.filter _, List.Nodup.sublist (List.filter_sublist.map _) h.ids⟩
  obtain ⟨h2, h3⟩ := List.mem_filter.1 ht
  have := h.all t h2
  simp only [decide_eq_true_eq] at h3
  refine ⟨this.1, ?_⟩
  simp only
  omega
theorem split_due {ts : List DTim} (hs : SortT ts) (hg : GoodT ts) (x : Int) : ts.filter (fun t => decide (t.due ≤ x)) ++ ts.filter (fun t => decide (x < t.due)) = ts := by
  have hneg : (fun t : DTim => decide (x < t.due)) = fun t => !decide (t.due ≤ x) := by
    funext t
    by_cases h : t.due ≤ x
    · first | (simp [h]; done) | (simp [h]; omega)
    · first | (simp [h]; done) | (simp [h]; omega)
  have hp : (ts.filter (fun t => decide (t.due ≤ x)) ++ ts.filter (fun t => decide (x < t.due))).Perm ts := by
    rw [hneg]
    exact List.filter_append_perm _ _
  refine sort_uniq (List.pairwise_append.2 ⟨hs.filter _, hs.filter _, fun a ha b hb => ?_⟩) hs (hg.perm hp) hp
  obtain ⟨a1, a2⟩ := List.mem_filter.1 ha
  obtain ⟨b1, b2⟩ := List.mem_filter.1 hb
  simp only [decide_eq_true_eq] at a2 b2
  have := hg a a1
  have := hg b b1
  unfold kT
  omega
/-- Moments one by one ring like many at once. -/
theorem tick_two {ts : List DTim} (hs : SortT ts) (hg : GoodT ts) {x y : Int} (hxy : x ≤ y) : (ts.filter (fun t => decide (x < t.due))).filter (fun t => decide (y < t.due)) = ts.filter (fun t => decide (y < t.due)) ∧ ts.filter (fun t => decide (t.due ≤ x)) ++ (ts.filter (fun t => decide (x < t.due))).filter (fun t => decide (t.due ≤ y)) = ts.filter (fun t => decide (t.due ≤ y)) := by
  refine ⟨?_, ?_⟩
  · rw [List.filter_filter]
    refine List.filter_congr fun t _ => ?_
    by_cases h : y < t.due
    · have : x < t.due := by omega
      simp [h, this]
    · simp [h]
  · have h1 := congrArg (List.filter fun t => decide (t.due ≤ y)) (split_due hs hg x)
    rw [List.filter_append] at h1
    rw [← h1]
    congr 1
    rw [List.filter_filter]
    refine List.filter_congr fun t _ => ?_
    by_cases h : t.due ≤ x
    · have : t.due ≤ y := by omega
      simp [h, this]
    · simp [h]

end Go.Proofs.Ytgjffhcokadcdaa
