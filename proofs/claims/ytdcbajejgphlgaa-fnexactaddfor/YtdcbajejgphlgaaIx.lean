/- Marks in lists of items, to the letter: laid, and held. -/
import Derived.Test.YtdcbajejgphlgaaMsA
import Derived.Test.YtdcbajejgphlgaaMark
namespace Go.Proofs.Ytdcbajejgphlgaa
open Go.RowKit

/-- F, but u at (i, j). -/
def updF (F : Nat → Nat → Value) (i j : Nat) (u : Value) : Nat → Nat → Value := fun a b => if a = i ∧ b = j then u else F a b
theorem updF_same (F : Nat → Nat → Value) (i j : Nat) (u : Value) : updF F i j u i j = u := by simp [updF]
theorem updF_ne (F : Nat → Nat → Value) (i j : Nat) (u : Value) (a b : Nat) (h : a ≠ i ∨ b ≠ j) : updF F i j u a b = F a b := by
  unfold updF
  rw [if_neg]
  rintro ⟨rfl, rfl⟩
  rcases h with h | h <;> exact h rfl
theorem blk7_put {w : World} {g : Nat} {t : TypeId} {n m : Nat} {F : Nat → Nat → Value} (h : Blk w g t 7 n m F) (i j : Nat) (hi : i < n) (hj : j < 7) (u : Value) : Blk (w.setCell ⟨g, i * 7 + j, none⟩ u) g t 7 n m (updF F i j u) := by
  obtain ⟨cur, h1, h2, h3⟩ := h
  refine ⟨_, set_block h1 _ u, by simp [h2], fun a ha b hb => ?_⟩
  rw [Array.getElem?_setIfInBounds]
  by_cases e : i * 7 + j = a * 7 + b
  · obtain ⟨rfl, rfl⟩ : a = i ∧ b = j := by omega
    rw [if_pos rfl, updF_same, if_pos (by omega)]
  · rw [if_neg e, updF_ne _ _ _ _ _ _ (by omega)]
    exact h3 a ha b hb

/-- The number that stands ahead of item number i. -/
def kI (k : Int) (ss : List DItem) (i : Nat) : Int := k + ((i * 5 + sI (ss.take i) : Nat) : Int)
theorem kI_next (k : Int) (ss : List DItem) (i : Nat) (s : DItem) (h : ss[i]? = some s) : kI k ss (i + 1) = kI k ss i + 5 + s.cmd.op.key.length + s.cmd.op.val.length := by
  unfold kI
  have : sI (ss.take (i + 1)) = sI (ss.take i) + zI s := sum_next zI ss i s h
  rw [this]
  unfold zI
  omega
theorem kI_le (k : Int) (ss : List DItem) (i : Nat) (h : i ≤ ss.length) : k ≤ kI k ss i ∧ kI k ss i ≤ k + ((ss.length * 5 + sI ss : Nat) : Int) := by
  unfold kI
  have : sI (ss.take i) ≤ sI ss := sum_take zI ss i
  omega

/-- The numbers of the items ahead of j are marks; the texts stand where they stood. -/
def IxM (k : Int) (ss : List DItem) (F F' : Nat → Nat → Value) (j : Nat) : Prop := ∀ (i : Nat) s, ss[i]? = some s →
  (i < j → F' i 0 = .int .i64 (kI k ss i) ∧ F' i 1 = .int .i64 (kI k ss i + 1) ∧ F' i 2 = .int .i64 (kI k ss i + 2) ∧ F' i 3 = .int .i64 (kI k ss i + 3) ∧ F' i 6 = .int .i64 (kI k ss i + 4 + s.cmd.op.key.length + s.cmd.op.val.length)) ∧ F' i 4 = F i 4 ∧ F' i 5 = F i 5
/-- The texts of the items ahead of j are marks, the others are as they were. -/
def IxW (k : Int) (ss : List DItem) (F : Nat → Nat → Value) (lo : Nat) (w : World) (j : Nat) : Prop := ∀ (i : Nat) s, ss[i]? = some s →
  (i < j → Ow w lo (F i 4) (marks (kI k ss i + 4) s.cmd.op.key.length) ∧ Ow w lo (F i 5) (marks (kI k ss i + 4 + s.cmd.op.key.length) s.cmd.op.val.length)) ∧ (j ≤ i → Ow w lo (F i 4) s.cmd.op.key ∧ Ow w lo (F i 5) s.cmd.op.val)
theorem IxW.ext {k : Int} {ss : List DItem} {F : Nat → Nat → Value} {lo j : Nat} {w w' : World} (h : IxW k ss F lo w j) (e : Ext w w') : IxW k ss F lo w' j := fun i s hs => ⟨fun hi => ⟨((h i s hs).1 hi).1.ext e, ((h i s hs).1 hi).2.ext e⟩, fun hi => ⟨((h i s hs).2 hi).1.ext e, ((h i s hs).2 hi).2.ext e⟩⟩
/-- A block turned in which no text lies. -/
theorem IxW.keep {k : Int} {ss : List DItem} {F : Nat → Nat → Value} {lo j g : Nat} {w w' : World} (h : IxW k ss F lo w j) (hg : w.grownBy w' (some g)) (hn : ∀ i, i < ss.length → ∀ c, (c = 4 ∨ c = 5) → (F i c).ownBlock ≠ some g) : IxW k ss F lo w' j := by
  intro i s hs
  have hi : i < ss.length := (List.getElem?_eq_some_iff.1 hs).1
  have n4 := hn i hi 4 (.inl rfl)
  have n5 := hn i hi 5 (.inr rfl)
  exact ⟨fun hj => ⟨((h i s hs).1 hj).1.kept hg (.inr n4), ((h i s hs).1 hj).2.kept hg (.inr n5)⟩, fun hj => ⟨((h i s hs).2 hj).1.kept hg (.inr n4), ((h i s hs).2 hj).2.kept hg (.inr n5)⟩⟩

theorem ixm_next {k : Int} {ss : List DItem} {F F' : Nat → Nat → Value} {j : Nat} {s : DItem} (h : IxM k ss F F' j) (hs : ss[j]? = some s) {V0 V1 V2 V3 V6 : Value} (h0 : V0 = .int .i64 (kI k ss j)) (h1 : V1 = .int .i64 (kI k ss j + 1)) (h2 : V2 = .int .i64 (kI k ss j + 2)) (h3 : V3 = .int .i64 (kI k ss j + 3)) (h6 : V6 = .int .i64 (kI k ss j + 4 + s.cmd.op.key.length + s.cmd.op.val.length)) :
    IxM k ss F (updF (updF (updF (updF (updF F' j 0 V0) j 1 V1) j 2 V2) j 3 V3) j 6 V6) (j + 1) := by
  intro i s' hs'
  obtain ⟨a, b, c⟩ := h i s' hs'
  refine ⟨fun hi => ?_, ?_, ?_⟩
  · by_cases e : i = j
    · subst e
      rw [hs] at hs'
      cases hs'
      subst h0 h1 h2 h3 h6
      simp [updF]
    · obtain ⟨a0, a1, a2, a3, a6⟩ := a (by omega)
      simp [updF, e, a0, a1, a2, a3, a6]
  · rw [← b]; simp [updF]
  · rw [← c]; simp [updF]

/-- Blocks that hold no bytes, but for g, are as they were. -/
def Oth (g : Nat) (w w' : World) : Prop := ∀ (b : Nat) (cur : Array Value) (t : TypeId), t ≠ 5 → b ≠ g → w.heap[b]? = some (.cells cur t (0, 0)) → w'.heap[b]? = some (.cells cur t (0, 0))
theorem ow_ty {w : World} {base : Nat} {v : Value} {xs : List Int} (h : Ow w base v xs) (b : Nat) (hb : v.ownBlock = some b) : ∃ cur, w.heap[b]? = some (.cells cur 5 (0, 0)) := by
  rcases h.2 with ⟨rfl, _⟩ | ⟨g, cap, cur, rfl, _, hg, _⟩
  · simp [Value.ownBlock] at hb
  · have e : g = b := by simpa [Value.ownBlock] using hb
    rw [← e]
    exact ⟨cur, hg⟩
theorem Oth.set {g j : Nat} {w w' : World} (h : Oth g w w') (u : Value) : Oth g w (w'.setCell ⟨g, j, none⟩ u) := fun b cur t ht hb hc => set_other g j u hb (h b cur t ht hb hc)
theorem Oth.byt {g base : Nat} {w w1 w2 : World} {v : Value} {xs : List Int} (h : Oth g w w1) (o : Ow w1 base v xs) (hg : w1.grownBy w2 v.ownBlock) : Oth g w w2 := fun b cur t ht hb hc => by
  have h1 := h b cur t ht hb hc
  refine (hg.block b (Array.getElem?_eq_some_iff.1 h1).1 (fun e => ?_)).trans h1
  obtain ⟨c, hc'⟩ := ow_ty o b e.symm
  rw [h1] at hc'
  cases hc'
  exact ht rfl

set_option maxRecDepth 20000 in
set_option maxHeartbeats 8000000 in
theorem markIX (lo g n cap : Nat) (F : Nat → Nat → Value) (ss : List DItem) (k : Int) (w : World) (hb : Blk w g 74 7 cap n F) (hn : n = ss.length) (hc : n ≤ cap) (hlo : lo ≤ g) (hls : lo ≤ w.heap.size)
    (ht : ∀ (i : Nat) s, ss[i]? = some s → Ow w lo (F i 4) s.cmd.op.key ∧ Ow w lo (F i 5) s.cmd.op.val) (hg : ∀ i, i < n → ∀ c, (c = 4 ∨ c = 5) → (F i c).ownBlock ≠ some g)
    (hd : ∀ i c i' c', i < n → i' < n → (c = 4 ∨ c = 5) → (c' = 4 ∨ c' = 5) → (i ≠ i' ∨ c ≠ c') → (F i c).ownBlock = none ∨ (F i c).ownBlock ≠ (F i' c').ownBlock)
    (hT : ∀ (i : Nat) s, ss[i]? = some s → s.cmd.op.key.length ≤ 2097152 ∧ s.cmd.op.val.length ≤ 2097152)
    (hS : n * 5 + sI ss ≤ 100000000) (hk0 : 0 ≤ k) (hk : k ≤ 100000000) (_hcm : cap ≤ 9223372036854775807) :
    Calls Try.prog 29 #[.slice (some ⟨g, 0, none⟩) n cap, .int .i64 k] w fun e w' => e = .returned (.int .i64 (kI k ss n)) ∧ (∃ F', Blk w' g 74 7 cap n F' ∧ IxM k ss F F' n) ∧ IxW k ss F lo w' n ∧ Below lo w w' ∧ Oth g w w' := by
  have HG : Hid (∀ i, i < n → ∀ c, (c = 4 ∨ c = 5) → (F i c).ownBlock ≠ some g) := hg
  have HD : Hid (∀ i c i' c', i < n → i' < n → (c = 4 ∨ c = 5) → (c' = 4 ∨ c' = 5) → (i ≠ i' ∨ c ≠ c') → (F i c).ownBlock = none ∨ (F i c).ownBlock ≠ (F i' c').ownBlock) := hd
  have HB : Hid (Blk w g 74 7 cap n F) := hb
  have HN : Hid (n = ss.length) := hn
  have HT : Hid (IxW k ss F lo w 0) := fun i s hs => ⟨fun h => absurd h (by omega), fun _ => ht i s hs⟩
  have HM : Hid (IxM k ss F F 0) := fun i s hs => ⟨fun h => absurd h (by omega), rfl, rfl⟩
  have HKL : Hid (∀ i, i ≤ n → k ≤ kI k ss i ∧ kI k ss i ≤ k + ((n * 5 + sI ss : Nat) : Int)) := by intro i hi; rw [hn]; exact kI_le k ss i (by omega)
  have HK0 : Hid (kI k ss 0 = k) := by unfold Hid kI; simp [sI]
  have hn8 : n ≤ 20000000 := by omega
  have HTL : Hid (∀ (i : Nat) s, ss[i]? = some s → s.cmd.op.key.length ≤ 2097152 ∧ s.cmd.op.val.length ≤ 2097152) := hT
  clear hg hd hb hn ht hT
  go_enter Try.func29, Try.ntmps29
  go_wp2
  go_loopw [1, 5] (fun q i wr => ∃ j : Nat, j ≤ n ∧ i = .int .i64 j ∧ ∃ kj : Int, q = .int .i64 kj ∧ Hid (kj = kI k ss j) ∧ ∃ F', Hid (Blk wr g 74 7 cap n F') ∧ Hid (IxM k ss F F' j) ∧ Hid (IxW k ss F lo wr j) ∧ Below lo w wr ∧ Hid (Oth g w wr)) (fun _ i _ => n - (intOf i).toNat)
  case atStart => exact ⟨0, Nat.zero_le _, rfl, k, rfl, HK0.out.symm, F, HB.out, HM.out, HT.out, Below.refl _ _, fun _ _ _ _ _ h => h⟩
  case round =>
    obtain ⟨j, hj, rfl, kj, rfl, hkj, F', hbk, hmk, hwk, hbl, hot⟩ := hrel
    have hkb := HKL.out j hj
    rw [← hkj.out] at hkb
    by_cases hlt : j < n
    · have hlt' : (j : Int) < (n : Int) := by omega
      obtain ⟨s, hs⟩ : ∃ s, ss[j]? = some s := ⟨_, List.getElem?_eq_getElem (by have := HN.out; omega)⟩
      have HS' : Hid (ss[j]? = some s) := hs
      have HKN := kI_next k ss j s hs
      have hkb2 := HKL.out (j + 1) (by omega)
      rw [HKN, ← hkj.out] at hkb2
      obtain ⟨l4, hl4⟩ : ∃ l, l = s.cmd.op.key.length := ⟨_, rfl⟩
      obtain ⟨l5, hl5⟩ : ∃ l, l = s.cmd.op.val.length := ⟨_, rfl⟩
      rw [← hl4, ← hl5] at hkb2
      have H4 : Hid (l4 = s.cmd.op.key.length) := hl4
      have H5 : Hid (l5 = s.cmd.op.val.length) := hl5
      have HKN' : Hid (kI k ss (j + 1) = kj + 5 + l4 + l5) := by unfold Hid; rw [HKN, hkj.out, hl4, hl5]
      have HX4 : Hid ((F' j 4 = F j 4) ∧ F' j 5 = F j 5) := (hmk.out j s hs).2
      have HTX := (hwk.out j s hs).2 (Nat.le_refl _)
      have ll4 : l4 ≤ 2097152 := by rw [hl4]; exact (HTL.out j s hs).1
      have ll5 : l5 ≤ 2097152 := by rw [hl5]; exact (HTL.out j s hs).2
      clear hl4 hl5 HKN hs
      obtain ⟨⟨u0, a0⟩, f0⟩ := blk_cell hbk.out (j * 7 + 0) (by omega)
      rw [Nat.add_zero] at a0 f0
      obtain ⟨⟨u1, a1⟩, f1⟩ := blk_cell hbk.out (j * 7 + 1) (by omega)
      obtain ⟨⟨u2, a2⟩, f2⟩ := blk_cell hbk.out (j * 7 + 2) (by omega)
      obtain ⟨⟨u3, a3⟩, f3⟩ := blk_cell hbk.out (j * 7 + 3) (by omega)
      have cell : ∀ {W : World} {G : Nat → Nat → Value}, Blk W g 74 7 cap n G → ∀ c, c < 7 → W.cell? ⟨g, j * 7 + c, none⟩ = some (G j c) := by
        rintro W G ⟨cur, h1, _, h3⟩ c hc'
        rw [cell_of_row W g _ cur _ (0, 0) h1]
        exact h3 j hlt c hc'
      have HCELL : Hid (∀ {W : World} {G : Nat → Nat → Value}, Blk W g 74 7 cap n G → ∀ c, c < 7 → W.cell? ⟨g, j * 7 + c, none⟩ = some (G j c)) := cell
      have d4 := cell hbk.out 4 (by omega)
      have d5 := cell hbk.out 5 (by omega)
      rw [HX4.out.1] at d4
      rw [HX4.out.2] at d5
      clear cell
      have HZ : Hid (∀ V0 V1 V2 V3 : Value, Blk ((((wr.setCell ⟨g, j * 7, none⟩ V0).setCell ⟨g, j * 7 + 1, none⟩ V1).setCell ⟨g, j * 7 + 2, none⟩ V2).setCell ⟨g, j * 7 + 3, none⟩ V3) g 74 7 cap n (updF (updF (updF (updF F' j 0 V0) j 1 V1) j 2 V2) j 3 V3) ∧ IxW k ss F lo ((((wr.setCell ⟨g, j * 7, none⟩ V0).setCell ⟨g, j * 7 + 1, none⟩ V1).setCell ⟨g, j * 7 + 2, none⟩ V2).setCell ⟨g, j * 7 + 3, none⟩ V3) j ∧ Below lo w ((((wr.setCell ⟨g, j * 7, none⟩ V0).setCell ⟨g, j * 7 + 1, none⟩ V1).setCell ⟨g, j * 7 + 2, none⟩ V2).setCell ⟨g, j * 7 + 3, none⟩ V3) ∧ Oth g w ((((wr.setCell ⟨g, j * 7, none⟩ V0).setCell ⟨g, j * 7 + 1, none⟩ V1).setCell ⟨g, j * 7 + 2, none⟩ V2).setCell ⟨g, j * 7 + 3, none⟩ V3)) := fun V0 V1 V2 V3 => by
        have gn : ∀ i, i < ss.length → ∀ c, (c = 4 ∨ c = 5) → (F i c).ownBlock ≠ some g := fun i hi => HG.out i (by have := HN.out; omega)
        refine ⟨blk7_put (blk7_put (blk7_put (blk7_put hbk.out j 0 (by omega) (by omega) V0) j 1 (by omega) (by omega) V1) j 2 (by omega) (by omega) V2) j 3 (by omega) (by omega) V3, ?_, ?_, (((hot.out.set _).set _).set _).set _⟩
        · exact (((hwk.out.keep (set_grown _ _ _ _) gn).keep (set_grown _ _ _ _) gn).keep (set_grown _ _ _ _) gn).keep (set_grown _ _ _ _) gn
        · exact below_set (below_set (below_set (below_set hbl hlo) hlo) hlo) hlo
      have HZ0 := HZ.out (.int .i64 kj) (.int .i64 (kj + 1)) (.int .i64 (kj + 1 + 1)) (.int .i64 (kj + 1 + 1 + 1))
      clear hbk hwk hbl HTX HZ hot
      have HZ : Hid _ := HZ0
      clear HZ0
      go_wp2_with fail
      refine (markV lo _ s.cmd.op.key _ _ ((HZ.out.2.1 j s HS'.out).2 (Nat.le_refl _)).1 (by have := H4.out; omega) (by omega) (by omega)).mono ?_
      rw [← H4.out]
      rintro e w1 ⟨rfl, M1, G1⟩
      have K1 : ∀ i c xs, i < n → (c = 4 ∨ c = 5) → (i ≠ j ∨ c ≠ 4) → Ow _ lo (F i c) xs → Ow w1 lo (F i c) xs := fun i c xs hi hc' hne o => o.kept G1 (HD.out i c j 4 hi hlt hc' (.inl rfl) hne)
      have HB1 : Hid (Blk w1 g 74 7 cap n _) := blk_kept HZ.out.1 (G1.block g (blk_lt HZ.out.1) (fun e => HG.out j hlt 4 (.inl rfl) e.symm))
      have HOT1 : Hid (Oth g w w1) := HZ.out.2.2.2.byt ((HZ.out.2.1 j s HS'.out).2 (Nat.le_refl _)).1 G1
      have HBL1 : Hid (Below lo w w1) := HZ.out.2.2.1.grown G1 (Nat.le_trans hls HZ.out.2.2.1.size) (fun b hb => (((HZ.out.2.1 j s HS'.out).2 (Nat.le_refl _)).1.lt b hb).1)
      have HW1 : Hid (∀ (i : Nat) s', ss[i]? = some s' → (i < j → Ow w1 lo (F i 4) (marks (kI k ss i + 4) s'.cmd.op.key.length) ∧ Ow w1 lo (F i 5) (marks (kI k ss i + 4 + s'.cmd.op.key.length) s'.cmd.op.val.length)) ∧ (j < i → Ow w1 lo (F i 4) s'.cmd.op.key ∧ Ow w1 lo (F i 5) s'.cmd.op.val) ∧ (i = j → Ow w1 lo (F i 5) s'.cmd.op.val)) := by
        intro i s' hs'
        have hi : i < n := by have := (List.getElem?_eq_some_iff.1 hs').1; have := HN.out; omega
        obtain ⟨p1, p2⟩ := HZ.out.2.1 i s' hs'
        exact ⟨fun h => ⟨K1 i 4 _ hi (.inl rfl) (.inl (by omega)) (p1 h).1, K1 i 5 _ hi (.inr rfl) (.inl (by omega)) (p1 h).2⟩, fun h => ⟨K1 i 4 _ hi (.inl rfl) (.inl (by omega)) (p2 (by omega)).1, K1 i 5 _ hi (.inr rfl) (.inl (by omega)) (p2 (by omega)).2⟩, fun h => K1 i 5 _ hi (.inr rfl) (.inr (by omega)) (p2 (by omega)).2⟩
      have HM1 : Hid (Ow w1 lo (F j 4) (marks (kj + 1 + 1 + 1 + 1) l4)) := M1
      have hls1 : lo ≤ w1.heap.size := Nat.le_trans hls HBL1.out.size
      clear K1 G1 M1 HZ a0 a1 a2 a3 f0 f1 f2 f3 d4 d5
      have d5 := HCELL.out HB1.out 5 (by omega)
      have e5 : (updF (updF (updF (updF F' j 0 (.int .i64 kj)) j 1 (.int .i64 (kj + 1))) j 2 (.int .i64 (kj + 1 + 1))) j 3 (.int .i64 (kj + 1 + 1 + 1))) j 5 = F j 5 := by rw [← HX4.out.2]; simp [updF]
      rw [e5] at d5
      clear e5
      go_wp2_with fail
      refine (markV lo _ s.cmd.op.val _ _ ((HW1.out j s HS'.out).2.2 rfl) (by have := H5.out; omega) (by omega) (by omega)).mono ?_
      rw [← H5.out]
      rintro e w2 ⟨rfl, M2, G2⟩
      have K2 : ∀ i c xs, i < n → (c = 4 ∨ c = 5) → (i ≠ j ∨ c ≠ 5) → Ow w1 lo (F i c) xs → Ow w2 lo (F i c) xs := fun i c xs hi hc' hne o => o.kept G2 (HD.out i c j 5 hi hlt hc' (.inr rfl) hne)
      have HB2 : Hid (Blk w2 g 74 7 cap n _) := blk_kept HB1.out (G2.block g (blk_lt HB1.out) (fun e => HG.out j hlt 5 (.inr rfl) e.symm))
      have HOT2 : Hid (∀ V : Value, Oth g w (w2.setCell ⟨g, j * 7 + 6, none⟩ V)) := fun V => (HOT1.out.byt ((HW1.out j s HS'.out).2.2 rfl) G2).set V
      have HBL2 : Hid (Below lo w w2) := HBL1.out.grown G2 hls1 (fun b hb => (((HW1.out j s HS'.out).2.2 rfl).lt b hb).1)
      have HW2 : Hid (∀ V : Value, IxW k ss F lo (w2.setCell ⟨g, j * 7 + 6, none⟩ V) (j + 1)) := by
        intro V i s' hs'
        have hi : i < n := by have := (List.getElem?_eq_some_iff.1 hs').1; have := HN.out; omega
        obtain ⟨p1, p2, p3⟩ := HW1.out i s' hs'
        have K3 : ∀ c xs, (c = 4 ∨ c = 5) → Ow w2 lo (F i c) xs → Ow (w2.setCell ⟨g, j * 7 + 6, none⟩ V) lo (F i c) xs := fun c xs hc' o => o.kept (set_grown _ _ _ _) (.inr (HG.out i hi c hc'))
        refine ⟨fun h => ?_, fun h => ?_⟩
        · by_cases e : i = j
          · subst e
            have : s' = s := by have := HS'.out; rw [hs'] at this; exact Option.some.inj this
            subst this
            have ek : kj + 1 + 1 + 1 + 1 = kI k ss i + 4 := by rw [← hkj.out]; omega
            rw [← H4.out, ← H5.out, ← ek]
            exact ⟨K3 4 _ (.inl rfl) (K2 i 4 _ hi (.inl rfl) (.inr (by omega)) HM1.out), K3 5 _ (.inr rfl) M2⟩
          · have := p1 (by omega)
            exact ⟨K3 4 _ (.inl rfl) (K2 i 4 _ hi (.inl rfl) (.inl e) this.1), K3 5 _ (.inr rfl) (K2 i 5 _ hi (.inr rfl) (.inl e) this.2)⟩
        · have := p2 (by omega)
          exact ⟨K3 4 _ (.inl rfl) (K2 i 4 _ hi (.inl rfl) (.inl (by omega)) this.1), K3 5 _ (.inr rfl) (K2 i 5 _ hi (.inr rfl) (.inl (by omega)) this.2)⟩
      clear K2 G2 M2 HW1 HM1 HB1 HBL1 HOT1 d5
      obtain ⟨⟨u6, a6⟩, f6⟩ := blk_cell HB2.out (j * 7 + 6) (by omega)
      have HB3 : Hid (∀ V : Value, Blk (w2.setCell ⟨g, j * 7 + 6, none⟩ V) g 74 7 cap n (updF _ j 6 V)) := fun V => blk7_put HB2.out j 6 (by omega) (by omega) V
      have HBL3 : Hid (∀ V : Value, Below lo w (w2.setCell ⟨g, j * 7 + 6, none⟩ V)) := fun V => below_set HBL2.out hlo
      clear HB2 HBL2
      have hkj0 : Hid (kI k ss j = kj) := hkj.out.symm
      go_wp2
      go_roundw
      case rel =>
        refine ⟨j + 1, by omega, by go_num, _, rfl, ?_, _, HB3.out _, ixm_next hmk.out HS'.out ?_ ?_ ?_ ?_ ?_, HW2.out _, HBL3.out _, HOT2.out _⟩
        · show _ = _; rw [HKN'.out]; omega
        · rw [hkj0.out]
        · rw [hkj0.out]
        · rw [hkj0.out]; congr 1; omega
        · rw [hkj0.out]; congr 1; omega
        · rw [hkj0.out, ← H4.out, ← H5.out]; congr 1; omega
      case measure => simp [intOf]; omega
    · have hjn : j = n := by omega
      subst hjn
      go_wp2
      go_ret
      exact ⟨by rw [← hkj.out]; rfl, ⟨F', hbk.out, hmk.out⟩, hwk.out, hbl, hot.out⟩

set_option maxRecDepth 20000 in
set_option maxHeartbeats 8000000 in
theorem heldIX (lo g n cap : Nat) (F F' : Nat → Nat → Value) (ss : List DItem) (k : Int) (w : World) (hb : Blk w g 74 7 cap n F') (hn : n = ss.length) (hc : n ≤ cap) (hm : IxM k ss F F' n) (ht : IxW k ss F lo w n)
    (hT : ∀ (i : Nat) s, ss[i]? = some s → s.cmd.op.key.length ≤ 2097152 ∧ s.cmd.op.val.length ≤ 2097152)
    (hS : n * 5 + sI ss ≤ 100000000) (hk0 : 0 ≤ k) (hk : k ≤ 100000000) :
    Calls Try.prog 32 #[.slice (some ⟨g, 0, none⟩) n cap, .int .i64 k] w fun e w' => e = .returned (.int .i64 (kI k ss n)) ∧ ∃ q, w' = w.drewN q := by
  have HB : Hid (Blk w g 74 7 cap n F') := hb
  have HN : Hid (n = ss.length) := hn
  have HT : Hid (IxW k ss F lo w n) := ht
  have HM : Hid (IxM k ss F F' n) := hm
  have HKL : Hid (∀ i, i ≤ n → k ≤ kI k ss i ∧ kI k ss i ≤ k + ((n * 5 + sI ss : Nat) : Int)) := by intro i hi; rw [hn]; exact kI_le k ss i (by omega)
  have HK0 : Hid (kI k ss 0 = k) := by unfold Hid kI; simp [sI]
  have HTL : Hid (∀ (i : Nat) s, ss[i]? = some s → s.cmd.op.key.length ≤ 2097152 ∧ s.cmd.op.val.length ≤ 2097152) := hT
  have hn8 : n ≤ 20000000 := by omega
  clear hb hn ht hT hm
  go_enter Try.func32, Try.ntmps32
  go_wp2
  go_loopw [1, 5] (fun q i wr => ∃ j x : Nat, j ≤ n ∧ i = .int .i64 j ∧ ∃ kj : Int, q = .int .i64 kj ∧ Hid (kj = kI k ss j) ∧ wr = w.drewN x) (fun _ i _ => n - (intOf i).toNat)
  case atStart => exact ⟨0, 0, Nat.zero_le _, rfl, k, rfl, HK0.out.symm, rfl⟩
  case round =>
    obtain ⟨j, x, hj, rfl, kj, rfl, hkj, rfl⟩ := hrel
    have hkb := HKL.out j hj
    rw [← hkj.out] at hkb
    by_cases hlt : j < n
    · have hlt' : (j : Int) < (n : Int) := by omega
      obtain ⟨s, hs⟩ : ∃ s, ss[j]? = some s := ⟨_, List.getElem?_eq_getElem (by have := HN.out; omega)⟩
      have HKN := kI_next k ss j s hs
      have hkb2 := HKL.out (j + 1) (by omega)
      rw [HKN, ← hkj.out] at hkb2
      obtain ⟨⟨m0, m1, m2, m3, m6⟩, m4, m5⟩ : (F' j 0 = .int .i64 kj ∧ F' j 1 = .int .i64 (kj + 1) ∧ F' j 2 = .int .i64 (kj + 2) ∧ F' j 3 = .int .i64 (kj + 3) ∧ F' j 6 = .int .i64 (kj + 4 + s.cmd.op.key.length + s.cmd.op.val.length)) ∧ F' j 4 = F j 4 ∧ F' j 5 = F j 5 := by
        have := HM.out j s hs
        rw [← hkj.out] at this
        exact ⟨this.1 hlt, this.2⟩
      have T45 := (HT.out j s hs).1 hlt
      rw [← hkj.out] at T45
      obtain ⟨l4, hl4⟩ : ∃ l, l = s.cmd.op.key.length := ⟨_, rfl⟩
      obtain ⟨l5, hl5⟩ : ∃ l, l = s.cmd.op.val.length := ⟨_, rfl⟩
      have ll4 : l4 ≤ 2097152 := by rw [hl4]; exact (HTL.out j s hs).1
      have ll5 : l5 ≤ 2097152 := by rw [hl5]; exact (HTL.out j s hs).2
      rw [← hl4, ← hl5] at hkb2 m6 T45
      have HKN' : Hid (kI k ss (j + 1) = kj + 5 + l4 + l5) := by unfold Hid; rw [HKN, hkj.out, hl4, hl5]
      have R4 : Hid (∀ q, RV (w.drewN q) (F j 4) (marks (kj + 1 + 1 + 1 + 1) l4)) := fun q => by
        have e : kj + 1 + 1 + 1 + 1 = kj + 4 := by omega
        rw [e]
        exact (T45.1.rv (marks_rng _ _)).ext (ext_drewN _ _)
      have R5 : Hid (∀ q, RV (w.drewN q) (F j 5) (marks (kj + 1 + 1 + 1 + 1 + l4) l5)) := fun q => by
        have e : kj + 1 + 1 + 1 + 1 + (l4 : Int) = kj + 4 + l4 := by omega
        rw [e]
        exact (T45.2.rv (marks_rng _ _)).ext (ext_drewN _ _)
      clear hl4 hl5 HKN hs T45
      have cell : ∀ c, c < 7 → w.cell? ⟨g, j * 7 + c, none⟩ = some (F' j c) := by
        obtain ⟨cur, h1, _, h3⟩ := HB.out
        intro c hc'
        rw [cell_of_row w g _ cur _ (0, 0) h1]
        exact h3 j hlt c hc'
      have e2 : kj + 2 = kj + 1 + 1 := by omega
      have e3 : kj + 3 = kj + 1 + 1 + 1 := by omega
      have e6 : kj + 4 + (l4 : Int) + l5 = kj + 1 + 1 + 1 + 1 + l4 + l5 := by omega
      rw [e2] at m2
      rw [e3] at m3
      rw [e6] at m6
      clear e2 e3 e6
      have c0 := cell 0 (by omega)
      rw [Nat.add_zero, m0] at c0
      have c1 := cell 1 (by omega)
      rw [m1] at c1
      have c2 := cell 2 (by omega)
      rw [m2] at c2
      have c3 := cell 3 (by omega)
      rw [m3] at c3
      have c4 := cell 4 (by omega)
      rw [m4] at c4
      have c5 := cell 5 (by omega)
      rw [m5] at c5
      have c6 := cell 6 (by omega)
      rw [m6] at c6
      clear cell m0 m1 m2 m3 m4 m5 m6
      go_wp2_with fail
      refine (heldV _ l4 _ _ (R4.out x) ll4 (by omega) (by omega)).mono ?_
      rintro e w1 ⟨rfl, rfl⟩
      have p4 : ¬ (kj + 1 + 1 + 1 + 1 + (l4 : Int) < 0) := by omega
      go_wp2_with fail
      refine (heldV _ l5 _ _ (R5.out x) ll5 (by omega) (by omega)).mono ?_
      rintro e w2 ⟨rfl, rfl⟩
      have p5 : ¬ (kj + 1 + 1 + 1 + 1 + (l4 : Int) + l5 < 0) := by omega
      go_wp2
      go_roundw
      case rel => exact ⟨j + 1, x, by omega, by go_num, _, rfl, by show _ = _; rw [HKN'.out]; omega, rfl⟩
      case measure => simp [intOf]; omega
    · have hjn : j = n := by omega
      subst hjn
      go_wp2
      go_ret
      exact ⟨by rw [← hkj.out]; rfl, _, rfl⟩

set_option maxHeartbeats 1000000 in
theorem markIN (k : Int) (w : World) : Calls Try.prog 29 #[.slice none 0 0, .int .i64 k] w fun e w' => e = .returned (.int .i64 k) ∧ w' = w := by
  go_enter Try.func29, Try.ntmps29
  go_wp2
  go_loopw [1, 5] (fun kv i wr => i = .int .i64 0 ∧ kv = .int .i64 k ∧ wr = w) (fun _ _ _ => 0)
  case atStart => exact ⟨rfl, rfl, rfl⟩
  case round =>
    obtain ⟨rfl, rfl, rfl⟩ := hrel
    go_wp2
    go_ret
    exact ⟨rfl, rfl⟩
set_option maxHeartbeats 1000000 in
theorem heldIN (k : Int) (w : World) : Calls Try.prog 32 #[.slice none 0 0, .int .i64 k] w fun e w' => e = .returned (.int .i64 k) ∧ w' = w := by
  go_enter Try.func32, Try.ntmps32
  go_wp2
  go_loopw [1, 5] (fun kv i wr => i = .int .i64 0 ∧ kv = .int .i64 k ∧ wr = w) (fun _ _ _ => 0)
  case atStart => exact ⟨rfl, rfl, rfl⟩
  case round =>
    obtain ⟨rfl, rfl, rfl⟩ := hrel
    go_wp2
    go_ret
    exact ⟨rfl, rfl⟩

end Go.Proofs.Ytdcbajejgphlgaa
