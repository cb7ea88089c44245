/- The contract of the program's tombsOk. -/
import Derived.Test.YtknemgmfbmmngaaISess
import Derived.Test.YtknemgmfbmmngaaCmp4
import Derived.Deep.LoopGhost
import Derived.WalkMore
import Derived.Maps.Own
import Derived.Maps.OwnOps
import Derived.Maps.OwnSet
namespace Go.Proofs.Ytknemgmfbmmngaa
open Go.RowKit Go.Maps Go.WideMaps

/-- The tomb at i may be there. -/
def TombAt (idx lost : Int) (rs : List DRow) (ts : List DTomb) (i : Nat) : Prop := ∀ t, ts[i]? = some t → keyB t.key = true ∧ (∀ (j : Nat) (r : DRow), rs[j]? = some r → r.key ≠ t.key) ∧ (∀ (j : Nat) (p : DTomb), j < i → ts[j]? = some p → p.key ≠ t.key) ∧ 1 ≤ t.index ∧ t.index ≤ idx ∧ lost ≤ t.index ∧ ∀ p, 0 < i → ts[i - 1]? = some p → p.index ≤ t.index
def TombsP (idx lost : Int) (rs : List DRow) (ts : List DTomb) : Prop := ts.length ≤ 10 ∧ ∀ i, i < ts.length → TombAt idx lost rs ts i

theorem law9 : Keyed Try.prog 9 := string_keyed Try.underlying9
theorem zero3 (w : World) : (zeroValue 3).run Try.prog w = .ok (.int .i64 0) w := by kernel_rfl

/-- A text as a map's key. -/
def kl (xs : List Int) : Lit := .string (strOfNums xs).data.toList
theorem kl_inj {xs ys : List Int} (hx : ∀ x ∈ xs, 0 ≤ x ∧ x ≤ 255) (hy : ∀ x ∈ ys, 0 ≤ x ∧ x ≤ 255) (h : kl xs = kl ys) : xs = ys := by
  unfold kl at h
  simp only [Lit.string.injEq, strOfNums_data] at h
  exact nums_inj xs ys hx hy h
theorem kl_of {xs : List Int} (h : xs.length ≤ maxLen) : keyOf Try.prog 9 (.string (strOfNums xs)) = some (kl xs) := keyOf_string_mk Try.underlying9 (by rw [strOfNums_size]; exact h)
theorem kl_isKey {xs : List Int} (h : xs.length ≤ maxLen) : WideAt.IsKeyLit (kl xs) := by
  have := law9.key (kl_of h)
  exact this

/-- The map counts the texts that were seen. -/
def Cnt (D : DataW Unit) (seen : List (List Int)) : Prop := ∀ ys : List Int, (∀ x ∈ ys, 0 ≤ x ∧ x ≤ 255) → ∃ c : Int, D.atKey (kl ys) (.lit (.int .i64 0)) = .lit (.int .i64 c) ∧ 0 ≤ c ∧ c ≤ seen.length ∧ (0 < c ↔ ys ∈ seen)
theorem cnt_nil : Cnt (.map []) [] := fun ys _ => ⟨0, rfl, by omega, by simp, by simp⟩
theorem Cnt.put {D : DataW Unit} {seen : List (List Int)} {xs : List Int} {c : Int} (h : Cnt D seen) (hm : IsMap D) (hx : ∀ x ∈ xs, 0 ≤ x ∧ x ≤ 255) (hl : xs.length ≤ maxLen) (hc : D.atKey (kl xs) (.lit (.int .i64 0)) = .lit (.int .i64 c)) :
    Cnt (D.put (kl xs) (.lit (.int .i64 (c + 1)))) (seen ++ [xs]) := by
  intro ys hy
  by_cases e : ys = xs
  · subst e
    obtain ⟨c', h1, h2, h3, h4⟩ := h ys hy
    rw [hc] at h1
    simp only [DataW.lit.injEq, Lit.int.injEq, true_and] at h1
    subst h1
    refine ⟨c + 1, atKey_put_same hm (kl_isKey hl) _ _, by omega, by simp; omega, by simp; omega⟩
  · obtain ⟨c', h1, h2, h3, h4⟩ := h ys hy
    refine ⟨c', ?_, h2, by simp; omega, by rw [h4]; simp [e]⟩
    rw [atKey_put_other (fun hk => e (kl_inj hy hx hk))]
    exact h1

theorem run_max2 (x y : Int) (W : World) : (Builtin.max_ #[3, 3] 3 #[.int .i64 x, .int .i64 y]).run Try.prog W = .ok (.int .i64 (max x y)) W := by
  simp [Builtin.max_, Builtin.max2, go_sem]
  rw [Int.max_def]
  split <;> split <;> omega

/-- The least Index that comes next. -/
def leastT (lost : Int) (ts : List DTomb) (k : Nat) : Int := match ts[k - 1]? with | some p => if k = 0 then max lost 1 else p.index | none => max lost 1

theorem tombAt_iff {idx lost : Int} {rs : List DRow} {ts : List DTomb} {k : Nat} {t : DTomb} {c : Int} (hs : ts[k]? = some t) (hall : ∀ j, j < k → TombAt idx lost rs ts j) (hc : 0 < c ↔ t.key ∈ rs.map (·.key) ++ (ts.take k).map (·.key)) :
    TombAt idx lost rs ts k ↔ (keyB t.key = true ∧ ¬ 0 < c ∧ inB t.index (leastT lost ts k) idx = true) := by
  unfold inB
  simp only [Bool.and_eq_true, decide_eq_true_eq, hc, List.mem_append, List.mem_map, not_or, not_exists, not_and]
  constructor
  · intro h
    obtain ⟨a1, a2, a3, a4, a5, a6, a7⟩ := h t hs
    refine ⟨a1, ⟨fun r hr => ?_, fun p hp => ?_⟩, ?_, a5⟩
    · obtain ⟨j, hj, e⟩ := List.getElem_of_mem hr
      exact a2 j r (by rw [List.getElem?_eq_getElem hj, e])
    · obtain ⟨j, hj, e⟩ := List.getElem_of_mem hp
      have hj' : j < k ∧ j < ts.length := by simp at hj; omega
      refine a3 j p hj'.1 ?_
      rw [List.getElem?_eq_getElem hj'.2, ← e, List.getElem_take]
    · unfold leastT
      split
      · rename_i p hp
        by_cases j0 : k = 0
        · rw [if_pos j0]; omega
        · rw [if_neg j0]; exact a7 p (by omega) hp
      · omega
  · rintro ⟨b1, ⟨b2, b3⟩, b4, b5⟩ t' ht'
    rw [hs] at ht'
    cases ht'
    have hl : max lost 1 ≤ t.index ∧ ∀ p, 0 < k → ts[k - 1]? = some p → p.index ≤ t.index := by
      unfold leastT at b4
      split at b4
      · rename_i p hp
        by_cases j0 : k = 0
        · rw [if_pos j0] at b4; exact ⟨b4, fun _ h => absurd h (by omega)⟩
        · rw [if_neg j0] at b4
          obtain ⟨_, _, _, q1, _, q2, _⟩ := hall (k - 1) (by omega) p hp
          exact ⟨by omega, fun p' _ hp' => by rw [hp] at hp'; cases hp'; exact b4⟩
      · rename_i hp
        exact ⟨b4, fun p' _ hp' => by rw [hp] at hp'; cases hp'⟩
    refine ⟨b1, fun j r hr => b2 r (List.mem_of_getElem? hr), fun j p hj hp => b3 p ?_, by omega, b5, by omega, hl.2⟩
    exact List.mem_of_getElem? (by rw [List.getElem?_take_of_lt hj]; exact hp)

set_option maxHeartbeats 2000000 in
theorem tombsOkV (rv tv sv lv : Value) (idx lost : Int) (rs : List DRow) (ts : List DTomb) (w : World) (h : VRows w rv rs) (hS : VTombs w tv ts) (hrl : rs.length ≤ 20) :
    Calls Try.prog 59 #[.agg #[.int .i64 idx, rv, tv, .int .i64 lost, sv, lv]] w fun e w' => e = .returned (.bool (tB (TombsP idx lost rs ts))) ∧ Below w.heap.size w w' := by
  have hE : ∀ w : World, ∀ o, Ext w (w.alloc o) := fun w o => World.grownBy_alloc _ _ _
  have hB : ∀ w : World, ∀ o, Below w.heap.size w (w.alloc o) := fun w o => (Below.refl _ w).alloc (Nat.le_refl _) _
  obtain ⟨C, ⟨a, cap, rfl, h1, h2, h3⟩, hC⟩ := h
  obtain ⟨D, ⟨a', cap', rfl, h1', h2', h3'⟩, hD⟩ := hS
  have HC : Hid (∀ i r, rs[i]? = some r → RV w (C i 0) r.key ∧ RV w (C i 1) r.val ∧ C i 2 = .int .i64 r.turned ∧ C i 3 = .int .i64 r.holder) := hC
  have HD : Hid (∀ i r, ts[i]? = some r → RV w (D i 0) r.key ∧ D i 1 = .int .i64 r.index) := hD
  clear hC hD
  obtain ⟨n, hn⟩ : ∃ n, n = rs.length := ⟨_, rfl⟩
  obtain ⟨m, hm⟩ : ∃ m, m = ts.length := ⟨_, rfl⟩
  rw [← hn] at h1 h3 hrl ⊢
  rw [← hm] at h1' h3' ⊢
  have HN : Hid (n = rs.length) := hn
  have HM : Hid (m = ts.length) := hm
  clear hn hm
  unfold maxLen at h2 h2'
  have hmm := @run_makeMap Try.prog
  by_cases h8 : (10 : Int) < m
  · have HK : Hid (tB (TombsP idx lost rs ts) = false) := tB_false (fun h => by have := h.1; have := HM.out; omega)
    go_enter Try.func59, Try.ntmps59
    go_wp2
    go_ret
    exact ⟨by rw [HK.out]; rfl, hB _ _⟩
  have H3 : Hid (0 < n → ∃ b o, a = some ⟨b, o, none⟩ ∧ b < w.heap.size ∧ ∀ i, i < n → ∀ j, j < 4 → w.cell? ⟨b, o + i * 4 + j, none⟩ = some (C i j)) := h3
  have H3' : Hid (0 < m → ∃ b o, a' = some ⟨b, o, none⟩ ∧ b < w.heap.size ∧ ∀ i, i < m → ∀ j, j < 2 → w.cell? ⟨b, o + i * 2 + j, none⟩ = some (D i j)) := h3'
  clear h3 h3'
  have HE : Hid (∀ w : World, ∀ o, Ext w (w.alloc o)) := hE
  have HBl : Hid (∀ w : World, ∀ o, Below w.heap.size w (w.alloc o)) := hB
  clear hE hB
  go_enter Try.func59, Try.ntmps59
  go_wp2
  have HP : Hid (∀ (W : World), W.heap[w.heap.size]? = some (.cells #[.int .i64 idx, .slice a n cap, .slice a' m cap', .int .i64 lost, sv, lv] 37 (0, 0)) → W.cell? ⟨w.heap.size, 0, none⟩ = some (.int .i64 idx) ∧ W.cell? ⟨w.heap.size, 2, none⟩ = some (.slice a' m cap') ∧ W.cell? ⟨w.heap.size, 3, none⟩ = some (.int .i64 lost)) :=
    fun W h => ⟨(at_block h 0 _ rfl).1, (at_block h 2 _ rfl).1, (at_block h 3 _ rfl).1⟩
  go_loopw [17] (fun i wr => ∃ k : Nat, k ≤ n ∧ i = .int .i64 k ∧ Below w.heap.size w wr ∧ w.heap.size + 1 < wr.heap.size ∧ Hid (wr.heap[w.heap.size]? = some (.cells #[.int .i64 idx, .slice a n cap, .slice a' m cap', .int .i64 lost, sv, lv] 37 (0, 0))) ∧ ∃ Dm, wr.ownsMap Try.prog 9 (plainElem (H := Unit) Try.prog 3) (w.heap.size + 1) k Dm ∧ Hid (Cnt Dm ((rs.take k).map (·.key)))) (fun i _ => n - (intOf i).toNat)
  case atStart =>
    refine ⟨0, Nat.zero_le _, rfl, ((HBl.out _ _).trans ((HBl.out _ _).mono (by simp))), by simp, ?_, .map [], ?_, cnt_nil⟩
    · exact (Below.heap_alloc _ _ _ (by simp)).trans (heap_alloc_new w _)
    · have := World.ownsMap_made (H := Unit) (w.alloc (.cells #[.int .i64 idx, .slice a n cap, .slice a' m cap', .int .i64 lost, sv, lv] 37 (0, 0))) Try.prog 9 (plainElem Try.prog 3)
      simpa using this
  case round =>
    obtain ⟨k, hk, rfl, hb, hsz, hp, Dm, hown, hcnt⟩ := hrel
    by_cases hlt : k < n
    · obtain ⟨b, o, rfl, hbl, hc⟩ := H3.out (by omega)
      obtain ⟨r, hr⟩ : ∃ r, rs[k]? = some r := ⟨_, List.getElem?_eq_getElem (by have := HN.out; omega)⟩
      obtain ⟨rk, ru, e2, e3⟩ := HC.out k r hr
      have X := ext_below hb
      have c0 := World.grownBy.cell X (hc k hlt 0 (by omega)) (by simp)
      have c1 := World.grownBy.cell X (hc k hlt 1 (by omega)) (by simp)
      have c2 := World.grownBy.cell X (hc k hlt 2 (by omega)) (by simp)
      have c3 := World.grownBy.cell X (hc k hlt 3 (by omega)) (by simp)
      obtain ⟨ka, kc, ek, krd, kl1, kl2⟩ := rk
      obtain ⟨va, vc, ev, _, _, _⟩ := ru
      rw [Nat.add_zero, ek] at c0
      rw [ev] at c1
      rw [e2] at c2
      rw [e3] at c3
      have hklen : r.key.length ≤ maxLen := Nat.le_trans kl1 kl2
      have hrng := krd.rng
      have hkey := kl_of hklen
      have hcv : ∀ ob, (convert 29 9 (.slice ka r.key.length kc)).run Try.prog (wr.alloc ob) = .ok (.string (strOfNums r.key)) (wr.alloc ob) := fun ob => convR ((krd.grown X).grown (HE.out _ _)) kc
      obtain ⟨c, hat, hc0, hcl, _⟩ := hcnt.out r.key hrng
      have hcl2 : c ≤ 20 := by simp at hcl; omega
      have HCN : Hid (Cnt (Dm.put (kl r.key) (.lit (.int .i64 (c + 1)))) ((rs.take (k + 1)).map (·.key))) := by
        have := hcnt.out.put hown.isMap hrng hklen hat
        show Cnt _ _
        rw [List.take_add_one, hr]
        simpa using this
      have hrun : ∀ ob, (Instr.lookup 109 (.map (some (w.heap.size + 1))) (.string (strOfNums r.key)) false).run Try.prog (wr.alloc ob) = .ok (.int .i64 c) (wr.alloc ob) := fun ob => by
        obtain ⟨c', h1, h2, _⟩ := (hown.alloc ob).lookup_int law9 Try.underlying109 Try.underlying3 (zero3 _) hkey
        rw [hat] at h2
        simp only [DataW.lit.injEq, Lit.int.injEq, true_and] at h2
        rw [h2]
        exact h1
      have HF : Hid (Below w.heap.size w wr ∧ w.heap.size + 1 < wr.heap.size) := ⟨hb, hsz⟩
      have HKY : Hid (keyOf Try.prog 9 (.string (strOfNums r.key)) = some (kl r.key)) := hkey
      clear hc X ek ev e2 e3 krd kl1 kl2 hat hcnt hcl hb hsz hkey
      generalize strOfNums r.key = s at *
      generalize r.key.length = rl at *
      have hlt' : (k : Int) < (n : Int) := by omega
      go_wp2_with (first
        | (at_mapUpdate; refine wpList_mapUpdate_own _ rfl _ _ _ 109 rfl 9 3 law9 Try.underlying109 _ (w.heap.size + 1) k _ rfl (hown.alloc _) (by unfold maxLen; omega) _ _ _ rfl rfl HKY.out _ [] (plainElem_int Try.underlying3 (q := .i64) (a := c + 1) (WalkArith.wf_i64 (by omega))) ?_; intro w1 hown1 hgrow1)
        | go_in)
      go_roundw
      case rel =>
        refine ⟨k + 1, by omega, by go_num, (HF.out.1.alloc HF.out.1.size _).grown hgrow1 (by have := HF.out.2; simp; omega) (fun j hj => by cases hj; omega), ?_, ?_, _, hown1, HCN⟩
        · have := hgrow1.size
          have := HF.out.2
          simp at *
          omega
        · exact (hgrow1.block _ (by have := HF.out.2; simp; omega) (by simp)).trans ((Below.heap_alloc _ _ _ (by have := HF.out.2; omega)).trans hp.out)
      case measure => simp [intOf]; omega
    · have hkn : k = n := by omega
      subst hkn
      obtain ⟨p0, p2, p3⟩ := HP.out _ hp.out
      have HCN0 : Hid (Cnt Dm (rs.map (·.key) ++ (ts.take 0).map (·.key))) := by
        have := hcnt.out
        show Cnt _ _
        rw [List.take_of_length_le (by have := HN.out; omega)] at this
        simpa using this
      obtain ⟨l0, hmx⟩ : ∃ l0, l0 = max lost 1 := ⟨_, rfl⟩
      have HL0 : Hid (leastT lost ts 0 = l0) := by
        show leastT lost ts 0 = l0
        unfold leastT
        rw [hmx]
        split <;> rfl
      have hmax : ∀ W : World, (Builtin.max_ #[3, 3] 3 #[.int .i64 lost, .int .i64 1]).run Try.prog W = .ok (.int .i64 l0) W := fun W => by
        rw [hmx]
        exact run_max2 lost 1 W
      clear hmx hcnt
      go_wp2
      go_loopw [6, 34] (fun l i wr => ∃ j : Nat, j ≤ m ∧ i = .int .i64 j ∧ l = .int .i64 (leastT lost ts j) ∧ Below w.heap.size w wr ∧ w.heap.size + 1 < wr.heap.size ∧ Hid (wr.heap[w.heap.size]? = some (.cells #[.int .i64 idx, .slice a k cap, .slice a' m cap', .int .i64 lost, sv, lv] 37 (0, 0))) ∧ Hid (∀ i, i < j → TombAt idx lost rs ts i) ∧ ∃ Dm, wr.ownsMap Try.prog 9 (plainElem (H := Unit) Try.prog 3) (w.heap.size + 1) (k + j) Dm ∧ Hid (Cnt Dm (rs.map (·.key) ++ (ts.take j).map (·.key)))) (fun _ i _ => m - (intOf i).toNat)
      case atStart => exact ⟨0, Nat.zero_le _, rfl, by rw [HL0.out], hb, hsz, hp, fun i hi => absurd hi (by omega), Dm, hown, HCN0⟩
      case round =>
        obtain ⟨j, hj, rfl, rfl, hb2, hsz2, hp2, hall, Dn, hown2, hcnt2⟩ := hrel
        by_cases hlt2 : j < m
        · obtain ⟨b, o, rfl, hbl, hc⟩ := H3'.out (by omega)
          obtain ⟨t, ht⟩ : ∃ t, ts[j]? = some t := ⟨_, List.getElem?_eq_getElem (by have := HM.out; omega)⟩
          obtain ⟨rk, e1⟩ := HD.out j t ht
          have X := ext_below hb2
          have c0 := World.grownBy.cell X (hc j hlt2 0 (by omega)) (by simp)
          have c1 := World.grownBy.cell X (hc j hlt2 1 (by omega)) (by simp)
          have RK : ∀ ob, RV (wr.alloc ob) (D j 0) t.key := fun ob => (rk.ext X).ext (HE.out _ _)
          obtain ⟨ka, kc, ek, krd, kl1, kl2⟩ := rk
          rw [Nat.add_zero, ek] at c0
          rw [e1] at c1
          rw [ek] at RK
          have q0 : ∀ ob, (wr.alloc ob).cell? ⟨w.heap.size, 0, none⟩ = some (.int .i64 idx) := fun ob => World.grownBy.cell (HE.out wr ob) (HP.out _ hp2.out).1 (by simp)
          have hklen : t.key.length ≤ maxLen := Nat.le_trans kl1 kl2
          have hrng := krd.rng
          have hkey := kl_of hklen
          have hcv : ∀ ob, (convert 29 9 (.slice ka t.key.length kc)).run Try.prog (wr.alloc ob) = .ok (.string (strOfNums t.key)) (wr.alloc ob) := fun ob => convR ((krd.grown X).grown (HE.out _ _)) kc
          obtain ⟨c, hat, hc0, hcl, hcm⟩ := hcnt2.out t.key hrng
          have hcl2 : c ≤ 40 := by
            have := HN.out
            simp at hcl
            omega
          have hiff := tombAt_iff ht hall.out hcm
          have HCN : Hid (Cnt (Dn.put (kl t.key) (.lit (.int .i64 (c + 1)))) (rs.map (·.key) ++ (ts.take (j + 1)).map (·.key))) := by
            have := hcnt2.out.put hown2.isMap hrng hklen hat
            show Cnt _ _
            rw [List.take_add_one, ht]
            simpa using this
          have hrun : ∀ ob, (Instr.lookup 109 (.map (some (w.heap.size + 1))) (.string (strOfNums t.key)) false).run Try.prog (wr.alloc ob) = .ok (.int .i64 c) (wr.alloc ob) := fun ob => by
            obtain ⟨c', h1, h2, _⟩ := (hown2.alloc ob).lookup_int law9 Try.underlying109 Try.underlying3 (zero3 _) hkey
            rw [hat] at h2
            simp only [DataW.lit.injEq, Lit.int.injEq, true_and] at h2
            rw [h2]
            exact h1
          have HF : Hid (Below w.heap.size w wr ∧ w.heap.size + 1 < wr.heap.size) := ⟨hb2, hsz2⟩
          have HKY : Hid (keyOf Try.prog 9 (.string (strOfNums t.key)) = some (kl t.key)) := hkey
          have HB2 : Hid (∀ ob, Below w.heap.size w (wr.alloc ob)) := fun ob => hb2.alloc hb2.size _
          clear hc X ek e1 krd kl1 kl2 hat hcnt2 hcl hb2 hsz2 hkey hcm hb hsz hown p0 p2 p3 HCN0
          generalize strOfNums t.key = s at hcv hrun HKY
          generalize t.key.length = rl at hcv c0 RK hklen
          have hlt' : (j : Int) < (m : Int) := by omega
          obtain ⟨b1, K1⟩ : ∃ c, keyB t.key = c := ⟨_, rfl⟩
          obtain ⟨b3, K3⟩ : ∃ c, inB t.index (leastT lost ts j) idx = c := ⟨_, rfl⟩
          rw [K1, K3] at hiff
          by_cases hbb : b1 = true ∧ ¬ 0 < c ∧ b3 = true
          · obtain ⟨rfl, hcz, rfl⟩ := hbb
            have hcz : c = 0 := by omega
            have hat := hiff.2 ⟨rfl, by omega, rfl⟩
            subst hcz
            rw [show (0 : Int) + 1 = 1 from rfl] at HCN
            have HA : Hid (∀ i, i < j + 1 → TombAt idx lost rs ts i) := fun i hi => by
              by_cases e : i = j
              · subst e; exact hat
              · exact hall.out i (by omega)
            have HL : Hid (leastT lost ts (j + 1) = t.index) := by
              show leastT lost ts (j + 1) = t.index
              unfold leastT
              rw [Nat.add_sub_cancel, ht]
              simp
            clear hall hiff hat
            go_wp2_with (first
              | (go_at_call 71; refine (keyOkV _ t.key _ (RK _)).mono ?_; rintro e w1 ⟨rfl, rfl⟩; rw [K1])
              | (go_at_call 56; refine (withinV _ _ _ _).mono ?_; rintro e w1 ⟨rfl, rfl⟩; rw [K3])
              | (at_mapUpdate; refine wpList_mapUpdate_own _ rfl _ _ _ 109 rfl 9 3 law9 Try.underlying109 _ (w.heap.size + 1) (k + j) _ rfl (hown2.alloc _) (by unfold maxLen; omega) _ _ _ rfl rfl HKY.out _ [] (plainElem_int Try.underlying3 (q := .i64) (a := 1) (WalkArith.wf_i64 (by omega))) ?_; intro w1 hown1 hgrow1; have r8 := hgrow1.cell (at_block (heap_alloc_new wr _) 1 _ rfl).1 (by have := HF.out.2; simp; omega))
              | go_in)
            go_roundw
            case rel =>
              refine ⟨j + 1, by omega, by go_num, by rw [HL.out], (HF.out.1.alloc HF.out.1.size _).grown hgrow1 (by have := HF.out.2; simp; omega) (fun j hj => by cases hj; omega), ?_, ?_, HA, _, hown1, HCN⟩
              · have := hgrow1.size
                have := HF.out.2
                simp at *
                omega
              · exact (hgrow1.block _ (by have := HF.out.2; simp; omega) (by simp)).trans ((Below.heap_alloc _ _ _ (by have := HF.out.2; omega)).trans hp2.out)
            case measure => simp [intOf]; omega
          · have HK : Hid (tB (TombsP idx lost rs ts) = false) := tB_false (fun h => hbb (hiff.1 (h.2 j (by have := HM.out; omega))))
            clear hall hiff
            cases b1
            · clear hbb
              go_wp2_with (first
                | (go_at_call 71; refine (keyOkV _ t.key _ (RK _)).mono ?_; rintro e w1 ⟨rfl, rfl⟩; rw [K1])
                | (go_at_call 56; refine (withinV _ _ _ _).mono ?_; rintro e w1 ⟨rfl, rfl⟩; rw [K3])
                | go_in)
              go_ret
              exact ⟨by rw [HK.out]; rfl, HB2.out _⟩
            by_cases hcp : 0 < c
            · clear hbb
              go_wp2_with (first
                | (go_at_call 71; refine (keyOkV _ t.key _ (RK _)).mono ?_; rintro e w1 ⟨rfl, rfl⟩; rw [K1])
                | (go_at_call 56; refine (withinV _ _ _ _).mono ?_; rintro e w1 ⟨rfl, rfl⟩; rw [K3])
                | go_in)
              go_ret
              exact ⟨by rw [HK.out]; rfl, HB2.out _⟩
            cases b3
            · clear hbb
              have hcz : decide (0 < c) = false := decide_eq_false hcp
              go_wp2_with (first
                | (go_at_call 71; refine (keyOkV _ t.key _ (RK _)).mono ?_; rintro e w1 ⟨rfl, rfl⟩; rw [K1])
                | (go_at_call 56; refine (withinV _ _ _ _).mono ?_; rintro e w1 ⟨rfl, rfl⟩; rw [K3])
                | go_in)
              go_ret
              exact ⟨by rw [HK.out]; rfl, HB2.out _⟩
            exact absurd ⟨rfl, hcp, rfl⟩ hbb
        · have hjm : j = m := by omega
          subst hjm
          have HK : Hid (tB (TombsP idx lost rs ts) = true) := tB_true ⟨by have := HM.out; omega, fun i hi => hall.out i (by have := HM.out; omega)⟩
          clear hall
          go_wp2
          go_ret
          exact ⟨by rw [HK.out]; rfl, hb2⟩

end Go.Proofs.Ytknemgmfbmmngaa
