/- slices.BinarySearchFunc over lasts that ascend, and the program's look-up of a client's last. -/
import Derived.Test.YtplgnohncdfgcakLsA
namespace Go.Proofs.Ytplgnohncdfgcak
open Go.RowKit

/-- Their clients ascend. -/
def AscL (ls : List DLast) : Prop := ∀ (i j : Nat) (a b : DLast), i < j → ls[i]? = some a → ls[j]? = some b → a.client < b.client
def fndL (ls : List DLast) (client : Int) : Int := fnd (fun s : DLast => decide (s.client = client)) ls

theorem ascL_of {idx : Int} {ls : List DLast} (h : LastP idx ls) : AscL ls := by
  have key : ∀ (d i : Nat) (a b : DLast), ls[i]? = some a → ls[i + 1 + d]? = some b → a.client < b.client := by
    intro d
    induction d with
    | zero =>
      intro i a b ha hb
      exact (h.2 (i + 1) (List.getElem?_eq_some_iff.1 hb).1 b hb).2.2.2.2.2.2.2.2 a (by omega) (by simpa using ha)
    | succ d ih =>
      intro i a b ha hb
      have hlt := (List.getElem?_eq_some_iff.1 hb).1
      obtain ⟨c, hc⟩ : ∃ c, ls[i + 1 + d]? = some c := ⟨_, List.getElem?_eq_getElem (by omega)⟩
      have h1 := ih i a c ha hc
      have h2 := (h.2 (i + 1 + (d + 1)) hlt b hb).2.2.2.2.2.2.2.2 c (by omega) (by rw [show i + 1 + (d + 1) - 1 = i + 1 + d by omega]; exact hc)
      omega
  intro i j a b hij ha hb
  exact key (j - i - 1) i a b ha (by rw [show i + 1 + (j - i - 1) = j by omega]; exact hb)

set_option maxHeartbeats 4000000 in
theorem bsearchV (v : Value) (ls : List DLast) (client : Int) (w : World) (h : VLasts w v ls) (hn4 : ls.length ≤ 4) (hasc : AscL ls) :
    Calls Try.prog 85 #[v, .int .i64 client, .func (.func 86) #[] #[]] w fun e w' =>
      ∃ (t : Nat) (fb : Bool), e = .returned (.tuple #[.int .i64 t, .bool fb]) ∧ Below w.heap.size w w' ∧ (fb = true → fndL ls client = t) ∧ (fb = false → fndL ls client = -1) := by
  have hE : ∀ w : World, ∀ o, Ext w (w.alloc o) := fun w o => World.grownBy_alloc _ _ _
  obtain ⟨C, ⟨a, cap, rfl, h1, h2, h3⟩, hC⟩ := h
  have HC : Hid (∀ i r, ls[i]? = some r → C i 0 = .int .i64 r.client ∧ C i 1 = .int .i64 r.req ∧ C i 2 = .int .i64 r.code ∧ C i 3 = .int .i64 r.index) := hC
  have HAS : Hid (AscL ls) := hasc
  obtain ⟨n, hnn⟩ : ∃ n, n = ls.length := ⟨_, rfl⟩
  rw [← hnn] at h1 h3 hn4 ⊢
  have HN : Hid (n = ls.length) := hnn
  clear hnn hC hasc
  unfold maxLen at h2
  have H3 : Hid (0 < n → ∃ b o, a = some ⟨b, o, none⟩ ∧ b < w.heap.size ∧ ∀ i, i < n → ∀ j, j < 4 → w.cell? ⟨b, o + i * 4 + j, none⟩ = some (C i j)) := h3
  clear h3
  go_enter Try.func85, Try.ntmps85
  go_wp2
  go_loopw [9, 10] (fun i j wr => ∃ p q : Nat, p ≤ q ∧ q ≤ n ∧ i = .int .i64 p ∧ j = .int .i64 q ∧ Below w.heap.size w wr ∧ Hid (∀ t s, t < p → ls[t]? = some s → s.client < client) ∧ Hid (∀ t s, q ≤ t → ls[t]? = some s → client ≤ s.client)) (fun i j _ => (intOf j).toNat - (intOf i).toNat)
  case atStart => exact ⟨0, n, Nat.zero_le _, Nat.le_refl _, rfl, rfl, Below.refl _ _, fun t s ht => absurd ht (by omega), fun t s ht hs => absurd (List.getElem?_eq_some_iff.1 hs).1 (by have := HN.out; omega)⟩
  case round =>
    obtain ⟨p, q, hpq, hqn, rfl, rfl, hb, hlo, hhi⟩ := hrel
    by_cases hlt : p < q
    · obtain ⟨b, o, rfl, hbl, hc⟩ := H3.out (by omega)
      obtain ⟨m, hm⟩ : ∃ m, m = (p + q) / 2 := ⟨_, rfl⟩
      have hm1 : m < n := by omega
      have hm2 : p ≤ m := by omega
      have hm3 : m < q := by omega
      obtain ⟨s, hs⟩ : ∃ s, ls[m]? = some s := ⟨_, List.getElem?_eq_getElem (by have := HN.out; omega)⟩
      obtain ⟨e0, e1, e2, e3⟩ := HC.out m s hs
      have X := ext_below hb
      have c0 := World.grownBy.cell X (hc m hm1 0 (by omega)) (by simp)
      have c1 := World.grownBy.cell X (hc m hm1 1 (by omega)) (by simp)
      have c2 := World.grownBy.cell X (hc m hm1 2 (by omega)) (by simp)
      have c3 := World.grownBy.cell X (hc m hm1 3 (by omega)) (by simp)
      rw [e0, Nat.add_zero, hm] at c0
      rw [e1, hm] at c1
      rw [e2, hm] at c2
      rw [e3, hm] at c3
      have hlt' : (p : Int) < (q : Int) := by omega
      have HM : Hid (m = (p + q) / 2) := hm
      have HS : Hid (ls[m]? = some s) := hs
      clear hc hs hm e0 e1 e2 e3
      by_cases hcl : s.client < client
      · have HCM : Hid (cmpI s.client client = -1) := if_pos hcl
        have HLO : Hid (∀ t s, t < m + 1 → ls[t]? = some s → s.client < client) := fun t s' ht hs' => by
          by_cases e : t = m
          · subst e
            rw [HS.out] at hs'
            cases hs'
            exact hcl
          · have := HAS.out t m s' s (by omega) hs' HS.out
            omega
        clear hlo hcl
        go_wp2_with (go_at_call 86; refine (cmpLastV _ _ _ _ _ _).mono ?_; rintro e w2 ⟨rfl, b2⟩; rw [HCM.out])
        go_roundw
        case rel => exact ⟨m + 1, q, by omega, hqn, by rw [HM.out]; go_num, rfl, hb.trans (b2.mono hb.size), HLO, hhi⟩
        case measure => simp [intOf]; omega
      · have HCM : Hid (0 ≤ cmpI s.client client) := by
          show 0 ≤ (if s.client < client then -1 else if client < s.client then 1 else 0)
          rw [if_neg hcl]
          split <;> omega
        have HHI : Hid (∀ t s, m ≤ t → ls[t]? = some s → client ≤ s.client) := fun t s' ht hs' => by
          by_cases e : t = m
          · subst e
            rw [HS.out] at hs'
            cases hs'
            omega
          · have := HAS.out m t s s' (by omega) HS.out hs'
            omega
        obtain ⟨cv, hcv⟩ : ∃ cv, cmpI s.client client = cv := ⟨_, rfl⟩
        have HCV : Hid (cmpI s.client client = cv) := hcv
        have dcv : decide (cv < 0) = false := decide_eq_false (by have := HCM.out; omega)
        clear hhi hcl hcv
        go_wp2_with (go_at_call 86; refine (cmpLastV _ _ _ _ _ _).mono ?_; rintro e w2 ⟨rfl, b2⟩; rw [HCV.out])
        go_roundw
        case rel => exact ⟨p, m, by omega, by omega, rfl, by rw [HM.out]; go_num, hb.trans (b2.mono hb.size), hlo, HHI⟩
        case measure => simp [intOf]; omega
    · obtain rfl : q = p := by omega
      clear hlt hpq
      by_cases hqn' : q < n
      · obtain ⟨b, o, rfl, hbl, hc⟩ := H3.out (by omega)
        obtain ⟨s, hs⟩ : ∃ s, ls[q]? = some s := ⟨_, List.getElem?_eq_getElem (by have := HN.out; omega)⟩
        obtain ⟨e0, e1, e2, e3⟩ := HC.out q s hs
        have X := ext_below hb
        have c0 := World.grownBy.cell X (hc q hqn' 0 (by omega)) (by simp)
        have c1 := World.grownBy.cell X (hc q hqn' 1 (by omega)) (by simp)
        have c2 := World.grownBy.cell X (hc q hqn' 2 (by omega)) (by simp)
        have c3 := World.grownBy.cell X (hc q hqn' 3 (by omega)) (by simp)
        rw [e0, Nat.add_zero] at c0
        rw [e1] at c1
        rw [e2] at c2
        rw [e3] at c3
        have hlt' : (q : Int) < (n : Int) := by omega
        have HLO : Hid (∀ t s, t < q → ls[t]? = some s → s.client < client) := hlo
        have HHI : Hid (∀ t s, q ≤ t → ls[t]? = some s → client ≤ s.client) := hhi
        clear hc e0 e1 e2 e3 hlo hhi
        by_cases hcl : s.client = client
        · have HF : Hid (fndL ls client = (q : Int)) := fnd_at (fun i y hi hy => decide_eq_false (by have := HLO.out i y hi hy; omega)) hs (decide_eq_true hcl)
          have HCM : Hid (cmpI s.client client = 0) := by
            show (if s.client < client then -1 else if client < s.client then 1 else 0) = (0 : Int)
            rw [if_neg (by omega), if_neg (by omega)]
          clear hcl hs
          go_wp2_with (go_at_call 86; refine (cmpLastV _ _ _ _ _ _).mono ?_; rintro e w2 ⟨rfl, b2⟩; rw [HCM.out])
          go_ret2
          exact ⟨q, true, rfl, hb.trans (b2.mono hb.size), fun _ => HF.out, (fun h => by cases h)⟩
        · have HF : Hid (fndL ls client = -1) := fnd_none (fun i y hy => decide_eq_false (fun e => by
            by_cases h1 : i < q
            · have := HLO.out i y h1 hy; omega
            · by_cases h2 : i = q
              · subst h2
                rw [hs] at hy
                cases hy
                exact hcl e
              · have h3 := HAS.out q i s y (by omega) hs hy
                have h4 := HHI.out q s (Nat.le_refl _) hs
                omega))
          obtain ⟨cv, hcv⟩ : ∃ cv, cmpI s.client client = cv := ⟨_, rfl⟩
          have HCV : Hid (cmpI s.client client = cv) := hcv
          have dcv : (cv == 0) = false := by
            have : cv ≠ 0 := by
              rw [← hcv]
              show (if s.client < client then -1 else if client < s.client then 1 else 0) ≠ (0 : Int)
              split
              · omega
              · rw [if_pos (by omega)]; omega
            simpa using this
          clear hcl hs hcv
          go_wp2_with (go_at_call 86; refine (cmpLastV _ _ _ _ _ _).mono ?_; rintro e w2 ⟨rfl, b2⟩; rw [HCV.out])
          go_ret2
          exact ⟨q, false, rfl, hb.trans (b2.mono hb.size), (fun h => by cases h), fun _ => HF.out⟩
      · obtain rfl : q = n := by omega
        have HF : Hid (fndL ls client = -1) := fnd_none (fun i y hy => decide_eq_false (fun e => by
          have := hlo.out i y (by have := (List.getElem?_eq_some_iff.1 hy).1; have := HN.out; omega) hy
          omega))
        clear hlo hhi
        go_wp2
        go_ret2
        exact ⟨q, false, rfl, hb, (fun h => by cases h), fun _ => HF.out⟩

theorem findLastV (v : Value) (ls : List DLast) (client : Int) (w : World) (h : VLasts w v ls) (hn4 : ls.length ≤ 4) (hasc : AscL ls) :
    Calls Try.prog 65 #[v, .int .i64 client] w fun e w' =>
      ∃ (t : Nat) (fb : Bool), e = .returned (.tuple #[.int .i64 t, .bool fb]) ∧ Below w.heap.size w w' ∧ (fb = true → fndL ls client = t) ∧ (fb = false → fndL ls client = -1) := by
  go_enter Try.func65, Try.ntmps65
  go_wp2_with (go_at_call 85; refine (bsearchV v ls client w h hn4 hasc).mono ?_; rintro e w1 ⟨t, fb, rfl, b1, f1, f2⟩)
  go_ret2
  exact ⟨t, fb, rfl, b1, f1, f2⟩

end Go.Proofs.Ytplgnohncdfgcak
