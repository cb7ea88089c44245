/- slices.BinarySearchFunc over members that ascend: the program's findMember. -/
import Derived.Test.YtfdklcmhafhbeaaMdI
import Derived.Test.YtfdklcmhafhbeaaCmI
import Derived.Test.YtfdklcmhafhbeaaQB
namespace Go.Proofs.Ytfdklcmhafhbeaa
open Go.RowKit

/-- What findMember answers: where it is, or where it would have to be put. -/
def FndM (ls : List DMem) (id : Int) (w : World) (e : Ending) (w' : World) : Prop :=
  ∃ (t : Nat) (fb : Bool), e = .returned (.tuple #[.int .i64 t, .bool fb]) ∧ Below w.heap.size w w' ∧ (fb = true → placeM ls id = t) ∧ (fb = false → placeM ls id = -1 ∧ insK ls id = t)

theorem cmpMemV (c r co id : Int) (w : World) : Calls Try.prog 69 #[.agg #[.int .i64 c, .int .i64 r, .int .i64 co], .int .i64 id] w fun e w' => e = .returned (.int .i64 (cmpI c id)) ∧ Below w.heap.size w w' := by
  have hB : ∀ w : World, ∀ o, Below w.heap.size w (w.alloc o) := fun w o => (Below.refl _ w).alloc (Nat.le_refl _) _
  go_enter Try.func69, Try.ntmps69
  go_wp2_with (go_at_call 70; refine (compareIV _ _ _).mono ?_; rintro e w1 ⟨rfl, rfl⟩)
  go_ret
  exact ⟨rfl, hB _ _⟩

set_option maxHeartbeats 4000000 in
theorem bsearchM (v : Value) (ls : List DMem) (client : Int) (w : World) (h : VMem w v ls) (hn4 : ls.length ≤ 12) (hasc : AscM ls) :
    Calls Try.prog 68 #[v, .int .i64 client, .func (.func 69) #[] #[]] w fun e w' =>
      FndM ls client w e w' := by
  have hE : ∀ w : World, ∀ o, Ext w (w.alloc o) := fun w o => World.grownBy_alloc _ _ _
  obtain ⟨C, ⟨a, cap, rfl, h1, h2, h3⟩, hC⟩ := h
  have HC : Hid (∀ i r, ls[i]? = some r → C i 0 = .int .i64 r.id ∧ C i 1 = .int .i64 r.st ∧ C i 2 = .int .i64 r.life) := hC
  have HAS : Hid (AscM ls) := hasc
  obtain ⟨n, hnn⟩ : ∃ n, n = ls.length := ⟨_, rfl⟩
  rw [← hnn] at h1 h3 hn4 ⊢
  have HN : Hid (n = ls.length) := hnn
  clear hnn hC hasc
  unfold maxLen at h2
  have H3 : Hid (0 < n → ∃ b o, a = some ⟨b, o, none⟩ ∧ b < w.heap.size ∧ ∀ i, i < n → ∀ j, j < 3 → w.cell? ⟨b, o + i * 3 + j, none⟩ = some (C i j)) := h3
  clear h3
  go_enter Try.func68, Try.ntmps68
  go_wp2
  go_loopw [9, 10] (fun i j wr => ∃ p q : Nat, p ≤ q ∧ q ≤ n ∧ i = .int .i64 p ∧ j = .int .i64 q ∧ Below w.heap.size w wr ∧ Hid (∀ t s, t < p → ls[t]? = some s → s.id < client) ∧ Hid (∀ t s, q ≤ t → ls[t]? = some s → client ≤ s.id)) (fun i j _ => (intOf j).toNat - (intOf i).toNat)
  case atStart => exact ⟨0, n, Nat.zero_le _, Nat.le_refl _, rfl, rfl, Below.refl _ _, fun t s ht => absurd ht (by omega), fun t s ht hs => absurd (List.getElem?_eq_some_iff.1 hs).1 (by have := HN.out; omega)⟩
  case round =>
    obtain ⟨p, q, hpq, hqn, rfl, rfl, hb, hlo, hhi⟩ := hrel
    by_cases hlt : p < q
    · obtain ⟨b, o, rfl, hbl, hc⟩ := H3.out (by omega)
      obtain ⟨m, hm⟩ : ∃ m, m = (p + q) / 2 := ⟨_, rfl⟩
      have hm1 : m < n := by omega
      have hm2 : p ≤ m := by omega
      have hm3 : m < q := by omega
      obtain ⟨s, hs⟩ : ∃ s, ls[m]? = some s := ⟨_, List.getElem?_eq_getElem (by have := HN.out; omega)⟩
      obtain ⟨e0, e1, e2⟩ := HC.out m s hs
      have X := ext_below hb
      have c0 := World.grownBy.cell X (hc m hm1 0 (by omega)) (by simp)
      have c1 := World.grownBy.cell X (hc m hm1 1 (by omega)) (by simp)
      have c2 := World.grownBy.cell X (hc m hm1 2 (by omega)) (by simp)
      rw [e0, Nat.add_zero, hm] at c0
      rw [e1, hm] at c1
      rw [e2, hm] at c2
      have hlt' : (p : Int) < (q : Int) := by omega
      have HM : Hid (m = (p + q) / 2) := hm
      have HS : Hid (ls[m]? = some s) := hs
      clear hc hs hm e0 e1 e2
      by_cases hcl : s.id < client
      · have HCM : Hid (cmpI s.id client = -1) := if_pos hcl
        have HLO : Hid (∀ t s, t < m + 1 → ls[t]? = some s → s.id < client) := fun t s' ht hs' => by
          by_cases e : t = m
          · subst e
            rw [HS.out] at hs'
            cases hs'
            exact hcl
          · have := HAS.out t m s' s (by omega) hs' HS.out
            omega
        clear hlo hcl
        go_wp2_with (go_at_call 69; refine (cmpMemV _ _ _ _ _).mono ?_; rintro e w2 ⟨rfl, b2⟩; rw [HCM.out])
        go_roundw
        case rel => exact ⟨m + 1, q, by omega, hqn, by rw [HM.out]; go_num, rfl, hb.trans (b2.mono hb.size), HLO, hhi⟩
        case measure => simp [intOf]; omega
      · have HCM : Hid (0 ≤ cmpI s.id client) := by
          show 0 ≤ (if s.id < client then -1 else if client < s.id then 1 else 0)
          rw [if_neg hcl]
          split <;> omega
        have HHI : Hid (∀ t s, m ≤ t → ls[t]? = some s → client ≤ s.id) := fun t s' ht hs' => by
          by_cases e : t = m
          · subst e
            rw [HS.out] at hs'
            cases hs'
            omega
          · have := HAS.out m t s s' (by omega) HS.out hs'
            omega
        obtain ⟨cv, hcv⟩ : ∃ cv, cmpI s.id client = cv := ⟨_, rfl⟩
        have HCV : Hid (cmpI s.id client = cv) := hcv
        have dcv : decide (cv < 0) = false := decide_eq_false (by have := HCM.out; omega)
        clear hhi hcl hcv
        go_wp2_with (go_at_call 69; refine (cmpMemV _ _ _ _ _).mono ?_; rintro e w2 ⟨rfl, b2⟩; rw [HCV.out])
        go_roundw
        case rel => exact ⟨p, m, by omega, by omega, rfl, by rw [HM.out]; go_num, hb.trans (b2.mono hb.size), hlo, HHI⟩
        case measure => simp [intOf]; omega
    · obtain rfl : q = p := by omega
      clear hlt hpq
      by_cases hqn' : q < n
      · obtain ⟨b, o, rfl, hbl, hc⟩ := H3.out (by omega)
        obtain ⟨s, hs⟩ : ∃ s, ls[q]? = some s := ⟨_, List.getElem?_eq_getElem (by have := HN.out; omega)⟩
        obtain ⟨e0, e1, e2⟩ := HC.out q s hs
        have X := ext_below hb
        have c0 := World.grownBy.cell X (hc q hqn' 0 (by omega)) (by simp)
        have c1 := World.grownBy.cell X (hc q hqn' 1 (by omega)) (by simp)
        have c2 := World.grownBy.cell X (hc q hqn' 2 (by omega)) (by simp)
        rw [e0, Nat.add_zero] at c0
        rw [e1] at c1
        rw [e2] at c2
        have hlt' : (q : Int) < (n : Int) := by omega
        have HLO : Hid (∀ t s, t < q → ls[t]? = some s → s.id < client) := hlo
        have HHI : Hid (∀ t s, q ≤ t → ls[t]? = some s → client ≤ s.id) := hhi
        clear hc e0 e1 e2 hlo hhi
        by_cases hcl : s.id = client
        · have HF : Hid (placeM ls client = (q : Int)) := placeM_some hs hcl (fun i y hi hy => by have := HLO.out i y hi hy; omega)
          have HCM : Hid (cmpI s.id client = 0) := by
            show (if s.id < client then -1 else if client < s.id then 1 else 0) = (0 : Int)
            rw [if_neg (by omega), if_neg (by omega)]
          clear hcl hs
          go_wp2_with (go_at_call 69; refine (cmpMemV _ _ _ _ _).mono ?_; rintro e w2 ⟨rfl, b2⟩; rw [HCM.out])
          go_ret2
          exact ⟨q, true, rfl, hb.trans (b2.mono hb.size), fun _ => HF.out, (fun h => by cases h)⟩
        · have HF : Hid (placeM ls client = -1) := placeM_none (fun i y hy => (fun e => by
            by_cases h1 : i < q
            · have := HLO.out i y h1 hy; omega
            · by_cases h2 : i = q
              · subst h2
                rw [hs] at hy
                cases hy
                exact hcl e
              · have h3 := HAS.out q i s y (by omega) hs hy
                have h4 := HHI.out q s (Nat.le_refl _) hs
                omega))
          have HIK : Hid (insK ls client = q) := insK_at (fun j u hj hu => HLO.out j u hj hu) (.inr ⟨s, hs, by have := HHI.out q s (Nat.le_refl _) hs; omega⟩) (by have := HN.out; omega)
          obtain ⟨cv, hcv⟩ : ∃ cv, cmpI s.id client = cv := ⟨_, rfl⟩
          have HCV : Hid (cmpI s.id client = cv) := hcv
          have dcv : (cv == 0) = false := by
            have : cv ≠ 0 := by
              rw [← hcv]
              show (if s.id < client then -1 else if client < s.id then 1 else 0) ≠ (0 : Int)
              split
              · omega
              · rw [if_pos (by omega)]; omega
            simpa using this
          clear hcl hs hcv
          go_wp2_with (go_at_call 69; refine (cmpMemV _ _ _ _ _).mono ?_; rintro e w2 ⟨rfl, b2⟩; rw [HCV.out])
          go_ret2
          exact ⟨q, false, rfl, hb.trans (b2.mono hb.size), (fun h => by cases h), fun _ => ⟨HF.out, HIK.out⟩⟩
      · obtain rfl : q = n := by omega
        have HF : Hid (placeM ls client = -1) := placeM_none (fun i y hy => (fun e => by
          have := hlo.out i y (by have := (List.getElem?_eq_some_iff.1 hy).1; have := HN.out; omega) hy
          omega))
        have HIK : Hid (insK ls client = q) := insK_at (fun j u hj hu => hlo.out j u hj hu) (.inl HN.out) (by have := HN.out; omega)
        clear hlo hhi
        go_wp2
        go_ret2
        exact ⟨q, false, rfl, hb, (fun h => by cases h), fun _ => ⟨HF.out, HIK.out⟩⟩

theorem findMV (v : Value) (ls : List DMem) (id : Int) (w : World) (h : VMem w v ls) (hn4 : ls.length ≤ 12) (hasc : AscM ls) :
    Calls Try.prog 55 #[v, .int .i64 id] w fun e w' => FndM ls id w e w' := by
  go_enter Try.func55, Try.ntmps55
  go_wp2_with (go_at_call 68; refine (bsearchM v ls id w h hn4 hasc).mono ?_; rintro e w1 ⟨t, fb, rfl, b1, f1, f2⟩)
  go_ret2
  exact ⟨t, fb, rfl, b1, f1, f2⟩

end Go.Proofs.Ytfdklcmhafhbeaa
