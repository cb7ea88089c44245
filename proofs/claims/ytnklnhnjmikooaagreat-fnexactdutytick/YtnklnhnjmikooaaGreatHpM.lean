
/- Heaps of timers as lists: what moves down and up keeps. Plain mathematics. -/
import Derived.Test.YtnklnhnjmikooaaGreatWh0
namespace Go.Proofs.YtnklnhnjmikooaaGreat
open Go.RowKit

/-- Where a timer stands in the order. -/
def kT (t : DTim) : Int := t.due * 4294967296 + t.id
/-- Numbers that may be. -/
def GoodT (ts : List DTim) : Prop := ∀ t ∈ ts, 0 ≤ t.id ∧ t.id ≤ 2147483647
theorem ahead_k {s t : DTim} (hs : 0 ≤ s.id ∧ s.id ≤ 2147483647) (ht : 0 ≤ t.id ∧ t.id ≤ 2147483647) : aheadB s t = decide (kT s < kT t) := by
  unfold aheadB kT
  rw [Bool.eq_iff_iff]
  simp only [Bool.or_eq_true, Bool.and_eq_true, decide_eq_true_eq]
  omega
theorem kT_inj {s t : DTim} (hs : 0 ≤ s.id ∧ s.id ≤ 2147483647) (ht : 0 ≤ t.id ∧ t.id ≤ 2147483647) (h : kT s = kT t) : s = t := by
  unfold kT at h
  obtain ⟨a, b⟩ := s
  obtain ⟨c, d⟩ := t
  simp only at *
  have h1 : b = d := by omega
  have h2 : a = c := by omega
  rw [h1, h2]
theorem kT_due {s t : DTim} (hs : 0 ≤ s.id ∧ s.id ≤ 2147483647) (ht : 0 ≤ t.id ∧ t.id ≤ 2147483647) (h : kT s ≤ kT t) : s.due ≤ t.due := by
  unfold kT at h
  omega

def kk (ts : List DTim) (i : Nat) : Int := match ts[i]? with | some t => kT t | none => 0
theorem kk_eq {ts : List DTim} {i : Nat} {t : DTim} (h : ts[i]? = some t) : kk ts i = kT t := by simp [kk, h]

/-- The two at i and j, each in the other's place. -/
theorem swap_kk {ts : List DTim} {i j : Nat} {s t : DTim} (hi : ts[i]? = some s) (hj : ts[j]? = some t) (c : Nat) : kk ((ts.set i t).set j s) c = if c = j then kk ts i else if c = i then kk ts j else kk ts c := by
  have hil := (List.getElem?_eq_some_iff.1 hi).1
  have hjl := (List.getElem?_eq_some_iff.1 hj).1
  by_cases e1 : c = j
  · subst e1
    rw [if_pos rfl, kk_eq hi]
    exact kk_eq (by rw [List.getElem?_set_self (by simpa using hjl)])
  · rw [if_neg e1]
    by_cases e2 : c = i
    · subst e2
      rw [if_pos rfl, kk_eq hj]
      exact kk_eq (by rw [List.getElem?_set_ne (by omega), List.getElem?_set_self hil])
    · rw [if_neg e2]
      unfold kk
      rw [List.getElem?_set_ne (by omega), List.getElem?_set_ne (by omega)]
theorem swap_perm {ts : List DTim} {i j : Nat} {s t : DTim} (hi : ts[i]? = some s) (hj : ts[j]? = some t) : ((ts.set i t).set j s).Perm ts := by
  obtain ⟨hil, rfl⟩ := List.getElem?_eq_some_iff.1 hi
  obtain ⟨hjl, rfl⟩ := List.getElem?_eq_some_iff.1 hj
  exact List.set_set_perm hil hjl
theorem swap_tail {ts : List DTim} {i j : Nat} {s t : DTim} {c : Nat} (h1 : c ≠ i) (h2 : c ≠ j) : ((ts.set i t).set j s)[c]? = ts[c]? := by
  rw [List.getElem?_set_ne (by omega), List.getElem?_set_ne (by omega)]

/-- A heap, but below i; where nothing has moved yet, not above i0 either. -/
structure DInv (n i0 : Nat) (ts0 ts : List DTim) (i : Nat) : Prop where
  perm : ts.Perm ts0
  tail : ∀ c, n ≤ c → ts[c]? = ts0[c]?
  le : i0 ≤ i
  same : i = i0 → ts = ts0
  edge : ∀ c, 0 < c → c < n → (c - 1) / 2 ≠ i → (c ≠ i0 ∨ i ≠ i0) → kk ts ((c - 1) / 2) ≤ kk ts c
  over : ∀ c, 0 < c → c < n → (c - 1) / 2 = i → 0 < i → kk ts ((i - 1) / 2) ≤ kk ts c
theorem DInv.len {n i0 i : Nat} {ts0 ts : List DTim} (h : DInv n i0 ts0 ts i) : ts.length = ts0.length := h.perm.length_eq
/-- What moving down comes to. -/
structure DEnd (n i0 : Nat) (ts0 ts : List DTim) (i : Nat) : Prop where
  perm : ts.Perm ts0
  tail : ∀ c, n ≤ c → ts[c]? = ts0[c]?
  le : i0 ≤ i
  same : i = i0 → ts = ts0
  edge : ∀ c, 0 < c → c < n → (c ≠ i0 ∨ i ≠ i0) → kk ts ((c - 1) / 2) ≤ kk ts c
theorem DInv.step {n i0 i j : Nat} {ts0 ts : List DTim} {s t : DTim} (h : DInv n i0 ts0 ts i) (hi : ts[i]? = some s) (hj : ts[j]? = some t) (hj0 : 0 < j) (hjn : j < n) (hp : (j - 1) / 2 = i) (hlt : kk ts j < kk ts i)
    (hmin : ∀ c, 0 < c → c < n → (c - 1) / 2 = i → kk ts j ≤ kk ts c) : DInv n i0 ts0 ((ts.set i t).set j s) j := by
  have hk := swap_kk hi hj
  have hij : i < j := by omega
  refine ⟨(swap_perm hi hj).trans h.perm, fun c hc => (swap_tail (by omega) (by omega)).trans (h.tail c hc), by have := h.le; omega, fun e => ?_, fun c hc0 hcn hpj _ => ?_, fun c hc0 hcn hpj _ => ?_⟩
  · have := h.le; omega
  · rw [hk, hk]
    by_cases e1 : c = j
    · subst e1
      rw [if_pos rfl, if_neg (by omega), if_pos hp]
      omega
    · by_cases e2 : c = i
      · subst e2
        rw [if_neg (by omega), if_neg (by omega), if_neg e1, if_pos rfl]
        exact h.over j hj0 hjn hp (by omega)
      · by_cases e3 : (c - 1) / 2 = i
        · rw [if_neg (by omega), if_pos e3, if_neg e1, if_neg e2]
          exact hmin c hc0 hcn e3
        · rw [if_neg hpj, if_neg e3, if_neg e1, if_neg e2]
          exact h.edge c hc0 hcn e3 (by omega)
  · rw [hk, hk, if_neg (by omega), if_pos hp, if_neg (by omega), if_neg (by omega)]
    have := h.edge c hc0 hcn (by omega) (by have := h.le; omega)
    rw [hpj] at this
    exact this
theorem DInv.stop {n i0 i : Nat} {ts0 ts : List DTim} (h : DInv n i0 ts0 ts i) (hmin : ∀ c, 0 < c → c < n → (c - 1) / 2 = i → kk ts i ≤ kk ts c) : DEnd n i0 ts0 ts i :=
  ⟨h.perm, h.tail, h.le, h.same, fun c hc0 hcn hne => by
    by_cases e : (c - 1) / 2 = i
    · rw [e]; exact hmin c hc0 hcn e
    · exact h.edge c hc0 hcn e hne⟩

/-- A heap, but above j. -/
structure UInv (m : Nat) (ts0 ts : List DTim) (j : Nat) : Prop where
  perm : ts.Perm ts0
  tail : ∀ c, m ≤ c → ts[c]? = ts0[c]?
  edge : ∀ c, 0 < c → c < m → c ≠ j → kk ts ((c - 1) / 2) ≤ kk ts c
  over : ∀ c, 0 < c → c < m → (c - 1) / 2 = j → 0 < j → kk ts ((j - 1) / 2) ≤ kk ts c
/-- A heap, as far as m. -/
def HeapL (m : Nat) (ts : List DTim) : Prop := ∀ c, 0 < c → c < m → kk ts ((c - 1) / 2) ≤ kk ts c
theorem UInv.step {m i j : Nat} {ts0 ts : List DTim} {s t : DTim} (h : UInv m ts0 ts j) (hi : ts[i]? = some s) (hj : ts[j]? = some t) (hj0 : 0 < j) (hjm : j < m) (hp : (j - 1) / 2 = i) (hlt : kk ts j < kk ts i) : UInv m ts0 ((ts.set i t).set j s) i := by
  have hk := swap_kk hi hj
  have hij : i < j := by omega
  refine ⟨(swap_perm hi hj).trans h.perm, fun c hc => (swap_tail (by omega) (by omega)).trans (h.tail c hc), fun c hc0 hcn hci => ?_, fun c hc0 hcn hpi hi0 => ?_⟩
  · rw [hk, hk]
    by_cases e1 : c = j
    · subst e1
      rw [if_pos rfl, if_neg (by omega), if_pos hp]
      omega
    · rw [if_neg e1, if_neg hci]
      by_cases e3 : (c - 1) / 2 = i
      · rw [if_neg (by omega), if_pos e3]
        have := h.edge c hc0 hcn e1
        rw [e3] at this
        omega
      · by_cases e4 : (c - 1) / 2 = j
        · rw [if_pos e4]
          have := h.over c hc0 hcn e4 hj0
          rw [hp] at this
          exact this
        · rw [if_neg e4, if_neg e3]
          exact h.edge c hc0 hcn e1
  · rw [hk, hk, if_neg (by omega), if_neg (by omega)]
    have h1 := h.edge i hi0 (by omega) (by omega)
    by_cases e1 : c = j
    · subst e1
      rw [if_pos rfl]
      exact h1
    · rw [if_neg e1, if_neg (by omega)]
      have := h.edge c hc0 hcn e1
      rw [hpi] at this
      omega
theorem UInv.stop {m j : Nat} {ts0 ts : List DTim} (h : UInv m ts0 ts j) (hs : 0 < j → kk ts ((j - 1) / 2) ≤ kk ts j) : HeapL m ts := fun c hc0 hcm => by
  by_cases e : c = j
  · subst e; exact hs hc0
  · exact h.edge c hc0 hcm e
theorem HeapL.root {m : Nat} {ts : List DTim} (h : HeapL m ts) : ∀ c, c < m → kk ts 0 ≤ kk ts c := by
  intro c
  induction c using Nat.strongRecOn with
  | _ c ih =>
    intro hc
    by_cases e : c = 0
    · subst e; omega
    · have h1 := ih ((c - 1) / 2) (by omega) (by omega)
      have h2 := h c (by omega) hc
      omega
theorem GoodT.perm {xs ys : List DTim} (h : GoodT ys) (p : xs.Perm ys) : GoodT xs := fun t ht => h t (p.mem_iff.1 ht)
theorem GoodT.get {ts : List DTim} (h : GoodT ts) {i : Nat} {t : DTim} (ht : ts[i]? = some t) : 0 ≤ t.id ∧ t.id ≤ 2147483647 := h t (List.mem_of_getElem? ht)

/-- Ascending in the order. -/
def SortT (ts : List DTim) : Prop := ts.Pairwise (fun a b => kT a ≤ kT b)
theorem sort_uniq : ∀ {xs ys : List DTim}, SortT xs → SortT ys → GoodT xs → xs.Perm ys → xs = ys
  | [], ys, _, _, _, p => by
    have := p.length_eq
    exact (List.eq_nil_of_length_eq_zero (by simpa using this.symm)).symm
  | x :: xs, ys, h1, h2, g, p => by
    match ys with
    | [] => simpa using p.length_eq
    | y :: ys =>
      have gy : GoodT (y :: ys) := g.perm p.symm
      have hxy : kT x ≤ kT y := by
        have : y ∈ x :: xs := p.mem_iff.2 (by simp)
        rcases List.mem_cons.1 this with e | e
        · rw [e]; omega
        · exact (List.pairwise_cons.1 h1).1 y e
      have hyx : kT y ≤ kT x := by
        have : x ∈ y :: ys := p.mem_iff.1 (by simp)
        rcases List.mem_cons.1 this with e | e
        · rw [e]; omega
        · exact (List.pairwise_cons.1 h2).1 x e
      have e : x = y := kT_inj (g x (by simp)) (gy y (by simp)) (by omega)
      subst e
      rw [sort_uniq (List.pairwise_cons.1 h1).2 (List.pairwise_cons.1 h2).2 (fun t ht => g t (by simp [ht])) p.cons_inv]

end Go.Proofs.YtnklnhnjmikooaaGreat
