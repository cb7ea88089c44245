
/- The contracts of the specification's look-ups: l2sess, l2row, l2tomb. -/
import Derived.Test.YtnklnhnjmikooaaGreatSt0
import Derived.Test.YtnklnhnjmikooaaGreatConv
namespace Go.Proofs.YtnklnhnjmikooaaGreat
open Go.RowKit

/-- Where the first one is, or -1. -/
def fnd {α : Type} (p : α → Bool) (l : List α) : Int := match l.findIdx? p with | some j => (j : Int) | none => -1
theorem fnd_at {α : Type} {p : α → Bool} {l : List α} {k : Nat} {x : α} (h : ∀ i y, i < k → l[i]? = some y → p y = false) (hx : l[k]? = some x) (hp : p x = true) : fnd p l = k := by
  obtain ⟨hk, e⟩ := List.getElem?_eq_some_iff.1 hx
  have : l.findIdx? p = some k := by
    rw [List.findIdx?_eq_some_iff_getElem]
    refine ⟨hk, by rw [e]; exact hp, fun j hj => ?_⟩
    have := h j l[j] hj (List.getElem?_eq_getElem (by omega))
    simp [this]
  unfold fnd
  rw [this]
theorem fnd_none {α : Type} {p : α → Bool} {l : List α} (h : ∀ (i : Nat) (y : α), l[i]? = some y → p y = false) : fnd p l = -1 := by
  have : l.findIdx? p = none := by
    rw [List.findIdx?_eq_none_iff]
    intro x hx
    obtain ⟨i, hi⟩ := List.getElem?_of_mem hx
    simpa using h i x hi
  unfold fnd
  rw [this]
theorem fnd_neg {α : Type} {p : α → Bool} {l : List α} (h : fnd p l < 0) : ∀ (i : Nat) (y : α), l[i]? = some y → p y = false := by
  unfold fnd at h
  cases e : l.findIdx? p with
  | none =>
    intro i y hy
    rw [List.findIdx?_eq_none_iff] at e
    have := e y (List.mem_of_getElem? hy)
    simpa using this
  | some j => rw [e] at h; simp at h <;> omega
theorem fnd_le {α : Type} (p : α → Bool) (l : List α) : -1 ≤ fnd p l ∧ fnd p l ≤ l.length := by
  unfold fnd
  cases e : l.findIdx? p with
  | none => simp
  | some j =>
    rw [List.findIdx?_eq_some_iff_getElem] at e
    obtain ⟨h, _⟩ := e
    simp
    omega
theorem fnd_hit {α : Type} {p : α → Bool} {l : List α} (h : 0 ≤ fnd p l) : ∃ (j : Nat) (x : α), fnd p l = (j : Int) ∧ l[j]? = some x ∧ p x = true ∧ ∀ i y, i < j → l[i]? = some y → p y = false := by
  unfold fnd at h ⊢
  cases e : l.findIdx? p with
  | none => rw [e] at h; simp at h
  | some j =>
    rw [List.findIdx?_eq_some_iff_getElem] at e
    obtain ⟨hj, h1, h2⟩ := e
    refine ⟨j, l[j], rfl, List.getElem?_eq_getElem hj, h1, fun i y hi hy => ?_⟩
    obtain ⟨hil, rfl⟩ := List.getElem?_eq_some_iff.1 hy
    simpa using h2 i hi

set_option maxHeartbeats 2000000 in
theorem sl2sessV (x0 x1 x2 x3 v x5 : Value) (ss : List DSess) (id : Int) (w : World) (h : VSess w v ss) :
    Calls Tryz.prog 66 #[.agg #[x0, x1, x2, x3, v, x5], .int .i64 id] w fun e w' => e = .returned (.int .i64 (fnd (fun s => decide (s.id = id)) ss)) ∧ Below w.heap.size w w' := by
  have hE : ∀ w : World, ∀ o, Ext w (w.alloc o) := fun w o => World.grownBy_alloc _ _ _
  have hB : ∀ w : World, ∀ o, Below w.heap.size w (w.alloc o) := fun w o => (Below.refl _ w).alloc (Nat.le_refl _) _
  obtain ⟨C, ⟨a, cap, rfl, h1, h2, h3⟩, hC⟩ := h
  have HC : Hid (∀ i r, ss[i]? = some r → C i 0 = .int .i64 r.id ∧ C i 1 = .bool r.del) := hC
  clear hC
  obtain ⟨n, hnn⟩ : ∃ n, n = ss.length := ⟨_, rfl⟩
  rw [← hnn] at h1 h3 ⊢
  have HN : Hid (n = ss.length) := hnn
  clear hnn
  unfold maxLen at h2
  have H3 : Hid (0 < n → ∃ b o, a = some ⟨b, o, none⟩ ∧ b < w.heap.size ∧ ∀ i, i < n → ∀ j, j < 2 → w.cell? ⟨b, o + i * 2 + j, none⟩ = some (C i j)) := h3
  clear h3
  go_enter Tryz.func66, Tryz.ntmps66
  go_wp2
  generalize hW : w.alloc _ = W
  have HW : Hid (Below w.heap.size w W ∧ Ext w W) := by rw [← hW]; exact ⟨hB _ _, hE _ _⟩
  have hq : W.cell? ⟨w.heap.size, 4, none⟩ = some (.slice a n cap) := by rw [← hW]; exact (at_block (heap_alloc_new w _) 4 _ rfl).1
  clear hW
  go_loopw [5] (fun i wr => ∃ k q : Nat, k ≤ n ∧ i = .int .i64 k ∧ wr = W.drewN q ∧ Hid (∀ i s, i < k → ss[i]? = some s → (fun s => decide (s.id = id)) s = false)) (fun i _ => n - (intOf i).toNat)
  case atStart => exact ⟨0, 0, Nat.zero_le _, rfl, rfl, fun i s hi => absurd hi (by omega)⟩
  case round =>
    obtain ⟨k, q, hk, rfl, rfl, hall⟩ := hrel
    by_cases hlt : k < n
    · obtain ⟨b, o, rfl, hbl, hc⟩ := H3.out (by omega)
      obtain ⟨s, hs⟩ : ∃ s, ss[k]? = some s := ⟨_, List.getElem?_eq_getElem (by have := HN.out; omega)⟩
      obtain ⟨e0, e1⟩ := HC.out k s hs
      have c0 := World.grownBy.cell HW.out.2 (hc k hlt 0 (by omega)) (by simp)
      rw [e0, Nat.add_zero] at c0
      have hlt' : (k : Int) < (n : Int) := by omega
      clear hc
      by_cases hid : s.id = id
      · have HK : Hid (fnd (fun s => decide (s.id = id)) ss = (k : Int)) := fnd_at hall.out hs (decide_eq_true hid)
        rw [hid] at c0
        clear hall hid
        go_wp2
        go_ret
        exact ⟨by rw [HK.out]; rfl, below_drewN HW.out.1 _⟩
      · have HA : Hid (∀ i s, i < k + 1 → ss[i]? = some s → (fun s => decide (s.id = id)) s = false) := fun i s' hi hs' => by
          by_cases e : i = k
          · subst e
            rw [hs] at hs'
            cases hs'
            exact decide_eq_false hid
          · exact hall.out i s' (by omega) hs'
        have hse : (s.id == id) = false := by simpa using hid
        clear hall hid
        go_wp2
        go_roundw
        case rel => exact ⟨k + 1, q, by omega, by go_num, rfl, HA⟩
        case measure => simp [intOf]; omega
    · have hkn : k = n := by omega
      subst hkn
      have HK : Hid (fnd (fun s => decide (s.id = id)) ss = -1) := fnd_none (fun i s hs => hall.out i s (by have := (List.getElem?_eq_some_iff.1 hs).1; have := HN.out; omega) hs)
      clear hall
      go_wp2
      go_ret
      exact ⟨by rw [HK.out]; rfl, below_drewN HW.out.1 _⟩

set_option maxHeartbeats 2000000 in
theorem sl2rowV (x0 v x2 x3 x4 x5 : Value) (ss : List DRow) (kv : Value) (ks : List Int) (w : World) (h : VRows w v ss) (rk : RV w kv ks) :
    Calls Tryz.prog 67 #[.agg #[x0, v, x2, x3, x4, x5], kv] w fun e w' => e = .returned (.int .i64 (fnd (fun s => decide (s.key = ks)) ss)) ∧ Below w.heap.size w w' := by
  have hE : ∀ w : World, ∀ o, Ext w (w.alloc o) := fun w o => World.grownBy_alloc _ _ _
  have hB : ∀ w : World, ∀ o, Below w.heap.size w (w.alloc o) := fun w o => (Below.refl _ w).alloc (Nat.le_refl _) _
  obtain ⟨C, ⟨a, cap, rfl, h1, h2, h3⟩, hC⟩ := h
  have HC : Hid (∀ i r, ss[i]? = some r → RV w (C i 0) r.key ∧ RV w (C i 1) r.val ∧ C i 2 = .int .i64 r.turned ∧ C i 3 = .int .i64 r.holder) := hC
  clear hC
  obtain ⟨n, hnn⟩ : ∃ n, n = ss.length := ⟨_, rfl⟩
  rw [← hnn] at h1 h3 ⊢
  have HN : Hid (n = ss.length) := hnn
  clear hnn
  unfold maxLen at h2
  have H3 : Hid (0 < n → ∃ b o, a = some ⟨b, o, none⟩ ∧ b < w.heap.size ∧ ∀ i, i < n → ∀ j, j < 4 → w.cell? ⟨b, o + i * 4 + j, none⟩ = some (C i j)) := h3
  clear h3
  obtain ⟨ka, kc, rfl, krd, _, _⟩ := rk
  have krg := krd.rng
  obtain ⟨kn, hkn0⟩ : ∃ kn, kn = ks.length := ⟨_, rfl⟩
  rw [← hkn0] at krd ⊢
  clear hkn0
  go_enter Tryz.func67, Tryz.ntmps67
  go_wp2
  generalize hW : w.alloc _ = W
  have HW : Hid (Below w.heap.size w W ∧ Ext w W) := by rw [← hW]; exact ⟨hB _ _, hE _ _⟩
  have hq : W.cell? ⟨w.heap.size, 1, none⟩ = some (.slice a n cap) := by rw [← hW]; exact (at_block (heap_alloc_new w _) 1 _ rfl).1
  clear hW
  go_loopw [5] (fun i wr => ∃ k q : Nat, k ≤ n ∧ i = .int .i64 k ∧ wr = W.drewN q ∧ Hid (∀ i s, i < k → ss[i]? = some s → (fun s => decide (s.key = ks)) s = false)) (fun i _ => n - (intOf i).toNat)
  case atStart => exact ⟨0, 0, Nat.zero_le _, rfl, rfl, fun i s hi => absurd hi (by omega)⟩
  case round =>
    obtain ⟨k, q, hk, rfl, rfl, hall⟩ := hrel
    by_cases hlt : k < n
    · obtain ⟨b, o, rfl, hbl, hc⟩ := H3.out (by omega)
      obtain ⟨s, hs⟩ : ∃ s, ss[k]? = some s := ⟨_, List.getElem?_eq_getElem (by have := HN.out; omega)⟩
      obtain ⟨e0, e1, e2, e3⟩ := HC.out k s hs
      have c0 := World.grownBy.cell HW.out.2 (hc k hlt 0 (by omega)) (by simp)
      obtain ⟨sa, sc, se, srd, _, _⟩ := e0
      rw [Nat.add_zero, se] at c0
      have HS : Hid (((strOfNums s.key).toList == (strOfNums ks).toList) = decide (s.key = ks)) := str_eq s.key ks srd.rng krg
      have hcv := fun q => convR (w := W.drewN q) ((srd.grown HW.out.2).grown (ext_drewN W q)) sc
      have hcu := fun q => convR (w := W.drewN q) ((krd.grown HW.out.2).grown (ext_drewN W q)) kc
      generalize s.key.length = sn at c0 hcv
      have hlt' : (k : Int) < (n : Int) := by omega
      clear hc
      by_cases hid : s.key = ks
      · have HK : Hid (fnd (fun s => decide (s.key = ks)) ss = (k : Int)) := fnd_at hall.out hs (decide_eq_true hid)
        have hse : ((strOfNums s.key).toList == (strOfNums ks).toList) = true := by rw [HS.out]; exact decide_eq_true hid
        clear hall hid
        go_wp2
        go_quiet (fail)
        go_wp2
        go_ret
        exact ⟨by rw [HK.out]; rfl, below_drewN (below_drewN HW.out.1 _) _⟩
      · have HA : Hid (∀ i s, i < k + 1 → ss[i]? = some s → (fun s => decide (s.key = ks)) s = false) := fun i s' hi hs' => by
          by_cases e : i = k
          · subst e
            rw [hs] at hs'
            cases hs'
            exact decide_eq_false hid
          · exact hall.out i s' (by omega) hs'
        have hse : ((strOfNums s.key).toList == (strOfNums ks).toList) = false := by rw [HS.out]; exact decide_eq_false hid
        clear hall hid
        go_wp2
        go_quiet (fail)
        go_wp2
        go_roundw
        case rel => exact ⟨k + 1, q + nq, by omega, by go_num, rfl, HA⟩
        case measure => simp [intOf]; omega
    · have hkn : k = n := by omega
      subst hkn
      have HK : Hid (fnd (fun s => decide (s.key = ks)) ss = -1) := fnd_none (fun i s hs => hall.out i s (by have := (List.getElem?_eq_some_iff.1 hs).1; have := HN.out; omega) hs)
      clear hall
      go_wp2
      go_ret
      exact ⟨by rw [HK.out]; rfl, below_drewN HW.out.1 _⟩

set_option maxHeartbeats 2000000 in
theorem sl2tombV (x0 x1 v x3 x4 x5 : Value) (ss : List DTomb) (kv : Value) (ks : List Int) (w : World) (h : VTombs w v ss) (rk : RV w kv ks) :
    Calls Tryz.prog 68 #[.agg #[x0, x1, v, x3, x4, x5], kv] w fun e w' => e = .returned (.int .i64 (fnd (fun s => decide (s.key = ks)) ss)) ∧ Below w.heap.size w w' := by
  have hE : ∀ w : World, ∀ o, Ext w (w.alloc o) := fun w o => World.grownBy_alloc _ _ _
  have hB : ∀ w : World, ∀ o, Below w.heap.size w (w.alloc o) := fun w o => (Below.refl _ w).alloc (Nat.le_refl _) _
  obtain ⟨C, ⟨a, cap, rfl, h1, h2, h3⟩, hC⟩ := h
  have HC : Hid (∀ i r, ss[i]? = some r → RV w (C i 0) r.key ∧ C i 1 = .int .i64 r.index) := hC
  clear hC
  obtain ⟨n, hnn⟩ : ∃ n, n = ss.length := ⟨_, rfl⟩
  rw [← hnn] at h1 h3 ⊢
  have HN : Hid (n = ss.length) := hnn
  clear hnn
  unfold maxLen at h2
  have H3 : Hid (0 < n → ∃ b o, a = some ⟨b, o, none⟩ ∧ b < w.heap.size ∧ ∀ i, i < n → ∀ j, j < 2 → w.cell? ⟨b, o + i * 2 + j, none⟩ = some (C i j)) := h3
  clear h3
  obtain ⟨ka, kc, rfl, krd, _, _⟩ := rk
  have krg := krd.rng
  obtain ⟨kn, hkn0⟩ : ∃ kn, kn = ks.length := ⟨_, rfl⟩
  rw [← hkn0] at krd ⊢
  clear hkn0
  go_enter Tryz.func68, Tryz.ntmps68
  go_wp2
  generalize hW : w.alloc _ = W
  have HW : Hid (Below w.heap.size w W ∧ Ext w W) := by rw [← hW]; exact ⟨hB _ _, hE _ _⟩
  have hq : W.cell? ⟨w.heap.size, 2, none⟩ = some (.slice a n cap) := by rw [← hW]; exact (at_block (heap_alloc_new w _) 2 _ rfl).1
  clear hW
  go_loopw [5] (fun i wr => ∃ k q : Nat, k ≤ n ∧ i = .int .i64 k ∧ wr = W.drewN q ∧ Hid (∀ i s, i < k → ss[i]? = some s → (fun s => decide (s.key = ks)) s = false)) (fun i _ => n - (intOf i).toNat)
  case atStart => exact ⟨0, 0, Nat.zero_le _, rfl, rfl, fun i s hi => absurd hi (by omega)⟩
  case round =>
    obtain ⟨k, q, hk, rfl, rfl, hall⟩ := hrel
    by_cases hlt : k < n
    · obtain ⟨b, o, rfl, hbl, hc⟩ := H3.out (by omega)
      obtain ⟨s, hs⟩ : ∃ s, ss[k]? = some s := ⟨_, List.getElem?_eq_getElem (by have := HN.out; omega)⟩
      obtain ⟨e0, e1⟩ := HC.out k s hs
      have c0 := World.grownBy.cell HW.out.2 (hc k hlt 0 (by omega)) (by simp)
      obtain ⟨sa, sc, se, srd, _, _⟩ := e0
      rw [Nat.add_zero, se] at c0
      have HS : Hid (((strOfNums s.key).toList == (strOfNums ks).toList) = decide (s.key = ks)) := str_eq s.key ks srd.rng krg
      have hcv := fun q => convR (w := W.drewN q) ((srd.grown HW.out.2).grown (ext_drewN W q)) sc
      have hcu := fun q => convR (w := W.drewN q) ((krd.grown HW.out.2).grown (ext_drewN W q)) kc
      generalize s.key.length = sn at c0 hcv
      have hlt' : (k : Int) < (n : Int) := by omega
      clear hc
      by_cases hid : s.key = ks
      · have HK : Hid (fnd (fun s => decide (s.key = ks)) ss = (k : Int)) := fnd_at hall.out hs (decide_eq_true hid)
        have hse : ((strOfNums s.key).toList == (strOfNums ks).toList) = true := by rw [HS.out]; exact decide_eq_true hid
        clear hall hid
        go_wp2
        go_quiet (fail)
        go_wp2
        go_ret
        exact ⟨by rw [HK.out]; rfl, below_drewN (below_drewN HW.out.1 _) _⟩
      · have HA : Hid (∀ i s, i < k + 1 → ss[i]? = some s → (fun s => decide (s.key = ks)) s = false) := fun i s' hi hs' => by
          by_cases e : i = k
          · subst e
            rw [hs] at hs'
            cases hs'
            exact decide_eq_false hid
          · exact hall.out i s' (by omega) hs'
        have hse : ((strOfNums s.key).toList == (strOfNums ks).toList) = false := by rw [HS.out]; exact decide_eq_false hid
        clear hall hid
        go_wp2
        go_quiet (fail)
        go_wp2
        go_roundw
        case rel => exact ⟨k + 1, q + nq, by omega, by go_num, rfl, HA⟩
        case measure => simp [intOf]; omega
    · have hkn : k = n := by omega
      subst hkn
      have HK : Hid (fnd (fun s => decide (s.key = ks)) ss = -1) := fnd_none (fun i s hs => hall.out i s (by have := (List.getElem?_eq_some_iff.1 hs).1; have := HN.out; omega) hs)
      clear hall
      go_wp2
      go_ret
      exact ⟨by rw [HK.out]; rfl, below_drewN HW.out.1 _⟩

end Go.Proofs.YtnklnhnjmikooaaGreat
