/- Keys of a tree ascend: plain. -/
import Derived.Test.YtdeogmkcomdbjaaTn0
import Derived.Test.YtdeogmkcomdbjaaCom0
namespace Go.Proofs.Ytdeogmkcomdbjaa
open Go.RowKit

def b8 (xs : List Int) : List UInt8 := xs.map fun n => UInt8.ofNat n.toNat
theorem ltK_eq (xs ys : List Int) : ltK xs ys = Op.bytesLess (b8 xs) (b8 ys) := by
  rw [ltK, ByteArray.toList_eq, ByteArray.toList_eq]; rfl
theorem bl_app : ∀ (p a b : List UInt8), Op.bytesLess (p ++ a) (p ++ b) = Op.bytesLess a b
  | [], _, _ => rfl
  | x :: p, a, b => by
    show (decide (x < x) || (x == x && Op.bytesLess (p ++ a) (p ++ b))) = _
    rw [bl_app p a b]
    simp [UInt8.lt_irrefl]
theorem bl_trans : ∀ (a b c : List UInt8), Op.bytesLess a b = true → Op.bytesLess b c = true → Op.bytesLess a c = true
  | _, [], _ => fun h => by simp [Op.bytesLess] at h
  | _, _ :: _, [] => fun _ h => by simp [Op.bytesLess] at h
  | [], _ :: _, _ :: _ => fun _ _ => by simp [Op.bytesLess]
  | x :: a, y :: b, z :: c => fun h1 h2 => by
    simp only [Op.bytesLess, Bool.or_eq_true, Bool.and_eq_true, decide_eq_true_eq, beq_iff_eq] at h1 h2 ⊢
    rcases h1 with h1 | ⟨rfl, h1⟩
    · rcases h2 with h2 | ⟨rfl, h2⟩
      · exact .inl (UInt8.lt_trans h1 h2)
      · exact .inl h1
    · rcases h2 with h2 | ⟨rfl, h2⟩
      · exact .inl h2
      · exact .inr ⟨rfl, bl_trans a b c h1 h2⟩
theorem bl_irr : ∀ a : List UInt8, Op.bytesLess a a = false
  | [] => rfl
  | x :: a => by simp [Op.bytesLess, bl_irr a, UInt8.lt_irrefl]
theorem ltK_app (p a b : List Int) : ltK (p ++ a) (p ++ b) = ltK a b := by
  rw [ltK_eq, ltK_eq]
  unfold b8
  rw [List.map_append, List.map_append, bl_app]
theorem ltK_trans {a b c : List Int} (h1 : ltK a b = true) (h2 : ltK b c = true) : ltK a c = true := by
  rw [ltK_eq] at *
  exact bl_trans _ _ _ h1 h2
theorem ltK_irr (a : List Int) : ltK a a = false := by rw [ltK_eq]; exact bl_irr _
theorem ltK_nil (y : Int) (b : List Int) : ltK [] (y :: b) = true := by rw [ltK_eq]; rfl
theorem ltK_to_nil (a : List Int) : ltK a [] = false := by rw [ltK_eq]; simp [b8, Op.bytesLess]
theorem ltK_hd {x y : Int} (a b : List Int) (hx : 0 ≤ x) (hxy : x < y) (hy : y ≤ 255) : ltK (x :: a) (y :: b) = true := by
  rw [ltK_eq]
  simp only [b8, List.map_cons, Op.bytesLess, Bool.or_eq_true, decide_eq_true_eq]
  left
  rw [UInt8.lt_iff_toNat_lt, UInt8.toNat_ofNat', UInt8.toNat_ofNat']
  omega

/-- Each key begins with the way to the tree. -/
theorem keys_begin : ∀ (d : Nat) (t : DTree d) (ah x : List Int), x ∈ keysTD d t ah → ∃ r, x = ah ++ edTD d t ++ r
  | 0, _, _, _, h => by cases h
  | d + 1, (e, h, x0, n, kid), ah, x, hx => by
    simp only [keysTD] at hx
    rcases List.mem_append.1 hx with hx | hx
    · cases h
      · simp at hx
      · simp only [if_true, List.mem_singleton] at hx
        exact ⟨[], by rw [hx, List.append_nil]; rfl⟩
    · have : ∀ m, x ∈ flatN m (fun i => keysTD d (kid i) (ah ++ e)) → ∃ r, x = ah ++ e ++ r := by
        intro m
        induction m with
        | zero => intro h; cases h
        | succ m ih =>
          intro h
          rcases List.mem_append.1 h with h | h
          · exact ih h
          · obtain ⟨r, hr⟩ := keys_begin d (kid m) (ah ++ e) x h
            exact ⟨edTD d (kid m) ++ r, by rw [hr, List.append_assoc]⟩
      exact this n hx
theorem flat_mem {α : Type} {f : Nat → List α} {x : α} : ∀ {n : Nat}, x ∈ flatN n f → ∃ i, i < n ∧ x ∈ f i
  | 0, h => by cases h
  | n + 1, h => by
    rcases List.mem_append.1 h with h | h
    · obtain ⟨i, hi, hx⟩ := flat_mem h
      exact ⟨i, by omega, hx⟩
    · exact ⟨n, by omega, h⟩
theorem asc_of {f : Nat → Int} {n : Nat} (h : ∀ i, i + 1 < n → f i < f (i + 1)) : ∀ j i, i < j → j < n → f i < f j
  | 0, _, hi, _ => absurd hi (Nat.not_lt_zero _)
  | j + 1, i, hi, hj => by
    by_cases e : i = j
    · subst e; exact h i hj
    · have h1 := asc_of h j i (by omega) (by omega)
      have h2 := h j hj
      omega
theorem edge_rng {w : World} : ∀ (d : Nat) (t : DTree d) (v : Value), VTreeD w d t v → ∀ c ∈ edTD d t, 0 ≤ c ∧ c ≤ 255
  | 0, _, _, ht => False.elim ht
  | d + 1, (e, h, x, n, kid), v, ht => by
    obtain ⟨ev, kv, hv, ⟨_, _, _, hr, _⟩, _⟩ := ht
    exact fun c hc => hr.rng c hc
/-- A tree's keys ascend. -/
theorem keys_asc {w : World} : ∀ (d : Nat) (t : DTree d) (v : Value) (ah : List Int), VTreeD w d t v → kidsGD d t → (keysTD d t ah).Pairwise (fun x y => ltK x y = true)
  | 0, _, _, _, ht, _ => False.elim ht
  | d + 1, (e, h, x0, n, kid), v, ah, ht, hk => by
    obtain ⟨ev, kv, hv, hev, C, _, hkid⟩ := ht
    obtain ⟨hk1, hk2⟩ := hk
    have hasc := asc_of hk2
    have ned : ∀ i, i < n → ∃ c r, edTD d (kid i) = c :: r ∧ c = fstT (kid i) ∧ 0 ≤ c ∧ c ≤ 255 := by
      intro i hi
      have ho := (hk1 i hi).1
      have hr := edge_rng d (kid i) _ (hkid i hi)
      cases hd : edTD d (kid i) with
      | nil =>
        exfalso
        match d, kid i, ho, hd with
        | 0, _, ho, _ => exact ho
        | d + 1, (e', h', x', n', kid'), ho, hd =>
          have h1 : e'.length ≠ 0 := ho.2.1 rfl
          have h2 : e' = [] := hd
          rw [h2] at h1
          exact h1 rfl
      | cons c r =>
        refine ⟨c, r, rfl, ?_, ?_⟩
        · show c = (edTD d (kid i)).getD 0 0
          rw [hd]; rfl
        · exact hr c (by rw [hd]; exact List.mem_cons_self ..)
    have kb : ∀ i, i < n → ∀ x ∈ keysTD d (kid i) (ah ++ e), ∃ c r, x = (ah ++ e) ++ c :: r ∧ c = fstT (kid i) ∧ 0 ≤ c ∧ c ≤ 255 := by
      intro i hi x hx
      obtain ⟨r, hr⟩ := keys_begin d (kid i) (ah ++ e) x hx
      obtain ⟨c, r', hc, h1, h2, h3⟩ := ned i hi
      exact ⟨c, r' ++ r, by rw [hr, hc, List.append_assoc]; rfl, h1, h2, h3⟩
    simp only [keysTD]
    rw [List.pairwise_append]
    refine ⟨?_, ?_, ?_⟩
    · cases h
      · exact List.Pairwise.nil
      · simp
    · have : ∀ m, m ≤ n → (flatN m (fun i => keysTD d (kid i) (ah ++ e))).Pairwise (fun x y => ltK x y = true) := by
        intro m
        induction m with
        | zero => intro _; exact List.Pairwise.nil
        | succ m ih =>
          intro hm
          simp only [flatN]
          rw [List.pairwise_append]
          refine ⟨ih (by omega), keys_asc d (kid m) _ (ah ++ e) (hkid m (by omega)) (hk1 m (by omega)).2, fun x hx y hy => ?_⟩
          obtain ⟨i, hi, hx⟩ := flat_mem hx
          obtain ⟨c, r, rfl, hc, h0, _⟩ := kb i (by omega) x hx
          obtain ⟨c', r', rfl, hc', _, h1⟩ := kb m (by omega) y hy
          rw [ltK_app]
          exact ltK_hd _ _ h0 (by rw [hc, hc']; exact hasc m i hi (by omega)) h1
      exact this n (Nat.le_refl _)
    · intro x hx y hy
      cases h
      · simp at hx
      · simp only [if_true, List.mem_singleton] at hx
        subst hx
        obtain ⟨i, hi, hy⟩ := flat_mem hy
        obtain ⟨c, r, rfl, _⟩ := kb i hi y hy
        have := ltK_app (ah ++ e) [] (c :: r)
        rw [List.append_nil] at this
        rw [this]
        exact ltK_nil _ _

end Go.Proofs.Ytdeogmkcomdbjaa
