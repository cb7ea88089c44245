
/- What is said of a member leaves a table: plain. -/
import Derived.Test.YtmodliaieienfaaMs8a
namespace Go.Proofs.Ytmodliaieienfaa
open Go.RowKit

theorem memB_iff {m : DMem} : memB m = true ↔ 0 ≤ m.id ∧ m.id < 12 ∧ 0 ≤ m.st ∧ m.st ≤ 3 ∧ 0 ≤ m.life ∧ m.life ≤ 1000 := by
  simp only [memB, Bool.and_eq_true, decide_eq_true_eq]
  omega
theorem ownB_iff {m : DMem} : ownB m = true ↔ m.st = 0 ∨ m.st = 3 ∨ m.life = 1000 := by
  simp only [ownB, Bool.or_eq_true, decide_eq_true_eq]
  omega
theorem beatsB_iff {a b : DMem} : beatsB a b = true ↔ a.id = b.id ∧ (b.life < a.life ∨ (a.life = b.life ∧ b.st < a.st)) := by
  simp only [beatsB, Bool.and_eq_true, Bool.or_eq_true, decide_eq_true_eq]
/-- Names that ascend, from 0 on, are at least as great as their places. -/
theorem asc_ge {ls : List DMem} (h : AscM ls) (h0 : ∀ t ∈ ls, 0 ≤ t.id) : ∀ (i : Nat) (t : DMem), ls[i]? = some t → (i : Int) ≤ t.id := by
  intro i
  induction i with
  | zero => intro t ht; exact h0 t (List.mem_of_getElem? ht)
  | succ i ih =>
    intro t ht
    have hl := (List.getElem?_eq_some_iff.1 ht).1
    obtain ⟨p, hp⟩ : ∃ p, ls[i]? = some p := ⟨_, List.getElem?_eq_getElem (by omega)⟩
    have h1 := ih p hp
    have h2 := h i (i + 1) p t (by omega) hp ht
    omega
theorem asc_len {ls : List DMem} (h : AscM ls) (hm : ∀ t ∈ ls, memB t = true) : ls.length ≤ 12 := by
  rcases Nat.lt_or_ge 12 ls.length with h1 | h1
  · obtain ⟨t, ht⟩ : ∃ t, ls[12]? = some t := ⟨_, List.getElem?_eq_getElem h1⟩
    have h2 := asc_ge h (fun t ht => (memB_iff.1 (hm t ht)).1) 12 t ht
    have h3 := memB_iff.1 (hm t (List.mem_of_getElem? ht))
    omega
  · exact h1
theorem tab_mem {T : DTab} (h : TabP T) : ∀ t ∈ T.mems, memB t = true := fun t ht => by
  obtain ⟨i, hi⟩ := List.getElem?_of_mem ht
  exact (h.2.1 i (List.getElem?_eq_some_iff.1 hi).1 t hi).1
theorem tab_asc {T : DTab} (h : TabP T) : AscM T.mems := ascM_of h.2.1
theorem tab_of {T : DTab} (hm : ∀ t ∈ T.mems, memB t = true) (ha : AscM T.mems) (ho : ∃ (i : Nat) (t : DMem), T.mems[i]? = some t ∧ t.id = T.self ∧ ownB t = true) : TabP T := by
  refine ⟨asc_len ha hm, fun i hi t ht => ⟨hm t (List.mem_of_getElem? ht), fun p h0 hp => ha (i - 1) i p t (by omega) hp ht⟩, ?_⟩
  obtain ⟨i, t, ht, he, hw⟩ := ho
  exact ⟨i, t, ht, he, fun j u hj hu e => by have := ha j i u t hj hu ht; omega, hw⟩
/-- A member of the same name in its place. -/
theorem asc_set {ls : List DMem} (h : AscM ls) {i : Nat} {t x : DMem} (ht : ls[i]? = some t) (hx : x.id = t.id) : AscM (ls.set i x) := by
  have key : ∀ (j : Nat) (a : DMem), (ls.set i x)[j]? = some a → ∃ b, ls[j]? = some b ∧ b.id = a.id := by
    intro j a ha
    rw [List.getElem?_set] at ha
    split at ha
    · rename_i e
      subst e
      split at ha
      · cases ha; exact ⟨t, ht, hx.symm⟩
      · cases ha
    · exact ⟨a, ha, rfl⟩
  intro j k a b hjk ha hb
  obtain ⟨a', ha', ea⟩ := key j a ha
  obtain ⟨b', hb', eb⟩ := key k b hb
  have := h j k a' b' hjk ha' hb'
  omega
theorem mem_set' {ls : List DMem} {i : Nat} {x y : DMem} (h : y ∈ ls.set i x) : y ∈ ls ∨ y = x := List.mem_or_eq_of_mem_set h
theorem tab_set {T : DTab} (h : TabP T) {i : Nat} {t x : DMem} (ht : T.mems[i]? = some t) (hx : x.id = t.id) (hm : memB x = true) (ho : x.id = T.self → ownB x = true) : TabP ⟨T.self, T.mems.set i x⟩ := by
  refine tab_of (fun y hy => ?_) (asc_set (tab_asc h) ht hx) ?_
  · rcases mem_set' hy with h1 | rfl
    · exact tab_mem h y h1
    · exact hm
  · obtain ⟨j, u, hu, he, _, hw⟩ := h.2.2
    by_cases e : i = j
    · subst e
      rw [ht] at hu
      cases hu
      exact ⟨i, x, by rw [List.getElem?_set_self (List.getElem?_eq_some_iff.1 ht).1], by show x.id = T.self; omega, ho (by omega)⟩
    · exact ⟨j, u, by rw [List.getElem?_set_ne e]; exact hu, he, hw⟩
theorem insK_le (ts : List DMem) (id : Int) : insK ts id ≤ ts.length := by
  unfold insK
  exact List.Sublist.length_le (List.takeWhile_sublist _)
theorem insK_lo {ts : List DMem} {id : Int} (j : Nat) (u : DMem) (hj : j < insK ts id) (hu : ts[j]? = some u) : u.id < id := by
  induction ts generalizing j with
  | nil => simp at hu
  | cons t ts ih =>
    unfold insK at hj
    rw [List.takeWhile_cons] at hj
    by_cases h : t.id < id
    · rw [if_pos (by simpa using h), List.length_cons] at hj
      match j, hu with
      | 0, hu => simp at hu; subst hu; exact h
      | j + 1, hu => exact ih j (by unfold insK; omega) (by simpa using hu)
    · rw [if_neg (by simpa using h)] at hj
      simp at hj
theorem insK_hi {ts : List DMem} {id : Int} (u : DMem) (hu : ts[insK ts id]? = some u) : ¬ u.id < id := by
  induction ts with
  | nil => simp at hu
  | cons t ts ih =>
    unfold insK at hu
    rw [List.takeWhile_cons] at hu
    by_cases h : t.id < id
    · rw [if_pos (by simpa using h), List.length_cons, List.getElem?_cons_succ] at hu
      exact ih hu
    · rw [if_neg (by simpa using h)] at hu
      simp at hu
      subst hu
      exact h
/-- The list with the member at its place, cell by cell. -/
theorem ins_get {ts : List DMem} {m : DMem} {k : Nat} (hk : k ≤ ts.length) (j : Nat) : (ts.take k ++ [m] ++ ts.drop k)[j]? = if j < k then ts[j]? else if j = k then some m else ts[j - 1]? := by
  have hl : (ts.take k).length = k := by rw [List.length_take]; omega
  by_cases h1 : j < k
  · rw [if_pos h1, List.append_assoc, List.getElem?_append_left (by omega), List.getElem?_take, if_pos h1]
  · rw [if_neg h1]
    by_cases h2 : j = k
    · subst h2
      rw [if_pos rfl, List.append_assoc, List.getElem?_append_right (by omega), hl]
      simp
    · rw [if_neg h2, List.getElem?_append_right (by simp; omega), List.getElem?_drop]
      congr 1
      simp
      omega
theorem asc_ins {ts : List DMem} (h : AscM ts) {m : DMem} (hp : placeM ts m.id = -1) : AscM (ts.take (insK ts m.id) ++ [m] ++ ts.drop (insK ts m.id)) := by
  have hk := insK_le ts m.id
  have hno : ∀ (i : Nat) (t : DMem), ts[i]? = some t → t.id ≠ m.id := by
    rcases placeM_cases ts m.id with ⟨_, h1⟩ | ⟨i, _, _, _, _, h1⟩
    · exact h1
    · omega
  have hhi : ∀ (j : Nat) (u : DMem), insK ts m.id ≤ j → ts[j]? = some u → m.id < u.id := by
    intro j u hj hu
    have hl := (List.getElem?_eq_some_iff.1 hu).1
    obtain ⟨v, hv⟩ : ∃ v, ts[insK ts m.id]? = some v := ⟨_, List.getElem?_eq_getElem (by omega)⟩
    have h1 := insK_hi v hv
    have h2 := hno _ v hv
    rcases Nat.lt_or_ge (insK ts m.id) j with h3 | h3
    · have := h _ j v u h3 hv hu
      omega
    · have e : j = insK ts m.id := by omega
      subst e
      rw [hu] at hv
      cases hv
      omega
  intro i j a b hij ha hb
  rw [ins_get hk] at ha hb
  split at ha
  · rename_i h1
    split at hb
    · exact h i j a b hij ha hb
    · split at hb
      · cases hb; exact insK_lo i a h1 ha
      · exact h i (j - 1) a b (by omega) ha hb
  · split at ha
    · cases ha
      rw [if_neg (by omega), if_neg (by omega)] at hb
      exact hhi (j - 1) b (by omega) hb
    · rw [if_neg (by omega), if_neg (by omega)] at hb
      exact h (i - 1) (j - 1) a b (by omega) ha hb
theorem tab_ins {T : DTab} (h : TabP T) {m : DMem} (hm : memB m = true) (hp : placeM T.mems m.id = -1) : TabP (insD T m) := by
  refine tab_of (fun y hy => ?_) (asc_ins (tab_asc h) hp) ?_
  · rcases List.mem_append.1 hy with h1 | h1
    · rcases List.mem_append.1 h1 with h2 | h2
      · exact tab_mem h y (List.mem_of_mem_take h2)
      · simp at h2; subst h2; exact hm
    · exact tab_mem h y (List.mem_of_mem_drop h1)
  · obtain ⟨j, u, hu, he, _, hw⟩ := h.2.2
    have hk := insK_le T.mems m.id
    by_cases hj : j < insK T.mems m.id
    · exact ⟨j, u, by show (_ ++ _ ++ _)[j]? = _; rw [ins_get hk, if_pos hj]; exact hu, he, hw⟩
    · exact ⟨j + 1, u, by show (_ ++ _ ++ _)[j + 1]? = _; rw [ins_get hk, if_neg (by omega), if_neg (by omega)]; exact hu, he, hw⟩
/-- What is said of a member that is there, in a table. -/
theorem over_own {T : DTab} (h : TabP T) {i : Nat} {t : DMem} (ht : T.mems[i]? = some t) (he : t.id = T.self) : ownB t = true := by
  obtain ⟨j, u, hu, hs, _, hw⟩ := h.2.2
  have : j = i := by
    rcases Nat.lt_trichotomy i j with h1 | h1 | h1
    · have := tab_asc h i j t u h1 ht hu; omega
    · exact h1.symm
    · have := tab_asc h j i u t h1 hu ht; omega
  subst this
  rw [ht] at hu
  cases hu
  exact hw
theorem tab_over {T : DTab} (h : TabP T) {m t : DMem} (hm : memB m = true) {i : Nat} (ht : T.mems[i]? = some t) : TabP (overD T m t i).1 := by
  have htm := tab_mem h t (List.mem_of_getElem? ht)
  unfold overD
  by_cases h1 : beatsB m t = false
  · rw [if_pos h1]; exact h
  rw [if_neg h1]
  have hb := beatsB_iff.1 (by simpa using h1)
  have hm' := memB_iff.1 hm
  have ht' := memB_iff.1 htm
  by_cases h2 : m.id = T.self ∧ t.st = 0 ∧ m.st ≠ 0 ∧ m.life < 1000
  · rw [if_pos h2]
    exact tab_set h ht rfl (memB_iff.2 ⟨ht'.1, ht'.2.1, ht'.2.2.1, ht'.2.2.2.1, by show 0 ≤ m.life + 1; omega, by show m.life + 1 ≤ 1000; omega⟩) (fun _ => ownB_iff.2 (.inl h2.2.1))
  rw [if_neg h2]
  by_cases h3 : m.id = T.self ∧ t.st = 3 ∧ m.life < 1000
  · rw [if_pos h3]
    exact tab_set h ht rfl (memB_iff.2 ⟨ht'.1, ht'.2.1, ht'.2.2.1, ht'.2.2.2.1, by show 0 ≤ m.life; omega, by show m.life ≤ 1000; omega⟩) (fun _ => ownB_iff.2 (.inr (.inl h3.2.1)))
  rw [if_neg h3]
  refine tab_set h ht hb.1 hm (fun e => ownB_iff.2 ?_)
  have ho := ownB_iff.1 (over_own h ht (by omega))
  omega
theorem sayD_self (T : DTab) (m : DMem) : (sayD T m).1.self = T.self := by
  unfold sayD
  split
  · rfl
  · split
    · unfold overD
      split
      · rfl
      · split
        · rfl
        · split <;> rfl
    · rfl
theorem tab_say {T : DTab} (h : TabP T) {m : DMem} (hm : memB m = true) : TabP (sayD T m).1 := by
  rcases placeM_cases T.mems m.id with ⟨hp, _⟩ | ⟨i, t, ht, _, _, hp⟩
  · rw [sayD_none hp]; exact tab_ins h hm hp
  · rw [sayD_some hp ht]; exact tab_over h hm ht

/-- What a table's own member becomes behind what is newer. -/
def afterD (t s : DMem) : DMem := if s.life = 1000 then s else if t.st = 3 then ⟨t.id, t.st, s.life⟩ else if s.st ≠ 0 then ⟨t.id, t.st, s.life + 1⟩ else s
/-- What the program lays in the place of a member that is there and is beaten. -/
def hearD (self : Int) (t m : DMem) : DMem := if m.id = self then afterD t m else m
theorem over_hear {T : DTab} (h : TabP T) {m t : DMem} (hm : memB m = true) {i : Nat} (ht : T.mems[i]? = some t) (hb : beatsB m t = true) : overD T m t i = (⟨T.self, T.mems.set i (hearD T.self t m)⟩, true) ∧ hearD T.self t m ≠ t := by
  have hb' := beatsB_iff.1 hb
  have hm' := memB_iff.1 hm
  have ht' := memB_iff.1 (tab_mem h t (List.mem_of_getElem? ht))
  unfold overD
  rw [if_neg (by rw [hb]; decide)]
  by_cases e : m.id = T.self
  · have ho := ownB_iff.1 (over_own h ht (by omega))
    have hh : hearD T.self t m = afterD t m := if_pos e
    rw [hh]
    unfold afterD
    by_cases h1 : m.life = 1000
    · rw [if_pos h1, if_neg (fun h => by omega), if_neg (fun h => by omega)]
      exact ⟨rfl, fun e => by subst e; omega⟩
    rw [if_neg h1]
    by_cases h2 : t.st = 3
    · rw [if_pos h2, if_neg (fun h => by omega), if_pos ⟨e, h2, by omega⟩]
      exact ⟨rfl, fun e => by have := congrArg DMem.life e; simp only at this; omega⟩
    rw [if_neg h2]
    by_cases h3 : m.st = 0
    · rw [if_neg (by omega), if_neg (fun h => by omega), if_neg (fun h => by omega)]
      exact ⟨rfl, fun e => by subst e; omega⟩
    · rw [if_pos h3, if_pos ⟨e, by omega, h3, by omega⟩]
      exact ⟨rfl, fun e => by have := congrArg DMem.life e; simp only at this; omega⟩
  · have hh : hearD T.self t m = m := if_neg e
    rw [hh, if_neg (fun h => e h.1), if_neg (fun h => e h.1)]
    exact ⟨rfl, fun e => by subst e; omega⟩
theorem hearD_id {self : Int} {t m : DMem} (hb : beatsB m t = true) : (hearD self t m).id = t.id := by
  have hb' := beatsB_iff.1 hb
  unfold hearD afterD
  split
  · split
    · exact hb'.1
    · split
      · rfl
      · split
        · rfl
        · exact hb'.1
  · exact hb'.1

/-- What hearing a member leaves. -/
def heardD (T : DTab) (m : DMem) (h : Decidable (TabP T) := Classical.propDecidable (TabP T)) : DTab × Bool :=
  @ite _ (TabP T) h (if memB m = true then sayD T m else (⟨0, []⟩, false)) (⟨0, []⟩, false)
theorem heardD_no {T : DTab} {m : DMem} (h : ¬ TabP T) : heardD T m = (⟨0, []⟩, false) := by unfold heardD; exact if_neg h
theorem heardD_bad {T : DTab} {m : DMem} (h : memB m = false) : heardD T m = (⟨0, []⟩, false) := by
  unfold heardD
  split
  · rw [if_neg (by rw [h]; decide)]
  · rfl
theorem heardD_yes {T : DTab} {m : DMem} (h : TabP T) (hm : memB m = true) : heardD T m = sayD T m := by
  unfold heardD
  rw [if_pos h, if_pos hm]
theorem heardD_len (T : DTab) (m : DMem) (_hl : T.mems.length ≤ 1048576) : (heardD T m).1.mems.length ≤ 1048576 := by
  by_cases h : TabP T
  · cases hm : memB m
    · rw [heardD_bad hm]; simp
    · rw [heardD_yes h hm]
      have := (tab_say h hm).1
      omega
  · rw [heardD_no h]; simp

/-- One member more is said. -/
def stepD (a : DTab × Bool) (m : DMem) : DTab × Bool := ((sayD a.1 m).1, a.2 || (sayD a.1 m).2)
/-- The first k members of a list are said, one behind the other. -/
def foldD (T : DTab) (ms : List DMem) (k : Nat) : DTab × Bool := (ms.take k).foldl stepD (T, false)
theorem foldD_zero (T : DTab) (ms : List DMem) : foldD T ms 0 = (T, false) := by simp [foldD]
theorem foldD_succ {T : DTab} {ms : List DMem} {k : Nat} {m : DMem} (h : ms[k]? = some m) : foldD T ms (k + 1) = stepD (foldD T ms k) m := by
  unfold foldD
  rw [List.take_add_one, h, List.foldl_append]
  rfl
theorem foldD_self (T : DTab) (ms : List DMem) : ∀ k, (foldD T ms k).1.self = T.self
  | 0 => by rw [foldD_zero]
  | k + 1 => by
    cases h : ms[k]? with
    | none =>
      have : foldD T ms (k + 1) = foldD T ms k := by unfold foldD; rw [List.take_add_one, h]; simp
      rw [this]; exact foldD_self T ms k
    | some m =>
      rw [foldD_succ h]
      show (sayD _ m).1.self = _
      rw [sayD_self]; exact foldD_self T ms k
theorem foldD_tab {T : DTab} (h : TabP T) {ms : List DMem} (hm : ∀ t ∈ ms, memB t = true) : ∀ k, TabP (foldD T ms k).1
  | 0 => by rw [foldD_zero]; exact h
  | k + 1 => by
    cases hk : ms[k]? with
    | none =>
      have : foldD T ms (k + 1) = foldD T ms k := by unfold foldD; rw [List.take_add_one, hk]; simp
      rw [this]; exact foldD_tab h hm k
    | some m =>
      rw [foldD_succ hk]
      exact tab_say (foldD_tab h hm k) (hm m (List.mem_of_getElem? hk))
/-- What taking all of another table leaves. -/
def mergeD (T O : DTab) (h : Decidable (TabP T ∧ TabP O) := Classical.propDecidable (TabP T ∧ TabP O)) : DTab × Bool :=
  @ite _ (TabP T ∧ TabP O) h (foldD T O.mems O.mems.length) (⟨0, []⟩, false)
theorem mergeD_no {T O : DTab} (h : ¬ (TabP T ∧ TabP O)) : mergeD T O = (⟨0, []⟩, false) := by unfold mergeD; exact if_neg h
theorem mergeD_yes {T O : DTab} (h : TabP T ∧ TabP O) : mergeD T O = foldD T O.mems O.mems.length := by unfold mergeD; exact if_pos h
theorem mergeD_len (T O : DTab) : (mergeD T O).1.mems.length ≤ 1048576 := by
  by_cases h : TabP T ∧ TabP O
  · rw [mergeD_yes h]
    have := (foldD_tab h.1 (tab_mem h.2) O.mems.length).1
    omega
  · rw [mergeD_no h]; simp

end Go.Proofs.Ytmodliaieienfaa
