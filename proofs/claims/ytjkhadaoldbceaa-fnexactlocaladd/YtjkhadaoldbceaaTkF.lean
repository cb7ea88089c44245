
/- One check of one service of a row that is owned: looked at, and turned. -/
import Derived.Test.YtjkhadaoldbceaaTkE
namespace Go.Proofs.Ytjkhadaoldbceaa
open Go.RowKit

/-- The cells of one service. -/
theorem svc_cells {S : Nat → Prop} {w : World} {sv : Value} {xs : List DSvc} (h : OW 54 2 ownV S w sv xs) {i : Nat} {s : DSvc} (hs : xs[i]? = some s) :
    ∃ g cap na nc ca cc, sv = .slice (some ⟨g, 0, none⟩) xs.length cap ∧ S g ∧ w.cell? ⟨g, i * 2, none⟩ = some (.slice na s.name.length nc) ∧ w.cell? ⟨g, i * 2 + 1, none⟩ = some (.slice ca s.checks.length cc) := by
  have hi := (List.getElem?_eq_some_iff.1 hs).1
  rcases h.cases with ⟨_, _, _, _, h0⟩ | ⟨g, cap, F, N, hv, hB⟩
  · rw [h0] at hi; simp at hi
  · obtain ⟨A, B, h1, h2, _⟩ := hB.own i s hs
    obtain ⟨na, nc, e0⟩ := rv_shape h1.rv
    obtain ⟨ca, cc, e1⟩ := chks_shape h2.v
    have q0 := hB.cell i 0 hi (by omega)
    have q1 := hB.cell i 1 hi (by omega)
    rw [Nat.add_zero, e0] at q0
    rw [e1] at q1
    exact ⟨g, cap, na, nc, ca, cc, hv, hB.at_, q0, q1⟩

/-- One check: where it stands, and what its turning leaves. -/
theorem chk_focus {S : Nat → Prop} {w : World} {sv : Value} {xs : List DSvc} (h : OW 54 2 ownV S w sv xs) {i j : Nat} {s : DSvc} {c : DChk} (hs : xs[i]? = some s) (hc : s.checks[j]? = some c) :
    ∃ g cap gi capi F nv, sv = .slice (some ⟨g, 0, none⟩) xs.length cap ∧ (S g ∧ S gi) ∧ w.cell? ⟨g, i * 2 + 1, none⟩ = some (.slice (some ⟨gi, 0, none⟩) s.checks.length capi) ∧ ElB gi capi s.checks.length j F nv c w ∧ RV w nv c.name ∧
      ∀ c' w', c'.name = c.name → ElB gi capi s.checks.length j F nv c' w' → w.grownBy w' (some gi) → OW 54 2 ownV S w' sv (xs.set i ⟨s.name, s.checks.set j c'⟩) ∧ Trn S w w' := by
  have hi := (List.getElem?_eq_some_iff.1 hs).1
  have hj := (List.getElem?_eq_some_iff.1 hc).1
  rcases h.cases with ⟨_, _, _, _, h0⟩ | ⟨g, cap, F, N, hv, hB⟩
  · rw [h0] at hi; simp at hi
  obtain ⟨A, B, h1, h2, h3, h4, h5⟩ := hB.own i s hs
  rcases (okd_iff.1 h2).cases with ⟨_, _, _, _, h0⟩ | ⟨gi, capi, Fi, Ni, hvi, hBi⟩
  · rw [h0] at hj; simp at hj
  obtain ⟨o0, o1, o2, o3, o4, o5⟩ := hBi.own j c hc
  have q1 := hB.cell i 1 hi (by omega)
  rw [hvi] at q1
  have hEl : ElB gi capi s.checks.length j Fi (Fi j 0) c w := ⟨⟨hj, hBi.le⟩, blk_congr hBi.blk fun a ha d hd => by
    by_cases e : a = j
    · subst e
      rw [updR_at]
      obtain rfl | rfl | rfl | rfl | rfl | rfl : d = 0 ∨ d = 1 ∨ d = 2 ∨ d = 3 ∨ d = 4 ∨ d = 5 := by omega
      · rfl
      · exact o1
      · exact o2
      · exact o3
      · exact o4
      · exact o5
    · rw [updR_ne _ _ _ e]⟩
  refine ⟨g, cap, gi, capi, Fi, Fi j 0, hv, ⟨hB.at_, (hB.rng i gi (h5 gi hBi.at_)).1⟩, q1, hEl, o0.rv, fun c' w' hn he hg => ?_⟩
  have t1 : Trn (fun b => b = gi) w w' := Trn.one hg (fun x e => by cases e; rfl)
  have p1 := hBi.put (G := elC (Fi j 0) c') (M := Ni j) (R := fun _ => False) (x := c') keepsC hj he.2 ⟨by rw [hn]; exact o0.keep t1 (fun b hb e => (hBi.rng j b hb).2 e), rfl, rfl, rfl, rfl, rfl⟩ (fun b hb => ⟨(hBi.rng j b hb).2, .inl hb⟩) (fun b hb => hb.elim) (t1.mono (fun b e => .inl e))
  have hl : (s.checks.set j c').length = s.checks.length := List.length_set
  have p2 : OKD B w' (F i 1) (s.checks.set j c') := okd_iff.2 (by
    have := (p1.mono (R := B) (fun b hb => hb.elim id False.elim)).ow
    rw [hl] at this
    rw [hvi]
    exact this)
  have t2 : Trn (fun b => b = g ∨ N i b) w w' := t1.mono (fun b e => .inr (by rw [e]; exact h5 gi hBi.at_))
  have hgne : g ≠ gi := fun e => (hB.rng i gi (h5 gi hBi.at_)).2 e.symm
  have hbS : Blk w' g 54 2 cap xs.length (updR F i (F i)) := blk_congr (blk_kept hB.blk (t1.block g (blk_lt hB.blk) hgne)) fun a _ d _ => by
    by_cases e : a = i
    · subst e; rw [updR_at]
    · rw [updR_ne _ _ _ e]
  have p3 := hB.put (G := F i) (M := N i) (R := fun _ => False) (x := (⟨s.name, s.checks.set j c'⟩ : DSvc)) keepsV hi hbS ⟨A, B, h1.keep t1 (fun b hb e => h3 b hb (by rw [e]; exact hBi.at_)), p2, h3, h4, h5⟩ (fun b hb => ⟨(hB.rng i b hb).2, .inl hb⟩) (fun b hb => hb.elim) t2
  have p4 := (p3.mono (R := S) (fun b hb => hb.elim id False.elim)).ow
  rw [List.length_set] at p4
  rw [hv]
  exact ⟨p4, t1.mono (fun b e => by rw [e]; exact (hB.rng i gi (h5 gi hBi.at_)).1)⟩

def tickS (n : Int) (s : DSvc) : DSvc := ⟨s.name, s.checks.map (fun c => (tickD c n).1)⟩
def cntC (n : Int) (cs : List DChk) : Nat := (cs.filter (fun c => (tickD c n).2)).length
def cntL (n : Int) (ss : List DSvc) : Nat := (ss.map (fun s => cntC n s.checks)).sum
/-- The first i services are ticked, and the first j checks of the next one. -/
def tkL (n : Int) (ss : List DSvc) (i j : Nat) : List DSvc := ss.mapIdx fun a s => if a < i then tickS n s else if a = i then ⟨s.name, s.checks.mapIdx fun b c => if b < j then (tickD c n).1 else c⟩ else s
theorem tkL_len (n : Int) (ss : List DSvc) (i j : Nat) : (tkL n ss i j).length = ss.length := by unfold tkL; simp
theorem tkL_get {n : Int} {ss : List DSvc} {i j a : Nat} {s : DSvc} (h : ss[a]? = some s) : (tkL n ss i j)[a]? = some (if a < i then tickS n s else if a = i then ⟨s.name, s.checks.mapIdx fun b c => if b < j then (tickD c n).1 else c⟩ else s) := by
  unfold tkL
  rw [List.getElem?_mapIdx, h]
  rfl
theorem tkL_zero (n : Int) (ss : List DSvc) : tkL n ss 0 0 = ss := by
  apply List.ext_getElem?
  intro a
  cases h : ss[a]? with
  | none =>
    have := List.getElem?_eq_none_iff.1 h
    rw [List.getElem?_eq_none (by rw [tkL_len]; exact this)]
  | some s =>
    rw [tkL_get h, if_neg (by omega)]
    by_cases e : a = 0
    · rw [if_pos e]
      congr 1
      obtain ⟨nm, cs⟩ := s
      congr 1
      apply List.ext_getElem?
      intro b
      rw [List.getElem?_mapIdx]
      cases cs[b]? <;> simp
    · rw [if_neg e]
theorem tkL_next {n : Int} {ss : List DSvc} {i : Nat} {s : DSvc} (h : ss[i]? = some s) : tkL n ss i s.checks.length = tkL n ss (i + 1) 0 := by
  apply List.ext_getElem?
  intro a
  cases ha : ss[a]? with
  | none =>
    have := List.getElem?_eq_none_iff.1 ha
    rw [List.getElem?_eq_none (by rw [tkL_len]; exact this), List.getElem?_eq_none (by rw [tkL_len]; exact this)]
  | some r =>
    rw [tkL_get ha, tkL_get ha]
    by_cases e1 : a < i
    · rw [if_pos e1, if_pos (by omega)]
    · rw [if_neg e1]
      by_cases e2 : a = i
      · subst e2
        rw [h] at ha
        cases ha
        rw [if_pos rfl, if_pos (by omega)]
        congr 1
        unfold tickS
        congr 1
        apply List.ext_getElem?
        intro b
        rw [List.getElem?_mapIdx, List.getElem?_map]
        cases hb : s.checks[b]? with
        | none => rfl
        | some c =>
          have := (List.getElem?_eq_some_iff.1 hb).1
          simp [this]
      · rw [if_neg e2, if_neg (by omega)]
        by_cases e3 : a = i + 1
        · rw [if_pos e3]
          congr 1
          obtain ⟨nm, cs⟩ := r
          congr 1
          apply List.ext_getElem?
          intro b
          rw [List.getElem?_mapIdx]
          cases cs[b]? <;> simp
        · rw [if_neg e3]
theorem tkL_all (n : Int) (ss : List DSvc) : tkL n ss ss.length 0 = ss.map (tickS n) := by
  apply List.ext_getElem?
  intro a
  cases ha : ss[a]? with
  | none =>
    have := List.getElem?_eq_none_iff.1 ha
    rw [List.getElem?_eq_none (by rw [tkL_len]; exact this), List.getElem?_eq_none (by simpa using this)]
  | some r =>
    rw [tkL_get ha, if_pos (List.getElem?_eq_some_iff.1 ha).1, List.getElem?_map, ha]
    rfl
/-- The next check is ticked. -/
theorem tkL_set {n : Int} {ss : List DSvc} {i j : Nat} {s : DSvc} {c : DChk} (h : ss[i]? = some s) (hc : s.checks[j]? = some c) :
    (tkL n ss i j).set i ⟨s.name, (s.checks.mapIdx fun b c => if b < j then (tickD c n).1 else c).set j (tickD c n).1⟩ = tkL n ss i (j + 1) := by
  apply List.ext_getElem?
  intro a
  have hi := (List.getElem?_eq_some_iff.1 h).1
  have hj := (List.getElem?_eq_some_iff.1 hc).1
  by_cases e : a = i
  · subst e
    rw [List.getElem?_set_self (by rw [tkL_len]; exact hi), tkL_get h, if_neg (by omega), if_pos rfl]
    congr 2
    apply List.ext_getElem?
    intro b
    by_cases eb : b = j
    · subst eb
      rw [List.getElem?_set_self (by simpa using hj), List.getElem?_mapIdx, hc]
      simp
    · rw [List.getElem?_set_ne (Ne.symm eb), List.getElem?_mapIdx, List.getElem?_mapIdx]
      cases s.checks[b]? with
      | none => rfl
      | some d =>
        simp only [Option.map_some]
        by_cases e4 : b < j
        · rw [if_pos e4, if_pos (by omega)]
        · rw [if_neg e4, if_neg (by omega)]
  · rw [List.getElem?_set_ne (Ne.symm e)]
    cases ha : ss[a]? with
    | none =>
      have := List.getElem?_eq_none_iff.1 ha
      rw [List.getElem?_eq_none (by rw [tkL_len]; exact this), List.getElem?_eq_none (by rw [tkL_len]; exact this)]
    | some r => rw [tkL_get ha, tkL_get ha, if_neg e, if_neg e]
theorem cntC_next {n : Int} {cs : List DChk} {j : Nat} {c : DChk} (h : cs[j]? = some c) : cntC n (cs.take (j + 1)) = cntC n (cs.take j) + (if (tickD c n).2 then 1 else 0) := by
  unfold cntC
  rw [List.take_add_one, h, List.filter_append, List.length_append]
  cases hc : (tickD c n).2 <;> simp [hc]
theorem cntC_le (n : Int) (cs : List DChk) : cntC n cs ≤ cs.length := List.length_filter_le _ _
theorem cntL_next {n : Int} {ss : List DSvc} {i : Nat} {s : DSvc} (h : ss[i]? = some s) : cntL n (ss.take (i + 1)) = cntL n (ss.take i) + cntC n s.checks := by
  unfold cntL
  rw [List.take_add_one, h]
  simp
theorem cntL_le {n : Int} {ss : List DSvc} (h : ∀ s ∈ ss, s.checks.length ≤ 4) : cntL n ss ≤ 4 * ss.length := by
  unfold cntL
  induction ss with
  | nil => simp
  | cons s r ih =>
    have h1 := ih (fun x hx => h x (List.mem_cons_of_mem _ hx))
    have h2 := h s (List.mem_cons_self ..)
    have h3 := cntC_le n s.checks
    simp only [List.map_cons, List.sum_cons, List.length_cons]
    omega

end Go.Proofs.Ytjkhadaoldbceaa
