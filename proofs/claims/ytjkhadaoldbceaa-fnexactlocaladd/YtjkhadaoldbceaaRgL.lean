
/- A drawn region whose last operation may write what the others read: what is held need not hold behind the last one. It holds over every program. -/
import Derived.Test.YtjkhadaoldbceaaRgS
namespace Go.Proofs.Ytjkhadaoldbceaa
open Go.RowKit

section
variable {P : Program} {ops : Array Oper} {Q : Exit → Act → World → Prop} {md : Region.Mode} {S : World → Prop} {z : Nat}

/-- Number z waits for number i. -/
def waitsOn (md : Region.Mode) (ops : Array Oper) (z i : Nat) : Bool := match ops[z]? with
  | some o => o.after.any (fun e => Region.binds md e && e.on == i)
  | none => false
/-- In whatever order the rest comes up; S holds behind each but number z. -/
def ordL (P : Program) (md : Region.Mode) (ops : Array Oper) (Q : Exit → Act → World → Prop) (S : World → Prop) (z f : Nat) : Array Bool → Act → World → Prop :=
  Nat.rec (motive := fun _ => Array Bool → Act → World → Prop) (fun l a w => Region.ready md ops l = [] ∧ Q .normal a w)
    (fun _ rest l a w => (Region.ready md ops l = [] → Q .normal a w) ∧ ∀ i ∈ Region.ready md ops l, wpOp P ops Q i (fun a' w' => (i ≠ z → S w') ∧ rest (l.setIfInBounds i true) a' w') a w) f
theorem any_of_ordL (f : Nat) : ∀ (l : Array Bool) (a : Act) (w : World), ordL P md ops Q S z f l a w → wpAny P md ops Q f l a w := by
  induction f with
  | zero => exact fun l a w h => h
  | succ f ih => exact fun l a w h => ⟨h.1, fun i hi => wpOp_mono (fun a' w' k => ih _ a' w' k.2) (h.2 i hi)⟩
/-- What only reads may be taken first, where number z waits for it. -/
theorem ordL_take {i : Nat} {o : Oper} {v : Value} (hi : ops[i]? = some o) (hs : Region.noSelect ops = true) (hQ : ∀ c (a : Act) (w : World), Q (.panic c) (a.put o.dst v) w → Q (.panic c) a w) (hz : waitsOn md ops z i = true) (f : Nat) :
    ∀ (l : Array Bool) (a : Act) (w : World), Region.free md ops l i = true → i ∈ Region.ready md ops l → YieldsIf P ops S o v a → S w → ordL P md ops Q S z f (l.setIfInBounds i true) (a.put o.dst v) w → ordL P md ops Q S z (f + 1) l a w := by
  have key : ∀ (f : Nat) (l : Array Bool) (a : Act) (w : World), (∀ j q, ops[j]? = some q → j ≠ i → l.getD j true = false → (∀ e ∈ q.after, Region.binds md e = true → e.on ≠ i) → o.apart ops q = true) → i ∈ Region.ready md ops l → YieldsIf P ops S o v a → S w →
      ordL P md ops Q S z f (l.setIfInBounds i true) (a.put o.dst v) w → ordL P md ops Q S z (f + 1) l a w := by
    intro f
    induction f with
    | zero =>
      intro l a w hfr hr hy hS h
      refine ⟨fun e => absurd (e ▸ hr) (by simp), fun j hj => ?_⟩
      by_cases hne : j = i
      · subst hne
        exact hy.wpOp hi hS ⟨fun _ => hS, h⟩
      · have hmem := ready_mono hj hne
        have hnone : Region.ready md ops (l.setIfInBounds i true) = [] := h.1
        rw [hnone] at hmem
        cases hmem
    | succ f ih =>
      intro l a w hfr hr hy hS h
      refine ⟨fun e => absurd (e ▸ hr) (by simp), fun j hj => ?_⟩
      by_cases hne : j = i
      · subst hne
        exact hy.wpOp hi hS ⟨fun _ => hS, h⟩
      · obtain ⟨hun, q, hq, hall⟩ := mem_ready.1 hj
        have hri := ready_mono hr (Ne.symm hne)
        have hopen : ∀ e ∈ q.after, Region.binds md e = true → e.on ≠ i := fun e he hb heq => by
          have h1 := hall e he hb
          have h0 := (mem_ready.1 hr).1
          rw [heq] at h1
          rcases Nat.lt_or_ge i l.size with k | k
          · simp [k] at h0 h1; rw [h0] at h1; cases h1
          · simp [Array.getElem?_eq_none k] at h1
        have hjz : j ≠ z := fun e => by
          subst e
          unfold waitsOn at hz
          rw [hq] at hz
          simp only [← Array.any_toList, List.any_eq_true] at hz
          obtain ⟨e, he, hb⟩ := hz
          have he := Array.mem_toList_iff.1 he
          simp only [Bool.and_eq_true, beq_iff_eq] at hb
          exact hopen e he hb.1 hb.2
        have hop := wpOp_putIf hq (hfr j q hq hne hun hopen) (fun cs b => Region.noSelect_spec hs i o cs b hi) (fun cs b => Region.noSelect_spec hs j q cs b hq) hQ hy (h.2 j (ready_mono hj hne))
        refine wpOp_mono (fun a' w' k => ⟨fun _ => k.2.1 hjz, ih (l.setIfInBounds j true) a' w' (fun m r hm hmi hmu hmo => hfr m r hm hmi ?_ hmo) hri k.1 (k.2.1 hjz) ?_⟩) hop
        · by_cases e : j = m
          · subst e; exact hun
          · rw [getD_set_ne true e] at hmu; exact hmu
        · rw [Array.setIfInBounds_comm _ _ hne]
          exact k.2.2
  exact fun l a w hf hr hy hS h => key f l a w (Region.free_spec hi hf) hr hy hS h

def segL (md : Region.Mode) (ops : Array Oper) (z : Nat) : List Oper → Nat → Array Bool → Bool
  | [], _, _ => true
  | o :: l, k, listed => (Region.ready md ops listed).contains k && Region.free md ops listed k && plainOp o && waitsOn md ops z k && segL md ops z l (k + 1) (listed.setIfInBounds k true)
theorem ordL_segL (hs : Region.noSelect ops = true) (hQ : ∀ c (a : Act) (d : Option Tmp) (v : Value) (w : World), Q (.panic c) (a.put d v) w → Q (.panic c) a w) :
    ∀ (l : List Oper) (k fuel : Nat) (listed : Array Bool) (a : Act) (w : World), (∀ j, j < l.length → l[j]? = ops[k + j]?) → segL md ops z l k listed = true → S w →
      wpQuiet P ops S (fun a' => ordL P md ops Q S z fuel (segList l.length k listed) a' w) l a → ordL P md ops Q S z (fuel + l.length) listed a w
  | [], _, _, _, _, _, _, _, _, h => h
  | o :: l, k, fuel, listed, a, w, hl, hB, hS, h => by
    have h0 : ops[k]? = some o := by simpa using (hl 0 (by simp)).symm
    simp only [segL, Bool.and_eq_true] at hB
    obtain ⟨⟨⟨⟨hr, hf⟩, hp⟩, hw⟩, hB'⟩ := hB
    have hl' : ∀ j, j < l.length → l[j]? = ops[k + 1 + j]? := fun j hj => by
      have := hl (j + 1) (by simp; omega)
      simpa [Nat.add_assoc, Nat.add_comm 1 j] using this
    have hy : ∃ v, YieldsIf P ops S o v a ∧ wpQuiet P ops S (fun a' => ordL P md ops Q S z fuel (segList (l.length + 1) k listed) a' w) l (a.put o.dst v) := by
      unfold wpQuiet at h
      split at h
      · rename_i hw
        obtain ⟨v, h1, h2⟩ := h
        exact ⟨v, yieldsIf_of_quiet hp hw h1, h2⟩
      · rename_i hw
        exact ⟨undef, .inr ⟨by simpa using hw, rfl⟩, h⟩
    obtain ⟨v, hy, hK⟩ := hy
    exact ordL_take h0 hs (fun c a w => hQ c a _ _ w) hw (fuel + l.length) listed a w hf (by simpa using hr) hy hS (ordL_segL hs hQ l (k + 1) fuel _ _ w hl' hB' hS hK)
/-- A segment: n operations from number k on. -/
theorem ordL_seg (k n fuel : Nat) {F : Nat} {listed : Array Bool} {a : Act} {w : World} (hF : F = fuel + n) (hs : Region.noSelect ops = true)
    (hn : ((ops.toList.drop k).take n).length = n) (hB : segL md ops z ((ops.toList.drop k).take n) k listed = true)
    (hQ : ∀ c (a : Act) (d : Option Tmp) (v : Value) (w : World), Q (.panic c) (a.put d v) w → Q (.panic c) a w) (hS : S w)
    (h : wpQuiet P ops S (fun a' => ordL P md ops Q S z fuel (segList n k listed) a' w) ((ops.toList.drop k).take n) a) : ordL P md ops Q S z F listed a w := by
  subst hF
  have h1 := ordL_segL (P := P) (Q := Q) (S := S) (z := z) hs hQ ((ops.toList.drop k).take n) k fuel listed a w (fun j hj => by
    rw [hn] at hj
    rw [List.getElem?_take_of_lt hj, List.getElem?_drop]
    simp) hB hS (by rw [hn]; exact h)
  rw [hn] at h1
  exact h1
/-- One operation alone may come up. -/
theorem ordL_one (i fuel : Nat) {F : Nat} {listed : Array Bool} {a : Act} {w : World} {o : Oper} (hF : F = fuel + 1) (hr : Region.ready md ops listed = [i]) (ho : ops[i]? = some o)
    (h : ∀ K' : Act → World → Prop, Shut (∀ a w, (i ≠ z → S w) → ordL P md ops Q S z fuel (listed.setIfInBounds i true) a w → K' a w) → if Region.wanted o (yielded ops a.tmps) = true then Oper.wp P o a w K' Q else K' (a.put o.dst undef) w) :
    ordL P md ops Q S z F listed a w := by
  subst hF
  refine ⟨fun e => absurd (hr ▸ e) (by simp), fun j hj => ?_⟩
  rw [hr] at hj
  simp only [List.mem_singleton] at hj
  subst hj
  exact wpOp_step ho (fun K' hK => h K' (fun a w h1 h2 => hK a w ⟨h1, h2⟩))
theorem ordL_end {F : Nat} {listed : Array Bool} {a : Act} {w : World} (hr : Region.ready md ops listed = []) (h : Q .normal a w) : ordL P md ops (NoPanic Q) S z F listed a w := by
  cases F with
  | zero => exact ⟨hr, NoPanic.normal h⟩
  | succ f => exact ⟨fun _ => NoPanic.normal h, fun j hj => by rw [hr] at hj; cases hj⟩
theorem wp_region_ordL (z : Nat) {id : Nat} {a : Act} {w : World} (hm : P.follows .mixedOrders = true) (hS : S w.drew)
    (h : S w.drew → ordL P .any ops (NoPanic Q) S z ops.size (Array.replicate ops.size false) a w.drew) : (Code.region id ops true).wp P Q a w :=
  wp_region_noPanic (wp_region_any hm (any_of_ordL _ _ _ _ (h hS)))
end
end Go.Proofs.Ytjkhadaoldbceaa
