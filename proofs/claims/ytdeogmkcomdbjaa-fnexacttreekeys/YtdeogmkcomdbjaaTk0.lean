/- The keys of a tree, told one behind the other: plain; and what an iterator keeps. It holds over every program. -/
import Derived.Test.YtdeogmkcomdbjaaTe0
import Derived.Test.YtdeogmkcomdbjaaIt5
namespace Go.Proofs.Ytdeogmkcomdbjaa
open Go Go.RowKit

/-- The first n lists, one behind the other. -/
def flatN {α : Type} : Nat → (Nat → List α) → List α
  | 0, _ => []
  | n + 1, f => flatN n f ++ f n
theorem flatN_le {α : Type} (f : Nat → List α) : ∀ {n m : Nat}, n ≤ m → ∃ r, flatN m f = flatN n f ++ r
  | n, 0, h => by
    obtain rfl : n = 0 := by omega
    exact ⟨[], by simp⟩
  | n, m + 1, h => by
    by_cases e : n = m + 1
    · subst e; exact ⟨[], by simp⟩
    · obtain ⟨r, hr⟩ := flatN_le f (show n ≤ m by omega)
      exact ⟨r ++ f m, by simp only [flatN]; rw [hr, List.append_assoc]⟩
/-- Where a list of them stands. -/
theorem flatN_at {α : Type} (f : Nat → List α) {n i k : Nat} {x : α} (hi : i < n) (hx : (f i)[k]? = some x) : (flatN n f)[(flatN i f).length + k]? = some x := by
  obtain ⟨r, hr⟩ := flatN_le f (show i + 1 ≤ n by omega)
  rw [hr]
  simp only [flatN]
  have hk := (List.getElem?_eq_some_iff.1 hx).1
  rw [List.getElem?_append_left (by rw [List.length_append]; omega), List.getElem?_append_right (by omega), Nat.add_sub_cancel_left]
  exact hx

/-- The keys of a tree, with what stands ahead of its edge. -/
def keysTD : (d : Nat) → DTree d → List Int → List (List Int)
  | 0, _, _ => []
  | d + 1, (e, h, _, n, kid), as => (if h then [as ++ e] else []) ++ flatN n (fun i => keysTD d (kid i) (as ++ e))
abbrev keysT {d : Nat} (t : DTree d) (as : List Int) : List (List Int) := keysTD d t as
/-- How many keys a tree has. -/
def cntKD : (d : Nat) → DTree d → Nat
  | 0, _ => 0
  | d + 1, (_, h, _, n, kid) => (if h then 1 else 0) + sumN n (fun i => cntKD d (kid i))
abbrev cntK {d : Nat} (t : DTree d) : Nat := cntKD d t
theorem flatN_len {α : Type} (f : Nat → List α) (g : Nat → Nat) (h : ∀ i, (f i).length = g i) : ∀ n, (flatN n f).length = sumN n g
  | 0 => rfl
  | n + 1 => by simp only [flatN, sumN, List.length_append]; rw [flatN_len f g h n, h n]
theorem keys_len : ∀ (d : Nat) (t : DTree d) (as : List Int), (keysTD d t as).length = cntKD d t
  | 0, _, _ => rfl
  | d + 1, (e, h, x, n, kid), as => by
    simp only [keysTD, cntKD, List.length_append]
    rw [flatN_len _ _ (fun i => keys_len d (kid i) (as ++ e)) n]
    cases h <;> simp
theorem sumN_add {f g : Nat → Nat} (h : ∀ i, f i ≤ g i + 1) : ∀ n, sumN n f ≤ n + sumN n g
  | 0 => Nat.le_refl _
  | n + 1 => by have := sumN_add h n; have := h n; simp only [sumN]; omega
theorem cntK_le : ∀ (d : Nat) (t : DTree d), cntKD d t ≤ szTD d t + 1
  | 0, _ => Nat.zero_le _
  | d + 1, (e, h, x, n, kid) => by
    have := sumN_add (f := fun i => cntKD d (kid i)) (g := fun i => szTD d (kid i)) (fun i => cntK_le d (kid i)) n
    simp only [cntKD, szTD]
    cases h <;> simp <;> omega

theorem ow_same {w w' : World} {base : Nat} {v : Value} {xs : List Int} (h : Ow w base v xs) (hk : ∀ k, v.ownBlock = some k → ∀ o, w.heap[k]? = some o → o.isCells = true → w'.heap[k]? = some o) : Ow w' base v xs := by
  refine ⟨h.1, ?_⟩
  rcases h.2 with h2 | ⟨g, cap, cur, hv, hbb, hblk, r⟩
  · exact .inl h2
  · exact .inr ⟨g, cap, cur, hv, hbb, hk g (by rw [hv]; rfl) _ hblk rfl, r⟩

/-- What the iterator itself has in memory. -/
structure KeyS (w0 : World) (Bt Y : Nat) (tc : Array Value) (tT tY : TypeId) (yv kv : Value) (ks : List Int) (b : Nat) (Ds : List Nat) (O : Nat → Prop) (V : World) : Prop where
  old : Ext w0 V
  box : V.heap[Bt]? = some (.cells tc tT (0, 0))
  nbox : ¬ O Bt
  yld : V.heap[Y]? = some (.cells #[yv] tY (0, 0))
  nyld : ¬ O Y
  key : Ow V b kv ks
  nkey : ∀ r, kv.ownBlock = some r → ¬ O r
  mrk : ∀ D ∈ Ds, V.heap[D]? = some (.deferred (some []))
  nmrk : ∀ D ∈ Ds, ¬ O D
variable {w0 V V' : World} {Bt Y b base : Nat} {tc : Array Value} {tT tY : TypeId} {yv kv : Value} {ks : List Int} {Ds : List Nat} {O O2 : Nat → Prop}
theorem not_own {k : Nat} (h : Rnd O O2 V V') (hk : k < V.heap.size) (hn : ¬ O k) : ¬ O2 k := fun h2 => by
  rcases h.own k h2 with h3 | h3
  · exact hn h3
  · omega
theorem KeyS.rnd (h : KeyS w0 Bt Y tc tT tY yv kv ks b Ds O V) (r : Rnd O O2 V V') (hO : ∀ b, O b → w0.heap.size ≤ b) : KeyS w0 Bt Y tc tT tY yv kv ks b Ds O2 V' := by
  have lt : ∀ {k : Nat} {o : Obj}, V.heap[k]? = some o → k < V.heap.size := fun h => (Array.getElem?_eq_some_iff.1 h).1
  refine ⟨⟨r.os.trans h.old.os, r.tape.trans h.old.tape, r.output.trans h.old.output, Nat.le_trans h.old.size r.size, fun k hk _ => ?_⟩, (r.same _ (lt h.box) h.nbox).trans h.box, not_own r (lt h.box) h.nbox, (r.same _ (lt h.yld) h.nyld).trans h.yld, not_own r (lt h.yld) h.nyld, ow_same h.key (fun k hk o ho _ => (r.same k (lt ho) (h.nkey k hk)).trans ho), fun k hk => not_own r (h.key.lt k hk).2 (h.nkey k hk), fun D hD => (r.same _ (lt (h.mrk D hD)) (h.nmrk D hD)).trans (h.mrk D hD), fun D hD => not_own r (lt (h.mrk D hD)) (h.nmrk D hD)⟩
  exact (r.same k (Nat.lt_of_lt_of_le hk h.old.size) (fun ho => by have := hO k ho; omega)).trans (h.old.block k hk (by simp))
theorem KeyS.cel (h : KeyS w0 Bt Y tc tT tY yv kv ks b Ds O V) (c : Cel base V V') (hw : w0.heap.size ≤ base) (hD : ∀ D ∈ Ds, D < base) : KeyS w0 Bt Y tc tT tY yv kv ks b Ds O V' := by
  refine ⟨⟨c.os.trans h.old.os, c.tape.trans h.old.tape, c.output.trans h.old.output, Nat.le_trans h.old.size c.size, fun k hk _ => ?_⟩, c.same _ _ h.box (.inl rfl), h.nbox, c.same _ _ h.yld (.inl rfl), h.nyld, ow_same h.key (fun k _ o ho hc => c.same k o ho (.inl hc)), h.nkey, fun D hd => c.same _ _ (h.mrk D hd) (.inr (hD D hd)), h.nmrk⟩
  obtain ⟨o, ho⟩ : ∃ o, V.heap[k]? = some o := ⟨_, Array.getElem?_eq_getElem (Nat.lt_of_lt_of_le hk h.old.size)⟩
  rw [c.same k o ho (.inr (by omega)), ← ho]
  exact h.old.block k hk (by simp)

/-- Marks among the deferred calls. -/
def marksD (Ds : List Nat) : List Deferred := Ds.map fun D => { target := .collected D, args := #[] }
theorem leaves_marks {F : Fence} {n : Nat} {P : Program} {fn : Func} {tmps : Array Value} {R : Ending → World → Prop} (base : Nat) : ∀ (Ds : List Nat) (W : World), Ds.Nodup → (∀ D ∈ Ds, base ≤ D ∧ W.heap[D]? = some (.deferred (some []))) →
    (∀ W', Cel base W W' → LeavesInM F n P fn tmps R [] .returning W') → LeavesInM F n P fn tmps R (marksD Ds) .returning W
  | [], W, _, _, h => h W (Cel.refl _ _)
  | D :: Ds, W, hn, hm, h => by
    obtain ⟨hb, hD⟩ := hm D (List.mem_cons_self ..)
    refine ⟨by simp, .inl ⟨D, _, rfl, run_takeDeferred hD, ?_⟩⟩
    refine leaves_marks base Ds _ (List.nodup_cons.1 hn).2 (fun E hE => ?_) (fun W' hc => h W' ((Cel.put hb hD rfl _).trans hc))
    obtain ⟨hb2, hE2⟩ := hm E (List.mem_cons_of_mem _ hE)
    exact ⟨hb2, (World.putObj_heap_other (k := E) (fun e => (List.nodup_cons.1 hn).1 (by rw [← e]; exact hE))).trans hE2⟩

end Go.Proofs.Ytdeogmkcomdbjaa
