/- Iterators that range over themselves: what one tells, and a range over it. It holds over every program. -/
import Derived.Test.YtdeogmkcomdbjaaElG
import Derived.RangeFuncNested
import Derived.RangeFuncBound
import Derived.RangeFuncCalls
import Derived.RangeFuncLeaves
import Derived.RangeFuncFrom
import Derived.RangeFuncBox
import Derived.ScopeJumps
namespace Go.Proofs.Ytdeogmkcomdbjaa
open Go Go.RowKit

/-- What an iterator may do by itself: cells, and whatever lies below its base, are as they were. -/
structure Cel (base : Nat) (W W' : World) : Prop where
  os : W'.os = W.os
  tape : W'.tape = W.tape
  output : W'.output = W.output
  size : W.heap.size ≤ W'.heap.size
  same : ∀ (k : Nat) (o : Obj), W.heap[k]? = some o → (o.isCells = true ∨ k < base) → W'.heap[k]? = some o
theorem Cel.refl (b : Nat) (W : World) : Cel b W W := ⟨rfl, rfl, rfl, Nat.le_refl _, fun _ _ h _ => h⟩
theorem Cel.trans {b : Nat} {A B C : World} (h : Cel b A B) (k : Cel b B C) : Cel b A C := ⟨k.os.trans h.os, k.tape.trans h.tape, k.output.trans h.output, Nat.le_trans h.size k.size, fun i o hi ho => k.same i o (h.same i o hi ho) ho⟩
theorem Cel.mono {b c : Nat} {A B : World} (h : Cel b A B) (hc : c ≤ b) : Cel c A B := ⟨h.os, h.tape, h.output, h.size, fun i o hi ho => h.same i o hi (by rcases ho with h1 | h1; exact .inl h1; exact .inr (by omega))⟩
theorem Cel.ext {A B : World} (b : Nat) (h : Ext A B) : Cel b A B := ⟨h.os, h.tape, h.output, h.size, fun i o hi _ => (h.block i (Array.getElem?_eq_some_iff.1 hi).1 (by simp)).trans hi⟩
theorem Cel.put {b l : Nat} {W : World} {o : Obj} (hb : b ≤ l) (h : W.heap[l]? = some o) (ho : o.isCells = false) (o' : Obj) : Cel b W (W.putObj l o') := ⟨rfl, rfl, rfl, by simp, fun k o1 hk h1 => by
  have hne : k ≠ l := fun e => by
    subst e
    rw [hk] at h
    cases h
    rcases h1 with h1 | h1
    · rw [ho] at h1; cases h1
    · omega
  exact (World.putObj_heap_other hne).trans hk⟩
/-- What the rounds may do: only what they own turns; what they own besides is new. -/
structure Rnd (O O' : Nat → Prop) (W W' : World) : Prop where
  os : W'.os = W.os
  tape : W'.tape = W.tape
  output : W'.output = W.output
  size : W.heap.size ≤ W'.heap.size
  same : ∀ k, k < W.heap.size → ¬ O k → W'.heap[k]? = W.heap[k]?
  own : ∀ k, O' k → O k ∨ W.heap.size ≤ k
theorem Rnd.refl (O : Nat → Prop) (W : World) : Rnd O O W W := ⟨rfl, rfl, rfl, Nat.le_refl _, fun _ _ _ => rfl, fun _ h => .inl h⟩
theorem Rnd.trans {O O1 O2 : Nat → Prop} {A B C : World} (h : Rnd O O1 A B) (k : Rnd O1 O2 B C) : Rnd O O2 A C := ⟨k.os.trans h.os, k.tape.trans h.tape, k.output.trans h.output, Nat.le_trans h.size k.size,
  fun i hi hn => (k.same i (Nat.lt_of_lt_of_le hi h.size) (fun h1 => by rcases h.own i h1 with h2 | h2; exact hn h2; omega)).trans (h.same i hi hn),
  fun i hi => by
    rcases k.own i hi with h1 | h1
    · exact h.own i h1
    · exact .inr (Nat.le_trans h.size h1)⟩
theorem Rnd.cel {O O1 : Nat → Prop} {A B C : World} (h : Rnd O O1 A B) (k : Cel A.heap.size B C) : Rnd O O1 A C := ⟨k.os.trans h.os, k.tape.trans h.tape, k.output.trans h.output, Nat.le_trans h.size k.size,
  fun i hi hn => by
    have hB : i < B.heap.size := Nat.lt_of_lt_of_le hi h.size
    obtain ⟨o, ho⟩ : ∃ o, B.heap[i]? = some o := ⟨_, Array.getElem?_eq_getElem hB⟩
    rw [k.same i o ho (.inr hi), ← ho]
    exact h.same i hi hn, h.own⟩
theorem Rnd.ext {O O1 : Nat → Prop} {A B C : World} (h : Rnd O O1 A B) (k : Ext B C) : Rnd O O1 A C := h.cel (Cel.ext _ k)

/-- The iterator tells the texts xs, one behind the other: whatever is noted of them. -/
def Tells (P : Program) (gf : Nat) (lb : Array Value) (xs : List (List Int)) (B0 : Nat) (O : Nat → Prop) (W : World) : Prop :=
  ∀ (l : Nat) (X : Nat → Prop) (J : Nat → (Nat → Prop) → World → Prop) (S : World → Prop) (k0 : Nat), (∀ b, X b → b < W.heap.size) →
    (∀ k O1 V V', J k O1 V → Cel W.heap.size V V' → J k O1 V') → (∀ V V', S V → Cel W.heap.size V V' → S V') →
    (∀ k O1 V, J k O1 V → ∀ b, O1 b → B0 ≤ b ∧ b < V.heap.size) →
    (∀ k x O1 V0 V kv, xs[k]? = some x → J (k0 + k) O1 V0 → Rnd O O1 W V0 → Cel W.heap.size V0 V → Ow V V0.heap.size kv x →
      YieldAt Fence.wide 1 P l #[kv] V fun e V' => (e = .returned (.bool true) ∧ ∃ O2, J (k0 + k + 1) O2 V' ∧ Rnd O1 O2 V V') ∨ (e = .returned (.bool false) ∧ S V' ∧ ∃ O2, Rnd (fun b => O1 b ∨ X b) O2 V V')) →
    J k0 O W →
    CallsIn Fence.wide 2 P gf (#[.func (.yield l) #[] #[]] ++ lb) W fun e W' => e = .returned (.tuple #[]) ∧ ((∃ O', J (k0 + xs.length) O' W' ∧ Rnd O O' W W') ∨ (S W' ∧ ∃ O', Rnd (fun b => O b ∨ X b) O' W W'))

/-- How the body of a round may be left. -/
def tellPost (X : Nat → Prop) (I : Nat → (Nat → Prop) → World → Prop) (Ix : Code → World → Prop) (k : Nat) (O : Nat → Prop) (W : World) : Exit → Act → World → Prop
  | .normal, _, W' => ∃ O2, I (k + 1) O2 W' ∧ Rnd O O2 W W'
  | .ret, _, W' => (∃ O2, Rnd (fun b => O b ∨ X b) O2 W W') ∧ Ix .ret W'
  | .exit id, _, W' => (∃ O2, Rnd (fun b => O b ∨ X b) O2 W W') ∧ Ix (.exit id) W'
  | .goto t, _, W' => (∃ O2, Rnd (fun b => O b ∨ X b) O2 W W') ∧ Ix (.goto t) W'
  | .panic _, _, _ => False
  | .outgrown, _, _ => False

theorem wpIn_range_tells {P : Program} {g : Operand} {ps : Array Tmp} {assign body : Code} {Q : Exit → Act → World → Prop} {a : Act} {w : World} {n : Nat}
    {gf : Nat} {lb : Array Value} (hg : a.eval g = .func (.func gf) #[] lb) (eg : ∀ args w, (callFunc gf args).run P w = .ok (.enter gf args) w) (hps : ps.size = 1)
    (xs : List (List Int)) (B0 : Nat) (O X : Nat → Prop) (hX : ∀ b, X b → b < w.heap.size) (htell : ∀ W1, Ext w W1 → Tells P gf lb xs B0 O W1)
    (I : Nat → (Nat → Prop) → World → Prop) (Ix : Code → World → Prop)
    (hI : ∀ k O1 V V', I k O1 V → Cel w.heap.size V V' → I k O1 V') (hIx : ∀ c V V', Ix c V → Cel w.heap.size V V' → Ix c V')
    (hO : ∀ k O1 V, I k O1 V → ∀ b, O1 b → B0 ≤ b ∧ b < V.heap.size) (h0 : I 0 O w)
    (a₁ : Value → Act)
    (hassign : ∀ (l : Nat) (kv : Value) (W : World) (K : Act → World → Prop), K (a₁ kv) W →
      assign.wpIn (Fence.wide.inRound l) 1 P (Exit.then K (fun _ _ _ => False)) { tmps := (ps.zip #[kv]).foldl (fun t (p, v) => t.setIfInBounds p v) a.tmps, defers := [] } W)
    (hbody : ∀ (l k : Nat) (x : List Int) (O1 : Nat → Prop) (V0 V : World) (kv : Value), w.heap.size ≤ l → xs[k]? = some x → I k O1 V0 → Rnd O O1 w V0 → Cel w.heap.size V0 V → Ow V V0.heap.size kv x →
      body.wpIn (Fence.wide.inRound l) 1 P (tellPost X I Ix k O1 V) (a₁ kv) V)
    (hdone : ∀ (D : Nat) (O1 : Nat → Prop) (W : World), w.heap.size ≤ D → I xs.length O1 W → Rnd O O1 w W → D < W.heap.size → ¬ O1 D → W.heap[D]? = some (.deferred (some [])) → Q .normal { a with defers := { target := .collected D, args := #[] } :: a.defers } W)
    (hstop : ∀ (D : Nat) (c : Code) (O1 : Nat → Prop) (W : World), w.heap.size ≤ D → Ix c W → Rnd (fun b => O b ∨ X b) O1 w W → W.heap[D]? = some (.deferred (some [])) → c.wpIn Fence.wide n P Q { a with defers := { target := .collected D, args := #[] } :: a.defers } W) :
    (Code.rangeFunc g ps assign body).wpIn Fence.wide n P Q a w := by
  refine wpIn_rangeFunc ?_
  intro fn hfn
  obtain ⟨rec, hrec⟩ : ∃ rec : LoopState → Option Code → Loop, rec = fun st pe => { state := st, pending := pe, fn, tmps := a.tmps, params := ps, assign, body, defers := w.heap.size } := ⟨_, rfl⟩
  obtain ⟨W1, hW1⟩ : ∃ W1, (w.alloc (.deferred (some []))).alloc (.loop (rec .ready none)) = W1 := ⟨_, rfl⟩
  have hL1 : W1.heap[w.heap.size + 1]? = some (.loop (rec .ready none)) := by
    rw [← hW1]; have := World.alloc_heap_new (w.alloc (.deferred (some []))) (.loop (rec .ready none)); rwa [World.size_alloc] at this
  have hK1 : W1.heap[w.heap.size]? = some (.deferred (some [])) := by
    rw [← hW1]; exact (Below.heap_alloc _ _ _ (by simp)).trans (World.alloc_heap_new w _)
  have hX1 : Ext w W1 := by rw [← hW1]; exact Ext.tr (World.grownBy_alloc w _ none) (World.grownBy_alloc _ _ none)
  have hs1 : W1.heap.size = w.heap.size + 2 := by rw [← hW1]; simp
  have hOw : ∀ b, O b → b < w.heap.size := fun b hb => (hO 0 O w h0 b hb).2
  refine ⟨w.heap.size + 1, [{ target := .collected w.heap.size, args := #[] }], W1, { target := .fn (.func gf) lb, args := #[.func (.yield (w.heap.size + 1)) #[] #[]] }, W1, gf,
    #[.func (.yield (w.heap.size + 1)) #[] #[]] ++ lb, W1, ?_, ?_, fun _ _ => trivial, ?_, fun h => by simp [Fence.wide] at h, ?_⟩
  · rw [← hW1, hrec]; exact run_enterLoop_outer _ _ _ _ _
  · simp only [resolve, hg]
    simp [go_sem]
  · simp [invoke, go_sem, eg]
  · have hm : ∀ {A B : World}, Cel W1.heap.size A B → Cel w.heap.size A B := fun h => h.mono (by omega)
    have key := htell W1 hX1 (w.heap.size + 1) (fun b => X b ∨ b = w.heap.size + 1)
      (fun k O1 V => I k O1 V ∧ V.heap[w.heap.size + 1]? = some (.loop (rec .ready none)) ∧ V.heap[w.heap.size]? = some (.deferred (some [])) ∧ ¬ O1 (w.heap.size + 1) ∧ ¬ O1 w.heap.size ∧ Rnd O O1 w V)
      (fun V => ∃ c, Ix c V ∧ V.heap[w.heap.size + 1]? = some (.loop (rec .done (some c))) ∧ V.heap[w.heap.size]? = some (.deferred (some [])) ∧ ∃ O2, Rnd (fun b => O b ∨ X b) O2 w V)
      0
      (fun b hb => by
        rcases hb with hb | hb
        · have := hX b hb; omega
        · omega)
      (fun k O1 V V' h hc => ⟨hI k O1 V V' h.1 (hm hc), hc.same _ _ h.2.1 (.inr (by omega)), hc.same _ _ h.2.2.1 (.inr (by omega)), h.2.2.2.1, h.2.2.2.2.1, h.2.2.2.2.2.cel (hm hc)⟩)
      (fun V V' h hc => by
        obtain ⟨c, h1, h2, h3, O2, h4⟩ := h
        exact ⟨c, hIx c V V' h1 (hm hc), hc.same _ _ h2 (.inr (by omega)), hc.same _ _ h3 (.inr (by omega)), O2, h4.cel (hm hc)⟩)
      (fun k O1 V h b hb => hO k O1 V h.1 b hb)
      ?_
      ⟨hI 0 O w W1 h0 (Cel.ext _ hX1), hL1, hK1, fun h => by have := hOw _ h; omega, fun h => by have := hOw _ h; omega, (Rnd.refl O w).ext hX1⟩
    · have key2 : CallsIn Fence.wide (n - 1) P gf (#[.func (.yield (w.heap.size + 1)) #[] #[]] ++ lb) W1 _ := callsIn_wide.2 (callsIn_wide.1 key)
      refine key2.mono ?_
      rintro e W2 ⟨rfl, (⟨O', ⟨hi, hl, hk, n1, n2, hR⟩, _⟩ | ⟨⟨c, hi, hl, hk, O2, hR⟩, _⟩)⟩
      · rw [Nat.zero_add] at hi
        have hp : Cel w.heap.size W2 (W2.putObj (w.heap.size + 1) (.loop { rec .ready none with state := .exhausted })) := Cel.put (by omega) hl rfl _
        refine ⟨none, _, by have := run_endLoop (P := P) hl (by rw [hrec]; simp); rw [hrec] at this ⊢; exact this, hdone w.heap.size O' _ (Nat.le_refl _) (hI _ _ _ _ hi hp) (hR.cel hp) ?_ n2 ((World.putObj_heap_other (by omega)).trans hk)⟩
        have := (Array.getElem?_eq_some_iff.1 hk).1
        simp; omega
      · have hp : Cel w.heap.size W2 (W2.putObj (w.heap.size + 1) (.loop { rec .done (some c) with state := .exhausted })) := Cel.put (by omega) hl rfl _
        exact ⟨some c, _, by have := run_endLoop (P := P) hl (by rw [hrec]; simp); rw [hrec] at this ⊢; exact this, hstop _ c O2 _ (Nat.le_refl _) (hIx c _ _ hi hp) (hR.cel hp) ((World.putObj_heap_other (by omega)).trans hk)⟩
    · rintro k x O1 V0 V kv hx ⟨hi, hl0, hk0, n1, n2, hR0⟩ _ hc ho
      rw [Nat.zero_add] at hi
      have hl := hc.same _ _ hl0 (.inr (by omega))
      have hk := hc.same _ _ hk0 (.inr (by omega))
      have hlt : w.heap.size + 1 < V.heap.size := (Array.getElem?_eq_some_iff.1 hl).1
      have hy := run_yield (P := P) (args := #[kv]) hl (by rw [hrec]; simpa using hps.symm)
      rw [hrec] at hy
      refine ⟨fn, _, assign, body, hy, roundIn_of_wpIn hfn (hassign _ kv V _ ⟨_, run_beginRound hl (by rw [hrec]), ?_⟩)⟩
      have hl2 : (V.putObj (w.heap.size + 1) (.loop { rec .ready none with state := .busy })).heap[w.heap.size + 1]? = some (.loop { rec .ready none with state := .busy }) := World.putObj_heap_same hlt
      have hk2 : (V.putObj (w.heap.size + 1) (.loop { rec .ready none with state := .busy })).heap[w.heap.size]? = some (.deferred (some [])) := (World.putObj_heap_other (by omega)).trans hk
      have hcb : Cel w.heap.size V (V.putObj (w.heap.size + 1) (.loop { rec .ready none with state := .busy })) := Cel.put (by omega) hl rfl _
      have hsb : (V.putObj (w.heap.size + 1) (.loop { rec .ready none with state := .busy })).heap.size = V.heap.size := by simp
      have hob : Ow (V.putObj (w.heap.size + 1) (.loop { rec .ready none with state := .busy })) V0.heap.size kv x := ho.kept (grownBy_putObj' _ _ _) (by
        cases hv : kv.ownBlock with
        | none => exact .inl rfl
        | some r =>
          right
          intro e
          have h1 := (ho.lt r hv).1
          have h2 := (Array.getElem?_eq_some_iff.1 hl0).1
          simp only [Option.some.injEq] at e
          omega)
      refine wpIn_mono (hbody _ k x O1 V0 _ kv (by omega) hx hi hR0 ((hm hc).trans hcb) hob) ?_
      have x1 : ¬ X (w.heap.size + 1) := fun h => by have := hX _ h; omega
      have x2 : ¬ X w.heap.size := fun h => by have := hX _ h; omega
      have fin : ∀ (jump : Option Code) (O2 : Nat → Prop) (W3 : World), Rnd (fun b => O1 b ∨ X b) O2 (V.putObj (w.heap.size + 1) (.loop { rec .ready none with state := .busy })) W3 →
          (Instr.endRound (w.heap.size + 1) jump).run P W3 = .ok (.bool jump.isNone) (W3.putObj (w.heap.size + 1) (.loop (rec (if jump.isNone then .ready else .done) jump))) ∧
          W3.heap[w.heap.size + 1]? = some (.loop { rec .ready none with state := .busy }) ∧
          (W3.putObj (w.heap.size + 1) (.loop (rec (if jump.isNone then .ready else .done) jump))).heap[w.heap.size + 1]? = some (.loop (rec (if jump.isNone then .ready else .done) jump)) ∧
          (W3.putObj (w.heap.size + 1) (.loop (rec (if jump.isNone then .ready else .done) jump))).heap[w.heap.size]? = some (.deferred (some [])) := fun jump O2 W3 hk3 => by
        have hl3 := (hk3.same _ (by rw [hsb]; exact hlt) (fun h => h.elim n1 x1)).trans hl2
        have hk4 := (hk3.same _ (by rw [hsb]; omega) (fun h => h.elim n2 x2)).trans hk2
        have := run_endRound (P := P) jump hl3
        rw [hrec] at this ⊢
        exact ⟨this, by rw [hrec] at hl3; exact hl3, World.putObj_heap_same (Array.getElem?_eq_some_iff.1 hl3).1, (World.putObj_heap_other (by omega)).trans hk4⟩
      have stop : ∀ (c : Code) (O2 : Nat → Prop) (W3 : World), Ix c W3 → Rnd (fun b => O1 b ∨ X b) O2 (V.putObj (w.heap.size + 1) (.loop { rec .ready none with state := .busy })) W3 →
          ∃ v W4, (Instr.endRound (w.heap.size + 1) (some c)).run P W3 = .ok v W4 ∧ ((Ending.returned v = .returned (.bool true) ∧ ∃ O2, (I (0 + k + 1) O2 W4 ∧ W4.heap[w.heap.size + 1]? = some (.loop (rec .ready none)) ∧ W4.heap[w.heap.size]? = some (.deferred (some [])) ∧ ¬ O2 (w.heap.size + 1) ∧ ¬ O2 w.heap.size ∧ Rnd O O2 w W4) ∧ Rnd O1 O2 V W4) ∨ (Ending.returned v = .returned (.bool false) ∧ (∃ c, Ix c W4 ∧ W4.heap[w.heap.size + 1]? = some (.loop (rec .done (some c))) ∧ W4.heap[w.heap.size]? = some (.deferred (some [])) ∧ ∃ O2, Rnd (fun b => O b ∨ X b) O2 w W4) ∧ ∃ O2, Rnd (fun b => O1 b ∨ X b ∨ b = w.heap.size + 1) O2 V W4)) := fun c O2 W3 hi3 hr3 => by
        obtain ⟨hr, hl3, hl4, hk4⟩ := fin (some c) O2 W3 hr3
        have hRX : Rnd (fun b => O1 b ∨ X b ∨ b = w.heap.size + 1) O2 V (W3.putObj (w.heap.size + 1) (.loop (rec .done (some c)))) := by
          refine ⟨hr3.os, hr3.tape, hr3.output, by have := hr3.size; rw [hsb] at this; simpa using this, fun j hj hn => ?_, fun j hj => by have := hr3.own j hj; rw [hsb] at this; rcases this with (h1 | h1) | h1; exact .inl (.inl h1); exact .inl (.inr (.inl h1)); exact .inr h1⟩
          have ej : j ≠ w.heap.size + 1 := fun e => hn (.inr (.inr e))
          rw [World.putObj_heap_other ej, hr3.same j (by rw [hsb]; exact hj) (fun h => hn (h.imp id .inl)), World.putObj_heap_other ej]
        have hRW : Rnd (fun b => O b ∨ X b) O2 w (W3.putObj (w.heap.size + 1) (.loop (rec .done (some c)))) := by
          have h1 := hR0.cel (hm hc)
          refine ⟨hRX.os.trans h1.os, hRX.tape.trans h1.tape, hRX.output.trans h1.output, Nat.le_trans h1.size hRX.size, fun j hj hn => ?_, fun j hj => ?_⟩
          · refine (hRX.same j (Nat.lt_of_lt_of_le hj h1.size) (fun h => ?_)).trans (h1.same j hj (fun h => hn (.inl h)))
            rcases h with h | h | h
            · rcases h1.own j h with h2 | h2
              · exact hn (.inl h2)
              · omega
            · exact hn (.inr h)
            · omega
          · rcases hRX.own j hj with (h | h | h) | h
            · exact (h1.own j h).imp .inl id
            · exact .inl (.inr h)
            · exact .inr (by omega)
            · exact .inr (Nat.le_trans h1.size h)
        exact ⟨_, _, hr, .inr ⟨rfl, ⟨c, hIx _ _ _ hi3 (Cel.put (by omega) hl3 rfl _), hl4, hk4, O2, hRW⟩, O2, hRX⟩⟩
      rintro e a3 W3 hp
      cases e with
      | normal =>
        obtain ⟨O2, hi3, hr3⟩ := hp
        obtain ⟨hr, hl3, hl4, hk4⟩ := fin none O2 W3 ⟨hr3.os, hr3.tape, hr3.output, hr3.size, fun j hj hn => hr3.same j hj (fun h => hn (.inl h)), fun j hj => (hr3.own j hj).imp .inl id⟩
        have hcp : Cel w.heap.size W3 (W3.putObj (w.heap.size + 1) (.loop (rec .ready none))) := Cel.put (by omega) hl3 rfl _
        have hRR : Rnd O1 O2 V (W3.putObj (w.heap.size + 1) (.loop (rec .ready none))) := by
          refine ⟨hr3.os, hr3.tape, hr3.output, by have := hr3.size; rw [hsb] at this; simpa using this, fun j hj hn => ?_, fun j hj => by have := hr3.own j hj; rw [hsb] at this; exact this⟩
          by_cases ej : j = w.heap.size + 1
          · rw [ej, hl]; exact hl4
          · rw [World.putObj_heap_other ej, hr3.same j (by rw [hsb]; exact hj) hn, World.putObj_heap_other ej]
        refine ⟨_, _, hr, .inl ⟨rfl, O2, ⟨?_, hl4, hk4, ?_, ?_, ?_⟩, hRR⟩⟩
        · rw [Nat.zero_add]; exact hI _ _ _ _ hi3 hcp
        · intro h; rcases hRR.own _ h with h1 | h1
          · exact n1 h1
          · omega
        · intro h; rcases hRR.own _ h with h1 | h1
          · exact n2 h1
          · omega
        · exact (hR0.cel (hm hc)).trans hRR
      | ret =>
        obtain ⟨⟨O2, hr3⟩, hi3⟩ := hp
        exact stop .ret O2 W3 hi3 hr3
      | exit id =>
        obtain ⟨⟨O2, hr3⟩, hi3⟩ := hp
        exact stop (.exit id) O2 W3 hi3 hr3
      | goto t =>
        obtain ⟨⟨O2, hr3⟩, hi3⟩ := hp
        exact stop (.goto t) O2 W3 hi3 hr3
      | panic ch => exact hp.elim
      | outgrown => exact hp.elim

end Go.Proofs.Ytdeogmkcomdbjaa
