/- Marking a tree that a call made: which blocks may turn, and that nothing else does. -/
import Derived.Test.YtdeogmkcomdbjaaMkA0
import Derived.Test.YtdeogmkcomdbjaaTe2
namespace Go.Proofs.Ytdeogmkcomdbjaa
open Go.RowKit

/-- Of the blocks that lay there only some from lo up to hi have turned: rows of bytes (their sizes have not), and trees (their edges and lists of kids have not). -/
structure MkT (lo hi : Nat) (w w' : World) : Prop where
  os : w'.os = w.os
  tape : w'.tape = w.tape
  output : w'.output = w.output
  size : w.heap.size ≤ w'.heap.size
  out : ∀ k, k < w.heap.size → (k < lo ∨ hi ≤ k) → w'.heap[k]? = w.heap[k]?
  byt : ∀ (k : Nat) (cur : Array Value), w.heap[k]? = some (.cells cur 5 (0, 0)) → ∃ cur' : Array Value, w'.heap[k]? = some (.cells cur' 5 (0, 0)) ∧ cur'.size = cur.size
  tre : ∀ (k : Nat) (cur : Array Value), w.heap[k]? = some (.cells cur 30 (0, 0)) → ∃ cur' : Array Value, w'.heap[k]? = some (.cells cur' 30 (0, 0)) ∧ cur'.size = cur.size ∧ ∀ j, (j % 4 = 0 ∨ j % 4 = 3) → cur'[j]? = cur[j]?
theorem MkT.re (lo hi : Nat) (w : World) : MkT lo hi w w := ⟨rfl, rfl, rfl, Nat.le_refl _, fun _ _ _ => rfl, fun _ cur h => ⟨cur, h, rfl⟩, fun _ cur h => ⟨cur, h, rfl, fun _ _ => rfl⟩⟩
theorem MkT.tr {lo hi : Nat} {a b c : World} (h : MkT lo hi a b) (k : MkT lo hi b c) : MkT lo hi a c :=
  ⟨k.os.trans h.os, k.tape.trans h.tape, k.output.trans h.output, Nat.le_trans h.size k.size, fun i hi' ho => (k.out i (Nat.lt_of_lt_of_le hi' h.size) ho).trans (h.out i hi' ho),
   fun i cur hc => by
     obtain ⟨c1, h1, s1⟩ := h.byt i cur hc
     obtain ⟨c2, h2, s2⟩ := k.byt i c1 h1
     exact ⟨c2, h2, s2.trans s1⟩,
   fun i cur hc => by
     obtain ⟨c1, h1, s1, t1⟩ := h.tre i cur hc
     obtain ⟨c2, h2, s2, t2⟩ := k.tre i c1 h1
     exact ⟨c2, h2, s2.trans s1, fun j hj => (t2 j hj).trans (t1 j hj)⟩⟩
theorem MkT.of {lo hi : Nat} {a b : World} (h : Mk lo hi none a b) : MkT lo hi a b :=
  ⟨h.os, h.tape, h.output, h.size, h.out, h.byt, fun i cur hc => ⟨cur, h.oth i cur _ (by decide) (by simp) hc, rfl, fun _ _ => rfl⟩⟩
theorem MkT.ext {lo hi : Nat} {a b : World} (h : Ext a b) : MkT lo hi a b :=
  have e : ∀ {k : Nat} {o : Obj}, a.heap[k]? = some o → b.heap[k]? = some o := fun hk => (h.block _ (Array.getElem?_eq_some_iff.1 hk).1 (by simp)).trans hk
  ⟨h.os, h.tape, h.output, h.size, fun k hk _ => h.block k hk (by simp), fun _ cur hc => ⟨cur, e hc, rfl⟩, fun _ cur hc => ⟨cur, e hc, rfl, fun _ _ => rfl⟩⟩
theorem mkT_set {lo hi x j : Nat} {w : World} {cur : Array Value} (u : Value) (hx : w.heap[x]? = some (.cells cur 30 (0, 0))) (h1 : lo ≤ x) (h2 : x < hi) (hj : j % 4 = 1 ∨ j % 4 = 2) : MkT lo hi w (w.setCell ⟨x, j, none⟩ u) := by
  have hg := set_grown w x j u
  refine ⟨hg.os, hg.tape, hg.output, hg.size, fun k hk ho => hg.block k hk (by intro e; cases e; omega), fun k c hc => ?_, fun k c hc => ?_⟩
  · have e : k ≠ x := fun e => by
      subst e
      rw [hx] at hc
      simp only [Option.some.injEq, Obj.cells.injEq] at hc
      exact absurd hc.2.1 (by decide)
    exact ⟨c, set_other x j u e hc, rfl⟩
  · by_cases e : k = x
    · subst e
      rw [hx] at hc
      cases hc
      refine ⟨_, set_block hx j u, by simp, fun i hi => ?_⟩
      rw [Array.getElem?_setIfInBounds, if_neg (by omega)]
    · exact ⟨c, set_other x j u e hc, rfl, fun _ _ => rfl⟩
theorem WB.mkT {lo hi lo' hi' : Nat} {w w' : World} {v : Value} (h : WB lo hi w v) (k : MkT lo' hi' w w') : WB lo hi w' v := by
  rcases h with h | ⟨g, n, cap, cur, rfl, h1, h2, h3, h4, h5, h6⟩
  · exact .inl h
  · obtain ⟨c', e1, e2⟩ := k.byt g cur h5
    exact .inr ⟨g, n, cap, c', rfl, h1, h2, h3, e2.trans h4, e1, h6⟩
def hdT (j : Nat) : Prop := j = 0 ∨ j = 3
theorem Arr.mkT {lo hi : Nat} {w w' : World} {g n : Nat} {F : Nat → Nat → Value} (h : Arr w g 30 4 n hdT F) (m : MkT lo hi w w') : Arr w' g 30 4 n hdT F := by
  obtain ⟨cur, h1, h2, h3⟩ := h
  obtain ⟨c', e1, e2, e3⟩ := m.tre g cur h1
  refine ⟨c', e1, e2.trans h2, fun i hi j hj ht => ?_⟩
  rw [e3 (i * 4 + j) (by rcases ht with rfl | rfl <;> omega)]
  exact h3 i hi j hj ht
/-- The slice v has n trees that may be marked, all in blocks from lo up to hi. -/
def WKD (w : World) (lo hi : Nat) : (d : Nat) → Nat → (Nat → DTree d) → Value → Prop
  | 0, n, _, v => n = 0 ∧ ∃ a c, v = .slice a 0 c
  | d + 1, n, kid, v => ∃ g F, v = .slice (some ⟨g, 0, none⟩) n n ∧ lo ≤ g ∧ g < hi ∧ n ≤ 1048576 ∧ Arr w g 30 4 n hdT F ∧ ∀ i, i < n → WB lo hi w (F i 0) ∧ WKD w lo hi d (kid i).2.2.2.1 (kid i).2.2.2.2 (F i 3)
theorem WKD.mkT {lo hi : Nat} {w w' : World} (m : MkT lo hi w w') : ∀ (d n : Nat) (kid : Nat → DTree d) (v : Value), WKD w lo hi d n kid v → WKD w' lo hi d n kid v
  | 0, _, _, _, h => h
  | d + 1, n, kid, v, h => by
    obtain ⟨g, F, hv, h1, h2, h3, h4, h5⟩ := h
    exact ⟨g, F, hv, h1, h2, h3, h4.mkT m, fun i hi => ⟨(h5 i hi).1.mkT m, WKD.mkT m d _ _ _ (h5 i hi).2⟩⟩
theorem WKD.shape {lo hi : Nat} {w : World} : ∀ (d n : Nat) (kid : Nat → DTree d) (v : Value), WKD w lo hi d n kid v → ∃ a c, v = .slice a n c
  | 0, n, _, v, h => by obtain ⟨rfl, a, c, hv⟩ := h; exact ⟨a, c, hv⟩
  | d + 1, n, kid, v, h => by obtain ⟨g, F, hv, _⟩ := h; exact ⟨_, _, hv⟩
theorem WB.shape {lo hi : Nat} {w : World} {v : Value} (h : WB lo hi w v) : ∃ a n c, v = .slice a n c := by
  rcases h with h | ⟨g, n, cap, cur, h, _⟩
  · exact ⟨_, _, _, h⟩
  · exact ⟨_, _, _, h⟩
/-- How many trees there are. -/
def ndK : (d : Nat) → Nat → (Nat → DTree d) → Nat
  | 0, _, _ => 0
  | d + 1, n, kid => sumN n (fun i => 1 + ndK d (kid i).2.2.2.1 (kid i).2.2.2.2)
theorem sumN_mono {f g : Nat → Nat} (h : ∀ i, f i ≤ g i) : ∀ n, sumN n f ≤ sumN n g
  | 0 => Nat.le_refl _
  | n + 1 => by have := sumN_mono h n; have := h n; simp only [sumN]; omega
theorem sumN_one {f g : Nat → Nat} (h : ∀ i, f i ≤ 1 + g i) : ∀ n, sumN n f ≤ n + sumN n g
  | 0 => Nat.le_refl _
  | n + 1 => by have := sumN_one h n; have := h n; simp only [sumN]; omega
theorem ndK_le : ∀ (d n : Nat) (kid : Nat → DTree d), ndK d n kid ≤ n + sumN n (fun i => szTD d (kid i))
  | 0, _, _ => Nat.zero_le _
  | d + 1, n, kid => by
    refine sumN_one (fun i => ?_) n
    have := ndK_le d (kid i).2.2.2.1 (kid i).2.2.2.2
    show 1 + _ ≤ 1 + szTD (d + 1) (kid i)
    have h2 : szTD (d + 1) (kid i) = (kid i).1.length + ((kid i).2.2.2.1 + sumN (kid i).2.2.2.1 (fun j => szTD d ((kid i).2.2.2.2 j))) := rfl
    omega
theorem wk_of {w : World} {lo : Nat} : ∀ (d n : Nat) (kid : Nat → DTree d) (g : Nat) (F : Nat → Nat → Value), lo ≤ g → n ≤ 1048576 → Blk w g 30 4 n n F → (∀ i, i < n → OTreeD w 30 lo d (kid i) (.agg #[F i 0, F i 1, F i 2, F i 3])) → (∀ i, i < n → szTD d (kid i) ≤ 1048576) → WKD w lo w.heap.size d n kid (.slice (some ⟨g, 0, none⟩) n n)
  | 0, n, kid, g, F, hg, hn, hb, ho, hs => by
    have h0 : n = 0 := by
      rcases Nat.eq_zero_or_pos n with h | h
      · exact h
      · exact False.elim (ho 0 h)
    subst h0
    exact ⟨rfl, _, _, rfl⟩
  | d + 1, n, kid, g, F, hg, hn, hb, ho, hs => by
    refine ⟨g, F, rfl, hg, blk_lt hb, hn, Arr.of hb, fun i hi => ?_⟩
    have h1 := ho i hi
    have h2 := hs i hi
    match hk : kid i, h1, h2 with
    | (e, h, x, m, kd), h1, h2 =>
      obtain ⟨ev, g', F', hv, o1, hg', hm, hb', ho'⟩ := h1
      have h2' : e.length + (m + sumN m (fun j => szTD d (kd j))) ≤ 1048576 := h2
      simp only [Value.agg.injEq, Array.mk.injEq, List.cons.injEq, and_true] at hv
      obtain ⟨e0, e1, e2, e3⟩ := hv
      refine ⟨?_, ?_⟩
      · rw [e0]; exact WB.of o1 (Nat.le_refl _) (by omega)
      · rw [e3]
        exact wk_of d m kd g' F' hg' (by omega) hb' ho' (fun j hj => by have := sumN_mem (fun j => szTD d (kd j)) hj; (try simp only at this); omega)

end Go.Proofs.Ytdeogmkcomdbjaa
