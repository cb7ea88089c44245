
/- 'copy' at rows of structs; a row in which one element was inserted. It holds over every program. -/
import Derived.Test.YtjkhadaoldbceaaDlG
import Derived.Test.YtjkhadaoldbceaaOwP
import Derived.Laws.CopyOwn
import Derived.Laws.Externs
import Derived.Lib.Overlaps
namespace Go.Proofs.Ytjkhadaoldbceaa
open Go.RowKit

section
variable {P : Program} {T K B : Nat} {z : Value}
theorem run_copyG (hinfo : (P.info? T).map (fun i => (i.zero, i.size, i.bytes)) = some (some z, K, B)) (w : World) (t ty : TypeId) (ht : P.underlying t = some (.slice T)) (g off dLen dCap : Nat) (a : Addr) (sLen sCap : Nat) (cur cs : List Value) (hg : w.heap[g]? = some (.cells cur.toArray T (0, 0))) (hn : cs.length = Nat.min sLen dLen * K)
    (hsrc : ∀ (j : Nat) v, cs[j]? = some v → w.cell? (a.add j) = some v) (hfit : off + cs.length ≤ cur.length) (h1 : ∀ v ∈ cs, v.oneCell' = true) :
    (Builtin.copy_ #[t, t] ty #[.slice (some ⟨g, off, none⟩) dLen dCap, .slice (some a) sLen sCap]).run P w = .ok (goInt (Nat.min sLen dLen)) (w.setRow g (splice cur off cs).toArray) := by
  obtain ⟨i0, hi, hz0, hz1, hz2⟩ := info_parts hinfo
  have hl := run_loadCells_list (P := P) w a cs hsrc
  have hst := run_storeCells_at P g off T cs 0 cur.toArray w hg (by simpa using hfit) h1
  simp [Builtin.copy_, run_underlying ht, Builtin.lenOf, Builtin.firstCells, sizeOf, typeInfo, hi, hz1, ← hn, hl, hst, splice]
theorem setRow_grownG (w : World) (g : Nat) (cs : Array Value) : w.grownBy (w.setRow g cs) (some g) := ⟨rfl, rfl, rfl, by simp [World.setRow], fun k _ hk => setRow_other w g k cs (fun e => hk (by rw [e]))⟩
theorem wpList_copyG (hinfo : (P.info? T).map (fun i => (i.zero, i.size, i.bytes)) = some (some z, K, B)) {w : World} {ops : Array Oper} {rest : List Oper} {o : Oper} {a : Act} {Q : Exit → Act → World → Prop} (hgd : o.guard = none) (d s : Operand) (t : TypeId) (ht : P.underlying t = some (.slice T))
    (ho : o.op = .call { callee := .builtin .copy, args := #[d, s], argTypes := #[t, t] }) (g off dLen dCap : Nat) (ad : Addr) (sLen sCap : Nat) (hd : a.eval d = .slice (some ⟨g, off, none⟩) dLen dCap) (hs : a.eval s = .slice (some ad) sLen sCap)
    (cur cs : List Value) (hg : w.heap[g]? = some (.cells cur.toArray T (0, 0))) (hn : cs.length = Nat.min sLen dLen * K) (hsrc : ∀ (j : Nat) v, cs[j]? = some v → w.cell? (ad.add j) = some v) (hfit : off + cs.length ≤ cur.length) (h1 : ∀ v ∈ cs, v.oneCell' = true)
    (h : ∀ w', Hid (w'.heap[g]? = some (.cells (splice cur off cs).toArray T (0, 0))) → w.grownBy w' (some g) → wpList P ops Q rest (a.put o.dst (goInt (Nat.min sLen dLen))) w') : wpList P ops Q (o :: rest) a w := by
  refine wpList_plain hgd fun K hK => ?_
  have hrun := run_copyG hinfo w t o.type ht g off dLen dCap ad sLen sCap cur cs hg hn hsrc hfit h1
  unfold Oper.wp execOp
  simp only [ho, resolve, invoke, builtin, Sem.run_bind, Sem.run_pure, Result.andThen_ok, List.map_toArray, List.map_cons, List.map_nil, hd, hs, hrun]
  exact hK _ _ (h _ (setRow_heap w g _ _ _ _ hg) (setRow_grownG _ _ _))
theorem step_copyG (hinfo : (P.info? T).map (fun i => (i.zero, i.size, i.bytes)) = some (some z, K, B)) {ops : Array Oper} {o : Oper} {a : Act} {w : World} {KK : Act → World → Prop} {Q : Exit → Act → World → Prop} {E : Prop} (hgd : o.guard = none) (d s : Operand) (t : TypeId) (ht : P.underlying t = some (.slice T))
    (ho : o.op = .call { callee := .builtin .copy, args := #[d, s], argTypes := #[t, t] }) (g off dLen dCap : Nat) (ad : Addr) (sLen sCap : Nat) (hd : a.eval d = .slice (some ⟨g, off, none⟩) dLen dCap) (hs : a.eval s = .slice (some ad) sLen sCap)
    (cur cs : List Value) (hg : w.heap[g]? = some (.cells cur.toArray T (0, 0))) (hn : cs.length = Nat.min sLen dLen * K) (hsrc : ∀ (j : Nat) v, cs[j]? = some v → w.cell? (ad.add j) = some v) (hfit : off + cs.length ≤ cur.length) (h1 : ∀ v ∈ cs, v.oneCell' = true)
    (h : ∀ w', Hid (w'.heap[g]? = some (.cells (splice cur off cs).toArray T (0, 0))) → w.grownBy w' (some g) → KK (a.put o.dst (goInt (Nat.min sLen dLen))) w') :
    if Region.wanted o (yielded ops a.tmps) = true then Oper.wp P o a w KK Q else E := by
  have hw : Region.wanted o (yielded ops a.tmps) = true := by simp [Region.wanted, hgd]
  rw [if_pos hw]
  have hrun := run_copyG hinfo w t o.type ht g off dLen dCap ad sLen sCap cur cs hg hn hsrc hfit h1
  unfold Oper.wp execOp
  simp only [ho, resolve, invoke, builtin, Sem.run_bind, Sem.run_pure, Result.andThen_ok, List.map_toArray, List.map_cons, List.map_nil, hd, hs, hrun]
  exact h _ (setRow_heap w g _ _ _ _ hg) (setRow_grownG _ _ _)
end

/-- Shifted up in place, then laid in the gap. -/
theorem splice_shiftG (K : Nat) (A B C V : List Value) (hV : V.length = K) (hC : K ≤ C.length) : ∃ D, splice (splice (A ++ B ++ C) (A.length + K) B) A.length V = A ++ V ++ B ++ D := by
  have h1 : ((A ++ B ++ C).take (A.length + K)).length = A.length + K := by simp; omega
  refine ⟨(A ++ B ++ C).drop (A.length + K + B.length), ?_⟩
  unfold splice
  rw [List.take_append_of_le_length (by omega), List.take_take, show min A.length (A.length + K) = A.length by omega, List.append_assoc A B C, List.take_left' rfl, hV, List.drop_left' (by simpa [List.append_assoc] using h1)]
  simp [List.append_assoc]
/-- Laid into a row that was made. -/
theorem splice_fillG (K : Nat) (A Z V B : List Value) (hV : V.length = K) : ∃ D, splice (splice (A ++ Z) A.length V) (A.length + K) B = A ++ V ++ B ++ D := by
  have h2 : splice (A ++ Z) A.length V = A ++ V ++ Z.drop K := by
    unfold splice
    rw [List.take_left' rfl, hV, List.drop_append, List.drop_of_length_le (by omega)]
    simp
  rw [h2]
  unfold splice
  rw [List.take_left' (by simp [hV])]
  exact ⟨_, by rw [List.append_assoc (A ++ V) B]⟩

/-- Rows with one more, G, at place i. -/
def insF {β : Type} (i : Nat) (F : Nat → β) (G : β) : Nat → β := fun a => if a < i then F a else if a = i then G else F (a - 1)
theorem insF_lo {β : Type} {i a : Nat} {F : Nat → β} {G : β} (h : a < i) : insF i F G a = F a := if_pos h
theorem insF_at {β : Type} {i : Nat} {F : Nat → β} {G : β} : insF i F G i = G := by unfold insF; rw [if_neg (Nat.lt_irrefl _), if_pos rfl]
theorem insF_hi {β : Type} {i a : Nat} {F : Nat → β} {G : β} (h : i < a) : insF i F G a = F (a - 1) := by unfold insF; rw [if_neg (by omega), if_neg (by omega)]
theorem cellsF_ins (F : Nat → Nat → Value) (G : Nat → Value) (K n i : Nat) (hi : i ≤ n) : cellsF (insF i F G) K (n + 1) = cellsF F K i ++ (List.range K).map G ++ cellsF (fun a => F (i + a)) K (n - i) := by
  rw [show n + 1 = i + 1 + (n - i) by omega, cellsF_add]
  have h1 : cellsF (insF i F G) K (i + 1) = cellsF F K i ++ (List.range K).map G := by
    show cellsF (insF i F G) K i ++ (List.range K).map (insF i F G i) = _
    rw [insF_at, cellsF_congr (G := F) fun a ha c _ => by rw [insF_lo ha]]
  rw [h1, cellsF_congr (F := fun a => insF i F G (i + 1 + a)) (G := fun a => F (i + a)) fun a _ c _ => by rw [insF_hi (by omega), show i + 1 + a - 1 = i + a by omega]]
/-- The cells of a row. -/
theorem blk_cells {w : World} {g T K cap n : Nat} {F : Nat → Nat → Value} (h : Blk w g T K cap n F) (hc : n ≤ cap) : ∃ cur : List Value, w.heap[g]? = some (.cells cur.toArray T (0, 0)) ∧ cur.length = cap * K ∧ cur.take (n * K) = cellsF F K n := by
  obtain ⟨cur, h1, h2, h3⟩ := h
  have hle : n * K ≤ cap * K := Nat.mul_le_mul_right K hc
  refine ⟨cur.toList, by simpa using h1, by simpa using h2, ?_⟩
  rcases Nat.eq_zero_or_pos K with h0 | h0
  · subst h0
    have e1 := cellsF_len F 0 n
    rw [Nat.mul_zero] at e1
    rw [List.eq_nil_of_length_eq_zero e1]
    simp
  refine cellsF_of h0 (by simp; omega) fun i hi c hc' => ?_
  have h4 : (i + 1) * K ≤ n * K := Nat.mul_le_mul_right K hi
  rw [Nat.succ_mul] at h4
  rw [List.getElem?_take_of_lt (by omega), Array.getElem?_toList]
  exact h3 i hi c hc'
theorem blk_ins {w : World} {g T K cap n i : Nat} {F : Nat → Nat → Value} {G : Nat → Value} {cur D : List Value} (hg : w.heap[g]? = some (.cells cur.toArray T (0, 0))) (hl : cur.length = cap * K) (hc : cur = cellsF F K i ++ (List.range K).map G ++ cellsF (fun a => F (i + a)) K (n - i) ++ D) (hi : i ≤ n) : Blk w g T K cap (n + 1) (insF i F G) := by
  refine ⟨cur.toArray, hg, by simpa using hl, fun a ha j hj => ?_⟩
  rw [← cellsF_ins F G K n i hi] at hc
  have h1 := cellsF_get (insF i F G) K (n + 1) a j ha hj
  rw [List.getElem?_toArray, hc, List.getElem?_append_left (List.getElem?_eq_some_iff.1 h1).1]
  exact h1
theorem cellsF_one {F : Nat → Nat → Value} {K n : Nat} (h : ∀ a, a < n → ∀ j, j < K → (F a j).oneCell' = true) : ∀ v ∈ cellsF F K n, v.oneCell' = true := fun v hv => by
  obtain ⟨i, c, hi, hc, rfl⟩ := cellsF_mem hv
  exact h i hi c hc

section
variable {α : Type} {T K : Nat} {own : (Nat → Prop) → World → (Nat → Value) → α → Prop} {S : Nat → Prop} {w w' : World} {g cap : Nat} {xs : List α} {F : Nat → Nat → Value} {N : Nat → Nat → Prop}
theorem ins_get {l : List α} {i : Nat} {x : α} (hi : i ≤ l.length) (a : Nat) : (l.take i ++ x :: l.drop i)[a]? = if a < i then l[a]? else if a = i then some x else l[a - 1]? := by
  have hl : (l.take i).length = i := by rw [List.length_take]; omega
  by_cases h1 : a < i
  · rw [if_pos h1, List.getElem?_append_left (by omega), List.getElem?_take_of_lt h1]
  · rw [if_neg h1, List.getElem?_append_right (by omega), hl]
    by_cases h2 : a = i
    · rw [if_pos h2, h2, Nat.sub_self]; rfl
    · rw [if_neg h2]
      obtain ⟨k, rfl⟩ : ∃ k, a = i + 1 + k := ⟨a - (i + 1), by omega⟩
      rw [show i + 1 + k - i = k + 1 by omega, List.getElem?_cons_succ, List.getElem?_drop, show i + 1 + k - 1 = i + k by omega]
/-- One element more at place i, in the same block or a new one: what it owns is M. -/
theorem OWB.insert {R M : Nat → Prop} {g' cap' i : Nat} {G : Nat → Value} {x : α} (hk : Keeps own) (h : OWB T K own S w g cap xs F N) (hi : i ≤ xs.length) (hb : Blk w' g' T K cap' (xs.length + 1) (insF i F G)) (hc : xs.length + 1 ≤ cap') (hm : cap' ≤ maxLen) (ho : own M w' G x) (t : Trn R w w') (hR : ∀ a b, N a b → ¬ R b) (hM : ∀ b, M b → b ≠ g' ∧ ¬ S b) (hg : g' = g ∨ ¬ S g') :
    OWB T K own (fun b => S b ∨ M b ∨ b = g') w' g' cap' (xs.take i ++ x :: xs.drop i) (insF i F G) (insF i N M) := by
  have hl : (xs.take i ++ x :: xs.drop i).length = xs.length + 1 := by simp; omega
  have hng : ∀ a b, N a b → b ≠ g' := fun a b hb e => by
    rcases hg with h1 | h1
    · exact (h.rng a b hb).2 (e.trans h1)
    · exact h1 (e ▸ (h.rng a b hb).1)
  have key : ∀ a b, insF i N M a b → (a = i ∧ M b) ∨ (∃ c, N c b ∧ (a < i ∧ c = a ∨ i < a ∧ c + 1 = a)) := fun a b hb => by
    rcases Nat.lt_trichotomy a i with h1 | h1 | h1
    · rw [insF_lo h1] at hb
      exact .inr ⟨a, hb, .inl ⟨h1, rfl⟩⟩
    · subst h1
      rw [insF_at] at hb
      exact .inl ⟨rfl, hb⟩
    · rw [insF_hi h1] at hb
      exact .inr ⟨a - 1, hb, .inr ⟨h1, by omega⟩⟩
  refine ⟨by rw [hl]; exact hc, hm, .inr (.inr rfl), by rw [hl]; exact hb, fun a c b hac ha hc' => ?_, fun a b hb' => ?_, fun a y hy => ?_⟩
  · rcases key a b ha with ⟨e1, k1⟩ | ⟨p, k1, e1⟩
    · rcases key c b hc' with ⟨e2, k2⟩ | ⟨q, k2, e2⟩
      · omega
      · exact (hM b k1).2 (h.rng q b k2).1
    · rcases key c b hc' with ⟨e2, k2⟩ | ⟨q, k2, e2⟩
      · exact (hM b k2).2 (h.rng p b k1).1
      · exact h.dis p q b (by omega) k1 k2
  · rcases key a b hb' with ⟨e1, k1⟩ | ⟨p, k1, e1⟩
    · exact ⟨.inr (.inl k1), (hM b k1).1⟩
    · exact ⟨.inl (h.rng p b k1).1, hng p b k1⟩
  · rw [ins_get hi] at hy
    rcases Nat.lt_trichotomy a i with h1 | h1 | h1
    · rw [if_pos h1] at hy
      rw [insF_lo h1, insF_lo h1]
      exact hk _ _ _ _ _ _ (h.own a y hy) t (hR a)
    · subst h1
      rw [if_neg (Nat.lt_irrefl _), if_pos rfl] at hy
      cases hy
      rw [insF_at, insF_at]
      exact ho
    · rw [if_neg (by omega), if_neg (by omega)] at hy
      rw [insF_hi h1, insF_hi h1]
      exact hk _ _ _ _ _ _ (h.own (a - 1) y hy) t (hR (a - 1))
end

end Go.Proofs.Ytjkhadaoldbceaa
