
/- A duty that goes on by some moments: plain mathematics; the keeper's goOn. -/
import Derived.Test.YtnklnhnjmikooaaGreatMark
import Derived.Test.YtnklnhnjmikooaaGreatElG
import Derived.Test.YtnklnhnjmikooaaGreatTo0
import Derived.Maps.AppendAt
import Derived.Test.YtnklnhnjmikooaaGreatSy3
import Derived.Test.YtnklnhnjmikooaaGreatHpZ
namespace Go.Proofs.YtnklnhnjmikooaaGreat
open Go.RowKit

/-- Memory grew, and nothing old turned but blocks of S. -/
structure Trn (S : Nat → Prop) (w w' : World) : Prop where
  os : w'.os = w.os
  tape : w'.tape = w.tape
  output : w'.output = w.output
  size : w.heap.size ≤ w'.heap.size
  block : ∀ k, k < w.heap.size → ¬ S k → w'.heap[k]? = w.heap[k]?
theorem Trn.refl (S : Nat → Prop) (w : World) : Trn S w w := ⟨rfl, rfl, rfl, Nat.le_refl _, fun _ _ _ => rfl⟩
theorem Trn.trans {S : Nat → Prop} {a b c : World} (h : Trn S a b) (k : Trn S b c) : Trn S a c := ⟨k.os.trans h.os, k.tape.trans h.tape, k.output.trans h.output, Nat.le_trans h.size k.size, fun j hj hn => (k.block j (Nat.lt_of_lt_of_le hj h.size) hn).trans (h.block j hj hn)⟩
theorem Trn.mono {S T : Nat → Prop} {a b : World} (h : Trn S a b) (k : ∀ x, S x → T x) : Trn T a b := ⟨h.os, h.tape, h.output, h.size, fun j hj hn => h.block j hj (fun e => hn (k j e))⟩
theorem Trn.one {S : Nat → Prop} {a b : World} {r : Option Nat} (h : a.grownBy b r) (k : ∀ x, r = some x → S x) : Trn S a b := ⟨h.os, h.tape, h.output, h.size, fun j hj hn => h.block j hj (fun e => hn (k j e.symm))⟩
theorem Trn.ext {S : Nat → Prop} {a b : World} (h : Ext a b) : Trn S a b := Trn.one h (fun x e => by cases e)
theorem Trn.set (S : Nat → Prop) (w : World) (g j : Nat) (u : Value) (h : S g) : Trn S w (w.setCell ⟨g, j, none⟩ u) := Trn.one (set_grown w g j u) (fun x e => by cases e; exact h)
theorem Trn.below {S : Nat → Prop} {B : Nat} {a b c : World} (hb : Below B a b) (h : Trn S b c) (hs : B ≤ b.heap.size) (k : ∀ x, S x → B ≤ x) : Below B a c := ⟨h.os.trans hb.os, h.tape.trans hb.tape, h.output.trans hb.output, Nat.le_trans hb.size h.size, fun j hj => (h.block j (by omega) (fun e => by have := k j e; omega)).trans (hb.block j hj)⟩
/-- The value owns these bytes, in a block of S. -/
def OwS (S : Nat → Prop) (w : World) (v : Value) (xs : List Int) : Prop := (Ow w 0 v xs ∧ ∀ x ∈ xs, 0 ≤ x ∧ x ≤ 255) ∧ ∀ b, v.ownBlock = some b → S b
theorem OwS.keep {S T : Nat → Prop} {w w' : World} {v : Value} {xs : List Int} (h : OwS S w v xs) (t : Trn T w w') (d : ∀ b, S b → ¬ T b) : OwS S w' v xs := by
  obtain ⟨⟨⟨h1, h2⟩, h3⟩, h4⟩ := h
  refine ⟨⟨⟨h1, ?_⟩, h3⟩, h4⟩
  rcases h2 with h2 | ⟨g, cap, cur, hv, hb, hg, r⟩
  · exact .inl h2
  · exact .inr ⟨g, cap, cur, hv, hb, (t.block g (Array.getElem?_eq_some_iff.1 hg).1 (d g (h4 g (by rw [hv]; rfl)))).trans hg, r⟩
theorem OwS.rv {S : Nat → Prop} {w : World} {v : Value} {xs : List Int} (h : OwS S w v xs) : RV w v xs := Ow.rv h.1.1 h.1.2
theorem OwS.ext {S : Nat → Prop} {w w' : World} {v : Value} {xs : List Int} (h : OwS S w v xs) (e : Ext w w') : OwS S w' v xs := ⟨⟨h.1.1.ext e, h.1.2⟩, h.2⟩
theorem OwS.mono {S T : Nat → Prop} {w : World} {v : Value} {xs : List Int} (h : OwS S w v xs) (k : ∀ x, S x → T x) : OwS T w v xs := ⟨h.1, fun b hb => k b (h.2 b hb)⟩
theorem OwS.ne {S : Nat → Prop} {w : World} {b : Nat} {v : Value} {xs : List Int} {cs : Array Value} {t : TypeId} (h : OwS S w v xs) (hb : w.heap[b]? = some (.cells cs t (0, 0))) (ht : t ≠ 5) : v.ownBlock ≠ some b := by
  intro e
  rcases h.1.1.2 with ⟨hv, _⟩ | ⟨k, c, cur, hv, _, hg, _⟩
  · rw [hv] at e; cases e
  · rw [hv] at e
    simp only [Value.ownBlock, Option.some.injEq] at e
    subst e
    rw [hb] at hg
    simp only [Option.some.injEq, Obj.cells.injEq] at hg
    exact ht hg.2.1
/-- F, but u at (i, j). -/
def updK (F : Nat → Nat → Value) (i j : Nat) (u : Value) : Nat → Nat → Value := fun a b => if a = i ∧ b = j then u else F a b
theorem updK_ne (F : Nat → Nat → Value) (i j : Nat) (u : Value) (a b : Nat) (h : a ≠ i ∨ b ≠ j) : updK F i j u a b = F a b := by
  unfold updK
  rw [if_neg]
  rintro ⟨rfl, rfl⟩
  rcases h with h | h <;> exact h rfl
theorem blk_put {w : World} {g c : Nat} {t : TypeId} {n m : Nat} {F : Nat → Nat → Value} (h : Blk w g t c n m F) (i j : Nat) (hi : i < n) (hj : j < c) (u : Value) : Blk (w.setCell ⟨g, i * c + j, none⟩ u) g t c n m (updK F i j u) := by
  obtain ⟨cur, h1, h2, h3⟩ := h
  have hc : 0 < c := by omega
  have hlt : i * c + j < n * c := by
    have : i * c + c ≤ n * c := by rw [← Nat.succ_mul]; exact Nat.mul_le_mul_right _ hi
    omega
  refine ⟨_, set_block h1 _ u, by simp [h2], fun a ha b hb => ?_⟩
  rw [Array.getElem?_setIfInBounds]
  by_cases e : i * c + j = a * c + b
  · have hd : i = a := by
      have h1 : (i * c + j) / c = i := by rw [Nat.mul_comm, Nat.mul_add_div hc, Nat.div_eq_of_lt hj, Nat.add_zero]
      have h2 : (a * c + b) / c = a := by rw [Nat.mul_comm, Nat.mul_add_div hc, Nat.div_eq_of_lt hb, Nat.add_zero]
      rw [← h1, e, h2]
    subst hd
    have hj' : j = b := by omega
    subst hj'
    rw [if_pos rfl, if_pos (by rw [h2]; exact hlt)]
    simp [updK]
  · rw [if_neg e, updK_ne _ _ _ _ _ _ (by
      by_cases h1 : a = i
      · subst h1
        exact .inr (fun h2 => e (by rw [h2]))
      · exact .inl h1)]
    exact h3 a ha b hb

end Go.Proofs.YtnklnhnjmikooaaGreat

namespace Go.Proofs.YtnklnhnjmikooaaGreat
open Go.RowKit

/-- n elements of K cells, cell by cell. -/
def cellsF (F : Nat → Nat → Value) (K : Nat) : Nat → List Value
  | 0 => []
  | n + 1 => cellsF F K n ++ (List.range K).map (F n)
theorem cellsF_len (F : Nat → Nat → Value) (K n : Nat) : (cellsF F K n).length = n * K := by
  induction n with
  | zero => simp [cellsF]
  | succ n ih => simp [cellsF, ih, Nat.succ_mul]
theorem cellsF_congr {F G : Nat → Nat → Value} {K n : Nat} (h : ∀ i, i < n → ∀ c, c < K → F i c = G i c) : cellsF F K n = cellsF G K n := by
  induction n with
  | zero => rfl
  | succ n ih =>
    simp only [cellsF]
    rw [ih (fun i hi c hc => h i (by omega) c hc)]
    congr 1
    apply List.map_congr_left
    intro c hc
    exact h n (by omega) c (List.mem_range.1 hc)
theorem cellsF_get (F : Nat → Nat → Value) (K n i c : Nat) (hi : i < n) (hc : c < K) : (cellsF F K n)[i * K + c]? = some (F i c) := by
  induction n with
  | zero => omega
  | succ n ih =>
    simp only [cellsF]
    by_cases e : i = n
    · subst e
      rw [List.getElem?_append_right (by rw [cellsF_len]; omega), cellsF_len, Nat.add_sub_cancel_left, List.getElem?_map, List.getElem?_range hc]
      rfl
    · have h1 : (i + 1) * K ≤ n * K := Nat.mul_le_mul_right K (by omega)
      rw [Nat.succ_mul] at h1
      rw [List.getElem?_append_left (by rw [cellsF_len]; omega)]
      exact ih (by omega)
theorem cellsF_of {F : Nat → Nat → Value} {K n : Nat} {xs : List Value} (hK : 0 < K) (hl : xs.length = n * K) (h : ∀ i, i < n → ∀ c, c < K → xs[i * K + c]? = some (F i c)) : xs = cellsF F K n := by
  apply List.ext_getElem?
  intro j
  by_cases hj : j < n * K
  · have h1 : j / K < n := (Nat.div_lt_iff_lt_mul hK).2 hj
    have h2 : j / K * K + j % K = j := by rw [Nat.mul_comm]; exact Nat.div_add_mod j K
    have h3 := h (j / K) h1 (j % K) (Nat.mod_lt _ hK)
    have h4 := cellsF_get F K n (j / K) (j % K) h1 (Nat.mod_lt _ hK)
    rw [h2] at h3 h4
    rw [h3, h4]
  · rw [List.getElem?_eq_none (by omega), List.getElem?_eq_none (by rw [cellsF_len]; omega)]
theorem cellsF_add (F : Nat → Nat → Value) (K n m : Nat) : cellsF F K (n + m) = cellsF F K n ++ cellsF (fun i => F (n + i)) K m := by
  induction m with
  | zero => simp [cellsF]
  | succ m ih =>
    rw [← Nat.add_assoc]
    simp only [cellsF]
    rw [ih, List.append_assoc]
theorem cellsF_mem {F : Nat → Nat → Value} {K n : Nat} {u : Value} (h : u ∈ cellsF F K n) : ∃ i c, i < n ∧ c < K ∧ u = F i c := by
  induction n with
  | zero => simp [cellsF] at h
  | succ n ih =>
    simp only [cellsF, List.mem_append, List.mem_map, List.mem_range] at h
    rcases h with h | ⟨c, hc, rfl⟩
    · obtain ⟨i, c, h1, h2, h3⟩ := ih h
      exact ⟨i, c, by omega, h2, h3⟩
    · exact ⟨n, c, by omega, hc, rfl⟩

/-- v is a row of the call's own: n elements of K cells, F's. -/
def Row (base T K : Nat) (w : World) (v : Value) (n : Nat) (F : Nat → Nat → Value) : Prop := w.ownsRow base T K v n (cellsF F K n)
theorem Row.congr {base T K : Nat} {w : World} {v : Value} {n : Nat} {F G : Nat → Nat → Value} (h : Row base T K w v n F) (e : ∀ i, i < n → ∀ c, c < K → F i c = G i c) : Row base T K w v n G := by
  unfold Row
  rw [← cellsF_congr e]
  exact h
theorem Row.nil (base T K : Nat) (w : World) (F : Nat → Nat → Value) : Row base T K w (.slice none 0 0) 0 F := World.ownsRow_nil _ _ _ _
theorem Row.blk {base T K : Nat} {w : World} {v : Value} {n : Nat} {F : Nat → Nat → Value} (h : Row base T K w v n F) :
    (v = .slice none 0 0 ∧ n = 0) ∨ ∃ g cap, v = .slice (some ⟨g, 0, none⟩) n cap ∧ base ≤ g ∧ n ≤ cap ∧ cap ≤ maxLen ∧ Blk w g T K cap n F := by
  obtain ⟨_, h2⟩ := h
  rcases h2 with ⟨hv, hn⟩ | ⟨g, cap, cur, hv, hb, hg, hc, hm, hs, ht⟩
  · exact .inl ⟨hv, hn⟩
  · refine .inr ⟨g, cap, hv, hb, hc, hm, cur, hg, hs, fun i hi j hj => ?_⟩
    have h1 := cellsF_get F K n i j hi hj
    rw [← ht, List.getElem?_take] at h1
    split at h1
    · rwa [Array.getElem?_toList] at h1
    · cases h1
theorem Row.of_blk {base T K : Nat} {w : World} {g cap n : Nat} {F : Nat → Nat → Value} (hK : 0 < K) (h : Blk w g T K cap n F) (hb : base ≤ g) (hc : n ≤ cap) (hm : cap ≤ maxLen) : Row base T K w (.slice (some ⟨g, 0, none⟩) n cap) n F := by
  obtain ⟨cur, h1, h2, h3⟩ := h
  have hle : n * K ≤ cap * K := Nat.mul_le_mul_right K hc
  refine ⟨cellsF_len _ _ _, .inr ⟨g, cap, cur, rfl, hb, h1, hc, hm, h2, ?_⟩⟩
  refine cellsF_of hK (by simp; omega) fun i hi c hc' => ?_
  have h4 : (i + 1) * K ≤ n * K := Nat.mul_le_mul_right K hi
  rw [Nat.succ_mul] at h4
  rw [List.getElem?_take_of_lt (by omega), Array.getElem?_toList]
  exact h3 i hi c hc'
theorem Row.kept {base T K : Nat} {w w' : World} {v : Value} {n : Nat} {F : Nat → Nat → Value} {row : Option Nat} (h : Row base T K w v n F) (hg : w.grownBy w' row) (hne : v.ownBlock = none ∨ v.ownBlock ≠ row) : Row base T K w' v n F := World.ownsRow.kept h hg hne
theorem Row.shape {base T K : Nat} {w : World} {v : Value} {n : Nat} {F : Nat → Nat → Value} (h : Row base T K w v n F) : ∃ a c, v = .slice a n c := by
  rcases h.blk with ⟨rfl, rfl⟩ | ⟨g, cap, rfl, _⟩ <;> exact ⟨_, _, rfl⟩

/-- What an append from whatever source finds there. -/
def Src (K : Nat) (w : World) (a : Option Addr) (m : Nat) (C : Nat → Nat → Value) : Prop := 0 < m → ∃ ad, a = some ad ∧ ∀ i, i < m → ∀ j, j < K → w.cell? (ad.add (i * K + j)) = some (C i j)
theorem Src.ext {K : Nat} {w w' : World} {a : Option Addr} {m : Nat} {C : Nat → Nat → Value} (h : Src K w a m C) (e : Ext w w') : Src K w' a m C := fun hm => by
  obtain ⟨ad, h1, h2⟩ := h hm
  exact ⟨ad, h1, fun i hi j hj => World.grownBy.cell e (h2 i hi j hj) (by simp)⟩
theorem SL.src {K : Nat} {w : World} {a : Option Addr} {n m cap : Nat} {C : Nat → Nat → Value} (h : SL w K (.slice a n cap) m C) : n = m ∧ Src K w a n C := by
  obtain ⟨a', cap', e, h1, h2, h3⟩ := h
  cases e
  refine ⟨rfl, fun hm => ?_⟩
  obtain ⟨b, o, rfl, hb, hc⟩ := h3 hm
  refine ⟨_, rfl, fun i hi j hj => ?_⟩
  rw [Addr.add_lit, ← Nat.add_assoc]
  exact hc i hi j hj

/-- F, then C's. -/
def joinF (n : Nat) (F C : Nat → Nat → Value) : Nat → Nat → Value := fun i j => if i < n then F i j else C (i - n) j

section
variable {P : Program} {T K B : Nat} {z : Value}
theorem run_rowG (hinfo : (P.info? T).map (fun i => (i.zero, i.size, i.bytes)) = some (some z, K, B)) (hz : z.cells.size = K) (hK : 0 < K) (w : World) (base : Nat) (t ty : TypeId) (ht : P.underlying t = some (.slice T)) (v : Value) (n : Nat) (F : Nat → Nat → Value) (h : Row base T K w v n F)
    (a : Option Addr) (m c : Nat) (C : Nat → Nat → Value) (hC : Src K w a m C) (h1 : ∀ i, i < m → ∀ j, j < K → (C i j).oneCell' = true) (hc : a = none → m = 0) (h63 : n + m ≤ maxLen) (hby : (n + m) * B ≤ 140737488355328) (hbase : base ≤ w.heap.size) :
    ∃ v' w', (Builtin.append_ #[t, t] ty #[v, .slice a m c]).run P w = .ok v' w' ∧ Row base T K w' v' (n + m) (joinF n F C) ∧ w.grownBy w' v.ownBlock ∧ (v'.ownBlock = v.ownBlock ∨ v'.ownBlock = some w.heap.size) := by
  obtain ⟨i0, hi, hz0, hz1, hz2⟩ := info_parts hinfo
  have hjoin : cellsF (joinF n F C) K (n + m) = cellsF F K n ++ cellsF C K m := by
    rw [cellsF_add]
    congr 1
    · exact cellsF_congr fun i hi c hc => by unfold joinF; rw [if_pos hi]
    · exact cellsF_congr fun i hi c hc => by unfold joinF; rw [if_neg (by omega), Nat.add_sub_cancel_left]
  cases a with
  | none =>
    obtain rfl := hc rfl
    refine ⟨v, w, ?_, ?_, ⟨rfl, rfl, rfl, Nat.le_refl _, fun _ _ _ => rfl⟩, .inl rfl⟩
    · rcases h.2 with ⟨rfl, rfl⟩ | ⟨g, cap, cur, rfl, _, _, hnc, _⟩
      · simp [Builtin.append_, run_underlying ht, sizeOf, typeInfo, hi, Builtin.lenOf, Builtin.firstCells]
      · simp [Builtin.append_, run_underlying ht, sizeOf, typeInfo, hi, Builtin.lenOf, Builtin.firstCells, hnc, storeCells]
    · unfold Row
      rw [hjoin]
      simp only [cellsF, List.append_nil, Nat.add_zero]
      exact h
  | some ad =>
    obtain ⟨v', w', hrun, r1, r2, _, r4⟩ := run_append_own_at (P := P) w base t ty T i0 z K B ht hi hz0 hz1 hz2 hz hK v n _ h ad m c (cellsF C K m) (cellsF_len _ _ _) (fun j u hj => by
      have hjl := (List.getElem?_eq_some_iff.1 hj).1
      rw [cellsF_len] at hjl
      have hm : 0 < m := by
        rcases Nat.eq_zero_or_pos m with e | e
        · subst e; simp at hjl
        · exact e
      obtain ⟨ad', e, hc'⟩ := hC hm
      cases e
      have e1 : j / K < m := (Nat.div_lt_iff_lt_mul hK).2 hjl
      have e2 : j / K * K + j % K = j := by rw [Nat.mul_comm]; exact Nat.div_add_mod j K
      have e3 := hc' (j / K) e1 (j % K) (Nat.mod_lt _ hK)
      have e4 := cellsF_get C K m (j / K) (j % K) e1 (Nat.mod_lt _ hK)
      rw [e2] at e3 e4
      rw [e4] at hj
      cases hj
      exact e3) (fun u hu => by
      obtain ⟨i, c', hi', hc', rfl⟩ := cellsF_mem hu
      exact h1 i hi' c' hc') h63 hby hbase
    refine ⟨v', w', hrun, ?_, r2, r4⟩
    unfold Row
    rw [hjoin]
    exact r1

theorem wpList_rowG (hinfo : (P.info? T).map (fun i => (i.zero, i.size, i.bytes)) = some (some z, K, B)) (hz : z.cells.size = K) (hK : 0 < K) (w : World) {ops : Array Oper} {rest : List Oper} {o : Oper} {act : Act} {Q : Exit → Act → World → Prop} (hgd : o.guard = none) (s x : Operand) (t : TypeId) (ht : P.underlying t = some (.slice T))
    (ho : o.op = .call { callee := .builtin .append, args := #[s, x], argTypes := #[t, t] }) (base : Nat) (v : Value) (n : Nat) (F : Nat → Nat → Value) (hs : act.eval s = v) (h : Row base T K w v n F)
    (a : Option Addr) (m c : Nat) (C : Nat → Nat → Value) (hx : act.eval x = .slice a m c) (hC : Src K w a m C) (h1 : ∀ i, i < m → ∀ j, j < K → (C i j).oneCell' = true) (hc : a = none → m = 0) (h63 : n + m ≤ maxLen) (hby : (n + m) * B ≤ 140737488355328) (hbase : base ≤ w.heap.size)
    (k : ∀ v' w', Row base T K w' v' (n + m) (joinF n F C) → w.grownBy w' v.ownBlock → (v'.ownBlock = v.ownBlock ∨ v'.ownBlock = some w.heap.size) → wpList P ops Q rest (act.put o.dst v') w') : wpList P ops Q (o :: rest) act w := by
  obtain ⟨v', w', hrun, r1, r2, r4⟩ := run_rowG hinfo hz hK w base t o.type ht v n F h a m c C hC h1 hc h63 hby hbase
  refine wpList_plain hgd fun K' hK' => ?_
  unfold Oper.wp execOp
  simp only [ho, resolve, invoke, builtin, Sem.run_bind, Sem.run_pure, Result.andThen_ok, List.map_toArray, List.map_cons, List.map_nil, hs, hx, hrun]
  exact hK' _ _ (k v' w' r1 r2 r4)

theorem step_rowG (hinfo : (P.info? T).map (fun i => (i.zero, i.size, i.bytes)) = some (some z, K, B)) (hz : z.cells.size = K) (hK : 0 < K) {ops : Array Oper} {o : Oper} {act : Act} {w : World} {KK : Act → World → Prop} {Q : Exit → Act → World → Prop} {E : Prop} (hgd : o.guard = none) (s x : Operand) (t : TypeId) (ht : P.underlying t = some (.slice T))
    (ho : o.op = .call { callee := .builtin .append, args := #[s, x], argTypes := #[t, t] }) (base : Nat) (v : Value) (n : Nat) (F : Nat → Nat → Value) (hs : act.eval s = v) (h : Row base T K w v n F)
    (a : Option Addr) (m c : Nat) (C : Nat → Nat → Value) (hx : act.eval x = .slice a m c) (hC : Src K w a m C) (h1 : ∀ i, i < m → ∀ j, j < K → (C i j).oneCell' = true) (hc : a = none → m = 0) (h63 : n + m ≤ maxLen) (hby : (n + m) * B ≤ 140737488355328) (hbase : base ≤ w.heap.size)
    (k : ∀ v' w', Row base T K w' v' (n + m) (joinF n F C) → w.grownBy w' v.ownBlock → (v'.ownBlock = v.ownBlock ∨ v'.ownBlock = some w.heap.size) → KK (act.put o.dst v') w') :
    if Region.wanted o (yielded ops act.tmps) = true then Oper.wp P o act w KK Q else E := by
  have hw : Region.wanted o (yielded ops act.tmps) = true := by simp [Region.wanted, hgd]
  rw [if_pos hw]
  obtain ⟨v', w', hrun, r1, r2, r4⟩ := run_rowG hinfo hz hK w base t o.type ht v n F h a m c C hC h1 hc h63 hby hbase
  unfold Oper.wp execOp
  simp only [ho, resolve, invoke, builtin, Sem.run_bind, Sem.run_pure, Result.andThen_ok, List.map_toArray, List.map_cons, List.map_nil, hs, hx, hrun]
  exact k v' w' r1 r2 r4
end

end Go.Proofs.YtnklnhnjmikooaaGreat

namespace Go.Proofs.YtnklnhnjmikooaaGreat
open Go.RowKit

/-- Those who rang ring again. -/
def ringS (ttl : Int) (ids : List Int) (W : DWheel) : DWheel := ids.foldl (fun W id => (setD true W id ttl).1) W
/-- The duty behind n moments, and who is to be shut (b: the duty, the state and the number may be). -/
def tickX (b : Bool) (D : DDuty) (ss : List DSess) (n : Int) : DDuty × List Int :=
  if b then (⟨D.ttl, ringS D.ttl (tickD true (syncW D ss).1 n).2 (tickD true (syncW D ss).1 n).1⟩, (tickD true (syncW D ss).1 n).2) else (⟨0, ⟨0, []⟩⟩, [])
/-- The cells of the operations that shut these. -/
def opF (ids : List Int) : Nat → Nat → Value := fun i j => if j = 0 then .int .i64 5 else if j = 3 then .int .i64 (ids.getD i 0) else .slice none 0 0
theorem tickD_p {W : DWheel} {n : Int} (h : WheelP W) (h0 : 0 ≤ n) (h1 : n ≤ 1000000 - W.now) : WheelP (tickD true W n).1 := by
  unfold tickD
  rw [if_pos rfl, if_pos (by simp only [Bool.and_eq_true, decide_eq_true_eq]; exact ⟨h0, h1⟩)]
  exact wq_to (wq_tick (wq_of h) h0 h1)
theorem tickD_len (W : DWheel) (n : Int) : (tickD true W n).2.length ≤ W.tms.length := by
  unfold tickD
  rw [if_pos rfl]
  split
  · rw [List.length_map]
    exact List.length_filter_le _ _
  · exact Nat.zero_le _
theorem ringS_next {ttl : Int} {ids : List Int} {W : DWheel} {j : Nat} {id : Int} (h : ids[j]? = some id) : ringS ttl (ids.take (j + 1)) W = (setD true (ringS ttl (ids.take j) W) id ttl).1 := by
  have : ids.take (j + 1) = ids.take j ++ [id] := by rw [List.take_add_one, h]; rfl
  rw [this]
  unfold ringS
  rw [List.foldl_append]
  rfl
theorem ringS_p (ttl : Int) (ids : List Int) : ∀ {W : DWheel}, WheelP W → WheelP (ringS ttl ids W) := by
  induction ids with
  | nil => exact fun h => h
  | cons i ids ih => exact fun h => ih (setD_p h)
theorem opF_next {ids : List Int} {j : Nat} {id : Int} (h : ids[j]? = some id) (i c : Nat) (hi : i < j + 1) : joinF j (opF ids) (fun _ c => if c = 0 then .int .i64 5 else if c = 3 then .int .i64 id else .slice none 0 0) i c = opF ids i c := by
  unfold joinF
  by_cases h1 : i < j
  · rw [if_pos h1]
  · obtain rfl : i = j := by omega
    rw [if_neg h1]
    unfold opF
    simp [List.getD, h]

set_option maxRecDepth 20000 in
set_option maxHeartbeats 2000000 in
theorem goOnV (h base cap : Nat) (ttl now : Int) (a : Option Addr) (ts : List DTim) (k : Int) (w : World) (p : KB w base h ttl now a cap ts) (hb : base ≤ w.heap.size) (hl : ts.length ≤ 1048576) :
    Calls Tryz.prog 54 #[.pointer (some ⟨h, 0, none⟩), .int .i64 k] w fun e w' => ∃ rv, e = .returned rv ∧ OwI w' w.heap.size rv (tickD (tB (WheelP ⟨now, ts⟩)) ⟨now, ts⟩ k).2 ∧ KSet base h ttl (tickD (tB (WheelP ⟨now, ts⟩)) ⟨now, ts⟩ k).1 w w' := by
  obtain ⟨c0, c1, _, _, _⟩ := p.cells
  have HP : Hid (KB w base h ttl now a cap ts) := p
  have HBB : Hid (base ≤ w.heap.size) := hb
  have HL : Hid (ts.length ≤ 1048576) := hl
  obtain ⟨n, hn⟩ : ∃ n, n = ts.length := ⟨_, rfl⟩
  rw [← hn] at c1
  have HV : Hid (VTims w (.slice a n cap) ts) := by rw [hn]; exact p.row.v
  obtain ⟨⟨R, ids⟩, hR⟩ : ∃ R, R = tickD (tB (WheelP ⟨now, ts⟩)) ⟨now, ts⟩ k := ⟨_, rfl⟩
  rw [← hR]
  have HR : Hid ((R, ids) = tickD (tB (WheelP ⟨now, ts⟩)) ⟨now, ts⟩ k) := hR
  clear hn p hR hb hl
  go_enter Tryz.func54, Tryz.ntmps54
  go_wp2_with fail
  refine (iTickV _ ⟨now, ts⟩ k w ⟨_, rfl, HV.out⟩ HL.out).mono ?_
  rintro e w1 ⟨tv, rv, rfl, o1, i1, b1⟩
  rw [← HR.out] at o1 i1 ⊢
  obtain ⟨m, hm⟩ : ∃ m, m = R.tms.length := ⟨_, rfl⟩
  obtain ⟨a1, c1', rfl⟩ := o1.v.shape
  have HO : Hid (OwT w1 w.heap.size (.slice a1 R.tms.length c1') R.tms) := o1
  have HI : Hid (OwI w1 w.heap.size rv ids) := i1
  have HM : Hid (m = R.tms.length) := hm
  have hrv : ∃ ra rc, rv = .slice ra ids.length rc := by
    rcases i1.2 with ⟨h1, h2⟩ | ⟨g, c, cur, h1, _⟩
    · exact ⟨none, 0, by rw [h1, h2]⟩
    · exact ⟨_, c, h1⟩
  obtain ⟨ra, rc, rfl⟩ := hrv
  obtain ⟨q, hq⟩ : ∃ q, q = ids.length := ⟨_, rfl⟩
  rw [← hq] at HI
  rw [← hm, ← hq]
  have HW2 : Hid (∀ V, V = w1.alloc (.cells #[.int .i64 R.now, .slice a1 m c1'] 37 (0, 0)) → Below w.heap.size w V ∧ OwT V w.heap.size (.slice a1 R.tms.length c1') R.tms ∧ OwI V w.heap.size (.slice ra q rc) ids ∧ V.heap[w1.heap.size]? = some (.cells #[.int .i64 R.now, .slice a1 m c1'] 37 (0, 0))) := fun V hV => by
    subst hV
    exact ⟨b1.alloc b1.size _, HO.out.alloc _, World.ownsRow.kept HI.out (World.grownBy_alloc _ _ none) (by cases (Value.slice ra q rc).ownBlock <;> simp), heap_alloc_new _ _⟩
  clear o1 i1 hm hq b1 c0 c1
  go_upto_region 2 with fail
  generalize hV : w1.alloc _ = w2
  obtain ⟨b2, o2, i2, P2⟩ := HW2.out w2 hV.symm
  clear hV HW2
  have HB2 := hideD b2
  have HO2 := hideD o2
  have HI2 := hideD i2
  have P1 := below_blk b2 (Array.getElem?_eq_some_iff.1 HP.out.box).1 HP.out.box
  obtain ⟨x0, f0⟩ := at_block P1 0 _ rfl
  obtain ⟨x1, f1⟩ := at_block P1 1 _ rfl
  obtain ⟨z0, _⟩ := at_block P2 0 _ rfl
  obtain ⟨z1, _⟩ := at_block P2 1 _ rfl
  clear P1 P2 b2 o2 i2
  go_wp2
  go_ret
  refine ⟨_, rfl, ?_, a1, c1', ?_⟩
  · have hne : (Value.slice ra q rc).ownBlock = none ∨ (Value.slice ra q rc).ownBlock ≠ some h := by
      right
      intro e
      have := (World.ownsRow.lt HI2.out _ e).1
      have := (Array.getElem?_eq_some_iff.1 HP.out.box).1
      omega
    exact World.ownsRow.kept (World.ownsRow.kept HI2.out (set_grown _ _ _ _) hne) (set_grown _ _ _ _) hne
  · rw [HM.out]
    exact HP.out.put HB2.out HBB.out HO2.out _ _ rfl rfl

end Go.Proofs.YtnklnhnjmikooaaGreat

