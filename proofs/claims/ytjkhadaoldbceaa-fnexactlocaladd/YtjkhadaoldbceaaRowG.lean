
/- Rows of structs of the call's own: their cells, and appends to them from whatever source. It holds over every program. -/
import Derived.Test.YtjkhadaoldbceaaSetO
import Derived.Maps.AppendAt
namespace Go.Proofs.Ytjkhadaoldbceaa
open Go.RowKit

/-- n elements of K cells, cell by cell. -/
def cellsF (F : Nat → Nat → Value) (K : Nat) : Nat → List Value
  | 0 => []
  | n + 1 => cellsF F K n ++ (List.range K).map (F n)
theorem cellsF_len (F : Nat → Nat → Value) (K n : Nat) : (cellsF F K n).length = n * K := by
  induction n with
  | zero => simp [cellsF]
  | succ n ih => simp [cellsF, ih, Nat.succ_mul]
theorem cellsF_congr {F G : Nat → Nat → Value} {K n : Nat} (h : ∀ i, i < n → ∀ c, c < K → F i c = G i c) : cellsF F K n = cellsF G K n := by
  induction n with
  | zero => rfl
  | succ n ih =>
    simp only [cellsF]
    rw [ih (fun i hi c hc => h i (by omega) c hc)]
    congr 1
    apply List.map_congr_left
    intro c hc
    exact h n (by omega) c (List.mem_range.1 hc)
theorem cellsF_get (F : Nat → Nat → Value) (K n i c : Nat) (hi : i < n) (hc : c < K) : (cellsF F K n)[i * K + c]? = some (F i c) := by
  induction n with
  | zero => omega
  | succ n ih =>
    simp only [cellsF]
    by_cases e : i = n
    · subst e
      rw [List.getElem?_append_right (by rw [cellsF_len]; omega), cellsF_len, Nat.add_sub_cancel_left, List.getElem?_map, List.getElem?_range hc]
      rfl
    · have h1 : (i + 1) * K ≤ n * K := Nat.mul_le_mul_right K (by omega)
      rw [Nat.succ_mul] at h1
      rw [List.getElem?_append_left (by rw [cellsF_len]; omega)]
      exact ih (by omega)
theorem cellsF_of {F : Nat → Nat → Value} {K n : Nat} {xs : List Value} (hK : 0 < K) (hl : xs.length = n * K) (h : ∀ i, i < n → ∀ c, c < K → xs[i * K + c]? = some (F i c)) : xs = cellsF F K n := by
  apply List.ext_getElem?
  intro j
  by_cases hj : j < n * K
  · have h1 : j / K < n := (Nat.div_lt_iff_lt_mul hK).2 hj
    have h2 : j / K * K + j % K = j := by rw [Nat.mul_comm]; exact Nat.div_add_mod j K
    have h3 := h (j / K) h1 (j % K) (Nat.mod_lt _ hK)
    have h4 := cellsF_get F K n (j / K) (j % K) h1 (Nat.mod_lt _ hK)
    rw [h2] at h3 h4
    rw [h3, h4]
  · rw [List.getElem?_eq_none (by omega), List.getElem?_eq_none (by rw [cellsF_len]; omega)]
theorem cellsF_add (F : Nat → Nat → Value) (K n m : Nat) : cellsF F K (n + m) = cellsF F K n ++ cellsF (fun i => F (n + i)) K m := by
  induction m with
  | zero => simp [cellsF]
  | succ m ih =>
    rw [← Nat.add_assoc]
    simp only [cellsF]
    rw [ih, List.append_assoc]
theorem cellsF_mem {F : Nat → Nat → Value} {K n : Nat} {u : Value} (h : u ∈ cellsF F K n) : ∃ i c, i < n ∧ c < K ∧ u = F i c := by
  induction n with
  | zero => simp [cellsF] at h
  | succ n ih =>
    simp only [cellsF, List.mem_append, List.mem_map, List.mem_range] at h
    rcases h with h | ⟨c, hc, rfl⟩
    · obtain ⟨i, c, h1, h2, h3⟩ := ih h
      exact ⟨i, c, by omega, h2, h3⟩
    · exact ⟨n, c, by omega, hc, rfl⟩

/-- v is a row of the call's own: n elements of K cells, F's. -/
def Row (base T K : Nat) (w : World) (v : Value) (n : Nat) (F : Nat → Nat → Value) : Prop := w.ownsRow base T K v n (cellsF F K n)
theorem Row.congr {base T K : Nat} {w : World} {v : Value} {n : Nat} {F G : Nat → Nat → Value} (h : Row base T K w v n F) (e : ∀ i, i < n → ∀ c, c < K → F i c = G i c) : Row base T K w v n G := by
  unfold Row
  rw [← cellsF_congr e]
  exact h
theorem Row.nil (base T K : Nat) (w : World) (F : Nat → Nat → Value) : Row base T K w (.slice none 0 0) 0 F := World.ownsRow_nil _ _ _ _
theorem Row.blk {base T K : Nat} {w : World} {v : Value} {n : Nat} {F : Nat → Nat → Value} (h : Row base T K w v n F) :
    (v = .slice none 0 0 ∧ n = 0) ∨ ∃ g cap, v = .slice (some ⟨g, 0, none⟩) n cap ∧ base ≤ g ∧ n ≤ cap ∧ cap ≤ maxLen ∧ Blk w g T K cap n F := by
  obtain ⟨_, h2⟩ := h
  rcases h2 with ⟨hv, hn⟩ | ⟨g, cap, cur, hv, hb, hg, hc, hm, hs, ht⟩
  · exact .inl ⟨hv, hn⟩
  · refine .inr ⟨g, cap, hv, hb, hc, hm, cur, hg, hs, fun i hi j hj => ?_⟩
    have h1 := cellsF_get F K n i j hi hj
    rw [← ht, List.getElem?_take] at h1
    split at h1
    · rwa [Array.getElem?_toList] at h1
    · cases h1
theorem Row.of_blk {base T K : Nat} {w : World} {g cap n : Nat} {F : Nat → Nat → Value} (hK : 0 < K) (h : Blk w g T K cap n F) (hb : base ≤ g) (hc : n ≤ cap) (hm : cap ≤ maxLen) : Row base T K w (.slice (some ⟨g, 0, none⟩) n cap) n F := by
  obtain ⟨cur, h1, h2, h3⟩ := h
  have hle : n * K ≤ cap * K := Nat.mul_le_mul_right K hc
  refine ⟨cellsF_len _ _ _, .inr ⟨g, cap, cur, rfl, hb, h1, hc, hm, h2, ?_⟩⟩
  refine cellsF_of hK (by simp; omega) fun i hi c hc' => ?_
  have h4 : (i + 1) * K ≤ n * K := Nat.mul_le_mul_right K hi
  rw [Nat.succ_mul] at h4
  rw [List.getElem?_take_of_lt (by omega), Array.getElem?_toList]
  exact h3 i hi c hc'
theorem Row.kept {base T K : Nat} {w w' : World} {v : Value} {n : Nat} {F : Nat → Nat → Value} {row : Option Nat} (h : Row base T K w v n F) (hg : w.grownBy w' row) (hne : v.ownBlock = none ∨ v.ownBlock ≠ row) : Row base T K w' v n F := World.ownsRow.kept h hg hne
theorem Row.shape {base T K : Nat} {w : World} {v : Value} {n : Nat} {F : Nat → Nat → Value} (h : Row base T K w v n F) : ∃ a c, v = .slice a n c := by
  rcases h.blk with ⟨rfl, rfl⟩ | ⟨g, cap, rfl, _⟩ <;> exact ⟨_, _, rfl⟩

/-- What an append from whatever source finds there. -/
def Src (K : Nat) (w : World) (a : Option Addr) (m : Nat) (C : Nat → Nat → Value) : Prop := 0 < m → ∃ ad, a = some ad ∧ ∀ i, i < m → ∀ j, j < K → w.cell? (ad.add (i * K + j)) = some (C i j)
theorem Src.ext {K : Nat} {w w' : World} {a : Option Addr} {m : Nat} {C : Nat → Nat → Value} (h : Src K w a m C) (e : Ext w w') : Src K w' a m C := fun hm => by
  obtain ⟨ad, h1, h2⟩ := h hm
  exact ⟨ad, h1, fun i hi j hj => World.grownBy.cell e (h2 i hi j hj) (by simp)⟩
theorem SL.src {K : Nat} {w : World} {a : Option Addr} {n m cap : Nat} {C : Nat → Nat → Value} (h : SL w K (.slice a n cap) m C) : n = m ∧ Src K w a n C := by
  obtain ⟨a', cap', e, h1, h2, h3⟩ := h
  cases e
  refine ⟨rfl, fun hm => ?_⟩
  obtain ⟨b, o, rfl, hb, hc⟩ := h3 hm
  refine ⟨_, rfl, fun i hi j hj => ?_⟩
  rw [Addr.add_lit, ← Nat.add_assoc]
  exact hc i hi j hj

/-- F, then C's. -/
def joinF (n : Nat) (F C : Nat → Nat → Value) : Nat → Nat → Value := fun i j => if i < n then F i j else C (i - n) j

section
variable {P : Program} {T K B : Nat} {z : Value}
theorem run_rowG (hinfo : (P.info? T).map (fun i => (i.zero, i.size, i.bytes)) = some (some z, K, B)) (hz : z.cells.size = K) (hK : 0 < K) (w : World) (base : Nat) (t ty : TypeId) (ht : P.underlying t = some (.slice T)) (v : Value) (n : Nat) (F : Nat → Nat → Value) (h : Row base T K w v n F)
    (a : Option Addr) (m c : Nat) (C : Nat → Nat → Value) (hC : Src K w a m C) (h1 : ∀ i, i < m → ∀ j, j < K → (C i j).oneCell' = true) (hc : a = none → m = 0) (h63 : n + m ≤ maxLen) (hby : (n + m) * B ≤ 140737488355328) (hbase : base ≤ w.heap.size) :
    ∃ v' w', (Builtin.append_ #[t, t] ty #[v, .slice a m c]).run P w = .ok v' w' ∧ Row base T K w' v' (n + m) (joinF n F C) ∧ w.grownBy w' v.ownBlock ∧ (v'.ownBlock = v.ownBlock ∨ v'.ownBlock = some w.heap.size) := by
  obtain ⟨i0, hi, hz0, hz1, hz2⟩ := info_parts hinfo
  have hjoin : cellsF (joinF n F C) K (n + m) = cellsF F K n ++ cellsF C K m := by
    rw [cellsF_add]
    congr 1
    · exact cellsF_congr fun i hi c hc => by unfold joinF; rw [if_pos hi]
    · exact cellsF_congr fun i hi c hc => by unfold joinF; rw [if_neg (by omega), Nat.add_sub_cancel_left]
  cases a with
  | none =>
    obtain rfl := hc rfl
    refine ⟨v, w, ?_, ?_, ⟨rfl, rfl, rfl, Nat.le_refl _, fun _ _ _ => rfl⟩, .inl rfl⟩
    · rcases h.2 with ⟨rfl, rfl⟩ | ⟨g, cap, cur, rfl, _, _, hnc, _⟩
      · simp [Builtin.append_, run_underlying ht, sizeOf, typeInfo, hi, Builtin.lenOf, Builtin.firstCells]
      · simp [Builtin.append_, run_underlying ht, sizeOf, typeInfo, hi, Builtin.lenOf, Builtin.firstCells, hnc, storeCells]
    · unfold Row
      rw [hjoin]
      simp only [cellsF, List.append_nil, Nat.add_zero]
      exact h
  | some ad =>
    obtain ⟨v', w', hrun, r1, r2, _, r4⟩ := run_append_own_at (P := P) w base t ty T i0 z K B ht hi hz0 hz1 hz2 hz hK v n _ h ad m c (cellsF C K m) (cellsF_len _ _ _) (fun j u hj => by
      have hjl := (List.getElem?_eq_some_iff.1 hj).1
      rw [cellsF_len] at hjl
      have hm : 0 < m := by
        rcases Nat.eq_zero_or_pos m with e | e
        · subst e; simp at hjl
        · exact e
      obtain ⟨ad', e, hc'⟩ := hC hm
      cases e
      have e1 : j / K < m := (Nat.div_lt_iff_lt_mul hK).2 hjl
      have e2 : j / K * K + j % K = j := by rw [Nat.mul_comm]; exact Nat.div_add_mod j K
      have e3 := hc' (j / K) e1 (j % K) (Nat.mod_lt _ hK)
      have e4 := cellsF_get C K m (j / K) (j % K) e1 (Nat.mod_lt _ hK)
      rw [e2] at e3 e4
      rw [e4] at hj
      cases hj
      exact e3) (fun u hu => by
      obtain ⟨i, c', hi', hc', rfl⟩ := cellsF_mem hu
      exact h1 i hi' c' hc') h63 hby hbase
    refine ⟨v', w', hrun, ?_, r2, r4⟩
    unfold Row
    rw [hjoin]
    exact r1

theorem wpList_rowG (hinfo : (P.info? T).map (fun i => (i.zero, i.size, i.bytes)) = some (some z, K, B)) (hz : z.cells.size = K) (hK : 0 < K) (w : World) {ops : Array Oper} {rest : List Oper} {o : Oper} {act : Act} {Q : Exit → Act → World → Prop} (hgd : o.guard = none) (s x : Operand) (t : TypeId) (ht : P.underlying t = some (.slice T))
    (ho : o.op = .call { callee := .builtin .append, args := #[s, x], argTypes := #[t, t] }) (base : Nat) (v : Value) (n : Nat) (F : Nat → Nat → Value) (hs : act.eval s = v) (h : Row base T K w v n F)
    (a : Option Addr) (m c : Nat) (C : Nat → Nat → Value) (hx : act.eval x = .slice a m c) (hC : Src K w a m C) (h1 : ∀ i, i < m → ∀ j, j < K → (C i j).oneCell' = true) (hc : a = none → m = 0) (h63 : n + m ≤ maxLen) (hby : (n + m) * B ≤ 140737488355328) (hbase : base ≤ w.heap.size)
    (k : ∀ v' w', Row base T K w' v' (n + m) (joinF n F C) → w.grownBy w' v.ownBlock → (v'.ownBlock = v.ownBlock ∨ v'.ownBlock = some w.heap.size) → wpList P ops Q rest (act.put o.dst v') w') : wpList P ops Q (o :: rest) act w := by
  obtain ⟨v', w', hrun, r1, r2, r4⟩ := run_rowG hinfo hz hK w base t o.type ht v n F h a m c C hC h1 hc h63 hby hbase
  refine wpList_plain hgd fun K' hK' => ?_
  unfold Oper.wp execOp
  simp only [ho, resolve, invoke, builtin, Sem.run_bind, Sem.run_pure, Result.andThen_ok, List.map_toArray, List.map_cons, List.map_nil, hs, hx, hrun]
  exact hK' _ _ (k v' w' r1 r2 r4)

theorem step_rowG (hinfo : (P.info? T).map (fun i => (i.zero, i.size, i.bytes)) = some (some z, K, B)) (hz : z.cells.size = K) (hK : 0 < K) {ops : Array Oper} {o : Oper} {act : Act} {w : World} {KK : Act → World → Prop} {Q : Exit → Act → World → Prop} {E : Prop} (hgd : o.guard = none) (s x : Operand) (t : TypeId) (ht : P.underlying t = some (.slice T))
    (ho : o.op = .call { callee := .builtin .append, args := #[s, x], argTypes := #[t, t] }) (base : Nat) (v : Value) (n : Nat) (F : Nat → Nat → Value) (hs : act.eval s = v) (h : Row base T K w v n F)
    (a : Option Addr) (m c : Nat) (C : Nat → Nat → Value) (hx : act.eval x = .slice a m c) (hC : Src K w a m C) (h1 : ∀ i, i < m → ∀ j, j < K → (C i j).oneCell' = true) (hc : a = none → m = 0) (h63 : n + m ≤ maxLen) (hby : (n + m) * B ≤ 140737488355328) (hbase : base ≤ w.heap.size)
    (k : ∀ v' w', Row base T K w' v' (n + m) (joinF n F C) → w.grownBy w' v.ownBlock → (v'.ownBlock = v.ownBlock ∨ v'.ownBlock = some w.heap.size) → KK (act.put o.dst v') w') :
    if Region.wanted o (yielded ops act.tmps) = true then Oper.wp P o act w KK Q else E := by
  have hw : Region.wanted o (yielded ops act.tmps) = true := by simp [Region.wanted, hgd]
  rw [if_pos hw]
  obtain ⟨v', w', hrun, r1, r2, r4⟩ := run_rowG hinfo hz hK w base t o.type ht v n F h a m c C hC h1 hc h63 hby hbase
  unfold Oper.wp execOp
  simp only [ho, resolve, invoke, builtin, Sem.run_bind, Sem.run_pure, Result.andThen_ok, List.map_toArray, List.map_cons, List.map_nil, hs, hx, hrun]
  exact k v' w' r1 r2 r4
end

end Go.Proofs.Ytjkhadaoldbceaa
