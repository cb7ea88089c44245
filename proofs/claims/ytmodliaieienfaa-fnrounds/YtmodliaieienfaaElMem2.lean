
/- Lists of Member in memory of their own: rows of 3 cells, read, stored into, appended to. -/
import Derived.Test.YtmodliaieienfaaElMem1
import Derived.Test.YtmodliaieienfaaElG
import Derived.Laws.OwnMore
import Derived.OwnWalk
import Derived.Maps.AppendAt
import Derived.Lib.SliceRun
import Derived.Deep.RegionWith
import Derived.Deep.RegionLawGrows
namespace Go.Proofs.Ytmodliaieienfaa
open Go.RowKit

/-- The elements, cell by cell. -/
def cMem (ts : List DMem) : List Value := ts.flatMap fun t => [.int .i64 t.id, .int .i64 t.st, .int .i64 t.life]
theorem cMem_len (ts : List DMem) : (cMem ts).length = ts.length * 3 := by
  induction ts with
  | nil => rfl
  | cons t ts ih => simp [cMem] at ih ⊢; omega
theorem cMem_cons (t : DMem) (ts : List DMem) : cMem (t :: ts) = .int .i64 t.id :: .int .i64 t.st :: .int .i64 t.life :: cMem ts := by simp [cMem]
theorem cMem_append (xs ys : List DMem) : cMem (xs ++ ys) = cMem xs ++ cMem ys := by simp [cMem]
theorem cMem_get {ts : List DMem} {i : Nat} {t : DMem} (h : ts[i]? = some t) : (cMem ts)[i * 3]? = some (.int .i64 t.id) ∧ (cMem ts)[i * 3 + 1]? = some (.int .i64 t.st) ∧ (cMem ts)[i * 3 + 2]? = some (.int .i64 t.life) := by
  induction ts generalizing i with
  | nil => simp at h
  | cons u us ih =>
    rw [cMem_cons]
    match i with
    | 0 =>
      simp only [List.getElem?_cons_zero, Option.some.injEq] at h
      subst h
      exact ⟨rfl, rfl, rfl⟩
    | i + 1 =>
      have := ih (i := i) (by simpa using h)
      refine ⟨?_, ?_, ?_⟩
      · rw [show (i + 1) * 3 = i * 3 + 1 + 1 + 1 by omega]; simp only [List.getElem?_cons_succ]; exact this.1
      · rw [show (i + 1) * 3 + 1 = i * 3 + 1 + 1 + 1 + 1 by omega]; simp only [List.getElem?_cons_succ]; exact this.2.1
      · rw [show (i + 1) * 3 + 2 = i * 3 + 2 + 1 + 1 + 1 by omega]; simp only [List.getElem?_cons_succ]; exact this.2.2
theorem cMem_set (ts : List DMem) (i : Nat) (t : DMem) : ((((cMem ts).set (i * 3) (.int .i64 t.id)).set (i * 3 + 1) (.int .i64 t.st)).set (i * 3 + 2) (.int .i64 t.life)) = cMem (ts.set i t) := by
  induction ts generalizing i with
  | nil => rfl
  | cons u us ih =>
    match i with
    | 0 => simp [cMem_cons]
    | i + 1 =>
      have e0 : (i + 1) * 3 = i * 3 + 1 + 1 + 1 := by omega
      have e1 : (i + 1) * 3 + 1 = i * 3 + 1 + 1 + 1 + 1 := by omega
      have e2 : (i + 1) * 3 + 2 = i * 3 + 2 + 1 + 1 + 1 := by omega
      rw [e2, e1, e0, cMem_cons]
      simp only [List.set_cons_succ, cMem_cons]
      rw [ih i]
theorem cMem_one (ts : List DMem) : ∀ u ∈ cMem ts, u.oneCell' = true := by
  intro u hu
  unfold cMem at hu
  simp only [List.mem_flatMap] at hu
  obtain ⟨t, _, ht⟩ := hu
  simp only [List.mem_cons, List.not_mem_nil, or_false] at ht
  rcases ht with rfl | rfl | rfl <;> rfl

/-- The value v is a row of the call's own, from block base on. -/
def OwMem (w : World) (base : Nat) (v : Value) (ts : List DMem) : Prop := w.ownsRow base 40 3 v ts.length (cMem ts)
theorem OwMem.cells {w : World} {base g cap n : Nat} {ts : List DMem} (h : OwMem w base (.slice (some ⟨g, 0, none⟩) n cap) ts) (hn : n = ts.length) {i : Nat} {t : DMem} (ht : ts[i]? = some t) :
    w.cell? ⟨g, i * 3, none⟩ = some (.int .i64 t.id) ∧ w.cell? ⟨g, i * 3 + 1, none⟩ = some (.int .i64 t.st) ∧ w.cell? ⟨g, i * 3 + 2, none⟩ = some (.int .i64 t.life) ∧ w.frozen? ⟨g, i * 3, none⟩ = false ∧ w.frozen? ⟨g, i * 3 + 1, none⟩ = false ∧ w.frozen? ⟨g, i * 3 + 2, none⟩ = false := by
  subst hn
  have hi := (List.getElem?_eq_some_iff.1 ht).1
  obtain ⟨h0, h1, h2⟩ := cMem_get ht
  exact ⟨(World.ownsRow.cellAt h (i * 3) (by omega)).trans h0, (World.ownsRow.cellAt h (i * 3 + 1) (by omega)).trans h1, (World.ownsRow.cellAt h (i * 3 + 2) (by omega)).trans h2, World.ownsRow.frozenAt h _, World.ownsRow.frozenAt h _, World.ownsRow.frozenAt h _⟩
theorem OwMem.v {w : World} {base : Nat} {v : Value} {ts : List DMem} (h : OwMem w base v ts) : VMem w v ts := by
  obtain ⟨hl, hh⟩ := h
  rcases hh with ⟨rfl, h0⟩ | ⟨g, cap, cur, rfl, hb, hg, hn, hm, hs, ht⟩
  · have : ts = [] := List.eq_nil_of_length_eq_zero h0
    subst this
    exact ⟨fun _ _ => .bool true, ⟨none, 0, rfl, Nat.le_refl _, Nat.zero_le _, fun h => absurd h (by simp)⟩, fun i r hr => by simp at hr⟩
  · have hw : w.ownsRow base 40 3 (.slice (some ⟨g, 0, none⟩) ts.length cap) ts.length (cMem ts) := ⟨hl, .inr ⟨g, cap, cur, rfl, hb, hg, hn, hm, hs, ht⟩⟩
    refine ⟨fun i j => if j = 0 then .int .i64 (ts.getD i ⟨0, 0, 0⟩).id else if j = 1 then .int .i64 (ts.getD i ⟨0, 0, 0⟩).st else .int .i64 (ts.getD i ⟨0, 0, 0⟩).life, ⟨_, cap, rfl, hn, hm, fun hpos => ⟨g, 0, rfl, (Array.getElem?_eq_some_iff.1 hg).1, fun i hi j hj => ?_⟩⟩, fun i r hr => by simp [List.getD, hr]⟩
    obtain ⟨c0, c1, c2, _⟩ := OwMem.cells hw rfl (List.getElem?_eq_getElem hi)
    have hj : j = 0 ∨ j = 1 ∨ j = 2 := by omega
    rcases hj with rfl | rfl | rfl
    · rw [Nat.zero_add, Nat.add_zero, c0]
      simp [List.getD, hi]
    · rw [Nat.zero_add, c1]
      simp [List.getD, hi]
    · rw [Nat.zero_add, c2]
      simp [List.getD, hi]
theorem OwMem.set {w : World} {base g cap n : Nat} {ts : List DMem} (h : OwMem w base (.slice (some ⟨g, 0, none⟩) n cap) ts) (hn : n = ts.length) (i : Nat) (_hi : i < n) (t : DMem) :
    OwMem (((w.setCell ⟨g, i * 3, none⟩ (.int .i64 t.id)).setCell ⟨g, i * 3 + 1, none⟩ (.int .i64 t.st)).setCell ⟨g, i * 3 + 2, none⟩ (.int .i64 t.life)) base (.slice (some ⟨g, 0, none⟩) n cap) (ts.set i t) := by
  subst hn
  have h1 := (World.ownsRow.stored h (i * 3) (.int .i64 t.id)).1
  have h2 := (World.ownsRow.stored h1 (i * 3 + 1) (.int .i64 t.st)).1
  have h3 := (World.ownsRow.stored h2 (i * 3 + 2) (.int .i64 t.life)).1
  rw [cMem_set] at h3
  unfold OwMem
  simpa using h3
theorem cMem_put0 (ts : List DMem) (i : Nat) (t : DMem) (x : Int) (h : ts[i]? = some t) : (cMem ts).set (i * 3) (.int .i64 x) = cMem (ts.set i ⟨x, t.st, t.life⟩) := by
  induction ts generalizing i with
  | nil => simp at h
  | cons u us ih =>
    match i with
    | 0 =>
      simp only [List.getElem?_cons_zero, Option.some.injEq] at h
      subst h
      simp [cMem_cons]
    | i + 1 =>
      rw [show (i + 1) * 3 = i * 3 + 1 + 1 + 1 by omega, cMem_cons]
      simp only [List.set_cons_succ, cMem_cons]
      rw [ih i (by simpa using h)]
theorem OwMem.put0 {w : World} {base g cap n : Nat} {ts : List DMem} (h : OwMem w base (.slice (some ⟨g, 0, none⟩) n cap) ts) (hn : n = ts.length) {i : Nat} {t : DMem} (ht : ts[i]? = some t) (x : Int) :
    OwMem (w.setCell ⟨g, i * 3, none⟩ (.int .i64 x)) base (.slice (some ⟨g, 0, none⟩) n cap) (ts.set i ⟨x, t.st, t.life⟩) := by
  subst hn
  have h1 := (World.ownsRow.stored h (i * 3) (.int .i64 x)).1
  rw [cMem_put0 ts i t x ht] at h1
  unfold OwMem
  simpa using h1
theorem cMem_put1 (ts : List DMem) (i : Nat) (t : DMem) (x : Int) (h : ts[i]? = some t) : (cMem ts).set (i * 3 + 1) (.int .i64 x) = cMem (ts.set i ⟨t.id, x, t.life⟩) := by
  induction ts generalizing i with
  | nil => simp at h
  | cons u us ih =>
    match i with
    | 0 =>
      simp only [List.getElem?_cons_zero, Option.some.injEq] at h
      subst h
      simp [cMem_cons]
    | i + 1 =>
      rw [show (i + 1) * 3 + 1 = i * 3 + 1 + 1 + 1 + 1 by omega, cMem_cons]
      simp only [List.set_cons_succ, cMem_cons]
      rw [ih i (by simpa using h)]
theorem OwMem.put1 {w : World} {base g cap n : Nat} {ts : List DMem} (h : OwMem w base (.slice (some ⟨g, 0, none⟩) n cap) ts) (hn : n = ts.length) {i : Nat} {t : DMem} (ht : ts[i]? = some t) (x : Int) :
    OwMem (w.setCell ⟨g, i * 3 + 1, none⟩ (.int .i64 x)) base (.slice (some ⟨g, 0, none⟩) n cap) (ts.set i ⟨t.id, x, t.life⟩) := by
  subst hn
  have h1 := (World.ownsRow.stored h (i * 3 + 1) (.int .i64 x)).1
  rw [cMem_put1 ts i t x ht] at h1
  unfold OwMem
  simpa using h1
theorem cMem_put2 (ts : List DMem) (i : Nat) (t : DMem) (x : Int) (h : ts[i]? = some t) : (cMem ts).set (i * 3 + 2) (.int .i64 x) = cMem (ts.set i ⟨t.id, t.st, x⟩) := by
  induction ts generalizing i with
  | nil => simp at h
  | cons u us ih =>
    match i with
    | 0 =>
      simp only [List.getElem?_cons_zero, Option.some.injEq] at h
      subst h
      simp [cMem_cons]
    | i + 1 =>
      rw [show (i + 1) * 3 + 2 = i * 3 + 2 + 1 + 1 + 1 by omega, cMem_cons]
      simp only [List.set_cons_succ, cMem_cons]
      rw [ih i (by simpa using h)]
theorem OwMem.put2 {w : World} {base g cap n : Nat} {ts : List DMem} (h : OwMem w base (.slice (some ⟨g, 0, none⟩) n cap) ts) (hn : n = ts.length) {i : Nat} {t : DMem} (ht : ts[i]? = some t) (x : Int) :
    OwMem (w.setCell ⟨g, i * 3 + 2, none⟩ (.int .i64 x)) base (.slice (some ⟨g, 0, none⟩) n cap) (ts.set i ⟨t.id, t.st, x⟩) := by
  subst hn
  have h1 := (World.ownsRow.stored h (i * 3 + 2) (.int .i64 x)).1
  rw [cMem_put2 ts i t x ht] at h1
  unfold OwMem
  simpa using h1
theorem OwMem.ext {w w' : World} {base : Nat} {v : Value} {ts : List DMem} (h : OwMem w base v ts) (e : Ext w w') : OwMem w' base v ts := World.ownsRow.kept h e (by cases hv : v.ownBlock <;> simp)
theorem OwMem.keep {w w' : World} {base : Nat} {v : Value} {row : Option Nat} {ts : List DMem} (h : OwMem w base v ts) (e : w.grownBy w' row) (hn : v.ownBlock = none ∨ v.ownBlock ≠ row) : OwMem w' base v ts := World.ownsRow.kept h e hn
theorem OwMem.base {w : World} {b b' : Nat} {v : Value} {ts : List DMem} (h : OwMem w b v ts) (hb : b' ≤ b) : OwMem w b' v ts := by
  refine ⟨h.1, ?_⟩
  rcases h.2 with h2 | ⟨g, cap, cur, hv, hbb, r⟩
  · exact .inl h2
  · exact .inr ⟨g, cap, cur, hv, Nat.le_trans hb hbb, r⟩
theorem OwMem.lt {w : World} {base : Nat} {v : Value} {ts : List DMem} (h : OwMem w base v ts) (k : Nat) (hk : v.ownBlock = some k) : base ≤ k ∧ k < w.heap.size := World.ownsRow.lt h k hk
theorem OwMem.nil (w : World) (base : Nat) : OwMem w base (.slice none 0 0) [] := World.ownsRow_nil _ _ _ _
theorem OwMem.made (w : World) (base : Nat) (hb : base ≤ w.heap.size) : OwMem (w.alloc (.cells #[] 40)) base (.slice (some ⟨w.heap.size, 0, none⟩) 0 0) [] :=
  ⟨rfl, .inr ⟨w.heap.size, 0, #[], rfl, hb, heap_alloc_new w _, Nat.le_refl _, Nat.zero_le _, rfl, rfl⟩⟩
theorem VMem.news {w : World} {ad : Addr} {m c : Nat} {ys : List DMem} (h : VMem w (.slice (some ad) m c) ys) : m = ys.length ∧ ∀ (j : Nat) u, (cMem ys)[j]? = some u → w.cell? (ad.add j) = some u := by
  obtain ⟨C, ⟨a', cap', e, h1, h2, h3⟩, hC⟩ := h
  simp only [Value.slice.injEq] at e
  obtain ⟨rfl, rfl, rfl⟩ := e
  refine ⟨rfl, fun j u hu => ?_⟩
  have hj := (List.getElem?_eq_some_iff.1 hu).1
  rw [cMem_len] at hj
  obtain ⟨b, o, e, hb, hc⟩ := h3 (by omega)
  simp only [Option.some.injEq] at e
  subst e
  rw [Addr.add_lit]
  obtain ⟨i, hi⟩ : ∃ i, i = j / 3 := ⟨_, rfl⟩
  obtain ⟨t, ht⟩ : ∃ t, ys[i]? = some t := ⟨_, List.getElem?_eq_getElem (by omega)⟩
  obtain ⟨g0, g1, g2⟩ := cMem_get ht
  obtain ⟨c0, c1, c2⟩ := hC i t ht
  have hj2 : j = i * 3 ∨ j = i * 3 + 1 ∨ j = i * 3 + 2 := by omega
  rcases hj2 with rfl | rfl | rfl
  · rw [g0] at hu
    have := hc i (by omega) 0 (by omega)
    rw [Nat.add_zero, c0] at this
    rw [this]
    exact hu
  · rw [g1] at hu
    have := hc i (by omega) 1 (by omega)
    rw [c1, Nat.add_assoc] at this
    rw [this]
    exact hu
  · rw [g2] at hu
    have := hc i (by omega) 2 (by omega)
    rw [c2, Nat.add_assoc] at this
    rw [this]
    exact hu
theorem VMem.no {w : World} {m c : Nat} {ys : List DMem} (h : VMem w (.slice none m c) ys) : m = 0 ∧ ys = [] := by
  obtain ⟨C, ⟨a', cap', e, h1, h2, h3⟩, hC⟩ := h
  simp only [Value.slice.injEq] at e
  obtain ⟨rfl, rfl, rfl⟩ := e
  have h0 : ys.length = 0 := by
    rcases Nat.eq_zero_or_pos ys.length with h' | h'
    · exact h'
    · obtain ⟨b, o, e', _⟩ := h3 h'
      cases e'
  exact ⟨h0, List.eq_nil_of_length_eq_zero h0⟩
theorem runNo_Mem (w : World) (base : Nat) (t ty : TypeId) (ht : Try.prog.underlying t = some (.slice 40)) (v : Value) (n c : Nat) (xs : List Value) (hown : w.ownsRow base 40 3 v n xs) :
    (Builtin.append_ #[t, t] ty #[v, .slice none 0 c]).run Try.prog w = .ok v w := by
  obtain ⟨i0, hi, hz0, hz1, hz2⟩ := info_parts info_Mem
  rcases hown.2 with ⟨rfl, rfl⟩ | ⟨g, cap, cur, rfl, _, _, hnc, _⟩
  · simp [Builtin.append_, run_underlying ht, sizeOf, typeInfo, hi, Builtin.lenOf, Builtin.firstCells]
  · simp [Builtin.append_, run_underlying ht, sizeOf, typeInfo, hi, Builtin.lenOf, Builtin.firstCells, hnc, storeCells]
/-- 'append(out, xs...)', out the call's own. -/
theorem runApp_Mem (w : World) (base : Nat) (t ty : TypeId) (ht : Try.prog.underlying t = some (.slice 40)) (v : Value) (xs : List DMem) (hown : OwMem w base v xs) (ao : Option Addr) (m c : Nat) (ys : List DMem) (hy : VMem w (.slice ao m c) ys) (hb : xs.length + ys.length ≤ 2097152) (hbase : base ≤ w.heap.size) :
    ∃ v' w', (Builtin.append_ #[t, t] ty #[v, .slice ao m c]).run Try.prog w = .ok v' w' ∧ OwMem w' base v' (xs ++ ys) ∧ w.grownBy w' v.ownBlock ∧ (v'.ownBlock = v.ownBlock ∨ v'.ownBlock = some w.heap.size) := by
  cases ao with
  | none =>
    obtain ⟨rfl, rfl⟩ := hy.no
    exact ⟨v, w, runNo_Mem w base t ty ht v _ c _ hown, by rw [List.append_nil]; exact hown, grown_same _ _, .inl rfl⟩
  | some ad =>
    obtain ⟨i0, hi, hz0, hz1, hz2⟩ := info_parts info_Mem
    obtain ⟨rfl, hn⟩ := hy.news
    obtain ⟨v', w', hrun, r1, r2, _, r4⟩ := run_append_own_at (P := Try.prog) w base t ty 40 i0 _ 3 24 ht hi hz0 hz1 hz2 rfl (by decide) v xs.length (cMem xs) hown ad ys.length c (cMem ys) (cMem_len ys) hn (cMem_one ys) (by unfold maxLen; omega) (by omega) hbase
    refine ⟨v', w', hrun, ?_, r2, r4⟩
    unfold OwMem
    rw [cMem_append, List.length_append]
    exact r1
theorem wpList_append_Mem (w : World) {ops : Array Oper} {rest : List Oper} {o : Oper} {a : Act} {Q : Exit → Act → World → Prop} (hgd : o.guard = none) (s x : Operand) (t : TypeId) (ht : Try.prog.underlying t = some (.slice 40))
    (ho : o.op = .call { callee := .builtin .append, args := #[s, x], argTypes := #[t, t] })
    (base : Nat) (v : Value) (xs : List DMem) (hs : a.eval s = v) (hown : OwMem w base v xs) (ao : Option Addr) (m c : Nat) (ys : List DMem) (hx : a.eval x = .slice ao m c) (hy : VMem w (.slice ao m c) ys)
    (hb : xs.length + ys.length ≤ 2097152) (hbase : base ≤ w.heap.size)
    (h : ∀ v' w', OwMem w' base v' (xs ++ ys) → w.grownBy w' v.ownBlock → (v'.ownBlock = v.ownBlock ∨ v'.ownBlock = some w.heap.size) → wpList Try.prog ops Q rest (a.put o.dst v') w') : wpList Try.prog ops Q (o :: rest) a w := by
  obtain ⟨v', w', hrun, r1, r2, r4⟩ := runApp_Mem w base t o.type ht v xs hown ao m c ys hy hb hbase
  refine wpList_plain hgd fun K hK => ?_
  unfold Oper.wp execOp
  simp only [ho, resolve, invoke, builtin, Sem.run_bind, Sem.run_pure, Result.andThen_ok, List.map_toArray, List.map_cons, List.map_nil, hs, hx, hrun]
  exact hK _ _ (h v' w' r1 r2 r4)
theorem step_append_Mem {ops : Array Oper} {o : Oper} {a : Act} {w : World} {K : Act → World → Prop} {Q : Exit → Act → World → Prop} {E : Prop} (hgd : o.guard = none) (s x : Operand) (t : TypeId) (ht : Try.prog.underlying t = some (.slice 40))
    (ho : o.op = .call { callee := .builtin .append, args := #[s, x], argTypes := #[t, t] })
    (base : Nat) (v : Value) (xs : List DMem) (hs : a.eval s = v) (hown : OwMem w base v xs) (ao : Option Addr) (m c : Nat) (ys : List DMem) (hx : a.eval x = .slice ao m c) (hy : VMem w (.slice ao m c) ys)
    (hb : xs.length + ys.length ≤ 2097152) (hbase : base ≤ w.heap.size)
    (h : ∀ v' w', OwMem w' base v' (xs ++ ys) → w.grownBy w' v.ownBlock → (v'.ownBlock = v.ownBlock ∨ v'.ownBlock = some w.heap.size) → K (a.put o.dst v') w') :
    if Region.wanted o (yielded ops a.tmps) = true then Oper.wp Try.prog o a w K Q else E := by
  have hw : Region.wanted o (yielded ops a.tmps) = true := by simp [Region.wanted, hgd]
  rw [if_pos hw]
  obtain ⟨v', w', hrun, r1, r2, r4⟩ := runApp_Mem w base t o.type ht v xs hown ao m c ys hy hb hbase
  unfold Oper.wp execOp
  simp only [ho, resolve, invoke, builtin, Sem.run_bind, Sem.run_pure, Result.andThen_ok, List.map_toArray, List.map_cons, List.map_nil, hs, hx, hrun]
  exact h v' w' r1 r2 r4
/-- One element, as a slice that was made for it. -/
theorem VMem.one (w : World) (t : DMem) : VMem (w.alloc (.cells #[.int .i64 t.id, .int .i64 t.st, .int .i64 t.life] 40)) (.slice (some ⟨w.heap.size, 0, none⟩) 1 1) [t] := by
  have P := heap_alloc_new w (.cells #[.int .i64 t.id, .int .i64 t.st, .int .i64 t.life] 40)
  refine ⟨fun _ j => if j = 0 then .int .i64 t.id else if j = 1 then .int .i64 t.st else .int .i64 t.life, ⟨_, 1, rfl, Nat.le_refl _, by unfold maxLen; decide, fun _ => ⟨_, 0, rfl, by simp, fun i hi j hj => ?_⟩⟩, fun i r hr => ?_⟩
  · have hi : i = 0 := by simpa using hi
    subst hi
    have hj : j = 0 ∨ j = 1 ∨ j = 2 := by omega
    rcases hj with rfl | rfl | rfl
    · exact (at_block P 0 _ rfl).1
    · exact (at_block P 1 _ rfl).1
    · exact (at_block P 2 _ rfl).1
  · have hi : i = 0 := by have := (List.getElem?_eq_some_iff.1 hr).1; simpa using this
    subst hi
    have : r = t := by simpa using hr.symm
    subst this
    exact ⟨rfl, rfl, rfl⟩
/-- A copy that a call made is its own. -/
theorem blk_Mem {w : World} {g base : Nat} {ts : List DMem} {F : Nat → Nat → Value} (h : Blk w g 40 3 ts.length ts.length F) (hF : ∀ i s, ts[i]? = some s → F i 0 = .int .i64 s.id ∧ F i 1 = .int .i64 s.st ∧ F i 2 = .int .i64 s.life) (hb : base ≤ g) (hn : ts.length ≤ 1048576) : OwMem w base (.slice (some ⟨g, 0, none⟩) ts.length ts.length) ts := by
  obtain ⟨cur, h1, h2, h3⟩ := h
  refine ⟨cMem_len ts, .inr ⟨g, ts.length, cur, rfl, hb, h1, Nat.le_refl _, by unfold maxLen; omega, h2, ?_⟩⟩
  apply List.ext_getElem?
  intro j
  by_cases hj : j < ts.length * 3
  · obtain ⟨i, hi⟩ : ∃ i, i = j / 3 := ⟨_, rfl⟩
    obtain ⟨t, ht⟩ : ∃ t, ts[i]? = some t := ⟨_, List.getElem?_eq_getElem (by omega)⟩
    obtain ⟨g0, g1, g2⟩ := cMem_get ht
    obtain ⟨f0, f1, f2⟩ := hF i t ht
    rw [List.getElem?_take, if_pos hj, Array.getElem?_toList]
    have hj2 : j = i * 3 ∨ j = i * 3 + 1 ∨ j = i * 3 + 2 := by omega
    rcases hj2 with rfl | rfl | rfl
    · rw [g0, ← f0]
      have := h3 i (by omega) 0 (by omega)
      simpa using this
    · rw [g1, ← f1]
      have := h3 i (by omega) 1 (by omega)
      simpa using this
    · rw [g2, ← f2]
      have := h3 i (by omega) 2 (by omega)
      simpa using this
  · rw [List.getElem?_eq_none (by simp; omega), List.getElem?_eq_none (by rw [cMem_len]; omega)]

end Go.Proofs.Ytmodliaieienfaa
