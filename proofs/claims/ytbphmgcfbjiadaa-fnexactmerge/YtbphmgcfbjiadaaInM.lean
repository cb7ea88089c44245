/- The library's Insert at members: one member goes to a place of a row of the call's own. -/
import Derived.Test.YtbphmgcfbjiadaaCpy
import Derived.Test.YtbphmgcfbjiadaaElG
import Derived.Lib.AppendZerosOnto
import Derived.Deep.RegionLawGrows
import Derived.Deep.CutRange
namespace Go.Proofs.Ytbphmgcfbjiadaa
open Go.RowKit

/-- The cells of a member. -/
def cM (m : DMem) : List Value := [.int .i64 m.id, .int .i64 m.st, .int .i64 m.life]
theorem row_ins {w : World} {base g cap n i : Nat} {ts : List DMem} {m : DMem} {cur D : List Value} (hg : w.heap[g]? = some (.cells cur.toArray 34 (0, 0))) (hc : cur = cMem (ts.take i) ++ cM m ++ cMem (ts.drop i) ++ D) (hlen : cur.length = cap * 3) (hb : base ≤ g) (hn : n = ts.length) (hi : i ≤ n) (hcap : n + 1 ≤ cap) (hm : cap ≤ maxLen) :
    OwMem w base (.slice (some ⟨g, 0, none⟩) (n + 1) cap) (ts.take i ++ [m] ++ ts.drop i) := by
  have hl : (ts.take i ++ [m] ++ ts.drop i).length = n + 1 := by simp; omega
  have hx : cMem (ts.take i ++ [m] ++ ts.drop i) = cMem (ts.take i) ++ cM m ++ cMem (ts.drop i) := by
    rw [cMem_append, cMem_append]
    rfl
  unfold OwMem
  rw [hl]
  refine ⟨by rw [cMem_len, hl], .inr ⟨g, cap, cur.toArray, rfl, hb, hg, hcap, hm, by simpa using hlen, ?_⟩⟩
  rw [hx]
  show List.take ((n + 1) * 3) cur = _
  rw [hc, List.take_left']
  rw [← hx, cMem_len, hl]

set_option maxRecDepth 20000 in
set_option maxHeartbeats 4000000 in
theorem ins_end (base g n cap vb : Nat) (ts : List DMem) (m : DMem) (w : World) (ho : OwMem w base (.slice (some ⟨g, 0, none⟩) n cap) ts) (hn : n = ts.length) (hl : n ≤ 1000) (hc : n ≤ cap) (hcm : cap ≤ maxLen) (hv : VMem w (.slice (some ⟨vb, 0, none⟩) 1 1) [m]) (hb : base ≤ w.heap.size) :
    Calls Try.prog 34 #[.slice (some ⟨g, 0, none⟩) n cap, .int .i64 n, .slice (some ⟨vb, 0, none⟩) 1 1] w fun e w' => ∃ v', e = .returned v' ∧ OwMem w' base v' (ts ++ [m]) ∧ w.grownBy w' (some g) := by
  have HO : Hid (OwMem w base (.slice (some ⟨g, 0, none⟩) n cap) ts) := ho
  have HV : Hid (VMem w (.slice (some ⟨vb, 0, none⟩) 1 1) [m]) := hv
  have HN : Hid (ts.length + [m].length ≤ 2097152) := by show _ ≤ _; simp; omega
  have hcap : cap ≤ 9223372036854775807 := by unfold maxLen at hcm; omega
  have hn1 : (n : Int) ≤ 1000 := by omega
  clear ho hv hn hcm
  by_cases hcn : cap = n
  · subst hcn
    go_enter Try.func34, Try.ntmps34
    go_wp2_with (at_builtin; refine wpList_append_Mem _ rfl (.tmp 23) (.tmp 24) 28 Try.underlying28 rfl base _ ts rfl HO.out (some ⟨vb, 0, none⟩) 1 1 [m] rfl HV.out HN.out hb ?_; intro v1 w1 o1 g1 _)
    go_ret
    exact ⟨_, rfl, o1, g1⟩
  · go_enter Try.func34, Try.ntmps34
    go_wp2_with (at_builtin; refine wpList_append_Mem _ rfl (.tmp 23) (.tmp 24) 28 Try.underlying28 rfl base _ ts rfl HO.out (some ⟨vb, 0, none⟩) 1 1 [m] rfl HV.out HN.out hb ?_; intro v1 w1 o1 g1 _)
    go_ret
    exact ⟨_, rfl, o1, g1⟩

set_option maxRecDepth 20000 in
set_option maxHeartbeats 4000000 in
theorem ins_shift (base g n cap vb i : Nat) (ts : List DMem) (m : DMem) (w : World) (ho : OwMem w base (.slice (some ⟨g, 0, none⟩) n cap) ts) (hn : n = ts.length) (hl : n ≤ 1000) (hc : n + 1 ≤ cap) (hi : i < n) (hv : w.heap[vb]? = some (.cells (cM m).toArray 34 (0, 0))) (hne : vb ≠ g) :
    Calls Try.prog 34 #[.slice (some ⟨g, 0, none⟩) n cap, .int .i64 i, .slice (some ⟨vb, 0, none⟩) 1 1] w fun e w' => ∃ v', e = .returned v' ∧ OwMem w' base v' (ts.take i ++ [m] ++ ts.drop i) ∧ w.grownBy w' (some g) := by
  obtain ⟨cur, hb, hg, hm, hs, ht⟩ : ∃ cur : List Value, base ≤ g ∧ w.heap[g]? = some (.cells cur.toArray 34 (0, 0)) ∧ cap ≤ maxLen ∧ cur.length = cap * 3 ∧ cur.take (n * 3) = cMem ts := by
    rcases ho.2 with ⟨h, _⟩ | ⟨g', cap', cur, h, h1, h2, h3, h4, h5, h6⟩
    · cases h
    · simp only [Value.slice.injEq, Option.some.injEq, Addr.mk.injEq, and_true] at h
      obtain ⟨rfl, _, rfl⟩ := h
      exact ⟨cur.toList, h1, by simpa using h2, h4, by simpa using h5, by rw [hn]; exact h6⟩
  have hcap : cap ≤ 9223372036854775807 := by unfold maxLen at hm; omega
  obtain ⟨B, hB⟩ : ∃ B, B = cMem (ts.drop i) := ⟨_, rfl⟩
  obtain ⟨V, hV⟩ : ∃ V, V = cM m := ⟨_, rfl⟩
  have hBl : B.length = (n - i) * 3 := by rw [hB, cMem_len, List.length_drop, ← hn]
  have hVl : V.length = 3 := by rw [hV]; rfl
  have hsplit : cur = cMem (ts.take i) ++ B ++ cur.drop (n * 3) := by
    rw [hB, ← cMem_append, List.take_append_drop, ← ht, List.take_append_drop]
  have hAl : (cMem (ts.take i)).length = i * 3 := by rw [cMem_len, List.length_take]; omega
  have hov : ∀ lb cb, (callFunc 41 #[.slice (some ⟨vb, 0, none⟩) 1 1, .slice (some ⟨g, (i + 1) * 3, none⟩) lb cb]).run Try.prog w = .ok (.value (.bool false)) w := fun lb cb => overV w vb g _ lb cb _ _ hv hg hne (by rw [List.size_toArray, hs]; omega)
  have hz2 : ¬ ((i : Int) = (n : Int)) := by omega
  have hw1 : IntKind.i64.wrap ((i : Int) + 1) = (i : Int) + 1 := by rw [IntKind.wrap_i64]; omega
  have hb1 : (0 : Int) ≤ (i : Int) + 1 := by omega
  have htn : ((i : Int) + 1).toNat = i + 1 := by omega
  have hin : i ≤ n := by omega
  have hb2 : ¬ (cap = i + 1) := by omega
  have hb3 : (i : Int) ≤ (n : Int) + 1 := by omega
  have hb4 : ¬ (cap = i) := by omega
  have hsum : ¬ ((cap : Int) < (n : Int) + 1) := by omega
  obtain ⟨S1, hS1⟩ : ∃ S1, S1 = splice cur ((i + 1) * 3) B := ⟨_, rfl⟩
  obtain ⟨S2, hS2⟩ : ∃ S2, S2 = splice S1 (i * 3) V := ⟨_, rfl⟩
  have hS1l : S1.length = cap * 3 := by rw [hS1, length_splice _ _ _ (by omega), hs]
  have hS2l : S2.length = cap * 3 := by rw [hS2, length_splice _ _ _ (by omega), hS1l]
  have hfin : ∃ D, S2 = cMem (ts.take i) ++ cM m ++ cMem (ts.drop i) ++ D := by
    have h := splice_shift (cMem (ts.take i)) B (cur.drop (n * 3)) V hVl (by rw [List.length_drop, hs]; omega)
    rw [← hsplit, hAl, show i * 3 + 3 = (i + 1) * 3 by omega, ← hS1, ← hS2] at h
    rw [hV, hB] at h
    exact h
  have HG : Hid (w.heap[g]? = some (.cells cur.toArray 34 (0, 0))) := hg
  have HV : Hid (w.heap[vb]? = some (.cells V.toArray 34 (0, 0))) := by rw [hV]; exact hv
  have HSB : Hid (∀ W : World, W.heap[g]? = some (.cells cur.toArray 34 (0, 0)) → ∀ (j : Nat) v, B[j]? = some v → W.cell? ((⟨g, i * 3, none⟩ : Addr).add j) = some v) := fun W hW j v hj => by
    rw [Addr.add_lit]
    refine (at_block hW _ _ ?_).1
    rw [List.getElem?_toArray, hsplit, List.append_assoc, List.getElem?_append_right (by omega), hAl, show i * 3 + j - i * 3 = j by omega, List.getElem?_append_left (List.getElem?_eq_some_iff.1 hj).1]
    exact hj
  have HSV : Hid (∀ W : World, W.heap[vb]? = some (.cells V.toArray 34 (0, 0)) → ∀ (j : Nat) v, V[j]? = some v → W.cell? ((⟨vb, 0, none⟩ : Addr).add j) = some v) := fun W hW j v hj => by
    rw [Addr.add_lit, Nat.zero_add]
    exact (at_block hW _ _ (by rw [List.getElem?_toArray]; exact hj)).1
  have HB1 : Hid (∀ v ∈ B, v.oneCell' = true) := by rw [hB]; exact cMem_one _
  have HV1 : Hid (∀ v ∈ V, v.oneCell' = true) := by rw [hV, show cM m = cMem [m] from rfl]; exact cMem_one _
  have HBL : Hid (B.length = Nat.min (n + 1 - i) (n + 1 - (i + 1)) * 3) := by show _ = _; rw [hBl]; simp only [Nat.min_def]; split <;> omega
  have HVL : Hid (V.length = Nat.min 1 (n + 1 - i) * 3) := by show _ = _; rw [hVl]; simp only [Nat.min_def]; split <;> omega
  have HF1 : Hid ((i + 1) * 3 + B.length ≤ cur.length) := by show _ ≤ _; omega
  have HF2 : Hid (i * 3 + V.length ≤ S1.length) := by show _ ≤ _; omega
  have HEND : Hid (∀ w2 w3 : World, w.grownBy w2 (some g) → w2.grownBy w3 (some g) → w3.heap[g]? = some (.cells S2.toArray 34 (0, 0)) → OwMem w3 base (.slice (some ⟨g, 0, none⟩) (n + 1) cap) (ts.take i ++ [m] ++ ts.drop i) ∧ w.grownBy w3 (some g)) := fun w2 w3 g2 g3 h => by
    obtain ⟨D, hD⟩ := hfin
    exact ⟨row_ins h hD hS2l hb hn (by omega) hc hm, ⟨g3.os.trans g2.os, g3.tape.trans g2.tape, g3.output.trans g2.output, Nat.le_trans g2.size g3.size, fun k hk hk' => (g3.block k (Nat.lt_of_lt_of_le hk g2.size) hk').trans (g2.block k hk hk')⟩⟩
  have HS1 : Hid (S1 = splice cur ((i + 1) * 3) B) := hS1
  have HS2 : Hid (S2 = splice S1 (i * 3) V) := hS2
  have HVW : Hid (∀ w2 : World, w.grownBy w2 (some g) → w2.heap[vb]? = some (.cells V.toArray 34 (0, 0))) := fun w2 g2 => (g2.block _ (Array.getElem?_eq_some_iff.1 HV.out).1 (by simpa using hne)).trans HV.out
  clear hg hv hsplit ho hB hV ht hfin hS1 hS2 hS1l hS2l hBl hVl hAl hs hm hn
  go_enter Try.func34, Try.ntmps34
  go_wp2_with (simp only [hov])
  go_region_law (refine step_copyM rfl (.tmp 73) (.tmp 76) 28 Try.underlying28 rfl g ((i + 1) * 3) (n + 1 - (i + 1)) (cap - (i + 1)) ⟨g, i * 3, none⟩ (n + 1 - i) (cap - i) (by simp [Act.eval, Act.put]) (by simp [Act.eval, Act.put]) cur B HG.out HBL.out (HSB.out _ HG.out) HF1.out HB1.out ?_; intro w2 HG2 g2)
  all_goals
    have g2' : w.grownBy w2 (some g) := by first | exact g2 | exact grown_un g2
    have HG2' : Hid (w2.heap[g]? = some (.cells S1.toArray 34 (0, 0))) := by rw [HS1.out]; exact HG2.out
    clear HG2 g2
    go_wp2_with (refine wpList_copyM rfl (.tmp 80) (.tmp 81) 28 Try.underlying28 rfl g (i * 3) (n + 1 - i) (cap - i) ⟨vb, 0, none⟩ 1 1 rfl rfl S1 V HG2'.out HVL.out (HSV.out _ (HVW.out _ g2')) HF2.out HV1.out ?_; intro w3 HG3 g3)
    go_ret
    obtain ⟨o3, g4⟩ := HEND.out w2 w3 g2' g3 (by rw [HS2.out]; exact HG3.out)
    exact ⟨_, rfl, o3, g4⟩

/-- 'append(s[:i], make(S, k)...)' where there is no room: a new row. -/
theorem wpList_zerosM {w : World} {ops : Array Oper} {rest : List Oper} {o : Oper} {a : Act} {Q : Exit → Act → World → Prop} (hgd : o.guard = none) (s x : Operand) (t : TypeId) (ht : Try.prog.underlying t = some (.slice 34))
    (ho : o.op = .call { callee := .builtin .append, args := #[s, x], argTypes := #[t, 3] }) (g i cap k L : Nat) (z : Int) (hs : a.eval s = .slice (some ⟨g, 0, none⟩) i cap) (hx : a.eval x = .int .i64 z) (hz : z = (k : Int)) (hL : L = i + k)
    (olds : List Value) (hol : olds.length = i * 3) (hcells : ∀ (j : Nat) v, olds[j]? = some v → w.cell? ⟨g, j, none⟩ = some v) (h0 : 0 < k) (hg : cap < i + k) (hbig : i + k ≤ 2000)
    (h : ∀ (G : Nat) (Z : List Value) (w' : World), L ≤ G → G ≤ maxLen → (olds ++ Z).length = G * 3 → Hid (w'.heap[w.heap.size]? = some (.cells (olds ++ Z).toArray 34 (0, 0))) → w.grownBy w' none → wpList Try.prog ops Q rest (a.put o.dst (.slice (some ⟨w.heap.size, 0, none⟩) L G)) w') : wpList Try.prog ops Q (o :: rest) a w := by
  subst hz
  subst hL
  obtain ⟨i0, hi, hz0, hz1, hz2⟩ := info_parts info_Mem
  have hold : (Builtin.firstCells i0.size i (.slice (some ⟨g, 0, none⟩) i cap)).run Try.prog w.drew = .ok olds.toArray w.drew := by
    rw [hz1]
    exact run_firstCells_some w.drew 3 i ⟨g, 0, none⟩ i cap olds hol (fun j v hj => by
      rw [Addr.add_lit, Nat.zero_add]
      exact hcells j v hj)
  have hrun := Lib.run_append_grow_zeros (P := Try.prog) w t 3 o.type 34 i0 _ .i64 .i64 ht Try.underlying3 hi hz0 (some ⟨g, 0, none⟩) i cap olds hold k h0 (by omega) hg (by omega) (by rw [hz2]; omega) (by rw [hz2]; exact growslice_fits hg (by omega))
  have hG := grownCap_ge w (i + k) cap 34
  have hGm := grownCap_le_maxLen w (i + k) cap 34 (by unfold maxLen; omega)
  generalize grownCap w (i + k) cap 34 = G at hrun hG hGm
  refine wpList_plain hgd fun K hK => ?_
  unfold Oper.wp execOp
  simp only [ho, resolve, invoke, builtin, Sem.run_bind, Sem.run_pure, Result.andThen_ok, List.map_toArray, List.map_cons, List.map_nil, hs, hx, hrun]
  refine hK _ _ (h G ((Builtin.zeroCells (Value.agg #[.int .i64 0, .int .i64 0, .int .i64 0]).cells k).toList ++ (Builtin.zeroCells (Value.agg #[.int .i64 0, .int .i64 0, .int .i64 0]).cells (G - (i + k))).toList) _ hG hGm ?_ ?_ ?_)
  · simp [Builtin.zeroCells, Value.cells, hol]
    omega
  · show _ = _
    rw [show (olds ++ ((Builtin.zeroCells (Value.agg #[.int .i64 0, .int .i64 0, .int .i64 0]).cells k).toList ++ (Builtin.zeroCells (Value.agg #[.int .i64 0, .int .i64 0, .int .i64 0]).cells (G - (i + k))).toList)).toArray = olds.toArray ++ Builtin.zeroCells (Value.agg #[.int .i64 0, .int .i64 0, .int .i64 0]).cells k ++ Builtin.zeroCells (Value.agg #[.int .i64 0, .int .i64 0, .int .i64 0]).cells (G - (i + k)) by apply Array.ext'; simp]
    exact heap_alloc_new w.drew _
  · exact grown_un (World.grownBy_alloc _ _ _)

set_option maxRecDepth 20000 in
set_option maxHeartbeats 4000000 in
theorem ins_grow (base g n vb i : Nat) (ts : List DMem) (m : DMem) (w : World) (ho : OwMem w base (.slice (some ⟨g, 0, none⟩) n n) ts) (hn : n = ts.length) (hl : n ≤ 1000) (hi : i < n) (hv : w.heap[vb]? = some (.cells (cM m).toArray 34 (0, 0))) (hbs : base ≤ w.heap.size) :
    Calls Try.prog 34 #[.slice (some ⟨g, 0, none⟩) n n, .int .i64 i, .slice (some ⟨vb, 0, none⟩) 1 1] w fun e w' => ∃ v', e = .returned v' ∧ OwMem w' base v' (ts.take i ++ [m] ++ ts.drop i) ∧ w.grownBy w' (some g) := by
  obtain ⟨cur, hb, hg, hs, ht⟩ : ∃ cur : List Value, base ≤ g ∧ w.heap[g]? = some (.cells cur.toArray 34 (0, 0)) ∧ cur.length = n * 3 ∧ cur.take (n * 3) = cMem ts := by
    rcases ho.2 with ⟨h, _⟩ | ⟨g', cap', cur, h, h1, h2, h3, h4, h5, h6⟩
    · cases h
    · simp only [Value.slice.injEq, Option.some.injEq, Addr.mk.injEq, and_true] at h
      obtain ⟨rfl, _, rfl⟩ := h
      exact ⟨cur.toList, h1, by simpa using h2, by simpa using h5, by rw [hn]; exact h6⟩
  obtain ⟨A, hA⟩ : ∃ A, A = cMem (ts.take i) := ⟨_, rfl⟩
  obtain ⟨B, hB⟩ : ∃ B, B = cMem (ts.drop i) := ⟨_, rfl⟩
  obtain ⟨V, hV⟩ : ∃ V, V = cM m := ⟨_, rfl⟩
  have hBl : B.length = (n - i) * 3 := by rw [hB, cMem_len, List.length_drop, ← hn]
  have hVl : V.length = 3 := by rw [hV]; rfl
  have hsplit : cur = A ++ B := by
    rw [hA, hB, ← cMem_append, List.take_append_drop, ← ht, List.take_of_length_le (by omega)]
  have hAl : A.length = i * 3 := by rw [hA, cMem_len, List.length_take]; omega
  have hgl : g < w.heap.size := (Array.getElem?_eq_some_iff.1 hg).1
  have hvl : vb < w.heap.size := (Array.getElem?_eq_some_iff.1 hv).1
  have hz2 : ¬ ((i : Int) = (n : Int)) := by omega
  have hw1 : IntKind.i64.wrap ((i : Int) + 1) = (i : Int) + 1 := by rw [IntKind.wrap_i64]; omega
  have hb1 : (0 : Int) ≤ (i : Int) + 1 := by omega
  have htn : ((i : Int) + 1).toNat = i + 1 := by omega
  have hin : i ≤ n := by omega
  have hb3 : (i : Int) ≤ (n : Int) := by omega
  have hb5 : (i : Int) ≤ (n : Int) + 1 := by omega
  have hb4 : ¬ (n = i) := by omega
  have HAC : Hid (∀ (j : Nat) v, A[j]? = some v → w.cell? ⟨g, j, none⟩ = some v) := fun j v hj => by
    refine (at_block hg _ _ ?_).1
    rw [List.getElem?_toArray, hsplit, List.getElem?_append_left (List.getElem?_eq_some_iff.1 hj).1]
    exact hj
  have HSB : Hid (∀ W : World, W.heap[g]? = some (.cells cur.toArray 34 (0, 0)) → ∀ (j : Nat) v, B[j]? = some v → W.cell? ((⟨g, i * 3, none⟩ : Addr).add j) = some v) := fun W hW j v hj => by
    rw [Addr.add_lit]
    refine (at_block hW _ _ ?_).1
    rw [List.getElem?_toArray, hsplit, List.getElem?_append_right (by omega), hAl, show i * 3 + j - i * 3 = j by omega]
    exact hj
  have HSV : Hid (∀ W : World, W.heap[vb]? = some (.cells V.toArray 34 (0, 0)) → ∀ (j : Nat) v, V[j]? = some v → W.cell? ((⟨vb, 0, none⟩ : Addr).add j) = some v) := fun W hW j v hj => by
    rw [Addr.add_lit, Nat.zero_add]
    exact (at_block hW _ _ (by rw [List.getElem?_toArray]; exact hj)).1
  have HB1 : Hid (∀ v ∈ B, v.oneCell' = true) := by rw [hB]; exact cMem_one _
  have HV1 : Hid (∀ v ∈ V, v.oneCell' = true) := by rw [hV, show cM m = cMem [m] from rfl]; exact cMem_one _
  have HBL : Hid (B.length = Nat.min (n - i) (n + 1 - (i + 1)) * 3) := by show _ = _; rw [hBl]; simp only [Nat.min_def]; split <;> omega
  have HVL : Hid (V.length = Nat.min 1 (n + 1 - i) * 3) := by show _ = _; rw [hVl]; simp only [Nat.min_def]; split <;> omega
  have HAL : Hid (A.length = i * 3 ∧ B.length = (n - i) * 3 ∧ V.length = 3) := ⟨hAl, hBl, hVl⟩
  have HW : Hid (∀ w1 : World, w.grownBy w1 none → w1.heap[g]? = some (.cells cur.toArray 34 (0, 0)) ∧ w1.heap[vb]? = some (.cells V.toArray 34 (0, 0))) := fun w1 g1 => ⟨(g1.block _ hgl (by simp)).trans hg, (g1.block _ hvl (by simp)).trans (by rw [hV]; exact hv)⟩
  have HGN : Hid (∀ w1 w2 : World, w.grownBy w1 none → w1.grownBy w2 (some w.heap.size) → w.grownBy w2 none) := fun w1 w2 g1 g2 => ⟨g2.os.trans g1.os, g2.tape.trans g1.tape, g2.output.trans g1.output, Nat.le_trans g1.size g2.size, fun k hk hk' => (g2.block k (Nat.lt_of_lt_of_le hk g1.size) (by simp; omega)).trans (g1.block k hk hk')⟩
  have HEND : Hid (∀ (G : Nat) (Z : List Value) (w3 : World), n + 1 ≤ G → G ≤ maxLen → (A ++ Z).length = G * 3 → w3.heap[w.heap.size]? = some (.cells (splice (splice (A ++ Z) (i * 3) V) ((i + 1) * 3) B).toArray 34 (0, 0)) → OwMem w3 base (.slice (some ⟨w.heap.size, 0, none⟩) (n + 1) G) (ts.take i ++ [m] ++ ts.drop i)) := fun G Z w3 h1 h2 h3 h4 => by
    obtain ⟨D, hD⟩ := splice_fill A Z V B hVl
    rw [hAl, show i * 3 + 3 = (i + 1) * 3 by omega] at hD
    have e1 : (splice (A ++ Z) (i * 3) V).length = G * 3 := by rw [length_splice _ _ _ (by omega), h3]
    refine row_ins h4 (D := D) (by rw [hD, hA, hB, hV]) (by rw [length_splice _ _ _ (by omega), e1]) hbs hn (by omega) h1 h2
  clear hg hv hsplit ho hA hB hV ht hBl hVl hAl hs hn hb hbs
  go_enter Try.func34, Try.ntmps34
  go_upto_region 10 with (at_builtin; refine wpList_zerosM rfl (.tmp 34) (.tmp 39) 28 Try.underlying28 rfl g i n (n + 1 - i) (n + 1) _ rfl rfl (by omega) (by omega) A HAL.out.1 HAC.out (by omega) (by omega) (by omega) ?_; intro G Z w1 hG1 hG2 hZ HG1 g1; have hGm : G ≤ 9223372036854775807 := (by unfold maxLen at hG2; omega); have hGi : ¬ (G = i) := (by omega); have hGj : ¬ (G = i + 1) := (by omega); obtain ⟨R0, hR0⟩ : ∃ R0, R0 = A ++ Z := ⟨_, rfl⟩; have HR0 : Hid (R0 = A ++ Z ∧ R0.length = G * 3) := ⟨hR0, (by rw [hR0]; exact hZ)⟩; have HG1' : Hid (w1.heap[w.heap.size]? = some (.cells R0.toArray 34 (0, 0))) := (by rw [hR0]; exact HG1.out); clear hZ HG1 hR0)
  have HS1 : Hid ((splice R0 (i * 3) V).length = G * 3) := by show _ = _; rw [length_splice _ _ _ (by have := HAL.out; have := HR0.out.2; omega), HR0.out.2]
  obtain ⟨S1, hS1⟩ : ∃ S1, S1 = splice R0 (i * 3) V := ⟨_, rfl⟩
  have HS1e : Hid (S1 = splice R0 (i * 3) V ∧ S1.length = G * 3) := ⟨hS1, by rw [hS1]; exact HS1.out⟩
  have HF1 : Hid (i * 3 + V.length ≤ R0.length) := by show _ ≤ _; have := HAL.out; have := HR0.out.2; omega
  have HF2 : Hid ((i + 1) * 3 + B.length ≤ S1.length) := by show _ ≤ _; have := HAL.out; have := HS1e.out.2; omega
  clear hS1 HS1
  go_wp2_with (refine wpList_copyM rfl (.tmp 43) (.tmp 44) 28 Try.underlying28 rfl w.heap.size (i * 3) (n + 1 - i) (G - i) ⟨vb, 0, none⟩ 1 1 rfl rfl R0 V HG1'.out HVL.out (HSV.out _ (HW.out _ g1).2) HF1.out HV1.out ?_; intro w2 HG2 g2)
  have gN2 := HGN.out w1 w2 g1 g2
  have HG2' : Hid (w2.heap[w.heap.size]? = some (.cells S1.toArray 34 (0, 0))) := by rw [HS1e.out.1]; exact HG2.out
  have HGA : Hid (w2.heap[g]? = some (.cells cur.toArray 34 (0, 0))) := (HW.out _ gN2).1
  clear HG2 g2 g1 HG1'
  go_region_law (refine step_copyM rfl (.tmp 50) (.tmp 53) 28 Try.underlying28 rfl w.heap.size ((i + 1) * 3) (n + 1 - (i + 1)) (G - (i + 1)) ⟨g, i * 3, none⟩ (n - i) (n - i) (by simp [Act.eval, Act.put]) (by simp [Act.eval, Act.put]) S1 B HG2'.out HBL.out (HSB.out _ HGA.out) HF2.out HB1.out ?_; intro w3 HG3 g3)
  all_goals
    have g3' : w2.grownBy w3 (some w.heap.size) := by first | exact g3 | exact grown_un g3
    have gN3 := HGN.out w2 w3 gN2 g3'
    have o3 := HEND.out G Z w3 hG1 hG2 (by rw [← HR0.out.1]; exact HR0.out.2) (by rw [← HR0.out.1, ← HS1e.out.1]; exact HG3.out)
    go_wp2
    go_ret
    exact ⟨_, rfl, o3, ⟨gN3.os, gN3.tape, gN3.output, gN3.size, fun k hk _ => gN3.block k hk (by simp)⟩⟩

/-- The library's Insert at members: a member goes to its place. -/
theorem insertM (base g n cap vb i : Nat) (ts : List DMem) (m : DMem) (w : World) (ho : OwMem w base (.slice (some ⟨g, 0, none⟩) n cap) ts) (hn : n = ts.length) (hl : n ≤ 1000) (hi : i ≤ n) (hc : n ≤ cap) (hcm : cap ≤ maxLen) (hv : w.heap[vb]? = some (.cells (cM m).toArray 34 (0, 0))) (hne : vb ≠ g) (hbs : base ≤ w.heap.size) :
    Calls Try.prog 34 #[.slice (some ⟨g, 0, none⟩) n cap, .int .i64 i, .slice (some ⟨vb, 0, none⟩) 1 1] w fun e w' => ∃ v', e = .returned v' ∧ OwMem w' base v' (ts.take i ++ [m] ++ ts.drop i) ∧ w.grownBy w' (some g) := by
  by_cases h1 : i = n
  · subst h1
    have hV : VMem w (.slice (some ⟨vb, 0, none⟩) 1 1) [m] := by
      refine ⟨fun _ j => if j = 0 then .int .i64 m.id else if j = 1 then .int .i64 m.st else .int .i64 m.life, ⟨_, 1, rfl, Nat.le_refl _, by unfold maxLen; decide, fun _ => ⟨vb, 0, rfl, (Array.getElem?_eq_some_iff.1 hv).1, fun i hi j hj => ?_⟩⟩, fun i r hr => ?_⟩
      · have hi : i = 0 := by simpa using hi
        subst hi
        have hj : j = 0 ∨ j = 1 ∨ j = 2 := by omega
        rcases hj with rfl | rfl | rfl
        · exact (at_block hv 0 _ rfl).1
        · exact (at_block hv 1 _ rfl).1
        · exact (at_block hv 2 _ rfl).1
      · have hi : i = 0 := by have := (List.getElem?_eq_some_iff.1 hr).1; simpa using this
        subst hi
        have : r = m := by simpa using hr.symm
        subst this
        exact ⟨rfl, rfl, rfl⟩
    refine (ins_end base g i cap vb ts m w ho hn hl hc hcm hV hbs).mono ?_
    rintro e w' ⟨v', rfl, o', g'⟩
    refine ⟨v', rfl, ?_, g'⟩
    rw [List.take_of_length_le (by omega), List.drop_of_length_le (by omega), List.append_nil]
    exact o'
  · by_cases h2 : n + 1 ≤ cap
    · exact ins_shift base g n cap vb i ts m w ho hn hl h2 (by omega) hv hne
    · obtain rfl : cap = n := by omega
      exact ins_grow base g cap vb i ts m w ho hn hl (by omega) hv hbs

end Go.Proofs.Ytbphmgcfbjiadaa
