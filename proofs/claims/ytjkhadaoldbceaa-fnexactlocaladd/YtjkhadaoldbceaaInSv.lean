
/- The library's Insert at a list of structs (Service): one of them goes to its place. -/
import Derived.Test.YtjkhadaoldbceaaInsG
import Derived.Test.YtjkhadaoldbceaaElG
import Derived.Test.YtjkhadaoldbceaaCsC
import Derived.Lib.AppendZerosOnto
import Derived.Deep.RegionLawGrows
import Derived.Deep.CutRange
namespace Go.Proofs.Ytjkhadaoldbceaa
open Go.RowKit

theorem sizeSv (w : World) : (Go.sizeOf 54).run Try.prog w = .ok 2 w := by kernel_rfl
theorem hidISv {p : Prop} (h : p) : Hid p := h
/-- What lies in two blocks does not overlap. -/
theorem overSv (w : World) (vb g off lb cb : Nat) (cv cg : Array Value) (hv : w.heap[vb]? = some (.cells cv 54 (0, 0))) (hg : w.heap[g]? = some (.cells cg 54 (0, 0))) (hne : vb ≠ g) (h0 : cg.size ≠ 0) :
    (callFunc 55 #[.slice (some ⟨vb, 0, none⟩) 1 1, .slice (some ⟨g, off, none⟩) lb cb]).run Try.prog w = .ok (.value (.bool false)) w := by
  rw [run_callFunc_extern Try.func55 (by kernel_rfl) (by kernel_rfl) (by kernel_rfl) (e := Extern.SlicesOverlaps.overlaps #[27, 27] #[4]) (by kernel_rfl),
    Lib.run_overlaps_apart w 27 4 54 Try.underlying27 2 sizeSv ⟨vb, 0, none⟩ ⟨g, off, none⟩ 1 1 lb cb hne 54 54 cv.size cg.size (by simp [World.shape?, hv]) (by simp [World.shape?, hg]) h0 (by simp [World.frozen?, hv]) (by simp [World.frozen?, hv])]
  rfl

set_option maxRecDepth 20000 in
set_option maxHeartbeats 4000000 in
/-- Behind the last one: an append. -/
theorem ins_endSv (v0 : Value) (n vb : Nat) (F : Nat → Nat → Value) (G0 : Nat → Value) (w : World) (hr : Row 0 54 2 w v0 n F) (hG1 : ∀ j, j < 2 → (G0 j).oneCell' = true) (hl : n ≤ 1000) (hv : w.heap[vb]? = some (.cells ((List.range 2).map G0).toArray 54 (0, 0))) :
    Calls Try.prog 31 #[v0, .int .i64 n, .slice (some ⟨vb, 0, none⟩) 1 1] w fun e w' => ∃ g' cap', e = .returned (.slice (some ⟨g', 0, none⟩) (n + 1) cap') ∧ Blk w' g' 54 2 cap' (n + 1) (insF n F G0) ∧ n + 1 ≤ cap' ∧ cap' ≤ maxLen ∧ (v0.ownBlock = some g' ∨ g' = w.heap.size) ∧ w.grownBy w' v0.ownBlock := by
  have HR := hidISv hr
  obtain ⟨a, cap, hv0⟩ := hr.shape
  have hcc : n ≤ cap ∧ cap ≤ 9223372036854775807 := by
    rcases hr.blk with ⟨e1, e2⟩ | ⟨g, c, e1, _, q1, q2, _⟩
    · rw [hv0] at e1
      injection e1 with _ e3 e4
      omega
    · rw [hv0] at e1
      injection e1 with _ _ e4
      unfold maxLen at q2
      omega
  have hsn : a = none → cap = 0 := fun ha => by
    rcases hr.blk with ⟨e1, e2⟩ | ⟨g, c, e1, _⟩
    · rw [hv0] at e1; injection e1 with _ _ e4
    · rw [hv0, ha] at e1; injection e1 with e3; cases e3
  subst hv0
  have HSRC : Hid (Src 2 w (some ⟨vb, 0, none⟩) 1 (fun _ => G0)) := fun _ => ⟨_, rfl, fun i hi j hj => by
    obtain rfl : i = 0 := by omega
    rw [Addr.add_lit, Nat.zero_add, Nat.zero_mul, Nat.zero_add]
    exact (at_block hv j _ (by rw [List.getElem?_toArray, List.getElem?_map, List.getElem?_range hj]; rfl)).1⟩
  have HONE : Hid (∀ i, i < 1 → ∀ j, j < 2 → (G0 j).oneCell' = true) := fun _ _ j hj => hG1 j hj
  have HEND : Hid (∀ v1 w1, Row 0 54 2 w1 v1 (n + 1) (joinF n F (fun _ => G0)) → w.grownBy w1 (Value.slice a n cap).ownBlock → (v1.ownBlock = (Value.slice a n cap).ownBlock ∨ v1.ownBlock = some w.heap.size) → ∃ g' cap', v1 = .slice (some ⟨g', 0, none⟩) (n + 1) cap' ∧ Blk w1 g' 54 2 cap' (n + 1) (insF n F G0) ∧ n + 1 ≤ cap' ∧ cap' ≤ maxLen ∧ ((Value.slice a n cap).ownBlock = some g' ∨ g' = w.heap.size) ∧ w.grownBy w1 (Value.slice a n cap).ownBlock) := fun v1 w1 q1 q2 q3 => by
    rcases q1.blk with ⟨_, e2⟩ | ⟨g', cap', rfl, _, e3, e4, e5⟩
    · omega
    · refine ⟨g', cap', rfl, blk_same e5 fun x hx c hc => ?_, e3, e4, ?_, q2⟩
      · unfold joinF insF
        split
        · rfl
        · rw [if_pos (by omega)]
      · rcases q3 with q3 | q3
        · exact .inl q3.symm
        · right
          simpa [Value.ownBlock] using q3
  obtain ⟨hcn, hcm⟩ := hcc
  have hn1 : (n : Int) ≤ 1000 := by omega
  clear hr hv hG1
  by_cases hcn2 : cap = n
  · subst hcn2
    rcases a with _ | a
    · obtain rfl := hsn rfl
      go_enter Try.func31, Try.ntmps31
      go_wp2_with (at_builtin; refine wpList_rowG info_SvC rfl (by omega) _ rfl (.tmp 23) (.tmp 24) 27 Try.underlying27 rfl 0 _ _ F rfl HR.out _ 1 1 (fun _ => G0) rfl HSRC.out HONE.out (fun e => by cases e) (by unfold maxLen; omega) (by omega) (Nat.zero_le _) ?_; intro v1 w1 o1 g1 h1; obtain ⟨g', cap', rfl, q1, q2, q3, q4, q5⟩ := HEND.out v1 w1 o1 g1 h1)
      go_ret
      exact ⟨_, _, rfl, q1, q2, q3, q4, q5⟩
    · go_enter Try.func31, Try.ntmps31
      go_wp2_with (at_builtin; refine wpList_rowG info_SvC rfl (by omega) _ rfl (.tmp 23) (.tmp 24) 27 Try.underlying27 rfl 0 _ _ F rfl HR.out _ 1 1 (fun _ => G0) rfl HSRC.out HONE.out (fun e => by cases e) (by unfold maxLen; omega) (by omega) (Nat.zero_le _) ?_; intro v1 w1 o1 g1 h1; obtain ⟨g', cap', rfl, q1, q2, q3, q4, q5⟩ := HEND.out v1 w1 o1 g1 h1)
      go_ret
      exact ⟨_, _, rfl, q1, q2, q3, q4, q5⟩
  · rcases a with _ | a
    · have := hsn rfl
      omega
    · go_enter Try.func31, Try.ntmps31
      go_wp2_with (at_builtin; refine wpList_rowG info_SvC rfl (by omega) _ rfl (.tmp 23) (.tmp 24) 27 Try.underlying27 rfl 0 _ _ F rfl HR.out _ 1 1 (fun _ => G0) rfl HSRC.out HONE.out (fun e => by cases e) (by unfold maxLen; omega) (by omega) (Nat.zero_le _) ?_; intro v1 w1 o1 g1 h1; obtain ⟨g', cap', rfl, q1, q2, q3, q4, q5⟩ := HEND.out v1 w1 o1 g1 h1)
      go_ret
      exact ⟨_, _, rfl, q1, q2, q3, q4, q5⟩

set_option maxRecDepth 20000 in
set_option maxHeartbeats 4000000 in
theorem ins_shiftSv (g n cap vb i : Nat) (F : Nat → Nat → Value) (G0 : Nat → Value) (w : World) (hb0 : Blk w g 54 2 cap n F) (h1c : ∀ a, a < n → ∀ j, j < 2 → (F a j).oneCell' = true) (hG1 : ∀ j, j < 2 → (G0 j).oneCell' = true) (hl : n ≤ 1000) (hc : n + 1 ≤ cap) (hm : cap ≤ maxLen) (hi : i < n) (hv : w.heap[vb]? = some (.cells ((List.range 2).map G0).toArray 54 (0, 0))) (hne : vb ≠ g) :
    Calls Try.prog 31 #[.slice (some ⟨g, 0, none⟩) n cap, .int .i64 i, .slice (some ⟨vb, 0, none⟩) 1 1] w fun e w' => ∃ g' cap', e = .returned (.slice (some ⟨g', 0, none⟩) (n + 1) cap') ∧ Blk w' g' 54 2 cap' (n + 1) (insF i F G0) ∧ n + 1 ≤ cap' ∧ cap' ≤ maxLen ∧ (g' = g ∨ g' = w.heap.size) ∧ w.grownBy w' (some g) := by
  obtain ⟨cur, hg, hs, ht⟩ := blk_cells hb0 (by omega)
  have hcap : cap ≤ 9223372036854775807 := by unfold maxLen at hm; omega
  have HM : Hid (cap ≤ maxLen) := hm
  obtain ⟨B, hB⟩ : ∃ B, B = cellsF (fun a => F (i + a)) 2 (n - i) := ⟨_, rfl⟩
  obtain ⟨V, hV⟩ : ∃ V, V = (List.range 2).map G0 := ⟨_, rfl⟩
  have hBl : B.length = (n - i) * 2 := by rw [hB, cellsF_len]
  have hVl : V.length = 2 := by rw [hV]; simp
  have hsplit : cur = cellsF F 2 i ++ B ++ cur.drop (n * 2) := by
    rw [hB, show cellsF F 2 i ++ cellsF (fun a => F (i + a)) 2 (n - i) = cellsF F 2 n by rw [← cellsF_add, show i + (n - i) = n by omega], ← ht, List.take_append_drop]
  have hAl : (cellsF F 2 i).length = i * 2 := cellsF_len _ _ _
  have hov : ∀ lb cb, (callFunc 55 #[.slice (some ⟨vb, 0, none⟩) 1 1, .slice (some ⟨g, (i + 1) * 2, none⟩) lb cb]).run Try.prog w = .ok (.value (.bool false)) w := fun lb cb => overSv w vb g _ lb cb _ _ hv hg hne (by rw [List.size_toArray, hs]; omega)
  have hz2 : ¬ ((i : Int) = (n : Int)) := by omega
  have hw1 : IntKind.i64.wrap ((i : Int) + 1) = (i : Int) + 1 := by rw [IntKind.wrap_i64]; omega
  have hb1 : (0 : Int) ≤ (i : Int) + 1 := by omega
  have htn : ((i : Int) + 1).toNat = i + 1 := by omega
  have hin : i ≤ n := by omega
  have hb2 : ¬ (cap = i + 1) := by omega
  have hb3 : (i : Int) ≤ (n : Int) + 1 := by omega
  have hb4 : ¬ (cap = i) := by omega
  have hsum : ¬ ((cap : Int) < (n : Int) + 1) := by omega
  obtain ⟨S1, hS1⟩ : ∃ S1, S1 = splice cur ((i + 1) * 2) B := ⟨_, rfl⟩
  obtain ⟨S2, hS2⟩ : ∃ S2, S2 = splice S1 (i * 2) V := ⟨_, rfl⟩
  have hS1l : S1.length = cap * 2 := by rw [hS1, length_splice _ _ _ (by omega), hs]
  have hS2l : S2.length = cap * 2 := by rw [hS2, length_splice _ _ _ (by omega), hS1l]
  have hfin : ∃ D, S2 = cellsF F 2 i ++ (List.range 2).map G0 ++ cellsF (fun a => F (i + a)) 2 (n - i) ++ D := by
    have h := splice_shiftG 2 (cellsF F 2 i) B (cur.drop (n * 2)) V hVl (by rw [List.length_drop, hs]; omega)
    rw [← hsplit, hAl, show i * 2 + 2 = (i + 1) * 2 by omega, ← hS1, ← hS2] at h
    rw [hV, hB] at h
    exact h
  have HG : Hid (w.heap[g]? = some (.cells cur.toArray 54 (0, 0))) := hg
  have HV : Hid (w.heap[vb]? = some (.cells V.toArray 54 (0, 0))) := by rw [hV]; exact hv
  have HSB : Hid (∀ W : World, W.heap[g]? = some (.cells cur.toArray 54 (0, 0)) → ∀ (j : Nat) v, B[j]? = some v → W.cell? ((⟨g, i * 2, none⟩ : Addr).add j) = some v) := fun W hW j v hj => by
    rw [Addr.add_lit]
    refine (at_block hW _ _ ?_).1
    rw [List.getElem?_toArray, hsplit, List.append_assoc, List.getElem?_append_right (by omega), hAl, show i * 2 + j - i * 2 = j by omega, List.getElem?_append_left (List.getElem?_eq_some_iff.1 hj).1]
    exact hj
  have HSV : Hid (∀ W : World, W.heap[vb]? = some (.cells V.toArray 54 (0, 0)) → ∀ (j : Nat) v, V[j]? = some v → W.cell? ((⟨vb, 0, none⟩ : Addr).add j) = some v) := fun W hW j v hj => by
    rw [Addr.add_lit, Nat.zero_add]
    exact (at_block hW _ _ (by rw [List.getElem?_toArray]; exact hj)).1
  have HB1 : Hid (∀ v ∈ B, v.oneCell' = true) := by rw [hB]; exact cellsF_one fun a ha j hj => h1c (i + a) (by omega) j hj
  have HV1 : Hid (∀ v ∈ V, v.oneCell' = true) := by rw [hV]; intro v hv2; obtain ⟨c, hc2, rfl⟩ := List.mem_map.1 hv2; exact hG1 c (List.mem_range.1 hc2)
  have HBL : Hid (B.length = Nat.min (n + 1 - i) (n + 1 - (i + 1)) * 2) := by show _ = _; rw [hBl]; simp only [Nat.min_def]; split <;> omega
  have HVL : Hid (V.length = Nat.min 1 (n + 1 - i) * 2) := by show _ = _; rw [hVl]; simp only [Nat.min_def]; split <;> omega
  have HF1 : Hid ((i + 1) * 2 + B.length ≤ cur.length) := by show _ ≤ _; omega
  have HF2 : Hid (i * 2 + V.length ≤ S1.length) := by show _ ≤ _; omega
  have HEND : Hid (∀ w2 w3 : World, w.grownBy w2 (some g) → w2.grownBy w3 (some g) → w3.heap[g]? = some (.cells S2.toArray 54 (0, 0)) → Blk w3 g 54 2 cap (n + 1) (insF i F G0) ∧ w.grownBy w3 (some g)) := fun w2 w3 g2 g3 h => by
    obtain ⟨D, hD⟩ := hfin
    exact ⟨blk_ins h hS2l hD (by omega), ⟨g3.os.trans g2.os, g3.tape.trans g2.tape, g3.output.trans g2.output, Nat.le_trans g2.size g3.size, fun k hk hk' => (g3.block k (Nat.lt_of_lt_of_le hk g2.size) hk').trans (g2.block k hk hk')⟩⟩
  have HS1 : Hid (S1 = splice cur ((i + 1) * 2) B) := hS1
  have HS2 : Hid (S2 = splice S1 (i * 2) V) := hS2
  have HVW : Hid (∀ w2 : World, w.grownBy w2 (some g) → w2.heap[vb]? = some (.cells V.toArray 54 (0, 0))) := fun w2 g2 => (g2.block _ (Array.getElem?_eq_some_iff.1 HV.out).1 (by simpa using hne)).trans HV.out
  clear hg hv hsplit hb0 hB hV ht hfin hS1 hS2 hS1l hS2l hBl hVl hAl hs hm h1c hG1
  go_enter Try.func31, Try.ntmps31
  go_wp2_with (simp only [hov])
  go_region_law (refine step_copyG info_SvC rfl (.tmp 73) (.tmp 76) 27 Try.underlying27 rfl g ((i + 1) * 2) (n + 1 - (i + 1)) (cap - (i + 1)) ⟨g, i * 2, none⟩ (n + 1 - i) (cap - i) (by simp [Act.eval, Act.put]) (by simp [Act.eval, Act.put]) cur B HG.out HBL.out (HSB.out _ HG.out) HF1.out HB1.out ?_; intro w2 HG2 g2)
  all_goals
    have g2' : w.grownBy w2 (some g) := by first | exact g2 | exact grown_un g2
    have HG2' : Hid (w2.heap[g]? = some (.cells S1.toArray 54 (0, 0))) := by rw [HS1.out]; exact HG2.out
    clear HG2 g2
    go_wp2_with (refine wpList_copyG info_SvC rfl (.tmp 80) (.tmp 81) 27 Try.underlying27 rfl g (i * 2) (n + 1 - i) (cap - i) ⟨vb, 0, none⟩ 1 1 rfl rfl S1 V HG2'.out HVL.out (HSV.out _ (HVW.out _ g2')) HF2.out HV1.out ?_; intro w3 HG3 g3)
    go_ret
    obtain ⟨o3, g4⟩ := HEND.out w2 w3 g2' g3 (by rw [HS2.out]; exact HG3.out)
    exact ⟨_, _, rfl, o3, hc, HM.out, .inl rfl, g4⟩


/-- 'append(s[:i], make(S, k)...)' where there is no room: a new row. -/
theorem wpList_zerosSv {w : World} {ops : Array Oper} {rest : List Oper} {o : Oper} {a : Act} {Q : Exit → Act → World → Prop} (hgd : o.guard = none) (s x : Operand) (t : TypeId) (ht : Try.prog.underlying t = some (.slice 54))
    (ho : o.op = .call { callee := .builtin .append, args := #[s, x], argTypes := #[t, 3] }) (g i cap k L : Nat) (z : Int) (hs : a.eval s = .slice (some ⟨g, 0, none⟩) i cap) (hx : a.eval x = .int .i64 z) (hz : z = (k : Int)) (hL : L = i + k)
    (olds : List Value) (hol : olds.length = i * 2) (hcells : ∀ (j : Nat) v, olds[j]? = some v → w.cell? ⟨g, j, none⟩ = some v) (h0 : 0 < k) (hg : cap < i + k) (hbig : i + k ≤ 2000)
    (h : ∀ (G : Nat) (Z : List Value) (w' : World), L ≤ G → G ≤ maxLen → (olds ++ Z).length = G * 2 → Hid (w'.heap[w.heap.size]? = some (.cells (olds ++ Z).toArray 54 (0, 0))) → w.grownBy w' none → wpList Try.prog ops Q rest (a.put o.dst (.slice (some ⟨w.heap.size, 0, none⟩) L G)) w') : wpList Try.prog ops Q (o :: rest) a w := by
  subst hz
  subst hL
  obtain ⟨i0, hi, hz0, hz1, hz2⟩ := info_parts info_SvC
  have hold : (Builtin.firstCells i0.size i (.slice (some ⟨g, 0, none⟩) i cap)).run Try.prog w.drew = .ok olds.toArray w.drew := by
    rw [hz1]
    exact run_firstCells_some w.drew 2 i ⟨g, 0, none⟩ i cap olds hol (fun j v hj => by
      rw [Addr.add_lit, Nat.zero_add]
      exact hcells j v hj)
  have hrun := Lib.run_append_grow_zeros (P := Try.prog) w t 3 o.type 54 i0 _ .i64 .i64 ht Try.underlying3 hi hz0 (some ⟨g, 0, none⟩) i cap olds hold k h0 (by omega) hg (by omega) (by rw [hz2]; omega) (by rw [hz2]; exact growslice_fits hg (by omega))
  have hG := grownCap_ge w (i + k) cap 54
  have hGm := grownCap_le_maxLen w (i + k) cap 54 (by unfold maxLen; omega)
  generalize grownCap w (i + k) cap 54 = G at hrun hG hGm
  refine wpList_plain hgd fun K hK => ?_
  unfold Oper.wp execOp
  simp only [ho, resolve, invoke, builtin, Sem.run_bind, Sem.run_pure, Result.andThen_ok, List.map_toArray, List.map_cons, List.map_nil, hs, hx, hrun]
  refine hK _ _ (h G ((Builtin.zeroCells (Value.agg #[.slice none 0 0, .slice none 0 0]).cells k).toList ++ (Builtin.zeroCells (Value.agg #[.slice none 0 0, .slice none 0 0]).cells (G - (i + k))).toList) _ hG hGm ?_ ?_ ?_)
  · simp [Builtin.zeroCells, Value.cells, hol]
    omega
  · show _ = _
    rw [show (olds ++ ((Builtin.zeroCells (Value.agg #[.slice none 0 0, .slice none 0 0]).cells k).toList ++ (Builtin.zeroCells (Value.agg #[.slice none 0 0, .slice none 0 0]).cells (G - (i + k))).toList)).toArray = olds.toArray ++ Builtin.zeroCells (Value.agg #[.slice none 0 0, .slice none 0 0]).cells k ++ Builtin.zeroCells (Value.agg #[.slice none 0 0, .slice none 0 0]).cells (G - (i + k)) by apply Array.ext'; simp]
    exact heap_alloc_new w.drew _
  · exact grown_un (World.grownBy_alloc _ _ _)


set_option maxRecDepth 20000 in
set_option maxHeartbeats 4000000 in
theorem ins_growSv (g n vb i : Nat) (F : Nat → Nat → Value) (G0 : Nat → Value) (w : World) (hb0 : Blk w g 54 2 n n F) (h1c : ∀ a, a < n → ∀ j, j < 2 → (F a j).oneCell' = true) (hG1 : ∀ j, j < 2 → (G0 j).oneCell' = true) (hl : n ≤ 1000) (hi : i < n) (hv : w.heap[vb]? = some (.cells ((List.range 2).map G0).toArray 54 (0, 0))) :
    Calls Try.prog 31 #[.slice (some ⟨g, 0, none⟩) n n, .int .i64 i, .slice (some ⟨vb, 0, none⟩) 1 1] w fun e w' => ∃ g' cap', e = .returned (.slice (some ⟨g', 0, none⟩) (n + 1) cap') ∧ Blk w' g' 54 2 cap' (n + 1) (insF i F G0) ∧ n + 1 ≤ cap' ∧ cap' ≤ maxLen ∧ (g' = g ∨ g' = w.heap.size) ∧ w.grownBy w' (some g) := by
  obtain ⟨cur, hg, hs, ht⟩ := blk_cells hb0 (Nat.le_refl _)
  obtain ⟨A, hA⟩ : ∃ A, A = cellsF F 2 i := ⟨_, rfl⟩
  obtain ⟨B, hB⟩ : ∃ B, B = cellsF (fun a => F (i + a)) 2 (n - i) := ⟨_, rfl⟩
  obtain ⟨V, hV⟩ : ∃ V, V = (List.range 2).map G0 := ⟨_, rfl⟩
  have hBl : B.length = (n - i) * 2 := by rw [hB, cellsF_len]
  have hVl : V.length = 2 := by rw [hV]; simp
  have hsplit : cur = A ++ B := by
    rw [hA, hB, show cellsF F 2 i ++ cellsF (fun a => F (i + a)) 2 (n - i) = cellsF F 2 n by rw [← cellsF_add, show i + (n - i) = n by omega], ← ht, List.take_of_length_le (by omega)]
  have hAl : A.length = i * 2 := by rw [hA, cellsF_len]
  have hgl : g < w.heap.size := (Array.getElem?_eq_some_iff.1 hg).1
  have hvl : vb < w.heap.size := (Array.getElem?_eq_some_iff.1 hv).1
  have hz2 : ¬ ((i : Int) = (n : Int)) := by omega
  have hw1 : IntKind.i64.wrap ((i : Int) + 1) = (i : Int) + 1 := by rw [IntKind.wrap_i64]; omega
  have hb1 : (0 : Int) ≤ (i : Int) + 1 := by omega
  have htn : ((i : Int) + 1).toNat = i + 1 := by omega
  have hin : i ≤ n := by omega
  have hb3 : (i : Int) ≤ (n : Int) := by omega
  have hb5 : (i : Int) ≤ (n : Int) + 1 := by omega
  have hb4 : ¬ (n = i) := by omega
  have HAC : Hid (∀ (j : Nat) v, A[j]? = some v → w.cell? ⟨g, j, none⟩ = some v) := fun j v hj => by
    refine (at_block hg _ _ ?_).1
    rw [List.getElem?_toArray, hsplit, List.getElem?_append_left (List.getElem?_eq_some_iff.1 hj).1]
    exact hj
  have HSB : Hid (∀ W : World, W.heap[g]? = some (.cells cur.toArray 54 (0, 0)) → ∀ (j : Nat) v, B[j]? = some v → W.cell? ((⟨g, i * 2, none⟩ : Addr).add j) = some v) := fun W hW j v hj => by
    rw [Addr.add_lit]
    refine (at_block hW _ _ ?_).1
    rw [List.getElem?_toArray, hsplit, List.getElem?_append_right (by omega), hAl, show i * 2 + j - i * 2 = j by omega]
    exact hj
  have HSV : Hid (∀ W : World, W.heap[vb]? = some (.cells V.toArray 54 (0, 0)) → ∀ (j : Nat) v, V[j]? = some v → W.cell? ((⟨vb, 0, none⟩ : Addr).add j) = some v) := fun W hW j v hj => by
    rw [Addr.add_lit, Nat.zero_add]
    exact (at_block hW _ _ (by rw [List.getElem?_toArray]; exact hj)).1
  have HB1 : Hid (∀ v ∈ B, v.oneCell' = true) := by rw [hB]; exact cellsF_one fun a ha j hj => h1c (i + a) (by omega) j hj
  have HV1 : Hid (∀ v ∈ V, v.oneCell' = true) := by rw [hV]; intro v hv2; obtain ⟨c, hc2, rfl⟩ := List.mem_map.1 hv2; exact hG1 c (List.mem_range.1 hc2)
  have HBL : Hid (B.length = Nat.min (n - i) (n + 1 - (i + 1)) * 2) := by show _ = _; rw [hBl]; simp only [Nat.min_def]; split <;> omega
  have HVL : Hid (V.length = Nat.min 1 (n + 1 - i) * 2) := by show _ = _; rw [hVl]; simp only [Nat.min_def]; split <;> omega
  have HAL : Hid (A.length = i * 2 ∧ B.length = (n - i) * 2 ∧ V.length = 2) := ⟨hAl, hBl, hVl⟩
  have HW : Hid (∀ w1 : World, w.grownBy w1 none → w1.heap[g]? = some (.cells cur.toArray 54 (0, 0)) ∧ w1.heap[vb]? = some (.cells V.toArray 54 (0, 0))) := fun w1 g1 => ⟨(g1.block _ hgl (by simp)).trans hg, (g1.block _ hvl (by simp)).trans (by rw [hV]; exact hv)⟩
  have HGN : Hid (∀ w1 w2 : World, w.grownBy w1 none → w1.grownBy w2 (some w.heap.size) → w.grownBy w2 none) := fun w1 w2 g1 g2 => ⟨g2.os.trans g1.os, g2.tape.trans g1.tape, g2.output.trans g1.output, Nat.le_trans g1.size g2.size, fun k hk hk' => (g2.block k (Nat.lt_of_lt_of_le hk g1.size) (by simp; omega)).trans (g1.block k hk hk')⟩
  have HEND : Hid (∀ (G : Nat) (Z : List Value) (w3 : World), n + 1 ≤ G → G ≤ maxLen → (A ++ Z).length = G * 2 → w3.heap[w.heap.size]? = some (.cells (splice (splice (A ++ Z) (i * 2) V) ((i + 1) * 2) B).toArray 54 (0, 0)) → Blk w3 w.heap.size 54 2 G (n + 1) (insF i F G0)) := fun G Z w3 h1 h2 h3 h4 => by
    obtain ⟨D, hD⟩ := splice_fillG 2 A Z V B hVl
    rw [hAl, show i * 2 + 2 = (i + 1) * 2 by omega] at hD
    have e1 : (splice (A ++ Z) (i * 2) V).length = G * 2 := by rw [length_splice _ _ _ (by omega), h3]
    exact blk_ins h4 (by rw [length_splice _ _ _ (by omega), e1]) (D := D) (by rw [hD, hA, hB, hV]) (by omega)
  clear hg hv hsplit hb0 hA hB hV ht hBl hVl hAl hs h1c hG1
  go_enter Try.func31, Try.ntmps31
  go_upto_region 10 with (at_builtin; refine wpList_zerosSv rfl (.tmp 34) (.tmp 39) 27 Try.underlying27 rfl g i n (n + 1 - i) (n + 1) _ rfl rfl (by omega) (by omega) A HAL.out.1 HAC.out (by omega) (by omega) (by omega) ?_; intro G Z w1 hG1 hG2 hZ HG1 g1; have hGm : G ≤ 9223372036854775807 := (by unfold maxLen at hG2; omega); have hGi : ¬ (G = i) := (by omega); have hGj : ¬ (G = i + 1) := (by omega); obtain ⟨R0, hR0⟩ : ∃ R0, R0 = A ++ Z := ⟨_, rfl⟩; have HR0 : Hid (R0 = A ++ Z ∧ R0.length = G * 2) := ⟨hR0, (by rw [hR0]; exact hZ)⟩; have HG1' : Hid (w1.heap[w.heap.size]? = some (.cells R0.toArray 54 (0, 0))) := (by rw [hR0]; exact HG1.out); clear hZ HG1 hR0)
  have HS1 : Hid ((splice R0 (i * 2) V).length = G * 2) := by show _ = _; rw [length_splice _ _ _ (by have := HAL.out; have := HR0.out.2; omega), HR0.out.2]
  obtain ⟨S1, hS1⟩ : ∃ S1, S1 = splice R0 (i * 2) V := ⟨_, rfl⟩
  have HS1e : Hid (S1 = splice R0 (i * 2) V ∧ S1.length = G * 2) := ⟨hS1, by rw [hS1]; exact HS1.out⟩
  have HF1 : Hid (i * 2 + V.length ≤ R0.length) := by show _ ≤ _; have := HAL.out; have := HR0.out.2; omega
  have HF2 : Hid ((i + 1) * 2 + B.length ≤ S1.length) := by show _ ≤ _; have := HAL.out; have := HS1e.out.2; omega
  clear hS1 HS1
  go_wp2_with (refine wpList_copyG info_SvC rfl (.tmp 43) (.tmp 44) 27 Try.underlying27 rfl w.heap.size (i * 2) (n + 1 - i) (G - i) ⟨vb, 0, none⟩ 1 1 rfl rfl R0 V HG1'.out HVL.out (HSV.out _ (HW.out _ g1).2) HF1.out HV1.out ?_; intro w2 HG2 g2)
  have gN2 := HGN.out w1 w2 g1 g2
  have HG2' : Hid (w2.heap[w.heap.size]? = some (.cells S1.toArray 54 (0, 0))) := by rw [HS1e.out.1]; exact HG2.out
  have HGA : Hid (w2.heap[g]? = some (.cells cur.toArray 54 (0, 0))) := (HW.out _ gN2).1
  clear HG2 g2 g1 HG1'
  go_region_law (refine step_copyG info_SvC rfl (.tmp 50) (.tmp 53) 27 Try.underlying27 rfl w.heap.size ((i + 1) * 2) (n + 1 - (i + 1)) (G - (i + 1)) ⟨g, i * 2, none⟩ (n - i) (n - i) (by simp [Act.eval, Act.put]) (by simp [Act.eval, Act.put]) S1 B HG2'.out HBL.out (HSB.out _ HGA.out) HF2.out HB1.out ?_; intro w3 HG3 g3)
  all_goals
    have g3' : w2.grownBy w3 (some w.heap.size) := by first | exact g3 | exact grown_un g3
    have gN3 := HGN.out w2 w3 gN2 g3'
    have o3 := HEND.out G Z w3 hG1 hG2 (by rw [← HR0.out.1]; exact HR0.out.2) (by rw [← HR0.out.1, ← HS1e.out.1]; exact HG3.out)
    go_wp2
    go_ret
    exact ⟨_, _, rfl, o3, hG1, hG2, .inr rfl, ⟨gN3.os, gN3.tape, gN3.output, gN3.size, fun k hk _ => gN3.block k hk (by simp)⟩⟩


/-- The library's Insert: one more at its place. -/
theorem insertSv (g n cap vb i : Nat) (F : Nat → Nat → Value) (G0 : Nat → Value) (w : World) (hb0 : Blk w g 54 2 cap n F) (h1c : ∀ a, a < n → ∀ j, j < 2 → (F a j).oneCell' = true) (hG1 : ∀ j, j < 2 → (G0 j).oneCell' = true) (hl : n ≤ 1000) (hc : n ≤ cap) (hm : cap ≤ maxLen) (hi : i ≤ n) (hv : w.heap[vb]? = some (.cells ((List.range 2).map G0).toArray 54 (0, 0))) (hne : vb ≠ g) :
    Calls Try.prog 31 #[.slice (some ⟨g, 0, none⟩) n cap, .int .i64 i, .slice (some ⟨vb, 0, none⟩) 1 1] w fun e w' => ∃ g' cap', e = .returned (.slice (some ⟨g', 0, none⟩) (n + 1) cap') ∧ Blk w' g' 54 2 cap' (n + 1) (insF i F G0) ∧ n + 1 ≤ cap' ∧ cap' ≤ maxLen ∧ (g' = g ∨ g' = w.heap.size) ∧ w.grownBy w' (some g) := by
  by_cases h1 : i = n
  · subst h1
    refine (ins_endSv (.slice (some ⟨g, 0, none⟩) i cap) i vb F G0 w (Row.of_blk (by omega) hb0 (Nat.zero_le _) hc hm) hG1 hl hv).mono ?_
    rintro e w' ⟨g', cap', rfl, q1, q2, q3, q4, q5⟩
    refine ⟨g', cap', rfl, q1, q2, q3, ?_, q5⟩
    rcases q4 with q4 | q4
    · left
      simpa [Value.ownBlock] using q4.symm
    · exact .inr q4
  · by_cases h2 : n + 1 ≤ cap
    · exact ins_shiftSv g n cap vb i F G0 w hb0 h1c hG1 hl h2 hm (by omega) hv hne
    · obtain rfl : cap = n := by omega
      exact ins_growSv g cap vb i F G0 w hb0 h1c hG1 hl (by omega) hv

end Go.Proofs.Ytjkhadaoldbceaa
