
/- Timers appended: in order, and as one step; the contracts of Clone, alarmsOf and of Push. -/
import Derived.Test.YtnklnhnjmikooaaGreatHpE
import Derived.Test.YtnklnhnjmikooaaGreatWhV
import Derived.Lib.SliceRun
import Derived.Deep.RegionWith
import Derived.Deep.RegionLawGrows
namespace Go.Proofs.YtnklnhnjmikooaaGreat
open Go.RowKit

theorem tc_one (ts : List DTim) : ∀ u ∈ tc ts, u.oneCell' = true := by
  intro u hu
  unfold tc at hu
  simp only [List.mem_flatMap] at hu
  obtain ⟨t, _, ht⟩ := hu
  simp only [List.mem_cons, List.not_mem_nil, or_false] at ht
  rcases ht with rfl | rfl <;> rfl

theorem VTims.news {w : World} {ad : Addr} {m c : Nat} {ys : List DTim} (h : VTims w (.slice (some ad) m c) ys) : m = ys.length ∧ ∀ (j : Nat) u, (tc ys)[j]? = some u → w.cell? (ad.add j) = some u := by
  obtain ⟨C, ⟨a', cap', e, h1, h2, h3⟩, hC⟩ := h
  simp only [Value.slice.injEq] at e
  obtain ⟨rfl, rfl, rfl⟩ := e
  refine ⟨rfl, fun j u hu => ?_⟩
  have hj := (List.getElem?_eq_some_iff.1 hu).1
  rw [tc_len] at hj
  obtain ⟨b, o, e, hb, hc⟩ := h3 (by omega)
  simp only [Option.some.injEq] at e
  subst e
  rw [Addr.add_lit]
  obtain ⟨i, hi⟩ : ∃ i, i = j / 2 := ⟨_, rfl⟩
  obtain ⟨t, ht⟩ : ∃ t, ys[i]? = some t := ⟨_, List.getElem?_eq_getElem (by omega)⟩
  obtain ⟨g0, g1⟩ := tc_get ht
  obtain ⟨c0, c1⟩ := hC i t ht
  have hj2 : j = i * 2 ∨ j = i * 2 + 1 := by omega
  rcases hj2 with rfl | rfl
  · rw [g0] at hu
    have := hc i (by omega) 0 (by omega)
    rw [Nat.add_zero, c0] at this
    rw [this]
    exact hu
  · rw [g1] at hu
    have := hc i (by omega) 1 (by omega)
    rw [c1, Nat.add_assoc] at this
    rw [this]
    exact hu

theorem VTims.none {w : World} {m c : Nat} {ys : List DTim} (h : VTims w (.slice none m c) ys) : m = 0 ∧ ys = [] := by
  obtain ⟨C, ⟨a', cap', e, h1, h2, h3⟩, hC⟩ := h
  simp only [Value.slice.injEq] at e
  obtain ⟨rfl, rfl, rfl⟩ := e
  have h0 : ys.length = 0 := by
    rcases Nat.eq_zero_or_pos ys.length with h' | h'
    · exact h'
    · obtain ⟨b, o, e', _⟩ := h3 h'
      cases e'
  exact ⟨h0, List.eq_nil_of_length_eq_zero h0⟩
theorem runNothing (w : World) (base : Nat) (t ty : TypeId) (ht : Tryz.prog.underlying t = some (.slice 114)) (v : Value) (n c : Nat) (xs : List Value) (hown : w.ownsRow base 114 2 v n xs) :
    (Builtin.append_ #[t, t] ty #[v, .slice none 0 c]).run Tryz.prog w = .ok v w := by
  obtain ⟨i0, hi, hz0, hz1, hz2⟩ := info_parts info_W
  rcases hown.2 with ⟨rfl, rfl⟩ | ⟨g, cap, cur, rfl, _, _, hnc, _⟩
  · simp [Builtin.append_, run_underlying ht, sizeOf, typeInfo, hi, Builtin.lenOf, Builtin.firstCells]
  · simp [Builtin.append_, run_underlying ht, sizeOf, typeInfo, hi, Builtin.lenOf, Builtin.firstCells, hnc, storeCells]

/-- 'append(out, xs...)' of timers, out the call's own. -/
theorem runApp (w : World) (base : Nat) (t ty : TypeId) (ht : Tryz.prog.underlying t = some (.slice 114)) (v : Value) (xs : List DTim) (hown : OwT w base v xs) (ao : Option Addr) (m c : Nat) (ys : List DTim) (hy : VTims w (.slice ao m c) ys) (hb : xs.length + ys.length ≤ 2097152) (hbase : base ≤ w.heap.size) :
    ∃ v' w', (Builtin.append_ #[t, t] ty #[v, .slice ao m c]).run Tryz.prog w = .ok v' w' ∧ OwT w' base v' (xs ++ ys) ∧ w.grownBy w' v.ownBlock ∧ (v'.ownBlock = v.ownBlock ∨ v'.ownBlock = some w.heap.size) := by
  cases ao with
  | none =>
    obtain ⟨rfl, rfl⟩ := hy.none
    exact ⟨v, w, runNothing w base t ty ht v _ c _ hown, by rw [List.append_nil]; exact hown, grown_re _ _, .inl rfl⟩
  | some ad =>
    obtain ⟨i0, hi, hz0, hz1, hz2⟩ := info_parts info_W
    obtain ⟨rfl, hn⟩ := hy.news
    obtain ⟨v', w', hrun, r1, r2, _, r4⟩ := run_append_own_at (P := Tryz.prog) w base t ty 114 i0 _ 2 16 ht hi hz0 hz1 hz2 rfl (by decide) v xs.length (tc xs) hown ad ys.length c (tc ys) (tc_len ys) hn (tc_one ys) (by unfold maxLen; omega) (by omega) hbase
    refine ⟨v', w', hrun, ?_, r2, r4⟩
    unfold OwT
    rw [tc_append, List.length_append]
    exact r1

theorem wpList_append_tm (w : World) {ops : Array Oper} {rest : List Oper} {o : Oper} {a : Act} {Q : Exit → Act → World → Prop} (hgd : o.guard = none) (s x : Operand) (t : TypeId) (ht : Tryz.prog.underlying t = some (.slice 114))
    (ho : o.op = .call { callee := .builtin .append, args := #[s, x], argTypes := #[t, t] })
    (base : Nat) (v : Value) (xs : List DTim) (hs : a.eval s = v) (hown : OwT w base v xs) (ao : Option Addr) (m c : Nat) (ys : List DTim) (hx : a.eval x = .slice ao m c) (hy : VTims w (.slice ao m c) ys)
    (hb : xs.length + ys.length ≤ 2097152) (hbase : base ≤ w.heap.size)
    (h : ∀ v' w', OwT w' base v' (xs ++ ys) → w.grownBy w' v.ownBlock → (v'.ownBlock = v.ownBlock ∨ v'.ownBlock = some w.heap.size) → wpList Tryz.prog ops Q rest (a.put o.dst v') w') : wpList Tryz.prog ops Q (o :: rest) a w := by
  obtain ⟨v', w', hrun, r1, r2, r4⟩ := runApp w base t o.type ht v xs hown ao m c ys hy hb hbase
  refine wpList_plain hgd fun K hK => ?_
  unfold Oper.wp execOp
  simp only [ho, resolve, invoke, builtin, Sem.run_bind, Sem.run_pure, Result.andThen_ok, List.map_toArray, List.map_cons, List.map_nil, hs, hx, hrun]
  exact hK _ _ (h v' w' r1 r2 r4)

theorem step_append_tm {ops : Array Oper} {o : Oper} {a : Act} {w : World} {K : Act → World → Prop} {Q : Exit → Act → World → Prop} {E : Prop} (hgd : o.guard = none) (s x : Operand) (t : TypeId) (ht : Tryz.prog.underlying t = some (.slice 114))
    (ho : o.op = .call { callee := .builtin .append, args := #[s, x], argTypes := #[t, t] })
    (base : Nat) (v : Value) (xs : List DTim) (hs : a.eval s = v) (hown : OwT w base v xs) (ao : Option Addr) (m c : Nat) (ys : List DTim) (hx : a.eval x = .slice ao m c) (hy : VTims w (.slice ao m c) ys)
    (hb : xs.length + ys.length ≤ 2097152) (hbase : base ≤ w.heap.size)
    (h : ∀ v' w', OwT w' base v' (xs ++ ys) → w.grownBy w' v.ownBlock → (v'.ownBlock = v.ownBlock ∨ v'.ownBlock = some w.heap.size) → K (a.put o.dst v') w') :
    if Region.wanted o (yielded ops a.tmps) = true then Oper.wp Tryz.prog o a w K Q else E := by
  have hw : Region.wanted o (yielded ops a.tmps) = true := by simp [Region.wanted, hgd]
  rw [if_pos hw]
  obtain ⟨v', w', hrun, r1, r2, r4⟩ := runApp w base t o.type ht v xs hown ao m c ys hy hb hbase
  unfold Oper.wp execOp
  simp only [ho, resolve, invoke, builtin, Sem.run_bind, Sem.run_pure, Result.andThen_ok, List.map_toArray, List.map_cons, List.map_nil, hs, hx, hrun]
  exact h v' w' r1 r2 r4

/-- One timer, as a slice that was made for it. -/
theorem one_tims (w : World) (t : DTim) : VTims (w.alloc (.cells #[.int .i64 t.id, .int .i64 t.due] 114)) (.slice (some ⟨w.heap.size, 0, none⟩) 1 1) [t] := by
  have P := heap_alloc_new w (.cells #[.int .i64 t.id, .int .i64 t.due] 114)
  refine ⟨fun _ j => if j = 0 then .int .i64 t.id else .int .i64 t.due, ⟨_, 1, rfl, Nat.le_refl _, by unfold maxLen; decide, fun _ => ⟨_, 0, rfl, by simp, fun i hi j hj => ?_⟩⟩, fun i r hr => ?_⟩
  · have hi : i = 0 := by simpa using hi
    subst hi
    have hj : j = 0 ∨ j = 1 := by omega
    rcases hj with rfl | rfl
    · exact (at_block P 0 _ rfl).1
    · exact (at_block P 1 _ rfl).1
  · have hi : i = 0 := by have := (List.getElem?_eq_some_iff.1 hr).1; simpa using this
    subst hi
    have : r = t := by simpa using hr.symm
    subst this
    exact ⟨rfl, rfl⟩
theorem ow_none (w : World) (base : Nat) (hb : base ≤ w.heap.size) : OwT (w.alloc (.cells #[] 114)) base (.slice (some ⟨w.heap.size, 0, none⟩) 0 0) [] :=
  ⟨rfl, .inr ⟨w.heap.size, 0, #[], rfl, hb, heap_alloc_new w _, Nat.le_refl _, Nat.zero_le _, rfl, rfl⟩⟩

set_option maxHeartbeats 1000000 in
theorem cloneT (v : Value) (ts : List DTim) (w : World) (h : VTims w v ts) (hn : ts.length ≤ 1048576) :
    Calls Tryz.prog 82 #[v] w fun e w' => ∃ v', e = .returned v' ∧ OwT w' w.heap.size v' ts ∧ Below w.heap.size w w' := by
  obtain ⟨a, cap, rfl⟩ := h.shape
  obtain ⟨n, hnn⟩ : ∃ n, n = ts.length := ⟨_, rfl⟩
  rw [← hnn] at h ⊢
  have HN : Hid (n = ts.length) := hnn
  have HV : Hid (VTims w (.slice a n cap) ts) := h
  have hn1 : (n : Int) ≤ 1048576 := by omega
  have hnl := fun w => Lib.run_eql_slice_nil (P := Tryz.prog) w 35 114 a n cap 0 0 Tryz.underlying35
  cases a with
  | none =>
    have h0 : ts = [] := by
      obtain ⟨C, ⟨a', cap', e, _, _, h3⟩, _⟩ := h
      simp only [Value.slice.injEq] at e
      refine List.eq_nil_of_length_eq_zero ?_
      rcases Nat.eq_zero_or_pos ts.length with h' | h'
      · exact h'
      · obtain ⟨b, o, e', _⟩ := h3 h'
        rw [← e.1] at e'
        cases e'
    subst h0
    clear hnn h
    go_enter Tryz.func82, Tryz.ntmps82
    go_wp2
    go_ret
    exact ⟨_, rfl, World.ownsRow_nil _ _ _ _, Below.refl _ _⟩
  | some ad =>
    clear hnn h
    go_enter Tryz.func82, Tryz.ntmps82
    go_wp2_with (at_builtin; refine wpList_append_tm _ rfl (.tmp 5) (.tmp 6) 35 Tryz.underlying35 rfl w.heap.size _ [] rfl (ow_none w _ (Nat.le_refl _)) (some ad) n cap ts rfl (HV.out.ext (World.grownBy_alloc _ _ _)) (by simp; omega) (by simp) ?_; intro v1 w1 hown1 hg1 _)
    go_ret
    refine ⟨_, rfl, hown1, ?_⟩
    exact ((Below.refl _ _).alloc (Nat.le_refl _) _).grown hg1 (by simp) (fun k hk => by cases hk; exact Nat.le_refl _)

set_option maxHeartbeats 1000000 in
theorem alarmsOfV (v : Value) (D : DWheel) (w : World) (h : VWheel w v D) (hn : D.tms.length ≤ 1048576) :
    Calls Tryz.prog 111 #[v] w fun e w' => ∃ b a cap, e = .returned (.pointer (some ⟨b, 0, none⟩)) ∧ HP w' w.heap.size b a cap D.tms ∧ Below w.heap.size w w' := by
  obtain ⟨tv, rfl, ht⟩ := h
  go_enter Tryz.func111, Tryz.ntmps111
  go_wp2_with fail
  generalize hW : w.alloc _ = W
  have BW : Below w.heap.size w W := by rw [← hW]; exact (Below.refl _ w).alloc (Nat.le_refl _) _
  clear hW
  refine (cloneT tv D.tms W (ht.ext (ext_below BW)) hn).mono ?_
  rintro e w1 ⟨v1, rfl, o1, b1⟩
  have hsh : ∃ a cap, v1 = .slice a D.tms.length cap := o1.v.shape
  obtain ⟨a, cap, rfl⟩ := hsh
  have B1 : Below w.heap.size w w1 := BW.trans (b1.mono BW.size)
  have HO : Hid (OwT w1 w.heap.size (.slice a D.tms.length cap) D.tms) := by
    obtain ⟨hl, hh⟩ := o1
    refine ⟨hl, ?_⟩
    rcases hh with hh | ⟨g, c, cur, h1, h2, h3⟩
    · exact .inl hh
    · exact .inr ⟨g, c, cur, h1, Nat.le_trans BW.size h2, h3⟩
  have HB : Hid (Below w.heap.size w w1) := B1
  clear o1 b1 B1
  go_wp2
  go_ret
  refine ⟨w1.heap.size, a, cap, rfl, ⟨?_, ?_, ?_, HB.out.size⟩, HB.out.alloc HB.out.size _⟩
  · exact heap_alloc_new w1 _
  · exact HO.out.alloc _
  · intro e
    have := (HO.out.lt _ e).2
    omega

theorem grown_undrew {w w' : World} {row : Option Nat} (h : w.drew.grownBy w' row) : w.grownBy w' row := ⟨h.os, h.tape, h.output, h.size, h.block⟩
theorem assertT (t : DTim) (y : TypeId) (w : World) : Sem.run Tryz.prog (Instr.typeAssert (ifT t) y 114 false) w = .ok (.agg #[.int .i64 t.id, .int .i64 t.due]) w := by kernel_rfl

set_option maxHeartbeats 4000000 in
theorem pushM (h base cap : Nat) (a : Option Addr) (ts : List DTim) (t : DTim) (w : World) (p : HP w base h a cap ts) (hm : ts.length ≤ 100) (hb : base ≤ w.heap.size) :
    Calls Tryz.prog 145 #[.pointer (some ⟨h, 0, none⟩), ifT t] w fun e w' => ∃ g cap', e = .returned (.tuple #[]) ∧ HP w' base h (some ⟨g, 0, none⟩) cap' (ts ++ [t]) ∧ Two w w' h (Value.slice a ts.length cap).ownBlock ∧ (some g = (Value.slice a ts.length cap).ownBlock ∨ w.heap.size ≤ g) := by
  obtain ⟨c0, f0⟩ := p.cell
  have hhl : h < w.heap.size := (Array.getElem?_eq_some_iff.1 p.box).1
  have HROW : Hid (OwT w base (.slice a ts.length cap) ts) := p.row
  have HNE : Hid ((Value.slice a ts.length cap).ownBlock ≠ some h) := p.ne
  have HBX : Hid (w.heap[h]? = some (.cells #[.slice a ts.length cap] 169 (0, 0))) := p.box
  have HLOW : Hid (base ≤ h) := p.low
  have HFIN : Hid (∀ v1 w1, OwT w1 base v1 (ts ++ [t]) → (w.alloc (.cells #[.int .i64 t.id, .int .i64 t.due] 114)).grownBy w1 (Value.slice a ts.length cap).ownBlock → (v1.ownBlock = (Value.slice a ts.length cap).ownBlock ∨ v1.ownBlock = some (w.heap.size + 1)) → ∃ g cap', v1 = .slice (some ⟨g, 0, none⟩) (ts.length + 1) cap' ∧ w1.cell? ⟨h, 0, none⟩ = some (.slice a ts.length cap) ∧ w1.frozen? ⟨h, 0, none⟩ = false ∧ HP (w1.setCell ⟨h, 0, none⟩ v1) base h (some ⟨g, 0, none⟩) cap' (ts ++ [t]) ∧ Two w (w1.setCell ⟨h, 0, none⟩ v1) h (Value.slice a ts.length cap).ownBlock ∧ (some g = (Value.slice a ts.length cap).ownBlock ∨ w.heap.size ≤ g)) := by
    intro v1 w1 o1 g1 hat
    have hl : (ts ++ [t]).length = ts.length + 1 := by simp
    have hbx1 : w1.heap[h]? = some (.cells #[.slice a ts.length cap] 169 (0, 0)) := by
      rw [g1.block h (by simp; omega) (fun e => HNE.out e.symm), Below.heap_alloc w _ h hhl]
      exact HBX.out
    obtain ⟨hl1, hh⟩ := o1
    rcases hh with ⟨_, h0⟩ | ⟨g, cap', cur, hv, hbg, hg, hnc, hcm, hcs, hct⟩
    · rw [hl] at h0; omega
    rw [hl] at hv
    have hne : g ≠ h := fun e => by
      subst e
      rw [hbx1] at hg
      simp at hg
    have O1 : OwT w1 base v1 (ts ++ [t]) := ⟨hl1, .inr ⟨g, cap', cur, by rw [hl]; exact hv, hbg, hg, hnc, hcm, hcs, hct⟩⟩
    refine ⟨g, cap', hv, (at_block hbx1 0 _ rfl).1, (at_block hbx1 0 _ rfl).2, ⟨?_, ?_, ?_, HLOW.out⟩, ?_, ?_⟩
    · rw [set_block hbx1 0 v1, hl, ← hv]
      simp
    · rw [hl, ← hv]
      exact O1.kept (set_grown _ _ _ _) (by rw [hv]; simp [Value.ownBlock]; exact hne)
    · simp [Value.ownBlock]; exact hne
    · refine ⟨g1.os, g1.tape, g1.output, ?_, fun k hk h1 h2 => ?_⟩
      · have := g1.size
        simp at this ⊢
        omega
      · rw [Below.heap_setCell _ _ _ _ (by simpa using h1), g1.block k (by simp; omega) h2, Below.heap_alloc w _ k hk]
    · rw [hv] at hat
      rcases hat with e | e
      · exact .inl e
      · right
        simp [Value.ownBlock] at e
        omega
  clear p
  have hta := assertT t
  go_enter Tryz.func145, Tryz.ntmps145
  go_wp2_with fail
  go_region_law (refine step_append_tm rfl (.tmp 7) (.tmp 10) 169 Tryz.underlying169 rfl base (.slice a ts.length cap) ts rfl (HROW.out.alloc _) (some ⟨w.heap.size, 0, none⟩) 1 1 [t] rfl (one_tims w t) (by simp; omega) (by simp; omega) ?_; intro v1 w1 o1 g1 hat; obtain ⟨g, cap', rfl, z1, z2, y1, y2, y3⟩ := HFIN.out v1 w1 o1 (grown_undrew g1) (by simpa using hat))
  all_goals
    go_wp2_with fail
    go_end0
    exact ⟨g, cap', rfl, y1, y2, y3⟩

end Go.Proofs.YtnklnhnjmikooaaGreat
