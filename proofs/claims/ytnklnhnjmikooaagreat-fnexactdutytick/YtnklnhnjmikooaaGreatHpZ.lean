
/- The contract of the program's WheelTick. -/
import Derived.Test.YtnklnhnjmikooaaGreatTo0
import Derived.Test.YtnklnhnjmikooaaGreatInf
import Derived.Laws.OwnMore
import Derived.OwnWalk
import Derived.Test.YtnklnhnjmikooaaGreatRows
import Derived.Maps.AppendAt
import Derived.Test.YtnklnhnjmikooaaGreatHpJ
namespace Go.Proofs.YtnklnhnjmikooaaGreat
open Go.RowKit

/-- The slice v reads as the list xs, each shown by f in a cell of its own. -/
def VL {α : Type} (f : α → Value) (w : World) (v : Value) (xs : List α) : Prop :=
  ∃ a cap, v = .slice a xs.length cap ∧ xs.length ≤ cap ∧ cap ≤ maxLen ∧ (0 < xs.length → ∃ b o, a = some ⟨b, o, none⟩ ∧ b < w.heap.size ∧ ∀ (i : Nat) (x : α), xs[i]? = some x → w.cell? ⟨b, o + i, none⟩ = some (f x))
theorem VL.ext {α : Type} {f : α → Value} {w w' : World} {v : Value} {xs : List α} (h : VL f w v xs) (e : Ext w w') : VL f w' v xs := by
  obtain ⟨a, cap, hv, h1, h2, h3⟩ := h
  refine ⟨a, cap, hv, h1, h2, fun hn => ?_⟩
  obtain ⟨b, o, ha, hb, hc⟩ := h3 hn
  exact ⟨b, o, ha, Nat.lt_of_lt_of_le hb e.size, fun i x hx => World.grownBy.cell e (hc i x hx) (by simp)⟩
def fI (x : Int) : Value := .int .i64 x
def fB (x : Bool) : Value := .bool x
/-- A block that a call made holds just this list. -/
def OVL {α : Type} (f : α → Value) (t : TypeId) (w : World) (g : Nat) (xs : List α) : Prop := w.heap[g]? = some (.cells (xs.map f).toArray t (0, 0))
theorem OVL.v {α : Type} {f : α → Value} {t : TypeId} {w : World} {g : Nat} {xs : List α} (h : OVL f t w g xs) (hm : xs.length ≤ 1048576) : VL f w (.slice (some ⟨g, 0, none⟩) xs.length xs.length) xs := by
  refine ⟨_, xs.length, rfl, Nat.le_refl _, by unfold maxLen; omega, fun _ => ⟨g, 0, rfl, (Array.getElem?_eq_some_iff.1 h).1, fun i x hx => ?_⟩⟩
  rw [Nat.zero_add, cell_of_row w g _ _ t (0, 0) h]
  simp [hx]
theorem vl_shape {α : Type} {f : α → Value} {w : World} {v : Value} {xs : List α} (h : VL f w v xs) : ∃ a cap, v = .slice a xs.length cap := by
  obtain ⟨a, cap, rfl, _⟩ := h
  exact ⟨a, cap, rfl⟩

end Go.Proofs.YtnklnhnjmikooaaGreat

namespace Go.Proofs.YtnklnhnjmikooaaGreat
open Go.RowKit

/-- v owns the numbers xs, in a row from block base on. -/
def OwI (w : World) (base : Nat) (v : Value) (xs : List Int) : Prop := w.ownsRow base 3 1 v xs.length (xs.map fI)
theorem OwI.ext {w w' : World} {base : Nat} {v : Value} {xs : List Int} (h : OwI w base v xs) (e : Ext w w') : OwI w' base v xs := h.kept e (by cases hv : v.ownBlock <;> simp)
theorem OwI.vl {w : World} {base : Nat} {v : Value} {xs : List Int} (h : OwI w base v xs) : VL fI w v xs := by
  rcases h.2 with ⟨rfl, h0⟩ | ⟨g, cap, cur, rfl, hb, hg, hnc, hcm, hcs, htake⟩
  · have : xs = [] := List.eq_nil_of_length_eq_zero h0
    subst this
    exact ⟨none, 0, rfl, Nat.le_refl _, Nat.zero_le _, fun h => absurd h (by simp)⟩
  · refine ⟨_, cap, rfl, hnc, hcm, fun _ => ⟨g, 0, rfl, (Array.getElem?_eq_some_iff.1 hg).1, fun i x hx => ?_⟩⟩
    rw [Nat.zero_add, h.cellAt i (by have := (List.getElem?_eq_some_iff.1 hx).1; omega)]
    simp [hx]

end Go.Proofs.YtnklnhnjmikooaaGreat

namespace Go.Proofs.YtnklnhnjmikooaaGreat
open Go.RowKit

theorem info_3 : (Tryz.prog.info? 3).map (fun i => (i.zero, i.size, i.bytes)) = some (some (.int .i64 0), 1, 8) := by kernel_rfl
/-- 'append(out, x)' of numbers, out the call's own. -/
theorem wpList_append_i1 (w : World) {ops : Array Oper} {rest : List Oper} {o : Oper} {a : Act} {Q : Exit → Act → World → Prop} (hgd : o.guard = none) (s x : Operand)
    (ho : o.op = .call { callee := .builtin .append, args := #[s, x], argTypes := #[90, 90] })
    (base : Nat) (v : Value) (xs : List Int) (hs : a.eval s = v) (hown : OwI w base v xs) (g : Nat) (y : Int) (hx : a.eval x = .slice (some ⟨g, 0, none⟩) 1 1) (hc : w.cell? ⟨g, 0, none⟩ = some (.int .i64 y))
    (hb : xs.length ≤ 2097152) (hbase : base ≤ w.heap.size)
    (h : ∀ v' w', OwI w' base v' (xs ++ [y]) → w.grownBy w' v.ownBlock → wpList Tryz.prog ops Q rest (a.put o.dst v') w') : wpList Tryz.prog ops Q (o :: rest) a w := by
  obtain ⟨i0, hi, hz0, hz1, hz2⟩ := info_parts info_3
  obtain ⟨v', w', hrun, r1, r2, _, r4⟩ := run_append_own_at (P := Tryz.prog) w base 90 o.type 3 i0 _ 1 8 Tryz.underlying90 hi hz0 hz1 hz2 rfl (by decide) v xs.length (xs.map fI) hown ⟨g, 0, none⟩ 1 1 [.int .i64 y] rfl (fun j u hj => by
    have : j = 0 := by have := (List.getElem?_eq_some_iff.1 hj).1; simpa using this
    subst this
    simp only [List.getElem?_cons_zero, Option.some.injEq] at hj
    subst hj
    rw [Addr.add_lit]
    exact hc) (by simp [Value.oneCell']) (by unfold maxLen; omega) (by omega) hbase
  refine wpList_plain hgd fun K hK => ?_
  unfold Oper.wp execOp
  simp only [ho, resolve, invoke, builtin, Sem.run_bind, Sem.run_pure, Result.andThen_ok, List.map_toArray, List.map_cons, List.map_nil, hs, hx, hrun]
  refine hK _ _ (h v' w' ?_ r2)
  unfold OwI
  rw [List.map_append, List.length_append]
  exact r1
theorem OwI.base {w : World} {b b' : Nat} {v : Value} {xs : List Int} (o : OwI w b v xs) (hb : b' ≤ b) : OwI w b' v xs := by
  obtain ⟨hl, hh⟩ := o
  refine ⟨hl, ?_⟩
  rcases hh with hh | ⟨k, c, cur, hv, hb', hr⟩
  · exact .inl hh
  · exact .inr ⟨k, c, cur, hv, Nat.le_trans hb hb', hr⟩
theorem OwI.shape {w : World} {base : Nat} {v : Value} {xs : List Int} (o : OwI w base v xs) : ∃ a c, v = .slice a xs.length c := vl_shape o.vl

end Go.Proofs.YtnklnhnjmikooaaGreat

namespace Go.Proofs.YtnklnhnjmikooaaGreat
open Go.RowKit

/-- The wheel so many moments later, and what rang. -/
def tickD (c : Bool) (D : DWheel) (n : Int) : DWheel × List Int := if c then (if decide (0 ≤ n) && decide (n ≤ 1000000 - D.now) then (⟨D.now + n, D.tms.filter fun t => decide (D.now + n < t.due)⟩, (D.tms.filter fun t => decide (t.due ≤ D.now + n)).map fun t => t.id) else (D, [])) else (⟨0, []⟩, [])
/-- A wheel and numbers, in memory of their own. -/
def ResK (R : DWheel × List Int) (w : World) (e : Ending) (w' : World) : Prop := ∃ tv rv, e = .returned (.tuple #[.agg #[.int .i64 R.1.now, tv], rv]) ∧ OwT w' w.heap.size tv R.1.tms ∧ OwI w' w.heap.size rv R.2 ∧ Below w.heap.size w w'

theorem SortT.filter {ts : List DTim} (h : SortT ts) (p : DTim → Bool) : SortT (ts.filter p) := List.Pairwise.sublist List.filter_sublist h
theorem till_tk {moment : Int} {ts tk cur : List DTim} (hs : SortT ts) (hg : GoodT ts) (h : Till moment ts tk cur) (hc : ∀ y ∈ cur, moment < y.due) : tk = ts.filter (fun t => decide (t.due ≤ moment)) := by
  have h1 := h.perm.filter (fun t => decide (t.due ≤ moment))
  rw [List.filter_append] at h1
  have e1 : tk.filter (fun t => decide (t.due ≤ moment)) = tk := List.filter_eq_self.2 (fun x hx => by simpa using h.due x hx)
  have e2 : cur.filter (fun t => decide (t.due ≤ moment)) = [] := List.filter_eq_nil_iff.2 (fun x hx => by have := hc x hx; simp; omega)
  rw [e1, e2, List.append_nil] at h1
  exact sort_uniq h.sort (hs.filter _) (fun x hx => hg x (h.perm.mem_iff.1 (by simp [hx]))) h1
theorem till_cur {moment : Int} {ts tk cur tk2 : List DTim} (hs : SortT ts) (hg : GoodT ts) (h : Till moment ts tk cur) (hc : ∀ y ∈ cur, moment < y.due) (hs2 : SortT tk2) (hp2 : tk2.Perm cur) : tk2 = ts.filter (fun t => decide (moment < t.due)) := by
  have h1 := h.perm.filter (fun t => decide (moment < t.due))
  rw [List.filter_append] at h1
  have e1 : tk.filter (fun t => decide (moment < t.due)) = [] := List.filter_eq_nil_iff.2 (fun x hx => by have := h.due x hx; simp; omega)
  have e2 : cur.filter (fun t => decide (moment < t.due)) = cur := List.filter_eq_self.2 (fun x hx => by simpa using hc x hx)
  rw [e1, e2, List.nil_append] at h1
  exact sort_uniq hs2 (hs.filter _) (fun x hx => hg x (h.perm.mem_iff.1 (by simp [hp2.mem_iff.1 hx]))) (hp2.trans h1)

set_option maxRecDepth 20000 in
set_option maxHeartbeats 8000000 in
theorem iTickV (v : Value) (D : DWheel) (n : Int) (w : World) (h : VWheel w v D) (hl : D.tms.length ≤ 1048576) : Calls Tryz.prog 94 #[v, .int .i64 n] w (ResK (tickD (tB (WheelP D)) D n) w) := by
  have HV0 : Hid (VWheel w v D) := h
  obtain ⟨tv, rfl, h⟩ := h
  obtain ⟨ta, tc', rfl⟩ := h.shape
  obtain ⟨m, hn⟩ : ∃ m, m = D.tms.length := ⟨_, rfl⟩
  rw [← hn] at HV0 ⊢
  clear h hn
  cases hok : tB (WheelP D) with
  | false =>
    have HOK : Hid (tB (WheelP D) = false) := hok
    clear hok
    go_enter Tryz.func94, Tryz.ntmps94
    go_wp2_with fail
    generalize hW : World.alloc (World.alloc w _) _ = W
    have BW : Below w.heap.size w W := by rw [← hW]; exact ((Below.refl _ w).alloc (Nat.le_refl _) _).alloc (by simp) _
    have PR : W.heap[w.heap.size + 1]? = some (.cells #[.int .i64 0, .slice none 0 0] 37 (0, 0)) := by rw [← hW]; simpa using heap_alloc_new (World.alloc w (.cells #[.int .i64 D.now, .slice ta m tc'] 37)) (.cells #[.int .i64 0, .slice none 0 0] 37)
    clear hW
    refine (iWheelOkV _ D W (HV0.out.ext (ext_below BW))).mono ?_
    rintro e w1 ⟨rfl, b1⟩
    rw [HOK.out]
    have PR1 := below_blk b1 (Array.getElem?_eq_some_iff.1 PR).1 PR
    have HB1 : Hid (Below w.heap.size w w1) := BW.trans (b1.mono BW.size)
    obtain ⟨z0, y0⟩ := at_block PR1 0 _ rfl
    obtain ⟨z1, y1⟩ := at_block PR1 1 _ rfl
    clear b1 PR PR1 BW
    go_wp2
    refine bodyPost_ret (v := .tuple #[.agg #[.int .i64 0, .slice none 0 0], .slice none 0 0]) (by simp [results, Tryz.results94, go_sem, *]) rfl ?_
    refine ⟨_, _, rfl, World.ownsRow_nil _ _ _ _, World.ownsRow_nil _ _ _ _, ?_⟩
    first | exact HB1.out | exact HB1.out.setCell (by simp) _ | exact (HB1.out.setCell (by simp) _).setCell (by simp) _
  | true =>
    have HOK : Hid (tB (WheelP D) = true) := hok
    have HD : Hid (WheelP D) := tB_iff.1 hok
    have HL : Hid (D.tms.length ≤ 1048576) := hl
    have hnow := HD.out.1
    obtain ⟨hnow0, hnow1⟩ := hnow
    clear hok
    go_enter Tryz.func94, Tryz.ntmps94
    go_wp2_with fail
    generalize hW : World.alloc (World.alloc w _) _ = W
    have BW : Below w.heap.size w W := by rw [← hW]; exact ((Below.refl _ w).alloc (Nat.le_refl _) _).alloc (by simp) _
    have PB : W.heap[w.heap.size]? = some (.cells #[.int .i64 D.now, .slice ta m tc'] 37 (0, 0)) := by rw [← hW, Below.heap_alloc _ _ _ (by simp)]; exact heap_alloc_new w _
    have PR : W.heap[w.heap.size + 1]? = some (.cells #[.int .i64 0, .slice none 0 0] 37 (0, 0)) := by rw [← hW]; simpa using heap_alloc_new (World.alloc w (.cells #[.int .i64 D.now, .slice ta m tc'] 37)) (.cells #[.int .i64 0, .slice none 0 0] 37)
    clear hW
    refine (iWheelOkV _ D W (HV0.out.ext (ext_below BW))).mono ?_
    rintro e w1 ⟨rfl, b1⟩
    rw [HOK.out]
    have hbl := (Array.getElem?_eq_some_iff.1 PB).1
    have hrl := (Array.getElem?_eq_some_iff.1 PR).1
    have PB1 := below_blk b1 hbl PB
    have PR1 := below_blk b1 hrl PR
    have hrl1 := (Array.getElem?_eq_some_iff.1 PR1).1
    have HB1 : Hid (Below w.heap.size w w1) := BW.trans (b1.mono BW.size)
    obtain ⟨z0, y0⟩ := at_block PB1 0 _ rfl
    obtain ⟨z1, y1⟩ := at_block PB1 1 _ rfl
    clear b1 PR PB BW hbl hrl
    go_wp2_with fail
    refine (alarmsOfV _ D w1 (HV0.out.ext (ext_below HB1.out)) HL.out).mono ?_
    rintro e w2 ⟨b, a, cap, rfl, p2, b2⟩
    have HP2 : Hid (HP w2 w1.heap.size b a cap D.tms) := p2
    have HB2 : Hid (Below w1.heap.size w1 w2) := b2
    have PB2 := below_blk b2 (by omega) PB1
    clear p2 b2 z0 y0 z1 y1
    obtain ⟨z0, y0⟩ := at_block PB2 0 _ rfl
    by_cases i1 : inB n 0 (1000000 - D.now) = true
    case neg =>
      have i1 : inB n 0 (1000000 - D.now) = false := by simpa using i1
      have HBAD : Hid ((decide (0 ≤ n) && decide (n ≤ 1000000 - D.now)) = false) := i1
      go_wp2_with (go_at_call 53; refine (withinV _ _ _ _).mono ?_; rintro e w7 ⟨rfl, rfl⟩; rw [i1])
      refine (wheelV b w1.heap.size cap a D.tms D.now _ HP2.out (wheel_good HD.out) (by have := HD.out.2.1; omega) (wheel_heap HD.out) (wheel_due HD.out)).mono ?_
      rintro e w9 ⟨v9, tk, rfl, o9, hs9, hp9, t9⟩
      have HB9 : Hid (Below w1.heap.size w1 w9) := HB2.out.trans (t9.below HB2.out.size HP2.out.low (fun k hk => (HP2.out.blk.2 k hk).1))
      have PR9 := below_blk HB9.out hrl1 PR1
      have HEQ : Hid (tickD true D n = (⟨D.now, tk⟩, [])) := by
        unfold tickD
        rw [if_pos rfl, HBAD.out, sort_uniq hs9 (wheel_sort HD.out) ((wheel_good HD.out).perm hp9) hp9]
        exact rfl
      obtain ⟨va, vc, rfl⟩ := o9.v.shape
      have HO9 : Hid (OwT w9 w.heap.size (.slice va tk.length vc) tk) := o9.base (by have := HB1.out.size; have := HB2.out.size; omega)
      have HNV : Hid ((Value.slice va tk.length vc).ownBlock = none ∨ (Value.slice va tk.length vc).ownBlock ≠ some (w.heap.size + 1)) := by
        right
        intro e
        have h1 := (World.ownsRow.lt o9 _ e).1
        have := HB2.out.size
        omega
      obtain ⟨x0, f0⟩ := at_block PR9 0 _ rfl
      obtain ⟨x1, f1⟩ := at_block PR9 1 _ rfl
      have HBF : Hid (Below w.heap.size w w9) := HB1.out.trans (HB9.out.mono HB1.out.size)
      clear o9 hs9 hp9 t9 PR9 z0 y0
      go_wp2
      refine bodyPost_ret (v := .tuple #[.agg #[.int .i64 D.now, .slice va tk.length vc], .slice none 0 0]) (by simp [results, Tryz.results94, go_sem, *]) rfl ?_
      rw [HEQ.out]
      exact ⟨_, _, rfl, (HO9.out.kept (set_grown _ _ _ _) HNV.out).kept (set_grown _ _ _ _) HNV.out, World.ownsRow_nil _ _ _ _, (HBF.out.setCell (by simp) _).setCell (by simp) _⟩
    have hin : 0 ≤ n ∧ n ≤ 1000000 - D.now := by simpa [inB] using i1
    obtain ⟨hin0, hin1⟩ := hin
    have HGO : Hid ((decide (0 ≤ n) && decide (n ≤ 1000000 - D.now)) = true) := i1
    go_wp2_with (go_at_call 53; refine (withinV _ _ _ _).mono ?_; rintro e w7 ⟨rfl, rfl⟩; rw [i1])
    clear i1
    refine (takeV b w1.heap.size cap a D.tms (D.now + n) _ HP2.out (wheel_good HD.out) (by have := HD.out.2.1; omega) (wheel_heap HD.out)).mono ?_
    rintro e w3 ⟨v3, tk, cur, rfl, o3, ht, hc, p3, t3⟩
    have HB3 : Hid (Below w1.heap.size w1 w3) := HB2.out.trans (t3.below HB2.out.size HP2.out.low (fun k hk => (HP2.out.blk.2 k hk).1))
    have HP3 : Hid (HP w3 w1.heap.size b a cap cur) := p3
    have HT : Hid (Till (D.now + n) D.tms tk cur) := ht
    have HC : Hid (∀ y ∈ cur, D.now + n < y.due) := hc
    have HO3 : Hid (OwT w3 w1.heap.size v3 tk) := o3.base (by have := HB2.out.size; omega)
    have HTK : Hid (tk = D.tms.filter fun t => decide (t.due ≤ D.now + n)) := till_tk (wheel_sort HD.out) (wheel_good HD.out) ht hc
    have HLN := ht.len
    have h40 := HD.out.2.1
    obtain ⟨va, vc, rfl⟩ := o3.v.shape
    obtain ⟨lt, hlt0⟩ : ∃ lt, lt = tk.length := ⟨_, rfl⟩
    have HLT : Hid (lt = tk.length) := hlt0
    rw [← hlt0] at HO3 ⊢
    have hlt1 : (lt : Int) ≤ 40 := by omega
    have HCL : Hid (cur.length ≤ 40) := by show _ ≤ _; omega
    clear o3 ht hc p3 t3 z0 y0 HLN h40 hlt0
    go_wp2_with fail
    go_loopw [8, 35] (fun rv i wr => ∃ k : Nat, k ≤ lt ∧ i = .int .i64 k ∧ Hid (OwI wr w3.heap.size rv ((tk.take k).map fun t => t.id)) ∧ Hid (Below w3.heap.size w3 wr)) (fun _ i _ => lt - (intOf i).toNat)
    case atStart => exact ⟨0, Nat.zero_le _, rfl, World.ownsRow_nil _ _ _ _, Below.refl _ _⟩
    case round =>
      obtain ⟨k, hk, rfl, HOI, HBR⟩ := hrel
      obtain ⟨ra, rc, hrv⟩ := HOI.out.shape
      obtain ⟨lr, hlr0⟩ : ∃ lr, lr = ((tk.take k).map fun t => t.id).length := ⟨_, rfl⟩
      rw [← hlr0] at hrv
      subst hrv
      have HLR : Hid (lr = ((tk.take k).map fun t => t.id).length ∧ lr ≤ 100) := ⟨hlr0, by rw [hlr0]; have := HLT.out; simp; omega⟩
      clear hlr0
      by_cases hlt : k < lt
      · obtain ⟨s, hs⟩ : ∃ s, tk[k]? = some s := ⟨_, List.getElem?_eq_getElem (by have := HLT.out; omega)⟩
        obtain ⟨g3, ha3⟩ : ∃ g3, va = some ⟨g3, 0, none⟩ := by
          rcases HO3.out.2 with ⟨_, h0⟩ | ⟨g, c, cur', hv, _⟩
          · have := HLT.out; omega
          · simp only [Value.slice.injEq] at hv
            exact ⟨g, hv.1⟩
        subst ha3
        have HOR : Hid (OwT wr w1.heap.size (.slice (some ⟨g3, 0, none⟩) lt vc) tk) := HO3.out.kept (ext_below HBR.out) (by simp [Value.ownBlock])
        obtain ⟨c0, c1, _, _⟩ := HOR.out.cells HLT.out hs
        have HSN : Hid ((tk.take (k + 1)).map (fun t => t.id) = (tk.take k).map (fun t => t.id) ++ [s.id]) := by
          obtain ⟨hl', rfl⟩ := List.getElem?_eq_some_iff.1 hs
          rw [List.take_succ_eq_append_getElem hl', List.map_append]
          exact rfl
        have hlt' : (k : Int) < (lt : Int) := by omega
        have HBS : Hid (w3.heap.size ≤ wr.heap.size) := HBR.out.size
        clear hs
        go_wp2_with (at_builtin; refine wpList_append_i1 _ rfl (.tmp 39) (.tmp 42) rfl w3.heap.size (.slice ra lr rc) ((tk.take k).map fun t => t.id) rfl ((HOI.out.ext (World.grownBy_alloc wr _ none)).ext (World.grownBy_alloc _ _ none)) (wr.heap.size + 1) s.id (by first | rfl | simp) (by simp [go_sem]) (by have := HLR.out; omega) (by have := HBS.out; simp; omega) ?_; intro v5 w5 o5 g5)
        have HO5 : Hid (OwI w5 w3.heap.size v5 ((tk.take (k + 1)).map fun t => t.id)) := by rw [HSN.out]; exact o5
        have HB5 : Hid (Below w3.heap.size w3 w5) := ((HBR.out.alloc HBR.out.size _).alloc (by have := HBS.out; simp; omega) _).grown g5 (by have := HBS.out; simp; omega) (fun k hk => (World.ownsRow.lt HOI.out k hk).1)
        clear o5 g5
        go_roundw
        case rel => exact ⟨k + 1, by omega, by go_num, HO5, HB5⟩
        case measure => simp [intOf]; omega
      · have hkn : k = lt := by omega
        have HRI : Hid ((tk.take k).map (fun t => t.id) = tk.map fun t => t.id) := by rw [List.take_of_length_le (by have := HLT.out; omega)]; exact rfl
        have HPR : Hid (HP wr w1.heap.size b a cap cur) := HP3.out.below HBR.out
        have HBW : Hid (Below w1.heap.size w1 wr) := HB3.out.trans (HBR.out.mono HB3.out.size)
        clear hkn
        go_wp2_with fail
        refine (wheelV b w1.heap.size cap a cur (D.now + n) _ HPR.out (fun x hx => wheel_good HD.out x (HT.out.perm.mem_iff.1 (by simp [hx]))) (by have := HCL.out; omega) HT.out.heap (fun x hx => wheel_due HD.out x (HT.out.perm.mem_iff.1 (by simp [hx])))).mono ?_
        rintro e w9 ⟨v9, tk2, rfl, o9, hs9, hp9, t9⟩
        have HB9 : Hid (Below w1.heap.size w1 w9) := HBW.out.trans (t9.below HBW.out.size HPR.out.low (fun k hk => (HPR.out.blk.2 k hk).1))
        have PR9 := below_blk HB9.out hrl1 PR1
        have HEQ : Hid (tickD true D n = (⟨D.now + n, tk2⟩, (tk.take k).map fun t => t.id)) := by
          unfold tickD
          rw [if_pos rfl, HGO.out, till_cur (wheel_sort HD.out) (wheel_good HD.out) HT.out HC.out hs9 hp9, HRI.out, HTK.out]
          exact rfl
        have HRV : Hid (OwI w9 w.heap.size (.slice ra lr rc) ((tk.take k).map fun t => t.id)) := by
          have hkeep : OwI w9 w3.heap.size (.slice ra lr rc) ((tk.take k).map fun t => t.id) := by
            obtain ⟨hl', hh⟩ := HOI.out
            refine ⟨hl', ?_⟩
            rcases hh with hh | ⟨kk', c', cur', hv, hb', hg, hr⟩
            · exact .inl hh
            · refine .inr ⟨kk', c', cur', hv, hb', ?_, hr⟩
              rw [t9.block kk' (Array.getElem?_eq_some_iff.1 hg).1 (by have := HP3.out.blk.1; omega) (fun e => by
                have h1 := (HP3.out.blk.2 kk' e.symm).2
                omega)]
              exact hg
          exact hkeep.base (by have := HB1.out.size; have := HB3.out.size; omega)
        obtain ⟨xa, xc, rfl⟩ := o9.v.shape
        have HO9 : Hid (OwT w9 w.heap.size (.slice xa tk2.length xc) tk2) := o9.base (by have := HB1.out.size; have := HBW.out.size; omega)
        have HNV : Hid ((Value.slice xa tk2.length xc).ownBlock = none ∨ (Value.slice xa tk2.length xc).ownBlock ≠ some (w.heap.size + 1)) := by
          right
          intro e
          have h1 := (World.ownsRow.lt o9 _ e).1
          have := HBW.out.size
          omega
        have HNR : Hid ((Value.slice ra lr rc).ownBlock = none ∨ (Value.slice ra lr rc).ownBlock ≠ some (w.heap.size + 1)) := by
          right
          intro e
          have h1 := (World.ownsRow.lt HOI.out _ e).1
          have := HB3.out.size
          omega
        obtain ⟨x0, f0⟩ := at_block PR9 0 _ rfl
        obtain ⟨x1, f1⟩ := at_block PR9 1 _ rfl
        have HBF : Hid (Below w.heap.size w w9) := HB1.out.trans (HB9.out.mono HB1.out.size)
        clear o9 hs9 hp9 t9 PR9
        go_wp2
        refine bodyPost_ret (v := .tuple #[.agg #[.int .i64 (D.now + n), .slice xa tk2.length xc], .slice ra lr rc]) (by simp [results, Tryz.results94, go_sem, *]) rfl ?_
        rw [HEQ.out]
        exact ⟨_, _, rfl, (HO9.out.kept (set_grown _ _ _ _) HNV.out).kept (set_grown _ _ _ _) HNV.out, World.ownsRow.kept (World.ownsRow.kept HRV.out (set_grown _ _ _ _) HNR.out) (set_grown _ _ _ _) HNR.out, (HBF.out.setCell (by simp) _).setCell (by simp) _⟩

end Go.Proofs.YtnklnhnjmikooaaGreat

