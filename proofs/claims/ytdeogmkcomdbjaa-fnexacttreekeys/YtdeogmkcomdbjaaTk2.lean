/- The program's size of a tree, and TreeSize. -/
import Derived.Test.YtdeogmkcomdbjaaTk1
import Derived.Test.YtdeogmkcomdbjaaTe8
namespace Go.Proofs.Ytdeogmkcomdbjaa
open Go.RowKit Go.Shelf
attribute [local go_sem] Oper.semAt_some

/-- What is carried while keys are counted. -/
def CntI (w : World) (G : Nat) (k : Nat) (O1 : Nat → Prop) (V : World) : Prop := O1 = (fun b => b = G) ∧ V.heap[G]? = some (.cells #[.int .i64 k] 3 (0, 0)) ∧ Below w.heap.size w V
theorem below_cel {w V V' : World} {base : Nat} (h : Below w.heap.size w V) (c : Cel base V V') (hb : w.heap.size ≤ base) : Below w.heap.size w V' := ⟨c.os.trans h.os, c.tape.trans h.tape, c.output.trans h.output, Nat.le_trans h.size c.size, fun k hk => by
  obtain ⟨o, ho⟩ : ∃ o, V.heap[k]? = some o := ⟨_, Array.getElem?_eq_getElem (Nat.lt_of_lt_of_le hk h.size)⟩
  rw [c.same k o ho (.inr (by omega)), ← ho]
  exact h.block k hk⟩

set_option maxRecDepth 100000 in
set_option maxHeartbeats 1000000 in
theorem sizeV {d : Nat} (t : DTree d) (v : Value) (w : World) (ht : VTree w t v) (hsz : szT t ≤ 1048576) :
    Calls Try.prog 32 #[v] w fun e w' => e = .returned (.int .i64 (cntK t)) ∧ Below w.heap.size w w' := by
  have hE : ∀ w : World, ∀ o, Ext w (w.alloc o) := fun w o => World.grownBy_alloc _ _ _
  have HT : Hid (VTree w t v) := ht
  have HZ : Hid (szT t ≤ 1048576) := hsz
  have HC : Hid (cntK t ≤ 1048577) := by have h1 := cntK_le d t; show cntKD d t ≤ _; have h2 : szTD d t ≤ 1048576 := hsz; omega
  obtain ⟨e1, e2, e3, hv, xv, k1, k2, k3, rfl⟩ := VTree.agg ht
  clear ht hsz
  refine callsIn_wide.1 (callsIn_of_wp_marks (n := 3) Try.func32 rfl trivial ?_ rfl)
  simp only [Try.ntmps32, List.size_toArray, List.length_cons, List.length_nil, Nat.reduceAdd, Nat.reduceSub, Array.replicate_succ, Array.replicate_zero, List.push_toArray, List.append_toArray, List.nil_append, List.cons_append]
  gi_wp2_with fail
  refine ⟨trivial, callsIn_wide.2 ?_⟩
  refine (keysBehindV (w.alloc (.cells #[.slice e1 e2 e3, .bool hv, .int .i64 xv, .slice k1 k2 k3] 30)) _ (.slice e1 e2 e3) (.bool hv) (.int .i64 xv) (.slice k1 k2 k3) none 0 0).mono ?_
  rintro e9 V2 ⟨rfl, hV2⟩
  have XV : Ext w V2 := by rw [hV2]; exact (((hE _ _).tr (hE _ _)).tr (hE _ _)).tr (hE _ _)
  have BG : V2.heap[w.heap.size + 1]? = some (.cells #[.int .i64 0] 3 (0, 0)) := by
    rw [hV2, Below.heap_alloc _ _ _ (by simp), Below.heap_alloc _ _ _ (by simp)]
    simpa using heap_alloc_new (w.alloc _) (.cells #[.int .i64 0] 3 (0, 0))
  have BT2 : V2.heap[w.heap.size + 2]? = some (.cells #[.slice e1 e2 e3, .bool hv, .int .i64 xv, .slice k1 k2 k3] 30 (0, 0)) := by
    rw [hV2, Below.heap_alloc _ _ _ (by simp)]
    simpa using heap_alloc_new ((w.alloc _).alloc _) (.cells #[.slice e1 e2 e3, .bool hv, .int .i64 xv, .slice k1 k2 k3] 30 (0, 0))
  have BA2 : V2.heap[w.heap.size + 3]? = some (.cells #[.slice none 0 0] 22 (0, 0)) := by
    rw [hV2]
    simpa using heap_alloc_new (((w.alloc _).alloc _).alloc _) (.cells #[.slice none 0 0] 22 (0, 0))
  have HXV := hideK XV
  have HBG := hideK BG
  have HBT2 := hideK BT2
  have HBA2 := hideK BA2
  clear XV BG BT2 BA2 hV2
  gi_wp2_with fail
  refine wpIn_range_tells (gf := 44) (lb := #[.pointer (some ⟨w.heap.size + 1 + 2, 0, none⟩), .pointer (some ⟨w.heap.size + 1 + 1, 0, none⟩)]) rfl (enters_of Try.func44 (by kernel_rfl) rfl) rfl (keysT t []) w.heap.size (fun b => b = w.heap.size + 1) (fun _ => False) ?hX ?tell
    (CntI w (w.heap.size + 1)) (fun _ _ => False) ?hI ?hIx ?hO ?h0
    (fun kq => { tmps := #[.agg #[.slice e1 e2 e3, .bool hv, .int .i64 xv, .slice k1 k2 k3], .pointer (some ⟨w.heap.size, 0, none⟩), .int .i64 0, .pointer (some ⟨w.heap.size + 1, 0, none⟩), .agg #[.slice e1 e2 e3, .bool hv, .int .i64 xv, .slice k1 k2 k3], .func (.func 44) #[] #[.pointer (some ⟨w.heap.size + 1 + 2, 0, none⟩), .pointer (some ⟨w.heap.size + 1 + 1, 0, none⟩)], kq, undef, undef, undef], defers := [] }) ?asg ?body ?done ?stop
  case hX => exact fun _ h => h.elim
  case tell =>
    intro W1 hX1
    exact keys1_any d t w W1 _ _ _ _ (w.heap.size + 1 + 1) (w.heap.size + 1 + 2) w.heap.size _ [] _ HT.out (Nat.le_refl _) (HXV.out.tr hX1) (ext_blk hX1 HBT2.out) (by simp) (ext_blk hX1 HBA2.out) ⟨none, 0, rfl, Rd.nil _ _, Nat.le_refl _, Nat.zero_le _⟩ (by have := HZ.out; simp only [List.length_nil]; omega)
  case hI => exact fun k O1 V V' hh hc => ⟨hh.1, hc.same _ _ hh.2.1 (.inl rfl), below_cel hh.2.2 hc HXV.out.size⟩
  case hIx => exact fun _ _ _ hh _ => hh
  case hO =>
    rintro k O1 V ⟨rfl, hb, _⟩ b rfl
    exact ⟨Nat.le_succ _, (Array.getElem?_eq_some_iff.1 hb).1⟩
  case h0 => exact ⟨rfl, HBG.out, ext_bel HXV.out⟩
  case asg =>
    intro l' kq V K hK
    refine wpIn_skip ?_
    show K _ V
    simpa using hK
  case body =>
    intro l' k xk O1 V0 V kq hl' hxk hI0 hR0 hc0 ho
    obtain ⟨rfl, hb0, hB0⟩ := hI0
    have hb := hc0.same _ _ hb0 (.inl rfl)
    have hB := below_cel hB0 hc0 HXV.out.size
    obtain ⟨y0, f0⟩ := at_block hb 0 _ rfl
    have hk : k < cntK t := by have := (List.getElem?_eq_some_iff.1 hxk).1; rw [keys_len] at this; exact this
    have hk2 : (k : Int) ≤ 1048577 := by have := HC.out; omega
    have HF : Hid (∃ O2, CntI w (w.heap.size + 1) (k + 1) O2 (V.setCell ⟨w.heap.size + 1, 0, none⟩ (.int .i64 ((k : Int) + 1))) ∧ Rnd (fun b => b = w.heap.size + 1) O2 V (V.setCell ⟨w.heap.size + 1, 0, none⟩ (.int .i64 ((k : Int) + 1)))) := ⟨_, ⟨rfl, set_block hb 0 _, hB.setCell (Nat.le_succ _) _⟩, ⟨rfl, rfl, rfl, by simp, fun j _ hj => Below.heap_setCell _ _ _ _ hj, fun _ h => .inl h⟩⟩
    clear hxk hb0 hB0 hR0 hc0 ho hb hB hk
    gi_wp2
    exact HF.out
  case done =>
    intro D O1 V hD hI0 hR0 hDlt nD hdf
    obtain ⟨rfl, hb, hB⟩ := hI0
    rw [keys_len] at hb
    obtain ⟨y0, _⟩ := at_block hb 0 _ rfl
    have HDF := hideK hdf
    have HBB := hideK hB
    have HDD : Hid (w.heap.size ≤ D) := Nat.le_trans HXV.out.size hD
    clear hb hB hR0 hdf hDlt nD hD
    gi_wp2
    refine ⟨by simp, .inl ⟨D, _, rfl, run_takeDeferred HDF.out, ?_⟩⟩
    exact ⟨_, results_tmp rfl _ _ _, rfl, below_cel HBB.out (Cel.put HDD.out HDF.out rfl _) (Nat.le_refl _)⟩
  case stop => exact fun _ _ _ _ _ h => h.elim

set_option maxHeartbeats 1000000 in
theorem iTreeSizeV {d : Nat} (t : DTree d) (v : Value) (w : World) (ht : VTree w t v) (hsz : szT t ≤ 1048576) :
    Calls Try.prog 10 #[v] w fun e w' => e = .returned (.int .i64 (if tB (okT t) then (cntK t : Int) else 0)) ∧ Below w.heap.size w w' := by
  have hE : ∀ w : World, ∀ o, Ext w (w.alloc o) := fun w o => World.grownBy_alloc _ _ _
  obtain ⟨ob, hob⟩ : ∃ ob, ob = tB (okT t) := ⟨_, rfl⟩
  obtain ⟨R, hR⟩ : ∃ R : Int, R = if ob then (cntK t : Int) else 0 := ⟨_, rfl⟩
  rw [← hob, ← hR]
  have HOB := hideK hob
  have HRR := hideK hR
  clear hob hR
  have HT : Hid (VTree w t v) := ht
  have HZ : Hid (szT t ≤ 1048576) := hsz
  obtain ⟨e1, e2, e3, hv, xv, k1, k2, k3, rfl⟩ := VTree.agg ht
  clear ht hsz
  go_enter Try.func10, Try.ntmps10
  go_wp2_with fail
  generalize hW : w.alloc _ = W
  have P0 : W.heap[w.heap.size]? = some (.cells #[.slice e1 e2 e3, .bool hv, .int .i64 xv, .slice k1 k2 k3] 30 (0, 0)) := by rw [← hW]; exact heap_alloc_new w _
  have XW : Ext w W := by rw [← hW]; exact hE _ _
  clear hW
  refine (iTreeOkV t _ W (VTree.ext XW _ _ HT.out) HZ.out).mono ?_
  rintro e9 w1 ⟨rfl, b1⟩
  have P1 := ext_blk (ext_below b1) P0
  have X1 : Ext w w1 := XW.tr (ext_below b1)
  obtain ⟨q0, _⟩ := at_block P1 0 _ rfl
  obtain ⟨q1, _⟩ := at_block P1 1 _ rfl
  obtain ⟨q2, _⟩ := at_block P1 2 _ rfl
  obtain ⟨q3, _⟩ := at_block P1 3 _ rfl
  clear P0 P1 XW b1
  rw [← HOB.out]
  cases ob
  · have HK : Hid (R = 0) := HRR.out
    go_wp2
    go_ret
    exact ⟨by rw [HK.out]; rfl, ext_bel X1⟩
  · have HK : Hid (R = (cntK t : Int)) := HRR.out
    go_wp2_with fail
    refine (sizeV t _ w1 (VTree.ext X1 _ _ HT.out) HZ.out).mono ?_
    rintro e9 w2 ⟨rfl, b2⟩
    have B2 := (ext_bel X1).trans (b2.mono X1.size)
    go_wp2
    go_ret
    exact ⟨by rw [HK.out]; rfl, B2⟩

end Go.Proofs.Ytdeogmkcomdbjaa
