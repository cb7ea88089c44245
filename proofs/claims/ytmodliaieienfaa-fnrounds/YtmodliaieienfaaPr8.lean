
/- A moment of a prober: plain; the specification's l11tick. -/
import Derived.Test.YtmodliaieienfaaPr7
namespace Go.Proofs.Ytmodliaieienfaa
open Go.RowKit

/-- What a moment brings: the prober, what it tells, and of whom. -/
def tickPD (l : List Int) (P : DPro) : DPro × Int × Int :=
  if P.state = 0 then
    if (nextL l 2 P).2 < 0 then ((nextL l 2 P).1, 0, 0)
    else (⟨(nextL l 2 P).1.order, (nextL l 2 P).1.next, (nextL l 2 P).1.seed, 1, (nextL l 2 P).2, 0⟩, 1, (nextL l 2 P).2)
  else if P.state = 1 then
    if P.wait + 1 < 2 then (⟨P.order, P.next, P.seed, P.state, P.who, P.wait + 1⟩, 0, 0)
    else (⟨P.order, P.next, P.seed, 2, P.who, 0⟩, 2, P.who)
  else if P.wait + 1 < 4 then (⟨P.order, P.next, P.seed, P.state, P.who, P.wait + 1⟩, 0, 0)
  else (⟨P.order, P.next, P.seed, 0, 0, 0⟩, 3, P.who)

variable {w W : World} {gt base : Nat} {P : DPro} {tv : Value}
theorem NxSt.set3 (h : NxSt w gt base P tv W) (hg : base ≤ gt) (x : Int) : NxSt w gt base ⟨P.order, P.next, P.seed, x, P.who, P.wait⟩ tv (W.setCell ⟨gt, 3, none⟩ (.int .i64 x)) :=
  ⟨set_block h.box 3 _, h.own.keep (set_grown _ _ _ _) (pro_ne h.own h.box), h.low.setCell hg _⟩
theorem NxSt.set4 (h : NxSt w gt base P tv W) (hg : base ≤ gt) (x : Int) : NxSt w gt base ⟨P.order, P.next, P.seed, P.state, x, P.wait⟩ tv (W.setCell ⟨gt, 4, none⟩ (.int .i64 x)) :=
  ⟨set_block h.box 4 _, h.own.keep (set_grown _ _ _ _) (pro_ne h.own h.box), h.low.setCell hg _⟩
theorem NxSt.set5 (h : NxSt w gt base P tv W) (hg : base ≤ gt) (x : Int) : NxSt w gt base ⟨P.order, P.next, P.seed, P.state, P.who, x⟩ tv (W.setCell ⟨gt, 5, none⟩ (.int .i64 x)) :=
  ⟨set_block h.box 5 _, h.own.keep (set_grown _ _ _ _) (pro_ne h.own h.box), h.low.setCell hg _⟩

set_option maxRecDepth 20000 in
set_option maxHeartbeats 2000000 in
theorem sTickV (gt base : Nat) (P : DPro) (pv tv : Value) (T : DTab) (w : World) (hb : w.heap[gt]? = some (.cells #[pv, .int .i64 P.next, .int .i64 P.seed, .int .i64 P.state, .int .i64 P.who, .int .i64 P.wait] 25 (0, 0))) (ho : OwI w base pv P.order) (hP : ProW P) (hw0 : 0 ≤ P.wait) (hw4 : P.wait ≤ 4) (hT : VTab w tv T) (hn : T.mems.length ≤ 1048576) (hg : base ≤ gt) (hbs : base ≤ w.heap.size) :
    Calls Try.prog 31 #[.pointer (some ⟨gt, 0, none⟩), tv] w fun e w' => e = .returned (.tuple #[.int .i64 (tickPD (othersD T) P).2.1, .int .i64 (tickPD (othersD T) P).2.2]) ∧ ∃ qv, NxSt w gt base (tickPD (othersD T) P).1 qv w' := by
  have hE : ∀ w : World, ∀ o, Ext w (w.alloc o) := fun w o => World.grownBy_alloc _ _ _
  have HT : Hid (VTab w tv T) := hT
  obtain ⟨mv, rfl, hT⟩ := hT
  obtain ⟨ma, mc, rfl⟩ := hT.shape
  obtain ⟨mn, hmn⟩ : ∃ mn, mn = T.mems.length := ⟨_, rfl⟩
  rw [← hmn] at HT ⊢
  have HN : Hid (T.mems.length ≤ 1048576) := hn
  have HPW : Hid (ProW P) := hP
  have HO : Hid (OwI w base pv P.order) := ho
  obtain ⟨R, hR⟩ : ∃ R, R = tickPD (othersD T) P := ⟨_, rfl⟩
  rw [← hR]
  have sT : gt < w.heap.size := (Array.getElem?_eq_some_iff.1 hb).1
  clear hP hT hmn hn ho
  go_enter Try.func31, Try.ntmps31
  have XA := hE w (.cells #[.int .i64 T.self, .slice ma mn mc] 28 (0, 0))
  have HTB : Hid ((w.alloc (.cells #[.int .i64 T.self, .slice ma mn mc] 28 (0, 0))).heap[w.heap.size]? = some (.cells #[.int .i64 T.self, .slice ma mn mc] 28 (0, 0))) := heap_alloc_new w _
  have HSA : Hid (NxSt w gt base P pv (w.alloc (.cells #[.int .i64 T.self, .slice ma mn mc] 28 (0, 0)))) := ⟨ext_blk XA hb, HO.out.ext XA, (ext_bel XA).mono hbs⟩
  go_upto_region 1 with fail
  have HXA : Hid (Ext w (w.alloc (.cells #[.int .i64 T.self, .slice ma mn mc] 28 (0, 0)))) := XA
  generalize w.alloc (.cells #[.int .i64 T.self, .slice ma mn mc] 28 (0, 0)) = W at HSA HXA HTB ⊢
  have sW : base ≤ W.heap.size := Nat.le_trans hbs HXA.out.size
  clear XA hb
  obtain ⟨os, nx, sd, st, wh, wt⟩ := P
  simp only at hw0 hw4
  obtain ⟨p0, p1, p2, p3, p4, p5⟩ := cells6 HSA.out.box
  have f3 := (at_block HSA.out.box 3 _ rfl).2
  have f4 := (at_block HSA.out.box 4 _ rfl).2
  have f5 := (at_block HSA.out.box 5 _ rfl).2
  by_cases e0 : st = 0
  · have e0' : (st == 0) = true := by simpa using e0
    have HR0 : Hid (R = if (nextL (othersD T) 2 ⟨os, nx, sd, st, wh, wt⟩).2 < 0 then ((nextL (othersD T) 2 ⟨os, nx, sd, st, wh, wt⟩).1, 0, 0) else (⟨(nextL (othersD T) 2 ⟨os, nx, sd, st, wh, wt⟩).1.order, (nextL (othersD T) 2 ⟨os, nx, sd, st, wh, wt⟩).1.next, (nextL (othersD T) 2 ⟨os, nx, sd, st, wh, wt⟩).1.seed, 1, (nextL (othersD T) 2 ⟨os, nx, sd, st, wh, wt⟩).2, 0⟩, 1, (nextL (othersD T) 2 ⟨os, nx, sd, st, wh, wt⟩).2)) := by show _ = _; rw [hR]; exact if_pos e0
    obtain ⟨t0, t1⟩ := two_cells HTB.out
    clear hR e0
    go_wp2_with fail
    refine (sNextV gt base ⟨os, nx, sd, st, wh, wt⟩ pv _ T W HSA.out.box HSA.out.own HPW.out (HT.out.ext HXA.out) HN.out hg sW).mono ?_
    rintro e w1 ⟨rfl, qv, S1⟩
    generalize nextL (othersD T) 2 ⟨os, nx, sd, st, wh, wt⟩ = N at HR0 S1 ⊢
    obtain ⟨⟨no, nn, ns, nt, nw, na⟩, nid⟩ := N
    simp only at HR0 S1 ⊢
    have HS1 : Hid (NxSt w gt base ⟨no, nn, ns, nt, nw, na⟩ qv w1) := ⟨S1.box, S1.own, HSA.out.low.trans S1.low⟩
    clear p0 p1 p2 p3 p4 p5 f3 f4 f5 t0 t1 S1
    obtain ⟨p3, f3⟩ := at_block HS1.out.box 3 _ rfl
    obtain ⟨p4, f4⟩ := at_block HS1.out.box 4 _ rfl
    obtain ⟨p5, f5⟩ := at_block HS1.out.box 5 _ rfl
    by_cases hneg : nid < 0
    · have HF : Hid (R = (⟨no, nn, ns, nt, nw, na⟩, 0, 0)) := by show _ = _; rw [HR0.out, if_pos hneg]
      go_wp2
      go_ret2
      rw [HF.out]
      exact ⟨rfl, qv, HS1.out⟩
    · have HF : Hid (R = (⟨no, nn, ns, 1, nid, 0⟩, 1, nid)) := by show _ = _; rw [HR0.out, if_neg hneg]
      have HFIN : Hid (NxSt w gt base ⟨no, nn, ns, 1, nid, 0⟩ qv (((w1.setCell ⟨gt, 3, none⟩ (.int .i64 1)).setCell ⟨gt, 4, none⟩ (.int .i64 nid)).setCell ⟨gt, 5, none⟩ (.int .i64 0))) := ((HS1.out.set3 hg 1).set4 hg nid).set5 hg 0
      go_wp2
      go_ret2
      rw [HF.out]
      exact ⟨rfl, qv, HFIN.out⟩
  have e0' : (st == 0) = false := by simpa using e0
  by_cases e1 : st = 1
  · have e1' : (st == 1) = true := by simpa using e1
    by_cases hwt : wt + 1 < 2
    · have HF : Hid (R = (⟨os, nx, sd, st, wh, wt + 1⟩, 0, 0)) := by show _ = _; rw [hR]; unfold tickPD; rw [if_neg e0, if_pos e1, if_pos hwt]
      have HFIN : Hid (NxSt w gt base ⟨os, nx, sd, st, wh, wt + 1⟩ pv (W.setCell ⟨gt, 5, none⟩ (.int .i64 (wt + 1)))) := HSA.out.set5 hg (wt + 1)
      clear hR e0 e1
      go_wp2
      go_ret2
      rw [HF.out]
      exact ⟨rfl, pv, HFIN.out⟩
    · have HF : Hid (R = (⟨os, nx, sd, 2, wh, 0⟩, 2, wh)) := by show _ = _; rw [hR]; unfold tickPD; rw [if_neg e0, if_pos e1, if_neg hwt]
      have HFIN : Hid (NxSt w gt base ⟨os, nx, sd, 2, wh, 0⟩ pv (((W.setCell ⟨gt, 5, none⟩ (.int .i64 (wt + 1))).setCell ⟨gt, 3, none⟩ (.int .i64 2)).setCell ⟨gt, 5, none⟩ (.int .i64 0))) := ((HSA.out.set5 hg (wt + 1)).set3 hg 2).set5 hg 0
      clear hR e0 e1
      go_upto_region 16 with fail
      have hsU : base ≤ (((W.setCell ⟨gt, 5, none⟩ (.int .i64 (wt + 1))).setCell ⟨gt, 3, none⟩ (.int .i64 2)).setCell ⟨gt, 5, none⟩ (.int .i64 0)).heap.size := Nat.le_trans sW (((set_grown W gt 5 (.int .i64 (wt + 1))).trans (set_grown _ gt 3 (.int .i64 2))).trans (set_grown _ gt 5 (.int .i64 0))).size
      generalize ((W.setCell ⟨gt, 5, none⟩ (.int .i64 (wt + 1))).setCell ⟨gt, 3, none⟩ (.int .i64 2)).setCell ⟨gt, 5, none⟩ (.int .i64 0) = U at HFIN hsU ⊢
      clear p0 p1 p2 p3 p4 p5 f3 f4 f5
      obtain ⟨p4, _⟩ := at_block HFIN.out.box 4 _ rfl
      go_quiet (fail)
      go_wp2
      go_ret2
      rw [HF.out]
      exact ⟨rfl, pv, HFIN.out.ext hsU (ext_drewN _ _)⟩
  have e1' : (st == 1) = false := by simpa using e1
  by_cases hwt : wt + 1 < 4
  · have HF : Hid (R = (⟨os, nx, sd, st, wh, wt + 1⟩, 0, 0)) := by show _ = _; rw [hR]; unfold tickPD; rw [if_neg e0, if_neg e1, if_pos hwt]
    have HFIN : Hid (NxSt w gt base ⟨os, nx, sd, st, wh, wt + 1⟩ pv (W.setCell ⟨gt, 5, none⟩ (.int .i64 (wt + 1)))) := HSA.out.set5 hg (wt + 1)
    clear hR e0 e1
    go_wp2
    go_ret2
    rw [HF.out]
    exact ⟨rfl, pv, HFIN.out⟩
  · have HF : Hid (R = (⟨os, nx, sd, 0, 0, 0⟩, 3, wh)) := by show _ = _; rw [hR]; unfold tickPD; rw [if_neg e0, if_neg e1, if_neg hwt]
    have HFIN : Hid (NxSt w gt base ⟨os, nx, sd, 0, 0, 0⟩ pv ((((W.setCell ⟨gt, 5, none⟩ (.int .i64 (wt + 1))).setCell ⟨gt, 3, none⟩ (.int .i64 0)).setCell ⟨gt, 4, none⟩ (.int .i64 0)).setCell ⟨gt, 5, none⟩ (.int .i64 0))) := (((HSA.out.set5 hg (wt + 1)).set3 hg 0).set4 hg 0).set5 hg 0
    clear hR e0 e1
    go_wp2
    go_ret2
    rw [HF.out]
    exact ⟨rfl, pv, HFIN.out⟩

end Go.Proofs.Ytmodliaieienfaa
