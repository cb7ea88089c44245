/- The exact statement of ProberNew: the walk of the law itself. -/
import Derived.Test.YtbgjfccdgalapaaLPr
import Derived.Test.YtbgjfccdgalapaaPr4
import Derived.Test.YtbgjfccdgalapaaPx5
namespace Go.Proofs.Ytbgjfccdgalapaa
open Go.RowKit

/-- What is carried through the walk of a law that answers a prober: the specification's answer (of the world Ws), the program's. -/
structure LQ (w Ws W : World) (R : DPro) (sv gv : Value) (s g base : Nat) (G : List Int) : Prop where
  low : Below w.heap.size w W
  sB : Below Ws.heap.size Ws W
  sV : VL fI Ws sv R.order
  s : W.heap[s]? = some (.cells #[sv, .int .i64 R.next, .int .i64 R.seed, .int .i64 R.state, .int .i64 R.who, .int .i64 R.wait] 35 (0, 0))
  g : W.heap[g]? = some (.cells #[gv, .int .i64 R.next, .int .i64 R.seed, .int .i64 R.state, .int .i64 R.who, .int .i64 R.wait] 35 (0, 0))
  gO : OwI W base gv G
  bs : Ws.heap.size ≤ base
  ws : w.heap.size ≤ Ws.heap.size
variable {w Ws W W' : World} {R : DPro} {sv gv : Value} {s g base : Nat} {G G' : List Int}
theorem LQ.grow (h : LQ w Ws W R sv gv s g base G) (b : Below W.heap.size W W') : LQ w Ws W' R sv gv s g base G :=
  ⟨h.low.trans (b.mono h.low.size), h.sB.trans (b.mono h.sB.size), h.sV, ext_blk (ext_below b) h.s, ext_blk (ext_below b) h.g, h.gO.ext (ext_below b), h.bs, h.ws⟩
theorem LQ.turn {row : Value} {rb : Nat} {T : List Int} (h : LQ w Ws W R sv gv s g base G) (o : OwI W rb row T) (hb : Ws.heap.size ≤ rb) (hg : W.grownBy W' row.ownBlock) (hG : OwI W' base gv G') : LQ w Ws W' R sv gv s g base G' := by
  have kp : ∀ (b : Nat) (cs : Array Value) (t : TypeId), W.heap[b]? = some (.cells cs t (0, 0)) → t ≠ 3 → W'.heap[b]? = some (.cells cs t (0, 0)) := fun b cs t hbb ht => (hg.block b (Array.getElem?_eq_some_iff.1 hbb).1 (ne_rowN o hbb ht)).trans hbb
  have hr : ∀ k, row.ownBlock = some k → rb ≤ k := fun k hk => (o.lt k hk).1
  exact ⟨h.low.grown hg h.low.size (fun k hk => Nat.le_trans (Nat.le_trans h.ws hb) (hr k hk)), h.sB.grown hg h.sB.size (fun k hk => Nat.le_trans hb (hr k hk)), h.sV, kp _ _ _ h.s (by decide), kp _ _ _ h.g (by decide), hG, h.bs, h.ws⟩
theorem LQ.sW (h : LQ w Ws W R sv gv s g base G) : VPro W (.agg #[sv, .int .i64 R.next, .int .i64 R.seed, .int .i64 R.state, .int .i64 R.who, .int .i64 R.wait]) R := ⟨sv, rfl, h.sV.ext (ext_below h.sB)⟩

set_option maxRecDepth 20000 in
set_option maxHeartbeats 4000000 in
theorem law_ProberNew (s : Int) (w : World) (h1 : -9223372036854775808 ≤ s) (h2 : s ≤ 9223372036854775807) :
    Calls Try.prog 6 #[.int .i64 s] w fun e w' => e = .returned (.bool true) ∧ Below w.heap.size w w' := by
  have hE : ∀ w : World, ∀ o, Ext w (w.alloc o) := fun w o => World.grownBy_alloc _ _ _
  have hB : ∀ w : World, ∀ o, Below w.heap.size w (w.alloc o) := fun w o => (Below.refl _ w).alloc (Nat.le_refl _) _
  obtain ⟨⟨R, rb⟩, hR⟩ : ∃ R, R = newPD s := ⟨_, rfl⟩
  have HR : Hid ((R, rb) = newPD s) := hR
  have HO : Hid (R.order = []) := by
    show _ = _
    have : (newPD s).1.order = [] := by unfold newPD; split <;> rfl
    rw [← hR] at this
    exact this
  obtain ⟨m, hm⟩ : ∃ m, m = R.order.length := ⟨_, rfl⟩
  have HMR : Hid (m = R.order.length) := hm
  have HML : Hid (m ≤ 1048576) := by show _ ≤ _; rw [hm, HO.out]; simp
  clear hR hm
  have HS : Hid (∀ V, Calls Try.prog 21 #[.int .i64 s] V fun e w' => ∃ sa sc, e = .returned (.tuple #[.agg #[.slice sa m sc, .int .i64 R.next, .int .i64 R.seed, .int .i64 R.state, .int .i64 R.who, .int .i64 R.wait], .bool rb]) ∧ Hid (OwI w' V.heap.size (.slice sa m sc) R.order) ∧ Below V.heap.size V w') := fun V => (sProberNewV s V h1 h2).mono (fun e w' ⟨tv, h1, h2, h3⟩ => by
    rw [← HR.out] at h1 h2
    obtain ⟨sa, sc, hsv⟩ := h2.shape
    rw [← HMR.out] at hsv
    subst hsv
    exact ⟨sa, sc, h1, h2, h3⟩)
  have HI : Hid (∀ V, Calls Try.prog 22 #[.int .i64 s] V fun e w' => ∃ sa sc, e = .returned (.tuple #[.agg #[.slice sa m sc, .int .i64 R.next, .int .i64 R.seed, .int .i64 R.state, .int .i64 R.who, .int .i64 R.wait], .bool rb]) ∧ Hid (OwI w' V.heap.size (.slice sa m sc) R.order) ∧ Below V.heap.size V w') := fun V => (iProberNewV s V h1 h2).mono (fun e w' ⟨tv, h1, h2, h3⟩ => by
    rw [← HR.out] at h1 h2
    obtain ⟨sa, sc, hsv⟩ := h2.shape
    rw [← HMR.out] at hsv
    subst hsv
    exact ⟨sa, sc, h1, h2, h3⟩)
  go_enter Try.func6, Try.ntmps6
  go_wp2_with fail
  refine (HS.out w).mono ?_
  rintro e v3 ⟨sa, sc, rfl, o3, b3⟩
  have HM3 : Hid (∀ W, W = v3.alloc (.cells #[.slice sa m sc, .int .i64 R.next, .int .i64 R.seed, .int .i64 R.state, .int .i64 R.who, .int .i64 R.wait] 35 (0, 0)) → Below w.heap.size w W ∧ W.heap[v3.heap.size]? = some (.cells #[.slice sa m sc, .int .i64 R.next, .int .i64 R.seed, .int .i64 R.state, .int .i64 R.who, .int .i64 R.wait] 35 (0, 0)) ∧ VL fI W (.slice sa m sc) R.order) := fun W hW => by
    subst hW
    exact ⟨b3.trans ((hB _ _).mono b3.size), heap_alloc_new _ _, o3.out.vl.ext (hE _ _)⟩
  clear b3
  go_upto_region 2 with fail
  generalize hU : v3.alloc _ = w3
  obtain ⟨B3, PS3, V3⟩ := HM3.out w3 hU.symm
  clear hU HM3 o3
  generalize v3.heap.size = bs at *
  go_wp2_with fail
  refine (HI.out w3).mono ?_
  rintro e w5 ⟨ga, gc, rfl, O5, b5⟩
  have HLL : Hid (∀ W, W = w5.alloc (.cells #[.slice ga m gc, .int .i64 R.next, .int .i64 R.seed, .int .i64 R.state, .int .i64 R.who, .int .i64 R.wait] 35 (0, 0)) → LQ w w3 W R (.slice sa m sc) (.slice ga m gc) bs w5.heap.size w3.heap.size R.order) := fun W hW => by
    subst hW
    have X : Ext w3 (w5.alloc (.cells #[.slice ga m gc, .int .i64 R.next, .int .i64 R.seed, .int .i64 R.state, .int .i64 R.who, .int .i64 R.wait] 35 (0, 0))) := (ext_below b5).tr (hE _ _)
    exact ⟨B3.trans ((ext_bel X).mono B3.size), ext_bel X, V3, ext_blk X PS3, heap_alloc_new _ _, O5.out.ext (hE _ _), Nat.le_refl _, B3.size⟩
  go_upto_region 3 with fail
  generalize hU : w5.alloc _ = W0
  have L0 := HLL.out W0 hU.symm
  clear hU HLL O5 b5 PS3 V3 B3
  generalize w5.heap.size = bg at *
  have HL0 : Hid (LQ w w3 W0 R (.slice sa m sc) (.slice ga m gc) bs bg w3.heap.size R.order) := L0
  obtain ⟨s0, s1, s2, s3, s4, s5⟩ := cells6 L0.s
  obtain ⟨y0, y1, y2, y3, y4, y5⟩ := cells6 L0.g
  clear L0
  go_wp2_with fail
  refine (eqPro _ _ R _ ⟨_, rfl, HL0.out.gO.vl⟩ HL0.out.sW (by rw [← HMR.out]; exact HML.out)).mono ?_
  rintro e W4 ⟨rfl, b4⟩
  have HL4 := hideR (HL0.out.grow b4)
  clear s0 s1 s2 s3 s4 s5 y0 y1 y2 y3 y4 y5 b4 HL0
  obtain ⟨y0, y1, y2, y3, y4, y5⟩ := cells6 HL4.out.g
  go_wp2_with fail
  refine (markPro w3.heap.size R _ R.order 1 _ HL4.out.gO (by rw [← HMR.out]; exact HML.out) (by omega) (by omega)).mono ?_
  rintro e W5 ⟨rfl, o5, g5⟩
  rw [← HMR.out] at o5 ⊢
  have HL5 := hideR (HL4.out.turn HL4.out.gO HL4.out.bs g5 o5)
  clear o5 g5 y0 y1 y2 y3 y4 y5 HL4
  obtain ⟨y0, y1, y2, y3, y4, y5⟩ := cells6 HL5.out.g
  go_wp2_with fail
  refine (heldPro w3.heap.size R _ m 1 _ HL5.out.gO HML.out (by omega) (by omega)).mono ?_
  rintro e W6 ⟨rfl, b6⟩
  have HL6 := hideR (HL5.out.grow b6)
  clear y0 y1 y2 y3 y4 y5 b6 HL5
  have hm0 : ¬ ((1 : Int) + (m : Int) < 0) := by omega
  go_wp2_with fail
  refine (HI.out W6).mono ?_
  rintro e W8 ⟨ha, hc, rfl, O8, b8⟩
  have HL8 := hideR (HL6.out.grow b8)
  have HH : Hid (∀ W, W = W8.alloc (.cells #[.slice ha m hc, .int .i64 R.next, .int .i64 R.seed, .int .i64 R.state, .int .i64 R.who, .int .i64 R.wait] 35 (0, 0)) → LQ w w3 W R (.slice sa m sc) (.slice ga m gc) bs bg w3.heap.size (mkL (fun x : Int => x) 1 m) ∧ W.heap[W8.heap.size]? = some (.cells #[.slice ha m hc, .int .i64 R.next, .int .i64 R.seed, .int .i64 R.state, .int .i64 R.who, .int .i64 R.wait] 35 (0, 0)) ∧ VL fI W (.slice ha m hc) R.order) := fun W hW => by
    subst hW
    exact ⟨HL8.out.grow (hB _ _), heap_alloc_new _ _, O8.out.vl.ext (hE _ _)⟩
  clear b8 HL6
  go_upto_region 14 with fail
  generalize hU : W8.alloc _ = W9
  obtain ⟨L9, Q9, T9⟩ := HH.out W9 hU.symm
  have HL9 := hideR L9
  have HT9 : Hid (VL fI W9 (.slice ha m hc) R.order) := T9
  clear hU HH L9 T9 HL8 O8
  generalize W8.heap.size = bh at *
  obtain ⟨t0, t1, t2, t3, t4, t5⟩ := cells6 Q9
  obtain ⟨s0, s1, s2, s3, s4, s5⟩ := cells6 HL9.out.s
  go_wp2_with fail
  refine (eqPro _ _ R _ ⟨_, rfl, HT9.out⟩ HL9.out.sW (by rw [← HMR.out]; exact HML.out)).mono ?_
  rintro e W10 ⟨rfl, b10⟩
  have HL10 := hideR (HL9.out.grow b10)
  clear b10 t0 t1 t2 t3 t4 t5 s0 s1 s2 s3 s4 s5 Q9 HT9 HL9
  obtain ⟨y0, y1, y2, y3, y4, y5⟩ := cells6 HL10.out.g
  go_wp2_with fail
  refine (heldPro w3.heap.size R _ m 1 _ HL10.out.gO HML.out (by omega) (by omega)).mono ?_
  rintro e W11 ⟨rfl, b11⟩
  go_wp2_with fail
  go_ret
  exact ⟨rfl, (HL10.out.grow b11).low⟩

end Go.Proofs.Ytbgjfccdgalapaa
