/- Probers as data: read, sized, copied, held against one another, marks. -/
import Derived.Test.YtfdklcmhafhbeaaLiT
import Derived.Test.YtfdklcmhafhbeaaLiA
import Derived.Test.YtfdklcmhafhbeaaNbM
import Derived.Test.YtfdklcmhafhbeaaElG
namespace Go.Proofs.Ytfdklcmhafhbeaa
open Go.RowKit

structure DPro where
  order : List Int
  next : Int
  seed : Int
  state : Int
  who : Int
  wait : Int

/-- The five numbers of a prober, behind its order. -/
def proV (ov : Value) (P : DPro) : Value := .agg #[ov, .int .i64 P.next, .int .i64 P.seed, .int .i64 P.state, .int .i64 P.who, .int .i64 P.wait]
def VPro (w : World) (v : Value) (P : DPro) : Prop := ∃ ov, v = .agg #[ov, .int .i64 P.next, .int .i64 P.seed, .int .i64 P.state, .int .i64 P.who, .int .i64 P.wait] ∧ VL fI w ov P.order
theorem VPro.ext {w w' : World} {v : Value} {P : DPro} (h : VPro w v P) (e : Ext w w') : VPro w' v P := by
  obtain ⟨ov, hv, h1⟩ := h
  exact ⟨ov, hv, h1.ext e⟩

set_option maxHeartbeats 1000000 in
theorem szPro (v : Value) (P : DPro) (l : Int) (w : World) (h : VPro w v P) (hl0 : 0 ≤ l) (hl : l ≤ 1048576) :
    Calls Try.prog 6 #[v, .int .i64 l] w (SzPost l P.order.length w) := by
  have hE : ∀ w : World, ∀ o, Ext w (w.alloc o) := fun w o => World.grownBy_alloc _ _ _
  have hB : ∀ w : World, ∀ o, Below w.heap.size w (w.alloc o) := fun w o => (Below.refl _ w).alloc (Nat.le_refl _) _
  obtain ⟨ov, rfl, ho⟩ := h
  obtain ⟨m, hm⟩ : ∃ m, m = P.order.length := ⟨_, rfl⟩
  have HM : Hid (m = P.order.length) := hm
  rw [← hm]
  clear hm
  go_enter Try.func6, Try.ntmps6
  go_wp2_with fail
  refine (szL_I ov P.order l _ (ho.ext (hE _ _)) (by omega) (by omega)).mono ?_
  rintro e w1 ⟨r, rfl, hr, b1⟩
  rw [← HM.out] at hr
  have B1 := (hB w _).trans (b1.mono (by simp))
  rcases hr with ⟨g1, rfl⟩ | ⟨g1, g2⟩
  · go_wp2
    go_ret
    exact ⟨-1, rfl, .inl ⟨g1, rfl⟩, B1⟩
  · have hr0 : 0 ≤ r := by omega
    have HR : Hid (r = l - m) := g2
    clear g2 g1
    go_wp2
    go_ret
    exact ⟨r, rfl, .inr ⟨by have := HR.out; omega, HR.out⟩, B1⟩

set_option maxHeartbeats 2000000 in
theorem toPro (v : Value) (P : DPro) (w : World) (h : VPro w v P) (hn : P.order.length ≤ 1048576) :
    Calls Try.prog 9 #[v] w fun e w' => ∃ g, e = .returned (.agg #[.slice (some ⟨g, 0, none⟩) P.order.length P.order.length, .int .i64 P.next, .int .i64 P.seed, .int .i64 P.state, .int .i64 P.who, .int .i64 P.wait]) ∧ OwI w' w.heap.size (.slice (some ⟨g, 0, none⟩) P.order.length P.order.length) P.order ∧ Below w.heap.size w w' := by
  have hE : ∀ w : World, ∀ o, Ext w (w.alloc o) := fun w o => World.grownBy_alloc _ _ _
  have HN1 : Hid (P.order.length ≤ 1048576) := hn
  obtain ⟨ov, rfl, ho⟩ := h
  obtain ⟨n, hnn⟩ : ∃ n, n = P.order.length := ⟨_, rfl⟩
  have HN : Hid (n = P.order.length) := hnn
  rw [← hnn] at hn ⊢
  clear hnn
  obtain ⟨os, nx, sd, st, wh, wt⟩ := P
  simp only at HN HN1 ho ⊢
  go_enter Try.func9, Try.ntmps9
  go_wp2_with fail
  generalize hV : World.alloc (World.alloc (World.alloc w _) _) _ = V
  have HB0 : Below w.heap.size w V := by
    rw [← hV]
    exact (((Below.refl _ w).alloc (Nat.le_refl _) _).alloc (by simp) _).alloc (by simp; omega) _
  have A0 : V.heap[w.heap.size]? = some (.cells #[ov, .int .i64 nx, .int .i64 sd, .int .i64 st, .int .i64 wh, .int .i64 wt] 24 (0, 0)) := by
    rw [← hV, Below.heap_alloc _ _ _ (by simp; omega), Below.heap_alloc _ _ _ (by simp)]; exact heap_alloc_new w _
  have A1 : V.heap[w.heap.size + 1]? = some (.cells #[.slice none 0 0, .int .i64 0, .int .i64 0, .int .i64 0, .int .i64 0, .int .i64 0] 30 (0, 0)) := by
    rw [← hV, Below.heap_alloc _ _ _ (by simp)]; simpa using heap_alloc_new (World.alloc w _) (.cells #[.slice none 0 0, .int .i64 0, .int .i64 0, .int .i64 0, .int .i64 0, .int .i64 0] 30 (0, 0))
  have A2 : V.heap[w.heap.size + 1 + 1]? = some (.cells #[.slice none 0 0, .int .i64 0, .int .i64 0, .int .i64 0, .int .i64 0, .int .i64 0] 30 (0, 0)) := by
    rw [← hV]; simpa using heap_alloc_new (World.alloc (World.alloc w _) _) (.cells #[.slice none 0 0, .int .i64 0, .int .i64 0, .int .i64 0, .int .i64 0, .int .i64 0] 30 (0, 0))
  have hsz : w.heap.size + 2 < V.heap.size := (Array.getElem?_eq_some_iff.1 A2).1
  clear hV
  refine (toL_I ov os V (ho.ext (ext_below HB0)) HN1.out).mono ?_
  rintro e w1 ⟨rfl, hO, b1⟩
  have HO : Hid (OwI w1 w.heap.size (.slice (some ⟨V.heap.size, 0, none⟩) n n) os) := hO.own (by omega) HN.out (by have := HN.out; have := HN1.out; omega)
  rw [← HN.out]
  have HB1 : Hid (Below w.heap.size w w1) := HB0.trans (b1.mono (by omega))
  have C0 := ext_blk (ext_below b1) A0
  have C1 := ext_blk (ext_below b1) A1
  have C2 := ext_blk (ext_below b1) A2
  clear A0 A1 A2 b1 HB0 hO
  generalize V.heap.size = g at *
  have n1 : g ≠ w.heap.size + 1 := by omega
  have n2 : g ≠ w.heap.size + 1 + 1 := by omega
  obtain ⟨x0, x1, x2, x3, x4, x5⟩ : w1.cell? ⟨w.heap.size, 0, none⟩ = some ov ∧ w1.cell? ⟨w.heap.size, 1, none⟩ = some (.int .i64 nx) ∧ w1.cell? ⟨w.heap.size, 2, none⟩ = some (.int .i64 sd) ∧ w1.cell? ⟨w.heap.size, 3, none⟩ = some (.int .i64 st) ∧ w1.cell? ⟨w.heap.size, 4, none⟩ = some (.int .i64 wh) ∧ w1.cell? ⟨w.heap.size, 5, none⟩ = some (.int .i64 wt) := ⟨(at_block C0 0 _ rfl).1, (at_block C0 1 _ rfl).1, (at_block C0 2 _ rfl).1, (at_block C0 3 _ rfl).1, (at_block C0 4 _ rfl).1, (at_block C0 5 _ rfl).1⟩
  obtain ⟨r0, f0⟩ := at_block C1 0 _ rfl
  obtain ⟨r1, f1⟩ := at_block C1 1 _ rfl
  obtain ⟨r2, f2⟩ := at_block C1 2 _ rfl
  obtain ⟨r3, f3⟩ := at_block C1 3 _ rfl
  obtain ⟨r4, f4⟩ := at_block C1 4 _ rfl
  obtain ⟨r5, f5⟩ := at_block C1 5 _ rfl
  obtain ⟨z0, y0⟩ := at_block C2 0 _ rfl
  obtain ⟨z1, y1⟩ := at_block C2 1 _ rfl
  obtain ⟨z2, y2⟩ := at_block C2 2 _ rfl
  obtain ⟨z3, y3⟩ := at_block C2 3 _ rfl
  obtain ⟨z4, y4⟩ := at_block C2 4 _ rfl
  obtain ⟨z5, y5⟩ := at_block C2 5 _ rfl
  clear C0 C1 C2 hsz
  go_wp2
  refine bodyPost_ret (v := .agg #[.slice (some ⟨g, 0, none⟩) n n, .int .i64 nx, .int .i64 sd, .int .i64 st, .int .i64 wh, .int .i64 wt]) (by simp [results, Try.results9, go_sem, *]) rfl ?_
  have nb1 : (Value.slice (some ⟨g, 0, none⟩) n n).ownBlock = none ∨ (Value.slice (some ⟨g, 0, none⟩) n n).ownBlock ≠ some (w.heap.size + 1) := .inr (by simpa [Value.ownBlock] using n1)
  have nb2 : (Value.slice (some ⟨g, 0, none⟩) n n).ownBlock = none ∨ (Value.slice (some ⟨g, 0, none⟩) n n).ownBlock ≠ some (w.heap.size + 1 + 1) := .inr (by simpa [Value.ownBlock] using n2)
  exact ⟨g, rfl, ((((((((((((HO.out.kept (set_grown _ _ _ _) nb2).kept (set_grown _ _ _ _) nb2).kept (set_grown _ _ _ _) nb2).kept (set_grown _ _ _ _) nb2).kept (set_grown _ _ _ _) nb2).kept (set_grown _ _ _ _) nb2).kept (set_grown _ _ _ _) nb1).kept (set_grown _ _ _ _) nb1).kept (set_grown _ _ _ _) nb1).kept (set_grown _ _ _ _) nb1).kept (set_grown _ _ _ _) nb1).kept (set_grown _ _ _ _) nb1), ((((((((((((HB1.out.setCell (by simp; omega) _).setCell (by simp; omega) _).setCell (by simp; omega) _).setCell (by simp; omega) _).setCell (by simp; omega) _).setCell (by simp; omega) _).setCell (by simp) _).setCell (by simp) _).setCell (by simp) _).setCell (by simp) _).setCell (by simp) _).setCell (by simp) _)⟩

set_option maxHeartbeats 1000000 in
theorem eqPro (v u : Value) (P : DPro) (w : World) (h : VPro w v P) (k : VPro w u P) (hn : P.order.length ≤ 1048576) :
    Calls Try.prog 12 #[v, u] w fun e w' => e = .returned (.bool true) ∧ Below w.heap.size w w' := by
  obtain ⟨ov, rfl, ho⟩ := h
  obtain ⟨uv, rfl, hu⟩ := k
  have EE : ∀ o o', Ext w ((w.alloc o).alloc o') := fun o o' => (World.grownBy_alloc _ _ _).trans (World.grownBy_alloc _ _ _)
  have hB2 : ∀ o o', Below w.heap.size w ((w.alloc o).alloc o') := fun o o' => ((Below.refl _ w).alloc (Nat.le_refl _) _).alloc (by simp) _
  obtain ⟨os, nx, sd, st, wh, wt⟩ := P
  simp only at ho hu hn ⊢
  go_enter Try.func12, Try.ntmps12
  go_wp2_with fail
  refine (eqL_I ov uv os _ (ho.ext (EE _ _)) (hu.ext (EE _ _)) hn).mono ?_
  rintro e w1 ⟨rfl, q, rfl⟩
  go_wp2
  go_ret
  exact ⟨rfl, below_drewN (hB2 _ _) q⟩

set_option maxHeartbeats 1000000 in
theorem markPro (base : Nat) (P : DPro) (v : Value) (xs : List Int) (k : Int) (w : World) (h : OwI w base v xs) (hn : xs.length ≤ 1048576) (hk0 : 0 ≤ k) (hk1 : k ≤ 100000000) :
    Calls Try.prog 14 #[.agg #[v, .int .i64 P.next, .int .i64 P.seed, .int .i64 P.state, .int .i64 P.who, .int .i64 P.wait], .int .i64 k] w fun e w' => e = .returned (.int .i64 (k + xs.length)) ∧ OwI w' base v (mkL (fun x : Int => x) k xs.length) ∧ w.grownBy w' v.ownBlock := by
  obtain ⟨a, c, rfl⟩ := h.shape
  have HO : Hid (OwI w base (.slice a xs.length c) xs) := h
  have HN : Hid (xs.length ≤ 1048576) := hn
  obtain ⟨n, hnn⟩ : ∃ n, n = xs.length := ⟨_, rfl⟩
  rw [← hnn] at HO HN ⊢
  have HNN : Hid (n = xs.length) := hnn
  clear h hn hnn
  go_enter Try.func14, Try.ntmps14
  go_wp2_with fail
  refine (markOI base _ xs k _ (HO.out.ext (World.grownBy_alloc _ _ _)) (by rw [← HNN.out]; exact HN.out) hk0 (by omega)).mono ?_
  rintro e w1 ⟨rfl, o1, g1⟩
  rw [← HNN.out] at o1 ⊢
  go_wp2
  go_ret
  exact ⟨rfl, o1, (World.grownBy_alloc _ _ _).trans g1⟩

set_option maxHeartbeats 1000000 in
theorem heldPro (base : Nat) (P : DPro) (v : Value) (n : Nat) (k : Int) (w : World) (h : OwI w base v (mkL (fun x : Int => x) k n)) (hn : n ≤ 1048576) (hk0 : 0 ≤ k) (hk1 : k ≤ 100000000) :
    Calls Try.prog 16 #[.agg #[v, .int .i64 P.next, .int .i64 P.seed, .int .i64 P.state, .int .i64 P.who, .int .i64 P.wait], .int .i64 k] w fun e w' => e = .returned (.int .i64 (k + n)) ∧ Below w.heap.size w w' := by
  obtain ⟨a, c, rfl⟩ := h.shape
  rw [mkL_len] at h ⊢
  have HO : Hid (OwI w base (.slice a n c) (mkL (fun x : Int => x) k n)) := h
  have HN : Hid (n ≤ 1048576) := hn
  have hn1 : (n : Int) ≤ 1048576 := by omega
  clear h
  go_enter Try.func16, Try.ntmps16
  go_wp2_with fail
  refine (heldOI base _ n k _ (HO.out.ext (World.grownBy_alloc _ _ _)) hk0 (by omega) HN.out).mono ?_
  rintro e w1 ⟨rfl, q, rfl⟩
  have h0 : ¬ (k + (n : Int) < 0) := by omega
  go_wp2
  go_ret
  exact ⟨rfl, below_drewN ((Below.refl _ w).alloc (Nat.le_refl _) _) q⟩

end Go.Proofs.Ytfdklcmhafhbeaa
