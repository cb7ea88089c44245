
/- Checks as data: read, sized, copied, held against one another, marks. -/
import Derived.Test.YtjkhadaoldbceaaSz0
import Derived.Test.YtjkhadaoldbceaaMark
namespace Go.Proofs.Ytjkhadaoldbceaa
open Go.RowKit

structure DChk where
  name : List Int
  ttl : Int
  most : Int
  st : Int
  age : Int
  fails : Int

/-- The value of a check, its name given. -/
abbrev chkV (ov : Value) (C : DChk) : Value := .agg #[ov, .int .i64 C.ttl, .int .i64 C.most, .int .i64 C.st, .int .i64 C.age, .int .i64 C.fails]
def VChk (w : World) (v : Value) (C : DChk) : Prop := ∃ ov, v = .agg #[ov, .int .i64 C.ttl, .int .i64 C.most, .int .i64 C.st, .int .i64 C.age, .int .i64 C.fails] ∧ RV w ov C.name
theorem VChk.ext {w w' : World} {v : Value} {C : DChk} (h : VChk w v C) (e : Ext w w') : VChk w' v C := by
  obtain ⟨ov, hv, h1⟩ := h
  exact ⟨ov, hv, h1.ext e⟩
theorem ext_blk' {w w' : World} {k : Nat} {o : Obj} (h : Ext w w') (hk : w.heap[k]? = some o) : w'.heap[k]? = some o := (h.block k (Array.getElem?_eq_some_iff.1 hk).1 (by simp)).trans hk
theorem rv_rngK {w : World} {v : Value} {xs : List Int} (h : RV w v xs) : ∀ x ∈ xs, 0 ≤ x ∧ x ≤ 255 := by
  obtain ⟨_, _, _, hr, _, _⟩ := h
  exact hr.rng

set_option maxHeartbeats 1000000 in
theorem szChk (v : Value) (C : DChk) (l : Int) (w : World) (h : VChk w v C) (hl0 : 0 ≤ l) (hl : l ≤ 1048576) :
    Calls Try.prog 15 #[v, .int .i64 l] w (SzPost l C.name.length w) := by
  have hE : ∀ w : World, ∀ o, Ext w (w.alloc o) := fun w o => World.grownBy_alloc _ _ _
  have hB : ∀ w : World, ∀ o, Below w.heap.size w (w.alloc o) := fun w o => (Below.refl _ w).alloc (Nat.le_refl _) _
  obtain ⟨ov, rfl, ho⟩ := h
  by_cases h1 : l - C.name.length < 0
  · go_enter Try.func15, Try.ntmps15
    go_wp2_with fail
    refine (szB ov C.name l _ (ho.ext (hE _ _)) hl0 hl).mono ?_
    rintro e w1 ⟨rfl, rfl⟩
    rw [if_pos (by omega)]
    go_wp2
    go_ret
    exact ⟨-1, rfl, .inl ⟨by omega, rfl⟩, hB _ _⟩
  · go_enter Try.func15, Try.ntmps15
    go_wp2_with fail
    refine (szB ov C.name l _ (ho.ext (hE _ _)) hl0 hl).mono ?_
    rintro e w1 ⟨rfl, rfl⟩
    rw [if_neg (by omega)]
    go_wp2
    go_ret
    exact ⟨l - C.name.length, rfl, .inr ⟨by omega, rfl⟩, hB _ _⟩

set_option maxHeartbeats 2000000 in
theorem toChk (v : Value) (C : DChk) (w : World) (h : VChk w v C) (hn : C.name.length ≤ 1048576) :
    Calls Try.prog 17 #[v] w fun e w' => ∃ a c, e = .returned (.agg #[.slice a C.name.length c, .int .i64 C.ttl, .int .i64 C.most, .int .i64 C.st, .int .i64 C.age, .int .i64 C.fails]) ∧ Ow w' w.heap.size (.slice a C.name.length c) C.name ∧ Below w.heap.size w w' := by
  have HN1 : Hid (C.name.length ≤ 1048576) := hn
  obtain ⟨ov, rfl, ho⟩ := h
  have HR : Hid (∀ x ∈ C.name, 0 ≤ x ∧ x ≤ 255) := rv_rngK ho
  obtain ⟨n, hnn⟩ : ∃ n, n = C.name.length := ⟨_, rfl⟩
  have HN : Hid (n = C.name.length) := hnn
  rw [← hnn] at hn ⊢
  clear hnn
  obtain ⟨os, nx, sd, st, wh, wt⟩ := C
  simp only at HN HN1 HR ho ⊢
  go_enter Try.func17, Try.ntmps17
  go_wp2_with fail
  generalize hV : World.alloc (World.alloc (World.alloc w _) _) _ = V
  have HB0 : Below w.heap.size w V := by
    rw [← hV]
    exact (((Below.refl _ w).alloc (Nat.le_refl _) _).alloc (by simp) _).alloc (by simp; omega) _
  have A0 : V.heap[w.heap.size]? = some (.cells #[ov, .int .i64 nx, .int .i64 sd, .int .i64 st, .int .i64 wh, .int .i64 wt] 40 (0, 0)) := by
    rw [← hV, Below.heap_alloc _ _ _ (by simp; omega), Below.heap_alloc _ _ _ (by simp)]; exact heap_alloc_new w _
  have A1 : V.heap[w.heap.size + 1]? = some (.cells #[.slice none 0 0, .int .i64 0, .int .i64 0, .int .i64 0, .int .i64 0, .int .i64 0] 43 (0, 0)) := by
    rw [← hV, Below.heap_alloc _ _ _ (by simp)]; simpa using heap_alloc_new (World.alloc w _) (.cells #[.slice none 0 0, .int .i64 0, .int .i64 0, .int .i64 0, .int .i64 0, .int .i64 0] 43 (0, 0))
  have A2 : V.heap[w.heap.size + 1 + 1]? = some (.cells #[.slice none 0 0, .int .i64 0, .int .i64 0, .int .i64 0, .int .i64 0, .int .i64 0] 43 (0, 0)) := by
    rw [← hV]; simpa using heap_alloc_new (World.alloc (World.alloc w _) _) (.cells #[.slice none 0 0, .int .i64 0, .int .i64 0, .int .i64 0, .int .i64 0, .int .i64 0] 43 (0, 0))
  have hsz : w.heap.size + 2 < V.heap.size := (Array.getElem?_eq_some_iff.1 A2).1
  clear hV
  refine (toV ov os V (ho.ext (ext_below HB0)) HN1.out).mono ?_
  rintro e w1 ⟨v1, rfl, hO, b1⟩
  obtain ⟨a, c, rfl, _, _, _⟩ := Ow.rv hO HR.out
  rw [← HN.out] at hO ⊢
  have HO : Hid (Ow w1 V.heap.size (.slice a n c) os) := hO
  have HB1 : Hid (Below w.heap.size w w1) := HB0.trans (b1.mono (by omega))
  have C0 := ext_blk' (ext_below b1) A0
  have C1 := ext_blk' (ext_below b1) A1
  have C2 := ext_blk' (ext_below b1) A2
  clear A0 A1 A2 b1 HB0 hO
  have HG : Hid (w.heap.size + 2 < V.heap.size) := hsz
  clear hsz
  generalize V.heap.size = g at *
  obtain ⟨x0, x1, x2, x3, x4, x5⟩ : w1.cell? ⟨w.heap.size, 0, none⟩ = some ov ∧ w1.cell? ⟨w.heap.size, 1, none⟩ = some (.int .i64 nx) ∧ w1.cell? ⟨w.heap.size, 2, none⟩ = some (.int .i64 sd) ∧ w1.cell? ⟨w.heap.size, 3, none⟩ = some (.int .i64 st) ∧ w1.cell? ⟨w.heap.size, 4, none⟩ = some (.int .i64 wh) ∧ w1.cell? ⟨w.heap.size, 5, none⟩ = some (.int .i64 wt) := ⟨(at_block C0 0 _ rfl).1, (at_block C0 1 _ rfl).1, (at_block C0 2 _ rfl).1, (at_block C0 3 _ rfl).1, (at_block C0 4 _ rfl).1, (at_block C0 5 _ rfl).1⟩
  obtain ⟨r0, f0⟩ := at_block C1 0 _ rfl
  obtain ⟨r1, f1⟩ := at_block C1 1 _ rfl
  obtain ⟨r2, f2⟩ := at_block C1 2 _ rfl
  obtain ⟨r3, f3⟩ := at_block C1 3 _ rfl
  obtain ⟨r4, f4⟩ := at_block C1 4 _ rfl
  obtain ⟨r5, f5⟩ := at_block C1 5 _ rfl
  obtain ⟨z0, y0⟩ := at_block C2 0 _ rfl
  obtain ⟨z1, y1⟩ := at_block C2 1 _ rfl
  obtain ⟨z2, y2⟩ := at_block C2 2 _ rfl
  obtain ⟨z3, y3⟩ := at_block C2 3 _ rfl
  obtain ⟨z4, y4⟩ := at_block C2 4 _ rfl
  obtain ⟨z5, y5⟩ := at_block C2 5 _ rfl
  clear C0 C1 C2
  go_wp2
  refine bodyPost_ret (v := .agg #[.slice a n c, .int .i64 nx, .int .i64 sd, .int .i64 st, .int .i64 wh, .int .i64 wt]) (by simp [results, Try.results17, go_sem, *]) rfl ?_
  have k1 : w.heap.size + 1 < g := by have := HG.out; omega
  have k2 : w.heap.size + 1 + 1 < g := by have := HG.out; omega
  exact ⟨a, c, rfl, ow_base ((((((((((((ow_set (ow_set (ow_set (ow_set (ow_set (ow_set (ow_set (ow_set (ow_set (ow_set (ow_set (ow_set HO.out k2) k2) k2) k2) k2) k2) k1) k1) k1) k1) k1) k1)))))))))))) (by omega), ((((((((((((HB1.out.setCell (by simp; omega) _).setCell (by simp; omega) _).setCell (by simp; omega) _).setCell (by simp; omega) _).setCell (by simp; omega) _).setCell (by simp; omega) _).setCell (by simp) _).setCell (by simp) _).setCell (by simp) _).setCell (by simp) _).setCell (by simp) _).setCell (by simp) _)⟩

set_option maxHeartbeats 1000000 in
theorem eqChk (v u : Value) (C : DChk) (w : World) (h : VChk w v C) (k : VChk w u C) (hn0 : C.name.length ≤ 1048576) :
    Calls Try.prog 19 #[v, u] w fun e w' => e = .returned (.bool true) ∧ Below w.heap.size w w' := by
  have hn : C.name.length ≤ 2097152 := by omega
  clear hn0
  obtain ⟨ov, rfl, ho⟩ := h
  obtain ⟨uv, rfl, hu⟩ := k
  have EE : ∀ o o', Ext w ((w.alloc o).alloc o') := fun o o' => (World.grownBy_alloc _ _ _).trans (World.grownBy_alloc _ _ _)
  have hB2 : ∀ o o', Below w.heap.size w ((w.alloc o).alloc o') := fun o o' => ((Below.refl _ w).alloc (Nat.le_refl _) _).alloc (by simp) _
  obtain ⟨os, nx, sd, st, wh, wt⟩ := C
  simp only at ho hu hn ⊢
  go_enter Try.func19, Try.ntmps19
  go_wp2_with fail
  refine (eqV_yes ov uv os _ (ho.ext (EE _ _)) (hu.ext (EE _ _)) hn).mono ?_
  rintro e w1 ⟨rfl, q, rfl⟩
  go_wp2
  go_ret
  exact ⟨rfl, below_drewN (hB2 _ _) q⟩

end Go.Proofs.Ytjkhadaoldbceaa
