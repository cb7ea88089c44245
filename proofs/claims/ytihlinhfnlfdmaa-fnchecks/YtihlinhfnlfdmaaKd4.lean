
/- DrawCheckTick. -/
import Derived.Test.YtihlinhfnlfdmaaKd3
namespace Go.Proofs.Ytihlinhfnlfdmaa
open Go.RowKit

/-- A drawn check and a drawn number. -/
def TickDrawn (w : World) (e : Ending) (w' : World) : Prop := ∃ (C : DChk) (a : Option Addr) (c : Nat) (n : Int), e = .returned (.tuple #[.agg #[.slice a C.name.length c, .int .i64 C.ttl, .int .i64 C.most, .int .i64 C.st, .int .i64 C.age, .int .i64 C.fails], .int .i64 n]) ∧ OwN w' w.heap.size (.slice a C.name.length c) C.name ∧ C.name.length ≤ 20 ∧ IsInt n ∧ Below w.heap.size w w'

set_option maxRecDepth 20000 in
set_option maxHeartbeats 4000000 in
theorem drawTickV (a : Option Addr) (n cap : Nat) (xs : List Int) (w : World) (hr : Rd w a n xs) (hm : n ≤ maxLen) :
    Calls Try.prog 4 #[.slice a n cap] w (TickDrawn w) := by
  have hE : ∀ w : World, ∀ o, Ext w (w.alloc o) := fun w o => World.grownBy_alloc _ _ _
  have HR : Hid (Rd w a n xs) := hr
  have HMM : Hid (n ≤ maxLen) := hm
  clear hr hm
  go_enter Try.func4, Try.ntmps4
  go_wp2_with fail
  generalize hW : World.alloc w _ = V
  have XV : Ext w V := by rw [← hW]; exact hE _ _
  have R0 : V.heap[w.heap.size]? = some (.cells #[.slice none 0 0, .int .i64 0, .int .i64 0, .int .i64 0, .int .i64 0, .int .i64 0] 24 (0, 0)) := by rw [← hW]; exact heap_alloc_new w _
  have sV : w.heap.size < V.heap.size := (Array.getElem?_eq_some_iff.1 R0).1
  clear hW
  refine (newC a n cap xs V (HR.out.grown XV) HMM.out).mono ?_
  rintro e w1 ⟨rfl, c1, b1⟩
  have R1 := ext_blk (ext_below b1) R0
  have X1 : Ext w w1 := XV.tr (ext_below b1)
  have HSV := hideR sV
  have s1 : V.heap.size ≤ w1.heap.size := b1.size
  clear R0 b1 XV sV
  generalize V.heap.size = g at *
  go_wp2_with fail
  refine (bentKC g g w1 c1).mono ?_
  rintro e w2 ⟨C, tv, rfl, o2, l2, c2, g2⟩
  obtain ⟨ta, tc, htv⟩ := rv_shape o2.rv
  obtain ⟨tl, htl⟩ : ∃ tl, tl = C.name.length := ⟨_, rfl⟩
  rw [← htl] at htv
  subst htv
  have gi := (cur_in c1).1
  have HP : Hid (∀ U, U = w2.alloc (.cells #[.int .i64 0, .int .i64 1, .int .i64 3, .int .i64 9, .int .i64 (-1), .int .i64 1000, .int .i64 9223372036854775807] 3) → Calls Try.prog 14 #[.pointer (some ⟨g, 0, none⟩), .slice (some ⟨w2.heap.size, 0, none⟩) 7 7] U fun e w' => ∃ q, IsInt q ∧ e = .returned (.int .i64 q) ∧ Hid (OwN w' w1.heap.size (.slice ta tl tc) C.name ∧ w1.grownBy w' (some g))) := fun U hU => by
    have X : Ext w2 U := by rw [hU]; exact hE _ _
    have hz := lit_cells w2 [0, 1, 3, 9, -1, 1000, 9223372036854775807] #[.int .i64 0, .int .i64 1, .int .i64 3, .int .i64 9, .int .i64 (-1), .int .i64 1000, .int .i64 9223372036854775807] 3 rfl (by simp [IsInt])
    rw [← hU] at hz
    exact (pickC g g w2.heap.size 7 U (c2.ext X) (by omega) (by omega) (by have := (cur_in c2).1; omega) hz).mono fun e w' ⟨q, h1, h2, h3, h4⟩ => ⟨q, h1, h2, (o2.ext X).low h4 gi, grown_tr (grown_tr g2 (ext_row X _)) h4⟩
  have HL := hideR l2
  have HTL := hideR htl
  clear c1 c2 g2 o2 l2 htl
  go_wp2_with fail
  refine (HP.out _ rfl).mono ?_
  rintro e w3 ⟨q, hq, rfl, H3⟩
  have R3 := grown_blk H3.out.2 (by have := HSV.out; omega) R1
  have HF : Hid (TickDrawn w (.returned (.tuple #[.agg #[.slice ta tl tc, .int .i64 C.ttl, .int .i64 C.most, .int .i64 C.st, .int .i64 C.age, .int .i64 C.fails], .int .i64 q])) ((((((w3.setCell ⟨w.heap.size, 0, none⟩ (.slice ta tl tc)).setCell ⟨w.heap.size, 1, none⟩ (.int .i64 C.ttl)).setCell ⟨w.heap.size, 2, none⟩ (.int .i64 C.most)).setCell ⟨w.heap.size, 3, none⟩ (.int .i64 C.st)).setCell ⟨w.heap.size, 4, none⟩ (.int .i64 C.age)).setCell ⟨w.heap.size, 5, none⟩ (.int .i64 C.fails))) := by
    have hs : w3.grownBy ((((((w3.setCell ⟨w.heap.size, 0, none⟩ (.slice ta tl tc)).setCell ⟨w.heap.size, 1, none⟩ (.int .i64 C.ttl)).setCell ⟨w.heap.size, 2, none⟩ (.int .i64 C.most)).setCell ⟨w.heap.size, 3, none⟩ (.int .i64 C.st)).setCell ⟨w.heap.size, 4, none⟩ (.int .i64 C.age)).setCell ⟨w.heap.size, 5, none⟩ (.int .i64 C.fails)) (some w.heap.size) := ((((((set_grown _ _ _ _).trans (set_grown _ _ _ _)).trans (set_grown _ _ _ _)).trans (set_grown _ _ _ _)).trans (set_grown _ _ _ _)).trans (set_grown _ _ _ _))
    have k1 : Below w.heap.size w w3 := (ext_bel X1).grown H3.out.2 X1.size (fun k hk => by cases hk; have := HSV.out; omega)
    have o3 : OwN ((((((w3.setCell ⟨w.heap.size, 0, none⟩ (.slice ta tl tc)).setCell ⟨w.heap.size, 1, none⟩ (.int .i64 C.ttl)).setCell ⟨w.heap.size, 2, none⟩ (.int .i64 C.most)).setCell ⟨w.heap.size, 3, none⟩ (.int .i64 C.st)).setCell ⟨w.heap.size, 4, none⟩ (.int .i64 C.age)).setCell ⟨w.heap.size, 5, none⟩ (.int .i64 C.fails)) w.heap.size (.slice ta tl tc) C.name := (H3.out.1.base X1.size).keep hs (neN H3.out.1 R3 (by decide))
    have hl := HTL.out
    subst hl
    exact ⟨C, ta, tc, q, rfl, o3, HL.out, hq, k1.grown hs k1.size (fun k hk => by cases hk; exact Nat.le_refl _)⟩
  obtain ⟨r0, f0⟩ := at_block R3 0 _ rfl
  obtain ⟨r1, f1⟩ := at_block R3 1 _ rfl
  obtain ⟨r2, f2⟩ := at_block R3 2 _ rfl
  obtain ⟨r3, f3⟩ := at_block R3 3 _ rfl
  obtain ⟨r4, f4⟩ := at_block R3 4 _ rfl
  obtain ⟨r5, f5⟩ := at_block R3 5 _ rfl
  clear R3 R1 H3 HP HTL HL hq X1 HSV gi s1
  go_wp2
  exact bodyPost_ret (v := .tuple #[.agg #[.slice ta tl tc, .int .i64 C.ttl, .int .i64 C.most, .int .i64 C.st, .int .i64 C.age, .int .i64 C.fails], .int .i64 q]) (by simp [results, Try.results4, go_sem, *]) rfl HF.out

end Go.Proofs.Ytihlinhfnlfdmaa
