/- The contracts of the program's functions in the table of operations that join what others want. -/
import Derived.Test.YtfhebefepgnmnaaDoorWm8
namespace Go.Proofs.YtfhebefepgnmnaaDoor
open Go.RowKit

set_option maxHeartbeats 4000000 in
theorem wantKeyNum (k n : Int) (ka va : Option Addr) (kl kc vl vc : Nat) (b : Nat) (w : World) (F : Forms w b) :
    Calls Tryd.prog 36 #[.agg #[.int .i64 k, .slice ka kl kc, .slice va vl vc, .int .i64 n], .pointer (some ⟨b, 0, none⟩), .pointer (some ⟨b + 1, 0, none⟩)] w fun e w' => ∃ v, e = .returned v ∧ OwK w' w.heap.size v 2 ([.int .i64 0, .int .i64 0, .slice ka kl kc, .int .i64 0] ++ [.int .i64 2, .int .i64 0, .slice none 0 0, .int .i64 n]) ∧ Below w.heap.size w w' := by
  have hE : ∀ W : World, ∀ o, Ext W (W.alloc o) := fun W o => World.grownBy_alloc _ _ _
  obtain ⟨V, hV⟩ : ∃ V, V = w.alloc (.cells #[.int .i64 k, .slice ka kl kc, .slice va vl vc, .int .i64 n] 28) := ⟨_, rfl⟩
  have q : V.heap[w.heap.size]? = some (.cells #[.int .i64 k, .slice ka kl kc, .slice va vl vc, .int .i64 n] 28 (0, 0)) := by rw [hV]; exact heap_alloc_new w _
  have bV : Below w.heap.size w V := by rw [hV]; exact (Below.refl _ w).alloc (Nat.le_refl _) _
  have FV : Forms V b := F.ext (ext_below bV)
  have HQ : Hid (V.heap[w.heap.size]? = some (.cells #[.int .i64 k, .slice ka kl kc, .slice va vl vc, .int .i64 n] 28 (0, 0))) := q
  have HC : Hid (∀ W, Ext V W → (W.cell? ⟨w.heap.size, 0, none⟩ = some (.int .i64 k) ∧ W.cell? ⟨w.heap.size, 1, none⟩ = some (.slice ka kl kc) ∧ W.cell? ⟨w.heap.size, 2, none⟩ = some (.slice va vl vc) ∧ W.cell? ⟨w.heap.size, 3, none⟩ = some (.int .i64 n)) ∧ W.cell? ⟨b, 0, none⟩ = some (.func (Fn.func 32) #[] #[]) ∧ W.cell? ⟨b + 1, 0, none⟩ = some (.func (Fn.func 34) #[] #[]) ∧ Forms W b ∧ Below w.heap.size w W) := fun W x => by
    have h1 : W.heap[w.heap.size]? = _ := (x.block _ (Array.getElem?_eq_some_iff.1 HQ.out).1 (by simp)).trans HQ.out
    have F1 := FV.ext x
    obtain ⟨_, h2⟩ := F1.key
    obtain ⟨_, h3⟩ := F1.num
    exact ⟨⟨(at_block h1 0 _ rfl).1, (at_block h1 1 _ rfl).1, (at_block h1 2 _ rfl).1, (at_block h1 3 _ rfl).1⟩, (at_block h2 0 _ rfl).1, (at_block h3 0 _ rfl).1, F1, ⟨x.os.trans bV.os, x.tape.trans bV.tape, x.output.trans bV.output, Nat.le_trans bV.size x.size, fun j hj => (x.block j (Nat.lt_of_lt_of_le hj bV.size) (by simp)).trans (bV.block j hj)⟩⟩
  obtain ⟨⟨q0, q1, q2, q3⟩, q4, q5, _, _⟩ := HC.out V (World.grownBy.refl _ _)
  have HF : Hid (∀ W, Ext V W → Calls Tryd.prog 32 #[.agg #[.int .i64 k, .slice ka kl kc, .slice va vl vc, .int .i64 n]] W fun e w' => ∃ a c, e = .returned (.slice (some a) 1 c) ∧ RdT w' a 1 [.int .i64 0, .int .i64 0, .slice ka kl kc, .int .i64 0] ∧ Ext V w') := fun W x => by
    refine (wantKey k n ka va kl kc vl vc W).mono ?_
    rintro e w1 ⟨v1, rfl, o1, b1⟩
    obtain ⟨a, c, rfl, r1⟩ := rdt_of_own o1 (by omega) (by simp [Value.oneCell'])
    exact ⟨a, c, rfl, r1, x.tr (ext_below b1)⟩
  have HG : Hid (∀ W, Ext V W → Calls Tryd.prog 34 #[.agg #[.int .i64 k, .slice ka kl kc, .slice va vl vc, .int .i64 n]] W fun e w' => ∃ a c, e = .returned (.slice (some a) 1 c) ∧ RdT w' a 1 [.int .i64 2, .int .i64 0, .slice none 0 0, .int .i64 n] ∧ Ext W w' ∧ Ext V w') := fun W x => by
    refine (wantNum k n ka va kl kc vl vc W).mono ?_
    rintro e w1 ⟨v1, rfl, o1, b1⟩
    obtain ⟨a, c, rfl, r1⟩ := rdt_of_own o1 (by omega) (by simp [Value.oneCell'])
    exact ⟨a, c, rfl, r1, ext_below b1, x.tr (ext_below b1)⟩
  have XD : Ext V V.drew := ext_drewN V 1
  have HV := Lib.hid hV
  clear hV q F FV bV
  go_enter Tryd.func36, Tryd.ntmps36
  go_upto_region 1 with fail
  rw [← HV.out]
  clear HV
  go_region_held3 (fun w' => w'.cell? ⟨w.heap.size, 0, none⟩ = some (.int .i64 k) ∧ w'.cell? ⟨w.heap.size, 1, none⟩ = some (.slice ka kl kc) ∧ w'.cell? ⟨w.heap.size, 2, none⟩ = some (.slice va vl vc) ∧ w'.cell? ⟨w.heap.size, 3, none⟩ = some (.int .i64 n) ∧ w'.cell? ⟨b, 0, none⟩ = some (.func (Fn.func 32) #[] #[]) ∧ w'.cell? ⟨b + 1, 0, none⟩ = some (.func (Fn.func 34) #[] #[])) (first | (simp [*]; done) | go_keep)
    (first
    | (go_at_call 37; refine (concT w2.heap.size a1 a2 1 1 c1 c2 _ _ _ (by omega) (by omega) (by omega) (by omega) ⟨_, heap_alloc_new w2 _⟩ ((R1.ext E2).ext (hE _ _)) (R2.ext (hE _ _))).mono ?_; rintro e w3 ⟨v3, rfl, o3, b3⟩; obtain ⟨⟨x0, x1, x2, x3⟩, x4, x5, _, B3⟩ := HC.out w3 ((X2.tr (hE _ _)).tr (ext_below b3)))
    | (go_at_call 34; refine (HG.out w1 X1).mono ?_; rintro e w2 ⟨a2, c2, rfl, R2, E2, X2⟩; obtain ⟨⟨y0, y1, y2, y3⟩, y4, y5, _, B2⟩ := HC.out w2 X2)
    | (go_at_call 32; refine (HF.out _ XD).mono ?_; rintro e w1 ⟨a1, c1, rfl, R1, X1⟩; obtain ⟨⟨z0, z1, z2, z3⟩, z4, z5, _, B1⟩ := HC.out w1 X1))
  all_goals
    go_wp2
    go_ret
    exact ⟨v3, rfl, owk_base o3 (by have := B2.size; simp; omega), B3⟩

set_option maxHeartbeats 4000000 in
theorem wantKeyValNum (k n : Int) (ka va : Option Addr) (kl kc vl vc : Nat) (b : Nat) (w : World) (F : Forms w b) :
    Calls Tryd.prog 40 #[.agg #[.int .i64 k, .slice ka kl kc, .slice va vl vc, .int .i64 n], .pointer (some ⟨b + 2, 0, none⟩), .pointer (some ⟨b + 1, 0, none⟩)] w fun e w' => ∃ v, e = .returned v ∧ OwK w' w.heap.size v 3 ([.int .i64 0, .int .i64 0, .slice ka kl kc, .int .i64 0, .int .i64 1, .int .i64 0, .slice va vl vc, .int .i64 0] ++ [.int .i64 2, .int .i64 0, .slice none 0 0, .int .i64 n]) ∧ Below w.heap.size w w' := by
  have hE : ∀ W : World, ∀ o, Ext W (W.alloc o) := fun W o => World.grownBy_alloc _ _ _
  obtain ⟨V, hV⟩ : ∃ V, V = w.alloc (.cells #[.int .i64 k, .slice ka kl kc, .slice va vl vc, .int .i64 n] 28) := ⟨_, rfl⟩
  have q : V.heap[w.heap.size]? = some (.cells #[.int .i64 k, .slice ka kl kc, .slice va vl vc, .int .i64 n] 28 (0, 0)) := by rw [hV]; exact heap_alloc_new w _
  have bV : Below w.heap.size w V := by rw [hV]; exact (Below.refl _ w).alloc (Nat.le_refl _) _
  have FV : Forms V b := F.ext (ext_below bV)
  have HQ : Hid (V.heap[w.heap.size]? = some (.cells #[.int .i64 k, .slice ka kl kc, .slice va vl vc, .int .i64 n] 28 (0, 0))) := q
  have HC : Hid (∀ W, Ext V W → (W.cell? ⟨w.heap.size, 0, none⟩ = some (.int .i64 k) ∧ W.cell? ⟨w.heap.size, 1, none⟩ = some (.slice ka kl kc) ∧ W.cell? ⟨w.heap.size, 2, none⟩ = some (.slice va vl vc) ∧ W.cell? ⟨w.heap.size, 3, none⟩ = some (.int .i64 n)) ∧ W.cell? ⟨b + 2, 0, none⟩ = some (.func (Fn.func 38) #[] #[.pointer (some ⟨b, 0, none⟩)]) ∧ W.cell? ⟨b + 1, 0, none⟩ = some (.func (Fn.func 34) #[] #[]) ∧ Forms W b ∧ Below w.heap.size w W) := fun W x => by
    have h1 : W.heap[w.heap.size]? = _ := (x.block _ (Array.getElem?_eq_some_iff.1 HQ.out).1 (by simp)).trans HQ.out
    have F1 := FV.ext x
    obtain ⟨_, h2⟩ := F1.kv
    obtain ⟨_, h3⟩ := F1.num
    exact ⟨⟨(at_block h1 0 _ rfl).1, (at_block h1 1 _ rfl).1, (at_block h1 2 _ rfl).1, (at_block h1 3 _ rfl).1⟩, (at_block h2 0 _ rfl).1, (at_block h3 0 _ rfl).1, F1, ⟨x.os.trans bV.os, x.tape.trans bV.tape, x.output.trans bV.output, Nat.le_trans bV.size x.size, fun j hj => (x.block j (Nat.lt_of_lt_of_le hj bV.size) (by simp)).trans (bV.block j hj)⟩⟩
  obtain ⟨⟨q0, q1, q2, q3⟩, q4, q5, _, _⟩ := HC.out V (World.grownBy.refl _ _)
  have HF : Hid (∀ W, Ext V W → Calls Tryd.prog 38 #[.agg #[.int .i64 k, .slice ka kl kc, .slice va vl vc, .int .i64 n], .pointer (some ⟨b, 0, none⟩)] W fun e w' => ∃ a c, e = .returned (.slice (some a) 2 c) ∧ RdT w' a 2 [.int .i64 0, .int .i64 0, .slice ka kl kc, .int .i64 0, .int .i64 1, .int .i64 0, .slice va vl vc, .int .i64 0] ∧ Ext V w') := fun W x => by
    refine (wantKeyVal k n ka va kl kc vl vc b W (FV.ext x).key).mono ?_
    rintro e w1 ⟨v1, rfl, o1, b1⟩
    obtain ⟨a, c, rfl, r1⟩ := rdt_of_own o1 (by omega) (by simp [Value.oneCell'])
    exact ⟨a, c, rfl, r1, x.tr (ext_below b1)⟩
  have HG : Hid (∀ W, Ext V W → Calls Tryd.prog 34 #[.agg #[.int .i64 k, .slice ka kl kc, .slice va vl vc, .int .i64 n]] W fun e w' => ∃ a c, e = .returned (.slice (some a) 1 c) ∧ RdT w' a 1 [.int .i64 2, .int .i64 0, .slice none 0 0, .int .i64 n] ∧ Ext W w' ∧ Ext V w') := fun W x => by
    refine (wantNum k n ka va kl kc vl vc W).mono ?_
    rintro e w1 ⟨v1, rfl, o1, b1⟩
    obtain ⟨a, c, rfl, r1⟩ := rdt_of_own o1 (by omega) (by simp [Value.oneCell'])
    exact ⟨a, c, rfl, r1, ext_below b1, x.tr (ext_below b1)⟩
  have XD : Ext V V.drew := ext_drewN V 1
  have HV := Lib.hid hV
  clear hV q F FV bV
  go_enter Tryd.func40, Tryd.ntmps40
  go_upto_region 1 with fail
  rw [← HV.out]
  clear HV
  go_region_held3 (fun w' => w'.cell? ⟨w.heap.size, 0, none⟩ = some (.int .i64 k) ∧ w'.cell? ⟨w.heap.size, 1, none⟩ = some (.slice ka kl kc) ∧ w'.cell? ⟨w.heap.size, 2, none⟩ = some (.slice va vl vc) ∧ w'.cell? ⟨w.heap.size, 3, none⟩ = some (.int .i64 n) ∧ w'.cell? ⟨b + 2, 0, none⟩ = some (.func (Fn.func 38) #[] #[.pointer (some ⟨b, 0, none⟩)]) ∧ w'.cell? ⟨b + 1, 0, none⟩ = some (.func (Fn.func 34) #[] #[])) (first | (simp [*]; done) | go_keep)
    (first
    | (go_at_call 37; refine (concT w2.heap.size a1 a2 2 1 c1 c2 _ _ _ (by omega) (by omega) (by omega) (by omega) ⟨_, heap_alloc_new w2 _⟩ ((R1.ext E2).ext (hE _ _)) (R2.ext (hE _ _))).mono ?_; rintro e w3 ⟨v3, rfl, o3, b3⟩; obtain ⟨⟨x0, x1, x2, x3⟩, x4, x5, _, B3⟩ := HC.out w3 ((X2.tr (hE _ _)).tr (ext_below b3)))
    | (go_at_call 34; refine (HG.out w1 X1).mono ?_; rintro e w2 ⟨a2, c2, rfl, R2, E2, X2⟩; obtain ⟨⟨y0, y1, y2, y3⟩, y4, y5, _, B2⟩ := HC.out w2 X2)
    | (go_at_call 38; refine (HF.out _ XD).mono ?_; rintro e w1 ⟨a1, c1, rfl, R1, X1⟩; obtain ⟨⟨z0, z1, z2, z3⟩, z4, z5, _, B1⟩ := HC.out w1 X1))
  all_goals
    go_wp2
    go_ret
    exact ⟨v3, rfl, owk_base o3 (by have := B2.size; simp; omega), B3⟩

end Go.Proofs.YtfhebefepgnmnaaDoor
