/- Messages as bytes: the lists, and the contracts of the specification's l3op and l3item. -/
import Derived.Test.YtplgnohncdfgcalSPutT
import Derived.Test.YtplgnohncdfgcalIt1
import Derived.Deep.RegionHeld3
namespace Go.Proofs.Ytplgnohncdfgcal
open Go.RowKit

/-- The bytes of an operation behind xs. -/
def opL (xs : List Int) (o : DOp) : List Int := textL (textL (xs ++ numL o.kind) o.key) o.val ++ numL o.n
/-- The bytes of an item behind xs. -/
def itL (xs : List Int) (x : DItem) : List Int := opL (xs ++ numL x.term ++ numL (x.cmd.client + 1) ++ numL x.cmd.req) x.cmd.op

theorem textL_le (xs ys : List Int) : (textL xs ys).length ≤ xs.length + 25 := by
  unfold textL
  have := numL_len (ys.length : Int)
  split
  · simp only [List.length_append]; omega
  · omega
theorem putL_le (xs : List Int) (q : Int) : (xs ++ numL q).length ≤ xs.length + 5 := by
  have := numL_len q
  simp only [List.length_append]; omega
theorem opL_le (xs : List Int) (o : DOp) : (opL xs o).length ≤ xs.length + 60 := by
  unfold opL
  have h1 := putL_le (textL (textL (xs ++ numL o.kind) o.key) o.val) o.n
  have h2 := textL_le (textL (xs ++ numL o.kind) o.key) o.val
  have h3 := textL_le (xs ++ numL o.kind) o.key
  have h4 := putL_le xs o.kind
  omega
theorem itL_le (xs : List Int) (x : DItem) : (itL xs x).length ≤ xs.length + 75 := by
  unfold itL
  have h1 := opL_le (xs ++ numL x.term ++ numL (x.cmd.client + 1) ++ numL x.cmd.req) x.cmd.op
  have h2 := putL_le (xs ++ numL x.term ++ numL (x.cmd.client + 1)) x.cmd.req
  have h3 := putL_le (xs ++ numL x.term) (x.cmd.client + 1)
  have h4 := putL_le xs x.term
  omega

theorem RV.rng {w : World} {v : Value} {xs : List Int} (h : RV w v xs) : ∀ x ∈ xs, 0 ≤ x ∧ x ≤ 255 := by
  obtain ⟨a, cap, rfl, hr, _, _⟩ := h
  exact hr.rng
theorem putL_rng {xs : List Int} (h : ∀ x ∈ xs, 0 ≤ x ∧ x ≤ 255) (q : Int) : ∀ x ∈ xs ++ numL q, 0 ≤ x ∧ x ≤ 255 := by
  intro x hx
  rcases List.mem_append.1 hx with h1 | h1
  · exact h x h1
  · exact numL_rng q x h1

/-- What a call that makes bytes leaves. -/
def PutPost (w : World) (zs : List Int) (e : Ending) (w' : World) : Prop := ∃ v', e = .returned v' ∧ RV w' v' zs ∧ Ow w' w.heap.size v' zs ∧ Below w.heap.size w w'

theorem sPutV (v : Value) (xs : List Int) (q : Int) (w : World) (h : RV w v xs) (hn : xs.length ≤ 2097152) : Calls Try.prog 114 #[v, .int .i64 q] w (PutPost w (xs ++ numL q)) := by
  have hr := putL_rng h.rng q
  obtain ⟨a, cap, rfl, hd, _, _⟩ := h
  exact (sPut a xs.length cap xs q w hd hn).mono fun e w' ⟨v', h1, h2, h3⟩ => ⟨v', h1, h2.rv hr, h2, h3⟩
theorem sPutTV (v u : Value) (xs ys : List Int) (w : World) (h : RV w v xs) (k : RV w u ys) (hn : xs.length ≤ 2097152) (hm : ys.length ≤ 2097152) : Calls Try.prog 132 #[v, u] w (PutPost w (textL xs ys)) := by
  have hr := textL_rng h.rng k.rng
  obtain ⟨a, cap, rfl, hd, _, _⟩ := h
  obtain ⟨b, cap', rfl, hd', _, _⟩ := k
  exact (sPutT a b xs.length cap ys.length cap' xs ys w hd hd' hn hm).mono fun e w' ⟨v', h1, h2, h3⟩ => ⟨v', h1, h2.rv hr, h2, h3⟩

theorem cells4 {w w' : World} {g : Nat} {v0 v1 v2 v3 : Value} {t : TypeId} (h : w.heap[g]? = some (.cells #[v0, v1, v2, v3] t (0, 0))) (b : Below w.heap.size w w') :
    w'.heap[g]? = some (.cells #[v0, v1, v2, v3] t (0, 0)) ∧ w'.cell? ⟨g, 0, none⟩ = some v0 ∧ w'.cell? ⟨g, 1, none⟩ = some v1 ∧ w'.cell? ⟨g, 2, none⟩ = some v2 ∧ w'.cell? ⟨g, 3, none⟩ = some v3 := by
  have h' := below_blk b (Array.getElem?_eq_some_iff.1 h).1 h
  exact ⟨h', (at_block h' 0 _ rfl).1, (at_block h' 1 _ rfl).1, (at_block h' 2 _ rfl).1, (at_block h' 3 _ rfl).1⟩

set_option maxRecDepth 20000 in
set_option maxHeartbeats 4000000 in
theorem sOpL (v ov : Value) (xs : List Int) (o : DOp) (w : World) (h : RV w v xs) (ho : VOp w ov o) (hn : xs.length ≤ 1000000) (hk : o.key.length ≤ 20) (hv : o.val.length ≤ 20) :
    Calls Try.prog 127 #[v, ov] w (PutPost w (opL xs o)) := by
  have hE : ∀ w : World, ∀ o, Ext w (w.alloc o) := fun w o => World.grownBy_alloc _ _ _
  obtain ⟨kv, vv, rfl, rk, rv⟩ := ho
  have l1 := putL_le xs o.kind
  have l2 := textL_le (xs ++ numL o.kind) o.key
  have l3 := textL_le (textL (xs ++ numL o.kind) o.key) o.val
  obtain ⟨x1, hx1⟩ : ∃ x, x = xs ++ numL o.kind := ⟨_, rfl⟩
  obtain ⟨x2, hx2⟩ : ∃ x, x = textL x1 o.key := ⟨_, rfl⟩
  obtain ⟨x3, hx3⟩ : ∃ x, x = textL x2 o.val := ⟨_, rfl⟩
  have HL : Hid (opL xs o = x3 ++ numL o.n) := by unfold Hid; rw [hx3, hx2, hx1]; rfl
  rw [← hx1] at l1 l2 l3
  rw [← hx2] at l2 l3
  rw [← hx3] at l3
  have H1 : Hid (xs ++ numL o.kind = x1) := hx1.symm
  have H2 : Hid (textL x1 o.key = x2) := hx2.symm
  have H3 : Hid (textL x2 o.val = x3) := hx3.symm
  clear hx1 hx2 hx3
  go_enter Try.func127, Try.ntmps127
  go_wp2_with fail
  have P0 := heap_alloc_new w (.cells #[.int .i64 o.kind, kv, vv, .int .i64 o.n] 53 (0, 0))
  have X0 := hE w (.cells #[.int .i64 o.kind, kv, vv, .int .i64 o.n] 53 (0, 0))
  have B0 : Below w.heap.size w (w.alloc (.cells #[.int .i64 o.kind, kv, vv, .int .i64 o.n] 53 (0, 0))) := (Below.refl _ w).alloc (Nat.le_refl _) _
  generalize w.alloc (.cells #[.int .i64 o.kind, kv, vv, .int .i64 o.n] 53 (0, 0)) = W at P0 X0 B0 ⊢
  obtain ⟨Q0, c0, c1, c2, c3⟩ := cells4 P0 (Below.refl _ W)
  have e0 : W.drew.heap.size = W.heap.size := rfl
  have XD : Ext W W.drew := ext_drewN W 1
  go_region_held3 (fun w' => w'.cell? ⟨w.heap.size, 0, none⟩ = some (.int .i64 o.kind) ∧ w'.cell? ⟨w.heap.size, 1, none⟩ = some kv ∧ w'.cell? ⟨w.heap.size, 2, none⟩ = some vv ∧ w'.cell? ⟨w.heap.size, 3, none⟩ = some (.int .i64 o.n)) (simp [*])
    (first
      | (go_at_call 114; refine (sPutV _ x3 o.n _ r3 (by omega)).mono ?_; rintro e w4 ⟨v4, rfl, r4, o4, b4⟩; obtain ⟨Q4, c0, c1, c2, c3⟩ := cells4 Q3 b4)
      | (go_at_call 132; refine (sPutTV _ _ x2 o.val _ r2 (rv.ext (((X0.tr XD).tr (ext_below b1)).tr (ext_below b2))) (by omega) (by omega)).mono ?_; rw [H3.out]; rintro e w3 ⟨v3, rfl, r3, o3, b3⟩; obtain ⟨Q3, c0, c1, c2, c3⟩ := cells4 Q2 b3)
      | (go_at_call 132; refine (sPutTV _ _ x1 o.key _ r1 (rk.ext ((X0.tr XD).tr (ext_below b1))) (by omega) (by omega)).mono ?_; rw [H2.out]; rintro e w2 ⟨v2, rfl, r2, o2, b2⟩; obtain ⟨Q2, c0, c1, c2, c3⟩ := cells4 Q1 b2)
      | (go_at_call 114; refine (sPutV _ xs o.kind _ (h.ext (X0.tr XD)) (by omega)).mono ?_; rw [H1.out]; rintro e w1 ⟨v1, rfl, r1, o1, b1⟩; obtain ⟨Q1, c0, c1, c2, c3⟩ := cells4 (w := W.drew) Q0 b1))
  all_goals
    go_wp2
    go_ret
    have s0 := B0.size
    have s1 := b1.size
    have s2 := b2.size
    have s3 := b3.size
    refine ⟨_, rfl, ?_, ?_, ?_⟩
    · rw [HL.out]; exact r4
    · rw [HL.out]; exact ow_base o4 (by omega)
    · exact ((((below_drewN B0 1).trans (b1.mono (by omega))).trans (b2.mono (by omega))).trans (b3.mono (by omega))).trans (b4.mono (by omega))

end Go.Proofs.Ytplgnohncdfgcal
