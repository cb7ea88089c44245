
/- Checks: what the laws' helpers do to one; what the walk of a law carries. -/
import Derived.Test.YtmokgfbggjcedaaCk2
namespace Go.Proofs.Ytmokgfbggjcedaa
open Go.RowKit

theorem toChkO (v : Value) (C : DChk) (w : World) (h : VChk w v C) (hn : C.name.length ≤ 1048576) :
    Calls Try.prog 10 #[v] w fun e w' => ∃ a c, e = .returned (.agg #[.slice a C.name.length c, .int .i64 C.ttl, .int .i64 C.most, .int .i64 C.st, .int .i64 C.age, .int .i64 C.fails]) ∧ OwB w' w.heap.size (.slice a C.name.length c) C.name ∧ Below w.heap.size w w' :=
  (toChk v C w h hn).mono fun e w' ⟨a, c, h1, h2, h3⟩ => ⟨a, c, h1, ⟨h2, by obtain ⟨_, _, ho⟩ := h; exact rv_rngK ho⟩, h3⟩

set_option maxHeartbeats 1000000 in
theorem markChk (base : Nat) (P : DChk) (v : Value) (xs : List Int) (k : Int) (w : World) (h : OwB w base v xs) (hn : xs.length ≤ 1048576) (hk0 : 0 ≤ k) (hk1 : k ≤ 100000000) :
    Calls Try.prog 18 #[.agg #[v, .int .i64 P.ttl, .int .i64 P.most, .int .i64 P.st, .int .i64 P.age, .int .i64 P.fails], .int .i64 k] w fun e w' => e = .returned (.int .i64 (k + xs.length)) ∧ OwB w' base v (marks k xs.length) ∧ w.grownBy w' v.ownBlock := by
  obtain ⟨a, c, rfl⟩ := h.shape
  have HO : Hid (OwB w base (.slice a xs.length c) xs) := h
  have HN : Hid (xs.length ≤ 1048576) := hn
  obtain ⟨n, hnn⟩ : ∃ n, n = xs.length := ⟨_, rfl⟩
  rw [← hnn] at HO HN ⊢
  have HNN : Hid (n = xs.length) := hnn
  clear h hn hnn
  go_enter Try.func18, Try.ntmps18
  go_wp2_with fail
  refine (markV base _ xs k _ (HO.out.ext (World.grownBy_alloc _ _ _)).1 (by rw [← HNN.out]; exact Nat.le_trans HN.out (by omega)) hk0 (by omega)).mono ?_
  rintro e w1 ⟨rfl, o1a, g1⟩
  have o1 : OwB w1 base _ (marks k xs.length) := ⟨o1a, marks_rng _ _⟩
  clear o1a
  rw [← HNN.out] at o1 ⊢
  go_wp2
  go_ret
  exact ⟨rfl, o1, (World.grownBy_alloc _ _ _).trans g1⟩

set_option maxHeartbeats 1000000 in
theorem heldChk (base : Nat) (P : DChk) (v : Value) (n : Nat) (k : Int) (w : World) (h : OwB w base v (marks k n)) (hn : n ≤ 1048576) (hk0 : 0 ≤ k) (hk1 : k ≤ 100000000) :
    Calls Try.prog 19 #[.agg #[v, .int .i64 P.ttl, .int .i64 P.most, .int .i64 P.st, .int .i64 P.age, .int .i64 P.fails], .int .i64 k] w fun e w' => e = .returned (.int .i64 (k + n)) ∧ Below w.heap.size w w' := by
  obtain ⟨a, c, rfl⟩ := h.shape
  rw [marks_len] at h ⊢
  have HO : Hid (OwB w base (.slice a n c) (marks k n)) := h
  have HN : Hid (n ≤ 1048576) := hn
  have hn1 : (n : Int) ≤ 1048576 := by omega
  clear h
  go_enter Try.func19, Try.ntmps19
  go_wp2_with fail
  refine (heldV _ n k _ (HO.out.ext (World.grownBy_alloc _ _ _)).rv (Nat.le_trans HN.out (by omega)) hk0 (by omega)).mono ?_
  rintro e w1 ⟨rfl, rfl⟩
  have h0 : ¬ (k + (n : Int) < 0) := by omega
  go_wp2
  go_ret
  exact ⟨rfl, (Below.refl _ w).alloc (Nat.le_refl _) _⟩

/-- What is carried through the walk of a law on probers: the argument's box, the specification's answer (of the world Ws), the program's argument and its answer. -/
structure LK (w Ws W : World) (D R : DChk) (av sv xv gv : Value) (s x g base : Nat) (G : List Int) : Prop where
  low : Below w.heap.size w W
  sB : Below Ws.heap.size Ws W
  sV : RV Ws sv R.name
  a : W.heap[w.heap.size]? = some (.cells #[av, .int .i64 D.ttl, .int .i64 D.most, .int .i64 D.st, .int .i64 D.age, .int .i64 D.fails] 24 (0, 0))
  s : W.heap[s]? = some (.cells #[sv, .int .i64 R.ttl, .int .i64 R.most, .int .i64 R.st, .int .i64 R.age, .int .i64 R.fails] 27 (0, 0))
  x : W.heap[x]? = some (.cells #[xv, .int .i64 D.ttl, .int .i64 D.most, .int .i64 D.st, .int .i64 D.age, .int .i64 D.fails] 27 (0, 0))
  g : W.heap[g]? = some (.cells #[gv, .int .i64 R.ttl, .int .i64 R.most, .int .i64 R.st, .int .i64 R.age, .int .i64 R.fails] 27 (0, 0))
  gO : OwB W base gv G
  bs : Ws.heap.size ≤ base
  ws : w.heap.size ≤ Ws.heap.size
variable {w Ws W W' : World} {D R : DChk} {av sv xv gv : Value} {s x g base : Nat} {G G' : List Int}
theorem LK.grow (h : LK w Ws W D R av sv xv gv s x g base G) (b : Below W.heap.size W W') : LK w Ws W' D R av sv xv gv s x g base G :=
  ⟨h.low.trans (b.mono h.low.size), h.sB.trans (b.mono h.sB.size), h.sV, ext_blk (ext_below b) h.a, ext_blk (ext_below b) h.s, ext_blk (ext_below b) h.x, ext_blk (ext_below b) h.g, h.gO.ext (ext_below b), h.bs, h.ws⟩
theorem LK.turn {row : Value} {rb : Nat} {T : List Int} (h : LK w Ws W D R av sv xv gv s x g base G) (o : OwB W rb row T) (hb : Ws.heap.size ≤ rb) (hg : W.grownBy W' row.ownBlock) (hG : OwB W' base gv G') : LK w Ws W' D R av sv xv gv s x g base G' := by
  have kp : ∀ (b : Nat) (cs : Array Value) (t : TypeId), W.heap[b]? = some (.cells cs t (0, 0)) → t ≠ 5 → W'.heap[b]? = some (.cells cs t (0, 0)) := fun b cs t hbb ht => (hg.block b (Array.getElem?_eq_some_iff.1 hbb).1 (ne_rowB o hbb ht)).trans hbb
  have hr : ∀ k, row.ownBlock = some k → rb ≤ k := fun k hk => (o.lt k hk).1
  exact ⟨h.low.grown hg h.low.size (fun k hk => Nat.le_trans (Nat.le_trans h.ws hb) (hr k hk)), h.sB.grown hg h.sB.size (fun k hk => Nat.le_trans hb (hr k hk)), h.sV, kp _ _ _ h.a (by decide), kp _ _ _ h.s (by decide), kp _ _ _ h.x (by decide), kp _ _ _ h.g (by decide), hG, h.bs, h.ws⟩
theorem LK.sW (h : LK w Ws W D R av sv xv gv s x g base G) : VChk W (.agg #[sv, .int .i64 R.ttl, .int .i64 R.most, .int .i64 R.st, .int .i64 R.age, .int .i64 R.fails]) R := ⟨sv, rfl, h.sV.ext (ext_below h.sB)⟩
theorem cells6_kept {w w' : World} {g : Nat} {v0 v1 v2 v3 v4 v5 : Value} (h : w.cell? ⟨g, 0, none⟩ = some v0 ∧ w.cell? ⟨g, 1, none⟩ = some v1 ∧ w.cell? ⟨g, 2, none⟩ = some v2 ∧ w.cell? ⟨g, 3, none⟩ = some v3 ∧ w.cell? ⟨g, 4, none⟩ = some v4 ∧ w.cell? ⟨g, 5, none⟩ = some v5) (e : Ext w w') : w'.cell? ⟨g, 0, none⟩ = some v0 ∧ w'.cell? ⟨g, 1, none⟩ = some v1 ∧ w'.cell? ⟨g, 2, none⟩ = some v2 ∧ w'.cell? ⟨g, 3, none⟩ = some v3 ∧ w'.cell? ⟨g, 4, none⟩ = some v4 ∧ w'.cell? ⟨g, 5, none⟩ = some v5 := ⟨World.grownBy.cell e h.1 (by simp), World.grownBy.cell e h.2.1 (by simp), World.grownBy.cell e h.2.2.1 (by simp), World.grownBy.cell e h.2.2.2.1 (by simp), World.grownBy.cell e h.2.2.2.2.1 (by simp), World.grownBy.cell e h.2.2.2.2.2 (by simp)⟩

end Go.Proofs.Ytmokgfbggjcedaa
