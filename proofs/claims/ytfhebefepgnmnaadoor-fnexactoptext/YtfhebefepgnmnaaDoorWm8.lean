/- The contracts of the program's functions in the table of operations that call others. -/
import Derived.Test.YtfhebefepgnmnaaDoorWn8
import Derived.Deep.RegionLaw
namespace Go.Proofs.YtfhebefepgnmnaaDoor
open Go.RowKit

/-- An append to a row of one's own, as one step of a region that draws its order. -/
theorem step_append_own {P : Program} {ops : Array Oper} {o : Oper} {a : Act} {w : World} {K : Act → World → Prop} {Q : Exit → Act → World → Prop} {E : Prop}
    (hgd : o.guard = none) (s x : Operand) (t : TypeId) (ho : o.op = Op.call { callee := Callee.builtin Builtin.append, args := #[s, x], argTypes := #[t, t] })
    (base : Nat) (e : TypeId) (i : TypeInfo) (z : Value) (size bytes : Nat) (ht : P.underlying t = some (.slice e)) (hi : P.info? e = some i) (hz : i.zero = some z)
    (hsize : i.size = size) (hby : i.bytes = bytes) (hzs : z.cells.size = size) (hsz : 0 < size)
    (v : Value) (n : Nat) (xs : List Value) (hs : a.eval s = v) (hown : w.ownsRow base e size v n xs)
    (ad : Addr) (m c : Nat) (news : List Value) (hx : a.eval x = .slice (some ad) m c) (hl : news.length = m * size) (hnews : ∀ j u, news[j]? = some u → w.cell? (ad.add j) = some u) (h1 : ∀ u ∈ news, u.oneCell' = true)
    (h63 : n + m ≤ maxLen) (hbytes : (n + m) * bytes ≤ 140737488355328) (hbase : base ≤ w.heap.size)
    (h : ∀ v' w', w'.ownsRow base e size v' (n + m) (xs ++ news) → w.grownBy w' v.ownBlock → K (a.put o.dst v') w') :
    if Region.wanted o (yielded ops a.tmps) = true then Oper.wp P o a w K Q else E := by
  have hw : Region.wanted o (yielded ops a.tmps) = true := by simp [Region.wanted, hgd]
  rw [if_pos hw]
  exact wp_append_own w s x t ho base e i z size bytes ht hi hz hsize hby hzs hsz v n xs hs hown ad m c news hx hl hnews h1 h63 hbytes hbase fun v' w' h2 h3 _ => h v' w' h2 h3

theorem owk_base {w : World} {base base' : Nat} {v : Value} {n : Nat} {cs : List Value} (h : OwK w base v n cs) (hb : base' ≤ base) : OwK w base' v n cs := by
  refine ⟨h.1, ?_⟩
  rcases h.2 with h2 | ⟨g, cap, cur, hv, hg, r⟩
  · exact .inl h2
  · exact .inr ⟨g, cap, cur, hv, Nat.le_trans hb hg, r⟩
theorem owk_ext {w w' : World} {base : Nat} {v : Value} {n : Nat} {cs : List Value} (h : OwK w base v n cs) (x : Ext w w') : OwK w' base v n cs := h.kept x (by cases hv : v.ownBlock <;> simp)

theorem lit_cells4 (w : World) (a b c d : Value) (t : TypeId) : ∀ (j : Nat) u, [a, b, c, d][j]? = some u → (w.alloc (.cells #[a, b, c, d] t)).cell? ((⟨w.heap.size, 0, none⟩ : Addr).add j) = some u := by
  intro j u hj
  rw [Addr.add_lit, Nat.zero_add, World.cell?_alloc_new]
  simpa using hj

set_option maxHeartbeats 4000000 in
theorem wantKeyVal (k n : Int) (ka va : Option Addr) (kl kc vl vc : Nat) (b : Nat) (w : World) (hb : ∃ t, w.heap[b]? = some (.cells #[fnKey] t (0, 0))) :
    Calls Tryd.prog 38 #[.agg #[.int .i64 k, .slice ka kl kc, .slice va vl vc, .int .i64 n], .pointer (some ⟨b, 0, none⟩)] w fun e w' => ∃ v, e = .returned v ∧ OwK w' w.heap.size v 2 [.int .i64 0, .int .i64 0, .slice ka kl kc, .int .i64 0, .int .i64 1, .int .i64 0, .slice va vl vc, .int .i64 0] ∧ Below w.heap.size w w' := by
  obtain ⟨i0, hi, hz0, hz1, hz2⟩ := info_parts info_T
  have hE : ∀ W : World, ∀ o, Ext W (W.alloc o) := fun W o => World.grownBy_alloc _ _ _
  obtain ⟨tb, hb⟩ := hb
  obtain ⟨V, hV⟩ : ∃ V, V = w.alloc (.cells #[.int .i64 k, .slice ka kl kc, .slice va vl vc, .int .i64 n] 28) := ⟨_, rfl⟩
  have q : V.heap[w.heap.size]? = some (.cells #[.int .i64 k, .slice ka kl kc, .slice va vl vc, .int .i64 n] 28 (0, 0)) := by rw [hV]; exact heap_alloc_new w _
  have bV : Below w.heap.size w V := by rw [hV]; exact (Below.refl _ w).alloc (Nat.le_refl _) _
  have qb : V.heap[b]? = some (.cells #[fnKey] tb (0, 0)) := below_blk bV (Array.getElem?_eq_some_iff.1 hb).1 hb
  have sV : Hid (w.heap.size ≤ V.heap.size) := bV.size
  have HC : Hid (∀ W, Below V.drew.heap.size V.drew W → (W.cell? ⟨w.heap.size, 0, none⟩ = some (.int .i64 k) ∧ W.cell? ⟨w.heap.size, 1, none⟩ = some (.slice ka kl kc) ∧ W.cell? ⟨w.heap.size, 2, none⟩ = some (.slice va vl vc) ∧ W.cell? ⟨w.heap.size, 3, none⟩ = some (.int .i64 n)) ∧ W.cell? ⟨b, 0, none⟩ = some fnKey ∧ Below w.heap.size w W) := fun W bb => by
    have h1 : W.heap[w.heap.size]? = _ := below_blk bb (Array.getElem?_eq_some_iff.1 q).1 q
    have h2 : W.heap[b]? = _ := below_blk bb (Array.getElem?_eq_some_iff.1 qb).1 qb
    exact ⟨⟨(at_block h1 0 _ rfl).1, (at_block h1 1 _ rfl).1, (at_block h1 2 _ rfl).1, (at_block h1 3 _ rfl).1⟩, (at_block h2 0 _ rfl).1, bV.drew.trans (bb.mono sV.out)⟩
  obtain ⟨⟨q0, q1, q2, q3⟩, q4, _⟩ := HC.out V.drew (Below.refl _ _)
  rw [show fnKey = .func (Fn.func 32) #[] #[] from rfl] at q4
  have q0' : V.cell? ⟨w.heap.size, 0, none⟩ = some (.int .i64 k) := q0
  have q1' : V.cell? ⟨w.heap.size, 1, none⟩ = some (.slice ka kl kc) := q1
  have q2' : V.cell? ⟨w.heap.size, 2, none⟩ = some (.slice va vl vc) := q2
  have q3' : V.cell? ⟨w.heap.size, 3, none⟩ = some (.int .i64 n) := q3
  have q4' : V.cell? ⟨b, 0, none⟩ = some (.func (Fn.func 32) #[] #[]) := q4
  clear q0 q1 q2 q3 q4
  have HV := Lib.hid hV
  clear hV q qb hb
  go_enter Tryd.func38, Tryd.ntmps38
  go_upto_region 1 with fail
  rw [← HV.out]
  clear HV
  go_region_law (first
    | (refine step_append_own rfl (.tmp 6) (.tmp 10) 44 rfl w.heap.size 52 i0 zTok 4 48 Tryd.underlying44 hi hz0 hz1 hz2 rfl (by decide) v1 1 [.int .i64 0, .int .i64 0, .slice ka kl kc, .int .i64 0] (by first | rfl | simp [Act.eval, Act.put]) (owk_ext O2 (hE _ _)) ⟨w2.heap.size, 0, none⟩ 1 1 [.int .i64 1, .int .i64 0, .slice va vl vc, .int .i64 0] (by first | rfl | simp [Act.eval, Act.put]) rfl (lit_cells4 w2 _ _ _ _ _) (by simp [Value.oneCell']) (by unfold maxLen; omega) (by omega) (by have := B2.size; simp; omega) ?_; intro v3 w3 o3 g3)
    | (go_simp; go_at_call 39; refine (valTokT va vl vc _).mono ?_; rintro e w2 ⟨rfl, b2⟩; have B2 := B1.trans (b2.mono B1.size); have O2 := owk_ext (owk_base o1 sV.out) (ext_below b2))
    | (go_simp; go_at_call 32; refine (wantKey k n ka va kl kc vl vc _).mono ?_; rintro e w1 ⟨v1, rfl, o1, b1⟩; obtain ⟨⟨c0, c1, c2, c3⟩, c4, B1⟩ := HC.out _ b1))
  all_goals
    go_wp2
    go_ret
    exact ⟨v3, rfl, o3, (B2.alloc B2.size _).grown g3 (by have := B2.size; simp; omega) (fun k hk => (O2.lt k hk).1)⟩

end Go.Proofs.YtfhebefepgnmnaaDoor
