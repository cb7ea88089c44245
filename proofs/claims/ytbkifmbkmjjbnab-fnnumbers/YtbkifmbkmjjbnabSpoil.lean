/- The draws' l1spoil: a text with a byte taken off, put behind, set, cut out or turned. -/
import Derived.Test.YtbkifmbkmjjbnabDraw0
import Derived.Test.YtbkifmbkmjjbnabConv
import Derived.Test.YtbkifmbkmjjbnabGet0
import Derived.Deep.RegionLaw
namespace Go.Proofs.Ytbkifmbkmjjbnab
open Go.RowKit

/-- 'append(out, ys...)' of bytes, as one step of a region that draws its order. -/
theorem step_append_bytes {P : Program} {ops : Array Oper} {o : Oper} {a : Act} {w : World} {K : Act → World → Prop} {Q : Exit → Act → World → Prop} {E : Prop}
    (hg : o.guard = none) (s x : Operand) (t : TypeId) (ho : o.op = Op.call { callee := Callee.builtin Builtin.append, args := #[s, x], argTypes := #[t, t] })
    (base : Nat) (hinfo : (P.info? 5).map (fun i => (i.zero, i.size, i.bytes)) = some (some (.int .u8 0), 1, 1)) (ht : P.underlying t = some (.slice 5))
    (v : Value) (xs : List Int) (hs : a.eval s = v) (hown : Ow w base v xs)
    (ao : Option Addr) (m c : Nat) (ys : List Int) (hx : a.eval x = .slice ao m c) (hr : Rd w ao m ys)
    (hb : xs.length + m ≤ 4294967296) (hbase : base ≤ w.heap.size)
    (h : ∀ v' w', Ow w' base v' (xs ++ ys) → w.grownBy w' v.ownBlock → K (a.put o.dst v') w') :
    if Region.wanted o (yielded ops a.tmps) = true then Oper.wp P o a w K Q else E := by
  have hw : Region.wanted o (yielded ops a.tmps) = true := by simp [Region.wanted, hg]
  rw [if_pos hw]
  obtain ⟨i0, hi, hz0, hz1, hz2⟩ := info_parts hinfo
  have hl := hr.len
  cases ao with
  | none =>
    have hm : m = 0 := by
      rcases Nat.eq_zero_or_pos m with h0 | h0
      · exact h0
      · obtain ⟨b, o, e, _⟩ := hr.pos h0
        cases e
    subst hm
    obtain rfl : ys = [] := List.eq_nil_of_length_eq_zero hl
    have hrun := run_append_nothing (P := P) w base t o.type i0 ht hi v xs.length c (B8 xs) hown
    unfold Oper.wp
    simp only [execOp, ho, resolve, invoke, builtin, Sem.run_bind, Sem.run_pure, Result.andThen_ok, List.map_toArray, List.map_cons, List.map_nil, hs, hx, hrun]
    exact h v w (by simpa using hown) (World.grownBy.refl _ _)
  | some ad =>
    have hnews : ∀ j u, (B8 ys)[j]? = some u → w.cell? (ad.add j) = some u := by
      intro j u hu
      have hj : j < ys.length := by
        have := (List.getElem?_eq_some_iff.1 hu).1
        simpa using this
      obtain ⟨b, o', e, hbl, hc⟩ := hr.pos (by omega)
      simp only [Option.some.injEq] at e
      subst e
      rw [Addr.add_lit, hc j (by omega)]
      simpa [List.getD, hj] using hu
    have hlen : (xs ++ ys).length = xs.length + m := by simp [hl]
    refine wp_append_own (P := P) w s x t ho base 5 i0 (.int .u8 0) 1 1 ht hi hz0 hz1 hz2 rfl (by decide) v xs.length (B8 xs) hs hown ad m c (B8 ys) hx (by simp [hl]) hnews
      (ints_oneCell _ _) (by unfold maxLen; omega) (by omega) hbase (fun v' w' h1 h2 _ => h v' w' ?_ h2)
    show w'.ownsRow base 5 1 v' (xs ++ ys).length (B8 (xs ++ ys))
    rw [hlen, B8, List.map_append]
    exact h1

/-- A text that was spoilt. -/
def SpoilPost (w : World) (B g : Nat) (e : Ending) (w' : World) : Prop :=
  ∃ v ys, e = .returned v ∧ ys.length ≤ 40 ∧ (∀ x ∈ ys, 0 ≤ x ∧ x ≤ 255) ∧ Ow w' w.heap.size v ys ∧ Cur w' B g ∧ w.grownBy w' (some g)

theorem ow_cut {w : World} {base g n cap : Nat} {xs : List Int} (ho : Ow w base (.slice (some ⟨g, 0, none⟩) n cap) xs) (k : Nat) (hk : k ≤ xs.length) : Ow w base (.slice (some ⟨g, 0, none⟩) k cap) (xs.take k) := by
  have hl : (xs.take k).length = k := by simp; omega
  show w.ownsRow base 5 1 _ (xs.take k).length (B8 (xs.take k))
  rw [hl]
  refine ⟨by simp; omega, ?_⟩
  rcases ho.2 with ⟨h, _⟩ | ⟨g', cap', cur, h, hb, hg, hnc, hcm, hcs, htake⟩
  · simp at h
  · simp only [Value.slice.injEq, Option.some.injEq, Addr.mk.injEq, and_true] at h
    obtain ⟨rfl, rfl, rfl⟩ := h
    refine .inr ⟨g, cap, cur, rfl, hb, hg, by omega, hcm, hcs, ?_⟩
    rw [B8, List.map_take, ← B8, ← htake, List.take_take]
    congr 1
    omega

theorem set_rng {xs : List Int} (h : ∀ x ∈ xs, 0 ≤ x ∧ x ≤ 255) (j : Nat) (u : Int) (h0 : 0 ≤ u) (h1 : u ≤ 255) : ∀ x ∈ xs.set j u, 0 ≤ x ∧ x ≤ 255 := fun x hx => by
  rcases List.mem_or_eq_of_mem_set hx with hx | rfl
  · exact h x hx
  · exact ⟨h0, h1⟩

theorem B8_set (xs : List Int) (j : Nat) (u : Int) : (B8 xs).set j (.int .u8 u) = B8 (xs.set j u) := by
  rw [B8, B8, List.map_set]

theorem ow_pos {w : World} {base : Nat} {v : Value} {xs : List Int} (h : Ow w base v xs) (hp : 0 < xs.length) : ∃ g cap, v = .slice (some ⟨g, 0, none⟩) xs.length cap ∧ base ≤ g ∧ g < w.heap.size ∧ xs.length ≤ cap ∧ cap ≤ 9223372036854775807 := by
  rcases h.2 with ⟨_, h0⟩ | ⟨g, cap, cur, hv, hb, hg, hnc, hcm, _⟩
  · omega
  · exact ⟨g, cap, hv, hb, (Array.getElem?_eq_some_iff.1 hg).1, hnc, by unfold maxLen at hcm; omega⟩

theorem ow_store {w : World} {base g n cap : Nat} {xs : List Int} (h : Ow w base (.slice (some ⟨g, 0, none⟩) n cap) xs) (hn : n = xs.length) (j : Nat) (u : Int) :
    Ow (w.setCell ⟨g, j, none⟩ (.int .u8 u)) base (.slice (some ⟨g, 0, none⟩) n cap) (xs.set j u) ∧ w.grownBy (w.setCell ⟨g, j, none⟩ (.int .u8 u)) (some g) := by
  subst hn
  have R := World.ownsRow.stored h j (.int .u8 u)
  rw [B8_set] at R
  refine ⟨?_, R.2⟩
  show World.ownsRow _ base 5 1 _ (xs.set j u).length _
  rw [List.length_set]
  exact R.1

theorem grown_at {w w1 w' : World} {g k : Nat} (h : w.grownBy w1 (some g)) (hk : w.heap.size ≤ k) (r : w1.grownBy w' (some k)) : w.grownBy w' (some g) :=
  ⟨r.os.trans h.os, r.tape.trans h.tape, r.output.trans h.output, Nat.le_trans h.size r.size, fun i hi e => (r.block i (Nat.lt_of_lt_of_le hi h.size) (fun e' => by simp only [Option.some.injEq] at e'; omega)).trans (h.block i hi e)⟩

theorem Cur.at {w w' : World} {B g k : Nat} (h : Cur w B g) (hk : g < k) (r : w.grownBy w' (some k)) : Cur w' B g := by
  obtain ⟨a, n, cap, xs, i, hh, hb, h1, h2, h3, h4, h5⟩ := h
  refine ⟨a, n, cap, xs, i, hh, by rw [r.block g (Array.getElem?_eq_some_iff.1 hb).1 (by simp; omega)]; exact hb, h1, h2, h3, rd_row h4 r (Nat.le_trans h3 (Nat.le_of_lt hk)) h5, h5⟩

set_option maxHeartbeats 4000000 in
theorem spoil_none (B g : Nat) (a0 : Option Addr) (cap0 : Nat) (w : World) (hc : Cur w B g) (hgs : g < w.heap.size) :
    Calls Try.prog 21 #[.pointer (some ⟨g, 0, none⟩), .slice a0 0 cap0] w (SpoilPost w B g) := by
  have hE : ∀ w : World, ∀ o, Ext w (w.alloc o) := fun w o => World.grownBy_alloc _ _ _
  go_enter Try.func21, Try.ntmps21
  go_wp2_with (first | (at_builtin; refine wpList_append_bytes _ rfl (.tmp 7) (.tmp 8) 22 rfl w.heap.size info5 Try.underlying22 _ [] rfl (ow_empty w) a0 0 cap0 [] rfl (Rd.nil _ _) (by simp) (by simp) ?_; intro v1 w1 ho1 hg1; obtain ⟨a1, cap1, rfl, hd1⟩ := ho1.rd (fun x hx => by cases hx)) | fail)
  have hc1 : Cur w1 B g := (hc.ext (hE _ _)).row (ow_empty w) hgs hg1
  have hg1' : w.grownBy w1 (some g) := grown_own (ext_row (hE _ _) _) (ow_empty w) hg1
  go_wp2_with fail
  refine (byteC B g w1 hc1).mono ?_
  rintro e w2 ⟨x, hx0, hx1, rfl, hc2, hg2⟩
  have ho2 : Ow w2 w.heap.size _ [] := ho1.row hg2 hgs
  have hg3 := grown_tr hg1' hg2
  have hs3 := hg3.size
  go_wp2_with (at_builtin; refine wpList_append_bytes _ rfl (.tmp 13) (.tmp 17) 22 rfl w.heap.size info5 Try.underlying22 _ [] rfl (ho2.alloc _) (some ⟨w2.heap.size, 0, none⟩) 1 1 [x] rfl (rd_one w2 x hx0 hx1) (by simp) (by simp; omega) ?_; intro v3 w3 ho3 hg4)
  go_ret
  have hr : ∀ y ∈ ([] : List Int) ++ [x], 0 ≤ y ∧ y ≤ 255 := snoc_rng (fun y hy => by cases hy) hx0 hx1
  exact ⟨_, [] ++ [x], rfl, by simp, hr, ho3, (hc2.ext (hE _ _)).row (ho2.alloc _) hgs hg4, grown_own (grown_tr hg3 (ext_row (hE _ _) _)) (ho2.alloc _) hg4⟩

end Go.Proofs.Ytbkifmbkmjjbnab
