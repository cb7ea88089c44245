
/- The cursor over the bytes of a draw: a byte is read from it, numbers below others are drawn; nothing but the cursor itself is written. -/
import Derived.Test.YtihlinhfnlfdmaaInf
import Derived.Test.YtihlinhfnlfdmaaVal0
namespace Go.Proofs.Ytihlinhfnlfdmaa
open Go.RowKit

/-- A cursor lies in block g: its bytes came in, below block B; its place is in them. -/
def Cur (w : World) (B g : Nat) : Prop := ∃ (a : Option Addr) (n cap : Nat) (xs : List Int) (i : Nat) (h : Int),
  w.heap[g]? = some (.cells #[.slice a n cap, .int .i64 i, .int .i64 h] 47 (0, 0)) ∧ i ≤ n ∧ n ≤ maxLen ∧ B ≤ g ∧ Rd w a n xs ∧ (∀ ad, a = some ad → n = 0 ∨ ad.block < B)

theorem grown_tr {a b c : World} {r : Option Nat} (h : a.grownBy b r) (k : b.grownBy c r) : a.grownBy c r :=
  ⟨k.os.trans h.os, k.tape.trans h.tape, k.output.trans h.output, Nat.le_trans h.size k.size, fun i hi e => (k.block i (Nat.lt_of_lt_of_le hi h.size) e).trans (h.block i hi e)⟩
theorem ext_row {a b : World} (h : Ext a b) (r : Option Nat) : a.grownBy b r := ⟨h.os, h.tape, h.output, h.size, fun i hi _ => h.block i hi (by simp)⟩

theorem rd_row {w w' : World} {a : Option Addr} {n B g : Nat} {xs : List Int} (h : Rd w a n xs) (hg : w.grownBy w' (some g)) (hB : B ≤ g) (lo : ∀ ad, a = some ad → n = 0 ∨ ad.block < B) : Rd w' a n xs :=
  ⟨h.len, fun i hi => by
    obtain ⟨b, o, ha, hc⟩ := h.cell i hi
    have := lo _ ha
    simp only at this
    exact ⟨b, o, ha, hg.cell hc (by simp; omega)⟩, h.rng⟩

/-- A cursor stays one while memory grows elsewhere. -/
theorem Cur.ext {w w' : World} {B g : Nat} (h : Cur w B g) (k : Ext w w') : Cur w' B g := by
  obtain ⟨a, n, cap, xs, i, hh, hb, h1, h2, h3, h4, h5⟩ := h
  exact ⟨a, n, cap, xs, i, hh, by rw [k.block g (Array.getElem?_eq_some_iff.1 hb).1 (by simp)]; exact hb, h1, h2, h3, h4.grown k, h5⟩
theorem Cur.row {w w' : World} {B g : Nat} {v : Value} {base : Nat} {xs : List Int} (h : Cur w B g) (o : Ow w base v xs) (hg : g < base) (k : w.grownBy w' v.ownBlock) : Cur w' B g := by
  obtain ⟨a, n, cap, xs, i, hh, hb, h1, h2, h3, h4, h5⟩ := h
  have hne : some g ≠ v.ownBlock := fun e => by have := (o.lt g e.symm).1; omega
  refine ⟨a, n, cap, xs, i, hh, by rw [k.block g (Array.getElem?_eq_some_iff.1 hb).1 hne]; exact hb, h1, h2, h3, ?_, h5⟩
  refine ⟨h4.len, fun j hj => ?_, h4.rng⟩
  obtain ⟨b, o', ha, hc⟩ := h4.cell j hj
  have hb' := h5 _ ha
  refine ⟨b, o', ha, k.cell hc (fun e => ?_)⟩
  have := (o.lt b e.symm).1
  simp only at hb'
  omega

theorem and255 (n : Int) : bits .and .i64 n 255 = n % 256 := by
  have h255 : (BitVec.ofInt 64 255).toNat = 2 ^ 8 - 1 := by decide
  have key : (BitVec.ofInt 64 n &&& BitVec.ofInt 64 255).toNat = (n % ((2 ^ 64 : Nat) : Int)).toNat % 2 ^ 8 := by
    rw [BitVec.toNat_and, BitVec.toNat_ofInt, h255, Nat.and_two_pow_sub_one_eq_mod]
  show IntKind.i64.wrap ((BitVec.ofInt 64 n &&& BitVec.ofInt 64 255).toNat : Nat) = n % 256
  rw [key, IntKind.wrap_i64]
  omega

/-- The three cells of a cursor. -/
theorem cur_cells {w : World} {g : Nat} {s : Value} {i h : Int} (hb : w.heap[g]? = some (.cells #[s, .int .i64 i, .int .i64 h] 47 (0, 0))) :
    w.cell? ⟨g, 0, none⟩ = some s ∧ w.cell? ⟨g, 1, none⟩ = some (.int .i64 i) ∧ w.cell? ⟨g, 2, none⟩ = some (.int .i64 h) ∧ w.frozen? ⟨g, 1, none⟩ = false ∧ w.frozen? ⟨g, 2, none⟩ = false := by
  refine ⟨?_, ?_, ?_, frozen_of_row w g 1 _ _ hb, frozen_of_row w g 2 _ _ hb⟩
  · rw [cell_of_row w g 0 _ _ (0, 0) hb]; rfl
  · rw [cell_of_row w g 1 _ _ (0, 0) hb]; rfl
  · rw [cell_of_row w g 2 _ _ (0, 0) hb]; rfl

theorem cur_set {w : World} {g j : Nat} {cur : Array Value} (u : Value) (hb : w.heap[g]? = some (.cells cur 47 (0, 0))) :
    (w.setCell ⟨g, j, none⟩ u).heap[g]? = some (.cells (cur.setIfInBounds j u) 47 (0, 0)) ∧ w.grownBy (w.setCell ⟨g, j, none⟩ u) (some g) :=
  ⟨heap_setCell_same w g j cur _ u hb, ⟨rfl, rfl, rfl, by simp, fun k _ hk => heap_setCell_other w ⟨g, j, none⟩ k u (fun e => hk (by simp [e]))⟩⟩

set_option maxHeartbeats 2000000 in
theorem byteC (B g : Nat) (w : World) (hc : Cur w B g) :
    Calls Try.prog 31 #[.pointer (some ⟨g, 0, none⟩)] w fun e w' => ∃ x : Int, 0 ≤ x ∧ x ≤ 255 ∧ e = .returned (.int .i64 x) ∧ Cur w' B g ∧ w.grownBy w' (some g) := by
  obtain ⟨a, n, cap, xs, i, h, hb, h1, h2, h3, h4, h5⟩ := hc
  obtain ⟨c0, c1, c2, f1, f2⟩ := cur_cells hb
  have e1 := and255
  have hml : n ≤ 9223372036854775807 := by unfold maxLen at h2; omega
  go_enter Try.func31, Try.ntmps31
  go_wp2
  generalize wrap64 (wrap64 (h * 6364136223846793005) + 1442695040888963407) = h'
  have hs := cur_set (j := 2) (.int .i64 h') hb
  have hr1 := rd_row h4 hs.2 h3 h5
  have hb1 : (w.setCell ⟨g, 2, none⟩ (.int .i64 h')).heap[g]? = some (.cells #[.slice a n cap, .int .i64 i, .int .i64 h'] 47 (0, 0)) := hs.1
  have HG : Hid (w.grownBy (w.setCell ⟨g, 2, none⟩ (.int .i64 h')) (some g)) := hs.2
  clear hs c0 c1 c2 f1 f2 hb h4
  generalize w.setCell ⟨g, 2, none⟩ (.int .i64 h') = w1 at hr1 hb1 HG ⊢
  obtain ⟨c0, c1, c2, f1, f2⟩ := cur_cells hb1
  go_quiet (fail)
  go_wp2
  have hx : 0 ≤ bits .xor .i64 (h' / 8589934592) (h' / 35184372088832) % 256 ∧ bits .xor .i64 (h' / 8589934592) (h' / 35184372088832) % 256 ≤ 255 := by omega
  generalize bits .xor .i64 (h' / 8589934592) (h' / 35184372088832) % 256 = x at hx ⊢
  obtain ⟨hx0, hx1⟩ := hx
  by_cases hlt : i < n
  · obtain ⟨b, o, rfl, hbl, hc⟩ := hr1.pos (by omega)
    have hci := hc i hlt
    obtain ⟨hr0, hr255⟩ : 0 ≤ xs.getD i 0 ∧ xs.getD i 0 ≤ 255 := by
      have hlx : i < xs.length := by have := hr1.len; omega
      have := hr1.rng (xs[i]) (List.getElem_mem hlx)
      simpa [List.getD, hlx] using this
    obtain ⟨c, hcc⟩ : ∃ c, c = xs.getD i 0 := ⟨_, rfl⟩
    rw [← hcc] at hci hr0 hr255
    have hlt' : (i : Int) < (n : Int) := by omega
    have hs := cur_set (j := 1) (.int .i64 ((i + 1 : Nat) : Int)) hb1
    have hr2 := rd_row hr1 hs.2 h3 h5
    have HS : Hid ((w1.setCell ⟨g, 1, none⟩ (.int .i64 ((i + 1 : Nat) : Int))).heap[g]? = some (.cells #[.slice (some ⟨b, o, none⟩) n cap, .int .i64 ((i + 1 : Nat) : Int), .int .i64 h'] 47 (0, 0))) := hs.1
    have HG2 : Hid (w1.grownBy (w1.setCell ⟨g, 1, none⟩ (.int .i64 ((i + 1 : Nat) : Int))) (some g)) := hs.2
    have HR : Hid (Rd (w1.setCell ⟨g, 1, none⟩ (.int .i64 ((i + 1 : Nat) : Int))) (some ⟨b, o, none⟩) n xs) := hr2
    clear hs hr2 hcc hc
    go_quiet (fail)
    go_wp2
    go_quiet (fail)
    go_wp2
    go_ret
    refine ⟨(x + c) % 256, by omega, by omega, ?_, ?_, ?_⟩
    · rfl
    · exact ⟨_, n, cap, xs, i + 1, h', HS.out, by omega, h2, h3, ⟨HR.out.len, HR.out.cell, HR.out.rng⟩, h5⟩
    · exact grown_tr HG.out ⟨HG2.out.os, HG2.out.tape, HG2.out.output, HG2.out.size, HG2.out.block⟩
  · have hlt' : ¬ (i : Int) < (n : Int) := by omega
    go_quiet (fail)
    go_wp2
    go_ret
    refine ⟨x, hx0, hx1, rfl, ?_, ?_⟩
    · exact ⟨a, n, cap, xs, i, h', hb1, h1, h2, h3, hr1.grown (ext_drewN _ _), h5⟩
    · exact grown_tr HG.out (ext_row (ext_drewN _ _) _)

theorem rem_bd (x n : Int) (hn : 0 < n) : 0 ≤ x % n ∧ x % n < n := ⟨Int.emod_nonneg _ (by omega), Int.emod_lt_of_pos _ hn⟩

/-- What a draw below n leaves. -/
def BelowPost (n : Int) (w : World) (B g : Nat) (e : Ending) (w' : World) : Prop :=
  ∃ r : Int, 0 ≤ r ∧ (0 < n → r < n) ∧ (n ≤ 0 → r = 0) ∧ e = .returned (.int .i64 r) ∧ Cur w' B g ∧ w.grownBy w' (some g)

set_option maxHeartbeats 2000000 in
theorem belowC (B g : Nat) (n : Int) (w : World) (hc : Cur w B g) (hn : n ≤ 9223372036854775807) :
    Calls Try.prog 24 #[.pointer (some ⟨g, 0, none⟩), .int .i64 n] w (BelowPost n w B g) := by
  by_cases h0 : n ≤ 0
  · go_enter Try.func24, Try.ntmps24
    go_wp2
    go_ret
    exact ⟨0, by omega, by omega, by omega, rfl, hc, World.grownBy.refl _ _⟩
  by_cases h256 : n ≤ 256
  · have h0' : 0 < n := by omega
    have hnz : ¬ n = 0 := by omega
    go_enter Try.func24, Try.ntmps24
    go_wp2_with fail
    refine (byteC B g w hc).mono ?_
    rintro e w1 ⟨x, hx0, hx1, rfl, hc1, hg1⟩
    go_wp2
    go_ret
    have := rem_bd x n h0'
    exact ⟨x % n, this.1, fun _ => this.2, by omega, rfl, hc1, hg1⟩
  · have h0' : 0 < n := by omega
    have hnz : ¬ n = 0 := by omega
    go_enter Try.func24, Try.ntmps24
    go_wp2_with fail
    refine (byteC B g w hc).mono ?_
    rintro e w1 ⟨x, hx0, hx1, rfl, hc1, hg1⟩
    go_wp2_with fail
    refine (byteC B g w1 hc1).mono ?_
    rintro e w2 ⟨y, hy0, hy1, rfl, hc2, hg2⟩
    go_wp2_with fail
    refine (byteC B g w2 hc2).mono ?_
    rintro e w3 ⟨z, hz0, hz1, rfl, hc3, hg3⟩
    go_wp2_with fail
    refine (byteC B g w3 hc3).mono ?_
    rintro e w4 ⟨u, hu0, hu1, rfl, hc4, hg4⟩
    go_wp2
    go_ret
    have := rem_bd (x * 16777216 + y * 65536 + z * 256 + u) n h0'
    exact ⟨(x * 16777216 + y * 65536 + z * 256 + u) % n, this.1, fun _ => this.2, by omega, rfl, hc4, grown_tr (grown_tr (grown_tr hg1 hg2) hg3) hg4⟩

theorem cur_new {a : Option Addr} {n cap : Nat} {xs : List Int} {w : World} (hr : Rd w a n xs) (hm : n ≤ maxLen) (q : Int) : Cur (w.alloc (.cells #[.slice a n cap, .int .i64 0, .int .i64 q] 47)) w.heap.size w.heap.size := by
  refine ⟨a, n, cap, xs, 0, q, heap_alloc_new w _, by omega, hm, Nat.le_refl _, hr.grown (World.grownBy_alloc _ _ _), fun ad e => ?_⟩
  rcases Nat.eq_zero_or_pos n with h | h
  · exact .inl h
  · obtain ⟨b, o, e', hb, _⟩ := hr.pos h
    rw [e'] at e
    obtain rfl := Option.some.inj e
    exact .inr hb

set_option maxHeartbeats 2000000 in
set_option maxRecDepth 100000 in
theorem newC (a : Option Addr) (n cap : Nat) (xs : List Int) (w : World) (hr : Rd w a n xs) (hm : n ≤ maxLen) :
    Calls Try.prog 12 #[.slice a n cap] w fun e w' => e = .returned (.pointer (some ⟨w.heap.size, 0, none⟩)) ∧ Cur w' w.heap.size w.heap.size ∧ Below w.heap.size w w' := by
  have hml : n ≤ 9223372036854775807 := by unfold maxLen at hm; omega
  go_enter Try.func12, Try.ntmps12
  go_wp2
  go_loop [3, 4] (fun h i => ∃ (k : Nat) (q : Int), k ≤ n ∧ k ≤ 4000 ∧ i = .int .i64 k ∧ h = .int .i64 q) (fun _ i => 4000 - (intOf i).toNat)
  case atStart => exact ⟨0, _, by omega, by omega, rfl, rfl⟩
  case round =>
    obtain ⟨k, q, hk1, hk2, rfl, rfl⟩ := hrel
    by_cases hlt : k < n ∧ k < 4000
    · obtain ⟨hk3, hk4⟩ := hlt
      obtain ⟨b, o, rfl, hbl, hc⟩ := hr.pos (by omega)
      have hck := hc k hk3
      generalize xs.getD k 0 = c at hck
      clear hc
      go_wp2
      go_round
      case rel => exact ⟨k + 1, _, by omega, by omega, by go_num, rfl⟩
      case measure => simp [intOf]; omega
    · by_cases h1 : k < n
      · have h2 : ¬ (k : Int) < 4000 := by omega
        go_wp2
        go_ret
        exact ⟨rfl, cur_new hr hm q, (Below.refl _ _).alloc (Nat.le_refl _) _⟩
      · have h1' : ¬ (k : Int) < (n : Int) := by omega
        go_wp2
        go_ret
        exact ⟨rfl, cur_new hr hm q, (Below.refl _ _).alloc (Nat.le_refl _) _⟩

end Go.Proofs.Ytihlinhfnlfdmaa
