/- The contracts of the program's functions in the table of operations: which tokens an operation has behind its name. -/
import Derived.Test.YtfhebefepgnmnaaDoorCt8
import Derived.Test.YtfhebefepgnmnaaDoorOf8
import Derived.Deep.RegionHeld3
namespace Go.Proofs.YtfhebefepgnmnaaDoor
open Go.RowKit

/-- A token's cells. -/
def tcs (k : DTok) : List Value := [.int .i64 (k.kind : Int), .int .i64 k.pos, k.tv, .int .i64 (k.n : Int)]

theorem toks_of_own {w : World} {base : Nat} {v : Value} {ts : List DTok} (h : OwK w base v ts.length (ts.flatMap tcs)) (hp : 0 < ts.length) : VToks w v ts := by
  rcases h.2 with ⟨_, h0⟩ | ⟨g, cap, cur, rfl, _, hg, _, _, _, ht⟩
  · omega
  · refine .inr ⟨g, cap, cur, _, _, rfl, hg, by decide, fun i k hi => ?_⟩
    have hlt : i < ts.length := (List.getElem?_eq_some_iff.1 hi).1
    have key : ∀ (l : List DTok) (i : Nat) (k : DTok), l[i]? = some k → ∀ j u, (tcs k)[j]? = some u → (l.flatMap tcs)[i * 4 + j]? = some u := by
      intro l
      induction l with
      | nil => intro i k h; simp at h
      | cons x l ih =>
        intro i k hk j u hj
        have hl : (tcs x).length = 4 := rfl
        cases i with
        | zero =>
          simp only [List.getElem?_cons_zero, Option.some.injEq] at hk
          subst hk
          have hj4 : j < (tcs x).length := (List.getElem?_eq_some_iff.1 hj).1
          rw [List.flatMap_cons, List.getElem?_append_left (by omega)]
          simpa using hj
        | succ i =>
          rw [List.flatMap_cons, List.getElem?_append_right (by omega), hl]
          have := ih i k (by simpa using hk) j u hj
          rw [← this]
          congr 1
          omega
    have cell : ∀ j u, (tcs k)[j]? = some u → cur[i * 4 + j]? = some u := by
      intro j u hj
      have hj4 : j < 4 := (List.getElem?_eq_some_iff.1 hj).1
      have h1 := key ts i k hi j u hj
      rw [← ht, List.getElem?_take, if_pos (by omega)] at h1
      simpa using h1
    exact ⟨by simpa using cell 0 _ rfl, cell 1 _ rfl, cell 2 _ rfl, cell 3 _ rfl⟩

theorem rdt_of_own {w : World} {base : Nat} {v : Value} {n : Nat} {cs : List Value} (h : OwK w base v n cs) (hp : 0 < n) (h1 : ∀ u ∈ cs, u.oneCell' = true) : ∃ a cap, v = .slice (some a) n cap ∧ RdT w a n cs := by
  rcases h.2 with ⟨_, h0⟩ | ⟨g, cap, cur, rfl, r⟩
  · omega
  · exact ⟨⟨g, 0, none⟩, cap, rfl, h.1, h.cells (g := g) rfl, h1⟩

/-- The tokens of an operation. -/
abbrev tKey (kv : Value) (ky : List Int) : DTok := ⟨0, 0, kv, ky, 0⟩
abbrev tVal (vv : Value) (vl : List Int) : DTok := ⟨1, 0, vv, vl, 0⟩
abbrev tNum (n : Nat) : DTok := ⟨2, 0, .slice none 0 0, [], n⟩

set_option maxHeartbeats 1000000 in
theorem numTokT (n : Int) (w : World) : Calls Tryd.prog 35 #[.int .i64 n] w fun e w' => e = .returned (.agg #[.int .i64 2, .int .i64 0, .slice none 0 0, .int .i64 n]) ∧ Below w.heap.size w w' := by
  go_enter Tryd.func35, Tryd.ntmps35
  go_wp2
  exact bodyPost_ret (v := .agg #[.int .i64 2, .int .i64 0, .slice none 0 0, .int .i64 n]) (by simp [results, Tryd.results35, go_sem]) rfl ⟨rfl, (Below.refl _ w).alloc (Nat.le_refl _) _⟩
set_option maxHeartbeats 1000000 in
theorem keyTokT (a : Option Addr) (n c : Nat) (w : World) : Calls Tryd.prog 33 #[.slice a n c] w fun e w' => e = .returned (.agg #[.int .i64 0, .int .i64 0, .slice a n c, .int .i64 0]) ∧ Below w.heap.size w w' := by
  go_enter Tryd.func33, Tryd.ntmps33
  go_wp2
  exact bodyPost_ret (v := .agg #[.int .i64 0, .int .i64 0, .slice a n c, .int .i64 0]) (by simp [results, Tryd.results33, go_sem]) rfl ⟨rfl, (Below.refl _ w).alloc (Nat.le_refl _) _⟩
set_option maxHeartbeats 1000000 in
theorem valTokT (a : Option Addr) (n c : Nat) (w : World) : Calls Tryd.prog 39 #[.slice a n c] w fun e w' => e = .returned (.agg #[.int .i64 1, .int .i64 0, .slice a n c, .int .i64 0]) ∧ Below w.heap.size w w' := by
  go_enter Tryd.func39, Tryd.ntmps39
  go_wp2
  exact bodyPost_ret (v := .agg #[.int .i64 1, .int .i64 0, .slice a n c, .int .i64 0]) (by simp [results, Tryd.results39, go_sem]) rfl ⟨rfl, (Below.refl _ w).alloc (Nat.le_refl _) _⟩

set_option maxHeartbeats 1000000 in
theorem wantNone (o : Value) (w : World) (ho : ∃ k kv vv n, o = .agg #[.int .i64 k, kv, vv, .int .i64 n]) : Calls Tryd.prog 31 #[o] w fun e w' => e = .returned (.slice none 0 0) ∧ Below w.heap.size w w' := by
  obtain ⟨k, kv, vv, n, rfl⟩ := ho
  go_enter Tryd.func31, Tryd.ntmps31
  go_wp2
  go_ret
  exact ⟨rfl, (Below.refl _ w).alloc (Nat.le_refl _) _⟩

set_option maxHeartbeats 1000000 in
theorem wantKey (k n : Int) (ka va : Option Addr) (kl kc vl vc : Nat) (w : World) : Calls Tryd.prog 32 #[.agg #[.int .i64 k, .slice ka kl kc, .slice va vl vc, .int .i64 n]] w fun e w' => ∃ v, e = .returned v ∧ OwK w' w.heap.size v 1 [.int .i64 0, .int .i64 0, .slice ka kl kc, .int .i64 0] ∧ Below w.heap.size w w' := by
  have hA : Below w.heap.size w (w.alloc (.cells #[.int .i64 k, .slice ka kl kc, .slice va vl vc, .int .i64 n] 28)) := (Below.refl _ w).alloc (Nat.le_refl _) _
  go_enter Tryd.func32, Tryd.ntmps32
  go_wp2_with (go_at_call 33; refine (keyTokT ka kl kc _).mono ?_; rintro e w1 ⟨rfl, b1⟩)
  go_ret
  have B1 := hA.trans (b1.mono (by simp))
  exact ⟨_, rfl, World.ownsRow_lit w1 #[_, _, _, _] 1 B1.size (by decide) rfl, B1.alloc B1.size _⟩
set_option maxHeartbeats 1000000 in
theorem wantNum (k n : Int) (ka va : Option Addr) (kl kc vl vc : Nat) (w : World) : Calls Tryd.prog 34 #[.agg #[.int .i64 k, .slice ka kl kc, .slice va vl vc, .int .i64 n]] w fun e w' => ∃ v, e = .returned v ∧ OwK w' w.heap.size v 1 [.int .i64 2, .int .i64 0, .slice none 0 0, .int .i64 n] ∧ Below w.heap.size w w' := by
  have hA : Below w.heap.size w (w.alloc (.cells #[.int .i64 k, .slice ka kl kc, .slice va vl vc, .int .i64 n] 28)) := (Below.refl _ w).alloc (Nat.le_refl _) _
  go_enter Tryd.func34, Tryd.ntmps34
  go_wp2_with (go_at_call 35; refine (numTokT n _).mono ?_; rintro e w1 ⟨rfl, b1⟩)
  go_ret
  have B1 := hA.trans (b1.mono (by simp))
  exact ⟨_, rfl, World.ownsRow_lit w1 #[_, _, _, _] 1 B1.size (by decide) rfl, B1.alloc B1.size _⟩

end Go.Proofs.YtfhebefepgnmnaaDoor
