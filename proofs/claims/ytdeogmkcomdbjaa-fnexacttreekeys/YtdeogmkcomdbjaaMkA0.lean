
/- Marking what a call made: which blocks may turn, and that nothing else does. -/
import Derived.Test.YtdeogmkcomdbjaaTo0
import Derived.Test.YtdeogmkcomdbjaaVal
import Derived.Test.YtdeogmkcomdbjaaSz0
namespace Go.Proofs.Ytdeogmkcomdbjaa
open Go.RowKit

/-- Of the blocks that lay there only some of those from lo up to hi have turned: rows of bytes (their sizes have not), and the block og. -/
structure Mk (lo hi : Nat) (og : Option Nat) (w w' : World) : Prop where
  os : w'.os = w.os
  tape : w'.tape = w.tape
  output : w'.output = w.output
  size : w.heap.size ≤ w'.heap.size
  out : ∀ k, k < w.heap.size → (k < lo ∨ hi ≤ k) → w'.heap[k]? = w.heap[k]?
  byt : ∀ (k : Nat) (cur : Array Value), w.heap[k]? = some (.cells cur 5 (0, 0)) → ∃ cur' : Array Value, w'.heap[k]? = some (.cells cur' 5 (0, 0)) ∧ cur'.size = cur.size
  oth : ∀ (k : Nat) (cur : Array Value) (t : TypeId), t ≠ 5 → some k ≠ og → w.heap[k]? = some (.cells cur t (0, 0)) → w'.heap[k]? = some (.cells cur t (0, 0))

theorem Mk.re (lo hi : Nat) (og : Option Nat) (w : World) : Mk lo hi og w w := ⟨rfl, rfl, rfl, Nat.le_refl _, fun _ _ _ => rfl, fun _ cur h => ⟨cur, h, rfl⟩, fun _ _ _ _ _ h => h⟩
theorem Mk.tr {lo hi : Nat} {og : Option Nat} {a b c : World} (h : Mk lo hi og a b) (k : Mk lo hi og b c) : Mk lo hi og a c :=
  ⟨k.os.trans h.os, k.tape.trans h.tape, k.output.trans h.output, Nat.le_trans h.size k.size, fun i hi' ho => (k.out i (Nat.lt_of_lt_of_le hi' h.size) ho).trans (h.out i hi' ho),
   fun i cur hc => by
     obtain ⟨c1, h1, s1⟩ := h.byt i cur hc
     obtain ⟨c2, h2, s2⟩ := k.byt i c1 h1
     exact ⟨c2, h2, s2.trans s1⟩,
   fun i cur t ht ho hc => k.oth i cur t ht ho (h.oth i cur t ht ho hc)⟩
theorem Mk.some {lo hi : Nat} {og : Option Nat} {a b : World} (h : Mk lo hi none a b) : Mk lo hi og a b :=
  ⟨h.os, h.tape, h.output, h.size, h.out, h.byt, fun i cur t ht _ hc => h.oth i cur t ht (by simp) hc⟩

theorem mk_set {lo hi x j : Nat} {og : Option Nat} {w : World} {cur : Array Value} {t : TypeId} (u : Value) (hx : w.heap[x]? = some (.cells cur t (0, 0))) (h1 : lo ≤ x) (h2 : x < hi) (ht : t = 5 ∨ some x = og) : Mk lo hi og w (w.setCell ⟨x, j, none⟩ u) := by
  have hg := set_grown w x j u
  refine ⟨hg.os, hg.tape, hg.output, hg.size, fun k hk ho => hg.block k hk (by intro e; cases e; omega), fun k c hc => ?_, fun k c t' ht' ho hc => ?_⟩
  · by_cases e : k = x
    · subst e
      rw [hx] at hc
      cases hc
      exact ⟨_, set_block hx j u, by simp⟩
    · exact ⟨c, set_other x j u e hc, rfl⟩
  · by_cases e : k = x
    · subst e
      rw [hx] at hc
      cases hc
      rcases ht with rfl | rfl
      · exact absurd rfl ht'
      · exact absurd rfl ho
    · exact set_other x j u e hc

/-- A slice of bytes that may be marked: it lies in a block from lo up to hi. -/
def WB (lo hi : Nat) (w : World) (v : Value) : Prop :=
  v = .slice none 0 0 ∨ ∃ (g n cap : Nat) (cur : Array Value), v = .slice (some ⟨g, 0, none⟩) n cap ∧ lo ≤ g ∧ g < hi ∧ n ≤ cap ∧ cur.size = cap ∧ w.heap[g]? = some (.cells cur 5 (0, 0)) ∧ n ≤ 1048576

theorem WB.mk {lo hi : Nat} {og : Option Nat} {w w' : World} {v : Value} (h : WB lo hi w v) (k : Mk lo hi og w w') : WB lo hi w' v := by
  rcases h with h | ⟨g, n, cap, cur, rfl, h1, h2, h3, h4, h5, h6⟩
  · exact .inl h
  · obtain ⟨c', e1, e2⟩ := k.byt g cur h5
    exact .inr ⟨g, n, cap, c', rfl, h1, h2, h3, e2.trans h4, e1, h6⟩
theorem WB.of {lo : Nat} {w : World} {v : Value} {xs : List Int} {base : Nat} (h : Ow w base v xs) (hb : lo ≤ base) (hl : xs.length ≤ 1048576) : WB lo w.heap.size w v := by
  rcases h.2 with ⟨rfl, _⟩ | ⟨g, cap, cur, rfl, h1, h2, h3, h4, h5, _⟩
  · exact .inl rfl
  · exact .inr ⟨g, _, cap, cur, rfl, by omega, (Array.getElem?_eq_some_iff.1 h2).1, h3, by omega, h2, hl⟩
theorem WB.grown {lo hi : Nat} {w w' : World} {v : Value} (h : WB lo hi w v) (k : Ext w w') : WB lo hi w' v := by
  rcases h with h | ⟨g, n, cap, cur, rfl, h1, h2, h3, h4, h5, h6⟩
  · exact .inl h
  · exact .inr ⟨g, n, cap, cur, rfl, h1, h2, h3, h4, (k.block g (Array.getElem?_eq_some_iff.1 h5).1 (by simp)).trans h5, h6⟩

set_option maxHeartbeats 1000000 in
theorem markW (lo hi : Nat) (og : Option Nat) (v : Value) (k : Int) (w : World) (h : WB lo hi w v) (hk0 : 0 ≤ k) (hk : k ≤ 1152921504606846976) :
    Calls Try.prog 18 #[v, .int .i64 k] w fun e w' => ∃ n : Nat, n ≤ 1048576 ∧ e = .returned (.int .i64 (k + n)) ∧ Mk lo hi og w w' := by
  rcases h with rfl | ⟨g, n, cap, cur, rfl, h1, h2, h3, h4, h5, h6⟩
  · go_enter Try.func18, Try.ntmps18
    go_wp2
    refine wp_loop_rounds 1 ?_
    rw [rounds_succ]
    go_wp2
    go_ret
    exact ⟨0, by omega, by simp, Mk.re _ _ _ _⟩
  · have H5 : Hid (w.heap[g]? = some (.cells cur 5 (0, 0))) := h5
    have H4 : Hid (cur.size = cap) := h4
    clear h4 h5
    go_enter Try.func18, Try.ntmps18
    go_wp2
    go_loopw [1, 5] (fun q i wr => ∃ j : Nat, j ≤ n ∧ i = .int .i64 j ∧ q = .int .i64 (k + j) ∧ Mk lo hi og w wr) (fun _ i _ => n - (intOf i).toNat)
    case atStart => exact ⟨0, Nat.zero_le _, rfl, by go_num, Mk.re _ _ _ _⟩
    case round =>
      obtain ⟨j, hj, rfl, rfl, hm⟩ := hrel
      by_cases hlt : j < n
      · obtain ⟨c', e1, e2⟩ := hm.byt g cur H5.out
        obtain ⟨uu, huu⟩ : ∃ uu, c'[j]? = some uu := ⟨_, Array.getElem?_eq_getElem (by have := H4.out; omega)⟩
        obtain ⟨hu, hf⟩ := at_block e1 j uu huu
        have HM : Hid (∀ u, Mk lo hi og w (wr.setCell ⟨g, j, none⟩ u)) := fun u => hm.tr (mk_set u e1 h1 h2 (.inl rfl))
        clear e1 e2 hm huu
        go_wp2
        go_roundw
        case rel => exact ⟨j + 1, by omega, by go_num, by go_num, HM.out _⟩
        case measure => simp [intOf]; omega
      · have hjn : j = n := by omega
        subst hjn
        go_wp2
        go_ret
        exact ⟨j, h6, rfl, hm⟩

/-- An array of n elements of k cells in the block g; of its cells those of the texts (tx) are known. -/
def Arr (w : World) (g : Nat) (t : TypeId) (k n : Nat) (tx : Nat → Prop) (F : Nat → Nat → Value) : Prop :=
  ∃ cur : Array Value, w.heap[g]? = some (.cells cur t (0, 0)) ∧ cur.size = n * k ∧ ∀ i, i < n → ∀ j, j < k → tx j → cur[i * k + j]? = some (F i j)
theorem Arr.of {w : World} {g : Nat} {t : TypeId} {k n : Nat} {tx : Nat → Prop} {F : Nat → Nat → Value} (h : Blk w g t k n n F) : Arr w g t k n tx F := by
  obtain ⟨cur, h1, h2, h3⟩ := h
  exact ⟨cur, h1, h2, fun i hi j hj _ => h3 i hi j hj⟩
theorem Arr.mk {lo hi : Nat} {og : Option Nat} {w w' : World} {g : Nat} {t : TypeId} {k n : Nat} {tx : Nat → Prop} {F : Nat → Nat → Value} (h : Arr w g t k n tx F) (m : Mk lo hi og w w') (ht : t ≠ 5) (hg : some g ≠ og) : Arr w' g t k n tx F := by
  obtain ⟨cur, h1, h2, h3⟩ := h
  exact ⟨cur, m.oth g cur t ht hg h1, h2, h3⟩
theorem Arr.ext {w w' : World} {g : Nat} {t : TypeId} {k n : Nat} {tx : Nat → Prop} {F : Nat → Nat → Value} (h : Arr w g t k n tx F) (m : Ext w w') : Arr w' g t k n tx F := by
  obtain ⟨cur, h1, h2, h3⟩ := h
  exact ⟨cur, (m.block g (Array.getElem?_eq_some_iff.1 h1).1 (by simp)).trans h1, h2, h3⟩
theorem Arr.cell {w : World} {g : Nat} {t : TypeId} {k n : Nat} {tx : Nat → Prop} {F : Nat → Nat → Value} (h : Arr w g t k n tx F) (i : Nat) (hi : i < n) (j : Nat) (hj : j < k) (ht : tx j) : w.cell? ⟨g, i * k + j, none⟩ = some (F i j) := by
  obtain ⟨cur, h1, h2, h3⟩ := h
  rw [cell_of_row w g _ cur t (0, 0) h1]
  exact h3 i hi j hj ht
theorem Arr.at {w : World} {g : Nat} {t : TypeId} {k n : Nat} {tx : Nat → Prop} {F : Nat → Nat → Value} (h : Arr w g t k n tx F) (x : Nat) (hx : x < n * k) : (∃ u, w.cell? ⟨g, x, none⟩ = some u) ∧ w.frozen? ⟨g, x, none⟩ = false := by
  obtain ⟨cur, h1, h2, _⟩ := h
  have := at_block h1 x cur[x] (Array.getElem?_eq_getElem (by omega))
  exact ⟨⟨_, this.1⟩, this.2⟩
theorem Arr.set {w : World} {g : Nat} {t : TypeId} {k n : Nat} {tx : Nat → Prop} {F : Nat → Nat → Value} (h : Arr w g t k n tx F) (i j : Nat) (hj : j < k) (ht : ¬ tx j) (u : Value) : Arr (w.setCell ⟨g, i * k + j, none⟩ u) g t k n tx F := by
  obtain ⟨cur, h1, h2, h3⟩ := h
  refine ⟨_, set_block h1 _ u, by simp [h2], fun i' hi' j' hj' ht' => ?_⟩
  rw [Array.getElem?_setIfInBounds, if_neg]
  · exact h3 i' hi' j' hj' ht'
  · intro e
    have e1 : (j + i * k) % k = (j' + i' * k) % k := by rw [Nat.add_comm j, Nat.add_comm j', e]
    rw [Nat.add_mul_mod_self_right, Nat.add_mul_mod_self_right, Nat.mod_eq_of_lt hj, Nat.mod_eq_of_lt hj'] at e1
    exact ht (e1 ▸ ht')
theorem Arr.mkset {lo hi : Nat} {w : World} {g : Nat} {t : TypeId} {k n : Nat} {tx : Nat → Prop} {F : Nat → Nat → Value} (h : Arr w g t k n tx F) (h1 : lo ≤ g) (h2 : g < hi) (x : Nat) (u : Value) : Mk lo hi (Option.some g) w (w.setCell ⟨g, x, none⟩ u) := by
  obtain ⟨cur, hc, _, _⟩ := h
  exact mk_set u hc h1 h2 (.inr rfl)

end Go.Proofs.Ytdeogmkcomdbjaa
