/- Lists of texts that a call made: held against one another, marked, held (for seats without states). -/
import Derived.Test.YtdeogmkcomdbjaaMark
import Derived.Test.YtdeogmkcomdbjaaVal
import Derived.Test.YtdeogmkcomdbjaaValE
import Derived.Test.YtdeogmkcomdbjaaMkA0
import Derived.BigQuiet
namespace Go.Proofs.Ytdeogmkcomdbjaa
open Go.RowKit

/-- Only blocks from lo up to hi have turned. -/
structure Mid (lo hi : Nat) (w w' : World) : Prop where
  os : w'.os = w.os
  tape : w'.tape = w.tape
  output : w'.output = w.output
  size : w.heap.size ≤ w'.heap.size
  out : ∀ k, k < w.heap.size → (k < lo ∨ hi ≤ k) → w'.heap[k]? = w.heap[k]?
theorem Mk.mid {lo hi : Nat} {og : Option Nat} {w w' : World} (h : Mk lo hi og w w') : Mid lo hi w w' := ⟨h.os, h.tape, h.output, h.size, h.out⟩
theorem Mid.tr {lo hi : Nat} {a b c : World} (h : Mid lo hi a b) (k : Mid lo hi b c) : Mid lo hi a c :=
  ⟨k.os.trans h.os, k.tape.trans h.tape, k.output.trans h.output, Nat.le_trans h.size k.size, fun i hi' ho => (k.out i (Nat.lt_of_lt_of_le hi' h.size) ho).trans (h.out i hi' ho)⟩
theorem Mid.ext {lo hi : Nat} {a b : World} (h : Ext a b) : Mid lo hi a b := ⟨h.os, h.tape, h.output, h.size, fun i hi' _ => h.block i hi' (by simp)⟩
theorem Mid.one {lo hi g : Nat} {a b : World} (h : a.grownBy b (some g)) (h1 : lo ≤ g) (h2 : g < hi) : Mid lo hi a b := ⟨h.os, h.tape, h.output, h.size, fun i hi' ho => h.block i hi' (by simp; omega)⟩
theorem Mid.below {lo hi B : Nat} {w0 w w' : World} (hb : Below B w0 w) (hs : B ≤ w.heap.size) (hl : B ≤ lo) (h : Mid lo hi w w') : Below B w0 w' :=
  ⟨h.os.trans hb.os, h.tape.trans hb.tape, h.output.trans hb.output, Nat.le_trans hb.size h.size, fun k hk => (h.out k (by omega) (.inl (by omega))).trans (hb.block k hk)⟩
theorem Mid.obj {lo hi k : Nat} {w w' : World} {o : Obj} (h : Mid lo hi w w') (hk : w.heap[k]? = some o) (ho : k < lo ∨ hi ≤ k) : w'.heap[k]? = some o := (h.out k (Array.getElem?_eq_some_iff.1 hk).1 ho).trans hk

theorem ow_mid {lo hi base : Nat} {w w' : World} {v : Value} {xs : List Int} (h : Ow w base v xs) (m : Mid lo hi w w') (ho : ∀ k, v.ownBlock = some k → k < lo ∨ hi ≤ k) : Ow w' base v xs := by
  refine ⟨h.1, ?_⟩
  rcases h.2 with h2 | ⟨g, cap, cur, rfl, h1, h2, h3, h4, h5, h6⟩
  · exact .inl h2
  · exact .inr ⟨g, cap, cur, rfl, h1, (m.out g (Array.getElem?_eq_some_iff.1 h2).1 (ho g rfl)).trans h2, h3, h4, h5, h6⟩

theorem mid_of_grown {lo hi : Nat} {row : Option Nat} {w w' : World} (h : w.grownBy w' row) (hr : ∀ k, row = some k → lo ≤ k ∧ k < hi) : Mid lo hi w w' :=
  ⟨h.os, h.tape, h.output, h.size, fun k hk ho => h.block k hk (fun e => by have := hr k e.symm; omega)⟩
/-- A slice of n slices of bytes: F's are its cells. -/
def SSR (w : World) (v : Value) (n : Nat) (F : Nat → Value) : Prop :=
  ∃ a cap, v = .slice a n cap ∧ n ≤ cap ∧ cap ≤ maxLen ∧ (0 < n → ∃ b o, a = some ⟨b, o, none⟩ ∧ b < w.heap.size ∧ ∀ i, i < n → w.cell? ⟨b, o + i, none⟩ = some (F i))
theorem SSR.ext {w w' : World} {v : Value} {n : Nat} {F : Nat → Value} (h : SSR w v n F) (e : Ext w w') : SSR w' v n F := by
  obtain ⟨a, cap, hv, h1, h2, h3⟩ := h
  refine ⟨a, cap, hv, h1, h2, fun hn => ?_⟩
  obtain ⟨b, o, ha, hb, hc⟩ := h3 hn
  exact ⟨b, o, ha, Nat.lt_of_lt_of_le hb e.size, fun i hi => World.grownBy.cell e (hc i hi) (by simp)⟩

set_option maxHeartbeats 2000000 in
theorem eqSSV (v u : Value) (n : Nat) (F G : Nat → Value) (L : Nat → List Int) (w : World) (hv : SSR w v n F) (hu : SSR w u n G) (hF : ∀ i, i < n → RV w (F i) (L i)) (hG : ∀ i, i < n → RV w (G i) (L i)) (hl : ∀ i, i < n → (L i).length ≤ 2097152) :
    Calls Try.prog 15 #[v, u] w fun e w' => e = .returned (.bool true) ∧ ∃ q, w' = w.drewN q := by
  obtain ⟨a, cap, rfl, h1, h2, h3⟩ := hv
  obtain ⟨b, cap', rfl, h1', h2', h3'⟩ := hu
  unfold maxLen at h2 h2'
  have H3 : Hid (0 < n → ∃ b o, a = some ⟨b, o, none⟩ ∧ b < w.heap.size ∧ ∀ i, i < n → w.cell? ⟨b, o + i, none⟩ = some (F i)) := h3
  have H3' : Hid (0 < n → ∃ b' o, b = some ⟨b', o, none⟩ ∧ b' < w.heap.size ∧ ∀ i, i < n → w.cell? ⟨b', o + i, none⟩ = some (G i)) := h3'
  have HF : Hid (∀ i, i < n → RV w (F i) (L i) ∧ RV w (G i) (L i) ∧ (L i).length ≤ 2097152) := fun i hi => ⟨hF i hi, hG i hi, hl i hi⟩
  clear h3 h3' hF hG hl
  go_enter Try.func15, Try.ntmps15
  go_wp2
  go_loopw [5] (fun i wr => ∃ k q : Nat, k ≤ n ∧ i = .int .i64 k ∧ wr = w.drewN q) (fun i _ => n - (intOf i).toNat)
  case atStart => exact ⟨0, 0, Nat.zero_le _, rfl, rfl⟩
  case round =>
    obtain ⟨k, q, hk, rfl, rfl⟩ := hrel
    by_cases hlt : k < n
    · obtain ⟨x, o, rfl, hb1, hc⟩ := H3.out (by omega)
      obtain ⟨y, o', rfl, hb2, hc'⟩ := H3'.out (by omega)
      have c0 := hc k hlt
      have d0 := hc' k hlt
      obtain ⟨rf, rg, rl⟩ := HF.out k hlt
      have HR : Hid (∀ W', Ext w W' → Calls Try.prog 16 #[F k, G k] W' fun e w' => e = .returned (.bool true) ∧ ∃ m, w' = W'.drewN m) := fun W' e => eqV_yes _ _ (L k) _ (rf.ext e) (rg.ext e) rl
      have hlt' : (k : Int) < (n : Int) := by omega
      have c0' : (w.drewN q).cell? ⟨x, o + k, none⟩ = some (F k) := c0
      have d0' : (w.drewN q).cell? ⟨y, o' + k, none⟩ = some (G k) := d0
      obtain ⟨W, hW⟩ : ∃ W, w.drewN q = W := ⟨_, rfl⟩
      have HQ : Hid (w.drewN q = W) := hW
      have HX : Hid (Ext w W) := by rw [← hW]; exact ext_drewN _ _
      rw [hW] at c0' d0' ⊢
      clear hc hc' rf rg rl c0 d0 hW
      go_wp2
      go_quiet ((go_at_call 16; exact Calls.quiet_of (HR.out _ (HX.out.tr (ext_drewN _ _)))))
      go_wp2
      go_roundw
      case rel => exact ⟨k + 1, q + nq, by omega, by go_num, by rw [← HQ.out, World.drewN_drewN]⟩
      case measure => simp [intOf]; omega
    · have hkn : k = n := by omega
      subst hkn
      go_wp2
      go_ret
      exact ⟨rfl, q, rfl⟩

/-- How many bytes lie ahead of the text number i. -/
def ahead (L : Nat → List Int) : Nat → Nat
  | 0 => 0
  | i + 1 => ahead L i + (L i).length
theorem ahead_le (L : Nat → List Int) {i n : Nat} (h : i ≤ n) : ahead L i ≤ ahead L n := by
  induction n with
  | zero => obtain rfl : i = 0 := by omega
            exact Nat.le_refl _
  | succ n ih =>
    by_cases e : i = n + 1
    · subst e; exact Nat.le_refl _
    · exact Nat.le_trans (ih (by omega)) (Nat.le_add_right _ _)

/-- A list of texts that a call made: all blocks from lo up to hi, no two texts in one. -/
structure SSO (lo hi : Nat) (w : World) (v : Value) (n : Nat) (F : Nat → Value) (L : Nat → List Int) : Prop where
  row : v = .slice none 0 0 ∧ n = 0 ∨ ∃ (g cap : Nat) (cur : Array Value), v = .slice (some ⟨g, 0, none⟩) n cap ∧ lo ≤ g ∧ g < hi ∧ w.heap[g]? = some (.cells cur 22 (0, 0)) ∧ n ≤ cap ∧ cap ≤ maxLen ∧ cur.size = cap ∧ ∀ i, i < n → cur[i]? = some (F i)
  tx : ∀ i, i < n → Ow w lo (F i) (L i)
  up : ∀ i, i < n → ∀ k, (F i).ownBlock = some k → k < hi
  ap : ∀ i j, i < n → j < n → i ≠ j → (F i).ownBlock = none ∨ (F i).ownBlock ≠ (F j).ownBlock

theorem SSO.r {lo hi : Nat} {w : World} {v : Value} {n : Nat} {F : Nat → Value} {L : Nat → List Int} (h : SSO lo hi w v n F L) : SSR w v n F := by
  rcases h.row with ⟨rfl, rfl⟩ | ⟨g, cap, cur, rfl, h1, h2, h3, h4, h5, h6, h7⟩
  · exact ⟨none, 0, rfl, Nat.le_refl _, Nat.zero_le _, fun h => absurd h (by omega)⟩
  · refine ⟨_, cap, rfl, h4, h5, fun _ => ⟨g, 0, rfl, (Array.getElem?_eq_some_iff.1 h3).1, fun i hi => ?_⟩⟩
    rw [Nat.zero_add, cell_of_row w g _ cur 22 (0, 0) h3]
    exact h7 i hi
theorem SSO.ext {lo hi : Nat} {w w' : World} {v : Value} {n : Nat} {F : Nat → Value} {L : Nat → List Int} (h : SSO lo hi w v n F L) (e : Ext w w') : SSO lo hi w' v n F L := by
  refine ⟨?_, fun i hi => (h.tx i hi).ext e, h.up, h.ap⟩
  rcases h.row with h0 | ⟨g, cap, cur, rfl, h1, h2, h3, h4⟩
  · exact .inl h0
  · exact .inr ⟨g, cap, cur, rfl, h1, h2, (e.block g (Array.getElem?_eq_some_iff.1 h3).1 (by simp)).trans h3, h4⟩
theorem SSO.mid {lo hi lo' hi' : Nat} {w w' : World} {v : Value} {n : Nat} {F : Nat → Value} {L : Nat → List Int} (h : SSO lo hi w v n F L) (m : Mid lo' hi' w w') (hd : hi ≤ lo' ∨ hi' ≤ lo) : SSO lo hi w' v n F L := by
  refine ⟨?_, fun i hi => ow_mid (h.tx i hi) m (fun k hk => ?_), h.up, h.ap⟩
  · rcases h.row with h0 | ⟨g, cap, cur, rfl, h1, h2, h3, h4⟩
    · exact .inl h0
    · exact .inr ⟨g, cap, cur, rfl, h1, h2, (m.out g (Array.getElem?_eq_some_iff.1 h3).1 (by omega)).trans h3, h4⟩
  · have := h.up i hi k hk
    have := ((h.tx i hi).lt k hk).1
    omega
/-- One text turned, and nothing else. -/
theorem SSO.turn {lo hi : Nat} {w w' : World} {v : Value} {n : Nat} {F : Nat → Value} {L : Nat → List Int} (h : SSO lo hi w v n F L) (k : Nat) (hk : k < n) (xs : List Int) (ho : Ow w' lo (F k) xs) (hg : w.grownBy w' (F k).ownBlock) : SSO lo hi w' v n F (fun i => if i = k then xs else L i) := by
  refine ⟨?_, fun i hi => ?_, h.up, h.ap⟩
  · rcases h.row with h0 | ⟨g, cap, cur, rfl, h1, h2, h3, h4⟩
    · exact .inl h0
    · refine .inr ⟨g, cap, cur, rfl, h1, h2, (hg.block g (Array.getElem?_eq_some_iff.1 h3).1 (fun e => ?_)).trans h3, h4⟩
      rcases (h.tx k hk).2 with ⟨e0, _⟩ | ⟨g', cap', cur', e1, _, h5, _⟩
      · rw [e0] at e; cases e
      · rw [e1] at e
        cases e
        rw [h3] at h5
        simp at h5
  · show Ow w' lo (F i) (if i = k then xs else L i)
    by_cases e : i = k
    · subst e
      rw [if_pos rfl]
      exact ho
    · rw [if_neg e]
      exact (h.tx i hi).kept hg (by
        rcases h.ap i k hi hk e with h0 | h0
        · rw [h0]; simp
        · first | exact h0 | exact .inr h0 | exact .inl h0)


theorem SSO.as {lo hi : Nat} {w : World} {v : Value} {n : Nat} {F : Nat → Value} {L L' : Nat → List Int} (h : SSO lo hi w v n F L) (e : ∀ i, i < n → L i = L' i) : SSO lo hi w v n F L' :=
  ⟨h.row, fun i hi => by rw [← e i hi]; exact h.tx i hi, h.up, h.ap⟩

set_option maxHeartbeats 2000000 in
theorem markSSV (lo hi : Nat) (v : Value) (n : Nat) (F : Nat → Value) (L : Nat → List Int) (k : Int) (w : World) (h : SSO lo hi w v n F L) (hA : ahead L n ≤ 1048576) (hk0 : 0 ≤ k) (hk : k ≤ 1048576) :
    Calls Try.prog 19 #[v, .int .i64 k] w fun e w' => e = .returned (.int .i64 (k + ahead L n)) ∧ SSO lo hi w' v n F (fun i => marks (k + ahead L i) (L i).length) ∧ Mid lo hi w w' := by
  have hr := h.r
  have HS : Hid (SSO lo hi w v n F L) := h
  clear h
  obtain ⟨a, cap, rfl, h1, h2, h3⟩ := hr
  unfold maxLen at h2
  clear h3
  go_enter Try.func19, Try.ntmps19
  go_wp2
  go_loopw [1, 5] (fun q i wr => ∃ j : Nat, j ≤ n ∧ i = .int .i64 j ∧ q = .int .i64 (k + ahead L j) ∧ Hid (SSO lo hi wr (.slice a n cap) n F (fun i => if i < j then marks (k + ahead L i) (L i).length else L i)) ∧ Hid (Mid lo hi w wr)) (fun _ i _ => n - (intOf i).toNat)
  case atStart => exact ⟨0, Nat.zero_le _, rfl, by simp [ahead], HS.out.as (fun i _ => by simp), Mid.ext (Ext.re _)⟩
  case round =>
    obtain ⟨j, hj, rfl, rfl, hs, hm⟩ := hrel
    by_cases hlt : j < n
    · obtain ⟨_, _, e, _, _, h3⟩ := hs.out.r
      cases e
      obtain ⟨b, o, rfl, _, hc⟩ := h3 (by omega)
      have c0 := hc j hlt
      have hle := ahead_le L (show j + 1 ≤ n by omega)
      have hst : ahead L (j + 1) = ahead L j + (L j).length := rfl
      have ht := hs.out.tx j hlt
      simp only [Nat.lt_irrefl, if_false] at ht
      have HT : Hid (Ow wr lo (F j) (L j)) := ht
      have hlt' : (j : Int) < (n : Int) := by omega
      have HAJ : Hid (ahead L (j + 1) = ahead L j + (L j).length) := hst
      have hkj : k + (ahead L j : Int) ≤ 1073741824 := by omega
      have hlj : (L j).length ≤ 2097152 := by omega
      clear hc h3 ht hst hle
      go_wp2_with fail
      refine (markV lo (F j) (L j) _ wr HT.out hlj (by omega) hkj).mono ?_
      rintro e w1 ⟨rfl, o1, g1⟩
      have HS1 : Hid (SSO lo hi w1 (.slice (some ⟨b, o, none⟩) n cap) n F (fun i => if i < j + 1 then marks (k + ahead L i) (L i).length else L i)) := by
        refine (hs.out.turn j hlt _ o1 g1).as (fun i hi => ?_)
        by_cases e1 : i = j
        · subst e1
          simp
        · by_cases e2 : i < j
          · simp [e1, e2, show i < j + 1 by omega]
          · simp [e1, e2, show ¬ i < j + 1 by omega]
      have HM1 : Hid (Mid lo hi w w1) := hm.out.tr (mid_of_grown g1 (fun k hk => ⟨(HT.out.lt k hk).1, hs.out.up j hlt k hk⟩))
      clear o1 g1 hs hm
      go_wp2
      go_roundw
      case rel => exact ⟨j + 1, by omega, by go_num, by rw [HAJ.out]; go_num, HS1.out, HM1.out⟩
      case measure => simp [intOf]; omega
    · have hjn : j = n := by omega
      subst hjn
      have HSF : Hid (SSO lo hi wr (.slice a j cap) j F (fun i => marks (k + ahead L i) (L i).length)) := hs.out.as (fun i hi => by simp [hi])
      clear hs
      go_wp2
      go_ret
      exact ⟨rfl, HSF.out, hm.out⟩

set_option maxHeartbeats 2000000 in
theorem heldSSV (v : Value) (n : Nat) (F : Nat → Value) (L : Nat → List Int) (k : Int) (w : World) (h : SSR w v n F) (hF : ∀ i, i < n → RV w (F i) (marks (k + ahead L i) (L i).length)) (hA : ahead L n ≤ 1048576) (hk0 : 0 ≤ k) (hk : k ≤ 1048576) :
    Calls Try.prog 20 #[v, .int .i64 k] w fun e w' => e = .returned (.int .i64 (k + ahead L n)) ∧ w' = w := by
  obtain ⟨a, cap, rfl, h1, h2, h3⟩ := h
  unfold maxLen at h2
  have H3 : Hid (0 < n → ∃ b o, a = some ⟨b, o, none⟩ ∧ b < w.heap.size ∧ ∀ i, i < n → w.cell? ⟨b, o + i, none⟩ = some (F i)) := h3
  have HF : Hid (∀ i, i < n → RV w (F i) (marks (k + ahead L i) (L i).length)) := hF
  clear h3 hF
  go_enter Try.func20, Try.ntmps20
  go_wp2
  go_loopw [1, 5] (fun q i wr => ∃ j : Nat, j ≤ n ∧ i = .int .i64 j ∧ q = .int .i64 (k + ahead L j) ∧ wr = w) (fun _ i _ => n - (intOf i).toNat)
  case atStart => exact ⟨0, Nat.zero_le _, rfl, by simp [ahead], rfl⟩
  case round =>
    obtain ⟨j, hj, rfl, rfl, rfl⟩ := hrel
    by_cases hlt : j < n
    · obtain ⟨b, o, rfl, _, hc⟩ := H3.out (by omega)
      have c0 := hc j hlt
      have hle := ahead_le L (show j + 1 ≤ n by omega)
      have hst : ahead L (j + 1) = ahead L j + (L j).length := rfl
      have hlt' : (j : Int) < (n : Int) := by omega
      have HAJ : Hid (ahead L (j + 1) = ahead L j + (L j).length) := hst
      have hkj : k + (ahead L j : Int) ≤ 1073741824 := by omega
      have hlj : (L j).length ≤ 2097152 := by omega
      have dk : decide (k + (ahead L j : Int) + ((L j).length : Int) < 0) = false := decide_eq_false (by omega)
      clear hc hst hle
      go_wp2_with (go_at_call 23; refine (heldV (F j) (L j).length _ wr (HF.out j hlt) hlj (by omega) hkj).mono ?_; rintro e w1 ⟨rfl, rfl⟩)
      go_roundw
      case rel => exact ⟨j + 1, by omega, by go_num, by rw [HAJ.out]; go_num, by first | rfl | trivial⟩
      case measure => simp [intOf]; omega
    · have hjn : j = n := by omega
      subst hjn
      go_wp2
      go_ret
      exact ⟨rfl, rfl⟩


end Go.Proofs.Ytdeogmkcomdbjaa
