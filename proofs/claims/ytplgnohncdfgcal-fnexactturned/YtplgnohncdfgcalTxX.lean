/- Lists of texts that a call made: held against one another, marked, held; while they grow; keys of rows. -/
import Derived.Test.YtplgnohncdfgcalSh0
import Derived.Test.YtplgnohncdfgcalMark
import Derived.Test.YtplgnohncdfgcalVal
import Derived.Test.YtplgnohncdfgcalInf
import Derived.Deep.RegionLawGrows
namespace Go.Proofs.Ytplgnohncdfgcal
open Go.RowKit


/-- A slice of n slices of bytes: F's are its cells. -/
def SSR (w : World) (v : Value) (n : Nat) (F : Nat → Value) : Prop :=
  ∃ a cap, v = .slice a n cap ∧ n ≤ cap ∧ cap ≤ maxLen ∧ (0 < n → ∃ b o, a = some ⟨b, o, none⟩ ∧ b < w.heap.size ∧ ∀ i, i < n → w.cell? ⟨b, o + i, none⟩ = some (F i))
theorem SSR.ext {w w' : World} {v : Value} {n : Nat} {F : Nat → Value} (h : SSR w v n F) (e : Ext w w') : SSR w' v n F := by
  obtain ⟨a, cap, hv, h1, h2, h3⟩ := h
  refine ⟨a, cap, hv, h1, h2, fun hn => ?_⟩
  obtain ⟨b, o, ha, hb, hc⟩ := h3 hn
  exact ⟨b, o, ha, Nat.lt_of_lt_of_le hb e.size, fun i hi => World.grownBy.cell e (hc i hi) (by simp)⟩

set_option maxHeartbeats 2000000 in
theorem eqSSV (v u : Value) (n : Nat) (F G : Nat → Value) (L : Nat → List Int) (w : World) (hv : SSR w v n F) (hu : SSR w u n G) (hF : ∀ i, i < n → RV w (F i) (L i)) (hG : ∀ i, i < n → RV w (G i) (L i)) (hl : ∀ i, i < n → (L i).length ≤ 2097152) :
    Calls Try.prog 12 #[v, u] w fun e w' => e = .returned (.bool true) ∧ ∃ q, w' = w.drewN q := by
  obtain ⟨a, cap, rfl, h1, h2, h3⟩ := hv
  obtain ⟨b, cap', rfl, h1', h2', h3'⟩ := hu
  unfold maxLen at h2 h2'
  have H3 : Hid (0 < n → ∃ b o, a = some ⟨b, o, none⟩ ∧ b < w.heap.size ∧ ∀ i, i < n → w.cell? ⟨b, o + i, none⟩ = some (F i)) := h3
  have H3' : Hid (0 < n → ∃ b' o, b = some ⟨b', o, none⟩ ∧ b' < w.heap.size ∧ ∀ i, i < n → w.cell? ⟨b', o + i, none⟩ = some (G i)) := h3'
  have HF : Hid (∀ i, i < n → RV w (F i) (L i) ∧ RV w (G i) (L i) ∧ (L i).length ≤ 2097152) := fun i hi => ⟨hF i hi, hG i hi, hl i hi⟩
  clear h3 h3' hF hG hl
  go_enter Try.func12, Try.ntmps12
  go_wp2
  go_loopw [5] (fun i wr => ∃ k q : Nat, k ≤ n ∧ i = .int .i64 k ∧ wr = w.drewN q) (fun i _ => n - (intOf i).toNat)
  case atStart => exact ⟨0, 0, Nat.zero_le _, rfl, rfl⟩
  case round =>
    obtain ⟨k, q, hk, rfl, rfl⟩ := hrel
    by_cases hlt : k < n
    · obtain ⟨x, o, rfl, hb1, hc⟩ := H3.out (by omega)
      obtain ⟨y, o', rfl, hb2, hc'⟩ := H3'.out (by omega)
      have c0 := hc k hlt
      have d0 := hc' k hlt
      obtain ⟨rf, rg, rl⟩ := HF.out k hlt
      have HR : Hid (∀ W', Ext w W' → Calls Try.prog 29 #[F k, G k] W' fun e w' => e = .returned (.bool true) ∧ ∃ m, w' = W'.drewN m) := fun W' e => eqV_yes _ _ (L k) _ (rf.ext e) (rg.ext e) rl
      have hlt' : (k : Int) < (n : Int) := by omega
      have c0' : (w.drewN q).cell? ⟨x, o + k, none⟩ = some (F k) := c0
      have d0' : (w.drewN q).cell? ⟨y, o' + k, none⟩ = some (G k) := d0
      obtain ⟨W, hW⟩ : ∃ W, w.drewN q = W := ⟨_, rfl⟩
      have HQ : Hid (w.drewN q = W) := hW
      have HX : Hid (Ext w W) := by rw [← hW]; exact ext_drewN _ _
      rw [hW] at c0' d0' ⊢
      clear hc hc' rf rg rl c0 d0 hW
      go_wp2
      go_quiet ((go_at_call 29; exact Calls.quiet_of (HR.out _ (HX.out.tr (ext_drewN _ _)))))
      go_wp2
      go_roundw
      case rel => exact ⟨k + 1, q + nq, by omega, by go_num, by rw [← HQ.out, World.drewN_drewN]⟩
      case measure => simp [intOf]; omega
    · have hkn : k = n := by omega
      subst hkn
      go_wp2
      go_ret
      exact ⟨rfl, q, rfl⟩

/-- How many bytes lie ahead of the text number i. -/
def ahead (L : Nat → List Int) : Nat → Nat
  | 0 => 0
  | i + 1 => ahead L i + (L i).length
theorem ahead_le (L : Nat → List Int) {i n : Nat} (h : i ≤ n) : ahead L i ≤ ahead L n := by
  induction n with
  | zero => obtain rfl : i = 0 := by omega
            exact Nat.le_refl _
  | succ n ih =>
    by_cases e : i = n + 1
    · subst e; exact Nat.le_refl _
    · exact Nat.le_trans (ih (by omega)) (Nat.le_add_right _ _)

/-- A list of texts that a call made: all blocks from lo up to hi, no two texts in one. -/
structure SSO (lo hi : Nat) (w : World) (v : Value) (n : Nat) (F : Nat → Value) (L : Nat → List Int) : Prop where
  row : v = .slice none 0 0 ∧ n = 0 ∨ ∃ (g cap : Nat) (cur : Array Value), v = .slice (some ⟨g, 0, none⟩) n cap ∧ lo ≤ g ∧ g < hi ∧ w.heap[g]? = some (.cells cur 44 (0, 0)) ∧ n ≤ cap ∧ cap ≤ maxLen ∧ cur.size = cap ∧ ∀ i, i < n → cur[i]? = some (F i)
  tx : ∀ i, i < n → Ow w lo (F i) (L i)
  up : ∀ i, i < n → ∀ k, (F i).ownBlock = some k → k < hi
  ap : ∀ i j, i < n → j < n → i ≠ j → (F i).ownBlock = none ∨ (F i).ownBlock ≠ (F j).ownBlock

theorem SSO.r {lo hi : Nat} {w : World} {v : Value} {n : Nat} {F : Nat → Value} {L : Nat → List Int} (h : SSO lo hi w v n F L) : SSR w v n F := by
  rcases h.row with ⟨rfl, rfl⟩ | ⟨g, cap, cur, rfl, h1, h2, h3, h4, h5, h6, h7⟩
  · exact ⟨none, 0, rfl, Nat.le_refl _, Nat.zero_le _, fun h => absurd h (by omega)⟩
  · refine ⟨_, cap, rfl, h4, h5, fun _ => ⟨g, 0, rfl, (Array.getElem?_eq_some_iff.1 h3).1, fun i hi => ?_⟩⟩
    rw [Nat.zero_add, cell_of_row w g _ cur 44 (0, 0) h3]
    exact h7 i hi
theorem SSO.ext {lo hi : Nat} {w w' : World} {v : Value} {n : Nat} {F : Nat → Value} {L : Nat → List Int} (h : SSO lo hi w v n F L) (e : Ext w w') : SSO lo hi w' v n F L := by
  refine ⟨?_, fun i hi => (h.tx i hi).ext e, h.up, h.ap⟩
  rcases h.row with h0 | ⟨g, cap, cur, rfl, h1, h2, h3, h4⟩
  · exact .inl h0
  · exact .inr ⟨g, cap, cur, rfl, h1, h2, (e.block g (Array.getElem?_eq_some_iff.1 h3).1 (by simp)).trans h3, h4⟩
theorem SSO.mid {lo hi lo' hi' : Nat} {w w' : World} {v : Value} {n : Nat} {F : Nat → Value} {L : Nat → List Int} (h : SSO lo hi w v n F L) (m : Mid lo' hi' w w') (hd : hi ≤ lo' ∨ hi' ≤ lo) : SSO lo hi w' v n F L := by
  refine ⟨?_, fun i hi => ow_mid (h.tx i hi) m (fun k hk => ?_), h.up, h.ap⟩
  · rcases h.row with h0 | ⟨g, cap, cur, rfl, h1, h2, h3, h4⟩
    · exact .inl h0
    · exact .inr ⟨g, cap, cur, rfl, h1, h2, (m.out g (Array.getElem?_eq_some_iff.1 h3).1 (by omega)).trans h3, h4⟩
  · have := h.up i hi k hk
    have := ((h.tx i hi).lt k hk).1
    omega
/-- One text turned, and nothing else. -/
theorem SSO.turn {lo hi : Nat} {w w' : World} {v : Value} {n : Nat} {F : Nat → Value} {L : Nat → List Int} (h : SSO lo hi w v n F L) (k : Nat) (hk : k < n) (xs : List Int) (ho : Ow w' lo (F k) xs) (hg : w.grownBy w' (F k).ownBlock) : SSO lo hi w' v n F (fun i => if i = k then xs else L i) := by
  refine ⟨?_, fun i hi => ?_, h.up, h.ap⟩
  · rcases h.row with h0 | ⟨g, cap, cur, rfl, h1, h2, h3, h4⟩
    · exact .inl h0
    · refine .inr ⟨g, cap, cur, rfl, h1, h2, (hg.block g (Array.getElem?_eq_some_iff.1 h3).1 (fun e => ?_)).trans h3, h4⟩
      rcases (h.tx k hk).2 with ⟨e0, _⟩ | ⟨g', cap', cur', e1, _, h5, _⟩
      · rw [e0] at e; cases e
      · rw [e1] at e
        cases e
        rw [h3] at h5
        simp at h5
  · show Ow w' lo (F i) (if i = k then xs else L i)
    by_cases e : i = k
    · subst e
      rw [if_pos rfl]
      exact ho
    · rw [if_neg e]
      exact (h.tx i hi).kept hg (by
        rcases h.ap i k hi hk e with h0 | h0
        · rw [h0]; simp
        · first | exact h0 | exact .inr h0 | exact .inl h0)


theorem SSO.as {lo hi : Nat} {w : World} {v : Value} {n : Nat} {F : Nat → Value} {L L' : Nat → List Int} (h : SSO lo hi w v n F L) (e : ∀ i, i < n → L i = L' i) : SSO lo hi w v n F L' :=
  ⟨h.row, fun i hi => by rw [← e i hi]; exact h.tx i hi, h.up, h.ap⟩

set_option maxHeartbeats 2000000 in
theorem markSSV (lo hi : Nat) (v : Value) (n : Nat) (F : Nat → Value) (L : Nat → List Int) (k : Int) (w : World) (h : SSO lo hi w v n F L) (hA : ahead L n ≤ 1048576) (hk0 : 0 ≤ k) (hk : k ≤ 1048576) :
    Calls Try.prog 15 #[v, .int .i64 k] w fun e w' => e = .returned (.int .i64 (k + ahead L n)) ∧ SSO lo hi w' v n F (fun i => marks (k + ahead L i) (L i).length) ∧ Mid lo hi w w' := by
  have hr := h.r
  have HS : Hid (SSO lo hi w v n F L) := h
  clear h
  obtain ⟨a, cap, rfl, h1, h2, h3⟩ := hr
  unfold maxLen at h2
  clear h3
  go_enter Try.func15, Try.ntmps15
  go_wp2
  go_loopw [1, 5] (fun q i wr => ∃ j : Nat, j ≤ n ∧ i = .int .i64 j ∧ q = .int .i64 (k + ahead L j) ∧ Hid (SSO lo hi wr (.slice a n cap) n F (fun i => if i < j then marks (k + ahead L i) (L i).length else L i)) ∧ Hid (Mid lo hi w wr)) (fun _ i _ => n - (intOf i).toNat)
  case atStart => exact ⟨0, Nat.zero_le _, rfl, by simp [ahead], HS.out.as (fun i _ => by simp), Mid.ext (Ext.re _)⟩
  case round =>
    obtain ⟨j, hj, rfl, rfl, hs, hm⟩ := hrel
    by_cases hlt : j < n
    · obtain ⟨_, _, e, _, _, h3⟩ := hs.out.r
      cases e
      obtain ⟨b, o, rfl, _, hc⟩ := h3 (by omega)
      have c0 := hc j hlt
      have hle := ahead_le L (show j + 1 ≤ n by omega)
      have hst : ahead L (j + 1) = ahead L j + (L j).length := rfl
      have ht := hs.out.tx j hlt
      simp only [Nat.lt_irrefl, if_false] at ht
      have HT : Hid (Ow wr lo (F j) (L j)) := ht
      have hlt' : (j : Int) < (n : Int) := by omega
      have HAJ : Hid (ahead L (j + 1) = ahead L j + (L j).length) := hst
      have hkj : k + (ahead L j : Int) ≤ 1073741824 := by omega
      have hlj : (L j).length ≤ 2097152 := by omega
      clear hc h3 ht hst hle
      go_wp2_with fail
      refine (markV lo (F j) (L j) _ wr HT.out hlj (by omega) hkj).mono ?_
      rintro e w1 ⟨rfl, o1, g1⟩
      have HS1 : Hid (SSO lo hi w1 (.slice (some ⟨b, o, none⟩) n cap) n F (fun i => if i < j + 1 then marks (k + ahead L i) (L i).length else L i)) := by
        refine (hs.out.turn j hlt _ o1 g1).as (fun i hi => ?_)
        by_cases e1 : i = j
        · subst e1
          simp
        · by_cases e2 : i < j
          · simp [e1, e2, show i < j + 1 by omega]
          · simp [e1, e2, show ¬ i < j + 1 by omega]
      have HM1 : Hid (Mid lo hi w w1) := hm.out.tr (mid_of_grown g1 (fun k hk => ⟨(HT.out.lt k hk).1, hs.out.up j hlt k hk⟩))
      clear o1 g1 hs hm
      go_wp2
      go_roundw
      case rel => exact ⟨j + 1, by omega, by go_num, by rw [HAJ.out]; go_num, HS1.out, HM1.out⟩
      case measure => simp [intOf]; omega
    · have hjn : j = n := by omega
      subst hjn
      have HSF : Hid (SSO lo hi wr (.slice a j cap) j F (fun i => marks (k + ahead L i) (L i).length)) := hs.out.as (fun i hi => by simp [hi])
      clear hs
      go_wp2
      go_ret
      exact ⟨rfl, HSF.out, hm.out⟩

set_option maxHeartbeats 2000000 in
theorem heldSSV (v : Value) (n : Nat) (F : Nat → Value) (L : Nat → List Int) (k : Int) (w : World) (h : SSR w v n F) (hF : ∀ i, i < n → RV w (F i) (marks (k + ahead L i) (L i).length)) (hA : ahead L n ≤ 1048576) (hk0 : 0 ≤ k) (hk : k ≤ 1048576) :
    Calls Try.prog 16 #[v, .int .i64 k] w fun e w' => e = .returned (.int .i64 (k + ahead L n)) ∧ w' = w := by
  obtain ⟨a, cap, rfl, h1, h2, h3⟩ := h
  unfold maxLen at h2
  have H3 : Hid (0 < n → ∃ b o, a = some ⟨b, o, none⟩ ∧ b < w.heap.size ∧ ∀ i, i < n → w.cell? ⟨b, o + i, none⟩ = some (F i)) := h3
  have HF : Hid (∀ i, i < n → RV w (F i) (marks (k + ahead L i) (L i).length)) := hF
  clear h3 hF
  go_enter Try.func16, Try.ntmps16
  go_wp2
  go_loopw [1, 5] (fun q i wr => ∃ j : Nat, j ≤ n ∧ i = .int .i64 j ∧ q = .int .i64 (k + ahead L j) ∧ wr = w) (fun _ i _ => n - (intOf i).toNat)
  case atStart => exact ⟨0, Nat.zero_le _, rfl, by simp [ahead], rfl⟩
  case round =>
    obtain ⟨j, hj, rfl, rfl, rfl⟩ := hrel
    by_cases hlt : j < n
    · obtain ⟨b, o, rfl, _, hc⟩ := H3.out (by omega)
      have c0 := hc j hlt
      have hle := ahead_le L (show j + 1 ≤ n by omega)
      have hst : ahead L (j + 1) = ahead L j + (L j).length := rfl
      have hlt' : (j : Int) < (n : Int) := by omega
      have HAJ : Hid (ahead L (j + 1) = ahead L j + (L j).length) := hst
      have hkj : k + (ahead L j : Int) ≤ 1073741824 := by omega
      have hlj : (L j).length ≤ 2097152 := by omega
      have dk : decide (k + (ahead L j : Int) + ((L j).length : Int) < 0) = false := decide_eq_false (by omega)
      clear hc hst hle
      go_wp2_with (go_at_call 32; refine (heldV (F j) (L j).length _ wr (HF.out j hlt) hlj (by omega) hkj).mono ?_; rintro e w1 ⟨rfl, rfl⟩)
      go_roundw
      case rel => exact ⟨j + 1, by omega, by go_num, by rw [HAJ.out]; go_num, by first | rfl | trivial⟩
      case measure => simp [intOf]; omega
    · have hjn : j = n := by omega
      subst hjn
      go_wp2
      go_ret
      exact ⟨rfl, rfl⟩


theorem infoTB : (Try.prog.info? 44).map (fun i => (i.zero, i.size, i.bytes)) = some (some (.slice none 0 0), 1, 24) := by kernel_rfl

/-- 'append(out, x)' at a list of texts that is the call's own, as one step. -/
theorem step_append_tb {ops : Array Oper} {o : Oper} {a : Act} {w : World} {K : Act → World → Prop} {Q : Exit → Act → World → Prop} {E : Prop} (hgd : o.guard = none) (s x : Operand)
    (ho : o.op = .call { callee := .builtin .append, args := #[s, x], argTypes := #[29, 29] })
    (base : Nat) (v : Value) (n : Nat) (xs : List Value) (hs : a.eval s = v) (hown : w.ownsRow base 44 1 v n xs)
    (g : Nat) (u : Value) (hx : a.eval x = .slice (some ⟨g, 0, none⟩) 1 1) (hc : w.cell? ⟨g, 0, none⟩ = some u) (h1 : u.oneCell' = true)
    (hb : n ≤ 1048576) (hbase : base ≤ w.heap.size)
    (h : ∀ v' w', w'.ownsRow base 44 1 v' (n + 1) (xs ++ [u]) → w.grownBy w' v.ownBlock → K (a.put o.dst v') w') :
    if Region.wanted o (yielded ops a.tmps) = true then Oper.wp Try.prog o a w K Q else E := by
  have hw : Region.wanted o (yielded ops a.tmps) = true := by simp [Region.wanted, hgd]
  rw [if_pos hw]
  obtain ⟨i0, hi, hz0, hz1, hz2⟩ := info_parts infoTB
  obtain ⟨v', w', hrun, r1, r2, _⟩ := run_append_own (P := Try.prog) w base 29 o.type 44 i0 (.slice none 0 0) 1 24 Try.underlying29 hi hz0 hz1 hz2 rfl (by decide) v n xs hown ⟨g, 0, none⟩ 1 1 [u] (by simp)
    (fun j u' hj => by
      cases j with
      | zero =>
        simp at hj
        subst hj
        rw [Addr.add_lit]
        exact hc
      | succ j => simp at hj) (fun y hy => by simp at hy; subst hy; exact h1) (by unfold maxLen; omega) (by omega) hbase
  unfold Oper.wp
  simp [execOp, ho, resolve, invoke, builtin, hs, hx, hrun, Result.andThen]
  exact h v' w' r1 r2

/-- The same, in a region that goes in the order of the text. -/
theorem wpList_append_tb (w : World) {ops : Array Oper} {rest : List Oper} {o : Oper} {a : Act} {Q : Exit → Act → World → Prop} (hgd : o.guard = none) (s x : Operand)
    (ho : o.op = .call { callee := .builtin .append, args := #[s, x], argTypes := #[29, 29] })
    (base : Nat) (v : Value) (n : Nat) (xs : List Value) (hs : a.eval s = v) (hown : w.ownsRow base 44 1 v n xs)
    (g : Nat) (u : Value) (hx : a.eval x = .slice (some ⟨g, 0, none⟩) 1 1) (hc : w.cell? ⟨g, 0, none⟩ = some u) (h1 : u.oneCell' = true)
    (hb : n ≤ 1048576) (hbase : base ≤ w.heap.size)
    (h : ∀ v' w', w'.ownsRow base 44 1 v' (n + 1) (xs ++ [u]) → w.grownBy w' v.ownBlock → wpList Try.prog ops Q rest (a.put o.dst v') w') : wpList Try.prog ops Q (o :: rest) a w := by
  obtain ⟨i0, hi, hz0, hz1, hz2⟩ := info_parts infoTB
  exact wpList_append_own (P := Try.prog) w hgd s x 29 ho base 44 i0 (.slice none 0 0) 1 24 Try.underlying29 hi hz0 hz1 hz2 rfl (by decide) v n xs hs hown ⟨g, 0, none⟩ 1 1 [u] hx (by simp)
    (fun j u' hj => by
      cases j with
      | zero =>
        simp at hj
        subst hj
        rw [Addr.add_lit]
        exact hc
      | succ j => simp at hj) (fun y hy => by simp at hy; subst hy; exact h1) (by unfold maxLen; omega) (by omega) hbase (fun v' w' r1 r2 _ => h v' w' r1 r2)

/-- A list of texts while it grows. -/
structure SSG (lo : Nat) (w : World) (v : Value) (n : Nat) (F : Nat → Value) (L : Nat → List Int) : Prop where
  row : w.ownsRow lo 44 1 v n ((List.range n).map F)
  tx : ∀ i, i < n → Ow w lo (F i) (L i)
  ap : ∀ i j, i < n → j < n → i ≠ j → (F i).ownBlock = none ∨ (F i).ownBlock ≠ (F j).ownBlock

theorem SSG.o {lo : Nat} {w : World} {v : Value} {n : Nat} {F : Nat → Value} {L : Nat → List Int} (h : SSG lo w v n F L) : SSO lo w.heap.size w v n F L := by
  refine ⟨?_, h.tx, fun i hi k hk => ((h.tx i hi).lt k hk).2, h.ap⟩
  rcases h.row.2 with h0 | ⟨g, cap, cur, rfl, h1, h2, h3, h4, h5, h6⟩
  · exact .inl h0
  · refine .inr ⟨g, cap, cur, rfl, h1, (Array.getElem?_eq_some_iff.1 h2).1, h2, h3, h4, by omega, fun i hi => ?_⟩
    have e : (cur.toList.take (n * 1))[i]? = some (F i) := by rw [h6]; simp [hi]
    rw [List.getElem?_take] at e
    rw [if_pos (by omega)] at e
    simpa using e
theorem SSG.nil (lo : Nat) (w : World) (F : Nat → Value) (L : Nat → List Int) : SSG lo w (.slice none 0 0) 0 F L :=
  ⟨World.ownsRow_nil _ _ _ _, fun i hi => absurd hi (by omega), fun i j hi => absurd hi (by omega)⟩
theorem SSG.ext {lo : Nat} {w w' : World} {v : Value} {n : Nat} {F : Nat → Value} {L : Nat → List Int} (h : SSG lo w v n F L) (e : Ext w w') : SSG lo w' v n F L :=
  ⟨h.row.kept e (by cases hv : v.ownBlock <;> simp), fun i hi => (h.tx i hi).ext e, h.ap⟩
/-- The next one: its text was made when all others lay there. -/
theorem SSG.next {lo : Nat} {w w' : World} {v v' : Value} {n : Nat} {F : Nat → Value} {L : Nat → List Int} {u : Value} {xs : List Int} {b2 : Nat} (h : SSG lo w v n F L) (hu : Ow w lo u xs) (hub : Ow w b2 u xs) (hnew : ∀ i, i < n → ∀ k, (F i).ownBlock = some k → k < b2)
    (hr : w'.ownsRow lo 44 1 v' (n + 1) ((List.range n).map F ++ [u])) (hg : w.grownBy w' v.ownBlock) : SSG lo w' v' (n + 1) (fun i => if i = n then u else F i) (fun i => if i = n then xs else L i) := by
  have far : ∀ (x : Value) (ys : List Int), Ow w lo x ys → x.ownBlock = none ∨ x.ownBlock ≠ v.ownBlock := fun x ys hx => by
    rcases hx.2 with ⟨rfl, _⟩ | ⟨g, cap, cur, rfl, _, h5, _⟩
    · exact .inl rfl
    · right
      intro e
      rcases h.row.2 with ⟨rfl, _⟩ | ⟨g', cap', cur', rfl, _, h6, _⟩
      · cases e
      · cases e
        rw [h5] at h6
        simp at h6
  refine ⟨?_, fun i hi => ?_, fun i j hi hj hij => ?_⟩
  · have e : (List.range (n + 1)).map (fun i => if i = n then u else F i) = (List.range n).map F ++ [u] := by
      rw [List.range_succ, List.map_append]
      congr 1
      · refine List.map_congr_left fun i hi => ?_
        have : i < n := List.mem_range.1 hi
        rw [if_neg (by omega)]
      · simp
    rw [e]
    exact hr
  · show Ow w' lo (if i = n then u else F i) (if i = n then xs else L i)
    by_cases e : i = n
    · rw [if_pos e, if_pos e]
      exact hu.kept hg (far u xs hu)
    · rw [if_neg e, if_neg e]
      exact (h.tx i (by omega)).kept hg (far _ _ (h.tx i (by omega)))
  · show (if i = n then u else F i).ownBlock = none ∨ (if i = n then u else F i).ownBlock ≠ (if j = n then u else F j).ownBlock
    by_cases e : i = n
    · rw [if_pos e, if_neg (by omega)]
      cases hk : u.ownBlock with
      | none => exact .inl rfl
      | some k =>
        right
        intro e2
        have := hnew j (by omega) k e2.symm
        have := (hub.lt k hk).1
        omega
    · rw [if_neg e]
      by_cases e' : j = n
      · rw [if_pos e']
        cases hk : (F i).ownBlock with
        | none => exact .inl rfl
        | some k =>
          right
          intro e2
          have := hnew i (by omega) k hk
          have := (hub.lt k e2.symm).1
          omega
      · rw [if_neg e']
        exact h.ap i j (by omega) (by omega) hij


theorem SSG.as {lo : Nat} {w : World} {v : Value} {n n' : Nat} {F : Nat → Value} {L L' : Nat → List Int} (h : SSG lo w v n F L) (hn : n = n') (e : ∀ i, i < n → L i = L' i) : SSG lo w v n' F L' := by
  subst hn
  exact ⟨h.row, fun i hi => by rw [← e i hi]; exact h.tx i hi, h.ap⟩

/-- The keys of the rows that p wants. -/
def keysP (p : DRow → Bool) (rs : List DRow) : List (List Int) := (rs.filter p).map (·.key)
theorem keysP_next (p : DRow → Bool) (rs : List DRow) (k : Nat) (r : DRow) (h : rs[k]? = some r) : keysP p (rs.take (k + 1)) = keysP p (rs.take k) ++ (if p r = true then [r.key] else []) := by
  unfold keysP
  rw [List.take_add_one, h]
  simp [List.filter_append, List.filter_cons]
  split <;> simp_all

def at_ (l : List (List Int)) (i : Nat) : List Int := l.getD i []
theorem at_push (l : List (List Int)) (x : List Int) (i : Nat) (hi : i < l.length + 1) : (if i = l.length then x else at_ l i) = at_ (l ++ [x]) i := by
  unfold at_
  by_cases e : i = l.length
  · subst e
    simp [List.getD]
  · rw [if_neg e]
    have : i < l.length := by omega
    simp [List.getD, List.getElem?_append_left this]

/-- What a walk through such a loop knows: the state's box. -/
structure GI (w : World) (st : Array Value) (wr : World) : Prop where
  b : Below w.heap.size w wr
  r : wr.heap[w.heap.size]? = some (.cells st 37 (0, 0))
theorem grown_alloc {w w' : World} {o : Obj} (h : (w.alloc o).grownBy w' (some w.heap.size)) : w.grownBy w' (some w.heap.size) := by
  have e0 : Ext w (w.alloc o) := World.grownBy_alloc _ _ _
  exact ⟨h.os.trans e0.os, h.tape.trans e0.tape, h.output.trans e0.output, Nat.le_trans e0.size h.size, fun j hj hne => (h.block j (Nat.lt_of_lt_of_le hj e0.size) hne).trans (e0.block j hj (by simp))⟩
theorem grown_size {w w' : World} {o : Obj} {r : Option Nat} (h : (w.alloc o).grownBy w' r) : w.heap.size + 1 ≤ w'.heap.size := by
  have := h.size
  simpa using this
theorem GI.far {w : World} {st : Array Value} {wr u : World} {g : Nat} (h : GI w st wr) (e : wr.grownBy u (some g)) (hg : wr.heap.size ≤ g) : GI w st u := by
  have hl := (Array.getElem?_eq_some_iff.1 h.r).1
  exact ⟨h.b.grown e h.b.size (fun k hk => by cases hk; have := h.b.size; omega), (e.block _ hl (by intro e2; cases e2; omega)).trans h.r⟩
theorem hB8ext {w : World} {st : Array Value} {wr u : World} (h : GI w st wr) (e : Ext wr u) : GI w st u :=
  ⟨h.b.grown e h.b.size (fun k hk => by cases hk), (e.block _ (Array.getElem?_eq_some_iff.1 h.r).1 (by simp)).trans h.r⟩
theorem GI.row {w : World} {st : Array Value} {wr u : World} {v : Value} {n : Nat} {xs : List Value} (h : GI w st wr) (hr : wr.ownsRow w.heap.size 44 1 v n xs) (e : wr.grownBy u v.ownBlock) : GI w st u := by
  refine ⟨h.b.grown e h.b.size (fun k hk => (hr.lt k hk).1), (e.block _ (Array.getElem?_eq_some_iff.1 h.r).1 (fun e2 => ?_)).trans h.r⟩
  rcases hr.2 with ⟨rfl, _⟩ | ⟨g', cap', cur', rfl, _, h6, _⟩
  · cases e2
  · have e3 : w.heap.size = g' := Option.some.inj e2
    have h7 := h.r
    rw [e3, h6] at h7
    simp at h7
theorem SSG.far {lo : Nat} {w w' : World} {v : Value} {n : Nat} {F : Nat → Value} {L : Nat → List Int} {g : Nat} (h : SSG lo w v n F L) (e : w.grownBy w' (some g)) (hg : w.heap.size ≤ g) : SSG lo w' v n F L := by
  refine ⟨?_, fun i hi => ?_, h.ap⟩
  · refine h.row.kept e ?_
    cases hv : v.ownBlock with
    | none => exact .inl rfl
    | some k => exact .inr (by have h5 := (h.row.lt k hv).2; intro e2; cases e2; omega)
  · refine (h.tx i hi).kept e ?_
    cases hv : (F i).ownBlock with
    | none => exact .inl rfl
    | some k => exact .inr (by have h5 := ((h.tx i hi).lt k hv).2; intro e2; cases e2; omega)
theorem keyB_len' {xs : List Int} (h : keyB xs = true) : xs.length ≤ 2097152 := by
  unfold keyB at h
  simp only [Bool.and_eq_true, decide_eq_true_eq] at h
  omega

theorem keysP_in {p : DRow → Bool} {rs : List DRow} {i : Nat} (hi : i < (keysP p rs).length) : ∃ (j : Nat) (r : DRow), rs[j]? = some r ∧ at_ (keysP p rs) i = r.key := by
  unfold at_
  have e : (keysP p rs)[i]? = some ((keysP p rs)[i]) := List.getElem?_eq_getElem hi
  have hm : (keysP p rs)[i] ∈ keysP p rs := List.getElem_mem hi
  unfold keysP at hm
  obtain ⟨r, hr, hk⟩ := List.mem_map.1 hm
  obtain ⟨j, hj⟩ := List.mem_iff_getElem?.1 (List.mem_filter.1 hr).1
  refine ⟨j, r, hj, ?_⟩
  simp only [List.getD, e, Option.getD_some]
  exact hk.symm
theorem keysP_len (p : DRow → Bool) (rs : List DRow) : (keysP p rs).length ≤ rs.length := by
  unfold keysP
  rw [List.length_map]
  exact List.length_filter_le _ _
theorem ahead_all {L : Nat → List Int} {n B : Nat} (h : ∀ i, i < n → (L i).length ≤ B) : ahead L n ≤ n * B := by
  induction n with
  | zero => simp [ahead]
  | succ n ih =>
    have h1 := ih (fun i hi => h i (by omega))
    have h2 := h n (by omega)
    show ahead L n + (L n).length ≤ (n + 1) * B
    rw [Nat.succ_mul]
    omega
theorem keyB_20 {xs : List Int} (h : keyB xs = true) : xs.length ≤ 20 := by
  unfold keyB at h
  simp only [Bool.and_eq_true, decide_eq_true_eq] at h
  omega
theorem SSG.down {lo lo' : Nat} {w : World} {v : Value} {n : Nat} {F : Nat → Value} {L : Nat → List Int} (h : SSG lo w v n F L) (hl : lo' ≤ lo) : SSG lo' w v n F L := by
  refine ⟨⟨h.row.1, ?_⟩, fun i hi => ow_base (h.tx i hi) hl, h.ap⟩
  rcases h.row.2 with h0 | ⟨g, cap, cur, hv, h1, r⟩
  · exact .inl h0
  · exact .inr ⟨g, cap, cur, hv, by omega, r⟩
/-- What a list of a state's keys is bounded by. -/
structure KB (l : List (List Int)) : Prop where
  n : l.length ≤ 1000
  len : ∀ i, i < l.length → (at_ l i).length ≤ 20
  rng : ∀ i, i < l.length → ∀ x ∈ at_ l i, 0 ≤ x ∧ x ≤ 255
theorem KB.nil : KB [] := ⟨by simp, fun i hi => absurd hi (by simp), fun i hi => absurd hi (by simp)⟩

end Go.Proofs.Ytplgnohncdfgcal
