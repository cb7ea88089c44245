
/- Copies whose parts lie apart. -/
import Derived.Test.YtjkhadaoldbceaaMkL
namespace Go.Proofs.Ytjkhadaoldbceaa
open Go.RowKit

/-- The blocks from lo on, below hi. -/
def Rg (lo hi : Nat) : Nat → Prop := fun b => lo ≤ b ∧ b < hi
theorem ows_of {w : World} {base lo : Nat} {v : Value} {xs : List Int} (h : Ow w base v xs) (hr : ∀ x ∈ xs, 0 ≤ x ∧ x ≤ 255) (hl : lo ≤ base) : OwS (Rg lo w.heap.size) w v xs := ⟨⟨ow_base h (Nat.zero_le _), hr⟩, fun b hb => by
  have := World.ownsRow.lt h b hb
  exact ⟨by omega, this.2⟩⟩
theorem lo_mono {lo : Nat → Nat} {k : Nat} (h : ∀ i, i < k → lo i ≤ lo (i + 1)) : ∀ i, i ≤ k → lo 0 ≤ lo i := by
  intro i
  induction i with
  | zero => intro _; exact Nat.le_refl _
  | succ i ih => intro hi; exact Nat.le_trans (ih (by omega)) (h i (by omega))
theorem lo_mono2 {lo : Nat → Nat} {k : Nat} (h : ∀ i, i < k → lo i ≤ lo (i + 1)) (a : Nat) : ∀ c, a ≤ c → c ≤ k → lo a ≤ lo c := by
  intro c
  induction c with
  | zero =>
    intro h1 _
    have : a = 0 := by omega
    subst this
    exact Nat.le_refl _
  | succ c ih =>
    intro h1 h2
    rcases Nat.lt_or_ge a (c + 1) with h3 | h3
    · exact Nat.le_trans (ih (by omega) (by omega)) (h c (by omega))
    · have : a = c + 1 := by omega
      subst this
      exact Nat.le_refl _
theorem lo_next {lo : Nat → Nat} {k B s s' : Nat} (h : B < lo 0 ∧ (∀ i, i < k → lo i ≤ lo (i + 1)) ∧ lo k ≤ s) (hs : s ≤ s') : B < (fun i => if i ≤ k then lo i else s') 0 ∧ (∀ i, i < k + 1 → (fun i => if i ≤ k then lo i else s') i ≤ (fun i => if i ≤ k then lo i else s') (i + 1)) ∧ (fun i => if i ≤ k then lo i else s') (k + 1) ≤ s' := by
  refine ⟨by simpa using h.1, fun i hi => ?_, ?_⟩
  · by_cases e : i = k
    · subst e
      show (if i ≤ i then lo i else s') ≤ (if i + 1 ≤ i then lo (i + 1) else s')
      rw [if_pos (Nat.le_refl _), if_neg (by omega)]
      omega
    · show (if i ≤ k then lo i else s') ≤ (if i + 1 ≤ k then lo (i + 1) else s')
      rw [if_pos (by omega), if_pos (by omega)]
      exact h.2.1 i (by omega)
  · show (if k + 1 ≤ k then lo (k + 1) else s') ≤ s'
    rw [if_neg (by omega)]
    exact Nat.le_refl _

set_option maxHeartbeats 4000000 in
theorem toS_KD (v : Value) (ss : List DChk) (w : World) (h : VChks w v ss) (hn : ss.length ≤ 1048576) (hlen : ∀ (i : Nat) (s : DChk), ss[i]? = some s → s.name.length ≤ 1048576) :
    Calls Try.prog 67 #[v] w fun e w' => ∃ b, e = .returned (.slice (some ⟨b, 0, none⟩) ss.length ss.length) ∧ OKD (Rg w.heap.size w'.heap.size) w' (.slice (some ⟨b, 0, none⟩) ss.length ss.length) ss ∧ Below w.heap.size w w' := by
  obtain ⟨C, ⟨a, cap, rfl, h1, h2, h3⟩, hC⟩ := h
  have HC : Hid (∀ i d, ss[i]? = some d → RV w (C i 0) d.name ∧ C i 1 = .int .i64 d.ttl ∧ C i 2 = .int .i64 d.most ∧ C i 3 = .int .i64 d.st ∧ C i 4 = .int .i64 d.age ∧ C i 5 = .int .i64 d.fails) := hC
  clear hC
  obtain ⟨n, hnn⟩ : ∃ n, n = ss.length := ⟨_, rfl⟩
  rw [← hnn] at h1 h3 hn ⊢
  have HN : Hid (n = ss.length) := hnn
  clear hnn
  have H3 : Hid (0 < n → ∃ b o, a = some ⟨b, o, none⟩ ∧ b < w.heap.size ∧ ∀ i, i < n → ∀ j, j < 6 → w.cell? ⟨b, o + i * 6 + j, none⟩ = some (C i j)) := h3
  clear h3
  have HLN : Hid (∀ (i : Nat) (s : DChk), ss[i]? = some s → s.name.length ≤ 1048576) := hlen
  clear hlen
  obtain ⟨i0, hi, hz0, hz1, hz2⟩ := info_parts info_K
  have hml : n ≤ maxLen := by unfold maxLen; omega
  have hml2 : (n : Int) ≤ 1048576 := by omega
  go_enter Try.func67, Try.ntmps67
  go_wp2_with (at_make; refine wpList_make_full _ rfl _ _ 52 rfl w.heap.size 43 i0 (.agg #[.slice none 0 0, .int .i64 0, .int .i64 0, .int .i64 0, .int .i64 0, .int .i64 0]) 6 Try.underlying52 hi hz0 hz1 _ _ _ _ n rfl rfl rfl rfl ?b1 ?b2 ?b3 ?_)
  case b1 => rw [hz2]; omega
  case b2 => exact hml
  case b3 => exact Nat.le_refl _
  intro w1 hown hgr
  have hb1 : Below w.heap.size w w1 := (Below.refl _ _).grown hgr (Nat.le_refl _) (fun k hk => by cases hk)
  have hbk := blk_made (F := fun _ _ => .bool true) hown
  clear hown hgr
  go_wp2
  go_loopw [4] (fun i wr => ∃ k : Nat, k ≤ n ∧ i = .int .i64 k ∧ Below w.heap.size w wr ∧ ∃ (F : Nat → Nat → Value) (lo : Nat → Nat), Blk wr w.heap.size 43 6 n k F ∧ Hid (w.heap.size < lo 0 ∧ (∀ i, i < k → lo i ≤ lo (i + 1)) ∧ lo k ≤ wr.heap.size) ∧ Hid (∀ i s, i < k → ss[i]? = some s → OwS (Rg (lo i) (lo (i + 1))) wr (F i 0) s.name ∧ F i 1 = .int .i64 s.ttl ∧ F i 2 = .int .i64 s.most ∧ F i 3 = .int .i64 s.st ∧ F i 4 = .int .i64 s.age ∧ F i 5 = .int .i64 s.fails)) (fun i _ => n - (intOf i).toNat)
  case atStart => exact ⟨0, Nat.zero_le _, rfl, hb1, _, fun _ => w.heap.size + 1, hbk, ⟨Nat.lt_succ_self _, fun i hi => absurd hi (by omega), blk_lt hbk⟩, fun i s hi => absurd hi (by omega)⟩
  case round =>
    obtain ⟨k, hk, rfl, hb, F, lo, hF, hlo, hall⟩ := hrel
    clear hbk hb1
    by_cases hlt : k < n
    · obtain ⟨b, o, rfl, hbl, hc⟩ := H3.out (by omega)
      obtain ⟨s, hs⟩ : ∃ s, ss[k]? = some s := ⟨_, List.getElem?_eq_getElem (by have := HN.out; omega)⟩
      obtain ⟨e0, e1, e2, e3, e4, e5⟩ := HC.out k s hs
      have X := ext_below hb
      have c0 := World.grownBy.cell X (hc k hlt 0 (by omega)) (by simp)
      rw [Nat.add_zero] at c0
      have cr0 := e0.ext X
      obtain ⟨ca0, cp0, cx0, _, _, _⟩ := e0
      rw [cx0] at cr0 c0
      have c1 := World.grownBy.cell X (hc k hlt 1 (by omega)) (by simp)
      rw [e1] at c1
      have c2 := World.grownBy.cell X (hc k hlt 2 (by omega)) (by simp)
      rw [e2] at c2
      have c3 := World.grownBy.cell X (hc k hlt 3 (by omega)) (by simp)
      rw [e3] at c3
      have c4 := World.grownBy.cell X (hc k hlt 4 (by omega)) (by simp)
      rw [e4] at c4
      have c5 := World.grownBy.cell X (hc k hlt 5 (by omega)) (by simp)
      rw [e5] at c5
      have hlt' : (k : Int) < (n : Int) := by omega
      clear hc
      go_wp2_with fail
      refine (toChk _ s wr ⟨_, rfl, cr0⟩ (HLN.out k s hs)).mono ?_
      rintro e w2 ⟨a5, p5, rfl, ok, b2⟩
      have HLO := (show Hid (w.heap.size < (fun i => if i ≤ k then lo i else w2.heap.size) 0 ∧ (∀ i, i < k + 1 → (fun i => if i ≤ k then lo i else w2.heap.size) i ≤ (fun i => if i ≤ k then lo i else w2.heap.size) (i + 1)) ∧ (fun i => if i ≤ k then lo i else w2.heap.size) (k + 1) ≤ w2.heap.size) from lo_next hlo.out b2.size)
      have OK0 : OwS (Rg (lo k) w2.heap.size) w2 (.slice a5 s.name.length p5) s.name := ows_of ok (rv_rngK cr0) hlo.out.2.2
      have hF2 := blk_kept hF (b2.block _ (blk_lt hF))
      have hgl := blk_lt hF
      have hb2 := hb.trans (b2.mono hb.size)
      obtain ⟨⟨u0, d0⟩, f0⟩ := blk_cell hF2 (k * 6) (by omega)
      obtain ⟨⟨u1, d1⟩, f1⟩ := blk_cell hF2 (k * 6 + 1) (by omega)
      obtain ⟨⟨u2, d2⟩, f2⟩ := blk_cell hF2 (k * 6 + 2) (by omega)
      obtain ⟨⟨u3, d3⟩, f3⟩ := blk_cell hF2 (k * 6 + 3) (by omega)
      obtain ⟨⟨u4, d4⟩, f4⟩ := blk_cell hF2 (k * 6 + 4) (by omega)
      obtain ⟨⟨u5, d5⟩, f5⟩ := blk_cell hF2 (k * 6 + 5) (by omega)
      have G := blk_next (blk_set (blk_set (blk_set (blk_set (blk_set (blk_set hF2 (k * 6) (by omega) (.slice a5 s.name.length p5)) (k * 6 + 1) (by omega) (.int .i64 s.ttl)) (k * 6 + 2) (by omega) (.int .i64 s.most)) (k * 6 + 3) (by omega) (.int .i64 s.st)) (k * 6 + 4) (by omega) (.int .i64 s.age)) (k * 6 + 5) (by omega) (.int .i64 s.fails)) (fun j => if j = 0 then .slice a5 s.name.length p5 else if j = 1 then .int .i64 s.ttl else if j = 2 then .int .i64 s.most else if j = 3 then .int .i64 s.st else if j = 4 then .int .i64 s.age else .int .i64 s.fails) (fun j hj => by
        have hj : j = 0 ∨ j = 1 ∨ j = 2 ∨ j = 3 ∨ j = 4 ∨ j = 5 := by omega
        rcases hj with rfl | rfl | rfl | rfl | rfl | rfl <;> simp [*, go_sem])
      have HG : Hid (Blk ((((((w2.setCell ⟨w.heap.size, k * 6, none⟩ (.slice a5 s.name.length p5)).setCell ⟨w.heap.size, k * 6 + 1, none⟩ (.int .i64 s.ttl)).setCell ⟨w.heap.size, k * 6 + 2, none⟩ (.int .i64 s.most)).setCell ⟨w.heap.size, k * 6 + 3, none⟩ (.int .i64 s.st)).setCell ⟨w.heap.size, k * 6 + 4, none⟩ (.int .i64 s.age)).setCell ⟨w.heap.size, k * 6 + 5, none⟩ (.int .i64 s.fails)) w.heap.size 43 6 n (k + 1) (fun i j => if i = k then (if j = 0 then .slice a5 s.name.length p5 else if j = 1 then .int .i64 s.ttl else if j = 2 then .int .i64 s.most else if j = 3 then .int .i64 s.st else if j = 4 then .int .i64 s.age else .int .i64 s.fails) else F i j)) := G
      have HBF : Hid (Below w.heap.size w ((((((w2.setCell ⟨w.heap.size, k * 6, none⟩ (.slice a5 s.name.length p5)).setCell ⟨w.heap.size, k * 6 + 1, none⟩ (.int .i64 s.ttl)).setCell ⟨w.heap.size, k * 6 + 2, none⟩ (.int .i64 s.most)).setCell ⟨w.heap.size, k * 6 + 3, none⟩ (.int .i64 s.st)).setCell ⟨w.heap.size, k * 6 + 4, none⟩ (.int .i64 s.age)).setCell ⟨w.heap.size, k * 6 + 5, none⟩ (.int .i64 s.fails))) := ((((((hb2.setCell (Nat.le_refl _) _).setCell (Nat.le_refl _) _).setCell (Nat.le_refl _) _).setCell (Nat.le_refl _) _).setCell (Nat.le_refl _) _).setCell (Nat.le_refl _) _)
      have TS : Trn (fun b => b = w.heap.size) w2 ((((((w2.setCell ⟨w.heap.size, k * 6, none⟩ (.slice a5 s.name.length p5)).setCell ⟨w.heap.size, k * 6 + 1, none⟩ (.int .i64 s.ttl)).setCell ⟨w.heap.size, k * 6 + 2, none⟩ (.int .i64 s.most)).setCell ⟨w.heap.size, k * 6 + 3, none⟩ (.int .i64 s.st)).setCell ⟨w.heap.size, k * 6 + 4, none⟩ (.int .i64 s.age)).setCell ⟨w.heap.size, k * 6 + 5, none⟩ (.int .i64 s.fails)) := ((((((Trn.refl (fun b => b = w.heap.size) w2).trans (Trn.set _ _ _ _ _ rfl)).trans (Trn.set _ _ _ _ _ rfl)).trans (Trn.set _ _ _ _ _ rfl)).trans (Trn.set _ _ _ _ _ rfl)).trans (Trn.set _ _ _ _ _ rfl)).trans (Trn.set _ _ _ _ _ rfl)
      have HA : Hid (∀ i r, i < k + 1 → ss[i]? = some r → OwS (Rg ((fun i => if i ≤ k then lo i else w2.heap.size) i) ((fun i => if i ≤ k then lo i else w2.heap.size) (i + 1))) ((((((w2.setCell ⟨w.heap.size, k * 6, none⟩ (.slice a5 s.name.length p5)).setCell ⟨w.heap.size, k * 6 + 1, none⟩ (.int .i64 s.ttl)).setCell ⟨w.heap.size, k * 6 + 2, none⟩ (.int .i64 s.most)).setCell ⟨w.heap.size, k * 6 + 3, none⟩ (.int .i64 s.st)).setCell ⟨w.heap.size, k * 6 + 4, none⟩ (.int .i64 s.age)).setCell ⟨w.heap.size, k * 6 + 5, none⟩ (.int .i64 s.fails)) ((fun i j => if i = k then (if j = 0 then .slice a5 s.name.length p5 else if j = 1 then .int .i64 s.ttl else if j = 2 then .int .i64 s.most else if j = 3 then .int .i64 s.st else if j = 4 then .int .i64 s.age else .int .i64 s.fails) else F i j) i 0) r.name ∧ (fun i j => if i = k then (if j = 0 then .slice a5 s.name.length p5 else if j = 1 then .int .i64 s.ttl else if j = 2 then .int .i64 s.most else if j = 3 then .int .i64 s.st else if j = 4 then .int .i64 s.age else .int .i64 s.fails) else F i j) i 1 = .int .i64 r.ttl ∧ (fun i j => if i = k then (if j = 0 then .slice a5 s.name.length p5 else if j = 1 then .int .i64 s.ttl else if j = 2 then .int .i64 s.most else if j = 3 then .int .i64 s.st else if j = 4 then .int .i64 s.age else .int .i64 s.fails) else F i j) i 2 = .int .i64 r.most ∧ (fun i j => if i = k then (if j = 0 then .slice a5 s.name.length p5 else if j = 1 then .int .i64 s.ttl else if j = 2 then .int .i64 s.most else if j = 3 then .int .i64 s.st else if j = 4 then .int .i64 s.age else .int .i64 s.fails) else F i j) i 3 = .int .i64 r.st ∧ (fun i j => if i = k then (if j = 0 then .slice a5 s.name.length p5 else if j = 1 then .int .i64 s.ttl else if j = 2 then .int .i64 s.most else if j = 3 then .int .i64 s.st else if j = 4 then .int .i64 s.age else .int .i64 s.fails) else F i j) i 4 = .int .i64 r.age ∧ (fun i j => if i = k then (if j = 0 then .slice a5 s.name.length p5 else if j = 1 then .int .i64 s.ttl else if j = 2 then .int .i64 s.most else if j = 3 then .int .i64 s.st else if j = 4 then .int .i64 s.age else .int .i64 s.fails) else F i j) i 5 = .int .i64 r.fails) := fun i r hi hr => by
        have h00 := hlo.out.1
        have nA : ∀ b, Rg (lo i) ((fun i => if i ≤ k then lo i else w2.heap.size) (i + 1)) b → ¬ b = w.heap.size := fun b hb e => by
          have h1 := lo_mono hlo.out.2.1 i (by omega)
          have := hb.1
          omega
        by_cases e : i = k
        · subst e
          rw [hs] at hr
          cases hr
          have O := OK0.keep TS (fun b hb e => by have h1 := lo_mono hlo.out.2.1 i (Nat.le_refl _); have := hb.1; omega)
          have e1 : (fun j => if j ≤ i then lo j else w2.heap.size) i = lo i := if_pos (Nat.le_refl _)
          have e2 : (fun j => if j ≤ i then lo j else w2.heap.size) (i + 1) = w2.heap.size := if_neg (by omega)
          rw [e1, e2]
          refine ⟨?_, ?_, ?_, ?_, ?_, ?_⟩
          · simpa using O
          all_goals simp
        · have hi2 : i < k := by omega
          obtain ⟨q0, q1, q2, q3, q4, q5⟩ := hall.out i r hi2 hr
          have O := (q0.ext (ext_below b2)).keep TS (fun b hb e => by have h1 := lo_mono hlo.out.2.1 i (by omega); have := hb.1; omega)
          have e1 : (fun i => if i ≤ k then lo i else w2.heap.size) i = lo i := if_pos (by omega)
          have e2 : (fun i => if i ≤ k then lo i else w2.heap.size) (i + 1) = lo (i + 1) := if_pos (by omega)
          rw [e1, e2]
          simp only [if_neg e]
          exact ⟨O, q1, q2, q3, q4, q5⟩
      have HSZ := (show Hid (w2.heap.size ≤ ((((((w2.setCell ⟨w.heap.size, k * 6, none⟩ (.slice a5 s.name.length p5)).setCell ⟨w.heap.size, k * 6 + 1, none⟩ (.int .i64 s.ttl)).setCell ⟨w.heap.size, k * 6 + 2, none⟩ (.int .i64 s.most)).setCell ⟨w.heap.size, k * 6 + 3, none⟩ (.int .i64 s.st)).setCell ⟨w.heap.size, k * 6 + 4, none⟩ (.int .i64 s.age)).setCell ⟨w.heap.size, k * 6 + 5, none⟩ (.int .i64 s.fails)).heap.size) from TS.size)
      clear TS OK0 hlo
      clear hb hF hall G hb2 hF2 b2
      go_wp2
      go_roundw
      case rel => exact ⟨k + 1, by omega, by go_num, HBF.out, _, (fun i => if i ≤ k then lo i else w2.heap.size), HG.out, ⟨HLO.out.1, HLO.out.2.1, Nat.le_trans HLO.out.2.2 HSZ.out⟩, HA⟩
      case measure => simp [intOf]; omega
    · have hkn : k = n := by omega
      subst hkn
      go_wp2
      go_ret
      refine ⟨_, rfl, .inr ⟨w.heap.size, k, F, fun i b => i < k ∧ Rg (lo i) (lo (i + 1)) b, ?_, ?_, hml, ⟨Nat.le_refl _, blk_lt hF⟩, by rw [← HN.out]; exact hF, ?_, ?_, ?_⟩, hb⟩
      · rw [← HN.out]
      · rw [← HN.out]; exact Nat.le_refl _
      · intro i j b hij h1 h2
        have m1 := lo_mono2 hlo.out.2.1
        rcases Nat.lt_or_ge i j with h | h
        · have := m1 (i + 1) j (by omega) (by omega); have := h1.2.2; have := h2.2.1; omega
        · have := m1 (j + 1) i (by omega) (by omega); have := h2.2.2; have := h1.2.1; omega
      · intro i b h1
        have m0 := lo_mono hlo.out.2.1 i (by omega)
        have m1 := lo_mono2 hlo.out.2.1 (i + 1) k (by omega) (Nat.le_refl _)
        have := h1.2.1
        have := h1.2.2
        have := hlo.out.1
        have := hlo.out.2.2
        refine ⟨⟨by omega, by omega⟩, by omega⟩
      · intro i s hs
        have hi : i < k := by have := (List.getElem?_eq_some_iff.1 hs).1; have := HN.out; omega
        obtain ⟨q0, r⟩ := hall.out i s hi hs
        exact ⟨q0.mono (fun b hb => ⟨hi, hb⟩), r⟩

end Go.Proofs.Ytjkhadaoldbceaa
