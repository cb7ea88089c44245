/- Copies of trees: what they own. -/
import Derived.Test.YtdeogmkcomdbjaaTe1
import Derived.Test.YtdeogmkcomdbjaaTo0
import Derived.OwnWalk
namespace Go.Proofs.Ytdeogmkcomdbjaa
open Go.RowKit

/-- All bytes of the edges are bytes. -/
def rngTD : (d : Nat) → DTree d → Prop
  | 0, _ => True
  | d + 1, (e, _, _, n, kid) => (∀ x ∈ e, 0 ≤ x ∧ x ≤ 255) ∧ ∀ i, i < n → rngTD d (kid i)
abbrev rngT {d : Nat} (t : DTree d) : Prop := rngTD d t
theorem VTreeD.rng {w : World} : ∀ (d : Nat) (t : DTree d) (v : Value), VTreeD w d t v → rngTD d t
  | 0, _, _, ht => False.elim ht
  | d + 1, (e, h, x, n, kid), v, ht => by
    obtain ⟨ev, kv, rfl, re, C, h2, h3⟩ := ht
    exact ⟨rv_rng re, fun i hi => VTreeD.rng d (kid i) _ (h3 i hi)⟩
theorem VTree.rng {w : World} {d : Nat} {t : DTree d} {v : Value} (h : VTree w t v) : rngT t := VTreeD.rng d t v h

/-- The value v is the tree, all of it in memory from block lo on. -/
def OTreeD (w : World) (T : TypeId) (lo : Nat) : (d : Nat) → DTree d → Value → Prop
  | 0, _, _ => False
  | d + 1, (e, h, x, n, kid), v => ∃ ev g F, v = .agg #[ev, .bool h, .int .i64 x, .slice (some ⟨g, 0, none⟩) n n] ∧ Ow w lo ev e ∧ lo ≤ g ∧ n ≤ maxLen ∧ Blk w g T 4 n n F ∧ ∀ i, i < n → OTreeD w T lo d (kid i) (.agg #[F i 0, F i 1, F i 2, F i 3])
abbrev OTree (w : World) (T : TypeId) (lo : Nat) {d : Nat} (t : DTree d) (v : Value) : Prop := OTreeD w T lo d t v
/-- The slice kv is n trees, all in memory from block lo on. -/
def OKids (w : World) (T : TypeId) {d : Nat} (lo n : Nat) (kid : Nat → DTree d) (v : Value) : Prop := ∃ g F, v = .slice (some ⟨g, 0, none⟩) n n ∧ lo ≤ g ∧ n ≤ maxLen ∧ Blk w g T 4 n n F ∧ ∀ i, i < n → OTree w T lo (kid i) (.agg #[F i 0, F i 1, F i 2, F i 3])

theorem OTreeD.kept {w w' : World} {T : TypeId} {lo g : Nat} (hg : w.grownBy w' (some g)) (hl : g < lo) : ∀ (d : Nat) (t : DTree d) (v : Value), OTreeD w T lo d t v → OTreeD w' T lo d t v
  | 0, _, _, ht => False.elim ht
  | d + 1, (e, h, x, n, kid), v, ht => by
    obtain ⟨ev, g', F, rfl, o1, h2, hm, h3, h4⟩ := ht
    exact ⟨ev, g', F, rfl, ow_row o1 hg hl, h2, hm, blk_kept h3 (hg.block g' (blk_lt h3) (by simp; omega)), fun i hi => OTreeD.kept hg hl d _ _ (h4 i hi)⟩
theorem OTree.kept {w w' : World} {T : TypeId} {lo g : Nat} (hg : w.grownBy w' (some g)) (hl : g < lo) {d : Nat} {t : DTree d} {v : Value} (h : OTree w T lo t v) : OTree w' T lo t v := OTreeD.kept hg hl d t v h
theorem OTreeD.ext {w w' : World} {T : TypeId} {lo : Nat} (hg : Ext w w') : ∀ (d : Nat) (t : DTree d) (v : Value), OTreeD w T lo d t v → OTreeD w' T lo d t v
  | 0, _, _, ht => False.elim ht
  | d + 1, (e, h, x, n, kid), v, ht => by
    obtain ⟨ev, g', F, rfl, o1, h2, hm, h3, h4⟩ := ht
    exact ⟨ev, g', F, rfl, o1.ext hg, h2, hm, blk_kept h3 (hg.block g' (blk_lt h3) (by simp)), fun i hi => OTreeD.ext hg d _ _ (h4 i hi)⟩
theorem OTree.ext {w w' : World} {T : TypeId} {lo : Nat} (hg : Ext w w') {d : Nat} {t : DTree d} {v : Value} (h : OTree w T lo t v) : OTree w' T lo t v := OTreeD.ext hg d t v h
theorem OTreeD.base {w : World} {T : TypeId} {lo lo' : Nat} (hl : lo' ≤ lo) : ∀ (d : Nat) (t : DTree d) (v : Value), OTreeD w T lo d t v → OTreeD w T lo' d t v
  | 0, _, _, ht => False.elim ht
  | d + 1, (e, h, x, n, kid), v, ht => by
    obtain ⟨ev, g', F, rfl, o1, h2, hm, h3, h4⟩ := ht
    exact ⟨ev, g', F, rfl, ow_base o1 hl, Nat.le_trans hl h2, hm, h3, fun i hi => OTreeD.base hl d _ _ (h4 i hi)⟩
theorem OTree.base {w : World} {T : TypeId} {lo lo' : Nat} (hl : lo' ≤ lo) {d : Nat} {t : DTree d} {v : Value} (h : OTree w T lo t v) : OTree w T lo' t v := OTreeD.base hl d t v h
theorem OTreeD.v {w : World} {T : TypeId} {lo : Nat} : ∀ (d : Nat) (t : DTree d) (v : Value), OTreeD w T lo d t v → rngTD d t → VTreeD w d t v
  | 0, _, _, ht, _ => False.elim ht
  | d + 1, (e, h, x, n, kid), v, ht, hr => by
    obtain ⟨ev, g', F, rfl, o1, h2, hm, h3, h4⟩ := ht
    exact ⟨ev, _, rfl, o1.rv hr.1, F, blk_SL h3 hm, fun i hi => OTreeD.v d _ _ (h4 i hi) (hr.2 i hi)⟩
theorem OTree.v {w : World} {T : TypeId} {lo : Nat} {d : Nat} {t : DTree d} {v : Value} (h : OTree w T lo t v) (hr : rngT t) : VTree w t v := OTreeD.v d t v h hr
theorem OTree.cells {w : World} {T : TypeId} {lo : Nat} {v : Value} {d : Nat} {t : DTree d} (ht : OTree w T lo t v) (hr : rngT t) : ∃ a m c h x g n, v = .agg #[.slice a m c, .bool h, .int .i64 x, .slice (some ⟨g, 0, none⟩) n n] := by
  match d, t, ht, hr with
  | 0, _, ht, _ => exact False.elim ht
  | d + 1, (e, h, x, n, kid), ht, hr =>
    obtain ⟨ev, g', F, rfl, o1, h2, hm, h3, h4⟩ := ht
    obtain ⟨a, c, rfl, _, _, _⟩ := Ow.rv o1 hr.1
    exact ⟨a, _, c, h, x, g', n, rfl⟩

abbrev ToTSays {d : Nat} (t : DTree d) : Prop := ∀ (v : Value) (w : World), VTree w t v → szT t ≤ 1048576 → Calls Try.prog 9 #[v] w fun e w' => ∃ v', e = .returned v' ∧ OTree w' 30 w.heap.size t v' ∧ Below w.heap.size w w'

theorem info_Te : (Try.prog.info? 30).map (fun i => (i.zero, i.size, i.bytes)) = some (some (.agg #[.slice none 0 0, .bool false, .int .i64 0, .slice none 0 0]), 4, 64) := by kernel_rfl

set_option maxHeartbeats 2000000 in
theorem toTS {d : Nat} (n : Nat) (kid : Nat → DTree d) (ih : ∀ i, ToTSays (kid i)) (v : Value) (w : World) (h : VKids w n kid v) (hsz : n + sumN n (fun i => szT (kid i)) ≤ 1048576) :
    Calls Try.prog 30 #[v] w fun e w' => ∃ F, e = .returned (.slice (some ⟨w.heap.size, 0, none⟩) n n) ∧ Blk w' w.heap.size 30 4 n n F ∧ (∀ i, i < n → OTree w' 30 (w.heap.size + 1) (kid i) (.agg #[F i 0, F i 1, F i 2, F i 3])) ∧ Below w.heap.size w w' := by
  obtain ⟨C, ⟨a, cap, rfl, h1, h2, h3⟩, hC⟩ := h
  have HC : Hid (∀ i, i < n → VTree w (kid i) (.agg #[C i 0, C i 1, C i 2, C i 3])) := hC
  clear hC
  have HI : Hid (∀ i, ToTSays (kid i)) := ih
  clear ih
  have HZ : Hid (∀ i, i < n → szT (kid i) ≤ 1048576) := fun i hi => by
    have : szT (kid i) ≤ sumN n (fun i => szT (kid i)) := sumN_mem (fun i => szT (kid i)) hi
    omega
  have H3 : Hid (0 < n → ∃ b o, a = some ⟨b, o, none⟩ ∧ b < w.heap.size ∧ ∀ i, i < n → ∀ j, j < 4 → w.cell? ⟨b, o + i * 4 + j, none⟩ = some (C i j)) := h3
  clear h3
  obtain ⟨i0, hi, hz0, hz1, hz2⟩ := info_parts info_Te
  have hn : n ≤ 1048576 := by omega
  clear hsz
  have hml : n ≤ maxLen := by unfold maxLen; omega
  have hml2 : (n : Int) ≤ 1048576 := by omega
  go_enter Try.func30, Try.ntmps30
  go_wp2_with (at_make; refine wpList_make_full _ rfl _ _ 28 rfl w.heap.size 30 i0 (.agg #[.slice none 0 0, .bool false, .int .i64 0, .slice none 0 0]) 4 Try.underlying28 hi hz0 hz1 _ _ _ _ n rfl rfl rfl rfl ?b1 ?b2 ?b3 ?_)
  case b1 => rw [hz2]; omega
  case b2 => exact hml
  case b3 => exact Nat.le_refl _
  intro w1 hown hgr
  have hb1 : Below w.heap.size w w1 := (Below.refl _ _).grown hgr (Nat.le_refl _) (fun k hk => by cases hk)
  have hbk := blk_made (F := fun _ _ => .bool true) hown
  clear hown hgr
  go_wp2_with fail
  go_loopw [4] (fun i wr => ∃ k : Nat, k ≤ n ∧ i = .int .i64 k ∧ Below w.heap.size w wr ∧ ∃ F, Blk wr w.heap.size 30 4 n k F ∧ Hid (∀ i, i < k → OTree wr 30 (w.heap.size + 1) (kid i) (.agg #[F i 0, F i 1, F i 2, F i 3]))) (fun i _ => n - (intOf i).toNat)
  case atStart => exact ⟨0, Nat.zero_le _, rfl, hb1, _, hbk, fun i hi => absurd hi (by omega)⟩
  case round =>
    obtain ⟨k, hk, rfl, hb, F, hF, hall⟩ := hrel
    clear hbk hb1
    by_cases hlt : k < n
    · obtain ⟨b, o, rfl, hbl, hc⟩ := H3.out (by omega)
      have hT := VTree.ext (ext_below hb) _ _ (HC.out k hlt)
      have HRG : Hid (rngT (kid k)) := hT.rng
      have c0 := World.grownBy.cell (ext_below hb) (hc k hlt 0 (by omega)) (by simp)
      have c1 := World.grownBy.cell (ext_below hb) (hc k hlt 1 (by omega)) (by simp)
      have c2 := World.grownBy.cell (ext_below hb) (hc k hlt 2 (by omega)) (by simp)
      have c3 := World.grownBy.cell (ext_below hb) (hc k hlt 3 (by omega)) (by simp)
      rw [Nat.add_zero] at c0
      obtain ⟨e', h', x', n', d', kid', ht, e1, e2, r0, rk⟩ := hT.cells
      obtain ⟨a0, p0, x0, _, _, _⟩ := r0
      obtain ⟨a3, p3, x3, _, _⟩ := rk.slice
      rw [x0, e1, e2, x3] at hT
      rw [x0] at c0
      rw [e1] at c1
      rw [e2] at c2
      rw [x3] at c3
      have hlt' : (k : Int) < (n : Int) := by omega
      clear hc ht rk e1 e2 x0 x3
      go_wp2_with fail
      refine (HI.out k _ wr hT (HZ.out k hlt)).mono ?_
      rintro e w2 ⟨v', rfl, ov, b2⟩
      obtain ⟨a5, m5, p5, h5, y5, g5, n5, rfl⟩ := ov.cells HRG.out
      have hF2 := blk_kept hF (b2.block _ (blk_lt hF))
      have hgl := blk_lt hF
      have hb2 := hb.trans (b2.mono hb.size)
      obtain ⟨⟨u0, d0⟩, f0⟩ := blk_cell hF2 (k * 4) (by omega)
      obtain ⟨⟨u1, d1⟩, f1⟩ := blk_cell hF2 (k * 4 + 1) (by omega)
      obtain ⟨⟨u2, d2⟩, f2⟩ := blk_cell hF2 (k * 4 + 2) (by omega)
      obtain ⟨⟨u3, d3⟩, f3⟩ := blk_cell hF2 (k * 4 + 3) (by omega)
      obtain ⟨W, hW⟩ : ∃ W, W = ((((w2.setCell ⟨w.heap.size, k * 4, none⟩ (.slice a5 m5 p5)).setCell ⟨w.heap.size, k * 4 + 1, none⟩ (.bool h5)).setCell ⟨w.heap.size, k * 4 + 2, none⟩ (.int .i64 y5)).setCell ⟨w.heap.size, k * 4 + 3, none⟩ (.slice (some ⟨g5, 0, none⟩) n5 n5)) := ⟨_, rfl⟩
      have G := blk_next (blk_set (blk_set (blk_set (blk_set hF2 (k * 4) (by omega) (.slice a5 m5 p5)) (k * 4 + 1) (by omega) (.bool h5)) (k * 4 + 2) (by omega) (.int .i64 y5)) (k * 4 + 3) (by omega) (.slice (some ⟨g5, 0, none⟩) n5 n5)) (fun j => if j = 0 then .slice a5 m5 p5 else if j = 1 then .bool h5 else if j = 2 then .int .i64 y5 else .slice (some ⟨g5, 0, none⟩) n5 n5) (fun j hj => by
        have hj : j = 0 ∨ j = 1 ∨ j = 2 ∨ j = 3 := by omega
        rcases hj with rfl | rfl | rfl | rfl <;> simp [*, go_sem])
      rw [← hW] at G
      have HG : Hid (Blk W w.heap.size 30 4 n (k + 1) (fun i j => if i = k then (if j = 0 then .slice a5 m5 p5 else if j = 1 then .bool h5 else if j = 2 then .int .i64 y5 else .slice (some ⟨g5, 0, none⟩) n5 n5) else F i j)) := G
      have HBF : Hid (Below w.heap.size w W) := by
        rw [hW]
        exact ((((hb2.setCell (Nat.le_refl _) _).setCell (Nat.le_refl _) _).setCell (Nat.le_refl _) _).setCell (Nat.le_refl _) _)
      have HK : ∀ {t : DTree d} {v : Value}, OTree w2 30 (w.heap.size + 1) t v → OTree W 30 (w.heap.size + 1) t v := fun ho => by
        rw [hW]
        exact (((ho.kept (set_grown _ _ _ _) (by omega)).kept (set_grown _ _ _ _) (by omega)).kept (set_grown _ _ _ _) (by omega)).kept (set_grown _ _ _ _) (by omega)
      have HA : Hid (∀ i, i < k + 1 → OTree W 30 (w.heap.size + 1) (kid i) (.agg #[(fun i j => if i = k then (if j = 0 then Value.slice a5 m5 p5 else if j = 1 then .bool h5 else if j = 2 then .int .i64 y5 else .slice (some ⟨g5, 0, none⟩) n5 n5) else F i j) i 0, (fun i j => if i = k then (if j = 0 then Value.slice a5 m5 p5 else if j = 1 then .bool h5 else if j = 2 then .int .i64 y5 else .slice (some ⟨g5, 0, none⟩) n5 n5) else F i j) i 1, (fun i j => if i = k then (if j = 0 then Value.slice a5 m5 p5 else if j = 1 then .bool h5 else if j = 2 then .int .i64 y5 else .slice (some ⟨g5, 0, none⟩) n5 n5) else F i j) i 2, (fun i j => if i = k then (if j = 0 then Value.slice a5 m5 p5 else if j = 1 then .bool h5 else if j = 2 then .int .i64 y5 else .slice (some ⟨g5, 0, none⟩) n5 n5) else F i j) i 3])) := fun i hi => by
        by_cases e : i = k
        · subst e
          simp only [if_pos]
          have := HK (ov.base (show w.heap.size + 1 ≤ wr.heap.size by omega))
          simpa using this
        · simp only [if_neg e]
          exact HK ((hall.out i (by omega)).ext (ext_below b2))
      clear hb hF hall G hb2 hF2 b2 HK ov
      have HW : Hid (W = ((((w2.setCell ⟨w.heap.size, k * 4, none⟩ (.slice a5 m5 p5)).setCell ⟨w.heap.size, k * 4 + 1, none⟩ (.bool h5)).setCell ⟨w.heap.size, k * 4 + 2, none⟩ (.int .i64 y5)).setCell ⟨w.heap.size, k * 4 + 3, none⟩ (.slice (some ⟨g5, 0, none⟩) n5 n5))) := hW
      clear hW
      go_wp2_with fail
      rw [← HW.out]
      go_roundw
      case rel => exact ⟨k + 1, by omega, by go_num, HBF.out, _, HG.out, HA⟩
      case measure => simp [intOf]; omega
    · have hkn : k = n := by omega
      subst hkn
      go_wp2_with fail
      go_ret
      exact ⟨F, rfl, hF, fun i hi => hall.out i hi, hb⟩

set_option maxHeartbeats 1000000 in
theorem toTree_step {d : Nat} (ed : List Int) (h : Bool) (x : Int) (n : Nat) (kid : Nat → DTree d) (ih : ∀ i, ToTSays (kid i)) : ToTSays (DTree.node ed h x n kid) := by
    intro v w ht hsz
    have hrg := ht.rng.1
    obtain ⟨ev, kv, rfl, re, rk⟩ := ht.open_
    have hE : ∀ w : World, ∀ o, Ext w (w.alloc o) := fun w o => World.grownBy_alloc _ _ _
    have HI : Hid (∀ i, ToTSays (kid i)) := ih
    have HZ : Hid (n + sumN n (fun i => szT (kid i)) ≤ 1048576) := by
      show _ ≤ _
      have hsz : ed.length + (n + sumN n (fun i => szT (kid i))) ≤ 1048576 := hsz
      omega
    have hel : ed.length ≤ 1048576 := by
      have hsz : ed.length + (n + sumN n (fun i => szT (kid i))) ≤ 1048576 := hsz
      omega
    clear ih hsz
    obtain ⟨ka, kc, hkv, hk1, hk2⟩ := rk.slice
    subst hkv
    go_enter Try.func9, Try.ntmps9
    go_wp2_with fail
    refine (toV ev ed _ (re.ext (((hE _ _).tr (hE _ _)).tr (hE _ _))) hel).mono ?_
    rintro e w1 ⟨k1, rfl, o1, b1⟩
    have hs1 : w.heap.size + 3 ≤ w1.heap.size := by have := b1.size; simp at this; omega
    have P1 := below_blk b1 (by simp; omega) (h3_0 w _ _ _)
    have R1 := below_blk b1 (by simp) (h3_1 w _ _ _)
    have T1 := below_blk b1 (by simp) (h3_2 w _ _ _)
    obtain ⟨ea, ec, rfl, _, _, _⟩ := Ow.rv o1 hrg
    obtain ⟨p1, _⟩ := at_block P1 1 _ rfl
    obtain ⟨p2, _⟩ := at_block P1 2 _ rfl
    obtain ⟨p3, _⟩ := at_block P1 3 _ rfl
    obtain ⟨t0, ft0⟩ := at_block T1 0 _ rfl
    obtain ⟨t1, ft1⟩ := at_block T1 1 _ rfl
    obtain ⟨t2, ft2⟩ := at_block T1 2 _ rfl
    obtain ⟨t3, ft3⟩ := at_block T1 3 _ rfl
    have T2 := set_block (set_block (set_block T1 0 (.slice ea ed.length ec)) 1 (.bool h)) 2 (.int .i64 x)
    obtain ⟨W, hW⟩ : ∃ W, W = ((w1.setCell ⟨w.heap.size + 1 + 1, 0, none⟩ (.slice ea ed.length ec)).setCell ⟨w.heap.size + 1 + 1, 1, none⟩ (.bool h)).setCell ⟨w.heap.size + 1 + 1, 2, none⟩ (.int .i64 x) := ⟨_, rfl⟩
    rw [← hW] at T2
    have HT2 : Hid (W.heap[w.heap.size + 1 + 1]? = some (.cells #[.slice ea ed.length ec, .bool h, .int .i64 x, .slice none 0 0] 30 (0, 0))) := T2
    have HP2 : Hid (W.heap[w.heap.size]? = some (.cells #[ev, .bool h, .int .i64 x, .slice ka n kc] 25 (0, 0))) := by rw [hW]; exact set_other _ _ _ (by omega) (set_other _ _ _ (by omega) (set_other _ _ _ (by omega) P1))
    have HR2 : Hid (W.heap[w.heap.size + 1]? = some (.cells #[.slice none 0 0, .bool false, .int .i64 0, .slice none 0 0] 30 (0, 0))) := by rw [hW]; exact set_other _ _ _ (by omega) (set_other _ _ _ (by omega) (set_other _ _ _ (by omega) R1))
    have B1 : Below w.heap.size w w1 := ((((Below.refl _ w).alloc (Nat.le_refl _) _).alloc (by simp) _).alloc (by simp; omega) _).trans (b1.mono (by simp; omega))
    have HB2 : Hid (Below w.heap.size w W) := by rw [hW]; exact ((B1.setCell (by simp; omega) _).setCell (by simp; omega) _).setCell (by simp; omega) _
    have o1' : Ow w1 (w.heap.size + 3) (.slice ea ed.length ec) ed := ow_base o1 (by simp)
    have HO2 : Hid (Ow W (w.heap.size + 3) (.slice ea ed.length ec) ed) := by rw [hW]; exact ow_set (ow_set (ow_set o1' (by omega)) (by omega)) (by omega)
    have HS2 : Hid (w1.heap.size ≤ W.heap.size) := by rw [hW]; show _ ≤ _; simp
    have HRK : Hid (VKids W n kid (.slice ka n kc)) := rk.ext (ext_below HB2.out)
    have HW : Hid (W = ((w1.setCell ⟨w.heap.size + 1 + 1, 0, none⟩ (.slice ea ed.length ec)).setCell ⟨w.heap.size + 1 + 1, 1, none⟩ (.bool h)).setCell ⟨w.heap.size + 1 + 1, 2, none⟩ (.int .i64 x)) := hW
    clear hW T2 o1 o1' B1 rk re ht
    go_wp2_with fail
    rw [← HW.out]
    clear HW p1 p2 p3 t0 t1 t2 t3 ft0 ft1 ft2 ft3 P1 R1 T1 b1
    refine (toTS n kid HI.out _ W HRK.out HZ.out).mono ?_
    rintro e w3 ⟨F, rfl, hF, hO, b3⟩
    have hs2 := HS2.out
    have P3 := below_blk b3 (by omega) HP2.out
    have R3 := below_blk b3 (by omega) HR2.out
    have T3 := below_blk b3 (by omega) HT2.out
    obtain ⟨q0, g0⟩ := at_block T3 0 _ rfl
    obtain ⟨q1, g1⟩ := at_block T3 1 _ rfl
    obtain ⟨q2, g2⟩ := at_block T3 2 _ rfl
    obtain ⟨q3, g3⟩ := at_block T3 3 _ rfl
    obtain ⟨r0, z0⟩ := at_block R3 0 _ rfl
    obtain ⟨r1, z1⟩ := at_block R3 1 _ rfl
    obtain ⟨r2, z2⟩ := at_block R3 2 _ rfl
    obtain ⟨r3, z3⟩ := at_block R3 3 _ rfl
    have HO3 : Hid (Ow w3 (w.heap.size + 3) (.slice ea ed.length ec) ed) := HO2.out.ext (ext_below b3)
    have HB3 : Hid (Below w.heap.size w w3) := HB2.out.trans (b3.mono HB2.out.size)
    have HF : Hid (Blk w3 W.heap.size 30 4 n n F) := hF
    have HO : Hid (∀ i, i < n → OTree w3 30 (w.heap.size + 3) (kid i) (.agg #[F i 0, F i 1, F i 2, F i 3])) := fun i hi => (hO i hi).base (by omega)
    have HM : Hid (n ≤ maxLen) := Nat.le_trans hk1 hk2
    clear hF hO b3 P3 T3 R3
    go_wp2_with fail
    refine bodyPost_ret (v := .agg #[.slice ea ed.length ec, .bool h, .int .i64 x, .slice (some ⟨W.heap.size, 0, none⟩) n n]) (by simp [results, Try.results9, go_sem, r0, r1, r2, r3]) rfl ?_
    have GG : ∀ (W : World) (j : Nat) (u : Value), W.grownBy (W.setCell ⟨w.heap.size + 1, j, none⟩ u) (some (w.heap.size + 1)) := fun W j u => set_grown W _ j u
    have GT : ∀ (W : World) (j : Nat) (u : Value), W.grownBy (W.setCell ⟨w.heap.size + 1 + 1, j, none⟩ u) (some (w.heap.size + 1 + 1)) := fun W j u => set_grown W _ j u
    refine ⟨_, rfl, OTree.base (show w.heap.size ≤ w.heap.size + 3 by omega) ⟨_, _, F, rfl, ?_, ?_, HM.out, ?_, ?_⟩, ?_⟩
    · exact ow_row (ow_row (ow_row (ow_row (ow_row HO3.out (GT _ _ _) (by omega)) (GG _ _ _) (by omega)) (GG _ _ _) (by omega)) (GG _ _ _) (by omega)) (GG _ _ _) (by omega)
    · omega
    · have hl := blk_lt HF.out
      exact blk_kept (blk_kept (blk_kept (blk_kept (blk_kept HF.out ((GT _ _ _).block _ (by simpa using hl) (by simp; omega))) ((GG _ _ _).block _ (by simpa using hl) (by simp; omega))) ((GG _ _ _).block _ (by simpa using hl) (by simp; omega))) ((GG _ _ _).block _ (by simpa using hl) (by simp; omega))) ((GG _ _ _).block _ (by simpa using hl) (by simp; omega))
    · intro i hi
      exact (((((HO.out i hi).kept (GT _ _ _) (by omega)).kept (GG _ _ _) (by omega)).kept (GG _ _ _) (by omega)).kept (GG _ _ _) (by omega)).kept (GG _ _ _) (by omega)
    · exact ((((HB3.out.setCell (by simp; omega) _).setCell (by simp) _).setCell (by simp) _).setCell (by simp) _).setCell (by simp) _

theorem toTree_anyD : ∀ (d : Nat) (t : DTree d), ToTSays t
  | 0, _ => fun _ _ ht => False.elim ht
  | d + 1, (e, h, x, n, kid) => toTree_step e h x n kid (fun i => toTree_anyD d (kid i))
theorem toTree_any {d : Nat} (t : DTree d) : ToTSays t := toTree_anyD d t

end Go.Proofs.Ytdeogmkcomdbjaa
