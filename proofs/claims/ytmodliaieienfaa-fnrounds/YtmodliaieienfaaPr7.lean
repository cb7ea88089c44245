
/- Whom to ask next: plain; the specification's l11next. -/
import Derived.Test.YtmodliaieienfaaPr6
import Derived.Deep.LoopGhost
import Derived.BigQuiet
namespace Go.Proofs.Ytmodliaieienfaa
open Go.RowKit

/-- The first number of a list that is among l, and the place behind it. -/
def scanL (l : List Int) : List Int → Nat → Option (Int × Nat)
  | [], _ => none
  | x :: xs, k => if l.contains x then some (x, k + 1) else scanL l xs (k + 1)
theorem scanL_at {l os : List Int} {j : Nat} {x : Int} (h : os[j]? = some x) : scanL l (os.drop j) j = if l.contains x then some (x, j + 1) else scanL l (os.drop (j + 1)) (j + 1) := by
  have hj := (List.getElem?_eq_some_iff.1 h).1
  have e : os.drop j = x :: os.drop (j + 1) := by
    rw [List.drop_eq_getElem_cons hj]
    congr 1
    exact Option.some.inj ((List.getElem?_eq_getElem hj).symm.trans h)
  rw [e, scanL]
theorem scanL_end {l os : List Int} {j : Nat} (h : os.length ≤ j) : scanL l (os.drop j) j = none := by
  rw [List.drop_of_length_le h]; rfl
/-- A round that goes on: from its place on, or none. -/
def goOn (l : List Int) (P : DPro) : Option (Int × Nat) := scanL l (P.order.drop P.next.toNat) P.next.toNat
/-- A round that is begun anew. -/
def anew (l : List Int) (P : DPro) : DPro := ⟨(shufL l P.seed).1, 0, (shufL l P.seed).2, P.state, P.who, P.wait⟩
/-- Whom to ask next, of those in l, in so many rounds. -/
def nextL (l : List Int) : Nat → DPro → DPro × Int
  | 0, P => (P, -1)
  | k + 1, P => match goOn l P with
    | some (id, j) => (⟨P.order, j, P.seed, P.state, P.who, P.wait⟩, id)
    | none => nextL l k (anew l P)

/-- What a prober may be while it is worked on. -/
def ProW (P : DPro) : Prop := P.order.length ≤ 1048576 ∧ (0 ≤ P.next ∧ P.next ≤ P.order.length) ∧ (0 ≤ P.seed ∧ P.seed ≤ 2147483647)
theorem shufN_bd : ∀ (i : Nat) (xs : List Int) (s : Int), 0 ≤ s ∧ s ≤ 2147483647 → 0 ≤ (shufN i xs s).2 ∧ (shufN i xs s).2 ≤ 2147483647
  | 0, _, _, h => h
  | i + 1, xs, s, _ => shufN_bd i _ _ (by have := mixF_bd s; omega)
theorem anew_w {l : List Int} {P : DPro} (h : ProW P) (hl : l.length ≤ 1048576) : ProW (anew l P) := by
  refine ⟨by show (shufL l P.seed).1.length ≤ _; rw [shufL_len]; exact hl, ⟨Int.le_refl _, by show (0 : Int) ≤ _; omega⟩, shufN_bd _ _ _ h.2.2⟩
/-- A prober in its box, in memory of its own from base on. -/
structure NxSt (w : World) (gt base : Nat) (P : DPro) (tv : Value) (W : World) : Prop where
  box : W.heap[gt]? = some (.cells #[tv, .int .i64 P.next, .int .i64 P.seed, .int .i64 P.state, .int .i64 P.who, .int .i64 P.wait] 25 (0, 0))
  own : OwI W base tv P.order
  low : Below base w W
theorem NxSt.ext {w W W' : World} {gt base : Nat} {P : DPro} {tv : Value} (h : NxSt w gt base P tv W) (hb : base ≤ W.heap.size) (e : Ext W W') : NxSt w gt base P tv W' :=
  ⟨ext_blk e h.box, h.own.ext e, h.low.trans ((ext_bel e).mono hb)⟩
theorem pro_ne {W : World} {base gt : Nat} {v : Value} {xs : List Int} {cs : Array Value} (o : OwI W base v xs) (h : W.heap[gt]? = some (.cells cs 25 (0, 0))) : v.ownBlock = none ∨ v.ownBlock ≠ some gt := by
  right
  intro e
  rcases o.2 with ⟨hv, _⟩ | ⟨k, c, cur, hv, _, hg, _⟩
  · rw [hv] at e; cases e
  · rw [hv] at e
    simp only [Value.ownBlock, Option.some.injEq] at e
    subst e
    rw [h] at hg
    simp only [Option.some.injEq, Obj.cells.injEq] at hg
    exact absurd hg.2.1 (by decide)
/-- The next place is laid anew. -/
theorem NxSt.next {w W : World} {gt base : Nat} {P : DPro} {tv : Value} (h : NxSt w gt base P tv W) (hg : base ≤ gt) (x : Int) : NxSt w gt base ⟨P.order, x, P.seed, P.state, P.who, P.wait⟩ tv (W.setCell ⟨gt, 1, none⟩ (.int .i64 x)) :=
  ⟨set_block h.box 1 _, h.own.keep (set_grown _ _ _ _) (pro_ne h.own h.box), h.low.setCell hg _⟩
/-- Another order, another seed. -/
theorem NxSt.turn {w W : World} {gt base : Nat} {P : DPro} {tv uv : Value} {ys : List Int} (h : NxSt w gt base P tv W) (hg : base ≤ gt) (o : OwI W base uv ys) (s : Int) : NxSt w gt base ⟨ys, P.next, s, P.state, P.who, P.wait⟩ uv ((W.setCell ⟨gt, 0, none⟩ uv).setCell ⟨gt, 2, none⟩ (.int .i64 s)) :=
  ⟨set_block (set_block h.box 0 _) 2 _, (o.keep (set_grown _ _ _ _) (pro_ne o h.box)).keep (set_grown _ _ _ _) (pro_ne o h.box), (h.low.setCell hg _).setCell hg _⟩

set_option maxRecDepth 20000 in
set_option maxHeartbeats 4000000 in
theorem sNextV (gt base : Nat) (P : DPro) (pv tv : Value) (T : DTab) (w : World) (hb : w.heap[gt]? = some (.cells #[pv, .int .i64 P.next, .int .i64 P.seed, .int .i64 P.state, .int .i64 P.who, .int .i64 P.wait] 25 (0, 0))) (ho : OwI w base pv P.order) (hP : ProW P) (hT : VTab w tv T) (hn : T.mems.length ≤ 1048576) (hg : base ≤ gt) (hbs : base ≤ w.heap.size) :
    Calls Try.prog 44 #[.pointer (some ⟨gt, 0, none⟩), tv] w fun e w' => e = .returned (.int .i64 (nextL (othersD T) 2 P).2) ∧ ∃ qv, NxSt w gt base (nextL (othersD T) 2 P).1 qv w' := by
  have hE : ∀ w : World, ∀ o, Ext w (w.alloc o) := fun w o => World.grownBy_alloc _ _ _
  have HT : Hid (VTab w tv T) := hT
  have HN : Hid (T.mems.length ≤ 1048576) := hn
  obtain ⟨mv, rfl, hT⟩ := hT
  obtain ⟨ma, mc, rfl⟩ := hT.shape
  obtain ⟨mn, hmn⟩ : ∃ mn, mn = T.mems.length := ⟨_, rfl⟩
  rw [← hmn] at HT ⊢
  have HST : Hid (NxSt w gt base P pv w) := ⟨hb, ho, Below.refl _ _⟩
  have HPW : Hid (ProW P) := hP
  obtain ⟨L, hL⟩ : ∃ L, L = othersD T := ⟨_, rfl⟩
  have HL : Hid (L = othersD T) := hL
  have HLL : Hid (L.length ≤ 1048576) := by show _ ≤ _; rw [hL]; exact others_len hn
  obtain ⟨R, hR⟩ : ∃ R, R = nextL L 2 P := ⟨_, rfl⟩
  have HR : Hid (R = nextL L 2 P) := hR
  rw [← hL, ← hR]
  clear hb ho hP hT hn hmn hL hR
  go_enter Try.func44, Try.ntmps44
  go_wp2_with fail
  generalize hW : w.alloc _ = W
  have XW : Ext w W := by rw [← hW]; exact hE _ _
  clear hW
  refine (sOthersV _ T W (HT.out.ext XW) HN.out).mono ?_
  rintro e w1 ⟨lv, rfl, o1, b1⟩
  rw [← HL.out] at o1
  obtain ⟨la, lc, hlv⟩ := o1.shape
  obtain ⟨m, hm⟩ : ∃ m, m = L.length := ⟨_, rfl⟩
  have HM : Hid (m = L.length) := hm
  rw [← hm] at hlv
  subst hlv
  have X1 : Ext w w1 := XW.tr (ext_below b1)
  have HLV : Hid (OwI w1 base (.slice la m lc) L) := o1.base (Nat.le_trans hbs XW.size)
  have HS1 : Hid (NxSt w gt base P pv w1) := HST.out.ext hbs X1
  have hs1 : base ≤ w1.heap.size := Nat.le_trans hbs X1.size
  clear o1 b1 XW X1 hm HT HST
  go_wp2
  go_loopw [6] (fun i wr => ∃ (k : Nat) (Q : DPro) (qv : Value), k ≤ 2 ∧ i = .int .i64 k ∧ Hid (R = nextL L (2 - k) Q) ∧ Hid (ProW Q) ∧ Hid (NxSt w gt base Q qv wr) ∧ Hid (OwI wr base (.slice la m lc) L) ∧ base ≤ wr.heap.size) (fun i _ => 2 - (intOf i).toNat)
  case atStart => exact ⟨0, P, pv, by omega, rfl, HR, HPW, HS1, HLV, hs1⟩
  case round =>
    obtain ⟨k, Q, qv, hk, rfl, hRk, hPW, hSt, hLv, hbs2⟩ := hrel
    clear HS1 HLV hs1 HPW HR
    by_cases hlt : k < 2
    · have hlt' : (k : Int) < 2 := by omega
      obtain ⟨os, nx, sd, st, wh, wt⟩ := Q
      obtain ⟨hw1, ⟨hw2, hw3⟩, hw4, hw5⟩ := hPW.out
      simp only at hw1 hw2 hw3 hw4 hw5
      obtain ⟨j0, rfl⟩ := Int.eq_ofNat_of_zero_le hw2
      obtain ⟨qa, qc, hqv⟩ := hSt.out.own.shape
      obtain ⟨n, hn⟩ : ∃ n, n = os.length := ⟨_, rfl⟩
      have HNN : Hid (n = os.length) := hn
      simp only at hqv
      rw [← hn] at hqv hw1 hw3
      subst hqv
      clear hn
      have HGO : Hid (goOn L ⟨os, (j0 : Nat), sd, st, wh, wt⟩ = scanL L (os.drop j0) j0) := by show _ = _; unfold goOn; simp only [Int.toNat_natCast]
      have hml : (n : Int) ≤ 1048576 := by omega
      have HS0 : Hid (NxSt w gt base ⟨os, (j0 : Nat), sd, st, wh, wt⟩ (.slice qa n qc) wr) := hSt.out
      clear hSt
      have HRS : Hid (∀ id jj, scanL L (os.drop j0) j0 = some (id, jj) → R = (⟨os, (jj : Nat), sd, st, wh, wt⟩, id)) := fun id jj h => by
        rw [hRk.out, show 2 - k = (1 - k) + 1 by omega, nextL, HGO.out, h]
      have HRN : Hid (scanL L (os.drop j0) j0 = none → R = nextL L (2 - (k + 1)) (anew L ⟨os, (j0 : Nat), sd, st, wh, wt⟩)) := fun h => by
        rw [hRk.out, show 2 - k = (1 - k) + 1 by omega, nextL, HGO.out, h]
        show nextL L (1 - k) _ = _
        rw [show 1 - k = 2 - (k + 1) by omega]
      have HAW : Hid (ProW (anew L ⟨os, (j0 : Nat), sd, st, wh, wt⟩)) := anew_w hPW.out HLL.out
      clear hRk hPW HGO
      go_wp2
      go_loopg [7] (n - j0) (fun gk idv wi => ∃ j : Nat, j ≤ n ∧ n - j ≤ gk ∧ Hid (scanL L (os.drop j) j = scanL L (os.drop j0) j0) ∧ Hid (NxSt w gt base ⟨os, (j : Nat), sd, st, wh, wt⟩ (.slice qa n qc) wi) ∧ Hid (OwI wi base (.slice la m lc) L) ∧ base ≤ wi.heap.size)
      case atStart => exact ⟨j0, by omega, Nat.le_refl _, rfl, HS0, hLv, hbs2⟩
      case round =>
        obtain ⟨j, hj, hgk, hsc, hSi, hLi, hbi⟩ := hrel
        clear HS0 hLv hbs2
        obtain ⟨p0, p1, p2, p3, p4, p5⟩ := cells6 hSi.out.box
        by_cases hjn : j < n
        · obtain ⟨x, hx⟩ : ∃ x, os[j]? = some x := ⟨_, List.getElem?_eq_getElem (by have := HNN.out; omega)⟩
          obtain ⟨g, hqa⟩ : ∃ g, qa = some ⟨g, 0, none⟩ := by
            rcases hSi.out.own.2 with ⟨h0, _⟩ | ⟨g, c, cur, hv, _⟩
            · simp only [Value.slice.injEq] at h0; omega
            · simp only [Value.slice.injEq] at hv; exact ⟨g, hv.1⟩
          subst hqa
          obtain ⟨cj, _⟩ := hSi.out.own.get HNN.out j hjn
          have hxd : os.getD j 0 = x := by simp [List.getD, hx]
          simp only at cj
          rw [hxd] at cj
          have hjn' : (j : Int) < (n : Int) := by omega
          have HSX : Hid (scanL L (os.drop j0) j0 = if L.contains x then some (x, j + 1) else scanL L (os.drop (j + 1)) (j + 1)) := by show _ = _; rw [← hsc.out]; exact scanL_at hx
          clear hxd hx
          go_wp2_with fail
          go_quiet (fail)
          go_wp2_with fail
          go_quiet (fail)
          generalize hq : World.drewN (World.drewN wr _) _ = wq
          have XQ : Ext wr wq := by rw [← hq]; exact (ext_drewN _ _).tr (ext_drewN _ _)
          clear hq
          have HSQ : Hid (NxSt w gt base ⟨os, (j : Nat), sd, st, wh, wt⟩ (.slice (some ⟨g, 0, none⟩) n qc) wq) := hSi.out.ext hbi XQ
          have HLQ : Hid (OwI wq base (.slice la m lc) L) := hLi.out.ext XQ
          have hbq : base ≤ wq.heap.size := Nat.le_trans hbi XQ.size
          clear p0 p1 p2 p3 p4 p5 cj
          obtain ⟨p1, f1⟩ := at_block HSQ.out.box 1 _ rfl
          have HSN : Hid (NxSt w gt base ⟨os, ((j + 1 : Nat) : Int), sd, st, wh, wt⟩ (.slice (some ⟨g, 0, none⟩) n qc) (wq.setCell ⟨gt, 1, none⟩ (.int .i64 ((j : Int) + 1)))) := HSQ.out.next hg _
          have HLN : Hid (OwI (wq.setCell ⟨gt, 1, none⟩ (.int .i64 ((j : Int) + 1))) base (.slice la m lc) L) := HLQ.out.keep (set_grown _ _ _ _) (pro_ne HLQ.out HSQ.out.box)
          have hbn : base ≤ (wq.setCell ⟨gt, 1, none⟩ (.int .i64 ((j : Int) + 1))).heap.size := Nat.le_trans hbq (set_grown wq gt 1 (.int .i64 ((j : Int) + 1))).size
          have HLS : Hid (j + 1 ≤ 1048577) := by show _ ≤ _; omega
          clear HSQ HLQ hSi hLi
          go_wp2_with fail
          generalize wq.setCell ⟨gt, 1, none⟩ (.int .i64 ((j : Int) + 1)) = wn at HSN HLN hbn ⊢
          refine (sHasV _ L x wn HLN.out.vl).mono ?_
          rintro e wm ⟨rfl, hwm⟩
          have hwm' := hwm.symm
          clear hwm
          subst hwm'
          clear p1 f1
          cases hct : L.contains x
          · have HS2 : Hid (scanL L (os.drop (j + 1)) (j + 1) = scanL L (os.drop j0) j0) := by
              show _ = _
              rw [HSX.out, hct]
              rfl
            clear hct
            go_wp2
            go_roundg (n - (j + 1))
            case measure => omega
            case rel => exact ⟨j + 1, by omega, Nat.le_refl _, HS2, HSN, HLN, hbn⟩
          · have HF : Hid (R = (⟨os, ((j + 1 : Nat) : Int), sd, st, wh, wt⟩, x)) := HRS.out x (j + 1) (by rw [HSX.out, hct]; rfl)
            clear hct
            go_wp2
            go_ret
            rw [HF.out]
            exact ⟨rfl, _, HSN.out⟩
        · have hjn' : ¬ ((j : Int) < (n : Int)) := by omega
          have HNO : Hid (scanL L (os.drop j0) j0 = none) := by show _ = _; rw [← hsc.out]; exact scanL_end (by have := HNN.out; omega)
          go_wp2_with fail
          go_quiet (fail)
          generalize hq : World.drewN wr _ = wq
          have XQ : Ext wr wq := by rw [← hq]; exact ext_drewN _ _
          clear hq
          have HSQ : Hid (NxSt w gt base ⟨os, (j : Nat), sd, st, wh, wt⟩ (.slice qa n qc) wq) := hSi.out.ext hbi XQ
          have HLQ : Hid (OwI wq base (.slice la m lc) L) := hLi.out.ext XQ
          have hbq : base ≤ wq.heap.size := Nat.le_trans hbi XQ.size
          clear p0 p1 p2 p3 p4 p5 hSi hLi
          obtain ⟨p2, f2⟩ := at_block HSQ.out.box 2 _ rfl
          go_wp2_with fail
          refine (sShufV _ L sd wq HLQ.out.vl HLL.out hw4 hw5).mono ?_
          rintro e wz ⟨uv, rfl, oz, bz⟩
          obtain ⟨za, zc, hzv⟩ := oz.shape
          obtain ⟨zl, hzl⟩ : ∃ zl, zl = (shufL L sd).1.length := ⟨_, rfl⟩
          rw [← hzl] at hzv
          subst hzv
          have XZ : Ext wq wz := ext_below bz
          have HSZ : Hid (NxSt w gt base ⟨os, (j : Nat), sd, st, wh, wt⟩ (.slice qa n qc) wz) := HSQ.out.ext hbq XZ
          have HT1 := HSZ.out.turn hg (oz.base hbq) (shufL L sd).2
          have HT2 := HT1.next hg 0
          have HLZ := HLQ.out.ext XZ
          have hnb := pro_ne HLZ HSZ.out.box
          have HL3 : Hid (OwI (((wz.setCell ⟨gt, 0, none⟩ (.slice za zl zc)).setCell ⟨gt, 2, none⟩ (.int .i64 (shufL L sd).2)).setCell ⟨gt, 1, none⟩ (.int .i64 0)) base (.slice la m lc) L) := ((HLZ.keep (set_grown _ _ _ _) hnb).keep (set_grown _ _ _ _) hnb).keep (set_grown _ _ _ _) hnb
          have HS3 : Hid (NxSt w gt base (anew L ⟨os, (j0 : Nat), sd, st, wh, wt⟩) (.slice za zl zc) (((wz.setCell ⟨gt, 0, none⟩ (.slice za zl zc)).setCell ⟨gt, 2, none⟩ (.int .i64 (shufL L sd).2)).setCell ⟨gt, 1, none⟩ (.int .i64 0))) := HT2
          have hbz : base ≤ (((wz.setCell ⟨gt, 0, none⟩ (.slice za zl zc)).setCell ⟨gt, 2, none⟩ (.int .i64 (shufL L sd).2)).setCell ⟨gt, 1, none⟩ (.int .i64 0)).heap.size := Nat.le_trans hbq (Nat.le_trans XZ.size (((set_grown wz gt 0 (.slice za zl zc)).trans (set_grown _ gt 2 (.int .i64 (shufL L sd).2))).trans (set_grown _ gt 1 (.int .i64 0))).size)
          have HRR : Hid (R = nextL L (2 - (k + 1)) (anew L ⟨os, (j0 : Nat), sd, st, wh, wt⟩)) := HRN.out HNO.out
          obtain ⟨z0, y0⟩ := at_block HSZ.out.box 0 _ rfl
          obtain ⟨z1, y1⟩ := at_block HSZ.out.box 1 _ rfl
          obtain ⟨z2, y2⟩ := at_block HSZ.out.box 2 _ rfl
          clear p2 f2 HSQ HLQ oz bz HT1 HT2 HLZ hnb HSZ hzl
          generalize (shufL L sd).2 = sd2 at *
          go_wp2
          go_roundw
          case rel => exact ⟨k + 1, _, _, by omega, by go_num, HRR, HAW, HS3, HL3, hbz⟩
          case measure => simp [intOf]; omega
    · have hk2 : k = 2 := by omega
      subst hk2
      have HF : Hid (R = (Q, -1)) := by show _ = _; rw [hRk.out]; rfl
      go_wp2
      go_ret
      rw [HF.out]
      exact ⟨rfl, qv, hSt.out⟩

end Go.Proofs.Ytmodliaieienfaa
