
/- The program's keeper: a duty that is worked on, and what it does with its wheel. -/
import Derived.Test.YtnklnhnjmikooaaGreatDy0
import Derived.Test.YtnklnhnjmikooaaGreatDy2
import Derived.Test.YtnklnhnjmikooaaGreatWhI
import Derived.Test.YtnklnhnjmikooaaGreatHpJ
import Derived.Test.YtnklnhnjmikooaaGreatWhN0
import Derived.Test.YtnklnhnjmikooaaGreatHpW
import Derived.Test.YtnklnhnjmikooaaGreatElG
import Derived.Deep.RegionHeld3
namespace Go.Proofs.YtnklnhnjmikooaaGreat
open Go.RowKit

theorem hideD {p : Prop} (h : p) : Hid p := h
set_option maxRecDepth 20000 in
set_option maxHeartbeats 4000000 in
theorem iDutyOkV (v : Value) (D : DDuty) (w : World) (h : VDuty w v D) :
    Calls Tryz.prog 35 #[v] w fun e w' => e = .returned (.bool (tB (DutyP D))) ∧ Below w.heap.size w w' := by
  have hB : ∀ w : World, ∀ o, Below w.heap.size w (w.alloc o) := fun w o => (Below.refl _ w).alloc (Nat.le_refl _) _
  obtain ⟨tv, rfl, ht⟩ := h
  obtain ⟨ttl, D⟩ := D
  have HT : Hid (VTims w tv D.tms) := ht
  obtain ⟨C, ⟨a, cap, rfl, h1, h2, h3⟩, hC⟩ := ht
  have HC : Hid (∀ (i : Nat) (r : DTim), D.tms[i]? = some r → C i 0 = Value.int IntKind.i64 r.id ∧ C i 1 = Value.int IntKind.i64 r.due) := hC
  obtain ⟨n, hn⟩ : ∃ n, n = D.tms.length := ⟨_, rfl⟩
  have HN : Hid (n = D.tms.length) := hn
  obtain ⟨R, hR⟩ : ∃ R, R = tB (DutyP ⟨ttl, D⟩) := ⟨_, rfl⟩
  rw [← hR]
  have HNO : Hid (¬ DutyP ⟨ttl, D⟩ → R = false) := fun h => by rw [hR]; exact tB_false h
  have HYE : Hid (DutyP ⟨ttl, D⟩ → R = true) := fun h => by rw [hR]; exact tB_true h
  simp only at h1 h3 HT ⊢
  rw [← hn] at h1 h3 HT ⊢
  have H3 : Hid (0 < n → ∃ b o, a = some ⟨b, o, none⟩ ∧ b < w.heap.size ∧ ∀ i, i < n → ∀ j, j < 2 → w.cell? ⟨b, o + i * 2 + j, none⟩ = some (C i j)) := h3
  unfold maxLen at h2
  have hcap : (n : Int) ≤ 9223372036854775807 := by omega
  clear hC hn hR h3
  go_enter Tryz.func35, Tryz.ntmps35
  go_wp2_with fail
  generalize hW : World.alloc w _ = W
  have BW : Below w.heap.size w W := by rw [← hW]; exact hB _ _
  have P0 : W.heap[w.heap.size]? = some (.cells #[.int .i64 ttl, .int .i64 D.now, .slice a n cap] 39 (0, 0)) := by rw [← hW]; exact heap_alloc_new w _
  clear hW
  refine (withinV _ _ _ _).mono ?_
  rintro e w0 ⟨rfl, rfl⟩
  obtain ⟨p0, f0⟩ := at_block P0 0 _ rfl
  obtain ⟨p1, f1⟩ := at_block P0 1 _ rfl
  obtain ⟨p2, f2⟩ := at_block P0 2 _ rfl
  clear f0 f1 f2
  have HBW := hideD BW
  cases hb : inB ttl 1 1000
  · have HK : Hid (R = false) := HNO.out (fun h => by have := h.1; simp only [inB, Bool.and_eq_false_iff, decide_eq_false_iff_not] at hb this; omega)
    clear hb
    go_wp2
    go_ret
    exact ⟨by rw [HK.out]; rfl, HBW.out⟩
  have HTT : Hid (1 ≤ ttl ∧ ttl ≤ 1000) := by simp only [inB, Bool.and_eq_true, decide_eq_true_eq] at hb; exact hb
  clear hb
  go_wp2_with fail
  refine (iWheelOkV _ D _ ⟨_, rfl, HT.out.ext (ext_below BW)⟩).mono ?_
  rintro e w1 ⟨rfl, b1⟩
  have P1 := below_blk b1 (Array.getElem?_eq_some_iff.1 P0).1 P0
  have HB1 : Hid (Below w.heap.size w w1) := BW.trans (b1.mono BW.size)
  have HP1 : Hid (w1.heap[w.heap.size]? = some (.cells #[.int .i64 ttl, .int .i64 D.now, .slice a n cap] 39 (0, 0))) := P1
  clear b1 P0 BW HBW p0 p1 p2
  obtain ⟨p0, f0⟩ := at_block P1 0 _ rfl
  obtain ⟨p1, f1⟩ := at_block P1 1 _ rfl
  obtain ⟨p2, f2⟩ := at_block P1 2 _ rfl
  clear P1 f0 f1 f2
  cases t3 : tB (WheelP D)
  · have HK : Hid (R = false) := HNO.out (fun h => by have := tB_true h.2.1; rw [t3] at this; cases this)
    clear t3
    go_wp2
    go_ret
    exact ⟨by rw [HK.out]; rfl, HB1.out⟩
  have HT3 : Hid (tB (WheelP D) = true) := t3
  clear t3
  by_cases t4 : 8 < n
  · have HK : Hid (R = false) := HNO.out (fun h => by have := h.2.2.1; have := HN.out; simp only at *; omega)
    have t4' : (8 : Int) < (n : Int) := by omega
    go_wp2
    go_ret
    exact ⟨by rw [HK.out]; rfl, HB1.out⟩
  have t4' : ¬ (8 : Int) < (n : Int) := by omega
  have d4 : decide ((8 : Int) < (n : Int)) = false := decide_eq_false t4'
  go_wp2
  go_loopw [26] (fun i wr => ∃ k : Nat, k ≤ n ∧ i = .int .i64 k ∧ Hid (∀ (j : Nat) (u : DTim), j < k → D.tms[j]? = some u → u.due - D.now ≤ ttl) ∧ Hid (Ext w1 wr)) (fun i _ => n - (intOf i).toNat)
  case atStart => exact ⟨0, Nat.zero_le _, rfl, fun j u hj => absurd hj (by omega), World.grownBy.refl _ _⟩
  case round =>
    obtain ⟨k, hk, rfl, hall, hX⟩ := hrel
    clear p0 p1 p2
    have PX : wr.heap[w.heap.size]? = some (.cells #[.int .i64 ttl, .int .i64 D.now, .slice a n cap] 39 (0, 0)) := (hX.out.block _ (Array.getElem?_eq_some_iff.1 HP1.out).1 (by simp)).trans HP1.out
    have HBX : Hid (Below w.heap.size w wr) := HB1.out.trans ((ext_bel hX.out).mono HB1.out.size)
    obtain ⟨p0, f0⟩ := at_block PX 0 _ rfl
    obtain ⟨p1, f1⟩ := at_block PX 1 _ rfl
    obtain ⟨p2, f2⟩ := at_block PX 2 _ rfl
    have q0 : ∀ o, (wr.alloc o).cell? ⟨w.heap.size, 0, none⟩ = some (.int .i64 ttl) := fun o => World.grownBy.cell (World.grownBy_alloc wr o none) p0 (by simp)
    have q1 : ∀ o, (wr.alloc o).cell? ⟨w.heap.size, 1, none⟩ = some (.int .i64 D.now) := fun o => World.grownBy.cell (World.grownBy_alloc wr o none) p1 (by simp)
    clear PX f0 f1 f2
    by_cases hlt : k < n
    · obtain ⟨b, o, rfl, hbl, hc⟩ := H3.out (by omega)
      obtain ⟨s, hs⟩ : ∃ s, D.tms[k]? = some s := ⟨_, List.getElem?_eq_getElem (by have := HN.out; omega)⟩
      obtain ⟨e0, e1⟩ := HC.out k s hs
      have c0 := World.grownBy.cell (ext_below HBX.out) (hc k hlt 0 (by omega)) (by simp)
      have c1 := World.grownBy.cell (ext_below HBX.out) (hc k hlt 1 (by omega)) (by simp)
      rw [e0, Nat.add_zero] at c0
      rw [e1] at c1
      have hlt' : (k : Int) < (n : Int) := by omega
      have HS : Hid (D.tms[k]? = some s) := hs
      have hd : -2000000 ≤ s.due - D.now ∧ s.due - D.now ≤ 2000000 := by
        have hP := tB_iff.1 HT3.out
        have := hP.1
        have := (hP.2.2 k (by have := HN.out; omega) s hs).2.1
        omega
      have hw : IntKind.i64.wrap (s.due - D.now) = s.due - D.now := wrapS (by omega) (by omega)
      have HD : Hid (-2000000 ≤ s.due - D.now ∧ s.due - D.now ≤ 2000000) := hd
      clear hc e0 e1 hs
      by_cases t5 : ttl < s.due - D.now
      · have HK : Hid (R = false) := HNO.out (fun h => by have hx : s.due - D.now ≤ ttl := h.2.2.2 k s HS.out; omega)
        have d5 : decide (ttl < s.due - D.now) = true := decide_eq_true t5
        go_wp2
        go_ret
        exact ⟨by rw [HK.out]; rfl, HBX.out.alloc HBX.out.size _⟩
      have d5 : decide (ttl < s.due - D.now) = false := decide_eq_false t5
      have HA : Hid (∀ (j : Nat) (u : DTim), j < k + 1 → D.tms[j]? = some u → u.due - D.now ≤ ttl) := fun j u hj hu => by
        by_cases e : j = k
        · subst e
          rw [HS.out] at hu
          cases hu
          omega
        · exact hall.out j u (by omega) hu
      go_wp2
      go_roundw
      case rel => exact ⟨k + 1, by omega, by go_num, HA, hX.out.trans (World.grownBy_alloc _ _ _)⟩
      case measure => simp [intOf]; omega
    · have hkn : k = n := by omega
      subst hkn
      have HK : Hid (R = true) := HYE.out ⟨HTT.out, tB_iff.1 HT3.out, by have := HN.out; simp only; omega, fun j u hu => hall.out j u (by have hz : j < D.tms.length := (List.getElem?_eq_some_iff.1 hu).1; have := HN.out; omega) hu⟩
      go_wp2
      go_ret
      exact ⟨by rw [HK.out]; rfl, HBX.out⟩

end Go.Proofs.YtnklnhnjmikooaaGreat

namespace Go.Proofs.YtnklnhnjmikooaaGreat
open Go.RowKit

/-- A new duty, and whether it may be (told by c). -/
def newDu (c : Bool) (ttl : Int) : DDuty × Bool := if c then (⟨ttl, ⟨0, []⟩⟩, true) else (⟨0, ⟨0, []⟩⟩, false)
/-- What a call that answers a duty and a bool leaves. -/
def ResD (R : DDuty × Bool) (w : World) (e : Ending) (w' : World) : Prop := ∃ tv, e = .returned (.tuple #[.agg #[.int .i64 R.1.ttl, .int .i64 R.1.wh.now, tv], .bool R.2]) ∧ OwT w' w.heap.size tv R.1.wh.tms ∧ Below w.heap.size w w'

theorem nilT (w : World) : VTims w (.slice none 0 0) [] := OwT.v (base := 0) (ts := []) (World.ownsRow_nil _ _ _ _)

end Go.Proofs.YtnklnhnjmikooaaGreat

namespace Go.Proofs.YtnklnhnjmikooaaGreat
open Go.RowKit

set_option maxHeartbeats 2000000 in
theorem iLeftV (v : Value) (D : DWheel) (id : Int) (w : World) (h : VWheel w v D) :
    Calls Tryz.prog 108 #[v, .int .i64 id] w fun e w' => e = .returned (.tuple #[.int .i64 (leftB (tB (WheelP D)) D id).1, .bool (leftB (tB (WheelP D)) D id).2]) ∧ Below w.heap.size w w' := by
  have hE : ∀ w : World, ∀ o, Ext w (w.alloc o) := fun w o => World.grownBy_alloc _ _ _
  have hB : ∀ w : World, ∀ o, Below w.heap.size w (w.alloc o) := fun w o => (Below.refl _ w).alloc (Nat.le_refl _) _
  have HV0 : Hid (VWheel w v D) := h
  obtain ⟨tv, rfl, h⟩ := h
  have HVT : Hid (VTims w tv D.tms) := h
  obtain ⟨C, ⟨a, cap, rfl, h1, h2, h3⟩, hC⟩ := h
  obtain ⟨n, hn⟩ : ∃ n, n = D.tms.length := ⟨_, rfl⟩
  rw [← hn] at h1 h3 HV0 HVT ⊢
  have HN : Hid (n = D.tms.length) := hn
  unfold maxLen at h2
  obtain ⟨R, hR⟩ : ∃ R, R = leftB (tB (WheelP D)) D id := ⟨_, rfl⟩
  rw [← hR]
  have HR : Hid (R = leftB (tB (WheelP D)) D id) := hR
  clear hR hn
  cases hok : tB (WheelP D) with
  | false =>
    have HOK : Hid (tB (WheelP D) = false) := hok
    have HK : Hid (R = (0, false)) := by rw [HR.out]; unfold leftB; rw [hok]; exact rfl
    clear hok h3 hC
    go_enter Tryz.func108, Tryz.ntmps108
    go_wp2_with (go_at_call 77; refine (iWheelOkV _ D _ (HV0.out.ext (hE _ _))).mono ?_; rintro e w1 ⟨rfl, b1⟩; rw [HOK.out])
    go_ret2
    exact ⟨by rw [HK.out]; rfl, (hB w _).trans (b1.mono (by simp))⟩
  | true =>
    have HOK : Hid (tB (WheelP D) = true) := hok
    have HP : Hid (WheelP D) := tB_iff.1 hok
    rcases placeT_cases D.tms id with ⟨hp, _⟩ | ⟨i, s, hs, _, _, hp⟩
    · have HPL : Hid (placeT D.tms id = -1) := hp
      have HK : Hid (R = (0, false)) := by rw [HR.out]; unfold leftB; rw [hok, hp]; exact rfl
      clear hok h3 hC hp
      go_enter Tryz.func108, Tryz.ntmps108
      go_wp2_with fail
      generalize hW : w.alloc _ = W
      have y0 : W.cell? ⟨w.heap.size, 0, none⟩ = some (.int .i64 D.now) := by rw [← hW]; exact (at_block (heap_alloc_new w _) 0 _ rfl).1
      have y1 : W.cell? ⟨w.heap.size, 1, none⟩ = some (.slice a n cap) := by rw [← hW]; exact (at_block (heap_alloc_new w _) 1 _ rfl).1
      have BW0 : Below w.heap.size w W := by rw [← hW]; exact hB _ _
      have hs : w.heap.size < W.heap.size := by rw [← hW]; simp
      refine (iWheelOkV _ D _ (HV0.out.ext (ext_below BW0))).mono ?_
      rintro e w1 ⟨rfl, b1⟩
      rw [HOK.out]
      have c0 := (b1.cell (p := ⟨w.heap.size, 0, none⟩) hs).trans y0
      have c1 := (b1.cell (p := ⟨w.heap.size, 1, none⟩) hs).trans y1
      have HB1 : Hid (Below w.heap.size w w1) := BW0.trans (b1.mono BW0.size)
      have hs1 : w.heap.size < w1.heap.size := Nat.lt_of_lt_of_le hs b1.size
      clear y0 y1 hW b1 BW0 hs
      go_wp2_with fail
      refine (placeV _ D.tms id _ (HVT.out.ext (ext_below HB1.out))).mono ?_
      rintro e w2 ⟨rfl, b2⟩
      rw [HPL.out]
      have c0 := (b2.cell (p := ⟨w.heap.size, 0, none⟩) hs1).trans c0
      have c1 := (b2.cell (p := ⟨w.heap.size, 1, none⟩) hs1).trans c1
      have HB1 : Hid (Below w.heap.size w w2) := HB1.out.trans (b2.mono HB1.out.size)
      go_wp2
      go_ret2
      exact ⟨by rw [HK.out]; rfl, HB1.out⟩
    · have HPL : Hid (placeT D.tms id = (i : Int)) := hp
      have hin : i < n := by have := (List.getElem?_eq_some_iff.1 hs).1; have := HN.out; omega
      have HK : Hid (R = (s.due - D.now, true)) := by
        rw [HR.out]; unfold leftB; rw [hok, if_pos rfl, hp, if_neg (by omega), Int.toNat_natCast, hs]; exact rfl
      obtain ⟨b, o, rfl, hbl, hc⟩ := h3 (by omega)
      have e0 := hc i hin 1 (by omega)
      rw [(hC i s hs).2] at e0
      have HE0 : Hid (w.cell? ⟨b, o + i * 2 + 1, none⟩ = some (.int .i64 s.due)) := e0
      obtain ⟨⟨_, _⟩, ⟨_, _⟩, _⟩ := HP.out.2.2 i (by have := HN.out; omega) s hs
      obtain ⟨_, _⟩ := HP.out.1
      have hin' : (i : Int) < n := by omega
      clear hok hc hC hs hp e0
      go_enter Tryz.func108, Tryz.ntmps108
      go_wp2_with fail
      generalize hW : w.alloc _ = W
      have y0 : W.cell? ⟨w.heap.size, 0, none⟩ = some (.int .i64 D.now) := by rw [← hW]; exact (at_block (heap_alloc_new w _) 0 _ rfl).1
      have y1 : W.cell? ⟨w.heap.size, 1, none⟩ = some (.slice (some ⟨b, o, none⟩) n cap) := by rw [← hW]; exact (at_block (heap_alloc_new w _) 1 _ rfl).1
      have BW0 : Below w.heap.size w W := by rw [← hW]; exact hB _ _
      have hs : w.heap.size < W.heap.size := by rw [← hW]; simp
      refine (iWheelOkV _ D _ (HV0.out.ext (ext_below BW0))).mono ?_
      rintro e w1 ⟨rfl, b1⟩
      rw [HOK.out]
      have c0 := (b1.cell (p := ⟨w.heap.size, 0, none⟩) hs).trans y0
      have c1 := (b1.cell (p := ⟨w.heap.size, 1, none⟩) hs).trans y1
      have HB1 : Hid (Below w.heap.size w w1) := BW0.trans (b1.mono BW0.size)
      have hs1 : w.heap.size < w1.heap.size := Nat.lt_of_lt_of_le hs b1.size
      clear y0 y1 hW b1 BW0 hs
      go_wp2_with fail
      refine (placeV _ D.tms id _ (HVT.out.ext (ext_below HB1.out))).mono ?_
      rintro e w2 ⟨rfl, b2⟩
      rw [HPL.out]
      have c0 := (b2.cell (p := ⟨w.heap.size, 0, none⟩) hs1).trans c0
      have c1 := (b2.cell (p := ⟨w.heap.size, 1, none⟩) hs1).trans c1
      have HB1 : Hid (Below w.heap.size w w2) := HB1.out.trans (b2.mono HB1.out.size)
      have x0 := World.grownBy.cell (ext_below HB1.out) HE0.out (by simp)
      go_wp2_with fail
      go_quiet (fail)
      go_wp2
      go_ret2
      exact ⟨by rw [HK.out]; rfl, below_drewN HB1.out _⟩

end Go.Proofs.YtnklnhnjmikooaaGreat

namespace Go.Proofs.YtnklnhnjmikooaaGreat
open Go.RowKit

/-- A keeper in a box of the call's own. -/
structure KB (w : World) (base h : Nat) (ttl now : Int) (a : Option Addr) (cap : Nat) (ts : List DTim) : Prop where
  box : w.heap[h]? = some (.cells #[.int .i64 now, .slice a ts.length cap, .int .i64 ttl] 101 (0, 0))
  row : OwT w base (.slice a ts.length cap) ts
  low : base ≤ h
theorem KB.cells {w : World} {base h cap : Nat} {ttl now : Int} {a : Option Addr} {ts : List DTim} (p : KB w base h ttl now a cap ts) : w.cell? ⟨h, 0, none⟩ = some (.int .i64 now) ∧ w.cell? ⟨h, 1, none⟩ = some (.slice a ts.length cap) ∧ w.cell? ⟨h, 2, none⟩ = some (.int .i64 ttl) ∧ w.frozen? ⟨h, 0, none⟩ = false ∧ w.frozen? ⟨h, 1, none⟩ = false := ⟨(at_block p.box 0 _ rfl).1, (at_block p.box 1 _ rfl).1, (at_block p.box 2 _ rfl).1, (at_block p.box 0 _ rfl).2, (at_block p.box 1 _ rfl).2⟩
theorem KB.below {w w' : World} {base h cap : Nat} {ttl now : Int} {a : Option Addr} {ts : List DTim} (p : KB w base h ttl now a cap ts) (b : Below w.heap.size w w') : KB w' base h ttl now a cap ts :=
  ⟨below_blk b (Array.getElem?_eq_some_iff.1 p.box).1 p.box, p.row.kept (ext_below b) (by cases hv : (Value.slice a ts.length cap).ownBlock <;> simp), p.low⟩

/-- What a method that turns the keeper leaves: its box holds this wheel now. -/
def KSet (base h : Nat) (ttl : Int) (R : DWheel) (w : World) (w' : World) : Prop := ∃ a cap, KB w' base h ttl R.now a cap R.tms ∧ w.grownBy w' (some h)

set_option maxHeartbeats 2000000 in
theorem hasV (h base cap : Nat) (ttl now : Int) (a : Option Addr) (ts : List DTim) (id : Int) (w : World) (p : KB w base h ttl now a cap ts) (hp : WheelP ⟨now, ts⟩) :
    Calls Tryz.prog 85 #[.pointer (some ⟨h, 0, none⟩), .int .i64 id] w fun e w' => e = .returned (.bool (!decide (placeT ts id < 0))) ∧ Below w.heap.size w w' := by
  obtain ⟨c0, c1, _, _, _⟩ := p.cells
  obtain ⟨n, hn⟩ : ∃ n, n = ts.length := ⟨_, rfl⟩
  rw [← hn] at c1
  have HV : Hid (VTims w (.slice a n cap) ts) := by rw [hn]; exact p.row.v
  have HR : Hid (leftB (tB (WheelP ⟨now, ts⟩)) ⟨now, ts⟩ id = (leftB true ⟨now, ts⟩ id) ∧ (leftB true ⟨now, ts⟩ id).2 = !decide (placeT ts id < 0)) := by
    refine ⟨by rw [tB_true hp], ?_⟩
    unfold leftB
    simp only [if_true]
    rcases placeT_cases ts id with ⟨h1, _⟩ | ⟨i, t, h1, _, _, h2⟩
    · rw [h1]; rfl
    · rw [h2, if_neg (by omega)]
      have : ((i : Nat) : Int).toNat = i := by omega
      simp only [this, h1]
      have : ¬ ((i : Nat) : Int) < 0 := by omega
      simp [this]
  obtain ⟨⟨q, b⟩, hq⟩ : ∃ q, q = leftB true ⟨now, ts⟩ id := ⟨_, rfl⟩
  rw [← hq] at HR
  rw [← HR.out.2]
  clear hn p hq
  go_enter Tryz.func85, Tryz.ntmps85
  go_wp2_with fail
  refine (iLeftV _ ⟨now, ts⟩ id w ⟨_, rfl, HV.out⟩).mono ?_
  rintro e w1 ⟨rfl, b1⟩
  rw [HR.out.1]
  go_wp2
  go_ret
  exact ⟨rfl, b1⟩

theorem baseT {w : World} {b b' : Nat} {v : Value} {ts : List DTim} (o : OwT w b v ts) (h : b' ≤ b) : OwT w b' v ts := by
  obtain ⟨hl, hh⟩ := o
  refine ⟨hl, ?_⟩
  rcases hh with hh | ⟨g, c, cur, h1, h2, h3⟩
  · exact .inl hh
  · exact .inr ⟨g, c, cur, h1, Nat.le_trans h h2, h3⟩
theorem below_undrew {w w' : World} {b : Nat} (h : Below b w.drew w') : Below b w w' := ⟨h.os, h.tape, h.output, h.size, h.block⟩
theorem KB.put {w w' : World} {base h cap cap' : Nat} {ttl now now' : Int} {a a' : Option Addr} {ts ts' : List DTim} (p : KB w base h ttl now a cap ts) (b : Below w.heap.size w w') (hb : base ≤ w.heap.size) (o : OwT w' w.heap.size (.slice a' ts'.length cap') ts') (v0 v1 : Value) (h0 : v0 = .int .i64 now') (h1 : v1 = .slice a' ts'.length cap') :
    KB ((w'.setCell ⟨h, 0, none⟩ v0).setCell ⟨h, 1, none⟩ v1) base h ttl now' a' cap' ts' ∧ w.grownBy ((w'.setCell ⟨h, 0, none⟩ v0).setCell ⟨h, 1, none⟩ v1) (some h) := by
  subst h0
  subst h1
  have hh : h < w.heap.size := (Array.getElem?_eq_some_iff.1 p.box).1
  have P1 := below_blk b hh p.box
  have hne : (Value.slice a' ts'.length cap').ownBlock = none ∨ (Value.slice a' ts'.length cap').ownBlock ≠ some h := by
    right
    intro e
    have := (World.ownsRow.lt o _ e).1
    omega
  refine ⟨⟨?_, ?_, p.low⟩, ((grown_below b _).trans (set_grown _ _ _ _)).trans (set_grown _ _ _ _)⟩
  · have P2 : (w'.setCell ⟨h, 0, none⟩ (.int .i64 now')).heap[h]? = some (.cells #[.int .i64 now', .slice a ts.length cap, .int .i64 ttl] 101 (0, 0)) := by
      rw [set_block P1 0]
      simp
    rw [set_block P2 1]
    simp
  · obtain ⟨hl, hh⟩ := (o.kept (set_grown _ _ _ _) hne).kept (set_grown _ _ _ _) hne
    refine ⟨hl, ?_⟩
    rcases hh with hh | ⟨g, c, cur, h1, h2, h3⟩
    · exact .inl hh
    · exact .inr ⟨g, c, cur, h1, Nat.le_trans hb h2, h3⟩

set_option maxHeartbeats 2000000 in
theorem kSetV (h base cap : Nat) (ttl now : Int) (a : Option Addr) (ts : List DTim) (id after : Int) (w : World) (p : KB w base h ttl now a cap ts) (hb : base ≤ w.heap.size) (hl : ts.length ≤ 1048576) :
    Calls Tryz.prog 95 #[.pointer (some ⟨h, 0, none⟩), .int .i64 id, .int .i64 after] w fun e w' => e = .returned (.tuple #[]) ∧ KSet base h ttl (setD (tB (WheelP ⟨now, ts⟩)) ⟨now, ts⟩ id after).1 w w' := by
  obtain ⟨c0, c1, _, _, _⟩ := p.cells
  have HP : Hid (KB w base h ttl now a cap ts) := p
  have HBB : Hid (base ≤ w.heap.size) := hb
  have HL : Hid (ts.length ≤ 1048576) := hl
  obtain ⟨n, hn⟩ : ∃ n, n = ts.length := ⟨_, rfl⟩
  rw [← hn] at c1
  have HV : Hid (VTims w (.slice a n cap) ts) := by rw [hn]; exact p.row.v
  obtain ⟨⟨R, rb⟩, hR⟩ : ∃ R, R = setD (tB (WheelP ⟨now, ts⟩)) ⟨now, ts⟩ id after := ⟨_, rfl⟩
  rw [← hR]
  have HR : Hid ((R, rb) = setD (tB (WheelP ⟨now, ts⟩)) ⟨now, ts⟩ id after) := hR
  clear hn p hR hb hl
  go_enter Tryz.func95, Tryz.ntmps95
  go_wp2_with fail
  refine (iSetV _ ⟨now, ts⟩ id after w ⟨_, rfl, HV.out⟩ HL.out).mono ?_
  rintro e w1 ⟨tv, rfl, o1, b1⟩
  rw [← HR.out] at o1 ⊢
  obtain ⟨m, hm⟩ : ∃ m, m = R.tms.length := ⟨_, rfl⟩
  obtain ⟨a1, c1', rfl⟩ := o1.v.shape
  have HO : Hid (OwT w1 w.heap.size (.slice a1 R.tms.length c1') R.tms) := o1
  have HM : Hid (m = R.tms.length) := hm
  rw [← hm]
  have P1 := below_blk b1 (Array.getElem?_eq_some_iff.1 HP.out.box).1 HP.out.box
  obtain ⟨x0, f0⟩ := at_block P1 0 _ rfl
  obtain ⟨x1, f1⟩ := at_block P1 1 _ rfl
  have HB1 := hideD b1
  clear o1 hm b1 P1 c0 c1
  go_wp2
  go_end0
  refine ⟨rfl, a1, c1', ?_⟩
  rw [HM.out]
  exact HP.out.put HB1.out HBB.out HO.out _ _ rfl rfl

set_option maxHeartbeats 2000000 in
theorem renewV (h base cap : Nat) (ttl now : Int) (a : Option Addr) (ts : List DTim) (id : Int) (w : World) (p : KB w base h ttl now a cap ts) (hb : base ≤ w.heap.size) (hl : ts.length ≤ 1048576) :
    Calls Tryz.prog 55 #[.pointer (some ⟨h, 0, none⟩), .int .i64 id] w fun e w' => e = .returned (.tuple #[]) ∧ KSet base h ttl (setD (tB (WheelP ⟨now, ts⟩)) ⟨now, ts⟩ id ttl).1 w w' := by
  obtain ⟨c0, c1, c2, _, _⟩ := p.cells
  have HP : Hid (KB w base h ttl now a cap ts) := p
  have HBB : Hid (base ≤ w.heap.size) := hb
  have HL : Hid (ts.length ≤ 1048576) := hl
  clear p hb hl c0 c1
  go_enter Tryz.func55, Tryz.ntmps55
  go_wp2_with fail
  have hS : ∀ q, Calls Tryz.prog 95 #[.pointer (some ⟨h, 0, none⟩), .int .i64 id, .int .i64 ttl] (w.drewN q) fun e w' => e = .returned (.tuple #[]) ∧ KSet base h ttl (setD (tB (WheelP ⟨now, ts⟩)) ⟨now, ts⟩ id ttl).1 w w' := fun q =>
    (kSetV h base cap ttl now a ts id ttl (w.drewN q) (HP.out.below (below_drewN (Below.refl _ w) q)) HBB.out HL.out).mono (fun e w' ⟨h1, a', c', h2, h3⟩ => ⟨h1, a', c', h2, ⟨h3.os, h3.tape, h3.output, h3.size, h3.block⟩⟩)
  go_region_held3 (fun w' => w'.cell? ⟨h, 2, none⟩ = some (.int .i64 ttl)) (simp [*]) (first | (go_at_call 95; refine (hS 1).mono ?_; rintro e w1 ⟨rfl, a9, cp9, kb9, g9⟩; have x2 := kb9.cells.2.2.1))
  all_goals go_wp2
  go_end0
  exact ⟨rfl, a9, cp9, kb9, g9⟩

set_option maxHeartbeats 2000000 in
theorem keeperV (v : Value) (D : DDuty) (w : World) (h : VDuty w v D) (hl : D.wh.tms.length ≤ 1048576) :
    Calls Tryz.prog 37 #[v] w fun e w' => ∃ k a cap, e = .returned (.pointer (some ⟨k, 0, none⟩)) ∧ KB w' w.heap.size k D.ttl D.wh.now a cap D.wh.tms ∧ Below w.heap.size w w' := by
  have HL : Hid (D.wh.tms.length ≤ 1048576) := hl
  obtain ⟨tv, rfl, ht⟩ := h
  obtain ⟨a, cap, rfl⟩ := ht.shape
  have HV : Hid (VTims w (.slice a D.wh.tms.length cap) D.wh.tms) := ht
  obtain ⟨n, hn⟩ : ∃ n, n = D.wh.tms.length := ⟨_, rfl⟩
  rw [← hn] at HV ⊢
  have HN : Hid (n = D.wh.tms.length) := hn
  clear hn ht hl
  go_enter Tryz.func37, Tryz.ntmps37
  go_wp2_with fail
  generalize hW : w.alloc _ = W
  have BW : Below w.heap.size w W := by rw [← hW]; exact (Below.refl _ w).alloc (Nat.le_refl _) _
  have P0 : W.heap[w.heap.size]? = some (.cells #[.int .i64 D.ttl, .int .i64 D.wh.now, .slice a n cap] 39 (0, 0)) := by rw [← hW]; exact heap_alloc_new w _
  have hws : w.heap.size < W.heap.size := (Array.getElem?_eq_some_iff.1 P0).1
  clear hW
  have HB0 := hideD BW
  have HP0 := hideD P0
  have HC : Hid (∀ V, Ext W V → Calls Tryz.prog 82 #[.slice a n cap] V fun e w' => ∃ a' c', e = .returned (.slice a' n c') ∧ (w'.cell? ⟨w.heap.size, 1, none⟩ = some (.int .i64 D.wh.now) ∧ w'.cell? ⟨w.heap.size, 2, none⟩ = some (.slice a n cap)) ∧ Hid (OwT w' V.heap.size (.slice a' n c') D.wh.tms) ∧ Hid (Below V.heap.size V w') ∧ (∀ k o, V.heap[k]? = some o → w'.heap[k]? = some o)) := fun V hb =>
    (cloneT _ D.wh.tms V (HV.out.ext ((ext_below HB0.out).trans hb)) HL.out).mono (fun e w' ⟨v', h1, h2, h3⟩ => by
      obtain ⟨a', c', rfl⟩ := h2.v.shape
      rw [← HN.out] at h1 h2
      have P1 := ext_blk (hb.trans (ext_below h3)) HP0.out
      exact ⟨a', c', h1, ⟨(at_block P1 1 _ rfl).1, (at_block P1 2 _ rfl).1⟩, h2, h3, fun k o hk => ext_blk (ext_below h3) hk⟩)
  obtain ⟨p0, _⟩ := at_block P0 0 _ rfl
  obtain ⟨p1, _⟩ := at_block P0 1 _ rfl
  obtain ⟨p2, _⟩ := at_block P0 2 _ rfl
  clear P0 BW
  have hne := World.new_ne W _ p1
  have hne2 := World.new_ne W _ p2
  go_region_held3 (fun w' => w'.cell? ⟨w.heap.size, 1, none⟩ = some (.int .i64 D.wh.now) ∧ w'.cell? ⟨w.heap.size, 2, none⟩ = some (.slice a n cap)) (first | (simp [*]; done) | go_keep) (first | (go_at_call 82; refine (HC.out _ ?_).mono ?_; (first | exact ext_drewN W 1 | exact (World.grownBy_alloc W _ none).trans (ext_drewN _ 1)); rintro e w1 ⟨a1, c1, rfl, ⟨y1, y2⟩, o1, b1, hk1⟩; (try (obtain ⟨z0, f0⟩ := at_block (hk1 W.heap.size _ (heap_alloc_new W (.cells #[.int .i64 0, .slice none 0 0] 37))) 0 _ rfl; obtain ⟨z1, f1⟩ := at_block (hk1 W.heap.size _ (heap_alloc_new W (.cells #[.int .i64 0, .slice none 0 0] 37))) 1 _ rfl))))
  · have HU : Hid (∀ U, U = w1.alloc (.cells #[.int .i64 D.wh.now, .slice a1 n c1] 37) → U.heap[w1.heap.size]? = some (.cells #[.int .i64 D.wh.now, .slice a1 n c1] 37 (0, 0)) ∧ U.heap[w.heap.size]? = some (.cells #[.int .i64 D.ttl, .int .i64 D.wh.now, .slice a n cap] 39 (0, 0)) ∧ OwT U w.heap.size (.slice a1 n c1) D.wh.tms ∧ Below w.heap.size w U) := fun U hU => by
      subst hU
      have Q := hk1 _ _ HP0.out
      exact ⟨heap_alloc_new _ _, by rw [Below.heap_alloc _ _ _ (Array.getElem?_eq_some_iff.1 Q).1]; exact Q, (baseT o1.out HB0.out.size).alloc _, (HB0.out.trans ((below_undrew b1.out).mono HB0.out.size)).alloc (Nat.le_trans HB0.out.size b1.out.size) _⟩
    generalize hU : w1.alloc _ = U
    obtain ⟨q1, q2, q3, q4⟩ := HU.out U hU.symm
    generalize w1.heap.size = g1 at *
    have H3 := hideD q3
    have H4 := hideD q4
    obtain ⟨u0, _⟩ := at_block q1 0 _ rfl
    obtain ⟨u1, _⟩ := at_block q1 1 _ rfl
    obtain ⟨t0, _⟩ := at_block q2 0 _ rfl
    clear hU HU q3 q4 o1 b1 hk1 y1 y2 q1 q2 p0 p1 p2
    go_wp2
    go_ret
    exact ⟨_, a1, c1, rfl, ⟨by rw [← HN.out]; exact heap_alloc_new _ _, by rw [← HN.out]; exact H3.out.alloc _, H4.out.size⟩, H4.out.alloc H4.out.size _⟩
  · have HU : Hid (∀ U, U = (w1.setCell ⟨W.heap.size, 0, none⟩ (.int .i64 D.wh.now)).setCell ⟨W.heap.size, 1, none⟩ (.slice a1 n c1) → U.heap[W.heap.size]? = some (.cells #[.int .i64 D.wh.now, .slice a1 n c1] 37 (0, 0)) ∧ U.heap[w.heap.size]? = some (.cells #[.int .i64 D.ttl, .int .i64 D.wh.now, .slice a n cap] 39 (0, 0)) ∧ OwT U w.heap.size (.slice a1 n c1) D.wh.tms ∧ Below w.heap.size w U) := fun U hU => by
      subst hU
      have Q := hk1 _ _ (by rw [show (World.drew (W.alloc (Obj.cells #[Value.int IntKind.i64 0, Value.slice none 0 0] 37))).heap = (W.alloc (Obj.cells #[Value.int IntKind.i64 0, Value.slice none 0 0] 37)).heap from rfl, Below.heap_alloc W _ _ hws]; exact HP0.out)
      have Q1 := hk1 _ _ (heap_alloc_new W (.cells #[.int .i64 0, .slice none 0 0] 37))
      have hb := b1.out
      have hs : W.heap.size + 1 ≤ w1.heap.size := by simpa using hb.size
      have hnv : (Value.slice a1 n c1).ownBlock = none ∨ (Value.slice a1 n c1).ownBlock ≠ some W.heap.size := by
        right
        intro e
        have := (World.ownsRow.lt o1.out _ e).1
        simp at this
        omega
      have Q2 : (w1.setCell ⟨W.heap.size, 0, none⟩ (.int .i64 D.wh.now)).heap[W.heap.size]? = some (.cells #[.int .i64 D.wh.now, .slice none 0 0] 37 (0, 0)) := by rw [set_block Q1 0]; simp
      have hB : Below W.heap.size W w1 := ⟨hb.os, hb.tape, hb.output, by omega, fun k hk => by
        rw [hb.block k (by simp; omega)]
        exact Below.heap_alloc W _ k hk⟩
      refine ⟨by rw [set_block Q2 1]; simp, by rw [Below.heap_setCell _ _ _ _ (by simp; omega), Below.heap_setCell _ _ _ _ (by simp; omega)]; exact Q, ((baseT o1.out (by simp; omega)).kept (set_grown _ _ _ _) hnv).kept (set_grown _ _ _ _) hnv, (((HB0.out.trans (hB.mono HB0.out.size)).setCell (by simp; omega) _).setCell (by simp; omega) _)⟩
    generalize hU : World.setCell (World.setCell w1 _ _) _ _ = U
    obtain ⟨q1, q2, q3, q4⟩ := HU.out U hU.symm
    generalize W.heap.size = g1 at *
    have H3 := hideD q3
    have H4 := hideD q4
    obtain ⟨u0, _⟩ := at_block q1 0 _ rfl
    obtain ⟨u1, _⟩ := at_block q1 1 _ rfl
    obtain ⟨t0, _⟩ := at_block q2 0 _ rfl
    clear hU HU q3 q4 o1 b1 hk1 y1 y2 q1 q2 p0 p1 p2 z0 z1
    go_wp2
    go_ret
    exact ⟨_, a1, c1, rfl, ⟨by rw [← HN.out]; exact heap_alloc_new _ _, by rw [← HN.out]; exact H3.out.alloc _, H4.out.size⟩, H4.out.alloc H4.out.size _⟩

end Go.Proofs.YtnklnhnjmikooaaGreat

