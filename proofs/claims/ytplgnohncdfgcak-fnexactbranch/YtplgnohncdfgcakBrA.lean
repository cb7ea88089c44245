/- The contract of the specification's Branch. -/
import Derived.Test.YtplgnohncdfgcakSHas
import Derived.Test.YtplgnohncdfgcakLsC
import Derived.Deep.RegionHeld3
namespace Go.Proofs.Ytplgnohncdfgcak
open Go.RowKit

def brStepR (p : List Int) (acc : Int × Bool) (r : DRow) : Int × Bool := if hasB r.key p = true then (max acc.1 r.turned, true) else acc
def brStepT (p : List Int) (ix : Int) (t : DTomb) : Int := if hasB t.key p = true then max ix t.index else ix
/-- What Branch must answer: when, and whether there is one. -/
def brV (S : DState) (p : List Int) (hD : Decidable (StP S) := Classical.propDecidable (StP S)) : Int × Bool :=
  if tB (StP S) hD = true then (S.tombs.foldl (brStepT p) (S.rows.foldl (brStepR p) (S.lost, false)).1, (S.rows.foldl (brStepR p) (S.lost, false)).2) else (0, false)
def viewV (x : Int × Bool) : Value := .agg #[.int .i64 x.1, .bool x.2, .slice none 0 0]

theorem fold_next {α β : Type} (f : β → α → β) (b : β) (l : List α) (k : Nat) (x : α) (h : l[k]? = some x) : (l.take (k + 1)).foldl f b = f ((l.take k).foldl f b) x := by
  rw [List.take_add_one, h]
  simp

/-- What a walk through Branch knows: the state's box, the zero result's, the view's. -/
structure BI (w : World) (gv : Nat) (st : Array Value) (x : Int × Bool) (wr : World) : Prop where
  b : Below w.heap.size w wr
  r : wr.heap[w.heap.size]? = some (.cells st 38 (0, 0))
  t : wr.heap[w.heap.size + 1]? = some (.cells #[.int .i64 0, .bool false, .slice none 0 0] 31 (0, 0))
  v : wr.heap[gv]? = some (.cells #[.int .i64 x.1, .bool x.2, .slice none 0 0] 31 (0, 0))
  n : w.heap.size + 2 ≤ gv

theorem BI.drew {w : World} {gv : Nat} {st : Array Value} {x : Int × Bool} {wr : World} (h : BI w gv st x wr) (q : Nat) : BI w gv st x (wr.drewN q) := ⟨below_drewN h.b q, h.r, h.t, h.v, h.n⟩
theorem BI.has {w : World} {gv : Nat} {st : Array Value} {x : Int × Bool} {wr : World} (h : BI w gv st x wr) : BI w gv st (x.1, true) (wr.setCell ⟨gv, 1, none⟩ (.bool true)) := by
  have hn := h.n
  exact ⟨below_set h.b (by omega), set_other gv 1 _ (by omega) h.r, set_other gv 1 _ (by omega) h.t, set_block h.v 1 _, h.n⟩
theorem BI.idx {w : World} {gv : Nat} {st : Array Value} {x : Int × Bool} {wr : World} (h : BI w gv st x wr) (y : Int) : BI w gv st (y, x.2) (wr.setCell ⟨gv, 0, none⟩ (.int .i64 y)) := by
  have hn := h.n
  exact ⟨below_set h.b (by omega), set_other gv 0 _ (by omega) h.r, set_other gv 0 _ (by omega) h.t, set_block h.v 0 _, h.n⟩
theorem BI.alloc {w : World} {gv : Nat} {st : Array Value} {x : Int × Bool} {wr : World} (h : BI w gv st x wr) (o : Obj) : BI w gv st x (wr.alloc o) := by
  have l1 := (Array.getElem?_eq_some_iff.1 h.r).1
  have l2 := (Array.getElem?_eq_some_iff.1 h.t).1
  have l3 := (Array.getElem?_eq_some_iff.1 h.v).1
  exact ⟨h.b.alloc h.b.size _, (Below.heap_alloc wr o _ l1).trans h.r, (Below.heap_alloc wr o _ l2).trans h.t, (Below.heap_alloc wr o _ l3).trans h.v, h.n⟩

theorem BI.below {w : World} {gv : Nat} {st : Array Value} {x : Int × Bool} {wr u : World} (h : BI w gv st x wr) (hb : Below wr.heap.size wr u) : BI w gv st x u :=
  ⟨h.b.trans (hb.mono h.b.size), below_blk hb (Array.getElem?_eq_some_iff.1 h.r).1 h.r, below_blk hb (Array.getElem?_eq_some_iff.1 h.t).1 h.t, below_blk hb (Array.getElem?_eq_some_iff.1 h.v).1 h.v, h.n⟩
theorem bw_drew {P : Program} {f : FuncId} {args : Array Value} {w : World} {p : BW w} {v : Value}
    (h : Calls P f args p.u fun e w' => e = .returned v ∧ ∃ q, w' = p.u.drewN q) : Calls P f args p.u fun e w'' => e = .returned v ∧ ∃ q : BW w, w'' = q.u :=
  h.mono fun _ _ ⟨he, q, hm⟩ => ⟨he, ⟨_, below_drewN p.h q⟩, hm⟩

theorem keyB_len {xs : List Int} (h : keyB xs = true) : xs.length ≤ 2097152 := by
  unfold keyB at h
  simp only [Bool.and_eq_true, decide_eq_true_eq] at h
  omega

set_option maxHeartbeats 4000000 in
theorem sBranchV (hI : SaysOk 39) (v u : Value) (S : DState) (p : List Int) (w : World) (h : VState w v S) (hp : RV w u p) (hpl : p.length ≤ 2097152) :
    Calls Try.prog 30 #[v, u] w fun e w' => e = .returned (viewV (brV S p)) ∧ Below w.heap.size w w' := by
  have hE : ∀ w : World, ∀ o, Ext w (w.alloc o) := fun w o => World.grownBy_alloc _ _ _
  have hB : ∀ w : World, ∀ o, Below w.heap.size w (w.alloc o) := fun w o => (Below.refl _ w).alloc (Nat.le_refl _) _
  have h0 : Hid (VState w v S) := h
  have HI : Hid (SaysOk 39) := hI
  have HP : Hid (RV w u p ∧ p.length ≤ 2097152) := ⟨hp, hpl⟩
  clear hI hpl
  obtain ⟨rv, tv, sv, lv, rfl, hr, ht, _, _⟩ := h
  obtain ⟨pa, pc, rfl, _, _, _⟩ := hp
  go_enter Try.func30, Try.ntmps30
  go_wp2_with fail
  refine (HI.out _ S _ (h0.out.ext (by first | exact hE _ _ | exact (hE _ _).tr (hE _ _)))).mono ?_
  rintro e w1 ⟨rfl, b1⟩
  have R1 := below_blk b1 (by simp; omega) (h2_0 w _ _)
  have T1 := below_blk b1 (by simp) (h2_1 w _ _)
  have hs1 : w.heap.size + 2 ≤ w1.heap.size := by have := b1.size; simp at this; omega
  have B1 : Below w.heap.size w w1 := ((hB w _).alloc (by simp) _).trans (b1.mono (by simp; omega))
  clear b1
  cases hok : tB (StP S)
  · have HR : Hid (brV S p = (0, false)) := if_neg (by rw [hok]; simp)
    obtain ⟨t0, g0⟩ := at_block T1 0 _ rfl
    obtain ⟨t1, g1⟩ := at_block T1 1 _ rfl
    obtain ⟨t2, g2⟩ := at_block T1 2 _ rfl
    clear hok R1
    go_wp2
    refine bodyPost_ret (v := viewV (0, false)) (by simp [results, viewV, Try.results30, go_sem, t0, t1, t2]) rfl ?_
    refine ⟨by rw [HR.out], ?_⟩
    repeat (refine below_set ?_ (by omega))
    exact B1
  have HBR : Hid (brV S p = (S.tombs.foldl (brStepT p) (S.rows.foldl (brStepR p) (S.lost, false)).1, (S.rows.foldl (brStepR p) (S.lost, false)).2)) := if_pos hok
  have HKL : Hid (∀ (i : Nat) (r : DRow), S.rows[i]? = some r → r.key.length ≤ 2097152) := fun i r hr => keyB_len ((tB_iff.1 hok).2.2.2.1.2 i (List.getElem?_eq_some_iff.1 hr).1 r hr).1
  have HKT : Hid (∀ (i : Nat) (r : DTomb), S.tombs[i]? = some r → r.key.length ≤ 2097152) := fun i r hr => keyB_len ((tB_iff.1 hok).2.2.2.2.1.2 i (List.getElem?_eq_some_iff.1 hr).1 r hr).1
  clear hok
  obtain ⟨r3, _⟩ := at_block R1 3 _ rfl
  have HB0 : Hid (BI w w1.heap.size #[.int .i64 S.index, rv, tv, .int .i64 S.lost, sv, lv] (S.lost, false) (w1.alloc (.cells #[.int .i64 S.lost, .bool false, .slice none 0 0] 31 (0, 0)))) :=
    ⟨B1.alloc B1.size _, (Below.heap_alloc w1 _ _ (by omega)).trans R1, (Below.heap_alloc w1 _ _ (by omega)).trans T1, heap_alloc_new w1 _, by omega⟩
  obtain ⟨C, ⟨a, cap, rfl, h1, h2, h3⟩, hC⟩ := hr
  obtain ⟨D, ⟨a1, capt, rfl, h1t, h2t, h3t⟩, hD⟩ := ht
  have HC : Hid (∀ i r, S.rows[i]? = some r → RV w (C i 0) r.key ∧ RV w (C i 1) r.val ∧ C i 2 = .int .i64 r.turned ∧ C i 3 = .int .i64 r.holder) := hC
  have HD : Hid (∀ i r, S.tombs[i]? = some r → RV w (D i 0) r.key ∧ D i 1 = .int .i64 r.index) := hD
  clear hC hD R1 T1
  go_wp2
  obtain ⟨n, hn⟩ : ∃ n, n = S.rows.length := ⟨_, rfl⟩
  obtain ⟨m, hm⟩ : ∃ m, m = S.tombs.length := ⟨_, rfl⟩
  rw [← hn] at h1 h3 HB0 ⊢
  rw [← hm] at h1t h3t HB0 ⊢
  have HN : Hid (n = S.rows.length ∧ m = S.tombs.length) := ⟨hn, hm⟩
  clear hn hm r3
  unfold maxLen at h2 h2t
  have H3 : Hid (0 < n → ∃ b o, a = some ⟨b, o, none⟩ ∧ b < w.heap.size ∧ ∀ i, i < n → ∀ j, j < 4 → w.cell? ⟨b, o + i * 4 + j, none⟩ = some (C i j)) := h3
  have H3t : Hid (0 < m → ∃ b o, a1 = some ⟨b, o, none⟩ ∧ b < w.heap.size ∧ ∀ i, i < m → ∀ j, j < 2 → w.cell? ⟨b, o + i * 2 + j, none⟩ = some (D i j)) := h3t
  clear h3 h3t
  generalize hst : #[.int .i64 S.index, .slice a n cap, .slice a1 m capt, .int .i64 S.lost, sv, lv] = st at HB0
  have HST : Hid (#[.int .i64 S.index, .slice a n cap, .slice a1 m capt, .int .i64 S.lost, sv, lv] = st) := hst
  clear hst
  generalize w1.alloc _ = W at HB0 ⊢
  go_loopw [6] (fun i wr => ∃ k : Nat, k ≤ n ∧ i = .int .i64 k ∧ Hid (BI w w1.heap.size st ((S.rows.take k).foldl (brStepR p) (S.lost, false)) wr)) (fun i _ => n - (intOf i).toNat)
  case atStart => exact ⟨0, Nat.zero_le _, rfl, HB0.out⟩
  case round =>
    obtain ⟨k, hk, rfl, hbi⟩ := hrel
    have rr := hbi.out.r
    rw [← HST.out] at rr
    obtain ⟨r1, _⟩ := at_block rr 1 _ rfl
    clear rr
    by_cases hlt : k < n
    · obtain ⟨b, o, rfl, hbl, hc⟩ := H3.out (by omega)
      obtain ⟨s, hs⟩ : ∃ s, S.rows[k]? = some s := ⟨_, List.getElem?_eq_getElem (by have := HN.out; omega)⟩
      obtain ⟨e0, _, e2, _⟩ := HC.out k s hs
      have X := ext_below hbi.out.b
      have c0 := World.grownBy.cell X (hc k hlt 0 (by omega)) (by simp)
      have c2 := World.grownBy.cell X (hc k hlt 2 (by omega)) (by simp)
      rw [Nat.add_zero] at c0
      rw [e2] at c2
      have hlt' : (k : Int) < (n : Int) := by omega
      have HK : Hid (RV wr (C k 0) s.key) := e0.ext X
      have HPW : Hid (RV wr (.slice pa p.length pc) p) := HP.out.1.ext X
      have HNX : Hid ((S.rows.take (k + 1)).foldl (brStepR p) (S.lost, false) = brStepR p ((S.rows.take k).foldl (brStepR p) (S.lost, false)) s) := fold_next _ _ _ _ _ hs
      generalize (S.rows.take k).foldl (brStepR p) (S.lost, false) = acc at hbi HNX
      have HSL : Hid (s.key.length ≤ 2097152) := HKL.out k s hs
      have HC2 : Hid (w.cell? ⟨b, o + k * 4 + 2, none⟩ = some (.int .i64 s.turned)) := by rw [← e2]; exact hc k hlt 2 (by omega)
      clear hc e0 e2 X
      cases hh : hasB s.key p
      · have HX : Hid (brStepR p acc s = acc) := if_neg (by rw [hh]; simp)
        go_wp2_with (go_at_call 62; refine (sHasV _ _ s.key p _ HK.out HPW.out HSL.out HP.out.2).mono ?_; rintro e w2 ⟨rfl, q, rfl⟩; rw [hh])
        go_roundw
        case rel => exact ⟨k + 1, by omega, by go_num, by rw [HNX.out, HX.out]; exact hbi.out.drew q⟩
        case measure => simp [intOf]; omega
      · have hv := hbi.out.v
        obtain ⟨v0, f0⟩ := at_block hv 0 _ rfl
        obtain ⟨v1, f1⟩ := at_block hv 1 _ rfl
        clear hv
        have hne : ¬ b = w1.heap.size := by have := hbi.out.n; omega
        have hne2 : ¬ w.heap.size = w1.heap.size := by have := hbi.out.n; omega
        have HX : Hid (brStepR p acc s = (max acc.1 s.turned, true)) := if_pos hh
        go_wp2_with (go_at_call 62; refine (sHasV _ _ s.key p _ HK.out HPW.out HSL.out HP.out.2).mono ?_; rintro e w2 ⟨rfl, q, rfl⟩; rw [hh])
        have HBV : Hid (BI w w1.heap.size st (acc.1, true) ((wr.drewN q).setCell ⟨w1.heap.size, 1, none⟩ (.bool true))) := (hbi.out.drew q).has
        clear hbi v0 f0 v1 f1 c0 c2 r1 HK HPW
        generalize (wr.drewN q).setCell ⟨w1.heap.size, 1, none⟩ (.bool true) = V at HBV ⊢
        obtain ⟨v0, f0⟩ := at_block HBV.out.v 0 _ rfl
        have rr := HBV.out.r
        rw [← HST.out] at rr
        obtain ⟨r1, _⟩ := at_block rr 1 _ rfl
        have c2 := World.grownBy.cell (ext_below HBV.out.b) HC2.out (by simp)
        clear rr
        by_cases hgt : acc.1 < s.turned
        · have dgt : decide (acc.1 < s.turned) = true := decide_eq_true hgt
          have HMX : Hid (max acc.1 s.turned = s.turned) := by show max acc.1 s.turned = s.turned; omega
          clear hgt
          go_quiet (fail)
          go_wp2
          go_roundw
          case rel => exact ⟨k + 1, by omega, by go_num, by rw [HNX.out, HX.out, HMX.out]; exact (HBV.out.drew _).idx _⟩
          case measure => simp [intOf]; omega
        · have dgt : decide (acc.1 < s.turned) = false := decide_eq_false hgt
          have HMX : Hid (max acc.1 s.turned = acc.1) := by show max acc.1 s.turned = acc.1; omega
          clear hgt
          go_quiet (fail)
          go_wp2
          go_roundw
          case rel => exact ⟨k + 1, by omega, by go_num, by rw [HNX.out, HX.out, HMX.out]; exact HBV.out.drew _⟩
          case measure => simp [intOf]; omega
    · have hkn : n = k := by omega
      subst hkn
      have HF : Hid (BI w w1.heap.size st (S.rows.foldl (brStepR p) (S.lost, false)) wr) := by
        have := hbi.out
        rw [List.take_of_length_le (by have := HN.out; omega)] at this
        exact this
      generalize S.rows.foldl (brStepR p) (S.lost, false) = acc0 at HF HBR
      clear hbi
      go_wp2
      go_loopw [7] (fun i wr => ∃ k : Nat, k ≤ m ∧ i = .int .i64 k ∧ Hid (BI w w1.heap.size st ((S.tombs.take k).foldl (brStepT p) acc0.1, acc0.2) wr)) (fun i _ => m - (intOf i).toNat)
      case atStart => exact ⟨0, Nat.zero_le _, rfl, HF.out⟩
      case round =>
        obtain ⟨k, hk, rfl, hbi⟩ := hrel
        have rr := hbi.out.r
        rw [← HST.out] at rr
        obtain ⟨r2, _⟩ := at_block rr 2 _ rfl
        clear rr r1
        by_cases hlt : k < m
        · obtain ⟨b, o, rfl, hbl, hc⟩ := H3t.out (by omega)
          obtain ⟨s, hs⟩ : ∃ s, S.tombs[k]? = some s := ⟨_, List.getElem?_eq_getElem (by have := HN.out; omega)⟩
          obtain ⟨e0, e2⟩ := HD.out k s hs
          have X := ext_below hbi.out.b
          have c0 := World.grownBy.cell X (hc k hlt 0 (by omega)) (by simp)
          have c2 := World.grownBy.cell X (hc k hlt 1 (by omega)) (by simp)
          rw [Nat.add_zero] at c0
          rw [e2] at c2
          have hlt' : (k : Int) < (m : Int) := by omega
          have HK : Hid (RV wr (D k 0) s.key) := e0.ext X
          have HPW : Hid (RV wr (.slice pa p.length pc) p) := HP.out.1.ext X
          have HNX : Hid ((S.tombs.take (k + 1)).foldl (brStepT p) acc0.1 = brStepT p ((S.tombs.take k).foldl (brStepT p) acc0.1) s) := fold_next _ _ _ _ _ hs
          generalize (S.tombs.take k).foldl (brStepT p) acc0.1 = acc at hbi HNX
          have HSL : Hid (s.key.length ≤ 2097152) := HKT.out k s hs
          obtain ⟨v0, f0⟩ := at_block hbi.out.v 0 _ rfl
          have hne : ¬ b = w1.heap.size := by have := hbi.out.n; omega
          have hne2 : ¬ w.heap.size = w1.heap.size := by have := hbi.out.n; omega
          have v0' := bw_cell v0
          have r2' := bw_cell r2
          have c0' := bw_cell c0
          have c2' := bw_cell c2
          clear hc e0 e2 X
          cases hh : hasB s.key p
          · have HX : Hid (brStepT p acc s = acc) := if_neg (by rw [hh]; simp)
            have HCALL : Hid (∀ W', Ext wr W' → Calls Try.prog 62 #[D k 0, .slice pa p.length pc] W' fun e w' => e = .returned (.bool false) ∧ ∃ q, w' = W'.drewN q) := fun W' e => by rw [← hh]; exact sHasV _ _ s.key p _ (HK.out.ext e) (HPW.out.ext e) HSL.out HP.out.2
            have nonV := bw_ne wr
            go_wp2
            refine wp_region_bw (by kernel_rfl) (by kernel_rfl) ?_
            repeat (go_big_quiet_step ((go_at_call 62; exact bw_drew (HCALL.out _ (bw_ext _)))))
            refine wpQuiet_nil ?_
            intro _ hw'
            obtain ⟨z, hw''⟩ := hw'
            subst hw''
            have HBZ : Hid (BI w w1.heap.size st (acc, acc0.2) z.u) := hbi.out.below z.h
            have c2z := c2' z
            have v0z := (at_block HBZ.out.v 0 _ rfl).1
            have f0z := (at_block HBZ.out.v 0 _ rfl).2
            have r2z := r2' z
            clear v0' r2' c0' c2' v0 f0 r2 c0 c2 nonV HK HPW hbi HCALL
            go_wp2
            go_roundw
            case rel => exact ⟨k + 1, by omega, by go_num, by rw [HNX.out, HX.out]; exact HBZ.out⟩
            case measure => simp [intOf]; omega
          · have HX : Hid (brStepT p acc s = max acc s.index) := if_pos hh
            have HCALL : Hid (∀ W', Ext wr W' → Calls Try.prog 62 #[D k 0, .slice pa p.length pc] W' fun e w' => e = .returned (.bool true) ∧ ∃ q, w' = W'.drewN q) := fun W' e => by rw [← hh]; exact sHasV _ _ s.key p _ (HK.out.ext e) (HPW.out.ext e) HSL.out HP.out.2
            by_cases hgt : acc < s.index
            · have dgt : decide (acc < s.index) = true := decide_eq_true hgt
              have HMX : Hid (max acc s.index = s.index) := by show max acc s.index = s.index; omega
              clear hgt
              have nonV := bw_ne wr
              go_wp2
              refine wp_region_bw (by kernel_rfl) (by kernel_rfl) ?_
              repeat (go_big_quiet_step ((go_at_call 62; exact bw_drew (HCALL.out _ (bw_ext _)))))
              refine wpQuiet_nil ?_
              intro _ hw'
              obtain ⟨z, hw''⟩ := hw'
              subst hw''
              have HBZ : Hid (BI w w1.heap.size st (acc, acc0.2) z.u) := hbi.out.below z.h
              have c2z := c2' z
              have v0z := (at_block HBZ.out.v 0 _ rfl).1
              have f0z := (at_block HBZ.out.v 0 _ rfl).2
              have r2z := r2' z
              clear v0' r2' c0' c2' v0 f0 r2 c0 c2 nonV HK HPW hbi HCALL
              go_wp2
              go_roundw
              case rel => exact ⟨k + 1, by omega, by go_num, by rw [HNX.out, HX.out, HMX.out]; exact HBZ.out.idx _⟩
              case measure => simp [intOf]; omega
            · have dgt : decide (acc < s.index) = false := decide_eq_false hgt
              have HMX : Hid (max acc s.index = acc) := by show max acc s.index = acc; omega
              clear hgt
              have nonV := bw_ne wr
              go_wp2
              refine wp_region_bw (by kernel_rfl) (by kernel_rfl) ?_
              repeat (go_big_quiet_step ((go_at_call 62; exact bw_drew (HCALL.out _ (bw_ext _)))))
              refine wpQuiet_nil ?_
              intro _ hw'
              obtain ⟨z, hw''⟩ := hw'
              subst hw''
              have HBZ : Hid (BI w w1.heap.size st (acc, acc0.2) z.u) := hbi.out.below z.h
              have c2z := c2' z
              have v0z := (at_block HBZ.out.v 0 _ rfl).1
              have f0z := (at_block HBZ.out.v 0 _ rfl).2
              have r2z := r2' z
              clear v0' r2' c0' c2' v0 f0 r2 c0 c2 nonV HK HPW hbi HCALL
              go_wp2
              go_roundw
              case rel => exact ⟨k + 1, by omega, by go_num, by rw [HNX.out, HX.out, HMX.out]; exact HBZ.out⟩
              case measure => simp [intOf]; omega
        · have hkm : m = k := by omega
          subst hkm
          have HF2 : Hid (BI w w1.heap.size st (S.tombs.foldl (brStepT p) acc0.1, acc0.2) wr) := by
            have := hbi.out
            rw [List.take_of_length_le (by have := HN.out; omega)] at this
            exact this
          generalize S.tombs.foldl (brStepT p) acc0.1 = ax at HF2 HBR
          clear hbi
          obtain ⟨v0, f0⟩ := at_block HF2.out.v 0 _ rfl
          obtain ⟨v1, f1⟩ := at_block HF2.out.v 1 _ rfl
          obtain ⟨v2, f2⟩ := at_block HF2.out.v 2 _ rfl
          obtain ⟨t0, g0⟩ := at_block HF2.out.t 0 _ rfl
          obtain ⟨t1, g1⟩ := at_block HF2.out.t 1 _ rfl
          obtain ⟨t2, g2⟩ := at_block HF2.out.t 2 _ rfl
          have hne3 : ¬ w.heap.size + 1 = w1.heap.size := by have := HF2.out.n; omega
          have BF := HF2.out.b
          go_wp2
          refine bodyPost_ret (v := viewV (ax, acc0.2)) (by simp [results, viewV, Try.results30, go_sem, t0, t1, t2]) rfl ?_
          refine ⟨by rw [HBR.out], ?_⟩
          repeat (refine below_set ?_ (by omega))
          exact BF

end Go.Proofs.Ytplgnohncdfgcak
