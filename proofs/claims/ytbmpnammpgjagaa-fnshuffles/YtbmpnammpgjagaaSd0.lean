/- Draws of a list to be shuffled: DrawShuffle. -/
import Derived.Test.YtbmpnammpgjagaaCurO
import Derived.Test.YtbmpnammpgjagaaLiB
import Derived.Test.YtbmpnammpgjagaaElG
import Derived.Deep.CutRange
namespace Go.Proofs.Ytbmpnammpgjagaa
open Go.RowKit

theorem OwI.keepC {w w' : World} {base g : Nat} {v : Value} {ts : List Int} (h : OwI w base v ts) (e : w.grownBy w' (some g)) (hg : g < base) : OwI w' base v ts := World.ownsRow.kept h e (by
  cases hv : v.ownBlock with
  | none => exact .inl rfl
  | some k =>
    right
    have := (World.ownsRow.lt h k hv).1
    simp only [ne_eq, Option.some.injEq]
    omega)
theorem Cur.rowI {w w' : World} {B g : Nat} {v : Value} {base : Nat} {xs : List Int} (h : Cur w B g) (o : OwI w base v xs) (hg : g < base) (k : w.grownBy w' v.ownBlock) : Cur w' B g := by
  cases hv : v.ownBlock with
  | none => rw [hv] at k; exact h.ext k
  | some x =>
    rw [hv] at k
    exact h.off k (by have := (World.ownsRow.lt o x hv).1; omega)
theorem lit_own (w : World) (base : Nat) (h : base ≤ w.heap.size) (x : Int) : OwI (w.alloc (.cells #[.int .i64 x] 3)) base (.slice (some ⟨w.heap.size, 0, none⟩) 1 1) [x] := World.ownsRow_lit w #[.int .i64 x] 1 h (by unfold maxLen; decide) rfl

/-- What a draw of a list leaves. -/
def ShufDrawn (w : World) (e : Ending) (w' : World) : Prop := ∃ tv xs s, e = .returned (.tuple #[tv, .int .i64 s]) ∧ VL fI w' tv xs ∧ xs.length ≤ 13 ∧ IsInt s ∧ Below w.heap.size w w'

set_option maxRecDepth 20000 in
set_option maxHeartbeats 4000000 in
theorem drawShuf (a : Option Addr) (n cap : Nat) (xs : List Int) (w : World) (hr : Rd w a n xs) (hm : n ≤ maxLen) :
    Calls Try.prog 4 #[.slice a n cap] w (ShufDrawn w) := by
  have HR : Hid (Rd w a n xs) := hr
  have HMM : Hid (n ≤ maxLen) := hm
  clear hr hm
  go_enter Try.func4, Try.ntmps4
  go_wp2_with fail
  refine (newC a n cap xs w HR.out HMM.out).mono ?_
  rintro e w1 ⟨rfl, hc1, b1⟩
  have HC1 : Hid (Cur w1 w.heap.size w.heap.size) := hc1
  have HB1 : Hid (Below w.heap.size w w1) := b1
  clear hc1 b1
  go_wp2_with fail
  refine (belowC _ _ 10 w1 HC1.out (by omega)).mono ?_
  rintro e w2 ⟨r, hr0, hr1, _, rfl, hc2, hg2⟩
  have hr9 : r < 10 := hr1 (by omega)
  obtain ⟨m, rfl⟩ := Int.eq_ofNat_of_zero_le hr0
  have HC2 : Hid (Cur w2 w.heap.size w.heap.size) := hc2
  have HB2 : Hid (Below w.heap.size w w2) := HB1.out.grown hg2 HB1.out.size (fun k hk => by cases hk; exact Nat.le_refl _)
  clear hr0 hr1 hc2 hg2 HB1 HC1
  go_wp2
  go_loopw [5, 7] (fun v i wr => ∃ (k : Nat) (ys : List Int), k ≤ m ∧ i = .int .i64 k ∧ Hid (ys.length = k) ∧ Hid (OwI wr (w.heap.size + 1) v ys) ∧ Hid (Cur wr w.heap.size w.heap.size) ∧ Hid (Below w.heap.size w wr)) (fun _ i _ => m - (intOf i).toNat)
  case atStart => exact ⟨0, [], Nat.zero_le _, rfl, rfl, World.ownsRow_nil _ _ _ _, HC2, HB2⟩
  case round =>
    obtain ⟨k, ys, hk, rfl, hys, hO, hC, hB⟩ := hrel
    obtain ⟨ya, yc, rfl⟩ := hO.out.shape
    by_cases hlt : k < m
    · have hlt' : (k : Int) < (m : Int) := by omega
      have hgs := (cur_in hC.out).1
      have HGS : Hid (w.heap.size < wr.heap.size) := hgs
      clear hgs
      go_wp2_with (first
        | (go_at_call 8; refine (belowC _ _ 20 _ hC.out (by omega)).mono ?_; rintro e w3 ⟨x, _, _, _, rfl, hc3, hg3⟩; have HC3 : Hid (Cur w3 w.heap.size w.heap.size) := hc3; have HG3 : Hid (wr.grownBy w3 (some w.heap.size)) := hg3; clear hc3 hg3)
        | (at_builtin; refine wpList_append_il _ rfl (.tmp 17) (.tmp 20) rfl (w.heap.size + 1) _ ys rfl ((hO.out.keepC HG3.out (Nat.lt_succ_self _)).ext (World.grownBy_alloc _ _ none)) _ 1 1 [x] rfl (lit_own w3 w3.heap.size (Nat.le_refl _) x).vl (by have := hys.out; simp; omega) (by have := HG3.out.size; have := HGS.out; simp; omega) ?_; intro v4 w4 o4 g4))
      go_roundw
      case rel =>
        have O3 : OwI w3 (w.heap.size + 1) (.slice ya ys.length yc) ys := hO.out.keepC HG3.out (Nat.lt_succ_self _)
        have O3' := O3.ext (World.grownBy_alloc w3 (.cells #[.int .i64 x] 3) none)
        have C3' := HC3.out.ext (World.grownBy_alloc w3 (.cells #[.int .i64 x] 3) none)
        have B3 : Below w.heap.size w w3 := hB.out.grown HG3.out hB.out.size (fun k hk => by cases hk; exact Nat.le_refl _)
        have B3' : Below w.heap.size w (w3.alloc (.cells #[.int .i64 x] 3)) := B3.alloc B3.size _
        exact ⟨k + 1, ys ++ [x], by omega, by go_num, by show _ = _; rw [List.length_append, hys.out]; rfl, o4, C3'.rowI O3' (Nat.lt_succ_self _) g4, B3'.grown g4 B3'.size (fun k hk => by have := (World.ownsRow.lt O3' k hk).1; omega)⟩
      case measure => simp [intOf]; omega
    · have hkm : k = m := by omega
      subst hkm
      have HL9 : Hid (ys.length ≤ 13) := by show _ ≤ _; rw [hys.out]; omega
      go_upto_region 8 with fail
      go_wp2_with fail
      refine (onceC _ _ 15 _ hC.out (by omega)).mono ?_
      rintro e w3 ⟨y, rfl, hc3, hg3⟩
      have HC3 : Hid (Cur w3 w.heap.size w.heap.size) := hc3
      have HB3 : Hid (Below w.heap.size w w3) := hB.out.grown hg3 hB.out.size (fun k hk => by cases hk; exact Nat.le_refl _)
      have HO3 : Hid (OwI w3 (w.heap.size + 1) (.slice ya ys.length yc) ys) := hO.out.keepC hg3 (Nat.lt_succ_self _)
      have hgs := (cur_in hc3).1
      have HGS : Hid (w.heap.size < w3.heap.size) := hgs
      clear hc3 hg3 hgs
      have HFIN : Hid (∀ (U : World) (tv : Value) (zs : List Int), Cur U w.heap.size w.heap.size → Below w.heap.size w U → OwI U (w.heap.size + 1) tv zs → zs.length ≤ 13 → Calls Try.prog 10 #[.pointer (some ⟨w.heap.size, 0, none⟩), .slice (some ⟨U.heap.size, 0, none⟩) 7 7] (U.alloc (.cells #[.int .i64 0, .int .i64 7, .int .i64 99, .int .i64 1234, .int .i64 (-1), .int .i64 2147483647, .int .i64 2147483648] 3)) fun e w' => ∃ q, e = .returned (.int .i64 q) ∧ Hid (ShufDrawn w (.returned (.tuple #[tv, .int .i64 q])) w')) := fun U tv zs hC hB hO hl => by
        have hu := (cur_in hC).1
        refine (pickC w.heap.size w.heap.size U.heap.size 7 _ (hC.ext (World.grownBy_alloc _ _ _)) (by omega) (by omega) (by omega) (lit_cells U [0, 7, 99, 1234, -1, 2147483647, 2147483648] _ 3 rfl (by unfold IsInt; simp))).mono ?_
        rintro e w' ⟨q, hq, rfl, hc', hg'⟩
        refine ⟨q, rfl, tv, zs, q, rfl, ((hO.ext (World.grownBy_alloc _ _ none)).keepC hg' (Nat.lt_succ_self _)).vl, hl, hq, ?_⟩
        exact (hB.alloc hB.size _).grown hg' (Nat.le_trans hB.size (by simp)) (fun k hk => by cases hk; exact Nat.le_refl _)
      cases y
      · go_wp2_with fail
        refine (HFIN.out w3 _ ys HC3.out HB3.out HO3.out HL9.out).mono ?_
        rintro e w5 ⟨q, rfl, hq⟩
        go_wp2
        go_ret2
        exact hq.out
      · go_wp2_with fail
        refine (belowC _ _ 2 w3 HC3.out (by omega)).mono ?_
        rintro e w4 ⟨r, hr0, hr1, _, rfl, hc4, hg4⟩
        have hr2 : r < 2 := hr1 (by omega)
        obtain ⟨p, rfl⟩ := Int.eq_ofNat_of_zero_le hr0
        have HC4 : Hid (Cur w4 w.heap.size w.heap.size) := hc4
        have HB4 : Hid (Below w.heap.size w w4) := HB3.out.grown hg4 HB3.out.size (fun k hk => by cases hk; exact Nat.le_refl _)
        have hgs := (cur_in hc4).1
        have HGS4 : Hid (w.heap.size + 1 ≤ w4.heap.size) := hgs
        obtain ⟨q, hlen⟩ : ∃ q : Nat, (12 : Int) + p = q := ⟨12 + p, by omega⟩
        have hq13 : q ≤ 13 := by omega
        obtain ⟨i0, hi, hz0, hz1, hz2⟩ := info_parts info_3
        clear hc4 hg4 hr0 hr1 hgs
        go_wp2_with (at_make; refine wpList_make_full _ rfl _ _ 23 rfl (w.heap.size + 1) 3 i0 (.int .i64 0) 1 Try.underlying23 hi hz0 hz1 _ _ _ _ q rfl rfl rfl rfl ?b1 ?b2 ?b3 ?_)
        case b1 => rw [hz2]; omega
        case b2 => unfold maxLen; omega
        case b3 => exact HGS4.out
        intro w5 hown hgr
        have HO5 : Hid (OwI w5 (w.heap.size + 1) (.slice (some ⟨w4.heap.size, 0, none⟩) q q) (List.replicate q 0)) := by
          unfold Hid OwI
          rw [List.map_replicate, List.length_replicate]
          simpa [Value.cells, toList_madeCells_one, fI] using hown
        have HC5 : Hid (Cur w5 w.heap.size w.heap.size) := HC4.out.ext hgr
        have HB5 : Hid (Below w.heap.size w w5) := HB4.out.grown hgr HB4.out.size (fun k hk => by cases hk)
        clear hown hgr
        go_wp2_with fail
        refine (HFIN.out w5 _ _ HC5.out HB5.out HO5.out (by rw [List.length_replicate]; exact hq13)).mono ?_
        rintro e w6 ⟨z, rfl, hz⟩
        go_wp2
        go_ret2
        exact hz.out

end Go.Proofs.Ytbmpnammpgjagaa
