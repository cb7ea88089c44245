/- The draw of chapter 1's law on numbers: bytes that may bear a number, and a place in them. -/
import Derived.Test.YtbkifmbkmjjbnabDraw3
import Derived.Test.YtbkifmbkmjjbnabSpoil2
import Derived.Test.YtbkifmbkmjjbnabSPut
namespace Go.Proofs.Ytbkifmbkmjjbnab
open Go.RowKit

theorem spoilC (B g : Nat) (a0 : Option Addr) (n cap0 : Nat) (xs : List Int) (w : World) (hd0 : Rd w a0 n xs) (hxl : n ≤ 30) (hc : Cur w B g) (hgs : g < w.heap.size) :
    Calls Try.prog 21 #[.pointer (some ⟨g, 0, none⟩), .slice a0 n cap0] w (SpoilPost w B g) := by
  rcases Nat.eq_zero_or_pos n with h | h
  · subst h
    exact spoil_none B g a0 cap0 w hc hgs
  · exact spoil_some B g a0 n cap0 xs w hd0 hxl h hc hgs

set_option maxHeartbeats 4000000 in
set_option maxRecDepth 100000 in
/-- The last part: the place may be another. -/
theorem place_tail (B g n : Nat) (w : World) (hc : Cur w B g) (hgs : g < w.heap.size) (hn : n ≤ 100) (cs : Array Value) (t : TypeId) (hcs : cs.toList = [(-1 : Int), 0, n, (n : Int) + 1, 9223372036854775807, -9223372036854775808].map (Value.int .i64)) :
    Calls Try.prog 22 #[.pointer (some ⟨g, 0, none⟩), .slice (some ⟨w.heap.size, 0, none⟩) 6 6] (w.alloc (.cells cs t)) fun e w' => ∃ q, IsInt q ∧ e = .returned (.int .i64 q) ∧ Cur w' B g ∧ (w.alloc (.cells cs t)).grownBy w' (some g) := by
  refine pickC B g w.heap.size 6 _ (hc.ext (World.grownBy_alloc _ _ _)) (by omega) (by omega) (by omega) ?_
  exact lit_cells w [(-1 : Int), 0, n, (n : Int) + 1, 9223372036854775807, -9223372036854775808] cs t hcs (by intro z hz; simp only [List.mem_cons, List.not_mem_nil, or_false] at hz; unfold IsInt; omega)

set_option maxHeartbeats 4000000 in
set_option maxRecDepth 100000 in
theorem drawGetNum (a : Option Addr) (n cap : Nat) (xs : List Int) (w : World) (hr : Rd w a n xs) (hm : n ≤ maxLen) :
    Calls Try.prog 11 #[.slice a n cap] w (TextNumPost 60 w) := by
  have hE : ∀ w : World, ∀ o, Ext w (w.alloc o) := fun w o => World.grownBy_alloc _ _ _
  go_enter Try.func11, Try.ntmps11
  go_wp2_with fail
  refine (newC a n cap xs w hr hm).mono ?_
  rintro e w1 ⟨rfl, hc1, hb1⟩
  have hl1 := cur_lt hc1
  go_wp2_with fail
  refine (someC w.heap.size w.heap.size 3 w1 hc1 (by omega) hl1).mono ?_
  rintro e w2 ⟨v2, ys, rfl, hy3, hyr, ho2, hc2, hg2⟩
  have hb2 := below_row hb1 hb1.size hg2 (Nat.le_refl _)
  have hs2 := hg2.size
  obtain ⟨a2, cap2, rfl, hd2, _, _⟩ := Ow.rv ho2 hyr
  go_wp2_with fail
  refine (numC w.heap.size w.heap.size w2 hc2 (by omega)).mono ?_
  rintro e w3 ⟨q, hq, rfl, hc3, hg3⟩
  have hb3 := below_row hb2 hb2.size hg3 (Nat.le_refl _)
  have hs3 := hg3.size
  have hd3 : Rd w3 a2 ys.length ys := by
    obtain ⟨a3, cap3, he3, hd3, _, _⟩ := Ow.rv (ho2.row hg3 hl1) hyr
    simp only [Value.slice.injEq] at he3
    rw [he3.1]
    exact hd3
  clear hg2 hg3 ho2 hc1 hc2 hd2
  go_wp2_with fail
  refine (sPut a2 ys.length cap2 ys q w3 hd3 (by omega)).mono ?_
  rintro e w4 ⟨v4, rfl, ho4, hb4⟩
  have hc4 : Cur w4 w.heap.size w.heap.size := hc3.ext (ext_below hb4)
  have hb4' := hb3.trans (hb4.mono hb3.size)
  have hs4 := hb4.size
  have hnl := numL_len q
  have hzr0 : ∀ y ∈ ys ++ numL q, 0 ≤ y ∧ y ≤ 255 := app_rng hyr (numL_rng q)
  have hyl : (ys ++ numL q).length ≤ 8 := by simp; omega
  generalize ys ++ numL q = bs at ho4 hzr0 hyl
  clear hc3 hb4 hd3 hnl
  go_wp2_with fail
  refine (someC w.heap.size w.heap.size 3 w4 hc4 (by omega) (by omega)).mono ?_
  rintro e w5 ⟨v5, zs, rfl, hz3, hzr, ho5, hc5, hg5⟩
  have hb5 := below_row hb4' hb4'.size hg5 (Nat.le_refl _)
  have hs5 := hg5.size
  have ho45 : Ow w5 w3.heap.size v4 bs := ho4.row hg5 (by omega)
  obtain ⟨a5, cap5, rfl, hd5, _, _⟩ := Ow.rv ho5 hzr
  clear hg5 ho4 hc4 hb4'
  go_wp2_with (first | (at_builtin; refine wpList_append_bytes _ rfl (.tmp 17) (.tmp 19) 22 rfl w3.heap.size info5 Try.underlying22 _ bs rfl ho45 a5 zs.length cap5 zs rfl hd5 (by omega) (by omega) ?_; intro v6 w6 ho6 hg6) | fail)
  have hc6 : Cur w6 w.heap.size w.heap.size := hc5.row ho45 (by omega) hg6
  have hb6 : Below w.heap.size w w6 := hb5.grown hg6 hb5.size (fun k hk => by have := (ho45.lt k hk).1; omega)
  have hs6 := hg6.size
  have hrng6 : ∀ y ∈ bs ++ zs, 0 ≤ y ∧ y ≤ 255 := app_rng hzr0 hzr
  have hl6 : (bs ++ zs).length ≤ 11 := by simp; omega
  generalize bs ++ zs = us at ho6 hrng6 hl6
  clear hg6 ho45 hc5 hb5 hd5 ho5
  refine (onceC w.heap.size w.heap.size 3 w6 hc6 (by omega)).mono ?_
  rintro e w7 ⟨y, rfl, hc7, hg7⟩
  have hb7 := below_row hb6 hb6.size hg7 (Nat.le_refl _)
  have hs7 := hg7.size
  have ho7 : Ow w7 w3.heap.size v6 us := ho6.row hg7 (by omega)
  have hys : IsInt ys.length := ⟨by omega, by omega⟩
  clear hg7 ho6 hc6 hb6
  cases y with
  | false =>
    go_wp2_with fail
    refine (onceC w.heap.size w.heap.size 6 w7 hc7 (by omega)).mono ?_
    rintro e w9 ⟨y, rfl, hc9, hg9⟩
    have hb9 := below_row hb7 hb7.size hg9 (Nat.le_refl _)
    have hs9 := hg9.size
    have ho9 := ho7.row hg9 (by omega)
    obtain ⟨a9, cap9, rfl, hd9, hlc9, hm9⟩ := Ow.rv ho9 hrng6
    cases y with
    | false =>
      go_wp2
      go_ret2
      exact ⟨_, _, us, rfl, by omega, hys, hrng6, ⟨a9, cap9, rfl, hd9, hlc9, hm9⟩, hb9⟩
    | true =>
      go_wp2_with fail
      refine (place_tail w.heap.size w.heap.size us.length w9 hc9 (by omega) (by omega) _ _ rfl).mono ?_
      rintro e w10 ⟨q10, hq10, rfl, hc10, hg10⟩
      have hb10 := below_row (hb9.alloc hb9.size _) (by simp; omega) hg10 (Nat.le_refl _)
      have ho10 := (ho9.ext (hE _ _)).row hg10 (by omega)
      go_wp2
      go_ret2
      exact ⟨_, q10, us, rfl, by omega, hq10, hrng6, ho10.rv hrng6, hb10⟩
  | true =>
    obtain ⟨a7, cap7, rfl, hd7, hlc7, hm7⟩ := Ow.rv ho7 hrng6
    go_wp2_with fail
    refine (spoilC w.heap.size w.heap.size a7 us.length cap7 us w7 hd7 (by omega) hc7 (by omega)).mono ?_
    rintro e w8 ⟨v8, ts, rfl, ht, htr, ho8, hc8, hg8⟩
    have hb8 := below_row hb7 hb7.size hg8 (Nat.le_refl _)
    have hs8 := hg8.size
    clear hg8 ho7 hd7
    go_wp2_with fail
    refine (onceC w.heap.size w.heap.size 6 w8 hc8 (by omega)).mono ?_
    rintro e w9 ⟨y, rfl, hc9, hg9⟩
    have hb9 := below_row hb8 hb8.size hg9 (Nat.le_refl _)
    have hs9 := hg9.size
    have ho9 := ho8.row hg9 (by omega)
    obtain ⟨a9, cap9, rfl, hd9, hlc9, hm9⟩ := Ow.rv ho9 htr
    cases y with
    | false =>
      go_wp2
      go_ret2
      exact ⟨_, _, ts, rfl, by omega, hys, htr, ⟨a9, cap9, rfl, hd9, hlc9, hm9⟩, hb9⟩
    | true =>
      go_wp2_with fail
      refine (place_tail w.heap.size w.heap.size ts.length w9 hc9 (by omega) (by omega) _ _ rfl).mono ?_
      rintro e w10 ⟨q10, hq10, rfl, hc10, hg10⟩
      have hb10 := below_row (hb9.alloc hb9.size _) (by simp; omega) hg10 (Nat.le_refl _)
      have ho10 := (ho9.ext (hE _ _)).row hg10 (by omega)
      go_wp2
      go_ret2
      exact ⟨_, q10, ts, rfl, by omega, hq10, htr, ho10.rv htr, hb10⟩

end Go.Proofs.Ytbkifmbkmjjbnab
