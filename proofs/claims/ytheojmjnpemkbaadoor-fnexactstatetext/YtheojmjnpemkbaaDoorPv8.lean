/- The contract of the program's putValue. -/
import Derived.Test.YtheojmjnpemkbaaDoorBk8
import Derived.Test.YtheojmjnpemkbaaDoorInf
import Derived.Test.YtheojmjnpemkbaaDoorWi
import Derived.Lib.Hide
import Derived.Deep.CutRange
import Derived.Deep.RegionWith
import Derived.Test.YtheojmjnpemkbaaDoorStB
import Derived.Laws.BitsLemmas
namespace Go.Proofs.YtheojmjnpemkbaaDoor
open Go.RowKit

/-- A digit of sixteen. -/
def hexD (n : Int) : Int := if n < 10 then 48 + n else 87 + n
/-- A byte that stands in a text as it is. -/
def plainB (x : Int) : Bool := decide (32 ≤ x) && decide (x ≤ 126) && decide (x ≠ 34) && decide (x ≠ 37)
/-- A byte as text. -/
def signL (x : Int) : List Int := if plainB x then [x] else [37, hexD (x / 16), hexD (x % 16)]
/-- A value as text. -/
def quoteL (ys : List Int) : List Int := 34 :: (ys.flatMap signL ++ [34])

/-- The sixteen digits. -/
def hexS : ByteArray := ⟨#[48, 49, 50, 51, 52, 53, 54, 55, 56, 57, 97, 98, 99, 100, 101, 102]⟩

theorem hex_at (p : Int) (h0 : 0 ≤ p) (h1 : p < 16) (h : p.toNat < ({ data := #[48, 49, 50, 51, 52, 53, 54, 55, 56, 57, 97, 98, 99, 100, 101, 102] } : ByteArray).size) : ((({ data := #[48, 49, 50, 51, 52, 53, 54, 55, 56, 57, 97, 98, 99, 100, 101, 102] } : ByteArray)[p.toNat]'h).toNat : Int) = hexD p := by
  obtain ⟨m, rfl⟩ := Int.eq_ofNat_of_zero_le h0
  have hm : m = 0 ∨ m = 1 ∨ m = 2 ∨ m = 3 ∨ m = 4 ∨ m = 5 ∨ m = 6 ∨ m = 7 ∨ m = 8 ∨ m = 9 ∨ m = 10 ∨ m = 11 ∨ m = 12 ∨ m = 13 ∨ m = 14 ∨ m = 15 := by omega
  rcases hm with rfl | rfl | rfl | rfl | rfl | rfl | rfl | rfl | rfl | rfl | rfl | rfl | rfl | rfl | rfl | rfl <;> rfl
theorem hexD_rng (p : Int) (h0 : 0 ≤ p) (h1 : p < 16) : 0 ≤ hexD p ∧ hexD p ≤ 255 := by
  unfold hexD
  split <;> omega
theorem plain_yes {x : Int} (h : 32 ≤ x ∧ x ≤ 126) (h1 : x ≠ 34) (h2 : x ≠ 37) : signL x = [x] := by
  have : plainB x = true := by simp [plainB, h, h1, h2]
  unfold signL
  rw [if_pos this]
theorem plain_no {x : Int} (h : ¬ ((32 ≤ x ∧ x ≤ 126) ∧ x ≠ 34 ∧ x ≠ 37)) : signL x = [37, hexD (x / 16), hexD (x % 16)] := by
  have : ¬ plainB x = true := by
    intro hh
    simp [plainB] at hh
    exact h ⟨hh.1.1, hh.1.2, hh.2⟩
  unfold signL
  rw [if_neg this]
theorem signL_rng {x : Int} (h0 : 0 ≤ x) (h1 : x ≤ 255) : ∀ y ∈ signL x, 0 ≤ y ∧ y ≤ 255 := by
  by_cases h : (32 ≤ x ∧ x ≤ 126) ∧ x ≠ 34 ∧ x ≠ 37
  · rw [plain_yes h.1 h.2.1 h.2.2]
    intro y hy
    simp at hy
    omega
  · rw [plain_no h]
    have h3 := hexD_rng (x / 16) (by omega) (by omega)
    have h4 := hexD_rng (x % 16) (by omega) (by omega)
    intro y hy
    simp at hy
    rcases hy with rfl | rfl | rfl <;> omega
theorem signL_len (x : Int) : (signL x).length ≤ 3 := by
  unfold signL
  split <;> simp
theorem quote_len (ys : List Int) : (ys.flatMap signL).length ≤ 3 * ys.length := by
  induction ys with
  | nil => simp
  | cons y ys ih =>
    have := signL_len y
    simp only [List.flatMap_cons, List.length_append, List.length_cons]
    omega
theorem flat_rng {ys : List Int} (h : ∀ y ∈ ys, 0 ≤ y ∧ y ≤ 255) : ∀ y ∈ ys.flatMap signL, 0 ≤ y ∧ y ≤ 255 := by
  intro y hy
  obtain ⟨x, hx, hy⟩ := List.mem_flatMap.1 hy
  exact signL_rng (h x hx).1 (h x hx).2 y hy
theorem quoteL_rng {ys : List Int} (h : ∀ y ∈ ys, 0 ≤ y ∧ y ≤ 255) : ∀ y ∈ quoteL ys, 0 ≤ y ∧ y ≤ 255 := by
  intro y hy
  simp only [quoteL, List.mem_cons, List.mem_append, List.not_mem_nil, or_false] at hy
  rcases hy with rfl | hy | rfl
  · omega
  · exact flat_rng h y hy
  · omega
theorem quoteL_len (ys : List Int) : (quoteL ys).length ≤ 3 * ys.length + 2 := by
  have := quote_len ys
  simp only [quoteL, List.length_cons, List.length_append, List.length_nil]
  omega

theorem rd_three (w : World) (x y z : Int) (hx : 0 ≤ x ∧ x ≤ 255) (hy : 0 ≤ y ∧ y ≤ 255) (hz : 0 ≤ z ∧ z ≤ 255) : Rd (w.alloc (.cells #[.int .u8 x, .int .u8 y, .int .u8 z] 5)) (some ⟨w.heap.size, 0, none⟩) 3 [x, y, z] :=
  ⟨rfl, fun i hi => ⟨w.heap.size, 0, rfl, by
    have : i = 0 ∨ i = 1 ∨ i = 2 := by omega
    rcases this with rfl | rfl | rfl <;> simp⟩, fun t ht => by
    simp only [List.mem_cons, List.not_mem_nil, or_false] at ht
    rcases ht with rfl | rfl | rfl
    · exact hx
    · exact hy
    · exact hz⟩

set_option maxHeartbeats 1000000 in
theorem putValueV (B : Nat) (v u : Value) (xs ys : List Int) (w : World) (h : Ow w B v xs) (hB : B ≤ w.heap.size) (hu : ∀ w', Below B w w' → RV w' u ys) (hl : xs.length ≤ 1073741824) (hy : ys.length ≤ 1048576) :
    Calls Tryd.prog 71 #[v, u] w fun e w' => ∃ v', e = .returned v' ∧ Ow w' B v' (xs ++ quoteL ys) ∧ Bk B w w' := by
  obtain ⟨a, cap, rfl, hr0, hc1, hc2⟩ := hu w (Below.refl _ _)
  have HU : Hid (∀ w', Below B w w' → Rd w' a ys.length ys) := fun w' b => by
    obtain ⟨a', cap', e, hr, _, _⟩ := hu w' b
    simp only [Value.slice.injEq] at e
    obtain ⟨rfl, _, rfl⟩ := e
    exact hr
  clear hu hr0
  have hrng : Hid (∀ y ∈ ys, 0 ≤ y ∧ y ≤ 255) := (HU.out w (Below.refl _ _)).rng
  obtain ⟨n, hn⟩ : ∃ n, n = ys.length := ⟨_, rfl⟩
  have HN : Hid (n = ys.length) := hn
  rw [← hn] at hc1 hy HU ⊢
  clear hn
  go_enter Tryd.func71, Tryd.ntmps71
  go_wp2_with (at_builtin; refine wpList_append_bytes _ rfl _ _ 29 rfl B info5 Tryd.underlying29 v xs rfl (h.ext (World.grownBy_alloc _ _ _)) _ 1 1 [34] rfl (rd_one w 34 (by omega) (by omega)) (by omega) (by simp; omega) ?_; intro v1 w1 o1 g1)
  have b1 : Bk B w w1 := ((Bk.refl B w).alloc hB _).grown (h.ext (World.grownBy_alloc _ _ _)) (by simp; omega) g1
  have HF : Hid (∀ k y, ys[k]? = some y → ys.take (k + 1) = ys.take k ++ [y]) := fun k y hk => by rw [List.take_add_one, hk]; rfl
  go_loopw [0, 12] (fun q i wr => ∃ k : Nat, k ≤ n ∧ i = .int .i64 k ∧ Ow wr B q (xs ++ 34 :: (ys.take k).flatMap signL) ∧ Bk B w wr) (fun _ i _ => n - (intOf i).toNat)
  case atStart => exact ⟨0, Nat.zero_le _, rfl, by simpa using o1, b1⟩
  case round =>
    obtain ⟨k, hk, rfl, hown, hb⟩ := hrel
    clear o1 g1 b1
    by_cases hlt : k < n
    · have hr := HU.out _ hb.below
      obtain ⟨b, o, rfl, hbl, hc⟩ := hr.pos (by omega)
      obtain ⟨x, hx⟩ : ∃ x, ys[k]? = some x := ⟨_, List.getElem?_eq_getElem (by have := HN.out; omega)⟩
      have hck := hc k hlt
      rw [List.getD_eq_getElem?_getD, hx, Option.getD_some] at hck
      obtain ⟨x0, x1⟩ := hrng.out x (List.mem_of_getElem? hx)
      clear hc hr
      have HX : Hid (ys[k]? = some x) := hx
      clear hx
      have HT : Hid (∀ ss, signL x = ss → (ys.take (k + 1)).flatMap signL = (ys.take k).flatMap signL ++ ss) := fun ss e => by
        rw [HF.out k x HX.out, List.flatMap_append]
        simp [e]
      have HL : Hid (xs.length + 1 + ((ys.take k).flatMap signL).length ≤ 1076887553) := by
        show _ ≤ _
        have h1 := quote_len (ys.take k)
        have h2 : (ys.take k).length ≤ k := by simp; omega
        omega
      have hE : ∀ W : World, ∀ o, Ext W (W.alloc o) := fun W o => World.grownBy_alloc _ _ _
      have HB : Hid (∀ (W w4 : World) (o : Obj) (q : Value), Bk B w W → Ow W B q (xs ++ 34 :: (ys.take k).flatMap signL) → (W.alloc o).grownBy w4 q.ownBlock → Bk B w w4) := fun W w4 o q hb ho hg =>
        (hb.alloc (Nat.le_trans hB hb.size) _).grown (ho.ext (World.grownBy_alloc _ _ _)) (by have := hb.size; simp; omega) hg
      by_cases hp : (32 ≤ x ∧ x ≤ 126) ∧ x ≠ 34 ∧ x ≠ 37
      · have HS := HT.out [x] (plain_yes hp.1 hp.2.1 hp.2.2)
        have HS' : Hid ((ys.take (k + 1)).flatMap signL = (ys.take k).flatMap signL ++ [x]) := HS
        have HI : inB x 32 126 = true := by simp [inB]; exact hp.1
        have h34 : (x != 34) = true := by simpa using hp.2.1
        have h37 : (x != 37) = true := by simpa using hp.2.2
        clear HS hp HT
        go_wp2_with (first
          | (go_at_call 51; refine (withinV x 32 126 _).mono ?_; rintro e w5 ⟨rfl, e5⟩; have e6 := e5.symm; clear e5; subst e6; rw [HI])
          | (at_builtin; refine wpList_append_bytes _ rfl _ _ 29 rfl B info5 Tryd.underlying29 u0 (xs ++ 34 :: (ys.take k).flatMap signL) rfl (hown.ext (hE _ _)) _ 1 1 [x] rfl (rd_one wr x (by omega) (by omega)) (by have := HL.out; simp only [List.length_append, List.length_cons]; omega) (by have := hb.size; simp; omega) ?_; intro v4 w4 o4 g4; have B4 := HB.out _ _ _ _ hb hown g4))
        go_roundw
        case rel => exact ⟨k + 1, by omega, by go_num, by rw [HS'.out]; simpa using o4, B4⟩
        case measure => simp [intOf]; omega
      · have HS := HT.out _ (plain_no hp)
        have h3 := hexD_rng (x / 16) (by omega) (by omega)
        have h4 := hexD_rng (x % 16) (by omega) (by omega)
        have hd1 := hex_at (x / 16) (by omega) (by omega)
        have hd2 := hex_at (x % 16) (by omega) (by omega)
        have ha : bits .and .u8 x 15 = x % 16 := u8_and15 _ x0 (by omega)
        obtain ⟨p, hp1⟩ : ∃ p, p = x / 16 := ⟨_, rfl⟩
        obtain ⟨r, hr1⟩ : ∃ r, r = x % 16 := ⟨_, rfl⟩
        have e1 : x / 16 = p := hp1.symm
        have p0 : 0 ≤ p := by omega
        have p1 : p < 16 := by omega
        have r0 : 0 ≤ r := by omega
        have r1 : r < 16 := by omega
        rw [← hp1] at HS h3 hd1
        rw [← hr1] at HS h4 hd2 ha
        have HS' : Hid ((ys.take (k + 1)).flatMap signL = (ys.take k).flatMap signL ++ [37, hexD p, hexD r]) := HS
        clear HS HT hp1 hr1
        have htest : (inB x 32 126 = false ∨ (inB x 32 126 = true ∧ (x = 34 ∨ x = 37))) := by
          cases hh : inB x 32 126
          · exact .inl rfl
          · right
            simp [inB] at hh
            refine ⟨rfl, ?_⟩
            by_cases h34 : x = 34
            · exact .inl h34
            · by_cases h37 : x = 37
              · exact .inr h37
              · exact absurd ⟨hh, h34, h37⟩ hp
        clear hp
        rcases htest with HI | ⟨HI, rfl | rfl⟩
        all_goals
          go_wp2_with (first | (go_at_call 51; refine (withinV _ 32 126 _).mono ?_; rintro e w5 ⟨rfl, e5⟩; have e6 := e5.symm; clear e5; subst e6; rw [HI]))
          go_region_law (refine step_append_bytes rfl (.tmp 31) (.tmp 38) 29 rfl B info5 Tryd.underlying29 u0 (xs ++ 34 :: (ys.take k).flatMap signL) (by first | rfl | simp [Act.eval, Act.put]) ((hown.ext (ext_drewN _ 1)).ext (hE _ _)) (some ⟨wr.heap.size, 0, none⟩) 3 3 [37, hexD p, hexD r] (by first | rfl | simp [Act.eval, Act.put]) (rd_three wr.drew 37 (hexD p) (hexD r) (by omega) h3 h4) (by have := HL.out; simp only [List.length_append, List.length_cons]; omega) (by have := hb.size; simp; omega) ?_; intro v4 w4 o4 g4; have B4 := HB.out _ _ _ _ (hb.drewN 1) (hown.ext (ext_drewN _ 1)) g4)
          all_goals
            go_wp2
            go_roundw
            case rel => exact ⟨k + 1, by omega, by go_num, by rw [HS'.out]; simpa using o4, B4⟩
            case measure => simp [intOf]; omega
    · have hkn : k = n := by omega
      subst hkn
      have HL : Hid (xs.length + 1 + (ys.flatMap signL).length ≤ 1076887553) := by
        show _ ≤ _
        have h1 := quote_len ys
        have := HN.out
        omega
      have HT : Hid (ys.take k = ys) := List.take_of_length_le (by have := HN.out; omega)
      rw [HT.out] at hown
      go_wp2_with (at_builtin; refine wpList_append_bytes _ rfl _ _ 29 rfl B info5 Tryd.underlying29 u0 (xs ++ 34 :: ys.flatMap signL) rfl (hown.ext (World.grownBy_alloc _ _ _)) _ 1 1 [34] rfl (rd_one wr 34 (by omega) (by omega)) (by have := HL.out; simp only [List.length_append, List.length_cons]; omega) (by have := hb.size; simp; omega) ?_; intro v4 w4 o4 g4)
      go_ret
      refine ⟨v4, rfl, by simpa [quoteL] using o4, ?_⟩
      exact (hb.alloc (Nat.le_trans hB hb.size) _).grown (hown.ext (World.grownBy_alloc _ _ _)) (by have := hb.size; simp; omega) g4

end Go.Proofs.YtheojmjnpemkbaaDoor
