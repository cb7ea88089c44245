/- The contracts of the specification's l8hex and l8quoted. -/
import Derived.Test.YtheojmjnpemkbaaDoorPv8
namespace Go.Proofs.YtheojmjnpemkbaaDoor
open Go.RowKit

theorem wrap8 {p : Int} (h0 : 0 ≤ p) (h1 : p < 256) : IntKind.u8.wrap p = p := by
  simp [IntKind.wrap, IntKind.bits, IntKind.signed]
  omega
theorem wrap6 {p : Int} (h0 : 0 ≤ p) (h1 : p < 256) : IntKind.i64.wrap p = p := by
  simp [IntKind.wrap, IntKind.bits, IntKind.signed]
  omega

set_option maxHeartbeats 1000000 in
theorem hexV (p : Int) (h0 : 0 ≤ p) (h1 : p < 16) (w : World) : Calls Tryd.prog 62 #[.int .i64 p] w fun e w' => e = .returned (.int .u8 (hexD p)) ∧ w' = w := by
  have hd := hex_at p h0 h1
  go_enter Tryd.func62, Tryd.ntmps62
  go_wp2
  go_ret
  exact ⟨rfl, rfl⟩

set_option maxHeartbeats 2000000 in
theorem quotedV (u : Value) (ys : List Int) (w : World) (hu : RV w u ys) (hy : ys.length ≤ 1048576) :
    Calls Tryd.prog 46 #[u] w fun e w' => ∃ v', e = .returned v' ∧ Ow w' w.heap.size v' (quoteL ys) ∧ Below w.heap.size w w' := by
  obtain ⟨a, cap, rfl, hr0, hc1, hc2⟩ := hu
  have HU : Hid (∀ w', Below w.heap.size w w' → Rd w' a ys.length ys) := fun w' b => hr0.grown (ext_below b)
  have hrng : Hid (∀ y ∈ ys, 0 ≤ y ∧ y ≤ 255) := hr0.rng
  clear hr0
  obtain ⟨n, hn⟩ : ∃ n, n = ys.length := ⟨_, rfl⟩
  have HN : Hid (n = ys.length) := hn
  rw [← hn] at hc1 hy HU ⊢
  clear hn
  have HF : Hid (∀ k y, ys[k]? = some y → ys.take (k + 1) = ys.take k ++ [y]) := fun k y hk => by rw [List.take_add_one, hk]; rfl
  have ho1 : Ow (w.alloc (.cells #[.int .u8 34] 5)) w.heap.size (.slice (some ⟨w.heap.size, 0, none⟩) 1 1) [34] := World.ownsRow_lit w #[_] 1 (Nat.le_refl _) (by decide) rfl
  have hb1 : Below w.heap.size w (w.alloc (.cells #[.int .u8 34] 5)) := (Below.refl _ w).alloc (Nat.le_refl _) _
  go_enter Tryd.func46, Tryd.ntmps46
  go_wp2
  go_loopw [3, 4] (fun q i wr => ∃ k : Nat, k ≤ n ∧ i = .int .i64 k ∧ Ow wr w.heap.size q (34 :: (ys.take k).flatMap signL) ∧ Below w.heap.size w wr) (fun _ i _ => n - (intOf i).toNat)
  case atStart => exact ⟨0, Nat.zero_le _, rfl, by simpa using ho1, hb1⟩
  case round =>
    obtain ⟨k, hk, rfl, hown, hb⟩ := hrel
    clear ho1 hb1
    by_cases hlt : k < n
    · have hr := HU.out _ hb
      obtain ⟨b, o, rfl, hbl, hc⟩ := hr.pos (by omega)
      obtain ⟨x, hx⟩ : ∃ x, ys[k]? = some x := ⟨_, List.getElem?_eq_getElem (by have := HN.out; omega)⟩
      have hck := hc k hlt
      rw [List.getD_eq_getElem?_getD, hx, Option.getD_some] at hck
      obtain ⟨x0, x1⟩ := hrng.out x (List.mem_of_getElem? hx)
      clear hc hr
      have HX : Hid (ys[k]? = some x) := hx
      clear hx
      have HT : Hid (∀ ss, signL x = ss → (ys.take (k + 1)).flatMap signL = (ys.take k).flatMap signL ++ ss) := fun ss e => by
        rw [HF.out k x HX.out, List.flatMap_append]
        simp [e]
      have HL : Hid (1 + ((ys.take k).flatMap signL).length ≤ 3145729) := by
        show _ ≤ _
        have h1 := quote_len (ys.take k)
        have h2 : (ys.take k).length ≤ k := by simp; omega
        omega
      have hE : ∀ W : World, ∀ o, Ext W (W.alloc o) := fun W o => World.grownBy_alloc _ _ _
      have HB : Hid (∀ (W w4 : World) (o : Obj) (q : Value), Below w.heap.size w W → Ow W w.heap.size q (34 :: (ys.take k).flatMap signL) → (W.alloc o).grownBy w4 q.ownBlock → Below w.heap.size w w4) := fun W w4 o q hb ho hg =>
        (hb.alloc hb.size _).grown hg (by have := hb.size; simp; omega) (fun k hk => (ho.lt k hk).1)
      have hlt' : (k : Int) < (n : Int) := by omega
      by_cases hp : (32 ≤ x ∧ x ≤ 126) ∧ x ≠ 34 ∧ x ≠ 37
      · have HS := HT.out [x] (plain_yes hp.1 hp.2.1 hp.2.2)
        have HS' : Hid ((ys.take (k + 1)).flatMap signL = (ys.take k).flatMap signL ++ [x]) := HS
        have h32 : ¬ x < 32 := by omega
        have h126 : ¬ 126 < x := by omega
        have h34 : (x == 34) = false := by simpa using hp.2.1
        have h37 : (x == 37) = false := by simpa using hp.2.2
        clear HS hp HT
        go_wp2_with (at_builtin; refine wpList_append_bytes _ rfl _ _ 29 rfl w.heap.size info5 Tryd.underlying29 u3 (34 :: (ys.take k).flatMap signL) rfl (hown.ext (hE _ _)) _ 1 1 [x] rfl (rd_one wr x (by omega) (by omega)) (by have := HL.out; simp only [List.length_cons]; omega) (by have := hb.size; simp; omega) ?_; intro v4 w4 o4 g4; have B4 := HB.out _ _ _ _ hb hown g4)
        go_roundw
        case rel => exact ⟨k + 1, by omega, by go_num, by rw [HS'.out]; simpa using o4, B4⟩
        case measure => simp [intOf]; omega
      · have HS := HT.out _ (plain_no hp)
        have h3 := hexD_rng (x / 16) (by omega) (by omega)
        have h4 := hexD_rng (x % 16) (by omega) (by omega)
        have e3 : x.tdiv 16 = x / 16 := Int.tdiv_eq_ediv_of_nonneg x0
        have e4 : x.tmod 16 = x % 16 := Int.tmod_eq_emod_of_nonneg x0
        obtain ⟨p, hp1⟩ : ∃ p, p = x / 16 := ⟨_, rfl⟩
        obtain ⟨r, hr1⟩ : ∃ r, r = x % 16 := ⟨_, rfl⟩
        have e1 : x / 16 = p := hp1.symm
        have e2 : x % 16 = r := hr1.symm
        have p0 : 0 ≤ p := by omega
        have p1 : p < 16 := by omega
        have r0 : 0 ≤ r := by omega
        have r1 : r < 16 := by omega
        rw [e1] at HS h3 e3
        rw [e2] at HS h4 e4
        have HS' : Hid ((ys.take (k + 1)).flatMap signL = (ys.take k).flatMap signL ++ [37, hexD p, hexD r]) := HS
        have w1 : IntKind.u8.wrap p = p := wrap8 p0 (by omega)
        have w2 : IntKind.u8.wrap r = r := wrap8 r0 (by omega)
        have w3 : IntKind.i64.wrap p = p := wrap6 p0 (by omega)
        have w4 : IntKind.i64.wrap r = r := wrap6 r0 (by omega)
        have htest : x < 32 ∨ (¬ x < 32 ∧ 126 < x) ∨ x = 34 ∨ x = 37 := by omega
        clear HS HT hp hp1 hr1 e1 e2
        rcases htest with h32 | ⟨h32, h126⟩ | rfl | rfl
        all_goals
          go_upto_region 6 with fail
          go_region_law (first
            | (refine step_append_bytes rfl (.tmp 38) (.tmp 53) 29 rfl w.heap.size info5 Tryd.underlying29 u3 (34 :: (ys.take k).flatMap signL) (by first | rfl | simp [Act.eval, Act.put]) ((hown.ext (ext_drewN _ 1)).ext (hE _ _)) (some ⟨wr.heap.size, 0, none⟩) 3 3 [37, hexD p, hexD r] (by first | rfl | simp [Act.eval, Act.put]) (rd_three wr.drew 37 (hexD p) (hexD r) (by omega) h3 h4) (by have := HL.out; simp only [List.length_cons]; omega) (by have := hb.size; simp; omega) ?_; intro v4 w4 o4 g4; have B4 := HB.out _ _ _ _ (below_drewN hb 1) (hown.ext (ext_drewN _ 1)) g4)
            | (go_simp; go_at_call 62; refine (hexV _ (by omega) (by omega) _).mono ?_; rintro e w5 ⟨rfl, e5⟩; have e6 := e5.symm; clear e5; subst e6))
          all_goals
            go_wp2
            go_roundw
            case rel => exact ⟨k + 1, by omega, by go_num, by rw [HS'.out]; simpa using o4, B4⟩
            case measure => simp [intOf]; omega
    · have hkn : k = n := by omega
      subst hkn
      have HL : Hid (1 + (ys.flatMap signL).length ≤ 3145729) := by
        show _ ≤ _
        have h1 := quote_len ys
        have := HN.out
        omega
      have HT : Hid (ys.take k = ys) := List.take_of_length_le (by have := HN.out; omega)
      rw [HT.out] at hown
      go_wp2_with (at_builtin; refine wpList_append_bytes _ rfl _ _ 29 rfl w.heap.size info5 Tryd.underlying29 u3 (34 :: ys.flatMap signL) rfl (hown.ext (World.grownBy_alloc _ _ _)) _ 1 1 [34] rfl (rd_one wr 34 (by omega) (by omega)) (by have := HL.out; simp only [List.length_cons]; omega) (by have := hb.size; simp; omega) ?_; intro v4 w4 o4 g4)
      go_ret
      refine ⟨v4, rfl, by simpa [quoteL] using o4, ?_⟩
      exact (hb.alloc hb.size _).grown g4 (by have := hb.size; simp; omega) (fun k hk => (hown.lt k hk).1)

end Go.Proofs.YtheojmjnpemkbaaDoor
