/- The contracts of the specification's l8text and OpText. -/
import Derived.Test.YtfhebefepgnmnaaDoorQs8
import Derived.Test.YtfhebefepgnmnaaDoorDg8
import Derived.Test.YtfhebefepgnmnaaDoorNm8
import Derived.Test.YtfhebefepgnmnaaDoorOp3
namespace Go.Proofs.YtfhebefepgnmnaaDoor
open Go.RowKit

theorem keep_old {w0 w : World} {bv kv : Value} {xs ky : List Int} (rk : RV w0 kv ky) (b : Below w0.heap.size w0 w) (ho : OwM w w0.heap.size bv xs) : ∀ w', w.grownBy w' bv.ownBlock → RV w' kv ky :=
  fun _ g => rk.ext (ext_below (m_below b (Nat.le_refl _) ho b.size g))
theorem keep_new {w1 w3 : World} {B : Nat} {bv v3 : Value} {xs ys : List Int} (hr : ∀ x ∈ ys, 0 ≤ x ∧ x ≤ 255) (ho : OwM w1 B bv xs) (o3 : Ow w3 w1.heap.size v3 ys) : ∀ w', w3.grownBy w' bv.ownBlock → RV w' v3 ys :=
  fun _ g => (o3.m.kept g (m_apart' ho (Nat.le_refl _) o3.m)).rv hr

/-- An old word behind others. -/
theorem word_old {w0 w : World} {bv kv : Value} {xs ky : List Int} (rk : RV w0 kv ky) (b : Below w0.heap.size w0 w) (ho : OwM w w0.heap.size bv xs) (h0 : 0 < xs.length) (hl : xs.length ≤ 2147483) (hk : ky.length ≤ 2147483) :
    Calls Tryd.prog 24 #[bv, kv] w fun e w' => ∃ v, e = .returned v ∧ OwM w' w0.heap.size v (xs ++ 32 :: ky) ∧ Below w0.heap.size w0 w' := by
  refine (wordV w0.heap.size bv kv xs ky w ho b.size h0 (by omega) (keep_old rk b ho) (by omega)).mono ?_
  rintro e w' ⟨v, rfl, o, g, _⟩
  exact ⟨v, rfl, o, m_below b (Nat.le_refl _) ho b.size g⟩
/-- A new word behind others. -/
theorem word_new {w0 w1 w3 : World} {bv v3 : Value} {xs ys : List Int} (hr : ∀ x ∈ ys, 0 ≤ x ∧ x ≤ 255) (b : Below w0.heap.size w0 w1) (ho : OwM w1 w0.heap.size bv xs) (h0 : 0 < xs.length) (hl : xs.length ≤ 2147483) (o3 : Ow w3 w1.heap.size v3 ys) (b3 : Below w1.heap.size w1 w3) (hy : ys.length ≤ 2147483) :
    Calls Tryd.prog 24 #[bv, v3] w3 fun e w' => ∃ v, e = .returned v ∧ OwM w' w0.heap.size v (xs ++ 32 :: ys) ∧ Below w0.heap.size w0 w' := by
  have c3 := b.trans (b3.mono b.size)
  have M3 := ho.ext (ext_below b3)
  refine (wordV w0.heap.size bv v3 xs ys w3 M3 c3.size h0 (by omega) (keep_new hr ho o3) (by omega)).mono ?_
  rintro e w' ⟨v, rfl, o, g, _⟩
  exact ⟨v, rfl, o, m_below c3 (Nat.le_refl _) M3 c3.size g⟩

theorem nameL_pos (k : Nat) (h : k < 8) : 0 < (nameL k).length := by
  rcases lt8 h with rfl | rfl | rfl | rfl | rfl | rfl | rfl | rfl <;> decide

set_option maxHeartbeats 4000000 in
theorem sT_0 (ka va : Option Addr) (kc vc : Nat) (ky vl : List Int) (n : Nat) (w : World) (rk : RV w (.slice ka ky.length kc) ky) (rv : RV w (.slice va vl.length vc) vl) (hk0 : ky.length = 0) (hk : ky.length ≤ 20) (hv : vl.length ≤ 20) (hn : n ≤ 1000000) :
    Calls Tryd.prog 15 #[.agg #[.int .i64 0, .slice ka ky.length kc, .slice va vl.length vc, .int .i64 (n : Int)]] w fun e w' => ∃ v', e = .returned v' ∧ OwM w' w.heap.size v' (nameL 0) ∧ Below w.heap.size w w' := by
  have _hu := And.intro hk (And.intro hv hn)
  obtain ⟨V, hV⟩ : ∃ V, V = w.alloc (.cells #[.int .i64 0, .slice ka ky.length kc, .slice va vl.length vc, .int .i64 (n : Int)] 28) := ⟨_, rfl⟩
  have q : V.heap[w.heap.size]? = some (.cells #[.int .i64 0, .slice ka ky.length kc, .slice va vl.length vc, .int .i64 (n : Int)] 28 (0, 0)) := by rw [hV]; exact heap_alloc_new w _
  have bV : Below w.heap.size w V := by rw [hV]; exact (Below.refl _ w).alloc (Nat.le_refl _) _
  have RK : Hid (RV V (.slice ka ky.length kc) ky) := rk.ext (ext_below bV)
  have RW : Hid (RV V (.slice va vl.length vc) vl) := rv.ext (ext_below bV)
  have RKR : Hid (∀ x ∈ vl, 0 ≤ x ∧ x ≤ 255) := by obtain ⟨_, _, _, r, _⟩ := rv; exact r.rng
  have HQ : Hid (∀ W, Below V.heap.size V W → (W.cell? ⟨w.heap.size, 0, none⟩ = some (.int .i64 0) ∧ W.cell? ⟨w.heap.size, 1, none⟩ = some (.slice ka ky.length kc) ∧ W.cell? ⟨w.heap.size, 2, none⟩ = some (.slice va vl.length vc) ∧ W.cell? ⟨w.heap.size, 3, none⟩ = some (.int .i64 (n : Int)))) := fun W b => by
    have h1 : W.heap[w.heap.size]? = _ := below_blk b (Array.getElem?_eq_some_iff.1 q).1 q
    exact ⟨(at_block h1 0 _ rfl).1, (at_block h1 1 _ rfl).1, (at_block h1 2 _ rfl).1, (at_block h1 3 _ rfl).1⟩
  have HBV : Hid (∀ W, Below V.heap.size V W → Below w.heap.size w W) := fun W b => bV.trans (b.mono bV.size)
  have SV : Hid (w.heap.size ≤ V.heap.size) := bV.size
  have NL : Hid (0 < (nameL 0).length ∧ (nameL 0).length ≤ 4) := ⟨nameL_pos 0 (by omega), nameL_len 0⟩
  have HQL : Hid ((quoteL vl).length ≤ 62) := by have := quoteL_len vl; show _ ≤ _; omega
  have HDL : Hid ((decL n).length ≤ 21) := decL_len n (by omega)
  obtain ⟨c0, c1, c2, c3⟩ := HQ.out V (Below.refl _ _)
  have HV := Lib.hid hV
  clear hV q bV rk rv
  have hkp : ¬ (0 : Int) < (ky.length : Int) := by omega
  obtain ⟨kl, hkl⟩ : ∃ kl, kl = ky.length := ⟨_, rfl⟩
  have HKL : Hid (kl = ky.length) := hkl
  rw [← hkl] at RK HQ c1 hkp HV ⊢
  clear hkl hk0
  obtain ⟨vn, hvn⟩ : ∃ vn, vn = vl.length := ⟨_, rfl⟩
  have HVL : Hid (vn = vl.length) := hvn
  rw [← hvn] at RW HQ c2 HV ⊢
  clear hvn
  go_enter Tryd.func15, Tryd.ntmps15
  go_upto_region 1 with fail
  rw [← HV.out]
  clear HV
  go_wp2_with fail
  refine (l8nameV 0 (by omega) V).mono ?_
  rintro e w1 ⟨rfl, b1⟩
  have hc : (convert 9 22 (.string (nameS 0))).run Tryd.prog w1 = .ok (.slice (some ⟨w1.heap.size, 0, none⟩) (nameS 0).size (grownCap w1 (nameS 0).size 0 5)) (Lib.bytesWorld w1 5 (nameS 0)) := Lib.run_convert_string_bytes w1 9 22 5 (nameS 0) Tryd.underlying9 Tryd.underlying22 Tryd.underlying5
  obtain ⟨M0, b2⟩ := m_conv w1 (nameS 0) (nameL 0) (nameS_cells 0 (by omega)) (by have := nameS_size 0 (by omega); omega)
  obtain ⟨W0, hW⟩ : ∃ W, W = Lib.bytesWorld w1 5 (nameS 0) := ⟨_, rfl⟩
  obtain ⟨v0, hv0⟩ : ∃ v, v = Value.slice (some ⟨w1.heap.size, 0, none⟩) (nameS 0).size (grownCap w1 (nameS 0).size 0 5) := ⟨_, rfl⟩
  rw [← hW, ← hv0] at hc
  rw [← hW, ← hv0] at M0
  rw [← hW] at b2
  have O0 : OwM W0 V.heap.size v0 (nameL 0) := M0.base b1.size
  have B0 : Below V.heap.size V W0 := b1.trans (b2.mono b1.size)
  clear hW hv0 M0 b1 b2 c0 c1 c2 c3
  obtain ⟨c0, c1, c2, c3⟩ := HQ.out W0 B0
  go_wp2
  go_ret
  exact ⟨v0, rfl, O0.base SV.out, HBV.out _ B0⟩

set_option maxHeartbeats 4000000 in
theorem sT_3 (ka va : Option Addr) (kc vc : Nat) (ky vl : List Int) (n : Nat) (w : World) (rk : RV w (.slice ka ky.length kc) ky) (rv : RV w (.slice va vl.length vc) vl) (hk0 : 0 < ky.length) (hk : ky.length ≤ 20) (hv : vl.length ≤ 20) (hn : n ≤ 1000000) :
    Calls Tryd.prog 15 #[.agg #[.int .i64 3, .slice ka ky.length kc, .slice va vl.length vc, .int .i64 (n : Int)]] w fun e w' => ∃ v', e = .returned v' ∧ OwM w' w.heap.size v' (nameL 3 ++ 32 :: ky) ∧ Below w.heap.size w w' := by
  have _hu := And.intro hk (And.intro hv hn)
  obtain ⟨V, hV⟩ : ∃ V, V = w.alloc (.cells #[.int .i64 3, .slice ka ky.length kc, .slice va vl.length vc, .int .i64 (n : Int)] 28) := ⟨_, rfl⟩
  have q : V.heap[w.heap.size]? = some (.cells #[.int .i64 3, .slice ka ky.length kc, .slice va vl.length vc, .int .i64 (n : Int)] 28 (0, 0)) := by rw [hV]; exact heap_alloc_new w _
  have bV : Below w.heap.size w V := by rw [hV]; exact (Below.refl _ w).alloc (Nat.le_refl _) _
  have RK : Hid (RV V (.slice ka ky.length kc) ky) := rk.ext (ext_below bV)
  have RW : Hid (RV V (.slice va vl.length vc) vl) := rv.ext (ext_below bV)
  have RKR : Hid (∀ x ∈ vl, 0 ≤ x ∧ x ≤ 255) := by obtain ⟨_, _, _, r, _⟩ := rv; exact r.rng
  have HQ : Hid (∀ W, Below V.heap.size V W → (W.cell? ⟨w.heap.size, 0, none⟩ = some (.int .i64 3) ∧ W.cell? ⟨w.heap.size, 1, none⟩ = some (.slice ka ky.length kc) ∧ W.cell? ⟨w.heap.size, 2, none⟩ = some (.slice va vl.length vc) ∧ W.cell? ⟨w.heap.size, 3, none⟩ = some (.int .i64 (n : Int)))) := fun W b => by
    have h1 : W.heap[w.heap.size]? = _ := below_blk b (Array.getElem?_eq_some_iff.1 q).1 q
    exact ⟨(at_block h1 0 _ rfl).1, (at_block h1 1 _ rfl).1, (at_block h1 2 _ rfl).1, (at_block h1 3 _ rfl).1⟩
  have HBV : Hid (∀ W, Below V.heap.size V W → Below w.heap.size w W) := fun W b => bV.trans (b.mono bV.size)
  have SV : Hid (w.heap.size ≤ V.heap.size) := bV.size
  have NL : Hid (0 < (nameL 3).length ∧ (nameL 3).length ≤ 4) := ⟨nameL_pos 3 (by omega), nameL_len 3⟩
  have HQL : Hid ((quoteL vl).length ≤ 62) := by have := quoteL_len vl; show _ ≤ _; omega
  have HDL : Hid ((decL n).length ≤ 21) := decL_len n (by omega)
  obtain ⟨c0, c1, c2, c3⟩ := HQ.out V (Below.refl _ _)
  have HV := Lib.hid hV
  clear hV q bV rk rv
  have hkp : (0 : Int) < (ky.length : Int) := by omega
  obtain ⟨kl, hkl⟩ : ∃ kl, kl = ky.length := ⟨_, rfl⟩
  have HKL : Hid (kl = ky.length) := hkl
  rw [← hkl] at RK HQ c1 hkp HV ⊢
  clear hkl hk0
  obtain ⟨vn, hvn⟩ : ∃ vn, vn = vl.length := ⟨_, rfl⟩
  have HVL : Hid (vn = vl.length) := hvn
  rw [← hvn] at RW HQ c2 HV ⊢
  clear hvn
  go_enter Tryd.func15, Tryd.ntmps15
  go_upto_region 1 with fail
  rw [← HV.out]
  clear HV
  go_wp2_with fail
  refine (l8nameV 3 (by omega) V).mono ?_
  rintro e w1 ⟨rfl, b1⟩
  have hc : (convert 9 22 (.string (nameS 3))).run Tryd.prog w1 = .ok (.slice (some ⟨w1.heap.size, 0, none⟩) (nameS 3).size (grownCap w1 (nameS 3).size 0 5)) (Lib.bytesWorld w1 5 (nameS 3)) := Lib.run_convert_string_bytes w1 9 22 5 (nameS 3) Tryd.underlying9 Tryd.underlying22 Tryd.underlying5
  obtain ⟨M0, b2⟩ := m_conv w1 (nameS 3) (nameL 3) (nameS_cells 3 (by omega)) (by have := nameS_size 3 (by omega); omega)
  obtain ⟨W0, hW⟩ : ∃ W, W = Lib.bytesWorld w1 5 (nameS 3) := ⟨_, rfl⟩
  obtain ⟨v0, hv0⟩ : ∃ v, v = Value.slice (some ⟨w1.heap.size, 0, none⟩) (nameS 3).size (grownCap w1 (nameS 3).size 0 5) := ⟨_, rfl⟩
  rw [← hW, ← hv0] at hc
  rw [← hW, ← hv0] at M0
  rw [← hW] at b2
  have O0 : OwM W0 V.heap.size v0 (nameL 3) := M0.base b1.size
  have B0 : Below V.heap.size V W0 := b1.trans (b2.mono b1.size)
  clear hW hv0 M0 b1 b2 c0 c1 c2 c3
  obtain ⟨c0, c1, c2, c3⟩ := HQ.out W0 B0
  go_wp2_with fail
  refine (word_old RK.out B0 O0 (by have := NL.out; have := HQL.out; have := HDL.out; have := HKL.out; have := HVL.out; omega) (by have := NL.out; have := HQL.out; have := HDL.out; have := HKL.out; have := HVL.out; omega) (by have := NL.out; have := HQL.out; have := HDL.out; have := HKL.out; have := HVL.out; omega)).mono ?_
  rintro e W1 ⟨v1, rfl, O1, B1⟩
  clear c0 c1 c2 c3
  obtain ⟨c0, c1, c2, c3⟩ := HQ.out W1 B1
  go_wp2
  go_ret
  exact ⟨v1, rfl, O1.base SV.out, HBV.out _ B1⟩

set_option maxHeartbeats 4000000 in
theorem sT_4 (ka va : Option Addr) (kc vc : Nat) (ky vl : List Int) (n : Nat) (w : World) (rk : RV w (.slice ka ky.length kc) ky) (rv : RV w (.slice va vl.length vc) vl) (hk0 : ky.length = 0) (hk : ky.length ≤ 20) (hv : vl.length ≤ 20) (hn : n ≤ 1000000) :
    Calls Tryd.prog 15 #[.agg #[.int .i64 4, .slice ka ky.length kc, .slice va vl.length vc, .int .i64 (n : Int)]] w fun e w' => ∃ v', e = .returned v' ∧ OwM w' w.heap.size v' (nameL 4 ++ 32 :: decL n) ∧ Below w.heap.size w w' := by
  have _hu := And.intro hk (And.intro hv hn)
  obtain ⟨V, hV⟩ : ∃ V, V = w.alloc (.cells #[.int .i64 4, .slice ka ky.length kc, .slice va vl.length vc, .int .i64 (n : Int)] 28) := ⟨_, rfl⟩
  have q : V.heap[w.heap.size]? = some (.cells #[.int .i64 4, .slice ka ky.length kc, .slice va vl.length vc, .int .i64 (n : Int)] 28 (0, 0)) := by rw [hV]; exact heap_alloc_new w _
  have bV : Below w.heap.size w V := by rw [hV]; exact (Below.refl _ w).alloc (Nat.le_refl _) _
  have RK : Hid (RV V (.slice ka ky.length kc) ky) := rk.ext (ext_below bV)
  have RW : Hid (RV V (.slice va vl.length vc) vl) := rv.ext (ext_below bV)
  have RKR : Hid (∀ x ∈ vl, 0 ≤ x ∧ x ≤ 255) := by obtain ⟨_, _, _, r, _⟩ := rv; exact r.rng
  have HQ : Hid (∀ W, Below V.heap.size V W → (W.cell? ⟨w.heap.size, 0, none⟩ = some (.int .i64 4) ∧ W.cell? ⟨w.heap.size, 1, none⟩ = some (.slice ka ky.length kc) ∧ W.cell? ⟨w.heap.size, 2, none⟩ = some (.slice va vl.length vc) ∧ W.cell? ⟨w.heap.size, 3, none⟩ = some (.int .i64 (n : Int)))) := fun W b => by
    have h1 : W.heap[w.heap.size]? = _ := below_blk b (Array.getElem?_eq_some_iff.1 q).1 q
    exact ⟨(at_block h1 0 _ rfl).1, (at_block h1 1 _ rfl).1, (at_block h1 2 _ rfl).1, (at_block h1 3 _ rfl).1⟩
  have HBV : Hid (∀ W, Below V.heap.size V W → Below w.heap.size w W) := fun W b => bV.trans (b.mono bV.size)
  have SV : Hid (w.heap.size ≤ V.heap.size) := bV.size
  have NL : Hid (0 < (nameL 4).length ∧ (nameL 4).length ≤ 4) := ⟨nameL_pos 4 (by omega), nameL_len 4⟩
  have HQL : Hid ((quoteL vl).length ≤ 62) := by have := quoteL_len vl; show _ ≤ _; omega
  have HDL : Hid ((decL n).length ≤ 21) := decL_len n (by omega)
  obtain ⟨c0, c1, c2, c3⟩ := HQ.out V (Below.refl _ _)
  have HV := Lib.hid hV
  clear hV q bV rk rv
  have hkp : ¬ (0 : Int) < (ky.length : Int) := by omega
  obtain ⟨kl, hkl⟩ : ∃ kl, kl = ky.length := ⟨_, rfl⟩
  have HKL : Hid (kl = ky.length) := hkl
  rw [← hkl] at RK HQ c1 hkp HV ⊢
  clear hkl hk0
  obtain ⟨vn, hvn⟩ : ∃ vn, vn = vl.length := ⟨_, rfl⟩
  have HVL : Hid (vn = vl.length) := hvn
  rw [← hvn] at RW HQ c2 HV ⊢
  clear hvn
  go_enter Tryd.func15, Tryd.ntmps15
  go_upto_region 1 with fail
  rw [← HV.out]
  clear HV
  go_wp2_with fail
  refine (l8nameV 4 (by omega) V).mono ?_
  rintro e w1 ⟨rfl, b1⟩
  have hc : (convert 9 22 (.string (nameS 4))).run Tryd.prog w1 = .ok (.slice (some ⟨w1.heap.size, 0, none⟩) (nameS 4).size (grownCap w1 (nameS 4).size 0 5)) (Lib.bytesWorld w1 5 (nameS 4)) := Lib.run_convert_string_bytes w1 9 22 5 (nameS 4) Tryd.underlying9 Tryd.underlying22 Tryd.underlying5
  obtain ⟨M0, b2⟩ := m_conv w1 (nameS 4) (nameL 4) (nameS_cells 4 (by omega)) (by have := nameS_size 4 (by omega); omega)
  obtain ⟨W0, hW⟩ : ∃ W, W = Lib.bytesWorld w1 5 (nameS 4) := ⟨_, rfl⟩
  obtain ⟨v0, hv0⟩ : ∃ v, v = Value.slice (some ⟨w1.heap.size, 0, none⟩) (nameS 4).size (grownCap w1 (nameS 4).size 0 5) := ⟨_, rfl⟩
  rw [← hW, ← hv0] at hc
  rw [← hW, ← hv0] at M0
  rw [← hW] at b2
  have O0 : OwM W0 V.heap.size v0 (nameL 4) := M0.base b1.size
  have B0 : Below V.heap.size V W0 := b1.trans (b2.mono b1.size)
  clear hW hv0 M0 b1 b2 c0 c1 c2 c3
  obtain ⟨c0, c1, c2, c3⟩ := HQ.out W0 B0
  go_wp2_with fail
  refine (digitsV n (by omega) W0).mono ?_
  rintro e X0 ⟨y0, rfl, Y0, D0⟩
  go_wp2_with fail
  refine (word_new (decL_rng n) B0 O0 (by have := NL.out; have := HQL.out; have := HDL.out; have := HKL.out; have := HVL.out; omega) (by have := NL.out; have := HQL.out; have := HDL.out; have := HKL.out; have := HVL.out; omega) Y0 D0 (by have := NL.out; have := HQL.out; have := HDL.out; have := HKL.out; have := HVL.out; omega)).mono ?_
  rintro e W1 ⟨v1, rfl, O1, B1⟩
  clear c0 c1 c2 c3
  obtain ⟨c0, c1, c2, c3⟩ := HQ.out W1 B1
  go_wp2
  go_ret
  exact ⟨v1, rfl, O1.base SV.out, HBV.out _ B1⟩

set_option maxHeartbeats 4000000 in
theorem sT_5 (ka va : Option Addr) (kc vc : Nat) (ky vl : List Int) (n : Nat) (w : World) (rk : RV w (.slice ka ky.length kc) ky) (rv : RV w (.slice va vl.length vc) vl) (hk0 : ky.length = 0) (hk : ky.length ≤ 20) (hv : vl.length ≤ 20) (hn : n ≤ 1000000) :
    Calls Tryd.prog 15 #[.agg #[.int .i64 5, .slice ka ky.length kc, .slice va vl.length vc, .int .i64 (n : Int)]] w fun e w' => ∃ v', e = .returned v' ∧ OwM w' w.heap.size v' (nameL 5 ++ 32 :: decL n) ∧ Below w.heap.size w w' := by
  have _hu := And.intro hk (And.intro hv hn)
  obtain ⟨V, hV⟩ : ∃ V, V = w.alloc (.cells #[.int .i64 5, .slice ka ky.length kc, .slice va vl.length vc, .int .i64 (n : Int)] 28) := ⟨_, rfl⟩
  have q : V.heap[w.heap.size]? = some (.cells #[.int .i64 5, .slice ka ky.length kc, .slice va vl.length vc, .int .i64 (n : Int)] 28 (0, 0)) := by rw [hV]; exact heap_alloc_new w _
  have bV : Below w.heap.size w V := by rw [hV]; exact (Below.refl _ w).alloc (Nat.le_refl _) _
  have RK : Hid (RV V (.slice ka ky.length kc) ky) := rk.ext (ext_below bV)
  have RW : Hid (RV V (.slice va vl.length vc) vl) := rv.ext (ext_below bV)
  have RKR : Hid (∀ x ∈ vl, 0 ≤ x ∧ x ≤ 255) := by obtain ⟨_, _, _, r, _⟩ := rv; exact r.rng
  have HQ : Hid (∀ W, Below V.heap.size V W → (W.cell? ⟨w.heap.size, 0, none⟩ = some (.int .i64 5) ∧ W.cell? ⟨w.heap.size, 1, none⟩ = some (.slice ka ky.length kc) ∧ W.cell? ⟨w.heap.size, 2, none⟩ = some (.slice va vl.length vc) ∧ W.cell? ⟨w.heap.size, 3, none⟩ = some (.int .i64 (n : Int)))) := fun W b => by
    have h1 : W.heap[w.heap.size]? = _ := below_blk b (Array.getElem?_eq_some_iff.1 q).1 q
    exact ⟨(at_block h1 0 _ rfl).1, (at_block h1 1 _ rfl).1, (at_block h1 2 _ rfl).1, (at_block h1 3 _ rfl).1⟩
  have HBV : Hid (∀ W, Below V.heap.size V W → Below w.heap.size w W) := fun W b => bV.trans (b.mono bV.size)
  have SV : Hid (w.heap.size ≤ V.heap.size) := bV.size
  have NL : Hid (0 < (nameL 5).length ∧ (nameL 5).length ≤ 4) := ⟨nameL_pos 5 (by omega), nameL_len 5⟩
  have HQL : Hid ((quoteL vl).length ≤ 62) := by have := quoteL_len vl; show _ ≤ _; omega
  have HDL : Hid ((decL n).length ≤ 21) := decL_len n (by omega)
  obtain ⟨c0, c1, c2, c3⟩ := HQ.out V (Below.refl _ _)
  have HV := Lib.hid hV
  clear hV q bV rk rv
  have hkp : ¬ (0 : Int) < (ky.length : Int) := by omega
  obtain ⟨kl, hkl⟩ : ∃ kl, kl = ky.length := ⟨_, rfl⟩
  have HKL : Hid (kl = ky.length) := hkl
  rw [← hkl] at RK HQ c1 hkp HV ⊢
  clear hkl hk0
  obtain ⟨vn, hvn⟩ : ∃ vn, vn = vl.length := ⟨_, rfl⟩
  have HVL : Hid (vn = vl.length) := hvn
  rw [← hvn] at RW HQ c2 HV ⊢
  clear hvn
  go_enter Tryd.func15, Tryd.ntmps15
  go_upto_region 1 with fail
  rw [← HV.out]
  clear HV
  go_wp2_with fail
  refine (l8nameV 5 (by omega) V).mono ?_
  rintro e w1 ⟨rfl, b1⟩
  have hc : (convert 9 22 (.string (nameS 5))).run Tryd.prog w1 = .ok (.slice (some ⟨w1.heap.size, 0, none⟩) (nameS 5).size (grownCap w1 (nameS 5).size 0 5)) (Lib.bytesWorld w1 5 (nameS 5)) := Lib.run_convert_string_bytes w1 9 22 5 (nameS 5) Tryd.underlying9 Tryd.underlying22 Tryd.underlying5
  obtain ⟨M0, b2⟩ := m_conv w1 (nameS 5) (nameL 5) (nameS_cells 5 (by omega)) (by have := nameS_size 5 (by omega); omega)
  obtain ⟨W0, hW⟩ : ∃ W, W = Lib.bytesWorld w1 5 (nameS 5) := ⟨_, rfl⟩
  obtain ⟨v0, hv0⟩ : ∃ v, v = Value.slice (some ⟨w1.heap.size, 0, none⟩) (nameS 5).size (grownCap w1 (nameS 5).size 0 5) := ⟨_, rfl⟩
  rw [← hW, ← hv0] at hc
  rw [← hW, ← hv0] at M0
  rw [← hW] at b2
  have O0 : OwM W0 V.heap.size v0 (nameL 5) := M0.base b1.size
  have B0 : Below V.heap.size V W0 := b1.trans (b2.mono b1.size)
  clear hW hv0 M0 b1 b2 c0 c1 c2 c3
  obtain ⟨c0, c1, c2, c3⟩ := HQ.out W0 B0
  go_wp2_with fail
  refine (digitsV n (by omega) W0).mono ?_
  rintro e X0 ⟨y0, rfl, Y0, D0⟩
  go_wp2_with fail
  refine (word_new (decL_rng n) B0 O0 (by have := NL.out; have := HQL.out; have := HDL.out; have := HKL.out; have := HVL.out; omega) (by have := NL.out; have := HQL.out; have := HDL.out; have := HKL.out; have := HVL.out; omega) Y0 D0 (by have := NL.out; have := HQL.out; have := HDL.out; have := HKL.out; have := HVL.out; omega)).mono ?_
  rintro e W1 ⟨v1, rfl, O1, B1⟩
  clear c0 c1 c2 c3
  obtain ⟨c0, c1, c2, c3⟩ := HQ.out W1 B1
  go_wp2
  go_ret
  exact ⟨v1, rfl, O1.base SV.out, HBV.out _ B1⟩

end Go.Proofs.YtfhebefepgnmnaaDoor
