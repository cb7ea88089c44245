/- The contract of the specification's l8text, further kinds. -/
import Derived.Test.YtfhebefepgnmnaaDoorOs8a
namespace Go.Proofs.YtfhebefepgnmnaaDoor
open Go.RowKit

set_option maxHeartbeats 4000000 in
theorem sT_2 (ka va : Option Addr) (kc vc : Nat) (ky vl : List Int) (n : Nat) (w : World) (rk : RV w (.slice ka ky.length kc) ky) (rv : RV w (.slice va vl.length vc) vl) (hk0 : 0 < ky.length) (hk : ky.length ≤ 20) (hv : vl.length ≤ 20) (hn : n ≤ 1000000) :
    Calls Tryd.prog 15 #[.agg #[.int .i64 2, .slice ka ky.length kc, .slice va vl.length vc, .int .i64 (n : Int)]] w fun e w' => ∃ v', e = .returned v' ∧ OwM w' w.heap.size v' (nameL 2 ++ 32 :: ky ++ 32 :: quoteL vl ++ 32 :: decL n) ∧ Below w.heap.size w w' := by
  have _hu := And.intro hk (And.intro hv hn)
  obtain ⟨V, hV⟩ : ∃ V, V = w.alloc (.cells #[.int .i64 2, .slice ka ky.length kc, .slice va vl.length vc, .int .i64 (n : Int)] 28) := ⟨_, rfl⟩
  have q : V.heap[w.heap.size]? = some (.cells #[.int .i64 2, .slice ka ky.length kc, .slice va vl.length vc, .int .i64 (n : Int)] 28 (0, 0)) := by rw [hV]; exact heap_alloc_new w _
  have bV : Below w.heap.size w V := by rw [hV]; exact (Below.refl _ w).alloc (Nat.le_refl _) _
  have RK : Hid (RV V (.slice ka ky.length kc) ky) := rk.ext (ext_below bV)
  have RW : Hid (RV V (.slice va vl.length vc) vl) := rv.ext (ext_below bV)
  have RKR : Hid (∀ x ∈ vl, 0 ≤ x ∧ x ≤ 255) := by obtain ⟨_, _, _, r, _⟩ := rv; exact r.rng
  have HQ : Hid (∀ W, Below V.heap.size V W → (W.cell? ⟨w.heap.size, 0, none⟩ = some (.int .i64 2) ∧ W.cell? ⟨w.heap.size, 1, none⟩ = some (.slice ka ky.length kc) ∧ W.cell? ⟨w.heap.size, 2, none⟩ = some (.slice va vl.length vc) ∧ W.cell? ⟨w.heap.size, 3, none⟩ = some (.int .i64 (n : Int)))) := fun W b => by
    have h1 : W.heap[w.heap.size]? = _ := below_blk b (Array.getElem?_eq_some_iff.1 q).1 q
    exact ⟨(at_block h1 0 _ rfl).1, (at_block h1 1 _ rfl).1, (at_block h1 2 _ rfl).1, (at_block h1 3 _ rfl).1⟩
  have HBV : Hid (∀ W, Below V.heap.size V W → Below w.heap.size w W) := fun W b => bV.trans (b.mono bV.size)
  have SV : Hid (w.heap.size ≤ V.heap.size) := bV.size
  have NL : Hid (0 < (nameL 2).length ∧ (nameL 2).length ≤ 4) := ⟨nameL_pos 2 (by omega), nameL_len 2⟩
  have HQL : Hid ((quoteL vl).length ≤ 62) := by have := quoteL_len vl; show _ ≤ _; omega
  have HDL : Hid ((decL n).length ≤ 21) := decL_len n (by omega)
  obtain ⟨c0, c1, c2, c3⟩ := HQ.out V (Below.refl _ _)
  have HV := Lib.hid hV
  clear hV q bV rk rv
  have hkp : (0 : Int) < (ky.length : Int) := by omega
  obtain ⟨kl, hkl⟩ : ∃ kl, kl = ky.length := ⟨_, rfl⟩
  have HKL : Hid (kl = ky.length) := hkl
  rw [← hkl] at RK HQ c1 hkp HV ⊢
  clear hkl hk0
  obtain ⟨vn, hvn⟩ : ∃ vn, vn = vl.length := ⟨_, rfl⟩
  have HVL : Hid (vn = vl.length) := hvn
  rw [← hvn] at RW HQ c2 HV ⊢
  clear hvn
  go_enter Tryd.func15, Tryd.ntmps15
  go_upto_region 1 with fail
  rw [← HV.out]
  clear HV
  go_wp2_with fail
  refine (l8nameV 2 (by omega) V).mono ?_
  rintro e w1 ⟨rfl, b1⟩
  have hc : (convert 9 22 (.string (nameS 2))).run Tryd.prog w1 = .ok (.slice (some ⟨w1.heap.size, 0, none⟩) (nameS 2).size (grownCap w1 (nameS 2).size 0 5)) (Lib.bytesWorld w1 5 (nameS 2)) := Lib.run_convert_string_bytes w1 9 22 5 (nameS 2) Tryd.underlying9 Tryd.underlying22 Tryd.underlying5
  obtain ⟨M0, b2⟩ := m_conv w1 (nameS 2) (nameL 2) (nameS_cells 2 (by omega)) (by have := nameS_size 2 (by omega); omega)
  obtain ⟨W0, hW⟩ : ∃ W, W = Lib.bytesWorld w1 5 (nameS 2) := ⟨_, rfl⟩
  obtain ⟨v0, hv0⟩ : ∃ v, v = Value.slice (some ⟨w1.heap.size, 0, none⟩) (nameS 2).size (grownCap w1 (nameS 2).size 0 5) := ⟨_, rfl⟩
  rw [← hW, ← hv0] at hc
  rw [← hW, ← hv0] at M0
  rw [← hW] at b2
  have O0 : OwM W0 V.heap.size v0 (nameL 2) := M0.base b1.size
  have B0 : Below V.heap.size V W0 := b1.trans (b2.mono b1.size)
  clear hW hv0 M0 b1 b2 c0 c1 c2 c3
  obtain ⟨c0, c1, c2, c3⟩ := HQ.out W0 B0
  go_wp2_with fail
  refine (word_old RK.out B0 O0 (by have := NL.out; have := HQL.out; have := HDL.out; have := HKL.out; have := HVL.out; omega) (by have := NL.out; have := HQL.out; have := HDL.out; have := HKL.out; have := HVL.out; omega) (by have := NL.out; have := HQL.out; have := HDL.out; have := HKL.out; have := HVL.out; omega)).mono ?_
  rintro e W1 ⟨v1, rfl, O1, B1⟩
  clear c0 c1 c2 c3
  obtain ⟨c0, c1, c2, c3⟩ := HQ.out W1 B1
  go_wp2_with fail
  refine (quotedV (.slice va vn vc) vl W1 (by have := RW.out.ext (ext_below B1); exact this) (by have := NL.out; have := HQL.out; have := HDL.out; have := HKL.out; have := HVL.out; omega)).mono ?_
  rintro e X1 ⟨y1, rfl, Y1, D1⟩
  go_wp2_with fail
  refine (word_new (quoteL_rng RKR.out) B1 O1 (by have := NL.out; have := HQL.out; have := HDL.out; have := HKL.out; have := HVL.out; simp only [List.length_append, List.length_cons]; omega) (by have := NL.out; have := HQL.out; have := HDL.out; have := HKL.out; have := HVL.out; simp only [List.length_append, List.length_cons]; omega) Y1 D1 (by have := NL.out; have := HQL.out; have := HDL.out; have := HKL.out; have := HVL.out; omega)).mono ?_
  rintro e W2 ⟨v2, rfl, O2, B2⟩
  clear c0 c1 c2 c3
  obtain ⟨c0, c1, c2, c3⟩ := HQ.out W2 B2
  go_wp2_with fail
  refine (digitsV n (by omega) W2).mono ?_
  rintro e X2 ⟨y2, rfl, Y2, D2⟩
  go_wp2_with fail
  refine (word_new (decL_rng n) B2 O2 (by have := NL.out; have := HQL.out; have := HDL.out; have := HKL.out; have := HVL.out; simp only [List.length_append, List.length_cons]; omega) (by have := NL.out; have := HQL.out; have := HDL.out; have := HKL.out; have := HVL.out; simp only [List.length_append, List.length_cons]; omega) Y2 D2 (by have := NL.out; have := HQL.out; have := HDL.out; have := HKL.out; have := HVL.out; omega)).mono ?_
  rintro e W3 ⟨v3, rfl, O3, B3⟩
  clear c0 c1 c2 c3
  obtain ⟨c0, c1, c2, c3⟩ := HQ.out W3 B3
  go_wp2
  go_ret
  exact ⟨v3, rfl, O3.base SV.out, HBV.out _ B3⟩

set_option maxHeartbeats 4000000 in
theorem sT_6 (ka va : Option Addr) (kc vc : Nat) (ky vl : List Int) (n : Nat) (w : World) (rk : RV w (.slice ka ky.length kc) ky) (rv : RV w (.slice va vl.length vc) vl) (hk0 : 0 < ky.length) (hk : ky.length ≤ 20) (hv : vl.length ≤ 20) (hn : n ≤ 1000000) :
    Calls Tryd.prog 15 #[.agg #[.int .i64 6, .slice ka ky.length kc, .slice va vl.length vc, .int .i64 (n : Int)]] w fun e w' => ∃ v', e = .returned v' ∧ OwM w' w.heap.size v' (nameL 6 ++ 32 :: ky ++ 32 :: quoteL vl ++ 32 :: decL n) ∧ Below w.heap.size w w' := by
  have _hu := And.intro hk (And.intro hv hn)
  obtain ⟨V, hV⟩ : ∃ V, V = w.alloc (.cells #[.int .i64 6, .slice ka ky.length kc, .slice va vl.length vc, .int .i64 (n : Int)] 28) := ⟨_, rfl⟩
  have q : V.heap[w.heap.size]? = some (.cells #[.int .i64 6, .slice ka ky.length kc, .slice va vl.length vc, .int .i64 (n : Int)] 28 (0, 0)) := by rw [hV]; exact heap_alloc_new w _
  have bV : Below w.heap.size w V := by rw [hV]; exact (Below.refl _ w).alloc (Nat.le_refl _) _
  have RK : Hid (RV V (.slice ka ky.length kc) ky) := rk.ext (ext_below bV)
  have RW : Hid (RV V (.slice va vl.length vc) vl) := rv.ext (ext_below bV)
  have RKR : Hid (∀ x ∈ vl, 0 ≤ x ∧ x ≤ 255) := by obtain ⟨_, _, _, r, _⟩ := rv; exact r.rng
  have HQ : Hid (∀ W, Below V.heap.size V W → (W.cell? ⟨w.heap.size, 0, none⟩ = some (.int .i64 6) ∧ W.cell? ⟨w.heap.size, 1, none⟩ = some (.slice ka ky.length kc) ∧ W.cell? ⟨w.heap.size, 2, none⟩ = some (.slice va vl.length vc) ∧ W.cell? ⟨w.heap.size, 3, none⟩ = some (.int .i64 (n : Int)))) := fun W b => by
    have h1 : W.heap[w.heap.size]? = _ := below_blk b (Array.getElem?_eq_some_iff.1 q).1 q
    exact ⟨(at_block h1 0 _ rfl).1, (at_block h1 1 _ rfl).1, (at_block h1 2 _ rfl).1, (at_block h1 3 _ rfl).1⟩
  have HBV : Hid (∀ W, Below V.heap.size V W → Below w.heap.size w W) := fun W b => bV.trans (b.mono bV.size)
  have SV : Hid (w.heap.size ≤ V.heap.size) := bV.size
  have NL : Hid (0 < (nameL 6).length ∧ (nameL 6).length ≤ 4) := ⟨nameL_pos 6 (by omega), nameL_len 6⟩
  have HQL : Hid ((quoteL vl).length ≤ 62) := by have := quoteL_len vl; show _ ≤ _; omega
  have HDL : Hid ((decL n).length ≤ 21) := decL_len n (by omega)
  obtain ⟨c0, c1, c2, c3⟩ := HQ.out V (Below.refl _ _)
  have HV := Lib.hid hV
  clear hV q bV rk rv
  have hkp : (0 : Int) < (ky.length : Int) := by omega
  obtain ⟨kl, hkl⟩ : ∃ kl, kl = ky.length := ⟨_, rfl⟩
  have HKL : Hid (kl = ky.length) := hkl
  rw [← hkl] at RK HQ c1 hkp HV ⊢
  clear hkl hk0
  obtain ⟨vn, hvn⟩ : ∃ vn, vn = vl.length := ⟨_, rfl⟩
  have HVL : Hid (vn = vl.length) := hvn
  rw [← hvn] at RW HQ c2 HV ⊢
  clear hvn
  go_enter Tryd.func15, Tryd.ntmps15
  go_upto_region 1 with fail
  rw [← HV.out]
  clear HV
  go_wp2_with fail
  refine (l8nameV 6 (by omega) V).mono ?_
  rintro e w1 ⟨rfl, b1⟩
  have hc : (convert 9 22 (.string (nameS 6))).run Tryd.prog w1 = .ok (.slice (some ⟨w1.heap.size, 0, none⟩) (nameS 6).size (grownCap w1 (nameS 6).size 0 5)) (Lib.bytesWorld w1 5 (nameS 6)) := Lib.run_convert_string_bytes w1 9 22 5 (nameS 6) Tryd.underlying9 Tryd.underlying22 Tryd.underlying5
  obtain ⟨M0, b2⟩ := m_conv w1 (nameS 6) (nameL 6) (nameS_cells 6 (by omega)) (by have := nameS_size 6 (by omega); omega)
  obtain ⟨W0, hW⟩ : ∃ W, W = Lib.bytesWorld w1 5 (nameS 6) := ⟨_, rfl⟩
  obtain ⟨v0, hv0⟩ : ∃ v, v = Value.slice (some ⟨w1.heap.size, 0, none⟩) (nameS 6).size (grownCap w1 (nameS 6).size 0 5) := ⟨_, rfl⟩
  rw [← hW, ← hv0] at hc
  rw [← hW, ← hv0] at M0
  rw [← hW] at b2
  have O0 : OwM W0 V.heap.size v0 (nameL 6) := M0.base b1.size
  have B0 : Below V.heap.size V W0 := b1.trans (b2.mono b1.size)
  clear hW hv0 M0 b1 b2 c0 c1 c2 c3
  obtain ⟨c0, c1, c2, c3⟩ := HQ.out W0 B0
  go_wp2_with fail
  refine (word_old RK.out B0 O0 (by have := NL.out; have := HQL.out; have := HDL.out; have := HKL.out; have := HVL.out; omega) (by have := NL.out; have := HQL.out; have := HDL.out; have := HKL.out; have := HVL.out; omega) (by have := NL.out; have := HQL.out; have := HDL.out; have := HKL.out; have := HVL.out; omega)).mono ?_
  rintro e W1 ⟨v1, rfl, O1, B1⟩
  clear c0 c1 c2 c3
  obtain ⟨c0, c1, c2, c3⟩ := HQ.out W1 B1
  go_wp2_with fail
  refine (quotedV (.slice va vn vc) vl W1 (by have := RW.out.ext (ext_below B1); exact this) (by have := NL.out; have := HQL.out; have := HDL.out; have := HKL.out; have := HVL.out; omega)).mono ?_
  rintro e X1 ⟨y1, rfl, Y1, D1⟩
  go_wp2_with fail
  refine (word_new (quoteL_rng RKR.out) B1 O1 (by have := NL.out; have := HQL.out; have := HDL.out; have := HKL.out; have := HVL.out; simp only [List.length_append, List.length_cons]; omega) (by have := NL.out; have := HQL.out; have := HDL.out; have := HKL.out; have := HVL.out; simp only [List.length_append, List.length_cons]; omega) Y1 D1 (by have := NL.out; have := HQL.out; have := HDL.out; have := HKL.out; have := HVL.out; omega)).mono ?_
  rintro e W2 ⟨v2, rfl, O2, B2⟩
  clear c0 c1 c2 c3
  obtain ⟨c0, c1, c2, c3⟩ := HQ.out W2 B2
  go_wp2_with fail
  refine (digitsV n (by omega) W2).mono ?_
  rintro e X2 ⟨y2, rfl, Y2, D2⟩
  go_wp2_with fail
  refine (word_new (decL_rng n) B2 O2 (by have := NL.out; have := HQL.out; have := HDL.out; have := HKL.out; have := HVL.out; simp only [List.length_append, List.length_cons]; omega) (by have := NL.out; have := HQL.out; have := HDL.out; have := HKL.out; have := HVL.out; simp only [List.length_append, List.length_cons]; omega) Y2 D2 (by have := NL.out; have := HQL.out; have := HDL.out; have := HKL.out; have := HVL.out; omega)).mono ?_
  rintro e W3 ⟨v3, rfl, O3, B3⟩
  clear c0 c1 c2 c3
  obtain ⟨c0, c1, c2, c3⟩ := HQ.out W3 B3
  go_wp2
  go_ret
  exact ⟨v3, rfl, O3.base SV.out, HBV.out _ B3⟩

end Go.Proofs.YtfhebefepgnmnaaDoor
