/- The contracts of OpText, the program's and the specification's, told of every operation; marks of an operation. -/
import Derived.Test.YtfhebefepgnmnaaDoorOi8a
import Derived.Test.YtfhebefepgnmnaaDoorOi8b
import Derived.Test.YtfhebefepgnmnaaDoorOi8c
import Derived.Test.YtfhebefepgnmnaaDoorOi8d
import Derived.Test.YtfhebefepgnmnaaDoorOi8e
import Derived.Test.YtfhebefepgnmnaaDoorOs8b
import Derived.Test.YtfhebefepgnmnaaDoorOs8c
import Derived.Test.YtfhebefepgnmnaaDoorOpO
import Derived.Test.YtfhebefepgnmnaaDoorMark
namespace Go.Proofs.YtfhebefepgnmnaaDoor
open Go.RowKit

theorem op_cases {d : DOp} (h : opB d = true) : ∃ k n : Nat, k < 8 ∧ d.kind = (k : Int) ∧ d.n = (n : Int) ∧ n ≤ 1000000 ∧ d.key.length ≤ 20 ∧ d.val.length ≤ 20 ∧ (k = 1 ∨ k = 2 ∨ k = 3 ∨ k = 6 ∨ k = 7 → 0 < d.key.length) ∧ (k = 0 ∨ k = 4 ∨ k = 5 → d.key.length = 0) := by
  unfold opB at h
  simp only [Bool.and_eq_true, decide_eq_true_eq] at h
  obtain ⟨⟨⟨⟨⟨⟨⟨h1, h2⟩, h3⟩, h4⟩, h5⟩, h6⟩, _⟩, _⟩ := h
  obtain ⟨k, hk⟩ := Int.eq_ofNat_of_zero_le h1
  obtain ⟨n, hn⟩ := Int.eq_ofNat_of_zero_le h4
  refine ⟨k, n, by omega, hk, hn, by omega, ?_, h3, ?_, ?_⟩
  · split at h6
    · simp only [keyB, Bool.and_eq_true, decide_eq_true_eq] at h6
      omega
    · simp only [decide_eq_true_eq] at h6
      omega
  · intro hh
    rw [if_pos (by omega)] at h6
    simp only [keyB, Bool.and_eq_true, decide_eq_true_eq] at h6
    omega
  · intro hh
    rw [if_neg (by omega)] at h6
    simpa using h6

theorem opTL_yes {d : DOp} {k : Nat} (h : opB d = true) (hk : d.kind = (k : Int)) : opTL d = nameL k ++ restL d k := by
  unfold opTL
  rw [if_pos h, hk, Int.toNat_natCast]
theorem opTL_no {d : DOp} (h : opB d = false) : opTL d = [] := by
  unfold opTL
  rw [if_neg (by rw [h]; decide)]

theorem vop_shape {w : World} {v : Value} {d : DOp} (h : VOp w v d) : ∃ ka kc va vc, v = .agg #[.int .i64 d.kind, .slice ka d.key.length kc, .slice va d.val.length vc, .int .i64 d.n] ∧ RV w (.slice ka d.key.length kc) d.key ∧ RV w (.slice va d.val.length vc) d.val := by
  obtain ⟨kv, vv, rfl, rk, rv⟩ := h
  have rk' := rk
  have rv' := rv
  obtain ⟨ka, kc, rfl, _⟩ := rk
  obtain ⟨va, vc, rfl, _⟩ := rv
  exact ⟨ka, kc, va, vc, rfl, rk', rv'⟩

set_option maxHeartbeats 2000000 in
theorem iOpTextV (v : Value) (d : DOp) (w : World) (h : VOp w v d) (hp : PowTab w.heap.size w) :
    Calls Tryd.prog 7 #[v] w fun e w' => ∃ v', e = .returned (.tuple #[v', .bool (opB d)]) ∧ Ow w' w.heap.size v' (opTL d) ∧ Below w.heap.size w w' := by
  cases hB : opB d
  · rw [opTL_no hB]
    have h0 := h
    obtain ⟨ka, kc, va, vc, rfl, rk, rv⟩ := vop_shape h
    have hA : Below w.heap.size w (w.alloc (.cells #[.int .i64 d.kind, .slice ka d.key.length kc, .slice va d.val.length vc, .int .i64 d.n] 28)) := (Below.refl _ w).alloc (Nat.le_refl _) _
    have HO := iOpOkV _ d _ (h0.ext (ext_below hA))
    rw [hB] at HO
    have HOK := Lib.hid HO
    clear HO
    go_enter Tryd.func7, Tryd.ntmps7
    go_wp2_with fail
    refine HOK.out.mono ?_
    rintro e w1 ⟨rfl, b1⟩
    go_wp2
    exact bodyPost_ret (v := .tuple #[.slice none 0 0, .bool false]) (by simp [results, Tryd.results7, go_sem]) rfl ⟨_, rfl, World.ownsRow_nil _ _ _ _, hA.trans (b1.mono (by simp))⟩
  · obtain ⟨k, n, hk, ek, en, hn, hkl, hvl, _, _⟩ := op_cases hB
    rw [opTL_yes hB ek]
    obtain ⟨ka, kc, va, vc, rfl, rk, rv⟩ := vop_shape h
    obtain ⟨kind, ky, vl, m⟩ := d
    dsimp only at ek en hkl hvl rk rv ⊢
    subst ek
    subst en
    rcases lt8 hk with rfl | rfl | rfl | rfl | rfl | rfl | rfl | rfl
    · exact (iOT_0 ka va kc vc ky vl n w rk rv hB hkl hvl hn hp).mono fun e w' ⟨v', h1, h2, h3⟩ => ⟨v', h1, by simpa [toksL, tokL, restL] using h2, h3⟩
    · exact (iOT_1 ka va kc vc ky vl n w rk rv hB hkl hvl hn hp).mono fun e w' ⟨v', h1, h2, h3⟩ => ⟨v', h1, by simpa [toksL, tokL, restL] using h2, h3⟩
    · exact (iOT_2 ka va kc vc ky vl n w rk rv hB hkl hvl hn hp).mono fun e w' ⟨v', h1, h2, h3⟩ => ⟨v', h1, by simpa [toksL, tokL, restL] using h2, h3⟩
    · exact (iOT_3 ka va kc vc ky vl n w rk rv hB hkl hvl hn hp).mono fun e w' ⟨v', h1, h2, h3⟩ => ⟨v', h1, by simpa [toksL, tokL, restL] using h2, h3⟩
    · exact (iOT_4 ka va kc vc ky vl n w rk rv hB hkl hvl hn hp).mono fun e w' ⟨v', h1, h2, h3⟩ => ⟨v', h1, by simpa [toksL, tokL, restL] using h2, h3⟩
    · exact (iOT_5 ka va kc vc ky vl n w rk rv hB hkl hvl hn hp).mono fun e w' ⟨v', h1, h2, h3⟩ => ⟨v', h1, by simpa [toksL, tokL, restL] using h2, h3⟩
    · exact (iOT_6 ka va kc vc ky vl n w rk rv hB hkl hvl hn hp).mono fun e w' ⟨v', h1, h2, h3⟩ => ⟨v', h1, by simpa [toksL, tokL, restL] using h2, h3⟩
    · exact (iOT_7 ka va kc vc ky vl n w rk rv hB hkl hvl hn hp).mono fun e w' ⟨v', h1, h2, h3⟩ => ⟨v', h1, by simpa [toksL, tokL, restL] using h2, h3⟩

theorem textV (v : Value) (d : DOp) (w : World) (h : VOp w v d) (hB : opB d = true) :
    Calls Tryd.prog 15 #[v] w fun e w' => ∃ v', e = .returned v' ∧ OwM w' w.heap.size v' (opTL d) ∧ Below w.heap.size w w' := by
  obtain ⟨k, n, hk, ek, en, hn, hkl, hvl, hk1, hk0⟩ := op_cases hB
  rw [opTL_yes hB ek]
  obtain ⟨ka, kc, va, vc, rfl, rk, rv⟩ := vop_shape h
  obtain ⟨kind, ky, vl, m⟩ := d
  dsimp only at ek en hkl hvl rk rv hk1 hk0 ⊢
  subst ek
  subst en
  rcases lt8 hk with rfl | rfl | rfl | rfl | rfl | rfl | rfl | rfl
  · exact (sT_0 ka va kc vc ky vl n w rk rv (hk0 (by omega)) hkl hvl hn).mono fun e w' ⟨v', h1, h2, h3⟩ => ⟨v', h1, by simpa [restL] using h2, h3⟩
  · exact (sT_1 ka va kc vc ky vl n w rk rv (hk1 (by omega)) hkl hvl hn).mono fun e w' ⟨v', h1, h2, h3⟩ => ⟨v', h1, by simpa [restL] using h2, h3⟩
  · exact (sT_2 ka va kc vc ky vl n w rk rv (hk1 (by omega)) hkl hvl hn).mono fun e w' ⟨v', h1, h2, h3⟩ => ⟨v', h1, by simpa [restL] using h2, h3⟩
  · exact (sT_3 ka va kc vc ky vl n w rk rv (hk1 (by omega)) hkl hvl hn).mono fun e w' ⟨v', h1, h2, h3⟩ => ⟨v', h1, by simpa [restL] using h2, h3⟩
  · exact (sT_4 ka va kc vc ky vl n w rk rv (hk0 (by omega)) hkl hvl hn).mono fun e w' ⟨v', h1, h2, h3⟩ => ⟨v', h1, by simpa [restL] using h2, h3⟩
  · exact (sT_5 ka va kc vc ky vl n w rk rv (hk0 (by omega)) hkl hvl hn).mono fun e w' ⟨v', h1, h2, h3⟩ => ⟨v', h1, by simpa [restL] using h2, h3⟩
  · exact (sT_6 ka va kc vc ky vl n w rk rv (hk1 (by omega)) hkl hvl hn).mono fun e w' ⟨v', h1, h2, h3⟩ => ⟨v', h1, by simpa [restL] using h2, h3⟩
  · exact (sT_7 ka va kc vc ky vl n w rk rv (hk1 (by omega)) hkl hvl hn).mono fun e w' ⟨v', h1, h2, h3⟩ => ⟨v', h1, by simpa [restL] using h2, h3⟩

set_option maxHeartbeats 2000000 in
theorem sOpTextV (v : Value) (d : DOp) (w : World) (h : VOp w v d) :
    Calls Tryd.prog 5 #[v] w fun e w' => ∃ v', e = .returned (.tuple #[v', .bool (opB d)]) ∧ OwM w' w.heap.size v' (opTL d) ∧ Below w.heap.size w w' := by
  have h0 := h
  obtain ⟨ka, kc, va, vc, rfl, _, _⟩ := vop_shape h
  have hA : Below w.heap.size w (w.alloc (.cells #[.int .i64 d.kind, .slice ka d.key.length kc, .slice va d.val.length vc, .int .i64 d.n] 28)) := (Below.refl _ w).alloc (Nat.le_refl _) _
  obtain ⟨V, hV⟩ : ∃ V, V = w.alloc (.cells #[.int .i64 d.kind, .slice ka d.key.length kc, .slice va d.val.length vc, .int .i64 d.n] 28) := ⟨_, rfl⟩
  have q : V.heap[w.heap.size]? = some (.cells #[.int .i64 d.kind, .slice ka d.key.length kc, .slice va d.val.length vc, .int .i64 d.n] 28 (0, 0)) := by rw [hV]; exact heap_alloc_new w _
  rw [← hV] at hA
  have HO := opOkV _ d V (h0.ext (ext_below hA))
  have HH : Hid (VOp w (.agg #[.int .i64 d.kind, .slice ka d.key.length kc, .slice va d.val.length vc, .int .i64 d.n]) d) := h0
  have HQ : Hid (V.heap[w.heap.size]? = some (.cells #[.int .i64 d.kind, .slice ka d.key.length kc, .slice va d.val.length vc, .int .i64 d.n] 28 (0, 0))) := q
  obtain ⟨q0, _⟩ := at_block q 0 _ rfl
  obtain ⟨q1, _⟩ := at_block q 1 _ rfl
  obtain ⟨q2, _⟩ := at_block q 2 _ rfl
  obtain ⟨q3, _⟩ := at_block q 3 _ rfl
  have HV := Lib.hid hV
  clear hV q h0
  cases hB : opB d
  · rw [hB] at HO
    have HOK := Lib.hid HO
    clear HO
    rw [opTL_no hB]
    clear hB
    go_enter Tryd.func5, Tryd.ntmps5
    go_upto_region 1 with fail
    rw [← HV.out]
    clear HV
    go_wp2_with fail
    refine HOK.out.mono ?_
    rintro e w1 ⟨rfl, b1⟩
    go_wp2
    exact bodyPost_ret (v := .tuple #[.slice none 0 0, .bool false]) (by simp [results, Tryd.results5, go_sem]) rfl ⟨_, rfl, .inl ⟨rfl, rfl⟩, hA.trans (b1.mono hA.size)⟩
  · rw [hB] at HO
    have HOK := Lib.hid HO
    clear HO
    have HB : Hid (opB d = true) := hB
    clear hB
    go_enter Tryd.func5, Tryd.ntmps5
    go_upto_region 1 with fail
    rw [← HV.out]
    clear HV
    go_wp2_with fail
    refine HOK.out.mono ?_
    rintro e w1 ⟨rfl, b1⟩
    have B1 := hA.trans (b1.mono hA.size)
    have Q1 := below_blk b1 (Array.getElem?_eq_some_iff.1 HQ.out).1 HQ.out
    clear q0 q1 q2 q3
    obtain ⟨q0, _⟩ := at_block Q1 0 _ rfl
    obtain ⟨q1, _⟩ := at_block Q1 1 _ rfl
    obtain ⟨q2, _⟩ := at_block Q1 2 _ rfl
    obtain ⟨q3, _⟩ := at_block Q1 3 _ rfl
    clear Q1
    go_wp2_with fail
    refine (textV _ d w1 (HH.out.ext (ext_below B1)) HB.out).mono ?_
    rintro e w2 ⟨v2, rfl, o2, b2⟩
    go_wp2
    exact bodyPost_ret (v := .tuple #[v2, .bool true]) (by simp [results, Tryd.results5, go_sem]) rfl ⟨v2, rfl, o2.base B1.size, B1.trans (b2.mono B1.size)⟩

theorem own_swap {a b : Option Nat} (h : a = none ∨ a ≠ b) : b = none ∨ b ≠ a := by
  cases b with
  | none => exact .inl rfl
  | some j =>
    right
    intro e
    rcases h with h | h
    · rw [h] at e; cases e
    · exact h e.symm

set_option maxHeartbeats 2000000 in
/-- Marks of an operation. -/
theorem markOpV (base : Nat) (v : Value) (d : DOp) (k : Int) (w : World) (h : OOp w base v d) (hr : rngOp d) (hkl : d.key.length ≤ 1048576) (hvl : d.val.length ≤ 1048576) (hk0 : 0 ≤ k) (hk : k ≤ 1000000000) :
    Calls Tryd.prog 10 #[v, .int .i64 k] w fun e w' => e = .returned (.int .i64 (k + d.key.length + d.val.length)) ∧ ∃ kv vv w1 w2, v = .agg #[.int .i64 d.kind, kv, vv, .int .i64 d.n] ∧ Ow w base kv d.key ∧ Ow w base vv d.val ∧ Ext w w1 ∧ w1.grownBy w2 kv.ownBlock ∧ w2.grownBy w' vv.ownBlock := by
  obtain ⟨kv, vv, rfl, ok, ov, hne⟩ := h
  have hE : ∀ W : World, ∀ o, Ext W (W.alloc o) := fun W o => World.grownBy_alloc _ _ _
  have ok' := ok
  have ov' := ov
  obtain ⟨ka, kc, rfl, _⟩ := ok.rv hr.1
  obtain ⟨va, vc, rfl, _⟩ := ov.rv hr.2
  obtain ⟨V, hV⟩ : ∃ V, V = w.alloc (.cells #[.int .i64 d.kind, .slice ka d.key.length kc, .slice va d.val.length vc, .int .i64 d.n] 28) := ⟨_, rfl⟩
  have q : V.heap[w.heap.size]? = some (.cells #[.int .i64 d.kind, .slice ka d.key.length kc, .slice va d.val.length vc, .int .i64 d.n] 28 (0, 0)) := by rw [hV]; exact heap_alloc_new w _
  have X : Ext w V := by rw [hV]; exact hE w _
  have oV := ok.ext X
  have oW := ov.ext X
  have HQ : Hid (∀ W, V.grownBy W (Value.slice ka d.key.length kc).ownBlock → W.heap[w.heap.size]? = some (.cells #[.int .i64 d.kind, .slice ka d.key.length kc, .slice va d.val.length vc, .int .i64 d.n] 28 (0, 0))) := fun W g => by
    rw [g.block _ (Array.getElem?_eq_some_iff.1 q).1 ?_]
    · exact q
    · intro e
      have := (ok.lt _ e.symm).2
      omega
  obtain ⟨q1, _⟩ := at_block q 1 _ rfl
  have HV := Lib.hid hV
  clear hV q
  go_enter Tryd.func10, Tryd.ntmps10
  go_upto_region 1 with fail
  rw [← HV.out]
  clear HV
  go_wp2_with fail
  refine (markV base (.slice ka d.key.length kc) d.key k V oV (by omega) hk0 (by omega)).mono ?_
  rintro e w2 ⟨rfl, o2, g2⟩
  have Q2 := HQ.out w2 g2
  obtain ⟨p2, _⟩ := at_block Q2 2 _ rfl
  have oV2 : Ow w2 base (.slice va d.val.length vc) d.val := oW.kept g2 (own_swap hne)
  clear Q2 q1
  go_wp2_with fail
  refine (markV base (.slice va d.val.length vc) d.val (k + d.key.length) w2 oV2 (by omega) (by omega) (by omega)).mono ?_
  rintro e w3 ⟨rfl, o3, g3⟩
  go_wp2
  go_ret
  exact ⟨rfl, _, _, V, w2, rfl, ok', ov', X, g2, g3⟩

end Go.Proofs.YtfhebefepgnmnaaDoor
