/- The exact statement of TreeGet: the walk of the law itself, out of the specification's contract. -/
import Derived.Test.YtpnfcifkmmcllaaTeG3
import Derived.Test.YtpnfcifkmmcllaaLTreeOk
namespace Go.Proofs.Ytpnfcifkmmcllaa
open Go.RowKit

set_option maxHeartbeats 4000000 in
theorem law_TreeGet_of (hI : ∀ (d : Nat) (t : DTree d), L6Says t) (v u : Value) {d : Nat} (t : DTree d) (key : List Int) (w : World) (h : VTree w t v) (hu : RV w u key) :
    Calls Try.prog 4 #[v, u] w fun e w' => e = .returned (.bool true) ∧ Below w.heap.size w w' := by
  have hE : ∀ w : World, ∀ o, Ext w (w.alloc o) := fun w o => World.grownBy_alloc _ _ _
  have hB : ∀ w : World, ∀ o, Below w.heap.size w (w.alloc o) := fun w o => (Below.refl _ w).alloc (Nat.le_refl _) _
  have h0 : Hid (VTree w t v) := h
  have u0 : Hid (RV w u key) := hu
  have HRK : Hid (∀ x ∈ key, 0 ≤ x ∧ x ≤ 255) := rv_rng hu
  have HI : Hid (∀ (d : Nat) (t : DTree d), L6Says t) := hI
  have HR : Hid (rngT t) := h.rng
  clear hI
  obtain ⟨A, hA⟩ : ∃ A, A = getB t key := ⟨_, rfl⟩
  have HA : Hid (A = getB t key) := hA
  clear hA
  obtain ⟨q1, q2, q3, hv, xv, q4, q5, q6, rfl⟩ := VTree.agg h
  obtain ⟨ev, hev⟩ : ∃ ev, ev = Value.slice q1 q2 q3 := ⟨_, rfl⟩
  obtain ⟨kv, hkv⟩ : ∃ kv, kv = Value.slice q4 q5 q6 := ⟨_, rfl⟩
  rw [← hev, ← hkv] at h0 ⊢
  clear hev hkv
  clear h
  obtain ⟨ua, uc, rfl, _, hu1, hu2⟩ := hu
  obtain ⟨kl, hkl⟩ : ∃ kl, kl = key.length := ⟨_, rfl⟩
  have HKL : Hid (kl = key.length) := hkl
  rw [← hkl] at u0 hu1 ⊢
  unfold maxLen at hu2
  clear hkl
  by_cases hbig : (1048576 : Int) < (kl : Int)
  · go_enter Try.func4, Try.ntmps4
    go_wp2_with fail
    go_ret
    exact ⟨rfl, hB _ _⟩
  have HKS : Hid (key.length ≤ 1048576) := by show _ ≤ _; have := HKL.out; omega
  go_enter Try.func4, Try.ntmps4
  go_wp2_with fail
  refine (szTree_any t _ 1048576 _ (VTree.ext (hE _ _) _ _ h0.out) (by omega) (by omega)).mono ?_
  rintro e w1 ⟨r, rfl, hrr, b1⟩
  have B1 := (hB w _).trans (b1.mono (by simp))
  have P1 := below_blk b1 (by simp) (heap_alloc_new w _)
  rcases hrr with ⟨h1, rfl⟩ | ⟨h1, h2⟩
  · go_wp2_with fail
    go_ret
    exact ⟨rfl, B1⟩
  · have HL : Hid (szT t ≤ 1048576) := by show _ ≤ _; omega
    have hr0 : 0 ≤ r := by omega
    clear h1 h2 b1
    obtain ⟨p0, _⟩ := at_block P1 0 _ rfl
    obtain ⟨p1, _⟩ := at_block P1 1 _ rfl
    obtain ⟨p2, _⟩ := at_block P1 2 _ rfl
    obtain ⟨p3, _⟩ := at_block P1 3 _ rfl
    have hs1 : w.heap.size < w1.heap.size := (Array.getElem?_eq_some_iff.1 P1).1
    go_wp2_with fail
    refine (toTree_any t _ w1 (VTree.ext (ext_below B1) _ _ h0.out) HL.out).mono ?_
    rintro e w2 ⟨v2, rfl, o2, b2⟩
    have B2 := B1.trans (b2.mono B1.size)
    have s1 := b2.size
    go_wp2_with fail
    refine (toV _ key w2 (u0.out.ext (ext_below B2)) HKS.out).mono ?_
    rintro e wa ⟨va, rfl, oa, ba⟩
    have Ba := B2.trans (ba.mono B2.size)
    have sa := ba.size
    go_wp2_with fail
    refine (sTreeGetV_of HI.out t _ _ key wa (VTree.ext (ext_below ba) _ _ (o2.v HR.out)) (oa.rv HRK.out) HL.out HKS.out).mono ?_
    rw [← HA.out]
    rintro e w3 ⟨rfl, b3⟩
    have B3 := Ba.trans (b3.mono Ba.size)
    have hs3 : w.heap.size < w3.heap.size := by
      have := b3.size
      omega
    have P3 := below_blk b3 (by omega) (below_blk ba (by omega) (below_blk b2 (Array.getElem?_eq_some_iff.1 P1).1 P1))
    obtain ⟨q0, _⟩ := at_block P3 0 _ rfl
    obtain ⟨q1, _⟩ := at_block P3 1 _ rfl
    obtain ⟨q2, _⟩ := at_block P3 2 _ rfl
    obtain ⟨q3, _⟩ := at_block P3 3 _ rfl
    clear p0 p1 p2 p3 o2 oa
    go_wp2_with fail
    refine (toTree_any t _ w3 (VTree.ext (ext_below B3) _ _ h0.out) HL.out).mono ?_
    rintro e w4 ⟨v4, rfl, o4, b4⟩
    have B4 := B3.trans (b4.mono B3.size)
    have V4 : Hid (VTree w4 t v4) := o4.v HR.out
    obtain ⟨a4, m4, c4, h4, x4, g4, n4, rfl⟩ := o4.cells HR.out
    clear o4
    have P4 := below_blk b4 hs3 P3
    have hs4 := b4.size
    clear q0 q1 q2 q3 b4 b3 b2 ba
    go_wp2_with fail
    refine (toV _ key _ ((u0.out.ext (ext_below B4)).ext (hE _ _)) HKS.out).mono ?_
    rintro e wb ⟨vb, rfl, ob, bb⟩
    have RB : Hid (RV wb vb key) := ob.rv HRK.out
    obtain ⟨ba5, bc5, rfl, _, _, _⟩ := ob.rv HRK.out
    clear ob
    rw [← HKL.out] at RB ⊢
    have Tb := below_blk bb (by simp) (heap_alloc_new w4 _)
    have Pb := below_blk bb (by simp; omega) ((Below.heap_alloc w4 _ w.heap.size (by omega)).trans P4)
    have Bb := (B4.alloc B4.size _).trans (bb.mono (by have := B4.size; simp; omega))
    have Vb : Hid (VTree wb t (.agg #[.slice a4 m4 c4, .bool h4, .int .i64 x4, .slice (some ⟨g4, 0, none⟩) n4 n4])) := VTree.ext (ext_below bb) _ _ (VTree.ext (hE w4 _) _ _ V4.out)
    have hsb : w4.heap.size < wb.heap.size := (Array.getElem?_eq_some_iff.1 Tb).1
    obtain ⟨t0, _⟩ := at_block Tb 0 _ rfl
    obtain ⟨t1, _⟩ := at_block Tb 1 _ rfl
    obtain ⟨t2, _⟩ := at_block Tb 2 _ rfl
    obtain ⟨t3, _⟩ := at_block Tb 3 _ rfl
    clear bb
    go_wp2_with fail
    refine (iTreeGetV t _ _ key wb Vb.out RB.out HL.out HKS.out).mono ?_
    rw [← HA.out]
    rintro e w5 ⟨rfl, b5⟩
    have P5 := below_blk b5 (by omega) Pb
    have T5 := below_blk b5 hsb Tb
    have V5 : Hid (VTree w5 t (.agg #[.slice a4 m4 c4, .bool h4, .int .i64 x4, .slice (some ⟨g4, 0, none⟩) n4 n4])) := VTree.ext (ext_below b5) _ _ Vb.out
    have R5 : Hid (RV w5 (.slice ba5 kl bc5) key) := RB.out.ext (ext_below b5)
    have B5 := Bb.trans (b5.mono Bb.size)
    have hs5 : w4.heap.size < w5.heap.size := (Array.getElem?_eq_some_iff.1 T5).1
    clear t0 t1 t2 t3
    obtain ⟨q0, _⟩ := at_block P5 0 _ rfl
    obtain ⟨q1, _⟩ := at_block P5 1 _ rfl
    obtain ⟨q2, _⟩ := at_block P5 2 _ rfl
    obtain ⟨q3, _⟩ := at_block P5 3 _ rfl
    obtain ⟨t0, _⟩ := at_block T5 0 _ rfl
    obtain ⟨t1, _⟩ := at_block T5 1 _ rfl
    obtain ⟨t2, _⟩ := at_block T5 2 _ rfl
    obtain ⟨t3, _⟩ := at_block T5 3 _ rfl
    clear b5
    have S5 : (w5.cell? ⟨w4.heap.size, 0, none⟩ = some (.slice a4 m4 c4) ∧ w5.cell? ⟨w4.heap.size, 1, none⟩ = some (.bool h4) ∧ w5.cell? ⟨w4.heap.size, 2, none⟩ = some (.int .i64 x4) ∧ w5.cell? ⟨w4.heap.size, 3, none⟩ = some (.slice (some ⟨g4, 0, none⟩) n4 n4)) ∧ (w5.cell? ⟨w.heap.size, 0, none⟩ = some ev ∧ w5.cell? ⟨w.heap.size, 1, none⟩ = some (.bool hv) ∧ w5.cell? ⟨w.heap.size, 2, none⟩ = some (.int .i64 xv) ∧ w5.cell? ⟨w.heap.size, 3, none⟩ = some kv) := ⟨⟨t0, t1, t2, t3⟩, ⟨q0, q1, q2, q3⟩⟩
    have HS5 : Hid _ := S5
    have X5 : Ext w5 w5.drew := ext_drewN w5 1
    clear S5
    go_wp2_with fail
    go_region_held3 (fun w' => w'.cell? ⟨w4.heap.size, 0, none⟩ = some (.slice a4 m4 c4) ∧ w'.cell? ⟨w4.heap.size, 1, none⟩ = some (.bool h4) ∧ w'.cell? ⟨w4.heap.size, 2, none⟩ = some (.int .i64 x4) ∧ w'.cell? ⟨w4.heap.size, 3, none⟩ = some (.slice (some ⟨g4, 0, none⟩) n4 n4) ∧ w'.cell? ⟨w.heap.size, 0, none⟩ = some ev ∧ w'.cell? ⟨w.heap.size, 1, none⟩ = some (.bool hv) ∧ w'.cell? ⟨w.heap.size, 2, none⟩ = some (.int .i64 xv) ∧ w'.cell? ⟨w.heap.size, 3, none⟩ = some kv) (simp [*])
      (first | (go_at_call 8; refine (toTree_any t _ _ ?_ HL.out).mono ?_; exact VTree.ext X5 _ _ (VTree.ext (ext_below B5) _ _ h0.out); rintro e w6 ⟨v6, rfl, o6, b6⟩; obtain ⟨⟨a0, a1, a2, a3⟩, ⟨c0, c1, c2, c3⟩⟩ := keptT8 (w := w5.drew) HS5.out b6) | (go_at_call 10; refine (eqTree_any t _ _ _ ?_ ?_ HL.out).mono ?_; exact VTree.ext (ext_below b6) _ _ (VTree.ext X5 _ _ V5.out); exact o6.v HR.out; rintro e w7 ⟨rfl, b7⟩; obtain ⟨⟨a0', a1', a2', a3'⟩, ⟨c0', c1', c2', c3'⟩⟩ := keptT8 ⟨⟨a0, a1, a2, a3⟩, ⟨c0, c1, c2, c3⟩⟩ b7))
    all_goals
      have B7 := ((below_drewN B5 1).trans (b6.mono B5.size)).trans (b7.mono (Nat.le_trans B5.size b6.size))
      have X7 : Hid (Ext w5 w7) := (X5.tr (ext_below b6)).tr (ext_below b7)
      clear a0 a1 a2 a3 c0 c1 c2 c3 a0' a1' a2' a3' c0' c1' c2' c3' q0 q1 q2 q3 t0 t1 t2 t3 o6 b6 b7
      go_wp2_with fail
      refine (toV _ key w7 (u0.out.ext (ext_below B7)) HKS.out).mono ?_
      rintro e w8 ⟨v8, rfl, o8, b8⟩
      have B8 := B7.trans (b8.mono B7.size)
      go_wp2_with fail
      refine (eqV_yes _ _ key w8 (R5.out.ext (X7.out.tr (ext_below b8))) (o8.rv HRK.out) (by have := HKS.out; omega)).mono ?_
      rintro e w9 ⟨rfl, q9, rfl⟩
      go_wp2_with fail
      go_ret
      exact ⟨rfl, below_drewN B8 _⟩

end Go.Proofs.Ytpnfcifkmmcllaa
