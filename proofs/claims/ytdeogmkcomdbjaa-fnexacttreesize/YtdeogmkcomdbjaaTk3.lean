/- The specification's size of a tree, and TreeSize. -/
import Derived.Test.YtdeogmkcomdbjaaTk0
import Derived.Test.YtdeogmkcomdbjaaTe8
namespace Go.Proofs.Ytdeogmkcomdbjaa
open Go.RowKit

abbrev CntSays {d : Nat} (t : DTree d) : Prop := ∀ (v : Value) (w : World), VTree w t v → szT t ≤ 1048576 → Calls Try.prog 29 #[v] w fun e w' => e = .returned (.int .i64 (cntK t)) ∧ Below w.heap.size w w'

set_option maxHeartbeats 1000000 in
theorem l6size_step {d : Nat} (ed : List Int) (h : Bool) (x : Int) (n : Nat) (kid : Nat → DTree d) (ih : ∀ i, CntSays (kid i)) : CntSays (DTree.node ed h x n kid) := by
  intro v w ht hsz
  have hE : ∀ w : World, ∀ o, Ext w (w.alloc o) := fun w o => World.grownBy_alloc _ _ _
  obtain ⟨ev, kv, rfl, re, rk⟩ := VTree.open_ ht
  obtain ⟨ea, ec, rfl, _, _, _⟩ := re
  obtain ⟨C, ⟨a, cap, rfl, h1, h2, h3⟩, hC⟩ := rk
  have HC : Hid (∀ i, i < n → VTree w (kid i) (.agg #[C i 0, C i 1, C i 2, C i 3])) := hC
  have HI : Hid (∀ i, CntSays (kid i)) := ih
  have H3 : Hid (0 < n → ∃ b o, a = some ⟨b, o, none⟩ ∧ b < w.heap.size ∧ ∀ i, i < n → ∀ j, j < 4 → w.cell? ⟨b, o + i * 4 + j, none⟩ = some (C i j)) := h3
  have hsz' : ed.length + (n + sumN n (fun i => szT (kid i))) ≤ 1048576 := hsz
  obtain ⟨f, hff⟩ : ∃ f, f = fun i => cntK (kid i) := ⟨_, rfl⟩
  have hcq : sumN n f ≤ n + sumN n (fun i => szT (kid i)) := by rw [hff]; exact sumN_add (fun i => cntK_le d (kid i)) n
  obtain ⟨hd, hhd⟩ : ∃ hd : Nat, hd = if h then 1 else 0 := ⟨_, rfl⟩
  have HQ : Hid (cntK (DTree.node ed h x n kid) = hd + sumN n f) := by show cntKD _ _ = _; rw [hhd, hff]; rfl
  have hd1 : hd ≤ 1 := by rw [hhd]; split <;> omega
  have HF : Hid (∀ i, f i = cntK (kid i)) := fun i => by rw [hff]
  have HSZ : Hid (∀ i, i < n → szT (kid i) ≤ 1048576) := fun i hi => by have := sumN_mem (fun i => szT (kid i)) hi; (try simp only at this); omega
  have HSQ : Hid (∀ k, k ≤ n → sumN k f ≤ 1048576) := fun k hk => by have := sumN_le f hk; omega
  have hn1 : (n : Int) ≤ 1048576 := by omega
  have HHD : Hid (hd = if h then 1 else 0) := hhd
  generalize cntK (DTree.node ed h x n kid) = Q at HQ ⊢
  clear ht hsz hsz' hcq hff hC ih h3 hhd
  generalize ed.length = em
  unfold maxLen at h2
  go_enter Try.func29, Try.ntmps29
  have main : ∀ W : World, W = w.alloc (.cells #[.slice ea em ec, .bool h, .int .i64 x, .slice a n cap] 30 (0, 0)) → W.heap[w.heap.size]? = some (.cells #[.slice ea em ec, .bool h, .int .i64 x, .slice a n cap] 30 (0, 0)) ∧ Below w.heap.size w W := fun W hW => ⟨by rw [hW]; exact heap_alloc_new w _, by rw [hW]; exact (Below.refl _ w).alloc (Nat.le_refl _) _⟩
  cases h
  case false =>
    have hd0 : hd = 0 := by rw [HHD.out]; rfl
    subst hd0
    go_upto_region 2 with fail
    generalize hW : w.alloc _ = W
    obtain ⟨P0, B0⟩ := main W hW.symm
    have HP0 : Hid (W.heap[w.heap.size]? = some (.cells #[.slice ea em ec, .bool false, .int .i64 x, .slice a n cap] 30 (0, 0))) := P0
    have HB0 : Hid (Below w.heap.size w W) := B0
    obtain ⟨p1, _⟩ := at_block P0 1 _ rfl
    clear hW P0 B0 main
    go_wp2
    go_loopw [3, 4] (fun cv iv wr => ∃ k : Nat, k ≤ n ∧ iv = .int .i64 k ∧ ∃ c : Nat, Hid (c = 0 + sumN k f) ∧ c ≤ 1048577 ∧ cv = .int .i64 c ∧ Hid (Below W.heap.size W wr)) (fun _ iv _ => n - (intOf iv).toNat)
    case atStart => exact ⟨0, Nat.zero_le _, rfl, 0, by show _ = _; simp [sumN], by omega, rfl, Below.refl _ _⟩
    case round =>
      obtain ⟨k, hk, rfl, c, hc, hc1, rfl, hb⟩ := hrel
      obtain ⟨p3, _⟩ := at_block (ext_blk (ext_below hb.out) HP0.out) 3 _ rfl
      by_cases hlt : k < n
      · obtain ⟨b, o, rfl, hbl, hcl⟩ := H3.out (by omega)
        have XR : Ext w wr := (ext_below HB0.out).tr (ext_below hb.out)
        have hT := VTree.ext XR _ _ (HC.out k hlt)
        obtain ⟨e1, e2, e3, hv, xv, k1, k2, k3, hag⟩ := hT.agg
        simp only [Value.agg.injEq, Array.mk.injEq, List.cons.injEq, and_true] at hag
        obtain ⟨g0, g1, g2, g3⟩ := hag
        rw [g0, g1, g2, g3] at hT
        have q0 := World.grownBy.cell XR (hcl k hlt 0 (by omega)) (by simp)
        have q1 := World.grownBy.cell XR (hcl k hlt 1 (by omega)) (by simp)
        have q2 := World.grownBy.cell XR (hcl k hlt 2 (by omega)) (by simp)
        have q3 := World.grownBy.cell XR (hcl k hlt 3 (by omega)) (by simp)
        rw [Nat.add_zero] at q0
        rw [g0] at q0
        rw [g1] at q1
        rw [g2] at q2
        rw [g3] at q3
        have hlt' : (k : Int) < (n : Int) := by omega
        clear hcl g0 g1 g2 g3
        go_wp2_with fail
        refine (HI.out k _ wr hT (HSZ.out k hlt)).mono ?_
        rintro e w2 ⟨rfl, b2⟩
        have hb2 : Hid (Below W.heap.size W w2) := hb.out.trans (b2.mono hb.out.size)
        have hfk := HF.out k
        have HNX : Hid (c + cntK (kid k) = 0 + sumN (k + 1) f) := by show _ = _; simp only [sumN]; rw [hfk]; have := hc.out; omega
        have hbd : c + cntK (kid k) ≤ 1048577 := by have := HNX.out; have := HSQ.out (k + 1) (by omega); omega
        generalize cntK (kid k) = ck at HNX hbd ⊢
        have hbd2 : (c : Int) + (ck : Int) ≤ 1048577 := by omega
        clear b2 hT q0 q1 q2 q3 hfk p3
        go_wp2
        go_roundw
        case rel => exact ⟨k + 1, by omega, by go_num, c + ck, HNX, hbd, by go_num, hb2⟩
        case measure => simp [intOf]; omega
      · have hkn : k = n := by omega
        subst hkn
        have HE : Hid (Q = c) := by show _ = _; rw [HQ.out, hc.out]
        go_wp2
        go_ret
        exact ⟨by rw [HE.out]; rfl, HB0.out.trans (hb.out.mono HB0.out.size)⟩
  case true =>
    have hd0 : hd = 1 := by rw [HHD.out]; rfl
    subst hd0
    go_upto_region 2 with fail
    generalize hW : w.alloc _ = W
    obtain ⟨P0, B0⟩ := main W hW.symm
    have HP0 : Hid (W.heap[w.heap.size]? = some (.cells #[.slice ea em ec, .bool true, .int .i64 x, .slice a n cap] 30 (0, 0))) := P0
    have HB0 : Hid (Below w.heap.size w W) := B0
    obtain ⟨p1, _⟩ := at_block P0 1 _ rfl
    clear hW P0 B0 main
    go_wp2
    go_loopw [3, 4] (fun cv iv wr => ∃ k : Nat, k ≤ n ∧ iv = .int .i64 k ∧ ∃ c : Nat, Hid (c = 1 + sumN k f) ∧ c ≤ 1048577 ∧ cv = .int .i64 c ∧ Hid (Below W.heap.size W wr)) (fun _ iv _ => n - (intOf iv).toNat)
    case atStart => exact ⟨0, Nat.zero_le _, rfl, 1, by show _ = _; simp [sumN], by omega, rfl, Below.refl _ _⟩
    case round =>
      obtain ⟨k, hk, rfl, c, hc, hc1, rfl, hb⟩ := hrel
      obtain ⟨p3, _⟩ := at_block (ext_blk (ext_below hb.out) HP0.out) 3 _ rfl
      by_cases hlt : k < n
      · obtain ⟨b, o, rfl, hbl, hcl⟩ := H3.out (by omega)
        have XR : Ext w wr := (ext_below HB0.out).tr (ext_below hb.out)
        have hT := VTree.ext XR _ _ (HC.out k hlt)
        obtain ⟨e1, e2, e3, hv, xv, k1, k2, k3, hag⟩ := hT.agg
        simp only [Value.agg.injEq, Array.mk.injEq, List.cons.injEq, and_true] at hag
        obtain ⟨g0, g1, g2, g3⟩ := hag
        rw [g0, g1, g2, g3] at hT
        have q0 := World.grownBy.cell XR (hcl k hlt 0 (by omega)) (by simp)
        have q1 := World.grownBy.cell XR (hcl k hlt 1 (by omega)) (by simp)
        have q2 := World.grownBy.cell XR (hcl k hlt 2 (by omega)) (by simp)
        have q3 := World.grownBy.cell XR (hcl k hlt 3 (by omega)) (by simp)
        rw [Nat.add_zero] at q0
        rw [g0] at q0
        rw [g1] at q1
        rw [g2] at q2
        rw [g3] at q3
        have hlt' : (k : Int) < (n : Int) := by omega
        clear hcl g0 g1 g2 g3
        go_wp2_with fail
        refine (HI.out k _ wr hT (HSZ.out k hlt)).mono ?_
        rintro e w2 ⟨rfl, b2⟩
        have hb2 : Hid (Below W.heap.size W w2) := hb.out.trans (b2.mono hb.out.size)
        have hfk := HF.out k
        have HNX : Hid (c + cntK (kid k) = 1 + sumN (k + 1) f) := by show _ = _; simp only [sumN]; rw [hfk]; have := hc.out; omega
        have hbd : c + cntK (kid k) ≤ 1048577 := by have := HNX.out; have := HSQ.out (k + 1) (by omega); omega
        generalize cntK (kid k) = ck at HNX hbd ⊢
        have hbd2 : (c : Int) + (ck : Int) ≤ 1048577 := by omega
        clear b2 hT q0 q1 q2 q3 hfk p3
        go_wp2
        go_roundw
        case rel => exact ⟨k + 1, by omega, by go_num, c + ck, HNX, hbd, by go_num, hb2⟩
        case measure => simp [intOf]; omega
      · have hkn : k = n := by omega
        subst hkn
        have HE : Hid (Q = c) := by show _ = _; rw [HQ.out, hc.out]
        go_wp2
        go_ret
        exact ⟨by rw [HE.out]; rfl, HB0.out.trans (hb.out.mono HB0.out.size)⟩

theorem l6size_any : ∀ (d : Nat) (t : DTree d), CntSays t
  | 0, _ => fun _ _ ht => False.elim ht
  | d + 1, (e, h, x, n, kid) => l6size_step e h x n kid (fun i => l6size_any d (kid i))

set_option maxHeartbeats 1000000 in
theorem sTreeSizeV_of (HL : ∀ (d : Nat) (t : DTree d), L6Says t) {d : Nat} (t : DTree d) (v : Value) (w : World) (ht : VTree w t v) (hsz : szT t ≤ 1048576) :
    Calls Try.prog 8 #[v] w fun e w' => e = .returned (.int .i64 (if tB (okT t) then (cntK t : Int) else 0)) ∧ Below w.heap.size w w' := by
  have hE : ∀ w : World, ∀ o, Ext w (w.alloc o) := fun w o => World.grownBy_alloc _ _ _
  have HLL : Hid (∀ (d : Nat) (t : DTree d), L6Says t) := HL
  clear HL
  obtain ⟨ob, hob⟩ : ∃ ob, ob = tB (okT t) := ⟨_, rfl⟩
  obtain ⟨R, hR⟩ : ∃ R : Int, R = if ob then (cntK t : Int) else 0 := ⟨_, rfl⟩
  rw [← hob, ← hR]
  have HOB : Hid (ob = tB (okT t)) := hob
  have HRR : Hid (R = if ob then (cntK t : Int) else 0) := hR
  clear hob hR
  have HT : Hid (VTree w t v) := ht
  have HZ : Hid (szT t ≤ 1048576) := hsz
  obtain ⟨e1, e2, e3, hv, xv, k1, k2, k3, rfl⟩ := VTree.agg ht
  clear ht hsz
  go_enter Try.func8, Try.ntmps8
  go_wp2_with fail
  generalize hW : w.alloc _ = W
  have P0 : W.heap[w.heap.size]? = some (.cells #[.slice e1 e2 e3, .bool hv, .int .i64 xv, .slice k1 k2 k3] 30 (0, 0)) := by rw [← hW]; exact heap_alloc_new w _
  have XW : Ext w W := by rw [← hW]; exact hE _ _
  clear hW
  refine (sTreeOkV_of HLL.out t _ W (VTree.ext XW _ _ HT.out) HZ.out).mono ?_
  rintro e9 w1 ⟨rfl, b1⟩
  have P1 := ext_blk (ext_below b1) P0
  have X1 : Ext w w1 := XW.tr (ext_below b1)
  obtain ⟨q0, _⟩ := at_block P1 0 _ rfl
  obtain ⟨q1, _⟩ := at_block P1 1 _ rfl
  obtain ⟨q2, _⟩ := at_block P1 2 _ rfl
  obtain ⟨q3, _⟩ := at_block P1 3 _ rfl
  clear P0 P1 XW b1
  rw [← HOB.out]
  cases ob
  · have HK : Hid (R = 0) := HRR.out
    go_wp2
    go_ret
    exact ⟨by rw [HK.out]; rfl, ext_bel X1⟩
  · have HK : Hid (R = (cntK t : Int)) := HRR.out
    go_wp2_with fail
    refine (l6size_any d t _ w1 (VTree.ext X1 _ _ HT.out) HZ.out).mono ?_
    rintro e9 w2 ⟨rfl, b2⟩
    have B2 := (ext_bel X1).trans (b2.mono X1.size)
    go_wp2
    go_ret
    exact ⟨by rw [HK.out]; rfl, B2⟩

end Go.Proofs.Ytdeogmkcomdbjaa
