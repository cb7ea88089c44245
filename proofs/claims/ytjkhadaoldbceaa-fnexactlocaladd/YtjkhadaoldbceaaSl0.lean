
/- The specification's l14own: what the copy owns. -/
import Derived.Test.YtjkhadaoldbceaaCsC
import Derived.Test.YtjkhadaoldbceaaSvF
import Derived.Test.YtjkhadaoldbceaaCk4
import Derived.Test.YtjkhadaoldbceaaRgL
import Derived.Deep.CutRange
namespace Go.Proofs.Ytjkhadaoldbceaa
open Go.RowKit

theorem cells2S {w : World} {g : Nat} {v0 v1 : Value} {t : TypeId} (h : w.heap[g]? = some (.cells #[v0, v1] t (0, 0))) : (w.cell? ⟨g, 0, none⟩ = some v0 ∧ w.cell? ⟨g, 1, none⟩ = some v1) ∧ w.frozen? ⟨g, 0, none⟩ = false ∧ w.frozen? ⟨g, 1, none⟩ = false := ⟨⟨(at_block h 0 _ rfl).1, (at_block h 1 _ rfl).1⟩, (at_block h 0 _ rfl).2, (at_block h 1 _ rfl).2⟩
theorem fresh_app {W w1 : World} {v1 : Value} {xs : List Int} (o : Ow w1 W.heap.size v1 ([] ++ xs)) (g : (W.alloc (.cells #[] 5)).grownBy w1 (Value.slice (some ⟨W.heap.size, 0, none⟩) 0 0).ownBlock) (hr : ∀ x ∈ xs, 0 ≤ x ∧ x ≤ 255) : ∃ a1 c1, v1 = .slice a1 xs.length c1 ∧ Ow w1 W.heap.size (.slice a1 xs.length c1) xs ∧ Below W.heap.size W w1 := by
  rw [List.nil_append] at o
  obtain ⟨a1, c1, rfl⟩ := rv_shape (Ow.rv o hr)
  exact ⟨a1, c1, rfl, o, below_own ((Below.refl W.heap.size W).alloc (Nat.le_refl _) _) (by simp) (ow_empty W) g⟩
def elem6 (a0 a1 a2 a3 a4 a5 : Value) : Nat → Nat → Value := fun _ q => if q = 0 then a0 else if q = 1 then a1 else if q = 2 then a2 else if q = 3 then a3 else if q = 4 then a4 else a5
def elem2 (a0 a1 : Value) : Nat → Nat → Value := fun _ q => if q = 0 then a0 else a1
theorem elem6_src (w : World) (t : TypeId) (a0 a1 a2 a3 a4 a5 : Value) : Src 6 (w.alloc (.cells #[a0, a1, a2, a3, a4, a5] t)) (some ⟨w.heap.size, 0, none⟩) 1 (elem6 a0 a1 a2 a3 a4 a5) := fun _ => ⟨_, rfl, fun i hi q hq => by
  have hp := heap_alloc_new w (.cells #[a0, a1, a2, a3, a4, a5] t)
  obtain rfl : i = 0 := by omega
  rw [Addr.add_lit, Nat.zero_mul, Nat.zero_add, Nat.zero_add]
  obtain rfl | rfl | rfl | rfl | rfl | rfl : q = 0 ∨ q = 1 ∨ q = 2 ∨ q = 3 ∨ q = 4 ∨ q = 5 := by omega
  · exact (at_block hp 0 _ rfl).1
  · exact (at_block hp 1 _ rfl).1
  · exact (at_block hp 2 _ rfl).1
  · exact (at_block hp 3 _ rfl).1
  · exact (at_block hp 4 _ rfl).1
  · exact (at_block hp 5 _ rfl).1⟩
theorem elem2_src (w : World) (t : TypeId) (a0 a1 : Value) : Src 2 (w.alloc (.cells #[a0, a1] t)) (some ⟨w.heap.size, 0, none⟩) 1 (elem2 a0 a1) := fun _ => ⟨_, rfl, fun i hi q hq => by
  have hp := heap_alloc_new w (.cells #[a0, a1] t)
  obtain rfl : i = 0 := by omega
  rw [Addr.add_lit, Nat.zero_mul, Nat.zero_add, Nat.zero_add]
  obtain rfl | rfl : q = 0 ∨ q = 1 := by omega
  · exact (at_block hp 0 _ rfl).1
  · exact (at_block hp 1 _ rfl).1⟩
theorem elem6_one {a : Option Addr} {n c : Nat} {z1 z2 z3 z4 z5 : Int} : ∀ i, i < 1 → ∀ q, q < 6 → (elem6 (.slice a n c) (.int .i64 z1) (.int .i64 z2) (.int .i64 z3) (.int .i64 z4) (.int .i64 z5) i q).oneCell' = true := fun i _ q hq => by
  obtain rfl | rfl | rfl | rfl | rfl | rfl : q = 0 ∨ q = 1 ∨ q = 2 ∨ q = 3 ∨ q = 4 ∨ q = 5 := by omega
  all_goals rfl
theorem elem2_one {a b : Option Addr} {n c m d : Nat} : ∀ i, i < 1 → ∀ q, q < 2 → (elem2 (.slice a n c) (.slice b m d) i q).oneCell' = true := fun i _ q hq => by
  obtain rfl | rfl : q = 0 ∨ q = 1 := by omega
  all_goals rfl
theorem takeL {α : Type} {xs : List α} {k : Nat} {x : α} (h : xs[k]? = some x) : xs.take (k + 1) = xs.take k ++ [x] := by
  rw [List.take_add_one, h]
  rfl

set_option maxRecDepth 20000 in
set_option maxHeartbeats 8000000 in
theorem sOwnLV (v : Value) (d : DLoc) (w : World) (h : VLoc w v d) (hl : LenLo d) :
    Calls Try.prog 25 #[v] w fun e w' => ∃ nv sv mid, e = .returned (.agg #[nv, sv]) ∧ OwS (Rg w.heap.size mid) w' nv d.node ∧ OSD (Rg mid w'.heap.size) w' sv d.svcs ∧ (w.heap.size ≤ mid ∧ mid ≤ w'.heap.size) ∧ Below w.heap.size w w' := by
  have hE : ∀ w : World, ∀ o, Ext w (w.alloc o) := fun w o => World.grownBy_alloc _ _ _
  obtain ⟨nv, sv, rfl, hn, hs⟩ := h
  have hrn := rv_rngK hn
  have HL := hidL hl
  obtain ⟨na, nc, rfl⟩ := rv_shape hn
  obtain ⟨nn, hnn⟩ : ∃ nn, nn = d.node.length := ⟨_, rfl⟩
  have HNN := hidL hnn
  rw [← hnn] at hn ⊢
  have HV : Hid (RV w (.slice na nn nc) d.node) := hn
  obtain ⟨C, ⟨sa, sc, rfl, q1, q2, q3⟩, hC⟩ := hs
  obtain ⟨m, hm⟩ : ∃ m, m = d.svcs.length := ⟨_, rfl⟩
  have HM := hidL hm
  have HC : Hid (∀ i s, d.svcs[i]? = some s → RV w (C i 0) s.name ∧ VChks w (C i 1) s.checks) := hC
  rw [← hm] at q1 q3 ⊢
  have H3 : Hid (0 < m → ∃ b o, sa = some ⟨b, o, none⟩ ∧ b < w.heap.size ∧ ∀ i, i < m → ∀ j, j < 2 → w.cell? ⟨b, o + i * 2 + j, none⟩ = some (C i j)) := q3
  have hmm : (m : Int) ≤ 1048576 := by have := hl.2.1; omega
  have hn2 : nn ≤ 1048576 := by have := hl.1; omega
  have HRD : Hid (Rd w na nn d.node) := by
    obtain ⟨a', c', e1, r1, _, _⟩ := hn
    injection e1 with ea el ec
    subst ea ec
    rw [← el] at r1
    exact r1
  unfold maxLen at q2
  clear hnn hC hm q3 hl
  go_enter Try.func25, Try.ntmps25
  go_upto_region 1 with fail
  generalize hW : World.alloc (World.alloc w _) _ = W
  have PA : W.heap[w.heap.size]? = some (.cells #[.slice na nn nc, .slice sa m sc] 29 (0, 0)) := by rw [← hW]; exact al2a _ _ _
  have PR : W.heap[w.heap.size + 1]? = some (.cells #[.slice none 0 0, .slice none 0 0] 29 (0, 0)) := by rw [← hW]; exact al2b _ _ _
  have BW : Below w.heap.size w W := by rw [← hW]; exact ((Below.refl _ w).alloc (Nat.le_refl _) _).alloc (by simp) _
  have SW : Hid (W.heap.size = w.heap.size + 2) := by show _ = _; rw [← hW]; simp
  have hw0 : w.heap.size + 2 ≤ W.heap.size := by have := SW.out; omega
  clear hW
  have HRW : Hid (Rd (W.alloc (.cells #[] 5)) na nn d.node) := HRD.out.grown ((ext_below BW).tr (hE _ _))
  have HRG := hidL hrn
  obtain ⟨⟨x0, x1⟩, _, _⟩ := cells2S PA
  have kx := fun o => World.grownBy.cell (World.grownBy_alloc W o none) x0 (by simp)
  clear hrn
  have HFA : Hid (∀ v1 w1, Ow w1 W.heap.size v1 ([] ++ d.node) → (W.alloc (.cells #[] 5)).grownBy w1 (Value.slice (some ⟨W.heap.size, 0, none⟩) 0 0).ownBlock → ∃ a1 c1, v1 = .slice a1 nn c1 ∧ Ow w1 W.heap.size (.slice a1 nn c1) d.node ∧ Below W.heap.size W w1) := fun v1 w1 o1 g1 => by
    rw [HNN.out]
    exact fresh_app o1 g1 HRG.out
  go_upto_region 2 with (at_builtin; refine wpList_append_bytes _ rfl (.tmp 7) (.tmp 9) 22 rfl W.heap.size info5 Try.underlying22 _ [] rfl (ow_empty W) na nn nc d.node rfl HRW.out (by simp; omega) (by simp) ?_; intro v1 w1 o1 g1; obtain ⟨a1, c1, hv1, o1', bW1⟩ := HFA.out v1 w1 o1 g1; subst hv1; clear o1 g1)
  have hs1 : w.heap.size + 2 ≤ w1.heap.size := by have := bW1.size; omega
  have B1 : Below w.heap.size w w1 := BW.trans (bW1.mono (by omega))
  have OS1 : OwS (Rg w.heap.size w1.heap.size) w1 (.slice a1 nn c1) d.node := ows_of o1' HRG.out (by omega)
  have PA1 := below_blk bW1 (by omega) PA
  have PR1 := below_blk bW1 (by omega) PR
  clear o1' bW1 x0 x1 kx PA PR BW HRW SW HFA
  generalize hW2 : World.alloc w1 _ = w2
  have P2 : w2.heap[w1.heap.size]? = some (.cells #[.slice a1 nn c1, .slice none 0 0] 29 (0, 0)) := by rw [← hW2]; exact heap_alloc_new _ _
  have X2 : Ext w1 w2 := by rw [← hW2]; exact hE _ _
  have S2 : Hid (w2.heap.size = w1.heap.size + 1) := by show _ = _; rw [← hW2]; simp
  clear hW2
  have HB2 := hidL (B1.trans ((ext_bel X2).mono B1.size))
  have HO2 := hidL (OS1.ext X2)
  have HPA2 := hidL (ext_blk X2 PA1)
  have HPR2 := hidL (ext_blk X2 PR1)
  obtain ⟨g3, hg3⟩ : ∃ g3, g3 = w1.heap.size := ⟨_, rfl⟩
  rw [← hg3] at P2 S2 HO2 hs1 ⊢
  have HP2 := hidL P2
  clear X2 PA1 PR1 B1 OS1 hg3 P2
  go_wp2
  go_loopw [4] (fun i wr => ∃ k : Nat, k ≤ m ∧ i = .int .i64 k ∧ ∃ (ra : Option Addr) (rc : Nat) (F : Nat → Nat → Value) (N : Nat → Nat → Prop), Hid (wr.heap[g3]? = some (.cells #[.slice a1 nn c1, .slice ra k rc] 29 (0, 0))) ∧ Hid (OR 54 2 ownV (fun b => g3 < b ∧ b < wr.heap.size) wr (.slice ra k rc) (d.svcs.take k) F N) ∧ Hid (Below w.heap.size w wr) ∧ Hid (OwS (Rg w.heap.size g3) wr (.slice a1 nn c1) d.node) ∧ Hid (wr.heap[w.heap.size]? = some (.cells #[.slice na nn nc, .slice sa m sc] 29 (0, 0))) ∧ Hid (wr.heap[w.heap.size + 1]? = some (.cells #[.slice none 0 0, .slice none 0 0] 29 (0, 0)))) (fun i _ => m - (intOf i).toNat)
  case atStart => exact ⟨0, Nat.zero_le _, rfl, none, 0, fun _ _ => .bool true, _, HP2.out, OR.nil _ _ _ _ _ _, HB2.out, HO2.out, HPA2.out, HPR2.out⟩
  case round =>
    obtain ⟨k, hk, rfl, ra, rc, F, N, HG3, HOR, HB, HO, HPA, HPR⟩ := hrel
    obtain ⟨⟨x0, x1⟩, _, _⟩ := cells2S HPA.out
    obtain ⟨⟨y0, y1⟩, k0, k1⟩ := cells2S HG3.out
    have HG3L : Hid (g3 < wr.heap.size) := (Array.getElem?_eq_some_iff.1 HG3.out).1
    by_cases hlt : k < m
    · obtain ⟨b, o, rfl, hbl, hc⟩ := H3.out (by omega)
      obtain ⟨s, hs⟩ : ∃ s, d.svcs[k]? = some s := ⟨_, List.getElem?_eq_getElem (by have := HM.out; omega)⟩
      obtain ⟨e0, e1⟩ := HC.out k s hs
      have HLS := hidL (HL.out.2.2 k s hs)
      have HSS := hidL hs
      have XA : Ext w wr := ext_below HB.out
      obtain ⟨ka, kc, hkv⟩ := rv_shape e0
      obtain ⟨cb, cd, hcv⟩ := chks_shape e1
      obtain ⟨kl, hkl⟩ : ∃ kl, kl = s.name.length := ⟨_, rfl⟩
      obtain ⟨cl, hcl⟩ : ∃ cl, cl = s.checks.length := ⟨_, rfl⟩
      have HKL := hidL hkl
      have HCL := hidL hcl
      rw [← hkl] at hkv
      rw [← hcl] at hcv
      rw [hkv] at e0
      rw [hcv] at e1
      have u0 := World.grownBy.cell XA (hc k hlt 0 (by omega)) (by simp)
      rw [Nat.add_zero, hkv] at u0
      have HU1 := hidL (show w.cell? ⟨b, o + k * 2 + 1, none⟩ = some (.slice cb cl cd) by rw [← hcv]; exact hc k hlt 1 (by omega))
      have HRK : Hid (Rd (wr.alloc (.cells #[] 5)) ka kl s.name) := by
        obtain ⟨a', c', e1, r1, _, _⟩ := e0
        injection e1 with ea el ec
        subst ea ec
        rw [← el] at r1
        exact r1.grown (XA.tr (hE _ _))
      have HRS := hidL (rv_rngK e0)
      have hkl2 : kl ≤ 1048576 := by rw [hkl]; exact HLS.out.1
      have hcl2 : (cl : Int) ≤ 1048576 := by have := HLS.out.2.1; omega
      obtain ⟨D, ⟨qa, qc, hD0, p1, p2, p3⟩, hD⟩ := e1
      injection hD0 with f1 f2 f3
      subst f1 f3
      rw [← f2] at p1 p3
      have HD : Hid (∀ i c, s.checks[i]? = some c → RV w (D i 0) c.name ∧ D i 1 = .int .i64 c.ttl ∧ D i 2 = .int .i64 c.most ∧ D i 3 = .int .i64 c.st ∧ D i 4 = .int .i64 c.age ∧ D i 5 = .int .i64 c.fails) := hD
      have H6 : Hid (0 < cl → ∃ b o, cb = some ⟨b, o, none⟩ ∧ b < w.heap.size ∧ ∀ i, i < cl → ∀ j, j < 6 → w.cell? ⟨b, o + i * 6 + j, none⟩ = some (D i j)) := p3
      have hlt' : (k : Int) < (m : Int) := by omega
      clear hc hkv hcv e0 hs hkl hcl XA f2 p2 p3 hD
      have kx := fun o => World.grownBy.cell (World.grownBy_alloc wr o none) x1 (by simp)
      have ku := fun o => World.grownBy.cell (World.grownBy_alloc wr o none) u0 (by simp)
      have HFB : Hid (∀ v1 w1, Ow w1 wr.heap.size v1 ([] ++ s.name) → (wr.alloc (.cells #[] 5)).grownBy w1 (Value.slice (some ⟨wr.heap.size, 0, none⟩) 0 0).ownBlock → ∃ a1 c1, v1 = .slice a1 kl c1 ∧ Ow w1 wr.heap.size (.slice a1 kl c1) s.name ∧ Below wr.heap.size wr w1) := fun v1 w1 o1 g1 => by
        rw [HKL.out]
        exact fresh_app o1 g1 HRS.out
      go_upto_region 6 with (at_builtin; refine wpList_append_bytes _ rfl (.tmp 19) (.tmp 25) 22 rfl wr.heap.size info5 Try.underlying22 _ [] rfl (ow_empty wr) ka kl kc s.name rfl HRK.out (by simp; omega) (by simp) ?_; intro v5 w5 o5 g5; obtain ⟨a5, c5, hv5, o5', bW5⟩ := HFB.out v5 w5 o5 g5; subst hv5; clear o5 g5)
      have X5 : Ext wr w5 := ext_below bW5
      have OS5 : OwS (Rg wr.heap.size w5.heap.size) w5 (.slice a5 kl c5) s.name := ows_of o5' HRS.out (Nat.le_refl _)
      clear o5' bW5 u0 x0 x1 y0 y1 k0 k1 kx ku HRK HFB
      generalize hU : World.alloc w5 _ = U
      have PU : U.heap[w5.heap.size]? = some (.cells #[.slice a5 kl c5, .slice none 0 0] 54 (0, 0)) := by rw [← hU]; exact heap_alloc_new _ _
      have XU : Ext w5 U := by rw [← hU]; exact hE _ _
      have SU : Hid (U.heap.size = w5.heap.size + 1) := by show _ = _; rw [← hU]; simp
      clear hU
      have HXU := hidL (X5.tr XU)
      have HOSU := hidL (OS5.ext XU)
      obtain ⟨gs, hgs⟩ : ∃ gs, gs = w5.heap.size := ⟨_, rfl⟩
      have HGS : Hid (wr.heap.size ≤ gs ∧ U.heap.size = gs + 1) := ⟨by rw [hgs]; exact X5.size, by have := SU.out; omega⟩
      rw [← hgs] at PU HOSU ⊢
      have HPU := hidL PU
      obtain ⟨wo, hwo⟩ : ∃ wo, wo = wr := ⟨_, rfl⟩
      subst hwo
      clear X5 OS5 XU SU hgs PU
      go_wp2
      go_loopw [6] (fun i wv => ∃ j : Nat, j ≤ cl ∧ i = .int .i64 j ∧ ∃ (qa : Option Addr) (qc : Nat) (G : Nat → Nat → Value) (M : Nat → Nat → Prop), Hid (wv.heap[gs]? = some (.cells #[.slice a5 kl c5, .slice qa j qc] 54 (0, 0))) ∧ Hid (OR 43 6 ownC (fun b => gs < b ∧ b < wv.heap.size) wv (.slice qa j qc) (s.checks.take j) G M) ∧ Hid (Below gs U wv)) (fun i _ => cl - (intOf i).toNat)
      case atStart => exact ⟨0, Nat.zero_le _, rfl, none, 0, fun _ _ => .bool true, _, HPU.out, OR.nil _ _ _ _ _ _, Below.refl _ _⟩
      case round =>
        obtain ⟨j, hj, rfl, qa, qc, G, M, HGQ, HOQ, HBQ⟩ := hrel
        have HXV : Hid (Ext w wr) := by
          have h1 := HBQ.out
          have h2 : Below w.heap.size w U := HB.out.trans ((ext_bel HXU.out).mono HB.out.size)
          exact ext_below (h2.trans (h1.mono (Nat.le_trans HB.out.size HGS.out.1)))
        have HPV := hidL (below_blk HBQ.out (by have := HGS.out; have := HB.out.size; have := HG3L.out; omega) (ext_blk HXU.out HPA.out))
        obtain ⟨⟨x0, x1⟩, _, _⟩ := cells2S HPV.out
        obtain ⟨⟨y0, y1⟩, k0, k1⟩ := cells2S HGQ.out
        have u1 := World.grownBy.cell HXV.out HU1.out (by simp)
        by_cases hjl : j < cl
        · obtain ⟨g, og, rfl, hgl, hgc⟩ := H6.out (by omega)
          obtain ⟨c, hcs⟩ : ∃ c, s.checks[j]? = some c := ⟨_, List.getElem?_eq_getElem (by have := HCL.out; omega)⟩
          obtain ⟨f0, f1, f2, f3, f4, f5⟩ := HD.out j c hcs
          have HCS := hidL hcs
          have HLC := hidL (HLS.out.2.2 j c hcs)
          obtain ⟨ma, mc, hmv⟩ := rv_shape f0
          obtain ⟨cn, hcn⟩ : ∃ cn, cn = c.name.length := ⟨_, rfl⟩
          have HCN := hidL hcn
          rw [← hcn] at hmv
          rw [hmv] at f0
          have HF0 := hidL f0
          have cc0 := World.grownBy.cell HXV.out (hgc j hjl 0 (by omega)) (by simp)
          rw [Nat.add_zero, hmv] at cc0
          have cc1 := World.grownBy.cell HXV.out (hgc j hjl 1 (by omega)) (by simp)
          rw [f1] at cc1
          have cc2 := World.grownBy.cell HXV.out (hgc j hjl 2 (by omega)) (by simp)
          rw [f2] at cc2
          have cc3 := World.grownBy.cell HXV.out (hgc j hjl 3 (by omega)) (by simp)
          rw [f3] at cc3
          have cc4 := World.grownBy.cell HXV.out (hgc j hjl 4 (by omega)) (by simp)
          rw [f4] at cc4
          have cc5 := World.grownBy.cell HXV.out (hgc j hjl 5 (by omega)) (by simp)
          rw [f5] at cc5
          have hjl' : (j : Int) < (cl : Int) := by omega
          have HQB : Hid (∀ b, (Value.slice qa j qc).ownBlock = some b → gs < b ∧ b < wr.heap.size) := fun b hb => HOQ.out.blk b hb
          have nn1 : ¬ (Value.slice qa j qc).ownBlock = some gs := fun e => by have := HQB.out _ e; omega
          have nn2 : ¬ (Value.slice qa j qc).ownBlock = some w.heap.size := fun e => by have := HQB.out _ e; have := HGS.out; have := HB.out.size; have := HG3L.out; omega
          have nn3 : ¬ (Value.slice qa j qc).ownBlock = some b := fun e => by have := HQB.out _ e; have := HGS.out; have := HB.out.size; omega
          have nn4 : ¬ (Value.slice qa j qc).ownBlock = some g := fun e => by have := HQB.out _ e; have := HGS.out; have := HB.out.size; omega
          clear hgc f0 f1 f2 f3 f4 f5 hmv hcs hcn
          go_upto_region 9 with fail
          have z0 := fun p => tw_cell (S := fun b => (Value.slice qa j qc).ownBlock = some b) y1 nn1 p
          have z1 := fun p => tw_cell (S := fun b => (Value.slice qa j qc).ownBlock = some b) x1 nn2 p
          have z2 := fun p => tw_cell (S := fun b => (Value.slice qa j qc).ownBlock = some b) u1 nn3 p
          have t0 := fun p => tw_cell (S := fun b => (Value.slice qa j qc).ownBlock = some b) cc0 nn4 p
          have t1 := fun p => tw_cell (S := fun b => (Value.slice qa j qc).ownBlock = some b) cc1 nn4 p
          have t2 := fun p => tw_cell (S := fun b => (Value.slice qa j qc).ownBlock = some b) cc2 nn4 p
          have t3 := fun p => tw_cell (S := fun b => (Value.slice qa j qc).ownBlock = some b) cc3 nn4 p
          have t4 := fun p => tw_cell (S := fun b => (Value.slice qa j qc).ownBlock = some b) cc4 nn4 p
          have t5 := fun p => tw_cell (S := fun b => (Value.slice qa j qc).ownBlock = some b) cc5 nn4 p
          have nonV := tw_ne (fun b => (Value.slice qa j qc).ownBlock = some b) wr
          clear cc0 cc1 cc2 cc3 cc4 cc5 x0 x1 y0 y1 k0 k1 u1 nn1 nn2 nn3 nn4
          refine wp_region_ordL 15 (S := fun w' => ∃ p : TW (fun b => (Value.slice qa j qc).ownBlock = some b) wr, w' = p.u) (by kernel_rfl) (tw_drew _ wr) (fun hHeld => ?_)
          refine ordL_seg 0 11 5 (by kernel_rfl) (by kernel_rfl) (by kernel_rfl) (by kernel_rfl) (fun _ _ _ _ _ h => h) hHeld ?_
          simp only [List.drop_zero, List.take_succ_cons, List.take_zero]
          repeat (go_big_quiet_step (fail))
          refine wpQuiet_nil ?_
          refine ordL_one 11 4 (by kernel_rfl) (by kernel_rfl) rfl (fun K hK => ?_)
          go_simp
          go_at_call 46
          refine (sOwnKV _ c _ ⟨_, rfl, (HF0.out.ext HXV.out).ext (ext_drewN wr 1)⟩ HLC.out).mono ?_
          rintro e w5 ⟨tv, rfl, o5, b5⟩
          obtain ⟨ta, tc, rfl⟩ := o5.shape
          rw [← HCN.out] at o5 ⊢
          dsimp only
          have X5 : Ext wr w5 := (ext_drewN wr 1).tr (ext_below b5)
          have O5 : OwS (Rg wr.heap.size w5.heap.size) w5 (.slice ta cn tc) c.name := ows_of o5.1 o5.2 (Nat.le_refl _)
          refine hK.out _ _ (fun _ => ⟨⟨w5, X5.os, X5.size, fun k hk _ => X5.block k hk (by simp)⟩, rfl⟩) ?_
          clear hK K o5 b5
          refine ordL_one 12 3 (by kernel_rfl) (by kernel_rfl) rfl (fun K hK => ?_)
          go_simp
          have X6 : Ext wr (w5.alloc (.cells #[.slice ta cn tc, .int .i64 c.ttl, .int .i64 c.most, .int .i64 c.st, .int .i64 c.age, .int .i64 c.fails] 43)) := X5.tr (hE _ _)
          refine hK.out _ _ (fun _ => ⟨⟨_, X6.os, X6.size, fun k hk _ => X6.block k hk (by simp)⟩, rfl⟩) ?_
          clear hK K
          try simp only [Act.put, List.setIfInBounds_toArray, List.set_cons_zero, List.set_cons_succ]
          have SZ5 : wr.heap.size ≤ w5.heap.size := X5.size
          have O6 : OwS (Rg wr.heap.size w5.heap.size) (w5.alloc (.cells #[.slice ta cn tc, .int .i64 c.ttl, .int .i64 c.most, .int .i64 c.st, .int .i64 c.age, .int .i64 c.fails] 43)) (.slice ta cn tc) c.name := O5.ext (hE _ _)
          have HO6 := hidL (HOQ.out.ext keepsC X6)
          have hlk : (s.checks.take j).length = j := by rw [List.length_take]; have := HCL.out; omega
          have HLK := hidL hlk
          have HROW : Hid (Row 0 43 6 (w5.alloc (.cells #[.slice ta cn tc, .int .i64 c.ttl, .int .i64 c.most, .int .i64 c.st, .int .i64 c.age, .int .i64 c.fails] 43)) (.slice qa j qc) j G) := by
            have := HO6.out.row
            rw [hlk] at this
            exact this
          have HOWN : Hid (ownC (Rg wr.heap.size w5.heap.size) (w5.alloc (.cells #[.slice ta cn tc, .int .i64 c.ttl, .int .i64 c.most, .int .i64 c.st, .int .i64 c.age, .int .i64 c.fails] 43)) (elem6 (.slice ta cn tc) (.int .i64 c.ttl) (.int .i64 c.most) (.int .i64 c.st) (.int .i64 c.age) (.int .i64 c.fails) 0) c) := ⟨O6, rfl, rfl, rfl, rfl, rfl⟩
          have HGQ6 := hidL (ext_blk X6 HGQ.out)
          have SZ6 : (w5.alloc (.cells #[.slice ta cn tc, .int .i64 c.ttl, .int .i64 c.most, .int .i64 c.st, .int .i64 c.age, .int .i64 c.fails] 43)).heap.size = w5.heap.size + 1 := by simp
          have HSRC := hidL (elem6_src w5 43 (.slice ta cn tc) (.int .i64 c.ttl) (.int .i64 c.most) (.int .i64 c.st) (.int .i64 c.age) (.int .i64 c.fails))
          have HX6 := hidL X6
          clear O5 O6 X5 X6 hlk
          refine ordL_one 13 2 (by kernel_rfl) (by kernel_rfl) rfl (fun K hK => ?_)
          refine step_rowG info_KsC rfl (by omega) rfl (.tmp 40) (.tmp 51) 52 Try.underlying52 rfl 0 (.slice qa j qc) j G rfl HROW.out (some ⟨w5.heap.size, 0, none⟩) 1 1 (elem6 (.slice ta cn tc) (.int .i64 c.ttl) (.int .i64 c.most) (.int .i64 c.st) (.int .i64 c.age) (.int .i64 c.fails)) rfl HSRC.out elem6_one (fun e => by cases e) (by unfold maxLen; omega) (by omega) (Nat.zero_le _) ?_
          intro v7 w7 r7 g7 h7
          obtain ⟨a7, c7, rfl⟩ := r7.shape
          have hsz7 : w5.heap.size + 1 ≤ w7.heap.size := by have := g7.size; omega
          have P7 : w7.heap[gs]? = some (.cells #[.slice a5 kl c5, .slice qa j qc] 54 (0, 0)) := (g7.block gs (Array.getElem?_eq_some_iff.1 HGQ6.out).1 (fun e => by have := HQB.out gs e.symm; omega)).trans HGQ6.out
          have HT7 : Hid (Trn (fun b => (Value.slice qa j qc).ownBlock = some b) wr w7) := (Trn.ext HX6.out).trans (Trn.one g7 (fun x e => e))
          have HB7 : Hid (Below gs U w7) := by
            have h1 : Below gs U (w5.alloc (.cells #[.slice ta cn tc, .int .i64 c.ttl, .int .i64 c.most, .int .i64 c.st, .int .i64 c.age, .int .i64 c.fails] 43)) := HBQ.out.trans ((ext_bel HX6.out).mono (by have := HGS.out; have := HBQ.out.size; omega))
            exact h1.grown g7 (by have := HGS.out; have := HBQ.out.size; omega) (fun k hk => by have := HQB.out k hk; omega)
          refine hK.out _ _ (fun _ => ⟨⟨w7, HT7.out.os, HT7.out.size, fun k hk hn => HT7.out.block k hk hn⟩, rfl⟩) ?_
          clear hK K
          simp only [List.getElem_toArray, List.getElem_cons_succ, List.getElem_cons_zero, Act.put, List.setIfInBounds_toArray, List.set_cons_zero, List.set_cons_succ]
          have HOP := hidL (HO6.out.push keepsC HOWN.out (fun b h1 h2 => by have := h1.1; omega) (fun b h => by have := SZ6; rcases h with h | h <;> (have := h.2; omega)) (by rw [HLK.out]; exact r7) g7 h7)
          have HO8 : Hid (OR 43 6 ownC (fun b => gs < b ∧ b < (w7.setCell ⟨gs, 1, none⟩ (.slice a7 (j + 1) c7)).heap.size) (w7.setCell ⟨gs, 1, none⟩ (.slice a7 (j + 1) c7)) (.slice a7 (j + 1) c7) (s.checks.take (j + 1)) (joinF (s.checks.take j).length G (elem6 (.slice ta cn tc) (.int .i64 c.ttl) (.int .i64 c.most) (.int .i64 c.st) (.int .i64 c.age) (.int .i64 c.fails))) (fun i => if i = (s.checks.take j).length then Rg wr.heap.size w5.heap.size else if i < (s.checks.take j).length then M i else fun _ => False)) := by
            rw [show s.checks.take (j + 1) = s.checks.take j ++ [c] from takeL HCS.out]
            have hgs := HGS.out
            have hsu := HBQ.out.size
            have hss : (w7.setCell ⟨gs, 1, none⟩ (.slice a7 (j + 1) c7)).heap.size = w7.heap.size := by simp
            rw [hss]
            refine (HOP.out.mono (R := fun b => gs < b ∧ b < w7.heap.size) (fun b hb => ?_)).keep keepsC (Trn.set (fun b => b = gs) _ _ _ _ rfl) (fun b hb e => by omega)
            rcases hb with hb | hb | ⟨hb, hv⟩
            · exact ⟨hb.1, by omega⟩
            · exact ⟨by have := hb.1; omega, by have := hb.2; omega⟩
            · exact ⟨by omega, HOP.out.lt b hv⟩
          have HB8 : Hid (Below gs U (w7.setCell ⟨gs, 1, none⟩ (.slice a7 (j + 1) c7))) := HB7.out.setCell (Nat.le_refl _) _
          have HP8 := hidL (show (w7.setCell ⟨gs, 1, none⟩ (.slice a7 (j + 1) c7)).heap[gs]? = some (.cells #[.slice a5 kl c5, .slice a7 (j + 1) c7] 54 (0, 0)) by simpa using set_block P7 1 (.slice a7 (j + 1) c7))
          obtain ⟨⟨y0, y1⟩, k0, k1⟩ := cells2S P7
          clear r7 g7 h7 HSRC HROW HOWN HOP HX6 HO6 HGQ6 SZ6 P7
          refine ordL_seg 14 1 1 (by kernel_rfl) (by kernel_rfl) (by kernel_rfl) (by kernel_rfl) (fun _ _ _ _ _ h => h) ⟨⟨w7, HT7.out.os, HT7.out.size, fun k hk hn => HT7.out.block k hk hn⟩, rfl⟩ ?_
          simp only [List.drop_succ_cons, List.drop_zero, List.take_succ_cons, List.take_zero]
          repeat (go_big_quiet_step (fail))
          refine wpQuiet_nil ?_
          refine ordL_one 15 0 (by kernel_rfl) (by kernel_rfl) rfl (fun K hK => ?_)
          go_simp
          refine hK.out _ _ (fun e => absurd rfl e) ?_
          clear hK K
          try simp only [Act.put, List.setIfInBounds_toArray, List.set_cons_zero, List.set_cons_succ]
          refine ordL_end (by kernel_rfl) ?_
          clear nonV z0 z1 z2 t0 t1 t2 t3 t4 t5 y0 y1 k0 k1 HT7 HB7
          go_wp2
          go_roundw
          case rel => exact ⟨j + 1, by omega, by go_num, _, _, _, _, HP8, HO8, HB8⟩
          case measure => simp [intOf]; omega
        · have hjc : j = cl := by omega
          subst hjc
          have hck : s.checks.take j = s.checks := List.take_of_length_le (by have := HCL.out; omega)
          have hsv : (d.svcs.take k).length = k := by rw [List.length_take]; have := HM.out; omega
          have HSV := hidL hsv
          rw [hck] at HOQ
          have hgs := HGS.out
          have hqs := HBQ.out.size
          have hbs := HB.out.size
          have hg3l := HG3L.out
          have XE : Ext wo wr := ext_below ((ext_bel HXU.out).trans (HBQ.out.mono hgs.1))
          have PG := ext_blk XE HG3.out
          have PRW := ext_blk XE HPR.out
          have PAW := HPV.out
          have TB : Trn (fun b => gs ≤ b) U wr := ⟨HBQ.out.os, HBQ.out.tape, HBQ.out.output, HBQ.out.size, fun q hq hn => HBQ.out.block q (by omega)⟩
          have OSW := HOSU.out.keep TB (fun b h1 h2 => by have := h1.2; omega)
          have HOWN : Hid (ownV (fun b => wo.heap.size ≤ b ∧ b < wr.heap.size) (wr.alloc (.cells #[.slice a5 kl c5, .slice qa j qc] 54)) (elem2 (.slice a5 kl c5) (.slice qa j qc) 0) s) := ⟨Rg wo.heap.size gs, fun b => gs < b ∧ b < wr.heap.size, OSW.ext (hE _ _), (okd_iff.2 HOQ.out.ow).ext (hE _ _), fun b h1 h2 => by have := h1.2; omega, fun b h => ⟨h.1, by have := h.2; omega⟩, fun b h => ⟨by omega, h.2⟩⟩
          have HO9 := hidL (HOR.out.ext keepsV (XE.tr (hE wr (.cells #[.slice a5 kl c5, .slice qa j qc] 54))))
          have HBW : Hid (Below w.heap.size w wr) := HB.out.trans ((ext_bel XE).mono HB.out.size)
          have HONE2 := hidL (elem2_one (a := a5) (b := qa) (n := kl) (c := c5) (m := j) (d := qc))
          have HSRC := hidL (elem2_src wr 54 (.slice a5 kl c5) (.slice qa j qc))
          have HROW : Hid (Row 0 54 2 (wr.alloc (.cells #[.slice a5 kl c5, .slice qa j qc] 54)) (.slice ra k rc) k F) := by
            have h9 := HO9.out.row
            rw [hsv] at h9
            exact h9
          have HNO := hidL (HO.out.ext XE)
          have HFS : Hid (∀ v7 w7, Row 0 54 2 w7 v7 (k + 1) (joinF k F (elem2 (.slice a5 kl c5) (.slice qa j qc))) → (wr.alloc (.cells #[.slice a5 kl c5, .slice qa j qc] 54)).grownBy w7 (Value.slice ra k rc).ownBlock → (v7.ownBlock = (Value.slice ra k rc).ownBlock ∨ v7.ownBlock = some (wr.alloc (.cells #[.slice a5 kl c5, .slice qa j qc] 54)).heap.size) → ∃ a7 c7, v7 = .slice a7 (k + 1) c7 ∧ w7.cell? ⟨g3, 1, none⟩ = some (.slice ra k rc) ∧ w7.frozen? ⟨g3, 1, none⟩ = false ∧
              Hid ((w7.setCell ⟨g3, 1, none⟩ (.slice a7 (k + 1) c7)).heap[g3]? = some (.cells #[.slice a1 nn c1, .slice a7 (k + 1) c7] 29 (0, 0))) ∧
              Hid (∃ (F : Nat → Nat → Value) (N : Nat → Nat → Prop), OR 54 2 ownV (fun b => g3 < b ∧ b < (w7.setCell ⟨g3, 1, none⟩ (.slice a7 (k + 1) c7)).heap.size) (w7.setCell ⟨g3, 1, none⟩ (.slice a7 (k + 1) c7)) (.slice a7 (k + 1) c7) (d.svcs.take (k + 1)) F N) ∧
              Hid (Below w.heap.size w (w7.setCell ⟨g3, 1, none⟩ (.slice a7 (k + 1) c7))) ∧ Hid (OwS (Rg w.heap.size g3) (w7.setCell ⟨g3, 1, none⟩ (.slice a7 (k + 1) c7)) (.slice a1 nn c1) d.node) ∧ Hid ((w7.setCell ⟨g3, 1, none⟩ (.slice a7 (k + 1) c7)).heap[w.heap.size]? = some (.cells #[.slice na nn nc, .slice (some ⟨b, o, none⟩) m sc] 29 (0, 0))) ∧ Hid ((w7.setCell ⟨g3, 1, none⟩ (.slice a7 (k + 1) c7)).heap[w.heap.size + 1]? = some (.cells #[.slice none 0 0, .slice none 0 0] 29 (0, 0)))) := fun v7 w7 r7 g7 h7 => by
            obtain ⟨a7, c7, rfl⟩ := r7.shape
            have hrb : ∀ b, (Value.slice ra k rc).ownBlock = some b → g3 < b ∧ b < wo.heap.size := fun b hb => HOR.out.blk b hb
            have hsz9 : (wr.alloc (.cells #[.slice a5 kl c5, .slice qa j qc] 54)).heap.size = wr.heap.size + 1 := by simp
            have hsz7 := g7.size
            have blk7 : ∀ b, b < wr.heap.size → (b ≤ g3) → w7.heap[b]? = wr.heap[b]? := fun b hb hg => (g7.block b (by omega) (fun e => by have := hrb b e.symm; omega)).trans ((hE wr _).block b hb (by simp))
            have P7 := (blk7 g3 (by omega) (Nat.le_refl _)).trans PG
            have PA7 := (blk7 w.heap.size (by omega) (by omega)).trans PAW
            have PR7 := (blk7 (w.heap.size + 1) (by omega) (by omega)).trans PRW
            have HOP := HO9.out.push keepsV HOWN.out (fun b h1 h2 => by have := h1.1; have := h2.2; omega) (fun b h => by rcases h with h | h <;> (have := h.2; omega)) (by rw [HSV.out]; exact r7) g7 h7
            have hss : (w7.setCell ⟨g3, 1, none⟩ (.slice a7 (k + 1) c7)).heap.size = w7.heap.size := by simp
            have B7 : Below w.heap.size w w7 := (HBW.out.trans ((ext_bel (hE wr _)).mono HBW.out.size)).grown g7 (by omega) (fun q hq => by have := hrb q hq; omega)
            refine ⟨a7, c7, rfl, (at_block P7 1 _ rfl).1, (at_block P7 1 _ rfl).2, ?_, ?_, B7.setCell (show w.heap.size ≤ g3 by omega) _, ?_, ?_, ?_⟩
            · have := set_block P7 1 (.slice a7 (k + 1) c7)
              simpa [Hid] using this
            · rw [show d.svcs.take (k + 1) = d.svcs.take k ++ [s] from takeL HSS.out, hss]
              refine ⟨_, _, (HOP.mono (R := fun b => g3 < b ∧ b < w7.heap.size) (fun b hb => ?_)).keep keepsV (Trn.set (fun b => b = g3) _ _ _ _ rfl) (fun b hb e => by omega)⟩
              rcases hb with hb | hb | ⟨hb, hv⟩
              · exact ⟨hb.1, by omega⟩
              · exact ⟨by have := hb.1; omega, by have := hb.2; omega⟩
              · exact ⟨by omega, HOP.lt b hv⟩
            · have h1 := (HNO.out.ext (hE wr (.cells #[.slice a5 kl c5, .slice qa j qc] 54))).keep (Trn.one (S := fun b => (Value.slice ra k rc).ownBlock = some b) g7 (fun x e => e)) (fun b h1 h2 => by have := hrb b h2; have := h1.2; omega)
              exact h1.keep (Trn.set (fun b => b = g3) _ _ _ _ rfl) (fun b h1 e => by have := h1.2; omega)
            · exact set_other g3 1 _ (by omega) PA7
            · exact set_other g3 1 _ (by omega) PR7
          obtain ⟨⟨q0, q1⟩, l0, l1⟩ := cells2S PG
          clear PG PRW PAW TB OSW XE hck hsv HOQ HOR HBQ HO HB HG3 HPA HPR HXU HOSU HPU HO9
          go_wp2_with (at_builtin; refine wpList_rowG info_SvC rfl (by omega) _ rfl (.tmp 55) (.tmp 57) 27 Try.underlying27 rfl 0 (.slice ra k rc) k F rfl HROW.out (some ⟨wr.heap.size, 0, none⟩) 1 1 (elem2 (.slice a5 kl c5) (.slice qa j qc)) rfl HSRC.out HONE2.out (fun e => by cases e) (by unfold maxLen; omega) (by omega) (Nat.zero_le _) ?_; intro v7 w7 r7 g7 h7; obtain ⟨a7, c7, hv7, m1, n1, HF1, HF2, HF3, HF4, HF5, HF6⟩ := HFS.out v7 w7 r7 g7 h7; subst hv7; clear r7 g7 h7)
          go_roundw
          case rel =>
            obtain ⟨F', N', HF2'⟩ := HF2.out
            exact ⟨k + 1, by omega, by go_num, a7, c7, F', N', HF1, HF2', HF3, HF4, HF5, HF6⟩
          case measure => simp [intOf]; omega
    · have hkm : k = m := by omega
      subst hkm
      have hsa : d.svcs.take k = d.svcs := List.take_of_length_le (by have := HM.out; omega)
      rw [hsa] at HOR
      have hg3l := HG3L.out
      have hss : ((wr.setCell ⟨w.heap.size + 1, 0, none⟩ (.slice a1 nn c1)).setCell ⟨w.heap.size + 1, 1, none⟩ (.slice ra k rc)).heap.size = wr.heap.size := by simp
      have TR : Trn (fun b => b = w.heap.size + 1) wr ((wr.setCell ⟨w.heap.size + 1, 0, none⟩ (.slice a1 nn c1)).setCell ⟨w.heap.size + 1, 1, none⟩ (.slice ra k rc)) := (Trn.set (fun b => b = w.heap.size + 1) _ _ _ _ rfl).trans (Trn.set (fun b => b = w.heap.size + 1) _ _ _ _ rfl)
      have hne : (Value.slice a1 nn c1).ownBlock ≠ some (w.heap.size + 1) := HO.out.ne HPR.out (by decide)
      have HW1 : Hid (OwS (Rg w.heap.size g3) ((wr.setCell ⟨w.heap.size + 1, 0, none⟩ (.slice a1 nn c1)).setCell ⟨w.heap.size + 1, 1, none⟩ (.slice ra k rc)) (.slice a1 nn c1) d.node) := ⟨⟨World.ownsRow.kept (World.ownsRow.kept HO.out.1.1 (set_grown _ _ _ _) (.inr hne)) (set_grown _ _ _ _) (.inr hne), HO.out.1.2⟩, HO.out.2⟩
      have HW2 : Hid (OSD (Rg g3 ((wr.setCell ⟨w.heap.size + 1, 0, none⟩ (.slice a1 nn c1)).setCell ⟨w.heap.size + 1, 1, none⟩ (.slice ra k rc)).heap.size) ((wr.setCell ⟨w.heap.size + 1, 0, none⟩ (.slice a1 nn c1)).setCell ⟨w.heap.size + 1, 1, none⟩ (.slice ra k rc)) (.slice ra k rc) d.svcs) := by
        rw [hss]
        exact osd_of (((HOR.out.ow).mono (R := Rg g3 wr.heap.size) (fun b h => ⟨by omega, h.2⟩)).keep keepsV TR (fun b h e => by have := h.1; omega))
      have HW3 : Hid (Below w.heap.size w ((wr.setCell ⟨w.heap.size + 1, 0, none⟩ (.slice a1 nn c1)).setCell ⟨w.heap.size + 1, 1, none⟩ (.slice ra k rc))) := (HB.out.setCell (Nat.le_succ _) _).setCell (Nat.le_succ _) _
      have HW4 := hidL (show w.heap.size ≤ g3 ∧ g3 ≤ ((wr.setCell ⟨w.heap.size + 1, 0, none⟩ (.slice a1 nn c1)).setCell ⟨w.heap.size + 1, 1, none⟩ (.slice ra k rc)).heap.size by rw [hss]; omega)
      obtain ⟨⟨r0, r1⟩, l0, l1⟩ := cells2S HPR.out
      clear hss TR hne hsa HOR H3
      go_wp2
      refine bodyPost_ret (v := .agg #[.slice a1 nn c1, .slice ra k rc]) (by simp [results, Try.results25, go_sem, *]) rfl ?_
      exact ⟨_, _, g3, rfl, HW1.out, HW2.out, HW4.out, HW3.out⟩

end Go.Proofs.Ytjkhadaoldbceaa
