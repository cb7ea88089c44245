/- The contract of the specification's l8state: its walk. -/
import Derived.Test.YtheojmjnpemkbaaDoorSc8
import Derived.Test.YtheojmjnpemkbaaDoorSx8
import Derived.Deep.RegionHeld3
namespace Go.Proofs.YtheojmjnpemkbaaDoor
open Go.RowKit

theorem Bk.ofx {w w' : World} {B : Nat} (x : Ext w w') (hB : B ≤ w.heap.size) : Bk B w w' :=
  ⟨⟨x.os, x.tape, x.output, x.size, fun k hk => x.block k (Nat.lt_of_lt_of_le hk hB) (by simp)⟩, fun k _ hk _ _ => (x.block k (Array.getElem?_eq_some_iff.1 hk).1 (by simp)).trans hk⟩
theorem rng_app {xs ys : List Int} (h : ∀ x ∈ xs, 0 ≤ x ∧ x ≤ 255) (k : ∀ x ∈ ys, 0 ≤ x ∧ x ≤ 255) : ∀ x ∈ xs ++ ys, 0 ≤ x ∧ x ≤ 255 := fun x hx => (List.mem_append.1 hx).elim (h x) (k x)
theorem rng_cons {y : Int} {ys : List Int} (h : 0 ≤ y ∧ y ≤ 255) (k : ∀ x ∈ ys, 0 ≤ x ∧ x ≤ 255) : ∀ x ∈ y :: ys, 0 ≤ x ∧ x ≤ 255 := fun x hx => by
  rcases List.mem_cons.1 hx with rfl | hx
  · exact h
  · exact k x hx
theorem rng_nil : ∀ x ∈ ([] : List Int), 0 ≤ x ∧ x ≤ 255 := fun x hx => by cases hx
theorem flat_rng9 {α : Type} (f : α → List Int) {l : List α} (h : ∀ (i : Nat) x, l[i]? = some x → ∀ y ∈ f x, 0 ≤ y ∧ y ≤ 255) : ∀ y ∈ l.flatMap f, 0 ≤ y ∧ y ≤ 255 := fun y hy => by
  obtain ⟨x, hx, hy⟩ := List.mem_flatMap.1 hy
  obtain ⟨i, hi, rfl⟩ := List.getElem_of_mem hx
  exact h i _ (List.getElem?_eq_getElem hi) y hy
theorem lineAt_rng (i : Int) : ∀ x ∈ lineAt i, 0 ≤ x ∧ x ≤ 255 := rng_app (rng_app (by decide) (rng_cons (by omega) (decL_rng _))) (by decide)
theorem lineRow_rng {r : DRow} (h : (∀ x ∈ r.key, 0 ≤ x ∧ x ≤ 255) ∧ (∀ x ∈ r.val, 0 ≤ x ∧ x ≤ 255)) : ∀ x ∈ lineRow r, 0 ≤ x ∧ x ≤ 255 :=
  rng_app (rng_app (by decide) (rng_app (rng_cons (by omega) h.1) (rng_app (rng_cons (by omega) (quoteL_rng h.2)) (rng_app (rng_cons (by omega) (decL_rng _)) (rng_cons (by omega) (decL_rng _)))))) (by decide)
theorem lineTomb_rng {t : DTomb} (h : ∀ x ∈ t.key, 0 ≤ x ∧ x ≤ 255) : ∀ x ∈ lineTomb t, 0 ≤ x ∧ x ≤ 255 :=
  rng_app (rng_app (by decide) (rng_app (rng_cons (by omega) h) (rng_cons (by omega) (decL_rng _)))) (by decide)
theorem lineSess_rng (s : DSess) : ∀ x ∈ lineSess s, 0 ≤ x ∧ x ≤ 255 := rng_app (rng_app (sesL_rng _) (rng_cons (by omega) (decL_rng _))) (by decide)

set_option maxHeartbeats 16000000 in
set_option maxRecDepth 10000 in
theorem sST_yes (S : DState) (ra ta sa la : Option Addr) (rc tc sc lc : Nat) (w : World) (h : VState w (.agg #[.int .i64 S.index, .slice ra S.rows.length rc, .slice ta S.tombs.length tc, .int .i64 S.lost, .slice sa S.sess.length sc, .slice la S.lasts.length lc]) S) (hN : StN S) :
    Calls Tryd.prog 18 #[.agg #[.int .i64 S.index, .slice ra S.rows.length rc, .slice ta S.tombs.length tc, .int .i64 S.lost, .slice sa S.sess.length sc, .slice la S.lasts.length lc]] w fun e w' => ∃ v', e = .returned v' ∧ OwM w' w.heap.size v' (linesL S) ∧ Below w.heap.size w w' := by
  have hE : ∀ W : World, ∀ o, Ext W (W.alloc o) := fun W o => World.grownBy_alloc _ _ _
  obtain ⟨V, hV⟩ : ∃ V, V = w.alloc (.cells #[.int .i64 S.index, .slice ra S.rows.length rc, .slice ta S.tombs.length tc, .int .i64 S.lost, .slice sa S.sess.length sc, .slice la S.lasts.length lc] 36) := ⟨_, rfl⟩
  have q : V.heap[w.heap.size]? = some (.cells #[.int .i64 S.index, .slice ra S.rows.length rc, .slice ta S.tombs.length tc, .int .i64 S.lost, .slice sa S.sess.length sc, .slice la S.lasts.length lc] 36 (0, 0)) := by rw [hV]; exact heap_alloc_new w _
  have bV : Below w.heap.size w V := by rw [hV]; exact (Below.refl _ w).alloc (Nat.le_refl _) _
  have hVV := h.ext (ext_below bV)
  have HN : Hid (StN S) := hN
  have HQ : Hid (∀ W, Below V.heap.size V W → (W.cell? ⟨w.heap.size, 0, none⟩ = some (.int .i64 S.index) ∧ W.cell? ⟨w.heap.size, 1, none⟩ = some (.slice ra S.rows.length rc) ∧ W.cell? ⟨w.heap.size, 2, none⟩ = some (.slice ta S.tombs.length tc) ∧ W.cell? ⟨w.heap.size, 3, none⟩ = some (.int .i64 S.lost) ∧ W.cell? ⟨w.heap.size, 4, none⟩ = some (.slice sa S.sess.length sc) ∧ W.cell? ⟨w.heap.size, 5, none⟩ = some (.slice la S.lasts.length lc))) := fun W b => six (below_blk b (Array.getElem?_eq_some_iff.1 q).1 q)
  have HW : Hid (∀ W, Below V.heap.size V W → Below w.heap.size w W) := fun W b => bV.trans (b.mono bV.size)
  have SV : Hid (w.heap.size ≤ V.heap.size) := bV.size
  obtain ⟨rv', tv', sv', lv', ev, vr, vt, vs, _⟩ := hVV
  simp only [Value.agg.injEq, Array.mk.injEq, List.cons.injEq, true_and, and_true] at ev
  obtain ⟨rfl, rfl, rfl, rfl⟩ := ev
  have HR : Hid (VRows V (.slice ra S.rows.length rc) S.rows) := vr
  have HT : Hid (VTombs V (.slice ta S.tombs.length tc) S.tombs) := vt
  have HS : Hid (VSess V (.slice sa S.sess.length sc) S.sess) := vs
  have HRR : Hid (∀ (i : Nat) r, S.rows[i]? = some r → (∀ x ∈ r.key, 0 ≤ x ∧ x ≤ 255) ∧ (∀ x ∈ r.val, 0 ≤ x ∧ x ≤ 255)) := fun i r hi => by
    obtain ⟨C, _, hC⟩ := vr
    obtain ⟨h1, h2, _⟩ := hC i r hi
    obtain ⟨_, _, _, z1, _⟩ := h1
    obtain ⟨_, _, _, z2, _⟩ := h2
    exact ⟨z1.rng, z2.rng⟩
  have HTR : Hid (∀ (i : Nat) r, S.tombs[i]? = some r → (∀ x ∈ r.key, 0 ≤ x ∧ x ≤ 255)) := fun i r hi => by
    obtain ⟨C, _, hC⟩ := vt
    obtain ⟨h1, _⟩ := hC i r hi
    obtain ⟨_, _, _, z1, _⟩ := h1
    exact z1.rng
  have HV := Lib.hid hV
  clear hV q bV h vr vt vs
  obtain ⟨ix, hix⟩ := Int.eq_ofNat_of_zero_le hN.index.1
  have HIX : Hid (S.index = (ix : Int)) := hix
  have hix6 : ix ≤ 1000000 := by have := hN.index; omega
  clear hix
  obtain ⟨nr, hnr⟩ : ∃ n, n = S.rows.length := ⟨_, rfl⟩
  have HNR : Hid (nr = S.rows.length) := hnr
  obtain ⟨nt, hnt⟩ : ∃ n, n = S.tombs.length := ⟨_, rfl⟩
  have HNT : Hid (nt = S.tombs.length) := hnt
  obtain ⟨ns, hns⟩ : ∃ n, n = S.sess.length := ⟨_, rfl⟩
  have HNS : Hid (ns = S.sess.length) := hns
  have hr20 : nr ≤ 20 := by have := hN.rl; omega
  have ht10 : nt ≤ 10 := by have := hN.tl; omega
  have hs8 : ns ≤ 8 := by have := hN.sl; omega
  rw [← hnr] at HQ HR HV ⊢
  rw [← hnt] at HQ HT HV ⊢
  rw [← hns] at HQ HS HV ⊢
  rw [HIX.out] at HQ HV ⊢
  clear hnr hnt hns hN
  have HDL : Hid ((decL ix).length ≤ 21) := decL_len ix (by omega)
  have hcv : ∀ W : World, (convert 29 29 (.slice (some ⟨W.heap.size, 0, none⟩) 3 3)).run Tryd.prog (W.alloc (.cells #[.int .u8 97, .int .u8 116, .int .u8 32] 5)) = .ok (.slice (some ⟨W.heap.size, 0, none⟩) 3 3) (W.alloc (.cells #[.int .u8 97, .int .u8 116, .int .u8 32] 5 (3, 4))) := fun W => Joins.run_convert_bytes_const_at W 29 5 #[.int .u8 97, .int .u8 116, .int .u8 32] 3 3 W.heap.size rfl Tryd.underlying29 Tryd.underlying5
  have hcV := hcv V
  clear hcv
  have M0 : OwM (V.alloc (.cells #[.int .u8 97, .int .u8 116, .int .u8 32] 5 (3, 4))) V.heap.size (.slice (some ⟨V.heap.size, 0, none⟩) 3 3) [97, 116, 32] := m_const V [97, 116, 32] #[.int .u8 97, .int .u8 116, .int .u8 32] 3 rfl rfl (by omega)
  have B0 : Below V.heap.size V (V.alloc (.cells #[.int .u8 97, .int .u8 116, .int .u8 32] 5 (3, 4))) := (Below.refl _ V).alloc (Nat.le_refl _) _
  obtain ⟨W0, hW0⟩ : ∃ W0, W0 = V.alloc (.cells #[.int .u8 97, .int .u8 116, .int .u8 32] 5 (3, 4)) := ⟨_, rfl⟩
  rw [← hW0] at hcV M0 B0
  clear hW0
  obtain ⟨c0, c1, c2, c3, c4, c5⟩ := HQ.out W0 B0
  go_enter Tryd.func18, Tryd.ntmps18
  go_upto_region 1 with fail
  rw [← HV.out]
  clear HV
  go_wp2_with (go_at_call 44; refine (digitsV ix (by omega) W0).mono ?_; rintro e w1 ⟨v1, rfl, o1, b1⟩; refine Hid.out ?_)
  refine Lib.hid ?_
  have B1 := B0.trans (b1.mono B0.size)
  have M1 := M0.ext (ext_below b1)
  obtain ⟨d0, dc, rfl, r1, _⟩ := o1.rv (decL_rng ix)
  clear c0 c1 c2 c3 c4 c5 hcV
  go_wp2_with (at_builtin; refine wpList_append_m _ rfl _ _ 29 rfl V.heap.size info5 Tryd.underlying29 (.slice (some ⟨V.heap.size, 0, none⟩) 3 3) [97, 116, 32] rfl M1 d0 (decL ix).length dc (decL ix) rfl r1 (by have := HDL.out; simp only [List.length_cons, List.length_nil]; omega) B1.size ?_; intro v2 w2 o2 g2 _; refine Hid.out ?_)
  refine Lib.hid ?_
  have B2 : Below V.heap.size V w2 := m_below B1 (Nat.le_refl _) M1 B1.size g2
  clear g2 r1 o1 M1 M0 B0 b1 B1
  go_wp2_with (at_builtin; refine wpList_append_m _ rfl _ _ 29 rfl V.heap.size info5 Tryd.underlying29 v2 ([97, 116, 32] ++ decL ix) rfl (o2.ext (hE _ _)) _ 1 1 [10] rfl (rd_one w2 10 (by omega) (by omega)) (by have := HDL.out; simp only [List.length_append, List.length_cons, List.length_nil]; omega) (by have := B2.size; simp; omega) ?_; intro v3 w3 o3 g3 _; refine Hid.out ?_)
  refine Lib.hid ?_
  have O3 : OwM w3 V.heap.size v3 (lineAt S.index) := by
    have e1 : S.index.toNat = ix := by rw [HIX.out]; omega
    unfold lineAt
    rw [e1]
    simpa using o3
  have B3 : Below V.heap.size V w3 := m_below (B2.alloc B2.size _) (Nat.le_refl _) (o2.ext (hE _ _)) (by have := B2.size; simp; omega) g3
  clear o3 g3 o2 B2
  have HLA : Hid (0 < (lineAt S.index).length ∧ (lineAt S.index).length ≤ 30) := by
    have e1 : S.index.toNat = ix := by rw [HIX.out]; omega
    have := HDL.out
    show _ ∧ _
    unfold lineAt
    rw [e1]
    simp only [List.length_append, List.length_cons, List.length_nil]
    omega
  obtain ⟨c0, c1, c2, c3, c4, c5⟩ := HQ.out w3 B3
  go_wp2
  go_loopw [3, 4] (fun t i wr => ∃ k : Nat, k ≤ nr ∧ i = .int .i64 k ∧ OwM wr V.heap.size t (lineAt S.index ++ (S.rows.take k).flatMap lineRow) ∧ Below V.heap.size V wr) (fun _ i _ => nr - (intOf i).toNat)
  case atStart => exact ⟨0, Nat.zero_le _, rfl, by simpa using O3, B3⟩
  case round =>
    obtain ⟨k, hk, rfl, hown, hb⟩ := hrel
    clear O3 B3 c0 c1 c2 c3 c4 c5
    obtain ⟨c0, c1, c2, c3, c4, c5⟩ := HQ.out wr hb
    by_cases hlt : k < nr
    · obtain ⟨r, hr⟩ : ∃ r, S.rows[k]? = some r := ⟨_, List.getElem?_eq_getElem (by have := HNR.out; omega)⟩
      obtain ⟨C, ⟨a', cap', ea, _, _, h3⟩, hC⟩ := HR.out
      simp only [Value.slice.injEq] at ea
      obtain ⟨rfl, en, rfl⟩ := ea
      clear en
      obtain ⟨bb, oo, rfl, hbl, hc⟩ := h3 (by have := HNR.out; omega)
      obtain ⟨rk, rv, e2, e3⟩ := hC k r hr
      have hrn := HN.out.rows k r hr
      have d0 := World.grownBy.cell (ext_below hb) (hc k (by have := HNR.out; omega) 0 (by omega)) (by simp)
      have d1 := World.grownBy.cell (ext_below hb) (hc k (by have := HNR.out; omega) 1 (by omega)) (by simp)
      have d2 := World.grownBy.cell (ext_below hb) (hc k (by have := HNR.out; omega) 2 (by omega)) (by simp)
      have d3 := World.grownBy.cell (ext_below hb) (hc k (by have := HNR.out; omega) 3 (by omega)) (by simp)
      obtain ⟨tn, htn⟩ := Int.eq_ofNat_of_zero_le hrn.2.1.1
      obtain ⟨hn, hhn⟩ := Int.eq_ofNat_of_zero_le hrn.2.2.1
      have tn6 : tn ≤ 1000000 := by have := hrn.2.1.2; omega
      have hn6 : hn ≤ 1000000 := by have := hrn.2.2.2; omega
      have hkl : r.key.length ≤ 20 := hrn.1.1
      have hvl : r.val.length ≤ 20 := hrn.1.2
      rw [e2, htn] at d2
      rw [e3, hhn] at d3
      have RK : Hid (RV V (C k 0) r.key) := rk
      have RW : Hid (RV V (C k 1) r.val) := rv
      have RR : Hid (∀ x ∈ r.val, 0 ≤ x ∧ x ≤ 255) := by obtain ⟨_, _, _, z, _⟩ := rv; exact z.rng
      obtain ⟨ka, kc, ek, _⟩ := rk
      obtain ⟨va, vc, ewv, _⟩ := rv
      rw [ek] at d0 RK
      rw [ewv] at d1 RW
      have HX : Hid ((S.rows.take (k + 1)).flatMap lineRow = (S.rows.take k).flatMap lineRow ++ ([114, 111, 119] ++ (32 :: r.key ++ (32 :: quoteL r.val ++ (32 :: decL tn ++ 32 :: decL hn))) ++ [10])) := by
        show _ = _
        rw [take_flat lineRow hr]
        have e1 : r.turned.toNat = tn := by omega
        have e2 : r.holder.toNat = hn := by omega
        simp [lineRow, e1, e2]
      have HLN : Hid (0 < (lineAt S.index ++ (S.rows.take k).flatMap lineRow).length ∧ (lineAt S.index ++ (S.rows.take k).flatMap lineRow).length ≤ 10000) := by
        have h1 := flat_len lineRow 200 (S.rows.take k) fun i x hx => lineRow_len (HN.out.rows i x (take_get hx))
        have h2 : (S.rows.take k).length ≤ 20 := by simp; omega
        have := HLA.out
        show _ ∧ _
        rw [List.length_append]
        omega
      have HQL : Hid ((quoteL r.val).length ≤ 62) := by have := quoteL_len r.val; show _ ≤ _; omega
      have HTL : Hid ((decL tn).length ≤ 21) := decL_len tn (by omega)
      have HHL : Hid ((decL hn).length ≤ 21) := decL_len hn (by omega)
      rw [Nat.add_zero] at d0
      clear hC hc h3 e2 e3 ek ewv htn hhn hrn hr
      have hlt' : (k : Int) < (nr : Int) := by omega
      obtain ⟨X, hX⟩ : ∃ X, X = lineAt S.index ++ (S.rows.take k).flatMap lineRow := ⟨_, rfl⟩
      have HXX : Hid (X = lineAt S.index ++ (S.rows.take k).flatMap lineRow) := hX
      rw [← hX] at hown HLN
      clear hX
      go_upto_region 7 with fail
      obtain ⟨U, hU⟩ : ∃ U, U = wr.alloc (.cells #[.slice ka r.key.length kc, .slice va r.val.length vc, .int .i64 (tn : Int), .int .i64 (hn : Int)] 57) := ⟨_, rfl⟩
      have u : U.heap[wr.heap.size]? = some (.cells #[.slice ka r.key.length kc, .slice va r.val.length vc, .int .i64 (tn : Int), .int .i64 (hn : Int)] 57 (0, 0)) := by rw [hU]; exact heap_alloc_new wr _
      have BU : Bk V.heap.size wr U := by rw [hU]; exact (Bk.refl _ wr).alloc hb.size _
      have BV : Below V.heap.size V U := hb.trans BU.below
      have OU : OwM U V.heap.size u3 X := by rw [hU]; exact hown.ext (hE _ _)
      have HU := Lib.hid hU
      have UQ : Hid (U.heap[wr.heap.size]? = some (.cells #[.slice ka r.key.length kc, .slice va r.val.length vc, .int .i64 (tn : Int), .int .i64 (hn : Int)] 57 (0, 0))) := u
      have HXR : Hid (∀ x ∈ X, 0 ≤ x ∧ x ≤ 255) := by
        show ∀ x ∈ X, _
        rw [HXX.out]
        exact rng_app (lineAt_rng _) (flat_rng9 lineRow fun i x hx => lineRow_rng (HRR.out i x (take_get hx)))
      obtain ⟨xa, xc, rfl, xr, _⟩ := OU.rv HXR.out
      clear hU d0 d1 d2 d3 hown c0 c1 c2 c3 c4 c5
      rw [← HU.out]
      clear HU
      have HC : Hid (∀ W : World, W.heap[wr.heap.size]? = some (.cells #[.slice ka r.key.length kc, .slice va r.val.length vc, .int .i64 (tn : Int), .int .i64 (hn : Int)] 57 (0, 0)) → W.cell? ⟨wr.heap.size, 0, none⟩ = some (.slice ka r.key.length kc) ∧ W.cell? ⟨wr.heap.size, 1, none⟩ = some (.slice va r.val.length vc) ∧ W.cell? ⟨wr.heap.size, 2, none⟩ = some (.int .i64 (tn : Int)) ∧ W.cell? ⟨wr.heap.size, 3, none⟩ = some (.int .i64 (hn : Int))) := fun W h => ⟨(at_block h 0 _ rfl).1, (at_block h 1 _ rfl).1, (at_block h 2 _ rfl).1, (at_block h 3 _ rfl).1⟩
      obtain ⟨p0, p1, p2, p3⟩ := HC.out U u
      clear u
      have k0 : ∀ o, (U.alloc o).cell? ⟨wr.heap.size, 0, none⟩ = some (.slice ka r.key.length kc) := fun o => World.grownBy.cell (hE U o) p0 (by simp)
      have EM : Ow (U.drew.alloc (.cells #[] 5)) V.heap.size (.slice (some ⟨U.heap.size, 0, none⟩) 0 0) [] := ow_base (ow_empty U.drew) BV.size
      have xr' : Rd (U.drew.alloc (.cells #[] 5)) xa X.length X := xr.grown ((ext_drewN U 1).tr (hE U.drew _))
      have HB4 : Hid (∀ w4, (U.drew.alloc (.cells #[] 5)).grownBy w4 (Value.slice (some ⟨U.heap.size, 0, none⟩) 0 0).ownBlock → Bk V.heap.size U w4) := fun w4 g => (((Bk.refl _ U).drewN 1).alloc BV.size _).grown EM (by have := BV.size; simp; omega) g
      go_cut [3] from 30 to 36 (fun s3 wx => OwM wx V.heap.size s3 (X ++ [114, 111, 119] ++ 32 :: r.key) ∧ Bk V.heap.size U wx)
      case first =>
        go_region_law (first
          | (refine step_append_str rfl (.tmp 32) (.const (.string ⟨#[114, 111, 119]⟩)) 29 9 rfl V.heap.size info5 Tryd.underlying29 Tryd.underlying9 v4 X [114, 111, 119] (by first | rfl | simp [Act.eval, Act.put]) o4 ⟨#[114, 111, 119]⟩ (by first | rfl | simp [Act.eval, Act.put]) rfl (by have := HLN.out; simp only [List.length_cons, List.length_nil]; omega) (Nat.le_trans BV.size B4.size) ?_; intro v5 w5 o5 g5; have B5 := B4.grown o4 (Nat.le_trans BV.size B4.size) g5; obtain ⟨y0, y1, y2, y3⟩ := HC.out w5 (B5.block UQ.out (by decide)))
          | (refine step_append_bytes rfl (.tmp 30) (.tmp 31) 29 rfl V.heap.size info5 Tryd.underlying29 (.slice (some ⟨U.heap.size, 0, none⟩) 0 0) [] (by first | rfl | simp [Act.eval, Act.put]) EM xa X.length xc X (by first | rfl | simp [Act.eval, Act.put]) xr' (by have := HLN.out; simp only [List.length_nil]; omega) (by have := BV.size; simp; omega) ?_; intro v4 w4 o4 g4; rw [List.nil_append] at o4; have B4 := HB4.out w4 g4; obtain ⟨z0, z1, z2, z3⟩ := HC.out w4 (B4.block UQ.out (by decide)))
          | (go_simp; go_at_call 45; refine (wordO RK.out (BV.trans B5.below) o5.m (by have := HLN.out; simp only [List.length_append, List.length_cons, List.length_nil]; omega) (by have := HLN.out; simp only [List.length_append, List.length_cons, List.length_nil]; omega) (by omega)).mono ?_; rintro e w6 ⟨v6, rfl, o6, b6⟩))
        all_goals
          go_wp2_with fail
          go_meet
        all_goals exact ⟨o6, B5.trans b6⟩
      obtain ⟨oc, bc⟩ := hcut
      have BW := BV.trans bc.below
      clear p0 p1 p2 p3 k0 EM xr xr' HB4
      obtain ⟨p0, p1, p2, p3⟩ := HC.out wc (bc.block UQ.out (by decide))
      have HW9 : Hid (wc.heap[wr.heap.size]? = some (.cells #[.slice ka r.key.length kc, .slice va r.val.length vc, .int .i64 (tn : Int), .int .i64 (hn : Int)] 57 (0, 0))) := bc.block UQ.out (by decide)
      have HBK : Hid (∀ W, Bk V.heap.size wc W → Below V.heap.size V W ∧ W.cell? ⟨wr.heap.size, 0, none⟩ = some (.slice ka r.key.length kc) ∧ W.cell? ⟨wr.heap.size, 1, none⟩ = some (.slice va r.val.length vc) ∧ W.cell? ⟨wr.heap.size, 2, none⟩ = some (.int .i64 (tn : Int)) ∧ W.cell? ⟨wr.heap.size, 3, none⟩ = some (.int .i64 (hn : Int))) := fun W b => ⟨BW.trans b.below, HC.out W (b.block HW9.out (by decide))⟩
      have BD : Bk V.heap.size wc wc.drew := (Bk.refl _ wc).drewN 1
      have od : OwM wc.drew V.heap.size u3 (X ++ [114, 111, 119] ++ 32 :: r.key) := oc
      have BWd : Below V.heap.size V wc.drew := BW.drew
      clear oc
      go_upto_region 8 with fail
      go_region_held3 (fun w' => w'.cell? ⟨wr.heap.size, 0, none⟩ = some (.slice ka r.key.length kc) ∧ w'.cell? ⟨wr.heap.size, 1, none⟩ = some (.slice va r.val.length vc) ∧ w'.cell? ⟨wr.heap.size, 2, none⟩ = some (.int .i64 (tn : Int)) ∧ w'.cell? ⟨wr.heap.size, 3, none⟩ = some (.int .i64 (hn : Int))) (first | (simp [*]; done) | go_keep)
        (first
        | (go_at_call 45; have hh := Q5; clear hh; refine (wordN (decL_rng hn) L4 o4 (by have := HLN.out; have := HQL.out; have := HTL.out; have := HHL.out; simp only [List.length_append, List.length_cons, List.length_nil]; omega) (by have := HLN.out; have := HQL.out; have := HTL.out; have := HHL.out; simp only [List.length_append, List.length_cons, List.length_nil]; omega) Q5 D5 (by have := HHL.out; omega)).mono ?_; rintro e y6 ⟨v6, rfl, o6, b6⟩; have K6 := K5.trans b6; obtain ⟨L6, f0, f1, f2, f3⟩ := HBK.out y6 K6)
        | (go_at_call 44; have hh := o4; clear hh; refine (digitsV hn (by omega) y4).mono ?_; rintro e y5 ⟨t5, rfl, Q5, D5⟩; have K5 := K4.trans (Bk.of D5 L4.size); obtain ⟨L5, e0, e1, e2, e3⟩ := HBK.out y5 K5)
        | (go_at_call 45; have hh := Q3; clear hh; refine (wordN (decL_rng tn) L2 o2 (by have := HLN.out; have := HQL.out; have := HTL.out; have := HHL.out; simp only [List.length_append, List.length_cons, List.length_nil]; omega) (by have := HLN.out; have := HQL.out; have := HTL.out; have := HHL.out; simp only [List.length_append, List.length_cons, List.length_nil]; omega) Q3 D3 (by have := HTL.out; omega)).mono ?_; rintro e y4 ⟨v4, rfl, o4, b4⟩; have K4 := K3.trans b4; obtain ⟨L4, d0, d1, d2, d3⟩ := HBK.out y4 K4)
        | (go_at_call 44; have hh := o2; clear hh; refine (digitsV tn (by omega) y2).mono ?_; rintro e y3 ⟨t3, rfl, Q3, D3⟩; have K3 := K2.trans (Bk.of D3 L2.size); obtain ⟨L3, c0, c1, c2, c3⟩ := HBK.out y3 K3)
        | (go_at_call 45; have hh := Q1; clear hh; refine (wordN (quoteL_rng RR.out) BWd od (by have := HLN.out; have := HQL.out; have := HTL.out; have := HHL.out; simp only [List.length_append, List.length_cons, List.length_nil]; omega) (by have := HLN.out; have := HQL.out; have := HTL.out; have := HHL.out; simp only [List.length_append, List.length_cons, List.length_nil]; omega) Q1 D1 (by have := HQL.out; omega)).mono ?_; rintro e y2 ⟨v2, rfl, o2, b2⟩; have K2 := K1.trans b2; obtain ⟨L2, a0, a1, a2, a3⟩ := HBK.out y2 K2)
        | (go_at_call 46; refine (quotedV (.slice va r.val.length vc) r.val wc.drew (RW.out.ext (ext_below BWd)) (by omega)).mono ?_; rintro e y1 ⟨t1, rfl, Q1, D1⟩; have K1 := BD.trans (Bk.of D1 BWd.size); obtain ⟨L1, n0, n1, n2, n3⟩ := HBK.out y1 K1))
      all_goals
        go_wp2_with (at_builtin; refine wpList_append_m _ rfl _ _ 29 rfl V.heap.size info5 Tryd.underlying29 v6 _ rfl (o6.ext (hE _ _)) _ 1 1 [10] rfl (rd_one y6 10 (by omega) (by omega)) (by have := HLN.out; have := HQL.out; have := HTL.out; have := HHL.out; simp only [List.length_append, List.length_cons, List.length_nil]; omega) (by have := L6.size; simp; omega) ?_; intro v7 w7 o7 g7 _)
        have B7 : Below V.heap.size V w7 := m_below (L6.alloc L6.size _) (Nat.le_refl _) (o6.ext (hE _ _)) (by have := L6.size; simp; omega) g7
        go_roundw
        case rel => exact ⟨k + 1, by omega, by go_num, by rw [HX.out, ← List.append_assoc, ← HXX.out]; simpa using o7, B7⟩
        case measure => simp [intOf]; omega
    · have hkn : k = nr := by omega
      subst hkn
      have HTA : Hid (S.rows.take k = S.rows) := List.take_of_length_le (by have := HNR.out; omega)
      rw [HTA.out] at hown
      obtain ⟨base, hbase⟩ : ∃ base, base = lineAt S.index ++ S.rows.flatMap lineRow := ⟨_, rfl⟩
      have HBA : Hid (base = lineAt S.index ++ S.rows.flatMap lineRow) := hbase
      have HLB : Hid (0 < base.length ∧ base.length ≤ 4100) := by
        have h1 := flat_len lineRow 200 S.rows fun i x hx => lineRow_len (HN.out.rows i x hx)
        have := HLA.out
        have := HN.out.rl
        show _ ∧ _
        rw [hbase, List.length_append]
        omega
      have HBR : Hid (∀ x ∈ base, 0 ≤ x ∧ x ≤ 255) := by
        show ∀ x ∈ base, _
        rw [hbase]
        exact rng_app (lineAt_rng _) (flat_rng9 lineRow fun i x hx => lineRow_rng (HRR.out i x hx))
      rw [← hbase] at hown
      clear hbase
      obtain ⟨wa, hwa⟩ : ∃ wa, wa = wr := ⟨_, rfl⟩
      rw [← hwa] at hown hb c0 c1 c2 c3 c4 c5 ⊢
      clear hwa
      go_wp2
      go_loopw [3, 6] (fun t i wr => ∃ k : Nat, k ≤ nt ∧ i = .int .i64 k ∧ OwM wr V.heap.size t (base ++ (S.tombs.take k).flatMap lineTomb) ∧ Below V.heap.size V wr) (fun _ i _ => nt - (intOf i).toNat)
      case atStart => exact ⟨0, Nat.zero_le _, rfl, by simpa using hown, hb⟩
      case round =>
        clear hown hb c0 c1 c2 c3 c4 c5
        obtain ⟨k, hk, rfl, hown, hb⟩ := hrel
        obtain ⟨c0, c1, c2, c3, c4, c5⟩ := HQ.out wr hb
        by_cases hlt : k < nt
        · obtain ⟨r, hr⟩ : ∃ r, S.tombs[k]? = some r := ⟨_, List.getElem?_eq_getElem (by have := HNT.out; omega)⟩
          obtain ⟨C, ⟨a', cap', ea, _, _, h3⟩, hC⟩ := HT.out
          simp only [Value.slice.injEq] at ea
          obtain ⟨rfl, en, rfl⟩ := ea
          clear en
          obtain ⟨bb, oo, rfl, hbl, hc⟩ := h3 (by have := HNT.out; omega)
          obtain ⟨rk, e2⟩ := hC k r hr
          have hrn := HN.out.tombs k r hr
          have d0 := hc k (by have := HNT.out; omega) 0 (by omega)
          have d1 := hc k (by have := HNT.out; omega) 1 (by omega)
          obtain ⟨tn, htn⟩ := Int.eq_ofNat_of_zero_le hrn.2.1
          have tn6 : tn ≤ 1000000 := by have := hrn.2.2; omega
          have HKL : Hid (r.key.length ≤ 20) := hrn.1
          rw [e2, htn] at d1
          have RK : Hid (RV V (C k 0) r.key) := rk
          obtain ⟨ka, kc, ek, _⟩ := rk
          rw [ek] at d0 RK
          rw [Nat.add_zero] at d0
          have HX : Hid ((S.tombs.take (k + 1)).flatMap lineTomb = (S.tombs.take k).flatMap lineTomb ++ ([103, 111, 110, 101] ++ (32 :: r.key ++ 32 :: decL tn) ++ [10])) := by
            show _ = _
            rw [take_flat lineTomb hr]
            have e1 : r.index.toNat = tn := by omega
            simp [lineTomb, e1]
          have HTL : Hid ((decL tn).length ≤ 21) := decL_len tn (by omega)
          obtain ⟨X, hX⟩ : ∃ X, X = base ++ (S.tombs.take k).flatMap lineTomb := ⟨_, rfl⟩
          have HXX : Hid (X = base ++ (S.tombs.take k).flatMap lineTomb) := hX
          have HXR : Hid (∀ x ∈ X, 0 ≤ x ∧ x ≤ 255) := by
            show ∀ x ∈ X, _
            rw [hX]
            exact rng_app HBR.out (flat_rng9 lineTomb fun i x hx => lineTomb_rng (HTR.out i x (take_get hx)))
          have HLN : Hid (0 < X.length ∧ X.length ≤ 10000) := by
            have h1 := flat_len lineTomb 60 (S.tombs.take k) fun i x hx => lineTomb_len (HN.out.tombs i x (take_get hx))
            have h2 : (S.tombs.take k).length ≤ 10 := by simp; omega
            have := HLB.out
            show _ ∧ _
            rw [hX, List.length_append]
            omega
          rw [← hX] at hown
          have HCL : Hid (∀ W, Below V.heap.size V W → W.cell? ⟨bb, oo + k * 2, none⟩ = some (.slice ka r.key.length kc) ∧ W.cell? ⟨bb, oo + k * 2 + 1, none⟩ = some (.int .i64 (tn : Int)) ∧ W.cell? ⟨w.heap.size, 2, none⟩ = some (.slice (some ⟨bb, oo, none⟩) nt tc)) := fun W b => ⟨World.grownBy.cell (ext_below b) d0 (by simp), World.grownBy.cell (ext_below b) d1 (by simp), (HQ.out W b).2.2.1⟩
          clear hX hC hc h3 e2 ek htn hrn hr d0 d1
          have hlt' : (k : Int) < (nt : Int) := by omega
          obtain ⟨xa, xc, rfl, xr, _⟩ := hown.rv HXR.out
          have EM : Ow (wr.drew.alloc (.cells #[] 5)) V.heap.size (.slice (some ⟨wr.heap.size, 0, none⟩) 0 0) [] := ow_base (ow_empty wr.drew) hb.size
          have xr' : Rd (wr.drew.alloc (.cells #[] 5)) xa X.length X := xr.grown ((ext_drewN wr 1).tr (hE wr.drew _))
          have HB4 : Hid (∀ w4, (wr.drew.alloc (.cells #[] 5)).grownBy w4 (Value.slice (some ⟨wr.heap.size, 0, none⟩) 0 0).ownBlock → Bk V.heap.size wr w4) := fun w4 g => (((Bk.refl _ wr).drewN 1).alloc hb.size _).grown EM (by have := hb.size; simp; omega) g
          have HBK : Hid (∀ W, Bk V.heap.size wr W → Below V.heap.size V W ∧ W.cell? ⟨bb, oo + k * 2, none⟩ = some (.slice ka r.key.length kc) ∧ W.cell? ⟨w.heap.size, 2, none⟩ = some (.slice (some ⟨bb, oo, none⟩) nt tc)) := fun W b => by
            obtain ⟨h1, _, h2⟩ := HCL.out W (hb.trans b.below)
            exact ⟨hb.trans b.below, h1, h2⟩
          obtain ⟨d0, d1, d2⟩ := HCL.out wr hb
          have kd0 : ∀ o, (wr.alloc o).cell? ⟨bb, oo + k * 2, none⟩ = some (.slice ka r.key.length kc) := fun o => World.grownBy.cell (hE wr o) d0 (by simp)
          have kd2 : ∀ o, (wr.alloc o).cell? ⟨w.heap.size, 2, none⟩ = some (.slice (some ⟨bb, oo, none⟩) nt tc) := fun o => World.grownBy.cell (hE wr o) d2 (by simp)
          clear d2
          go_upto_region 13 with fail
          go_cut [3] from 60 to 70 (fun s3 wx => OwM wx V.heap.size s3 (X ++ [103, 111, 110, 101] ++ 32 :: r.key) ∧ Bk V.heap.size wr wx)
          case first =>
            go_region_law (first
              | (refine step_append_str rfl (.tmp 62) (.const (.string ⟨#[103, 111, 110, 101]⟩)) 29 9 rfl V.heap.size info5 Tryd.underlying29 Tryd.underlying9 v4 X [103, 111, 110, 101] (by first | rfl | simp [Act.eval, Act.put]) o4 ⟨#[103, 111, 110, 101]⟩ (by first | rfl | simp [Act.eval, Act.put]) rfl (by have := HLN.out; simp only [List.length_cons, List.length_nil]; omega) L4.size ?_; intro v5 w5 o5 g5; have B5 := B4.grown o4 L4.size g5; obtain ⟨L5, y0, y1⟩ := HBK.out w5 B5)
              | (refine step_append_bytes rfl (.tmp 60) (.tmp 61) 29 rfl V.heap.size info5 Tryd.underlying29 (.slice (some ⟨wr.heap.size, 0, none⟩) 0 0) [] (by first | rfl | simp [Act.eval, Act.put]) EM xa X.length xc X (by first | rfl | simp [Act.eval, Act.put]) xr' (by have := HLN.out; simp only [List.length_nil]; omega) (by have := hb.size; simp; omega) ?_; intro v4 w4 o4 g4; rw [List.nil_append] at o4; have B4 := HB4.out w4 g4; obtain ⟨L4, z0, z1⟩ := HBK.out w4 B4)
              | (go_simp; go_at_call 45; refine (wordO RK.out L5 o5.m (by have := HLN.out; have := HKL.out; have := HTL.out; simp only [List.length_append, List.length_cons, List.length_nil]; omega) (by have := HLN.out; have := HKL.out; have := HTL.out; simp only [List.length_append, List.length_cons, List.length_nil]; omega) (by have := HKL.out; omega)).mono ?_; rintro e w6 ⟨v6, rfl, o6, b6⟩))
            all_goals
              go_wp2_with fail
              go_meet
            all_goals exact ⟨o6, B5.trans b6⟩
          obtain ⟨oc, bc⟩ := hcut
          have BW := hb.trans bc.below
          clear c0 c1 c2 c3 c4 c5 d0 d1 kd0 kd2 EM xr xr' HB4
          obtain ⟨d0, d1, d2⟩ := HCL.out wc BW
          go_wp2_with (first
            | (go_at_call 45; refine (wordN (decL_rng tn) BW oc (by have := HLN.out; have := HKL.out; have := HTL.out; simp only [List.length_append, List.length_cons, List.length_nil]; omega) (by have := HLN.out; have := HKL.out; have := HTL.out; simp only [List.length_append, List.length_cons, List.length_nil]; omega) Q3 D3 (by have := HTL.out; omega)).mono ?_; rintro e y4 ⟨v4, rfl, o4, b4⟩; have L4 := (BW.trans (D3.mono BW.size)).trans b4.below)
            | (go_at_call 44; refine (digitsV tn (by omega) wc).mono ?_; rintro e y3 ⟨t3, rfl, Q3, D3⟩)
            | (at_builtin; refine wpList_append_m _ rfl _ _ 29 rfl V.heap.size info5 Tryd.underlying29 v4 _ rfl (o4.ext (hE _ _)) _ 1 1 [10] rfl (rd_one y4 10 (by omega) (by omega)) (by have := HLN.out; have := HKL.out; have := HTL.out; simp only [List.length_append, List.length_cons, List.length_nil]; omega) (by have := L4.size; simp; omega) ?_; intro v7 w7 o7 g7 _))
          have B7 : Below V.heap.size V w7 := m_below (L4.alloc L4.size _) (Nat.le_refl _) (o4.ext (hE _ _)) (by have := L4.size; simp; omega) g7
          go_roundw
          case rel => exact ⟨k + 1, by omega, by go_num, by rw [HX.out, ← List.append_assoc, ← HXX.out]; simpa using o7, B7⟩
          case measure => simp [intOf]; omega
        · have hkn : k = nt := by omega
          subst hkn
          have HTB : Hid (S.tombs.take k = S.tombs) := List.take_of_length_le (by have := HNT.out; omega)
          rw [HTB.out] at hown
          obtain ⟨base2, hbase2⟩ : ∃ base2, base2 = base ++ S.tombs.flatMap lineTomb := ⟨_, rfl⟩
          have HB2 : Hid (base2 = base ++ S.tombs.flatMap lineTomb) := hbase2
          have HLB2 : Hid (0 < base2.length ∧ base2.length ≤ 5000) := by
            have h1 := flat_len lineTomb 60 S.tombs fun i x hx => lineTomb_len (HN.out.tombs i x hx)
            have := HLB.out
            have := HN.out.tl
            show _ ∧ _
            rw [hbase2, List.length_append]
            omega
          have HBR2 : Hid (∀ x ∈ base2, 0 ≤ x ∧ x ≤ 255) := by
            show ∀ x ∈ base2, _
            rw [hbase2]
            exact rng_app HBR.out (flat_rng9 lineTomb fun i x hx => lineTomb_rng (HTR.out i x hx))
          rw [← hbase2] at hown
          clear hbase2
          obtain ⟨wb, hwb⟩ : ∃ wb, wb = wr := ⟨_, rfl⟩
          rw [← hwb] at hown hb c0 c1 c2 c3 c4 c5 ⊢
          clear hwb
          go_wp2
          go_loopw [3, 7] (fun t i wr => ∃ k : Nat, k ≤ ns ∧ i = .int .i64 k ∧ OwM wr V.heap.size t (base2 ++ (S.sess.take k).flatMap lineSess) ∧ Below V.heap.size V wr) (fun _ i _ => ns - (intOf i).toNat)
          case atStart => exact ⟨0, Nat.zero_le _, rfl, by simpa using hown, hb⟩
          case round =>
            clear hown hb c0 c1 c2 c3 c4 c5
            obtain ⟨k, hk, rfl, hown, hb⟩ := hrel
            obtain ⟨c0, c1, c2, c3, c4, c5⟩ := HQ.out wr hb
            by_cases hlt : k < ns
            · obtain ⟨r, hr⟩ : ∃ r, S.sess[k]? = some r := ⟨_, List.getElem?_eq_getElem (by have := HNS.out; omega)⟩
              obtain ⟨C, ⟨a', cap', ea, _, _, h3⟩, hC⟩ := HS.out
              simp only [Value.slice.injEq] at ea
              obtain ⟨rfl, en, rfl⟩ := ea
              clear en
              obtain ⟨bb, oo, rfl, hbl, hc⟩ := h3 (by have := HNS.out; omega)
              obtain ⟨e1, e2⟩ := hC k r hr
              have hrn := HN.out.sess k r hr
              have d0 := hc k (by have := HNS.out; omega) 0 (by omega)
              have d1 := hc k (by have := HNS.out; omega) 1 (by omega)
              obtain ⟨tn, htn⟩ := Int.eq_ofNat_of_zero_le hrn.1
              have tn6 : tn ≤ 1000000 := by have := hrn.2; omega
              rw [e1, htn, Nat.add_zero] at d0
              rw [e2] at d1
              have HX : Hid ((S.sess.take (k + 1)).flatMap lineSess = (S.sess.take k).flatMap lineSess ++ (sesL r.del ++ 32 :: decL tn ++ [10])) := by
                show _ = _
                rw [take_flat lineSess hr]
                have : r.id.toNat = tn := by omega
                simp [lineSess, this]
              have HTL : Hid ((decL tn).length ≤ 21) := decL_len tn (by omega)
              obtain ⟨X, hX⟩ : ∃ X, X = base2 ++ (S.sess.take k).flatMap lineSess := ⟨_, rfl⟩
              have HXX : Hid (X = base2 ++ (S.sess.take k).flatMap lineSess) := hX
              have HXR : Hid (∀ x ∈ X, 0 ≤ x ∧ x ≤ 255) := by
                show ∀ x ∈ X, _
                rw [hX]
                exact rng_app HBR2.out (flat_rng9 lineSess fun i x _ => lineSess_rng x)
              have HLN : Hid (0 < X.length ∧ X.length ≤ 10000) := by
                have h1 := flat_len lineSess 60 (S.sess.take k) fun i x hx => lineSess_len (HN.out.sess i x (take_get hx))
                have h2 : (S.sess.take k).length ≤ 8 := by simp; omega
                have := HLB2.out
                show _ ∧ _
                rw [hX, List.length_append]
                omega
              rw [← hX] at hown
              obtain ⟨dl, hdl⟩ : ∃ dl, dl = r.del := ⟨_, rfl⟩
              rw [← hdl] at d1 HX
              have HCL : Hid (∀ W, Below V.heap.size V W → W.cell? ⟨bb, oo + k * 2, none⟩ = some (.int .i64 (tn : Int)) ∧ W.cell? ⟨w.heap.size, 4, none⟩ = some (.slice (some ⟨bb, oo, none⟩) ns sc)) := fun W b => ⟨World.grownBy.cell (ext_below b) d0 (by simp), (HQ.out W b).2.2.2.2.1⟩
              have HBK : Hid (∀ W, Bk V.heap.size wr W → Below V.heap.size V W ∧ W.cell? ⟨bb, oo + k * 2, none⟩ = some (.int .i64 (tn : Int)) ∧ W.cell? ⟨w.heap.size, 4, none⟩ = some (.slice (some ⟨bb, oo, none⟩) ns sc) ∧ (∀ o, (W.alloc o).cell? ⟨bb, oo + k * 2, none⟩ = some (.int .i64 (tn : Int))) ∧ (∀ o, (W.alloc o).cell? ⟨w.heap.size, 4, none⟩ = some (.slice (some ⟨bb, oo, none⟩) ns sc))) := fun W b => by
                have L := hb.trans b.below
                exact ⟨L, (HCL.out W L).1, (HCL.out W L).2, fun o => (HCL.out _ (L.alloc L.size o)).1, fun o => (HCL.out _ (L.alloc L.size o)).2⟩
              have D0 := World.grownBy.cell (ext_below hb) d0 (by simp)
              have D1 := World.grownBy.cell (ext_below hb) d1 (by simp)
              clear hX hC hc h3 e1 e2 htn hrn hr hdl d0 d1
              have hlt' : (k : Int) < (ns : Int) := by omega
              obtain ⟨xa, xc, rfl, xr, _⟩ := hown.rv HXR.out
              have EM1 : OwM (wr.drew.alloc (.cells #[] 5)) V.heap.size (.slice (some ⟨wr.heap.size, 0, none⟩) 0 0) [] := (ow_base (ow_empty wr.drew) hb.size).m
              have EM2 : OwM ((wr.drew.alloc (.cells #[.int .u8 10] 5)).alloc (.cells #[] 5)) V.heap.size (.slice (some ⟨wr.heap.size + 1, 0, none⟩) 0 0) [] := by
                have h9 := ow_empty (wr.drew.alloc (.cells #[.int .u8 10] 5))
                rw [show (wr.drew.alloc (.cells #[.int .u8 10] 5)).heap.size = wr.heap.size + 1 by simp] at h9
                exact (ow_base h9 (by have := hb.size; omega)).m
              have EM3 : OwM ((wr.drew.alloc (.cells #[] 5)).alloc (.cells #[.int .u8 10] 5)) V.heap.size (.slice (some ⟨wr.heap.size, 0, none⟩) 0 0) [] := EM1.ext (hE _ _)
              have J2 : J10 ((wr.drew.alloc (.cells #[.int .u8 10] 5)).alloc (.cells #[] 5)) (.slice (some ⟨wr.heap.size + 1, 0, none⟩) 0 0) wr.heap.size := ⟨(rd_one wr.drew 10 (by omega) (by omega)).grown (hE _ _), by simp [Value.ownBlock]⟩
              have J3 : J10 ((wr.drew.alloc (.cells #[] 5)).alloc (.cells #[.int .u8 10] 5)) (.slice (some ⟨wr.heap.size, 0, none⟩) 0 0) (wr.heap.size + 1) := by
                have h9 := rd_one (wr.drew.alloc (.cells #[] 5)) 10 (by omega) (by omega)
                rw [show (wr.drew.alloc (.cells #[] 5)).heap.size = wr.heap.size + 1 by simp] at h9
                exact ⟨h9, by simp [Value.ownBlock]⟩
              have xr1 : Rd (wr.drew.alloc (.cells #[] 5)) xa X.length X := xr.grown ((ext_drewN wr 1).tr (hE wr.drew _))
              have xr2 : Rd ((wr.drew.alloc (.cells #[.int .u8 10] 5)).alloc (.cells #[] 5)) xa X.length X := xr.grown (((ext_drewN wr 1).tr (hE wr.drew _)).tr (hE _ _))
              have xr3 : Rd ((wr.drew.alloc (.cells #[] 5)).alloc (.cells #[.int .u8 10] 5)) xa X.length X := xr.grown (((ext_drewN wr 1).tr (hE wr.drew _)).tr (hE _ _))
              have BD1 : Bk V.heap.size wr (wr.drew.alloc (.cells #[] 5)) := ((Bk.refl _ wr).drewN 1).alloc hb.size _
              have BD2 : Bk V.heap.size wr ((wr.drew.alloc (.cells #[.int .u8 10] 5)).alloc (.cells #[] 5)) := (((Bk.refl _ wr).drewN 1).alloc hb.size _).alloc (by have := hb.size; simp; omega) _
              have BD3 : Bk V.heap.size wr ((wr.drew.alloc (.cells #[] 5)).alloc (.cells #[.int .u8 10] 5)) := BD1.alloc (by have := hb.size; simp; omega) _
              have SZ1 : V.heap.size ≤ (wr.drew.alloc (.cells #[] 5)).heap.size := Nat.le_trans hb.size BD1.size
              have SZ2 : V.heap.size ≤ ((wr.drew.alloc (.cells #[.int .u8 10] 5)).alloc (.cells #[] 5)).heap.size := Nat.le_trans hb.size BD2.size
              have SZ3 : V.heap.size ≤ ((wr.drew.alloc (.cells #[] 5)).alloc (.cells #[.int .u8 10] 5)).heap.size := Nat.le_trans hb.size BD3.size
              have HH : Hid (_ ∧ _ ∧ _ ∧ _ ∧ _) := ⟨EM1, EM2, EM3, J2, J3⟩
              have HH2 : Hid (_ ∧ _ ∧ _ ∧ _ ∧ _ ∧ _ ∧ _ ∧ _ ∧ _) := ⟨xr1, xr2, xr3, BD1, BD2, BD3, SZ1, SZ2, SZ3⟩
              clear EM1 EM2 EM3 J2 J3 xr1 xr2 xr3 BD1 BD2 BD3 SZ1 SZ2 SZ3
              have kd0 : ∀ o, (wr.alloc o).cell? ⟨bb, oo + k * 2, none⟩ = some (.int .i64 (tn : Int)) := fun o => World.grownBy.cell (hE wr o) D0 (by simp)
              have kd4 : ∀ o, (wr.alloc o).cell? ⟨w.heap.size, 4, none⟩ = some (.slice (some ⟨bb, oo, none⟩) ns sc) := fun o => World.grownBy.cell (hE wr o) c4 (by simp)
              have kdd0 : ∀ o o', ((wr.alloc o).alloc o').cell? ⟨bb, oo + k * 2, none⟩ = some (.int .i64 (tn : Int)) := fun o o' => World.grownBy.cell (hE _ o') (kd0 o) (by simp)
              have kdd4 : ∀ o o', ((wr.alloc o).alloc o').cell? ⟨w.heap.size, 4, none⟩ = some (.slice (some ⟨bb, oo, none⟩) ns sc) := fun o o' => World.grownBy.cell (hE _ o') (kd4 o) (by simp)
              cases dl
              · have HXb : Hid ((S.sess.take (k + 1)).flatMap lineSess = (S.sess.take k).flatMap lineSess ++ ([115, 101, 115, 115, 105, 111, 110] ++ 32 :: decL tn ++ [10])) := by
                  have h9 := HX.out
                  rw [show sesL false = [115, 101, 115, 115, 105, 111, 110] from rfl] at h9
                  exact h9
                clear HX
                go_upto_region 21 with fail
                have HFIN : Hid (∀ v' w', OwM w' V.heap.size v' (X ++ [115, 101, 115, 115, 105, 111, 110] ++ 32 :: decL tn ++ [10]) → OwM w' V.heap.size v' (base2 ++ (S.sess.take (k + 1)).flatMap lineSess)) := fun v' w' h => by
                  rw [HXb.out, ← List.append_assoc, ← HXX.out]
                  simpa using h
                go_region_held3 (fun w' => w'.cell? ⟨bb, oo + k * 2, none⟩ = some (.int .i64 (tn : Int)) ∧ w'.cell? ⟨w.heap.size, 4, none⟩ = some (.slice (some ⟨bb, oo, none⟩) ns sc)) (first | (simp [*]; done) | go_keep)
                  (first
                    | (refine step_mN rfl (.tmp 107) (.tmp 108) 29 rfl V.heap.size info5 Tryd.underlying29 v7 (X ++ [115, 101, 115, 115, 105, 111, 110] ++ 32 :: decL tn) (by first | rfl | simp [Act.eval]) o7 (some ⟨_, 0, none⟩) 1 1 [10] (by first | rfl | simp [Act.eval]) J7.rd (by have := HLN.out; have := HTL.out; simp only [List.length_append, List.length_cons, List.length_nil]; omega) L7.size ?_; intro v8 w8 o8 g8 _; have B8 : Below V.heap.size V w8 := m_below L7 (Nat.le_refl _) o7 L7.size g8; obtain ⟨s0, s1⟩ := HCL.out w8 B8)
                    | (refine step_mN rfl (.tmp 107) (.tmp 108) 29 rfl V.heap.size info5 Tryd.underlying29 v7 (X ++ [115, 101, 115, 115, 105, 111, 110] ++ 32 :: decL tn) (by first | rfl | simp [Act.eval]) (o7.ext (hE _ _)) (some ⟨w7.heap.size, 0, none⟩) 1 1 [10] (by first | rfl | simp [Act.eval]) (rd_one w7 10 (by omega) (by omega)) (by have := HLN.out; have := HTL.out; simp only [List.length_append, List.length_cons, List.length_nil]; omega) (by have := L7.size; simp; omega) ?_; intro v8 w8 o8 g8 _; have B8 : Below V.heap.size V w8 := m_below (L7.alloc L7.size _) (Nat.le_refl _) (o7.ext (hE _ _)) (by have := L7.size; simp; omega) g8; obtain ⟨s0, s1⟩ := HCL.out w8 B8)
                    | (refine step_strM rfl (.tmp 97) (.tmp 98) 29 9 rfl V.heap.size info5 Tryd.underlying29 Tryd.underlying9 v4 X [115, 101, 115, 115, 105, 111, 110] (by first | rfl | simp [Act.eval]) o4 (by have := HLN.out; omega) ⟨#[115, 101, 115, 115, 105, 111, 110]⟩ (by first | rfl | simp [Act.eval]) rfl (by have := HLN.out; simp only [List.length_cons, List.length_nil]; omega) L4.size ?_; intro v5 w5 o5 g5 n5; have B5 := B4.grownM o4 L4.size g5; obtain ⟨L5, y0, y1, y2, y3⟩ := HBK.out w5 B5; (first | have J5 := J4.grow g5 n5 | skip))
                    | (refine step_strM rfl (.tmp 97) (.tmp 98) 29 9 rfl V.heap.size info5 Tryd.underlying29 Tryd.underlying9 v4 X [115, 101, 115, 115, 105, 111, 110] (by first | rfl | simp [Act.eval]) (o4.ext (hE _ _)) (by have := HLN.out; omega) ⟨#[115, 101, 115, 115, 105, 111, 110]⟩ (by first | rfl | simp [Act.eval]) rfl (by have := HLN.out; simp only [List.length_cons, List.length_nil]; omega) (by have := L4.size; simp; omega) ?_; intro v5 w5 o5 g5 n5; have B5 := (B4.alloc L4.size _).grownM (o4.ext (hE _ _)) (by have := L4.size; simp; omega) g5; obtain ⟨L5, y0, y1, y2, y3⟩ := HBK.out w5 B5; have J5 := (j10_new o4).grow g5 n5)
                    | (refine step_mN rfl (.tmp 95) (.tmp 96) 29 rfl V.heap.size info5 Tryd.underlying29 (.slice (some ⟨wr.heap.size, 0, none⟩) 0 0) [] (by first | rfl | simp [Act.eval]) HH.out.1 xa X.length xc X (by first | rfl | simp [Act.eval]) HH2.out.1 (by have := HLN.out; simp only [List.length_nil]; omega) HH2.out.2.2.2.2.2.2.1 ?_; intro v4 w4 o4 g4 n4; rw [List.nil_append] at o4; have B4 := Bk.grownM HH2.out.2.2.2.1 HH.out.1 HH2.out.2.2.2.2.2.2.1 g4; obtain ⟨L4, z0, z1, z2, z3⟩ := HBK.out w4 B4)
                    | (refine step_mN rfl (.tmp 95) (.tmp 96) 29 rfl V.heap.size info5 Tryd.underlying29 (.slice (some ⟨wr.heap.size, 0, none⟩) 0 0) [] (by first | rfl | simp [Act.eval]) HH.out.2.2.1 xa X.length xc X (by first | rfl | simp [Act.eval]) HH2.out.2.2.1 (by have := HLN.out; simp only [List.length_nil]; omega) HH2.out.2.2.2.2.2.2.2.2 ?_; intro v4 w4 o4 g4 n4; rw [List.nil_append] at o4; have B4 := Bk.grownM HH2.out.2.2.2.2.2.1 HH.out.2.2.1 HH2.out.2.2.2.2.2.2.2.2 g4; obtain ⟨L4, z0, z1, z2, z3⟩ := HBK.out w4 B4; have J4 := HH.out.2.2.2.2.grow g4 n4)
                    | (refine step_mN rfl (.tmp 95) (.tmp 96) 29 rfl V.heap.size info5 Tryd.underlying29 (.slice (some ⟨wr.heap.size + 1, 0, none⟩) 0 0) [] (by first | rfl | simp [Act.eval]) HH.out.2.1 xa X.length xc X (by first | rfl | simp [Act.eval]) HH2.out.2.1 (by have := HLN.out; simp only [List.length_nil]; omega) HH2.out.2.2.2.2.2.2.2.1 ?_; intro v4 w4 o4 g4 n4; rw [List.nil_append] at o4; have B4 := Bk.grownM HH2.out.2.2.2.2.1 HH.out.2.1 HH2.out.2.2.2.2.2.2.2.1 g4; obtain ⟨L4, z0, z1, z2, z3⟩ := HBK.out w4 B4; have J4 := HH.out.2.2.2.1.grow g4 n4)
                    | (go_at_call 45; refine (wordNN (V := V) (xs := X ++ [115, 101, 115, 115, 105, 111, 110]) (decL_rng tn) ?_ ?_ (by have := HLN.out; have := HTL.out; simp only [List.length_append, List.length_cons, List.length_nil]; omega) (by have := HLN.out; have := HTL.out; simp only [List.length_append, List.length_cons, List.length_nil]; omega) Q6 ?_ P6 (by have := HTL.out; omega)).mono ?_; (first | exact L6 | exact L6.alloc L6.size _); (first | exact O6 | exact O6.ext (hE _ _)); (first | exact World.grownBy.refl _ _ | exact hE _ _); rintro e w7 ⟨v7, rfl, o7, b7, g7, n7⟩; (first | have K7 := K6.trans b7 | have K7 := (K6.alloc L6.size _).trans b7); obtain ⟨L7, m0, m1, m2, m3⟩ := HBK.out w7 K7; (first | have J7 := J6.grow g7 n7 | have J7 := (j10_new O6).grow g7 n7 | skip))
                    | (go_at_call 44; refine (digitsV tn (by omega) _).mono ?_; rintro e w6 ⟨t6, rfl, Q6, D6⟩; (first | (have x6 : Ext w5 w6 := ext_below D6; have P6 : ∀ j, v5.ownBlock = some j → j < w5.heap.size := (fun j hj => (o5.lt j hj).2); (first | have J6 := J5.ext x6 | skip)) | (have x6 : Ext w5 w6 := (hE w5 _).tr (ext_below D6); have P6 : ∀ j, v5.ownBlock = some j → j < (w5.alloc (.cells #[.int .u8 10] 5)).heap.size := (fun j hj => by have := (o5.lt j hj).2; simp; omega); have J6 := (j10_new o5).ext (ext_below D6))); have O6 := o5.ext x6; have K6 := B5.trans (Bk.ofx x6 L5.size); obtain ⟨L6, l0, l1, l2, l3⟩ := HBK.out w6 K6))
                all_goals
                  go_wp2
                  go_roundw
                  case rel => exact ⟨k + 1, by omega, by go_num, HFIN.out _ _ o8, B8⟩
                  case measure => simp [intOf]; omega
              · have HXb : Hid ((S.sess.take (k + 1)).flatMap lineSess = (S.sess.take k).flatMap lineSess ++ ([115, 101, 115, 115, 105, 111, 110, 32, 100, 101, 108, 101, 116, 101] ++ 32 :: decL tn ++ [10])) := by
                  have h9 := HX.out
                  rw [show sesL true = [115, 101, 115, 115, 105, 111, 110, 32, 100, 101, 108, 101, 116, 101] from rfl] at h9
                  exact h9
                clear HX
                go_upto_region 21 with fail
                have HFIN : Hid (∀ v' w', OwM w' V.heap.size v' (X ++ [115, 101, 115, 115, 105, 111, 110, 32, 100, 101, 108, 101, 116, 101] ++ 32 :: decL tn ++ [10]) → OwM w' V.heap.size v' (base2 ++ (S.sess.take (k + 1)).flatMap lineSess)) := fun v' w' h => by
                  rw [HXb.out, ← List.append_assoc, ← HXX.out]
                  simpa using h
                go_region_held3 (fun w' => w'.cell? ⟨bb, oo + k * 2, none⟩ = some (.int .i64 (tn : Int)) ∧ w'.cell? ⟨w.heap.size, 4, none⟩ = some (.slice (some ⟨bb, oo, none⟩) ns sc)) (first | (simp [*]; done) | go_keep)
                  (first
                    | (refine step_mN rfl (.tmp 107) (.tmp 108) 29 rfl V.heap.size info5 Tryd.underlying29 v7 (X ++ [115, 101, 115, 115, 105, 111, 110, 32, 100, 101, 108, 101, 116, 101] ++ 32 :: decL tn) (by first | rfl | simp [Act.eval]) o7 (some ⟨_, 0, none⟩) 1 1 [10] (by first | rfl | simp [Act.eval]) J7.rd (by have := HLN.out; have := HTL.out; simp only [List.length_append, List.length_cons, List.length_nil]; omega) L7.size ?_; intro v8 w8 o8 g8 _; have B8 : Below V.heap.size V w8 := m_below L7 (Nat.le_refl _) o7 L7.size g8; obtain ⟨s0, s1⟩ := HCL.out w8 B8)
                    | (refine step_mN rfl (.tmp 107) (.tmp 108) 29 rfl V.heap.size info5 Tryd.underlying29 v7 (X ++ [115, 101, 115, 115, 105, 111, 110, 32, 100, 101, 108, 101, 116, 101] ++ 32 :: decL tn) (by first | rfl | simp [Act.eval]) (o7.ext (hE _ _)) (some ⟨w7.heap.size, 0, none⟩) 1 1 [10] (by first | rfl | simp [Act.eval]) (rd_one w7 10 (by omega) (by omega)) (by have := HLN.out; have := HTL.out; simp only [List.length_append, List.length_cons, List.length_nil]; omega) (by have := L7.size; simp; omega) ?_; intro v8 w8 o8 g8 _; have B8 : Below V.heap.size V w8 := m_below (L7.alloc L7.size _) (Nat.le_refl _) (o7.ext (hE _ _)) (by have := L7.size; simp; omega) g8; obtain ⟨s0, s1⟩ := HCL.out w8 B8)
                    | (refine step_strM rfl (.tmp 97) (.tmp 98) 29 9 rfl V.heap.size info5 Tryd.underlying29 Tryd.underlying9 v4 X [115, 101, 115, 115, 105, 111, 110, 32, 100, 101, 108, 101, 116, 101] (by first | rfl | simp [Act.eval]) o4 (by have := HLN.out; omega) ⟨#[115, 101, 115, 115, 105, 111, 110, 32, 100, 101, 108, 101, 116, 101]⟩ (by first | rfl | simp [Act.eval]) rfl (by have := HLN.out; simp only [List.length_cons, List.length_nil]; omega) L4.size ?_; intro v5 w5 o5 g5 n5; have B5 := B4.grownM o4 L4.size g5; obtain ⟨L5, y0, y1, y2, y3⟩ := HBK.out w5 B5; (first | have J5 := J4.grow g5 n5 | skip))
                    | (refine step_strM rfl (.tmp 97) (.tmp 98) 29 9 rfl V.heap.size info5 Tryd.underlying29 Tryd.underlying9 v4 X [115, 101, 115, 115, 105, 111, 110, 32, 100, 101, 108, 101, 116, 101] (by first | rfl | simp [Act.eval]) (o4.ext (hE _ _)) (by have := HLN.out; omega) ⟨#[115, 101, 115, 115, 105, 111, 110, 32, 100, 101, 108, 101, 116, 101]⟩ (by first | rfl | simp [Act.eval]) rfl (by have := HLN.out; simp only [List.length_cons, List.length_nil]; omega) (by have := L4.size; simp; omega) ?_; intro v5 w5 o5 g5 n5; have B5 := (B4.alloc L4.size _).grownM (o4.ext (hE _ _)) (by have := L4.size; simp; omega) g5; obtain ⟨L5, y0, y1, y2, y3⟩ := HBK.out w5 B5; have J5 := (j10_new o4).grow g5 n5)
                    | (refine step_mN rfl (.tmp 95) (.tmp 96) 29 rfl V.heap.size info5 Tryd.underlying29 (.slice (some ⟨wr.heap.size, 0, none⟩) 0 0) [] (by first | rfl | simp [Act.eval]) HH.out.1 xa X.length xc X (by first | rfl | simp [Act.eval]) HH2.out.1 (by have := HLN.out; simp only [List.length_nil]; omega) HH2.out.2.2.2.2.2.2.1 ?_; intro v4 w4 o4 g4 n4; rw [List.nil_append] at o4; have B4 := Bk.grownM HH2.out.2.2.2.1 HH.out.1 HH2.out.2.2.2.2.2.2.1 g4; obtain ⟨L4, z0, z1, z2, z3⟩ := HBK.out w4 B4)
                    | (refine step_mN rfl (.tmp 95) (.tmp 96) 29 rfl V.heap.size info5 Tryd.underlying29 (.slice (some ⟨wr.heap.size, 0, none⟩) 0 0) [] (by first | rfl | simp [Act.eval]) HH.out.2.2.1 xa X.length xc X (by first | rfl | simp [Act.eval]) HH2.out.2.2.1 (by have := HLN.out; simp only [List.length_nil]; omega) HH2.out.2.2.2.2.2.2.2.2 ?_; intro v4 w4 o4 g4 n4; rw [List.nil_append] at o4; have B4 := Bk.grownM HH2.out.2.2.2.2.2.1 HH.out.2.2.1 HH2.out.2.2.2.2.2.2.2.2 g4; obtain ⟨L4, z0, z1, z2, z3⟩ := HBK.out w4 B4; have J4 := HH.out.2.2.2.2.grow g4 n4)
                    | (refine step_mN rfl (.tmp 95) (.tmp 96) 29 rfl V.heap.size info5 Tryd.underlying29 (.slice (some ⟨wr.heap.size + 1, 0, none⟩) 0 0) [] (by first | rfl | simp [Act.eval]) HH.out.2.1 xa X.length xc X (by first | rfl | simp [Act.eval]) HH2.out.2.1 (by have := HLN.out; simp only [List.length_nil]; omega) HH2.out.2.2.2.2.2.2.2.1 ?_; intro v4 w4 o4 g4 n4; rw [List.nil_append] at o4; have B4 := Bk.grownM HH2.out.2.2.2.2.1 HH.out.2.1 HH2.out.2.2.2.2.2.2.2.1 g4; obtain ⟨L4, z0, z1, z2, z3⟩ := HBK.out w4 B4; have J4 := HH.out.2.2.2.1.grow g4 n4)
                    | (go_at_call 45; refine (wordNN (V := V) (xs := X ++ [115, 101, 115, 115, 105, 111, 110, 32, 100, 101, 108, 101, 116, 101]) (decL_rng tn) ?_ ?_ (by have := HLN.out; have := HTL.out; simp only [List.length_append, List.length_cons, List.length_nil]; omega) (by have := HLN.out; have := HTL.out; simp only [List.length_append, List.length_cons, List.length_nil]; omega) Q6 ?_ P6 (by have := HTL.out; omega)).mono ?_; (first | exact L6 | exact L6.alloc L6.size _); (first | exact O6 | exact O6.ext (hE _ _)); (first | exact World.grownBy.refl _ _ | exact hE _ _); rintro e w7 ⟨v7, rfl, o7, b7, g7, n7⟩; (first | have K7 := K6.trans b7 | have K7 := (K6.alloc L6.size _).trans b7); obtain ⟨L7, m0, m1, m2, m3⟩ := HBK.out w7 K7; (first | have J7 := J6.grow g7 n7 | have J7 := (j10_new O6).grow g7 n7 | skip))
                    | (go_at_call 44; refine (digitsV tn (by omega) _).mono ?_; rintro e w6 ⟨t6, rfl, Q6, D6⟩; (first | (have x6 : Ext w5 w6 := ext_below D6; have P6 : ∀ j, v5.ownBlock = some j → j < w5.heap.size := (fun j hj => (o5.lt j hj).2); (first | have J6 := J5.ext x6 | skip)) | (have x6 : Ext w5 w6 := (hE w5 _).tr (ext_below D6); have P6 : ∀ j, v5.ownBlock = some j → j < (w5.alloc (.cells #[.int .u8 10] 5)).heap.size := (fun j hj => by have := (o5.lt j hj).2; simp; omega); have J6 := (j10_new o5).ext (ext_below D6))); have O6 := o5.ext x6; have K6 := B5.trans (Bk.ofx x6 L5.size); obtain ⟨L6, l0, l1, l2, l3⟩ := HBK.out w6 K6))
                all_goals
                  go_wp2
                  go_roundw
                  case rel => exact ⟨k + 1, by omega, by go_num, HFIN.out _ _ o8, B8⟩
                  case measure => simp [intOf]; omega
            · have hkn : k = ns := by omega
              subst hkn
              have HTC : Hid (S.sess.take k = S.sess) := List.take_of_length_le (by have := HNS.out; omega)
              rw [HTC.out] at hown
              go_wp2
              go_ret
              refine ⟨u3, rfl, ?_, HW.out _ hb⟩
              have e1 : linesL S = base2 ++ S.sess.flatMap lineSess := by rw [HB2.out, HBA.out]; rfl
              rw [e1]
              exact hown.base SV.out

end Go.Proofs.YtheojmjnpemkbaaDoor
