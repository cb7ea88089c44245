/- The contract of the program's StateText: its walk. -/
import Derived.Test.YtheojmjnpemkbaaDoorSp8
namespace Go.Proofs.YtheojmjnpemkbaaDoor
open Go.RowKit

set_option maxHeartbeats 1600000 in
set_option maxRecDepth 10000 in
theorem iST_yes (S : DState) (ra ta sa la : Option Addr) (rc tc sc lc : Nat) (w : World) (h : VState w (.agg #[.int .i64 S.index, .slice ra S.rows.length rc, .slice ta S.tombs.length tc, .int .i64 S.lost, .slice sa S.sess.length sc, .slice la S.lasts.length lc]) S) (hB : tB (StP S) = true) (hN : StN S) (hp : PowTab w.heap.size w) :
    Calls Tryd.prog 7 #[.agg #[.int .i64 S.index, .slice ra S.rows.length rc, .slice ta S.tombs.length tc, .int .i64 S.lost, .slice sa S.sess.length sc, .slice la S.lasts.length lc]] w fun e w' => ∃ v', e = .returned v' ∧ Ow w' w.heap.size v' (linesL S) ∧ Below w.heap.size w w' := by
  have hE : ∀ W : World, ∀ o, Ext W (W.alloc o) := fun W o => World.grownBy_alloc _ _ _
  obtain ⟨V, hV⟩ : ∃ V, V = w.alloc (.cells #[.int .i64 S.index, .slice ra S.rows.length rc, .slice ta S.tombs.length tc, .int .i64 S.lost, .slice sa S.sess.length sc, .slice la S.lasts.length lc] 36) := ⟨_, rfl⟩
  have q : V.heap[w.heap.size]? = some (.cells #[.int .i64 S.index, .slice ra S.rows.length rc, .slice ta S.tombs.length tc, .int .i64 S.lost, .slice sa S.sess.length sc, .slice la S.lasts.length lc] 36 (0, 0)) := by rw [hV]; exact heap_alloc_new w _
  have bV : Below w.heap.size w V := by rw [hV]; exact (Below.refl _ w).alloc (Nat.le_refl _) _
  have hVV := h.ext (ext_below bV)
  have HO := iStateOkV _ S V hVV
  rw [hB] at HO
  have HOK := Lib.hid HO
  have HP : Hid (PowTab V.heap.size V) := Lib.tabBelow_of_tabIs (hp V bV)
  have HN : Hid (StN S) := hN
  have HQ : Hid (∀ W, Below V.heap.size V W → (W.cell? ⟨w.heap.size, 0, none⟩ = some (.int .i64 S.index) ∧ W.cell? ⟨w.heap.size, 1, none⟩ = some (.slice ra S.rows.length rc) ∧ W.cell? ⟨w.heap.size, 2, none⟩ = some (.slice ta S.tombs.length tc) ∧ W.cell? ⟨w.heap.size, 3, none⟩ = some (.int .i64 S.lost) ∧ W.cell? ⟨w.heap.size, 4, none⟩ = some (.slice sa S.sess.length sc) ∧ W.cell? ⟨w.heap.size, 5, none⟩ = some (.slice la S.lasts.length lc))) := fun W b => six (below_blk b (Array.getElem?_eq_some_iff.1 q).1 q)
  have HW : Hid (∀ W, Below V.heap.size V W → Below w.heap.size w W) := fun W b => bV.trans (b.mono bV.size)
  have SV : Hid (w.heap.size ≤ V.heap.size) := bV.size
  obtain ⟨rv', tv', sv', lv', ev, vr, vt, vs, _⟩ := hVV
  simp only [Value.agg.injEq, Array.mk.injEq, List.cons.injEq, true_and, and_true] at ev
  obtain ⟨rfl, rfl, rfl, rfl⟩ := ev
  have HR : Hid (VRows V (.slice ra S.rows.length rc) S.rows) := vr
  have HT : Hid (VTombs V (.slice ta S.tombs.length tc) S.tombs) := vt
  have HS : Hid (VSess V (.slice sa S.sess.length sc) S.sess) := vs
  obtain ⟨c0, c1, c2, c3, c4, c5⟩ := HQ.out V (Below.refl _ _)
  have HV := Lib.hid hV
  clear hV q bV h HO hp vr vt vs hB
  obtain ⟨ix, hix⟩ := Int.eq_ofNat_of_zero_le hN.index.1
  have HIX : Hid (S.index = (ix : Int)) := hix
  have hix6 : ix ≤ 1000000 := by have := hN.index; omega
  clear hix
  obtain ⟨nr, hnr⟩ : ∃ n, n = S.rows.length := ⟨_, rfl⟩
  have HNR : Hid (nr = S.rows.length) := hnr
  obtain ⟨nt, hnt⟩ : ∃ n, n = S.tombs.length := ⟨_, rfl⟩
  have HNT : Hid (nt = S.tombs.length) := hnt
  obtain ⟨ns, hns⟩ : ∃ n, n = S.sess.length := ⟨_, rfl⟩
  have HNS : Hid (ns = S.sess.length) := hns
  have hr20 : nr ≤ 20 := by have := hN.rl; omega
  have ht10 : nt ≤ 10 := by have := hN.tl; omega
  have hs8 : ns ≤ 8 := by have := hN.sl; omega
  rw [← hnr] at HQ HR HV HOK c1 ⊢
  rw [← hnt] at HQ HT HV HOK c2 ⊢
  rw [← hns] at HQ HS HV HOK c4 ⊢
  rw [HIX.out] at HQ HV HOK c0 ⊢
  clear hnr hnt hns hN
  go_enter Tryd.func7, Tryd.ntmps7
  go_upto_region 1 with fail
  rw [← HV.out]
  clear HV
  go_wp2_with fail
  refine HOK.out.mono ?_
  rintro e w1 ⟨rfl, b1⟩
  clear c0 c1 c2 c3 c4 c5
  obtain ⟨c0, c1, c2, c3, c4, c5⟩ := HQ.out w1 b1
  go_wp2_with fail
  refine (num9 (ix : Int) w1).mono ?_
  rintro e w2 ⟨rfl, b2⟩
  have B2 : Below V.heap.size V w2 := b1.trans (b2.mono b1.size)
  clear b1 b2 c0 c1 c2 c3 c4 c5
  go_wp2_with fail
  refine (line_num V w2 (.slice none 0 0) [] ⟨#[97, 116]⟩ [97, 116] rfl (by simp) ix hix6 (World.ownsRow_nil _ _ _ _) B2 (by simp) HP.out).mono ?_
  rintro e w3 ⟨v3, rfl, o3, b3⟩
  have O3 : Ow w3 V.heap.size v3 (lineAt S.index) := by
    have e1 : S.index.toNat = ix := by rw [HIX.out]; omega
    unfold lineAt
    rw [e1]
    simpa using o3
  have B3 : Below V.heap.size V w3 := B2.trans b3.below
  clear o3 b3 B2
  obtain ⟨c0, c1, c2, c3, c4, c5⟩ := HQ.out w3 B3
  have HLA : Hid ((lineAt S.index).length ≤ 30) := by
    have e1 : S.index.toNat = ix := by rw [HIX.out]; omega
    have := decL_len ix (by omega)
    show _ ≤ _
    unfold lineAt
    rw [e1]
    simp only [List.length_append, List.length_cons, List.length_nil]
    omega
  go_wp2
  go_loopw [3, 22] (fun t i wr => ∃ k : Nat, k ≤ nr ∧ i = .int .i64 k ∧ Ow wr V.heap.size t (lineAt S.index ++ (S.rows.take k).flatMap lineRow) ∧ Below V.heap.size V wr) (fun _ i _ => nr - (intOf i).toNat)
  case atStart => exact ⟨0, Nat.zero_le _, rfl, by simpa using O3, B3⟩
  case round =>
    obtain ⟨k, hk, rfl, hown, hb⟩ := hrel
    clear O3 B3 c0 c1 c2 c3 c4 c5
    by_cases hlt : k < nr
    · obtain ⟨r, hr⟩ : ∃ r, S.rows[k]? = some r := ⟨_, List.getElem?_eq_getElem (by have := HNR.out; omega)⟩
      obtain ⟨C, ⟨a', cap', ea, _, _, h3⟩, hC⟩ := HR.out
      simp only [Value.slice.injEq] at ea
      obtain ⟨rfl, en, rfl⟩ := ea
      clear en
      obtain ⟨bb, oo, rfl, hbl, hc⟩ := h3 (by have := HNR.out; omega)
      obtain ⟨rk, rv, e2, e3⟩ := hC k r hr
      have hrn := HN.out.rows k r hr
      have d0 := World.grownBy.cell (ext_below hb) (hc k (by have := HNR.out; omega) 0 (by omega)) (by simp)
      have d1 := World.grownBy.cell (ext_below hb) (hc k (by have := HNR.out; omega) 1 (by omega)) (by simp)
      have d2 := World.grownBy.cell (ext_below hb) (hc k (by have := HNR.out; omega) 2 (by omega)) (by simp)
      have d3 := World.grownBy.cell (ext_below hb) (hc k (by have := HNR.out; omega) 3 (by omega)) (by simp)
      obtain ⟨tn, htn⟩ := Int.eq_ofNat_of_zero_le hrn.2.1.1
      obtain ⟨hn, hhn⟩ := Int.eq_ofNat_of_zero_le hrn.2.2.1
      have HTN : Hid (r.turned = (tn : Int)) := htn
      have HHN : Hid (r.holder = (hn : Int)) := hhn
      rw [e2, htn] at d2
      rw [e3, hhn] at d3
      have RK : Hid (RV V (C k 0) r.key) := rk
      have RW : Hid (RV V (C k 1) r.val) := rv
      obtain ⟨ka, kc, ek, _⟩ := rk
      obtain ⟨va, vc, ewv, _⟩ := rv
      rw [ek] at d0 RK
      rw [ewv] at d1 RW
      have HRN : Hid (RowN r) := hrn
      have HX : Hid ((S.rows.take (k + 1)).flatMap lineRow = (S.rows.take k).flatMap lineRow ++ lineRow r) := take_flat lineRow hr
      have HLN : Hid ((lineAt S.index ++ (S.rows.take k).flatMap lineRow).length ≤ 10000) := by
        have h1 := flat_len lineRow 200 (S.rows.take k) fun i x hx => lineRow_len (HN.out.rows i x (take_get hx))
        have h2 : (S.rows.take k).length ≤ 20 := by simp; omega
        have := HLA.out
        show _ ≤ _
        rw [List.length_append]
        omega
      rw [Nat.add_zero] at d0
      clear hC hc h3 e2 e3 ek ewv htn hhn hrn hr
      have hlt' : (k : Int) < (nr : Int) := by omega
      go_upto_region 7 with fail
      obtain ⟨U, hU⟩ : ∃ U, U = wr.alloc (.cells #[.slice ka r.key.length kc, .slice va r.val.length vc, .int .i64 (tn : Int), .int .i64 (hn : Int)] 57) := ⟨_, rfl⟩
      have u : U.heap[wr.heap.size]? = some (.cells #[.slice ka r.key.length kc, .slice va r.val.length vc, .int .i64 (tn : Int), .int .i64 (hn : Int)] 57 (0, 0)) := by rw [hU]; exact heap_alloc_new wr _
      have BU : Below V.heap.size V U := by rw [hU]; exact hb.alloc hb.size _
      have OU : Ow U V.heap.size u3 (lineAt S.index ++ (S.rows.take k).flatMap lineRow) := by rw [hU]; exact hown.ext (hE _ _)
      have HU := Lib.hid hU
      have UQ : Hid (U.heap[wr.heap.size]? = some (.cells #[.slice ka r.key.length kc, .slice va r.val.length vc, .int .i64 (tn : Int), .int .i64 (hn : Int)] 57 (0, 0))) := u
      clear hU d0 d1 d2 d3 hown hb
      rw [← HU.out]
      clear HU
      have HC : Hid (∀ W : World, W.heap[wr.heap.size]? = some (.cells #[.slice ka r.key.length kc, .slice va r.val.length vc, .int .i64 (tn : Int), .int .i64 (hn : Int)] 57 (0, 0)) → W.cell? ⟨wr.heap.size, 0, none⟩ = some (.slice ka r.key.length kc) ∧ W.cell? ⟨wr.heap.size, 1, none⟩ = some (.slice va r.val.length vc) ∧ W.cell? ⟨wr.heap.size, 2, none⟩ = some (.int .i64 (tn : Int)) ∧ W.cell? ⟨wr.heap.size, 3, none⟩ = some (.int .i64 (hn : Int))) := fun W h => ⟨(at_block h 0 _ rfl).1, (at_block h 1 _ rfl).1, (at_block h 2 _ rfl).1, (at_block h 3 _ rfl).1⟩
      have HD : Hid (∀ W W' : World, Ext U W → Below W.heap.size W W' → Ext U W' ∧ W'.heap[wr.heap.size]? = some (.cells #[.slice ka r.key.length kc, .slice va r.val.length vc, .int .i64 (tn : Int), .int .i64 (hn : Int)] 57 (0, 0))) := fun W W' x b => by
        have x' := x.tr (ext_below b)
        exact ⟨x', (x'.block _ (Array.getElem?_eq_some_iff.1 UQ.out).1 (by simp)).trans UQ.out⟩
      obtain ⟨p0, p1, p2, p3⟩ := HC.out U u
      clear u
      have XD : Ext U U.drew := ext_drewN U 1
      have HBX : Hid (∀ W, Ext U W → Below V.heap.size V W) := fun W x => ⟨x.os.trans BU.os, x.tape.trans BU.tape, x.output.trans BU.output, Nat.le_trans BU.size x.size, fun j hj => (x.block j (Nat.lt_of_lt_of_le hj BU.size) (by simp)).trans (BU.block j hj)⟩
      go_region_held3 (fun w' => w'.cell? ⟨wr.heap.size, 0, none⟩ = some (.slice ka r.key.length kc) ∧ w'.cell? ⟨wr.heap.size, 1, none⟩ = some (.slice va r.val.length vc) ∧ w'.cell? ⟨wr.heap.size, 2, none⟩ = some (.int .i64 (tn : Int)) ∧ w'.cell? ⟨wr.heap.size, 3, none⟩ = some (.int .i64 (hn : Int))) (first | (simp [*]; done) | go_keep)
        (first
        | (go_at_call 24; refine (line_row V y4 u3 _ _ (lineAt S.index ++ (S.rows.take k).flatMap lineRow) r tn hn HTN.out HHN.out HRN.out RK.out RW.out (OU.ext x4) (HBX.out y4 x4) (by have := HLN.out; omega) HP.out).mono ?_; rintro e y5 ⟨v5, rfl, o5, b5⟩; obtain ⟨m0, m1, m2, m3⟩ := HC.out y5 (b5.block j4.out (by decide)))
        | (go_at_call 25; have hh := x3; clear hh; refine (num9 _ _).mono ?_; rintro e y4 ⟨rfl, b4⟩; obtain ⟨x4, i4⟩ := HD.out _ y4 x3 b4; obtain ⟨m0, m1, m2, m3⟩ := HC.out y4 i4; have j4 := Lib.hid i4; clear i4)
        | (go_at_call 25; refine (num9 _ _).mono ?_; rintro e y3 ⟨rfl, b3⟩; obtain ⟨x3, i3⟩ := HD.out _ y3 x2 b3; obtain ⟨n0, n1, n2, n3⟩ := HC.out y3 i3; clear i3)
        | (go_at_call 27; refine (val9 _ _ _ _).mono ?_; rintro e y2 ⟨rfl, b2⟩; obtain ⟨x2, i2⟩ := HD.out _ y2 x1 b2; obtain ⟨l0, l1, l2, l3⟩ := HC.out y2 i2; clear i2)
        | (go_at_call 26; refine (key9 _ _ _ _).mono ?_; rintro e y1 ⟨rfl, b1⟩; obtain ⟨x1, i1⟩ := HD.out _ y1 XD b1; obtain ⟨k0, k1, k2, k3⟩ := HC.out y1 i1; clear i1))
      all_goals
        go_wp2
        go_roundw
        case rel => exact ⟨k + 1, by omega, by go_num, by rw [HX.out]; simpa using o5, (HBX.out y4 x4).trans b5.below⟩
        case measure => simp [intOf]; omega
    · have hkn : k = nr := by omega
      subst hkn
      have HTA : Hid (S.rows.take k = S.rows) := List.take_of_length_le (by have := HNR.out; omega)
      rw [HTA.out] at hown
      obtain ⟨base, hbase⟩ : ∃ base, base = lineAt S.index ++ S.rows.flatMap lineRow := ⟨_, rfl⟩
      have HBA : Hid (base = lineAt S.index ++ S.rows.flatMap lineRow) := hbase
      have HLB : Hid (base.length ≤ 4100) := by
        have h1 := flat_len lineRow 200 S.rows fun i x hx => lineRow_len (HN.out.rows i x hx)
        have := HLA.out
        have := HN.out.rl
        show _ ≤ _
        rw [hbase, List.length_append]
        omega
      rw [← hbase] at hown
      clear hbase
      obtain ⟨c0, c1, c2, c3, c4, c5⟩ := HQ.out wr hb
      obtain ⟨wa, hwa⟩ : ∃ wa, wa = wr := ⟨_, rfl⟩
      rw [← hwa] at hown hb c0 c1 c2 c3 c4 c5 ⊢
      clear hwa
      go_wp2
      go_loopw [3, 45] (fun t i wr => ∃ k : Nat, k ≤ nt ∧ i = .int .i64 k ∧ Ow wr V.heap.size t (base ++ (S.tombs.take k).flatMap lineTomb) ∧ Below V.heap.size V wr) (fun _ i _ => nt - (intOf i).toNat)
      case atStart => exact ⟨0, Nat.zero_le _, rfl, by simpa using hown, hb⟩
      case round =>
        clear hown hb c0 c1 c2 c3 c4 c5
        obtain ⟨k, hk, rfl, hown, hb⟩ := hrel
        by_cases hlt : k < nt
        · obtain ⟨r, hr⟩ : ∃ r, S.tombs[k]? = some r := ⟨_, List.getElem?_eq_getElem (by have := HNT.out; omega)⟩
          obtain ⟨C, ⟨a', cap', ea, _, _, h3⟩, hC⟩ := HT.out
          simp only [Value.slice.injEq] at ea
          obtain ⟨rfl, en, rfl⟩ := ea
          clear en
          obtain ⟨bb, oo, rfl, hbl, hc⟩ := h3 (by have := HNT.out; omega)
          obtain ⟨rk, e2⟩ := hC k r hr
          have hrn := HN.out.tombs k r hr
          have d0 := World.grownBy.cell (ext_below hb) (hc k (by have := HNT.out; omega) 0 (by omega)) (by simp)
          have d1 := World.grownBy.cell (ext_below hb) (hc k (by have := HNT.out; omega) 1 (by omega)) (by simp)
          obtain ⟨tn, htn⟩ := Int.eq_ofNat_of_zero_le hrn.2.1
          have HTN : Hid (r.index = (tn : Int)) := htn
          rw [e2, htn] at d1
          have RK : Hid (RV V (C k 0) r.key) := rk
          obtain ⟨ka, kc, ek, _⟩ := rk
          rw [ek] at d0 RK
          have HRN : Hid (TombN r) := hrn
          have HX : Hid ((S.tombs.take (k + 1)).flatMap lineTomb = (S.tombs.take k).flatMap lineTomb ++ lineTomb r) := take_flat lineTomb hr
          have HLN : Hid ((base ++ (S.tombs.take k).flatMap lineTomb).length ≤ 10000) := by
            have h1 := flat_len lineTomb 60 (S.tombs.take k) fun i x hx => lineTomb_len (HN.out.tombs i x (take_get hx))
            have h2 : (S.tombs.take k).length ≤ 10 := by simp; omega
            have := HLB.out
            show _ ≤ _
            rw [List.length_append]
            omega
          rw [Nat.add_zero] at d0
          clear hC hc h3 e2 ek htn hrn hr
          have hlt' : (k : Int) < (nt : Int) := by omega
          go_upto_region 12 with fail
          obtain ⟨U, hU⟩ : ∃ U, U = wr.alloc (.cells #[.slice ka r.key.length kc, .int .i64 (tn : Int)] 60) := ⟨_, rfl⟩
          have u : U.heap[wr.heap.size]? = some (.cells #[.slice ka r.key.length kc, .int .i64 (tn : Int)] 60 (0, 0)) := by rw [hU]; exact heap_alloc_new wr _
          have BU : Below V.heap.size V U := by rw [hU]; exact hb.alloc hb.size _
          have OU : Ow U V.heap.size u3 (base ++ (S.tombs.take k).flatMap lineTomb) := by rw [hU]; exact hown.ext (hE _ _)
          have HU := Lib.hid hU
          have UQ : Hid (U.heap[wr.heap.size]? = some (.cells #[.slice ka r.key.length kc, .int .i64 (tn : Int)] 60 (0, 0))) := u
          clear hU d0 d1 hown hb
          rw [← HU.out]
          clear HU
          have HC : Hid (∀ W : World, W.heap[wr.heap.size]? = some (.cells #[.slice ka r.key.length kc, .int .i64 (tn : Int)] 60 (0, 0)) → W.cell? ⟨wr.heap.size, 0, none⟩ = some (.slice ka r.key.length kc) ∧ W.cell? ⟨wr.heap.size, 1, none⟩ = some (.int .i64 (tn : Int))) := fun W h => ⟨(at_block h 0 _ rfl).1, (at_block h 1 _ rfl).1⟩
          have HD : Hid (∀ W W' : World, Ext U W → Below W.heap.size W W' → Ext U W' ∧ W'.heap[wr.heap.size]? = some (.cells #[.slice ka r.key.length kc, .int .i64 (tn : Int)] 60 (0, 0))) := fun W W' x b => by
            have x' := x.tr (ext_below b)
            exact ⟨x', (x'.block _ (Array.getElem?_eq_some_iff.1 UQ.out).1 (by simp)).trans UQ.out⟩
          obtain ⟨p0, p1⟩ := HC.out U u
          clear u
          have XD : Ext U U.drew := ext_drewN U 1
          have HBX : Hid (∀ W, Ext U W → Below V.heap.size V W) := fun W x => ⟨x.os.trans BU.os, x.tape.trans BU.tape, x.output.trans BU.output, Nat.le_trans BU.size x.size, fun j hj => (x.block j (Nat.lt_of_lt_of_le hj BU.size) (by simp)).trans (BU.block j hj)⟩
          go_region_held3 (fun w' => w'.cell? ⟨wr.heap.size, 0, none⟩ = some (.slice ka r.key.length kc) ∧ w'.cell? ⟨wr.heap.size, 1, none⟩ = some (.int .i64 (tn : Int))) (first | (simp [*]; done) | go_keep)
            (first
            | (go_at_call 24; refine (line_tomb V y4 u3 _ (base ++ (S.tombs.take k).flatMap lineTomb) r tn HTN.out HRN.out RK.out (OU.ext x4) (HBX.out y4 x4) (by have := HLN.out; omega) HP.out).mono ?_; rintro e y5 ⟨v5, rfl, o5, b5⟩; obtain ⟨m0, m1⟩ := HC.out y5 (b5.block j4.out (by decide)))
            | (go_at_call 25; refine (num9 _ _).mono ?_; rintro e y4 ⟨rfl, b4⟩; obtain ⟨x4, i4⟩ := HD.out _ y4 x1 b4; obtain ⟨m0, m1⟩ := HC.out y4 i4; have j4 := Lib.hid i4; clear i4)
            | (go_at_call 26; refine (key9 _ _ _ _).mono ?_; rintro e y1 ⟨rfl, b1⟩; obtain ⟨x1, i1⟩ := HD.out _ y1 XD b1; obtain ⟨k0, k1⟩ := HC.out y1 i1; clear i1))
          all_goals
            go_wp2
            go_roundw
            case rel => exact ⟨k + 1, by omega, by go_num, by rw [HX.out]; simpa using o5, (HBX.out y4 x4).trans b5.below⟩
            case measure => simp [intOf]; omega
        · have hkn : k = nt := by omega
          subst hkn
          have HTB : Hid (S.tombs.take k = S.tombs) := List.take_of_length_le (by have := HNT.out; omega)
          rw [HTB.out] at hown
          obtain ⟨base2, hbase2⟩ : ∃ base2, base2 = base ++ S.tombs.flatMap lineTomb := ⟨_, rfl⟩
          have HB2 : Hid (base2 = base ++ S.tombs.flatMap lineTomb) := hbase2
          have HLB2 : Hid (base2.length ≤ 5000) := by
            have h1 := flat_len lineTomb 60 S.tombs fun i x hx => lineTomb_len (HN.out.tombs i x hx)
            have := HLB.out
            have := HN.out.tl
            show _ ≤ _
            rw [hbase2, List.length_append]
            omega
          rw [← hbase2] at hown
          clear hbase2
          obtain ⟨c0, c1, c2, c3, c4, c5⟩ := HQ.out wr hb
          obtain ⟨wb, hwb⟩ : ∃ wb, wb = wr := ⟨_, rfl⟩
          rw [← hwb] at hown hb c0 c1 c2 c3 c4 c5 ⊢
          clear hwb
          go_wp2
          go_loopw [3, 62] (fun t i wr => ∃ k : Nat, k ≤ ns ∧ i = .int .i64 k ∧ Ow wr V.heap.size t (base2 ++ (S.sess.take k).flatMap lineSess) ∧ Below V.heap.size V wr) (fun _ i _ => ns - (intOf i).toNat)
          case atStart => exact ⟨0, Nat.zero_le _, rfl, by simpa using hown, hb⟩
          case round =>
            clear hown hb c0 c1 c2 c3 c4 c5
            obtain ⟨k, hk, rfl, hown, hb⟩ := hrel
            by_cases hlt : k < ns
            · obtain ⟨r, hr⟩ : ∃ r, S.sess[k]? = some r := ⟨_, List.getElem?_eq_getElem (by have := HNS.out; omega)⟩
              obtain ⟨C, ⟨a', cap', ea, _, _, h3⟩, hC⟩ := HS.out
              simp only [Value.slice.injEq] at ea
              obtain ⟨rfl, en, rfl⟩ := ea
              clear en
              obtain ⟨bb, oo, rfl, hbl, hc⟩ := h3 (by have := HNS.out; omega)
              obtain ⟨e1, e2⟩ := hC k r hr
              have hrn := HN.out.sess k r hr
              have d0 := World.grownBy.cell (ext_below hb) (hc k (by have := HNS.out; omega) 0 (by omega)) (by simp)
              have d1 := World.grownBy.cell (ext_below hb) (hc k (by have := HNS.out; omega) 1 (by omega)) (by simp)
              obtain ⟨tn, htn⟩ := Int.eq_ofNat_of_zero_le hrn.1
              have htn6 : tn ≤ 1000000 := by have := hrn.2; omega
              rw [e1, htn, Nat.add_zero] at d0
              rw [e2] at d1
              have HX : Hid ((S.sess.take (k + 1)).flatMap lineSess = (S.sess.take k).flatMap lineSess ++ (sesL r.del ++ 32 :: decL tn ++ [10])) := by
                show _ = _
                rw [take_flat lineSess hr]
                have : r.id.toNat = tn := by omega
                simp [lineSess, this]
              have HLN : Hid ((base2 ++ (S.sess.take k).flatMap lineSess).length ≤ 10000) := by
                have h1 := flat_len lineSess 60 (S.sess.take k) fun i x hx => lineSess_len (HN.out.sess i x (take_get hx))
                have h2 : (S.sess.take k).length ≤ 8 := by simp; omega
                have := HLB2.out
                show _ ≤ _
                rw [List.length_append]
                omega
              obtain ⟨dl, hdl⟩ : ∃ dl, dl = r.del := ⟨_, rfl⟩
              rw [← hdl] at d1 HX
              clear hC hc h3 e1 e2 htn hrn hr hdl
              have hlt' : (k : Int) < (ns : Int) := by omega
              have BU : ∀ o, Below V.heap.size V (wr.alloc o) := fun o => hb.alloc hb.size _
              have OU : ∀ o, Ow (wr.alloc o) V.heap.size u3 (base2 ++ (S.sess.take k).flatMap lineSess) := fun o => hown.ext (hE _ _)
              have HBU := Lib.hid BU
              have HOU := Lib.hid OU
              clear BU OU
              cases dl
              · have HXb : Hid ((S.sess.take (k + 1)).flatMap lineSess = (S.sess.take k).flatMap lineSess ++ ([115, 101, 115, 115, 105, 111, 110] ++ 32 :: decL tn ++ [10])) := by
                  have h9 := HX.out
                  rw [show sesL false = [115, 101, 115, 115, 105, 111, 110] from rfl] at h9
                  exact h9
                clear HX
                go_wp2_with (first
                  | (go_at_call 24; refine (line_num V y4 u3 (base2 ++ (S.sess.take k).flatMap lineSess) ⟨#[115, 101, 115, 115, 105, 111, 110]⟩ [115, 101, 115, 115, 105, 111, 110] rfl (by simp) tn htn6 o4 B4 (by have := HLN.out; omega) HP.out).mono ?_; rintro e y5 ⟨v5, rfl, o5, b5⟩)
                  | (go_at_call 25; refine (num9 _ _).mono ?_; rintro e y4 ⟨rfl, b4⟩; have B4 := (HBU.out _).trans (b4.mono (HBU.out _).size); have o4 := (HOU.out _).ext (ext_below b4)))
                go_roundw
                case rel => exact ⟨k + 1, by omega, by go_num, by rw [HXb.out]; simpa using o5, B4.trans b5.below⟩
                case measure => simp [intOf]; omega
              · have HXb : Hid ((S.sess.take (k + 1)).flatMap lineSess = (S.sess.take k).flatMap lineSess ++ ([115, 101, 115, 115, 105, 111, 110, 32, 100, 101, 108, 101, 116, 101] ++ 32 :: decL tn ++ [10])) := by
                  have h9 := HX.out
                  rw [show sesL true = [115, 101, 115, 115, 105, 111, 110, 32, 100, 101, 108, 101, 116, 101] from rfl] at h9
                  exact h9
                clear HX
                go_wp2_with (first
                  | (go_at_call 24; refine (line_num V y4 u3 (base2 ++ (S.sess.take k).flatMap lineSess) ⟨#[115, 101, 115, 115, 105, 111, 110, 32, 100, 101, 108, 101, 116, 101]⟩ [115, 101, 115, 115, 105, 111, 110, 32, 100, 101, 108, 101, 116, 101] rfl (by simp) tn htn6 o4 B4 (by have := HLN.out; omega) HP.out).mono ?_; rintro e y5 ⟨v5, rfl, o5, b5⟩)
                  | (go_at_call 25; refine (num9 _ _).mono ?_; rintro e y4 ⟨rfl, b4⟩; have B4 := (HBU.out _).trans (b4.mono (HBU.out _).size); have o4 := (HOU.out _).ext (ext_below b4)))
                go_roundw
                case rel => exact ⟨k + 1, by omega, by go_num, by rw [HXb.out]; simpa using o5, B4.trans b5.below⟩
                case measure => simp [intOf]; omega
            · have hkn : k = ns := by omega
              subst hkn
              have HTC : Hid (S.sess.take k = S.sess) := List.take_of_length_le (by have := HNS.out; omega)
              rw [HTC.out] at hown
              go_wp2
              go_ret
              refine ⟨u3, rfl, ?_, HW.out _ hb⟩
              have e1 : linesL S = base2 ++ S.sess.flatMap lineSess := by rw [HB2.out, HBA.out]; rfl
              rw [e1]
              exact ow_base hown SV.out

end Go.Proofs.YtheojmjnpemkbaaDoor
