
/- The contract of the specification's StateOk. -/
import Derived.Test.YtnklnhnjmikooaaGreatSFind
import Derived.Test.YtnklnhnjmikooaaGreatIState
import Derived.Test.YtnklnhnjmikooaaGreatQB
namespace Go.Proofs.YtnklnhnjmikooaaGreat
open Go.RowKit

theorem rowAt_sess {ss : List DSess} {h : Int} : (h = 0 ∨ ∃ (j : Nat) (s : DSess), ss[j]? = some s ∧ s.id = h) ↔ (h = 0 ∨ ¬ fnd (fun s => decide (s.id = h)) ss < 0) := by
  constructor
  · rintro (h0 | ⟨j, s, hs, e⟩)
    · exact .inl h0
    · refine .inr fun hn => ?_
      have := fnd_neg hn j s hs
      simp [e] at this
  · rintro (h0 | hn)
    · exact .inl h0
    · obtain ⟨j, s, _, hs, hp, _⟩ := fnd_hit (by omega : 0 ≤ fnd (fun s : DSess => decide (s.id = h)) ss)
      exact .inr ⟨j, s, hs, of_decide_eq_true hp⟩

theorem fnd_norow {rows : List DRow} {ks : List Int} : (∀ (j : Nat) (r : DRow), rows[j]? = some r → r.key ≠ ks) ↔ fnd (fun s : DRow => decide (s.key = ks)) rows < 0 := by
  constructor
  · intro h
    rw [fnd_none (fun i y hy => decide_eq_false (h i y hy))]
    omega
  · intro h j r hr e
    have := fnd_neg h j r hr
    simp [e] at this
theorem fnd_first {tombs : List DTomb} {k : Nat} {t : DTomb} (ht : tombs[k]? = some t) : (∀ (j : Nat) (p : DTomb), j < k → tombs[j]? = some p → p.key ≠ t.key) ↔ fnd (fun s : DTomb => decide (s.key = t.key)) tombs = (k : Int) := by
  constructor
  · intro h
    exact fnd_at (fun i y hi hy => decide_eq_false (h i y hi hy)) ht (decide_eq_true rfl)
  · intro e j p hj hp heq
    obtain ⟨j', x, e', _, _, hb⟩ := fnd_hit (by omega : 0 ≤ fnd (fun s : DTomb => decide (s.key = t.key)) tombs)
    have := hb j p (by omega) hp
    simp [heq] at this

set_option maxHeartbeats 8000000 in
set_option maxRecDepth 100000 in
theorem sStateX (S : DState) (w : World) (rv tv sv lv : Value) (hr : VRows w rv S.rows) (ht : VTombs w tv S.tombs) (hs : VSess w sv S.sess) (hl : VLasts w lv S.lasts)
    (k0 : (0 ≤ S.index ∧ S.index ≤ 1000000)) (k1 : (0 ≤ S.lost ∧ S.lost ≤ S.index)) (k2 : S.rows.length ≤ 20) (k3 : S.tombs.length ≤ 10) (k4 : S.sess.length ≤ 8) (k5 : S.lasts.length ≤ 4) :
    Calls Tryz.prog 27 #[.agg #[.int .i64 S.index, rv, tv, .int .i64 S.lost, sv, lv]] w fun e w' => e = .returned (.bool (tB (StP S))) ∧ Below w.heap.size w w' := by
  have hE : ∀ w : World, ∀ o, Ext w (w.alloc o) := fun w o => World.grownBy_alloc _ _ _
  have hB : ∀ w : World, ∀ o, Below w.heap.size w (w.alloc o) := fun w o => (Below.refl _ w).alloc (Nat.le_refl _) _
  have HSt : Hid (StP S ↔ ((0 ≤ S.index ∧ S.index ≤ 1000000) ∧ (0 ≤ S.lost ∧ S.lost ≤ S.index) ∧ SessP S.index S.sess ∧ RowsP S.index S.sess S.rows ∧ TombsP S.index S.lost S.rows S.tombs ∧ LastP S.index S.lasts)) := Iff.rfl
  generalize hgS : tB (StP S) = bS
  have HBS : Hid (tB (StP S) = bS) := hgS
  clear hgS
  obtain ⟨idx, rows, tombs, lost, sess, lasts⟩ := S
  simp only at hr ht hs hl k0 k1 k2 k3 k4 k5 HSt ⊢
  have HVr : Hid (VRows w rv rows) := hr
  have HVs : Hid (VSess w sv sess) := hs
  have HVt : Hid (VTombs w tv tombs) := ht
  obtain ⟨C, ⟨a, cap, rfl, h1, h2, h3⟩, hC⟩ := hr
  obtain ⟨T, ⟨a1, capt, rfl, h1t, h2t, h3t⟩, hT⟩ := ht
  obtain ⟨D, ⟨a2, caps, rfl, h1s, h2s, h3s⟩, hD⟩ := hs
  obtain ⟨E, ⟨a3, capl, rfl, h1l, h2l, h3l⟩, hE2⟩ := hl
  obtain ⟨n, hn⟩ : ∃ n, n = rows.length := ⟨_, rfl⟩
  obtain ⟨m, hm⟩ : ∃ m, m = tombs.length := ⟨_, rfl⟩
  obtain ⟨p, hp⟩ : ∃ p, p = sess.length := ⟨_, rfl⟩
  obtain ⟨q, hq⟩ : ∃ q, q = lasts.length := ⟨_, rfl⟩
  rw [← hn] at h1 h3 k2 HVr ⊢
  rw [← hm] at h1t h3t k3 HVt ⊢
  rw [← hp] at h1s h3s k4 HVs ⊢
  rw [← hq] at h1l h3l k5 ⊢
  have HN : Hid (n = rows.length ∧ m = tombs.length ∧ p = sess.length ∧ q = lasts.length) := ⟨hn, hm, hp, hq⟩
  clear hn hm hp hq
  have HC : Hid (∀ i r, rows[i]? = some r → RV w (C i 0) r.key ∧ RV w (C i 1) r.val ∧ C i 2 = .int .i64 r.turned ∧ C i 3 = .int .i64 r.holder) := hC
  have HT : Hid (∀ i r, tombs[i]? = some r → RV w (T i 0) r.key ∧ T i 1 = .int .i64 r.index) := hT
  have HD : Hid (∀ i r, sess[i]? = some r → D i 0 = .int .i64 r.id ∧ D i 1 = .bool r.del) := hD
  have HL : Hid (∀ i r, lasts[i]? = some r → E i 0 = .int .i64 r.client ∧ E i 1 = .int .i64 r.req ∧ E i 2 = .int .i64 r.code ∧ E i 3 = .int .i64 r.index) := hE2
  have H3 : Hid (0 < n → ∃ b o, a = some ⟨b, o, none⟩ ∧ b < w.heap.size ∧ ∀ i, i < n → ∀ j, j < 4 → w.cell? ⟨b, o + i * 4 + j, none⟩ = some (C i j)) := h3
  have H3t : Hid (0 < m → ∃ b o, a1 = some ⟨b, o, none⟩ ∧ b < w.heap.size ∧ ∀ i, i < m → ∀ j, j < 2 → w.cell? ⟨b, o + i * 2 + j, none⟩ = some (T i j)) := h3t
  have H3s : Hid (0 < p → ∃ b o, a2 = some ⟨b, o, none⟩ ∧ b < w.heap.size ∧ ∀ i, i < p → ∀ j, j < 2 → w.cell? ⟨b, o + i * 2 + j, none⟩ = some (D i j)) := h3s
  have H3l : Hid (0 < q → ∃ b o, a3 = some ⟨b, o, none⟩ ∧ b < w.heap.size ∧ ∀ i, i < q → ∀ j, j < 4 → w.cell? ⟨b, o + i * 4 + j, none⟩ = some (E i j)) := h3l
  clear hC hT hD hE2 h3 h3t h3s h3l
  unfold maxLen at h2 h2t h2s h2l
  have HK0 : Hid ((0 ≤ idx ∧ idx ≤ 1000000) ∧ (0 ≤ lost ∧ lost ≤ idx)) := ⟨k0, k1⟩
  obtain ⟨k01, k02⟩ := k0
  obtain ⟨k11, k12⟩ := k1
  have e1 : decide ((20 : Int) < (n : Int)) = false := decide_eq_false (by omega)
  have e2 : decide ((10 : Int) < (m : Int)) = false := decide_eq_false (by omega)
  have e3 : decide ((8 : Int) < (p : Int)) = false := decide_eq_false (by omega)
  have e4 : decide ((4 : Int) < (q : Int)) = false := decide_eq_false (by omega)
  have e5 : decide (lost < 0) = false := decide_eq_false (by omega)
  have e6 : decide (idx < lost) = false := decide_eq_false (by omega)
  have e7 : (decide (0 ≤ idx) && decide (idx ≤ 1000000)) = true := by rw [decide_eq_true k01, decide_eq_true k02]; rfl
  go_enter Tryz.func27, Tryz.ntmps27
  go_wp2_with (go_at_call 63; refine (l2indexV _ _).mono ?_; rintro e w1 ⟨rfl, rfl⟩; rw [e7])
  clear e1 e2 e3 e4 e5 e6 e7
  generalize hW : w.alloc _ = W
  have HW : Hid (Below w.heap.size w W ∧ Ext w W) := by rw [← hW]; exact ⟨hB _ _, hE _ _⟩
  have HQ : Hid (W.cell? ⟨w.heap.size, 0, none⟩ = some (.int .i64 idx) ∧ W.cell? ⟨w.heap.size, 1, none⟩ = some (.slice a n cap) ∧ W.cell? ⟨w.heap.size, 2, none⟩ = some (.slice a1 m capt) ∧ W.cell? ⟨w.heap.size, 3, none⟩ = some (.int .i64 lost) ∧ W.cell? ⟨w.heap.size, 4, none⟩ = some (.slice a2 p caps) ∧ W.cell? ⟨w.heap.size, 5, none⟩ = some (.slice a3 q capl)) := by
    rw [← hW]
    exact six (heap_alloc_new w _)
  clear hW
  go_loopw [3] (fun i wr => ∃ k : Nat, k ≤ n ∧ i = .int .i64 k ∧ Ext W wr ∧ Below w.heap.size w wr ∧ Hid (∀ j, j < k → RowAt idx sess rows j)) (fun i _ => n - (intOf i).toNat)
  case atStart => exact ⟨0, Nat.zero_le _, rfl, Ext.re _, HW.out.1, fun j hj => absurd hj (by omega)⟩
  case round =>
    obtain ⟨k, hk, rfl, hx, hb, hall⟩ := hrel
    by_cases hlt : k < n
    · obtain ⟨b, o, rfl, hbl, hc⟩ := H3.out (by omega)
      obtain ⟨r, hr⟩ : ∃ r, rows[k]? = some r := ⟨_, List.getElem?_eq_getElem (by have := HN.out; omega)⟩
      obtain ⟨rk, ru, x2, x3⟩ := HC.out k r hr
      have X := HW.out.2.tr hx
      have c0 := World.grownBy.cell X (hc k (by omega) 0 (by omega)) (by simp)
      have c1 := World.grownBy.cell X (hc k (by omega) 1 (by omega)) (by simp)
      have c2 := World.grownBy.cell X (hc k (by omega) 2 (by omega)) (by simp)
      have c3 := World.grownBy.cell X (hc k (by omega) 3 (by omega)) (by simp)
      have HRK : Hid (RV wr (C k 0) r.key) := rk.ext X
      have HRU : Hid (RV wr (C k 1) r.val) := ru.ext X
      obtain ⟨ka, kc, ek, krd, _, _⟩ := rk
      obtain ⟨va, vc, ev, _, _, _⟩ := ru
      rw [ek] at HRK
      rw [ev] at HRU
      rw [Nat.add_zero, ek] at c0
      rw [ev] at c1
      rw [x2] at c2
      rw [x3] at c3
      have hlt' : (k : Int) < (n : Int) := by omega
      obtain ⟨b1, K1⟩ : ∃ c, keyB r.key = c := ⟨_, rfl⟩
      have HX2 : Hid (∀ ob, Ext W (wr.alloc ob)) := fun ob => hx.tr (hE _ _)
      have HB2 : Hid (∀ ob, Below w.heap.size w (wr.alloc ob)) := fun ob => hb.alloc hb.size _
      have HKF : Hid (¬ RowAt idx sess rows k → bS = false) := fun h => by
        rw [← HBS.out]
        exact tB_false (fun h' => h ((HSt.out.1 h').2.2.2.1.2 k (by have := HN.out; omega)))
      have HKRD : Hid (Rd w ka r.key.length r.key) := krd
      have HXX : Hid (Ext w wr) := X
      obtain ⟨b2, K2⟩ : ∃ c, decide (r.val.length ≤ 20) = c := ⟨_, rfl⟩
      obtain ⟨fs, hfs⟩ : ∃ fs, fnd (fun s => decide (s.id = r.holder)) sess = fs := ⟨_, rfl⟩
      have HFL : Hid (-1 ≤ fs) := by rw [← hfs]; exact (fnd_le _ _).1
      have HKK : Hid (∀ W', Ext wr W' → Calls Tryz.prog 64 #[.slice ka r.key.length kc] W' fun e w' => e = .returned (.bool b1) ∧ w' = W') := fun W' e => by
        rw [← K1]
        exact l2keyV _ r.key _ (HRK.out.ext e)
      have HKU : Hid (∀ W', Ext wr W' → Calls Tryz.prog 65 #[.slice va r.val.length vc] W' fun e w' => e = .returned (.bool b2) ∧ w' = W') := fun W' e => by
        rw [← K2]
        exact l2valV _ r.val _ (HRU.out.ext e)
      have HKS : Hid (∀ W', Ext wr W' → Calls Tryz.prog 66 #[.agg #[.int .i64 idx, .slice (some ⟨b, o, none⟩) n cap, .slice a1 m capt, .int .i64 lost, .slice a2 p caps, .slice a3 q capl], .int .i64 r.holder] W' fun e w' => e = .returned (.int .i64 fs) ∧ Below W'.heap.size W' w') := fun W' e => by
        rw [← hfs]
        exact sl2sessV _ _ _ _ _ _ sess r.holder W' ((HVs.out.ext HXX.out).ext e)
      have HCK : Hid (∀ W', Ext wr W' → (convert 93 9 (.slice ka r.key.length kc)).run Tryz.prog W' = .ok (.string (strOfNums r.key)) W') := fun W' e => convR ((HKRD.out.grown HXX.out).grown e) kc
      have HKC : Hid (∀ i, i < n → wr.cell? ⟨b, o + i * 4, none⟩ = some (C i 0)) := fun i hi => World.grownBy.cell X (hc i hi 0 (by omega)) (by simp)
      have HRA : Hid (RowAt idx sess rows k ↔ b1 = true ∧ b2 = true ∧ 1 ≤ r.turned ∧ r.turned ≤ idx ∧ (r.holder = 0 ∨ ¬ fs < 0) ∧ ∀ p, 0 < k → rows[k - 1]? = some p → ltK p.key r.key = true) := by
        show _ ↔ _
        rw [← K1, ← K2, ← hfs]
        constructor
        · intro h
          obtain ⟨q1, q2, q3, q4, q5, q6⟩ := h r hr
          exact ⟨q1, decide_eq_true q2, q3, q4, rowAt_sess.1 q5, q6⟩
        · rintro ⟨q1, q2, q3, q4, q5, q6⟩ r' hr'
          rw [hr] at hr'
          cases hr'
          exact ⟨q1, of_decide_eq_true q2, q3, q4, rowAt_sess.2 q5, q6⟩
      have HAA : Hid (RowAt idx sess rows k → ∀ j, j < k + 1 → RowAt idx sess rows j) := fun h j hj => by
        by_cases e : j = k
        · subst e; exact h
        · exact hall.out j (by omega)
      have HXB : Hid (Ext W wr ∧ Below w.heap.size w wr) := ⟨hx, hb⟩
      clear hc x2 x3 ek ev krd hall K1 K2 hfs X HX2 HB2 HKRD
      obtain ⟨Q0, Q1, Q2, Q3, Q4, Q5⟩ := HQ.out
      have j0 := World.grownBy.cell hx Q0 (by simp)
      have j1 := World.grownBy.cell hx Q1 (by simp)
      have j2 := World.grownBy.cell hx Q2 (by simp)
      have j3 := World.grownBy.cell hx Q3 (by simp)
      have j4 := World.grownBy.cell hx Q4 (by simp)
      have j5 := World.grownBy.cell hx Q5 (by simp)
      clear Q0 Q1 Q2 Q3 Q4 Q5
      clear hx hb
      generalize r.key.length = kl at c0 HKK HCK
      generalize r.val.length = ul at c1 HKU
      by_cases hk0 : k = 0
      · have HK00 : Hid (k = 0) := hk0
        have hkd : decide (0 < k) = false := by simp; omega
        have hkd2 : decide ((0 : Int) < (k : Int)) = false := decide_eq_false (by omega)
        clear hk0
        as_aux_lemma =>
          go_wp2
          generalize hV : wr.alloc _ = V
          have XV : Ext wr V := by rw [← hV]; exact hE _ _
          have HZV : Hid (Ext W V ∧ Below w.heap.size w V) := by rw [← hV]; exact ⟨HXB.out.1.tr (hE _ _), HXB.out.2.alloc HXB.out.2.size _⟩
          have v0 : ∀ z : BW V, z.u.cell? ⟨wr.heap.size, 0, none⟩ = some (.slice ka kl kc) := bw_cell (by rw [← hV]; exact (at_block (heap_alloc_new wr _) 0 _ rfl).1)
          have v1 : ∀ z : BW V, z.u.cell? ⟨wr.heap.size, 1, none⟩ = some (.slice va ul vc) := bw_cell (by rw [← hV]; exact (at_block (heap_alloc_new wr _) 1 _ rfl).1)
          have v2 : ∀ z : BW V, z.u.cell? ⟨wr.heap.size, 2, none⟩ = some (.int .i64 r.turned) := bw_cell (by rw [← hV]; exact (at_block (heap_alloc_new wr _) 2 _ rfl).1)
          have v3 : ∀ z : BW V, z.u.cell? ⟨wr.heap.size, 3, none⟩ = some (.int .i64 r.holder) := bw_cell (by rw [← hV]; exact (at_block (heap_alloc_new wr _) 3 _ rfl).1)
          clear hV
          obtain ⟨Q0, Q1, Q2, Q3, Q4, Q5⟩ := HQ.out
          have s0 := bw_cell (World.grownBy.cell HZV.out.1 Q0 (by simp))
          have s1 := bw_cell (World.grownBy.cell HZV.out.1 Q1 (by simp))
          have s2 := bw_cell (World.grownBy.cell HZV.out.1 Q2 (by simp))
          have s3 := bw_cell (World.grownBy.cell HZV.out.1 Q3 (by simp))
          have s4 := bw_cell (World.grownBy.cell HZV.out.1 Q4 (by simp))
          have s5 := bw_cell (World.grownBy.cell HZV.out.1 Q5 (by simp))
          clear Q0 Q1 Q2 Q3 Q4 Q5
          have hck : ∀ z : BW V, (convert 93 9 (.slice ka kl kc)).run Tryz.prog z.u = .ok (.string (strOfNums r.key)) z.u := fun z => HCK.out _ (XV.tr (bw_ext z))
          clear c0 c1 c2 c3 j0 j1 j2 j3 j4 j5
          have nonV := bw_ne V
          refine wp_region_bw (by kernel_rfl) (by kernel_rfl) ?_
          repeat (go_big_quiet_step ((first | (go_at_call 64; exact bw_same (HKK.out _ (XV.tr (bw_ext _)))) | (go_at_call 65; exact bw_same (HKU.out _ (XV.tr (bw_ext _)))) | (go_at_call 66; exact bw_below (HKS.out _ (XV.tr (bw_ext _)))))))
          cases b1
          case false =>
            simp only [Bool.not_false]
            repeat (go_big_quiet_step ((first | (go_at_call 64; exact bw_same (HKK.out _ (XV.tr (bw_ext _)))) | (go_at_call 65; exact bw_same (HKU.out _ (XV.tr (bw_ext _)))) | (go_at_call 66; exact bw_below (HKS.out _ (XV.tr (bw_ext _)))))))
            refine wpQuiet_nil ?_
            intro _ hw'
            obtain ⟨z, hw''⟩ := hw'
            subst hw''
            have HK : Hid (bS = false) := HKF.out (fun h => by
              have := HRA.out.1 h
              simp_all
              )
            clear HKF HRA HAA
            go_wp2
            go_ret
            exact ⟨by rw [HK.out]; rfl, HZV.out.2.trans (z.h.mono HZV.out.2.size)⟩
          simp only [Bool.not_true]
          repeat (go_big_quiet_step ((first | (go_at_call 64; exact bw_same (HKK.out _ (XV.tr (bw_ext _)))) | (go_at_call 65; exact bw_same (HKU.out _ (XV.tr (bw_ext _)))) | (go_at_call 66; exact bw_below (HKS.out _ (XV.tr (bw_ext _)))))))
          cases b2
          case false =>
            simp only [Bool.not_false]
            repeat (go_big_quiet_step ((first | (go_at_call 64; exact bw_same (HKK.out _ (XV.tr (bw_ext _)))) | (go_at_call 65; exact bw_same (HKU.out _ (XV.tr (bw_ext _)))) | (go_at_call 66; exact bw_below (HKS.out _ (XV.tr (bw_ext _)))))))
            refine wpQuiet_nil ?_
            intro _ hw'
            obtain ⟨z, hw''⟩ := hw'
            subst hw''
            have HK : Hid (bS = false) := HKF.out (fun h => by
              have := HRA.out.1 h
              simp_all
              )
            clear HKF HRA HAA
            go_wp2
            go_ret
            exact ⟨by rw [HK.out]; rfl, HZV.out.2.trans (z.h.mono HZV.out.2.size)⟩
          simp only [Bool.not_true]
          repeat (go_big_quiet_step ((first | (go_at_call 64; exact bw_same (HKK.out _ (XV.tr (bw_ext _)))) | (go_at_call 65; exact bw_same (HKU.out _ (XV.tr (bw_ext _)))) | (go_at_call 66; exact bw_below (HKS.out _ (XV.tr (bw_ext _)))))))
          cases t1 : decide (r.turned < 1)
          case true =>
            repeat (go_big_quiet_step ((first | (go_at_call 64; exact bw_same (HKK.out _ (XV.tr (bw_ext _)))) | (go_at_call 65; exact bw_same (HKU.out _ (XV.tr (bw_ext _)))) | (go_at_call 66; exact bw_below (HKS.out _ (XV.tr (bw_ext _)))))))
            refine wpQuiet_nil ?_
            intro _ hw'
            obtain ⟨z, hw''⟩ := hw'
            subst hw''
            have HK : Hid (bS = false) := HKF.out (fun h => by
              have := HRA.out.1 h
              have := of_decide_eq_true t1
              omega
              )
            clear HKF HRA HAA
            go_wp2
            go_ret
            exact ⟨by rw [HK.out]; rfl, HZV.out.2.trans (z.h.mono HZV.out.2.size)⟩
          repeat (go_big_quiet_step ((first | (go_at_call 64; exact bw_same (HKK.out _ (XV.tr (bw_ext _)))) | (go_at_call 65; exact bw_same (HKU.out _ (XV.tr (bw_ext _)))) | (go_at_call 66; exact bw_below (HKS.out _ (XV.tr (bw_ext _)))))))
          cases t2 : decide (idx < r.turned)
          case true =>
            repeat (go_big_quiet_step ((first | (go_at_call 64; exact bw_same (HKK.out _ (XV.tr (bw_ext _)))) | (go_at_call 65; exact bw_same (HKU.out _ (XV.tr (bw_ext _)))) | (go_at_call 66; exact bw_below (HKS.out _ (XV.tr (bw_ext _)))))))
            refine wpQuiet_nil ?_
            intro _ hw'
            obtain ⟨z, hw''⟩ := hw'
            subst hw''
            have HK : Hid (bS = false) := HKF.out (fun h => by
              have := HRA.out.1 h
              have := of_decide_eq_true t2
              omega
              )
            clear HKF HRA HAA
            go_wp2
            go_ret
            exact ⟨by rw [HK.out]; rfl, HZV.out.2.trans (z.h.mono HZV.out.2.size)⟩
          repeat (go_big_quiet_step ((first | (go_at_call 64; exact bw_same (HKK.out _ (XV.tr (bw_ext _)))) | (go_at_call 65; exact bw_same (HKU.out _ (XV.tr (bw_ext _)))) | (go_at_call 66; exact bw_below (HKS.out _ (XV.tr (bw_ext _)))))))
          cases t3 : (r.holder != 0)
          case false =>
            repeat (go_big_quiet_step ((first | (go_at_call 64; exact bw_same (HKK.out _ (XV.tr (bw_ext _)))) | (go_at_call 65; exact bw_same (HKU.out _ (XV.tr (bw_ext _)))) | (go_at_call 66; exact bw_below (HKS.out _ (XV.tr (bw_ext _)))))))
            repeat (go_big_quiet_step ((first | (go_at_call 64; exact bw_same (HKK.out _ (XV.tr (bw_ext _)))) | (go_at_call 65; exact bw_same (HKU.out _ (XV.tr (bw_ext _)))) | (go_at_call 66; exact bw_below (HKS.out _ (XV.tr (bw_ext _)))))))
            refine wpQuiet_nil ?_
            intro _ hw'
            obtain ⟨z, hw''⟩ := hw'
            subst hw''
            have HA : Hid (∀ j, j < k + 1 → RowAt idx sess rows j) := HAA.out (HRA.out.2 ⟨rfl, rfl, by have := of_decide_eq_false t1; omega, by have := of_decide_eq_false t2; omega, .inl (by simpa using t3), fun _ h => absurd h (by have := HK00.out; omega)⟩)
            clear HKF HRA HAA
            go_wp2
            go_roundw
            case rel => exact ⟨k + 1, by omega, by go_num, HZV.out.1.tr (bw_ext z), HZV.out.2.trans (z.h.mono HZV.out.2.size), HA⟩
            case measure => simp [intOf]; omega
          repeat (go_big_quiet_step ((first | (go_at_call 64; exact bw_same (HKK.out _ (XV.tr (bw_ext _)))) | (go_at_call 65; exact bw_same (HKU.out _ (XV.tr (bw_ext _)))) | (go_at_call 66; exact bw_below (HKS.out _ (XV.tr (bw_ext _)))))))
          cases t4 : decide (fs < 0)
          case true =>
            repeat (go_big_quiet_step ((first | (go_at_call 64; exact bw_same (HKK.out _ (XV.tr (bw_ext _)))) | (go_at_call 65; exact bw_same (HKU.out _ (XV.tr (bw_ext _)))) | (go_at_call 66; exact bw_below (HKS.out _ (XV.tr (bw_ext _)))))))
            refine wpQuiet_nil ?_
            intro _ hw'
            obtain ⟨z, hw''⟩ := hw'
            subst hw''
            have HK : Hid (bS = false) := HKF.out (fun h => by
              have h3 : r.holder ≠ 0 := by simpa using t3
              have := of_decide_eq_true t4
              rcases (HRA.out.1 h).2.2.2.2.1 with h | h <;> omega
              )
            clear HKF HRA HAA
            go_wp2
            go_ret
            exact ⟨by rw [HK.out]; rfl, HZV.out.2.trans (z.h.mono HZV.out.2.size)⟩
          repeat (go_big_quiet_step ((first | (go_at_call 64; exact bw_same (HKK.out _ (XV.tr (bw_ext _)))) | (go_at_call 65; exact bw_same (HKU.out _ (XV.tr (bw_ext _)))) | (go_at_call 66; exact bw_below (HKS.out _ (XV.tr (bw_ext _)))))))
          repeat (go_big_quiet_step ((first | (go_at_call 64; exact bw_same (HKK.out _ (XV.tr (bw_ext _)))) | (go_at_call 65; exact bw_same (HKU.out _ (XV.tr (bw_ext _)))) | (go_at_call 66; exact bw_below (HKS.out _ (XV.tr (bw_ext _)))))))
          refine wpQuiet_nil ?_
          intro _ hw'
          obtain ⟨z, hw''⟩ := hw'
          subst hw''
          have HA : Hid (∀ j, j < k + 1 → RowAt idx sess rows j) := HAA.out (HRA.out.2 ⟨rfl, rfl, by have := of_decide_eq_false t1; omega, by have := of_decide_eq_false t2; omega, .inr (by have := of_decide_eq_false t4; omega), fun _ h => absurd h (by have := HK00.out; omega)⟩)
          clear HKF HRA HAA
          go_wp2
          go_roundw
          case rel => exact ⟨k + 1, by omega, by go_num, HZV.out.1.tr (bw_ext z), HZV.out.2.trans (z.h.mono HZV.out.2.size), HA⟩
          case measure => simp [intOf]; omega
      · obtain ⟨k', rfl⟩ : ∃ k', k = k' + 1 := ⟨k - 1, by omega⟩
        obtain ⟨pr, hpr⟩ : ∃ pr, rows[k']? = some pr := ⟨_, List.getElem?_eq_getElem (by have := HN.out; omega)⟩
        have hk1 : (k' : Int) < (n : Int) := by omega
        have hk2 : (0 : Int) ≤ (k' : Int) := by omega
        have hw1 : IntKind.i64.wrap ((k' : Int) + 1 - 1) = (k' : Int) := by rw [Int.add_sub_cancel, IntKind.wrap_i64]; omega
        have hw2 : IntKind.i64.wrap (k' : Int) = (k' : Int) := by rw [IntKind.wrap_i64]; omega
        have hkd : decide ((0 : Int) < (k' : Int) + 1) = true := decide_eq_true (by omega)
        have HPR : Hid (rows[k']? = some pr) := hpr
        clear hk0
        obtain ⟨prk, _, _, _⟩ := HC.out k' pr hpr
        have y0 := HKC.out k' (by omega)
        obtain ⟨pa, pc, ep, prd, _, _⟩ := prk
        rw [ep] at y0
        have HCP : Hid (∀ W', Ext wr W' → (convert 93 9 (.slice pa pr.key.length pc)).run Tryz.prog W' = .ok (.string (strOfNums pr.key)) W') := fun W' e => convR ((prd.grown HXX.out).grown e) pc
        generalize pr.key.length = pn at y0 HCP
        clear ep prd hpr
        obtain ⟨b4, K4⟩ : ∃ c, Op.bytesLess (strOfNums pr.key).toList (strOfNums r.key).toList = c := ⟨_, rfl⟩
        as_aux_lemma =>
          go_wp2
          generalize hV : wr.alloc _ = V
          have XV : Ext wr V := by rw [← hV]; exact hE _ _
          have HZV : Hid (Ext W V ∧ Below w.heap.size w V) := by rw [← hV]; exact ⟨HXB.out.1.tr (hE _ _), HXB.out.2.alloc HXB.out.2.size _⟩
          have v0 : ∀ z : BW V, z.u.cell? ⟨wr.heap.size, 0, none⟩ = some (.slice ka kl kc) := bw_cell (by rw [← hV]; exact (at_block (heap_alloc_new wr _) 0 _ rfl).1)
          have v1 : ∀ z : BW V, z.u.cell? ⟨wr.heap.size, 1, none⟩ = some (.slice va ul vc) := bw_cell (by rw [← hV]; exact (at_block (heap_alloc_new wr _) 1 _ rfl).1)
          have v2 : ∀ z : BW V, z.u.cell? ⟨wr.heap.size, 2, none⟩ = some (.int .i64 r.turned) := bw_cell (by rw [← hV]; exact (at_block (heap_alloc_new wr _) 2 _ rfl).1)
          have v3 : ∀ z : BW V, z.u.cell? ⟨wr.heap.size, 3, none⟩ = some (.int .i64 r.holder) := bw_cell (by rw [← hV]; exact (at_block (heap_alloc_new wr _) 3 _ rfl).1)
          clear hV
          obtain ⟨Q0, Q1, Q2, Q3, Q4, Q5⟩ := HQ.out
          have s0 := bw_cell (World.grownBy.cell HZV.out.1 Q0 (by simp))
          have s1 := bw_cell (World.grownBy.cell HZV.out.1 Q1 (by simp))
          have s2 := bw_cell (World.grownBy.cell HZV.out.1 Q2 (by simp))
          have s3 := bw_cell (World.grownBy.cell HZV.out.1 Q3 (by simp))
          have s4 := bw_cell (World.grownBy.cell HZV.out.1 Q4 (by simp))
          have s5 := bw_cell (World.grownBy.cell HZV.out.1 Q5 (by simp))
          clear Q0 Q1 Q2 Q3 Q4 Q5
          have hck : ∀ z : BW V, (convert 93 9 (.slice ka kl kc)).run Tryz.prog z.u = .ok (.string (strOfNums r.key)) z.u := fun z => HCK.out _ (XV.tr (bw_ext z))
          clear c0 c1 c2 c3 j0 j1 j2 j3 j4 j5
          have y1 := bw_cell (World.grownBy.cell XV y0 (by simp))
          have hcp : ∀ z : BW V, (convert 93 9 (.slice pa pn pc)).run Tryz.prog z.u = .ok (.string (strOfNums pr.key)) z.u := fun z => HCP.out _ (XV.tr (bw_ext z))
          clear y0
          have nonV := bw_ne V
          refine wp_region_bw (by kernel_rfl) (by kernel_rfl) ?_
          repeat (go_big_quiet_step ((first | (go_at_call 64; exact bw_same (HKK.out _ (XV.tr (bw_ext _)))) | (go_at_call 65; exact bw_same (HKU.out _ (XV.tr (bw_ext _)))) | (go_at_call 66; exact bw_below (HKS.out _ (XV.tr (bw_ext _)))))))
          cases b1
          case false =>
            simp only [Bool.not_false]
            repeat (go_big_quiet_step ((first | (go_at_call 64; exact bw_same (HKK.out _ (XV.tr (bw_ext _)))) | (go_at_call 65; exact bw_same (HKU.out _ (XV.tr (bw_ext _)))) | (go_at_call 66; exact bw_below (HKS.out _ (XV.tr (bw_ext _)))))))
            refine wpQuiet_nil ?_
            intro _ hw'
            obtain ⟨z, hw''⟩ := hw'
            subst hw''
            have HK : Hid (bS = false) := HKF.out (fun h => by
              have := HRA.out.1 h
              simp_all
              )
            clear HKF HRA HAA
            go_wp2
            go_ret
            exact ⟨by rw [HK.out]; rfl, HZV.out.2.trans (z.h.mono HZV.out.2.size)⟩
          simp only [Bool.not_true]
          repeat (go_big_quiet_step ((first | (go_at_call 64; exact bw_same (HKK.out _ (XV.tr (bw_ext _)))) | (go_at_call 65; exact bw_same (HKU.out _ (XV.tr (bw_ext _)))) | (go_at_call 66; exact bw_below (HKS.out _ (XV.tr (bw_ext _)))))))
          cases b2
          case false =>
            simp only [Bool.not_false]
            repeat (go_big_quiet_step ((first | (go_at_call 64; exact bw_same (HKK.out _ (XV.tr (bw_ext _)))) | (go_at_call 65; exact bw_same (HKU.out _ (XV.tr (bw_ext _)))) | (go_at_call 66; exact bw_below (HKS.out _ (XV.tr (bw_ext _)))))))
            refine wpQuiet_nil ?_
            intro _ hw'
            obtain ⟨z, hw''⟩ := hw'
            subst hw''
            have HK : Hid (bS = false) := HKF.out (fun h => by
              have := HRA.out.1 h
              simp_all
              )
            clear HKF HRA HAA
            go_wp2
            go_ret
            exact ⟨by rw [HK.out]; rfl, HZV.out.2.trans (z.h.mono HZV.out.2.size)⟩
          simp only [Bool.not_true]
          repeat (go_big_quiet_step ((first | (go_at_call 64; exact bw_same (HKK.out _ (XV.tr (bw_ext _)))) | (go_at_call 65; exact bw_same (HKU.out _ (XV.tr (bw_ext _)))) | (go_at_call 66; exact bw_below (HKS.out _ (XV.tr (bw_ext _)))))))
          cases t1 : decide (r.turned < 1)
          case true =>
            repeat (go_big_quiet_step ((first | (go_at_call 64; exact bw_same (HKK.out _ (XV.tr (bw_ext _)))) | (go_at_call 65; exact bw_same (HKU.out _ (XV.tr (bw_ext _)))) | (go_at_call 66; exact bw_below (HKS.out _ (XV.tr (bw_ext _)))))))
            refine wpQuiet_nil ?_
            intro _ hw'
            obtain ⟨z, hw''⟩ := hw'
            subst hw''
            have HK : Hid (bS = false) := HKF.out (fun h => by
              have := HRA.out.1 h
              have := of_decide_eq_true t1
              omega
              )
            clear HKF HRA HAA
            go_wp2
            go_ret
            exact ⟨by rw [HK.out]; rfl, HZV.out.2.trans (z.h.mono HZV.out.2.size)⟩
          repeat (go_big_quiet_step ((first | (go_at_call 64; exact bw_same (HKK.out _ (XV.tr (bw_ext _)))) | (go_at_call 65; exact bw_same (HKU.out _ (XV.tr (bw_ext _)))) | (go_at_call 66; exact bw_below (HKS.out _ (XV.tr (bw_ext _)))))))
          cases t2 : decide (idx < r.turned)
          case true =>
            repeat (go_big_quiet_step ((first | (go_at_call 64; exact bw_same (HKK.out _ (XV.tr (bw_ext _)))) | (go_at_call 65; exact bw_same (HKU.out _ (XV.tr (bw_ext _)))) | (go_at_call 66; exact bw_below (HKS.out _ (XV.tr (bw_ext _)))))))
            refine wpQuiet_nil ?_
            intro _ hw'
            obtain ⟨z, hw''⟩ := hw'
            subst hw''
            have HK : Hid (bS = false) := HKF.out (fun h => by
              have := HRA.out.1 h
              have := of_decide_eq_true t2
              omega
              )
            clear HKF HRA HAA
            go_wp2
            go_ret
            exact ⟨by rw [HK.out]; rfl, HZV.out.2.trans (z.h.mono HZV.out.2.size)⟩
          repeat (go_big_quiet_step ((first | (go_at_call 64; exact bw_same (HKK.out _ (XV.tr (bw_ext _)))) | (go_at_call 65; exact bw_same (HKU.out _ (XV.tr (bw_ext _)))) | (go_at_call 66; exact bw_below (HKS.out _ (XV.tr (bw_ext _)))))))
          cases t3 : (r.holder != 0)
          case false =>
            repeat (go_big_quiet_step ((first | (go_at_call 64; exact bw_same (HKK.out _ (XV.tr (bw_ext _)))) | (go_at_call 65; exact bw_same (HKU.out _ (XV.tr (bw_ext _)))) | (go_at_call 66; exact bw_below (HKS.out _ (XV.tr (bw_ext _)))))))
            cases b4
            case false =>
              repeat (go_big_quiet_step ((first | (go_at_call 64; exact bw_same (HKK.out _ (XV.tr (bw_ext _)))) | (go_at_call 65; exact bw_same (HKU.out _ (XV.tr (bw_ext _)))) | (go_at_call 66; exact bw_below (HKS.out _ (XV.tr (bw_ext _)))))))
              refine wpQuiet_nil ?_
              intro _ hw'
              obtain ⟨z, hw''⟩ := hw'
              subst hw''
              have HK : Hid (bS = false) := HKF.out (fun h => by
                have := (HRA.out.1 h).2.2.2.2.2 pr (by omega) (by simpa using HPR.out)
                unfold ltK at this
                rw [K4] at this
                cases this
                )
              clear HKF HRA HAA
              go_wp2
              go_ret
              exact ⟨by rw [HK.out]; rfl, HZV.out.2.trans (z.h.mono HZV.out.2.size)⟩
            repeat (go_big_quiet_step ((first | (go_at_call 64; exact bw_same (HKK.out _ (XV.tr (bw_ext _)))) | (go_at_call 65; exact bw_same (HKU.out _ (XV.tr (bw_ext _)))) | (go_at_call 66; exact bw_below (HKS.out _ (XV.tr (bw_ext _)))))))
            refine wpQuiet_nil ?_
            intro _ hw'
            obtain ⟨z, hw''⟩ := hw'
            subst hw''
            have HA : Hid (∀ j, j < k' + 1 + 1 → RowAt idx sess rows j) := HAA.out (HRA.out.2 ⟨rfl, rfl, by have := of_decide_eq_false t1; omega, by have := of_decide_eq_false t2; omega, .inl (by simpa using t3), fun p' _ hp' => by
              rw [Nat.add_sub_cancel, HPR.out] at hp'
              cases hp'
              exact K4⟩)
            clear HKF HRA HAA
            go_wp2
            go_roundw
            case rel => exact ⟨k' + 1 + 1, by omega, by go_num, HZV.out.1.tr (bw_ext z), HZV.out.2.trans (z.h.mono HZV.out.2.size), HA⟩
            case measure => simp [intOf]; omega
          repeat (go_big_quiet_step ((first | (go_at_call 64; exact bw_same (HKK.out _ (XV.tr (bw_ext _)))) | (go_at_call 65; exact bw_same (HKU.out _ (XV.tr (bw_ext _)))) | (go_at_call 66; exact bw_below (HKS.out _ (XV.tr (bw_ext _)))))))
          cases t4 : decide (fs < 0)
          case true =>
            repeat (go_big_quiet_step ((first | (go_at_call 64; exact bw_same (HKK.out _ (XV.tr (bw_ext _)))) | (go_at_call 65; exact bw_same (HKU.out _ (XV.tr (bw_ext _)))) | (go_at_call 66; exact bw_below (HKS.out _ (XV.tr (bw_ext _)))))))
            refine wpQuiet_nil ?_
            intro _ hw'
            obtain ⟨z, hw''⟩ := hw'
            subst hw''
            have HK : Hid (bS = false) := HKF.out (fun h => by
              have h3 : r.holder ≠ 0 := by simpa using t3
              have := of_decide_eq_true t4
              rcases (HRA.out.1 h).2.2.2.2.1 with h | h <;> omega
              )
            clear HKF HRA HAA
            go_wp2
            go_ret
            exact ⟨by rw [HK.out]; rfl, HZV.out.2.trans (z.h.mono HZV.out.2.size)⟩
          repeat (go_big_quiet_step ((first | (go_at_call 64; exact bw_same (HKK.out _ (XV.tr (bw_ext _)))) | (go_at_call 65; exact bw_same (HKU.out _ (XV.tr (bw_ext _)))) | (go_at_call 66; exact bw_below (HKS.out _ (XV.tr (bw_ext _)))))))
          cases b4
          case false =>
            repeat (go_big_quiet_step ((first | (go_at_call 64; exact bw_same (HKK.out _ (XV.tr (bw_ext _)))) | (go_at_call 65; exact bw_same (HKU.out _ (XV.tr (bw_ext _)))) | (go_at_call 66; exact bw_below (HKS.out _ (XV.tr (bw_ext _)))))))
            refine wpQuiet_nil ?_
            intro _ hw'
            obtain ⟨z, hw''⟩ := hw'
            subst hw''
            have HK : Hid (bS = false) := HKF.out (fun h => by
              have := (HRA.out.1 h).2.2.2.2.2 pr (by omega) (by simpa using HPR.out)
              unfold ltK at this
              rw [K4] at this
              cases this
              )
            clear HKF HRA HAA
            go_wp2
            go_ret
            exact ⟨by rw [HK.out]; rfl, HZV.out.2.trans (z.h.mono HZV.out.2.size)⟩
          repeat (go_big_quiet_step ((first | (go_at_call 64; exact bw_same (HKK.out _ (XV.tr (bw_ext _)))) | (go_at_call 65; exact bw_same (HKU.out _ (XV.tr (bw_ext _)))) | (go_at_call 66; exact bw_below (HKS.out _ (XV.tr (bw_ext _)))))))
          refine wpQuiet_nil ?_
          intro _ hw'
          obtain ⟨z, hw''⟩ := hw'
          subst hw''
          have HA : Hid (∀ j, j < k' + 1 + 1 → RowAt idx sess rows j) := HAA.out (HRA.out.2 ⟨rfl, rfl, by have := of_decide_eq_false t1; omega, by have := of_decide_eq_false t2; omega, .inr (by have := of_decide_eq_false t4; omega), fun p' _ hp' => by
            rw [Nat.add_sub_cancel, HPR.out] at hp'
            cases hp'
            exact K4⟩)
          clear HKF HRA HAA
          go_wp2
          go_roundw
          case rel => exact ⟨k' + 1 + 1, by omega, by go_num, HZV.out.1.tr (bw_ext z), HZV.out.2.trans (z.h.mono HZV.out.2.size), HA⟩
          case measure => simp [intOf]; omega
    · have hkn : n = k := by omega
      subst hkn
      have HARr : Hid (∀ j, j < n → RowAt idx sess rows j) := hall
      have HXr : Hid (Ext W wr ∧ Below w.heap.size w wr) := ⟨hx, hb⟩
      clear hall
      obtain ⟨Q0, Q1, Q2, Q3, Q4, Q5⟩ := HQ.out
      have j0 := World.grownBy.cell hx Q0 (by simp)
      have j1 := World.grownBy.cell hx Q1 (by simp)
      have j2 := World.grownBy.cell hx Q2 (by simp)
      have j3 := World.grownBy.cell hx Q3 (by simp)
      have j4 := World.grownBy.cell hx Q4 (by simp)
      have j5 := World.grownBy.cell hx Q5 (by simp)
      clear Q0 Q1 Q2 Q3 Q4 Q5
      clear hx hb
      go_wp2
      as_aux_lemma =>
        go_loopw [5] (fun i wr => ∃ k : Nat, k ≤ m ∧ i = .int .i64 k ∧ Ext W wr ∧ Below w.heap.size w wr ∧ Hid (∀ j, j < k → TombAt idx lost rows tombs j)) (fun i _ => m - (intOf i).toNat)
        case atStart => exact ⟨0, Nat.zero_le _, rfl, HXr.out.1, HXr.out.2, fun j hj => absurd hj (by omega)⟩
        case round =>
          obtain ⟨k, hk, rfl, hx, hb, hall⟩ := hrel
          by_cases hlt : k < m
          · obtain ⟨b, o, rfl, hbl, hc⟩ := H3t.out (by omega)
            obtain ⟨r, hr⟩ : ∃ r, tombs[k]? = some r := ⟨_, List.getElem?_eq_getElem (by have := HN.out; omega)⟩
            obtain ⟨rk, x1⟩ := HT.out k r hr
            have X := HW.out.2.tr hx
            have c0 := World.grownBy.cell X (hc k (by omega) 0 (by omega)) (by simp)
            have c1 := World.grownBy.cell X (hc k (by omega) 1 (by omega)) (by simp)
            have HRK : Hid (RV wr (T k 0) r.key) := rk.ext X
            obtain ⟨ka, kc, ek, _, _, _⟩ := rk
            rw [ek] at HRK
            rw [Nat.add_zero, ek] at c0
            rw [x1] at c1
            have hlt' : (k : Int) < (m : Int) := by omega
            obtain ⟨b1, K1⟩ : ∃ c, keyB r.key = c := ⟨_, rfl⟩
            obtain ⟨fr, hfr⟩ : ∃ f, fnd (fun s : DRow => decide (s.key = r.key)) rows = f := ⟨_, rfl⟩
            obtain ⟨ft, hft⟩ : ∃ f, fnd (fun s : DTomb => decide (s.key = r.key)) tombs = f := ⟨_, rfl⟩
            have HFL : Hid (-1 ≤ fr) := by rw [← hfr]; exact (fnd_le _ _).1
            have HXX : Hid (Ext w wr) := X
            have HKK : Hid (∀ W', Ext wr W' → Calls Tryz.prog 64 #[.slice ka r.key.length kc] W' fun e w' => e = .returned (.bool b1) ∧ w' = W') := fun W' e => by
              rw [← K1]
              exact l2keyV _ r.key _ (HRK.out.ext e)
            have HKR : Hid (∀ W', Ext wr W' → Calls Tryz.prog 67 #[.agg #[.int .i64 idx, .slice a n cap, .slice (some ⟨b, o, none⟩) m capt, .int .i64 lost, .slice a2 p caps, .slice a3 q capl], .slice ka r.key.length kc] W' fun e w' => e = .returned (.int .i64 fr) ∧ Below W'.heap.size W' w') := fun W' e => by
              rw [← hfr]
              exact sl2rowV _ _ _ _ _ _ rows _ r.key W' ((HVr.out.ext HXX.out).ext e) (HRK.out.ext e)
            have HKT : Hid (∀ W', Ext wr W' → Calls Tryz.prog 68 #[.agg #[.int .i64 idx, .slice a n cap, .slice (some ⟨b, o, none⟩) m capt, .int .i64 lost, .slice a2 p caps, .slice a3 q capl], .slice ka r.key.length kc] W' fun e w' => e = .returned (.int .i64 ft) ∧ Below W'.heap.size W' w') := fun W' e => by
              rw [← hft]
              exact sl2tombV _ _ _ _ _ _ tombs _ r.key W' ((HVt.out.ext HXX.out).ext e) (HRK.out.ext e)
            have HKC : Hid (∀ i pr, i < m → tombs[i]? = some pr → wr.cell? ⟨b, o + i * 2 + 1, none⟩ = some (.int .i64 pr.index)) := fun i pr hi hpr => by
              rw [← (HT.out i pr hpr).2]
              exact World.grownBy.cell X (hc i hi 1 (by omega)) (by simp)
            have HRA : Hid (TombAt idx lost rows tombs k ↔ b1 = true ∧ fr < 0 ∧ ft = (k : Int) ∧ 1 ≤ r.index ∧ r.index ≤ idx ∧ lost ≤ r.index ∧ ∀ p, 0 < k → tombs[k - 1]? = some p → p.index ≤ r.index) := by
              show _ ↔ _
              rw [← K1, ← hfr, ← hft]
              constructor
              · intro h
                obtain ⟨q1, q2, q3, q4, q5, q6, q7⟩ := h r hr
                exact ⟨q1, fnd_norow.1 q2, (fnd_first hr).1 q3, q4, q5, q6, q7⟩
              · rintro ⟨q1, q2, q3, q4, q5, q6, q7⟩ r' hr'
                rw [hr] at hr'
                cases hr'
                exact ⟨q1, fnd_norow.2 q2, (fnd_first hr).2 q3, q4, q5, q6, q7⟩
            have HKF : Hid (¬ TombAt idx lost rows tombs k → bS = false) := fun h => by
              rw [← HBS.out]
              exact tB_false (fun h' => h ((HSt.out.1 h').2.2.2.2.1.2 k (by have := HN.out; omega)))
            have HAA : Hid (TombAt idx lost rows tombs k → ∀ j, j < k + 1 → TombAt idx lost rows tombs j) := fun h j hj => by
              by_cases e : j = k
              · subst e; exact h
              · exact hall.out j (by omega)
            have HXB : Hid (Ext W wr ∧ Below w.heap.size w wr) := ⟨hx, hb⟩
            clear hc x1 ek hall K1 hfr hft X
            obtain ⟨Q0, Q1, Q2, Q3, Q4, Q5⟩ := HQ.out
            have j0 := World.grownBy.cell hx Q0 (by simp)
            have j1 := World.grownBy.cell hx Q1 (by simp)
            have j2 := World.grownBy.cell hx Q2 (by simp)
            have j3 := World.grownBy.cell hx Q3 (by simp)
            have j4 := World.grownBy.cell hx Q4 (by simp)
            have j5 := World.grownBy.cell hx Q5 (by simp)
            clear Q0 Q1 Q2 Q3 Q4 Q5
            clear hx hb
            generalize r.key.length = kl at c0 HKK HKR HKT
            by_cases hk0 : k = 0
            · have HK00 : Hid (k = 0) := hk0
              have hkd : decide (0 < k) = false := by simp; omega
              have hkd2 : decide ((0 : Int) < (k : Int)) = false := decide_eq_false (by omega)
              clear hk0
              as_aux_lemma =>
                go_wp2
                generalize hV : wr.alloc _ = V
                have XV : Ext wr V := by rw [← hV]; exact hE _ _
                have HZV : Hid (Ext W V ∧ Below w.heap.size w V) := by rw [← hV]; exact ⟨HXB.out.1.tr (hE _ _), HXB.out.2.alloc HXB.out.2.size _⟩
                have v0 : ∀ z : BW V, z.u.cell? ⟨wr.heap.size, 0, none⟩ = some (.slice ka kl kc) := bw_cell (by rw [← hV]; exact (at_block (heap_alloc_new wr _) 0 _ rfl).1)
                have v1 : ∀ z : BW V, z.u.cell? ⟨wr.heap.size, 1, none⟩ = some (.int .i64 r.index) := bw_cell (by rw [← hV]; exact (at_block (heap_alloc_new wr _) 1 _ rfl).1)
                clear hV
                obtain ⟨Q0, Q1, Q2, Q3, Q4, Q5⟩ := HQ.out
                have s0 := bw_cell (World.grownBy.cell HZV.out.1 Q0 (by simp))
                have s1 := bw_cell (World.grownBy.cell HZV.out.1 Q1 (by simp))
                have s2 := bw_cell (World.grownBy.cell HZV.out.1 Q2 (by simp))
                have s3 := bw_cell (World.grownBy.cell HZV.out.1 Q3 (by simp))
                have s4 := bw_cell (World.grownBy.cell HZV.out.1 Q4 (by simp))
                have s5 := bw_cell (World.grownBy.cell HZV.out.1 Q5 (by simp))
                clear Q0 Q1 Q2 Q3 Q4 Q5
                clear c0 c1 j0 j1 j2 j3 j4 j5
                have nonV := bw_ne V
                refine wp_region_bw (by kernel_rfl) (by kernel_rfl) ?_
                repeat (go_big_quiet_step ((first | (go_at_call 64; exact bw_same (HKK.out _ (XV.tr (bw_ext _)))) | (go_at_call 67; exact bw_below (HKR.out _ (XV.tr (bw_ext _)))) | (go_at_call 68; exact bw_below (HKT.out _ (XV.tr (bw_ext _)))))))
                cases b1
                case false =>
                  simp only [Bool.not_false]
                  repeat (go_big_quiet_step ((first | (go_at_call 64; exact bw_same (HKK.out _ (XV.tr (bw_ext _)))) | (go_at_call 67; exact bw_below (HKR.out _ (XV.tr (bw_ext _)))) | (go_at_call 68; exact bw_below (HKT.out _ (XV.tr (bw_ext _)))))))
                  refine wpQuiet_nil ?_
                  intro _ hw'
                  obtain ⟨z, hw''⟩ := hw'
                  subst hw''
                  have HK : Hid (bS = false) := HKF.out (fun h => by
                    have := HRA.out.1 h
                    simp_all
                    )
                  clear HKF HRA HAA
                  go_wp2
                  go_ret
                  exact ⟨by rw [HK.out]; rfl, HZV.out.2.trans (z.h.mono HZV.out.2.size)⟩
                simp only [Bool.not_true]
                repeat (go_big_quiet_step ((first | (go_at_call 64; exact bw_same (HKK.out _ (XV.tr (bw_ext _)))) | (go_at_call 67; exact bw_below (HKR.out _ (XV.tr (bw_ext _)))) | (go_at_call 68; exact bw_below (HKT.out _ (XV.tr (bw_ext _)))))))
                cases t4 : decide (0 ≤ fr)
                case true =>
                  repeat (go_big_quiet_step ((first | (go_at_call 64; exact bw_same (HKK.out _ (XV.tr (bw_ext _)))) | (go_at_call 67; exact bw_below (HKR.out _ (XV.tr (bw_ext _)))) | (go_at_call 68; exact bw_below (HKT.out _ (XV.tr (bw_ext _)))))))
                  refine wpQuiet_nil ?_
                  intro _ hw'
                  obtain ⟨z, hw''⟩ := hw'
                  subst hw''
                  have HK : Hid (bS = false) := HKF.out (fun h => by
                    have := HRA.out.1 h
                    have := of_decide_eq_true t4
                    omega
                    )
                  clear HKF HRA HAA
                  go_wp2
                  go_ret
                  exact ⟨by rw [HK.out]; rfl, HZV.out.2.trans (z.h.mono HZV.out.2.size)⟩
                repeat (go_big_quiet_step ((first | (go_at_call 64; exact bw_same (HKK.out _ (XV.tr (bw_ext _)))) | (go_at_call 67; exact bw_below (HKR.out _ (XV.tr (bw_ext _)))) | (go_at_call 68; exact bw_below (HKT.out _ (XV.tr (bw_ext _)))))))
                cases t5 : (ft != (k : Int))
                case true =>
                  repeat (go_big_quiet_step ((first | (go_at_call 64; exact bw_same (HKK.out _ (XV.tr (bw_ext _)))) | (go_at_call 67; exact bw_below (HKR.out _ (XV.tr (bw_ext _)))) | (go_at_call 68; exact bw_below (HKT.out _ (XV.tr (bw_ext _)))))))
                  refine wpQuiet_nil ?_
                  intro _ hw'
                  obtain ⟨z, hw''⟩ := hw'
                  subst hw''
                  have HK : Hid (bS = false) := HKF.out (fun h => by
                    have h3 := (HRA.out.1 h).2.2.1
                    rw [h3] at t5
                    simp at t5
                    )
                  clear HKF HRA HAA
                  go_wp2
                  go_ret
                  exact ⟨by rw [HK.out]; rfl, HZV.out.2.trans (z.h.mono HZV.out.2.size)⟩
                repeat (go_big_quiet_step ((first | (go_at_call 64; exact bw_same (HKK.out _ (XV.tr (bw_ext _)))) | (go_at_call 67; exact bw_below (HKR.out _ (XV.tr (bw_ext _)))) | (go_at_call 68; exact bw_below (HKT.out _ (XV.tr (bw_ext _)))))))
                cases t1 : decide (r.index < 1)
                case true =>
                  repeat (go_big_quiet_step ((first | (go_at_call 64; exact bw_same (HKK.out _ (XV.tr (bw_ext _)))) | (go_at_call 67; exact bw_below (HKR.out _ (XV.tr (bw_ext _)))) | (go_at_call 68; exact bw_below (HKT.out _ (XV.tr (bw_ext _)))))))
                  refine wpQuiet_nil ?_
                  intro _ hw'
                  obtain ⟨z, hw''⟩ := hw'
                  subst hw''
                  have HK : Hid (bS = false) := HKF.out (fun h => by
                    have := HRA.out.1 h
                    have := of_decide_eq_true t1
                    omega
                    )
                  clear HKF HRA HAA
                  go_wp2
                  go_ret
                  exact ⟨by rw [HK.out]; rfl, HZV.out.2.trans (z.h.mono HZV.out.2.size)⟩
                repeat (go_big_quiet_step ((first | (go_at_call 64; exact bw_same (HKK.out _ (XV.tr (bw_ext _)))) | (go_at_call 67; exact bw_below (HKR.out _ (XV.tr (bw_ext _)))) | (go_at_call 68; exact bw_below (HKT.out _ (XV.tr (bw_ext _)))))))
                cases t2 : decide (idx < r.index)
                case true =>
                  repeat (go_big_quiet_step ((first | (go_at_call 64; exact bw_same (HKK.out _ (XV.tr (bw_ext _)))) | (go_at_call 67; exact bw_below (HKR.out _ (XV.tr (bw_ext _)))) | (go_at_call 68; exact bw_below (HKT.out _ (XV.tr (bw_ext _)))))))
                  refine wpQuiet_nil ?_
                  intro _ hw'
                  obtain ⟨z, hw''⟩ := hw'
                  subst hw''
                  have HK : Hid (bS = false) := HKF.out (fun h => by
                    have := HRA.out.1 h
                    have := of_decide_eq_true t2
                    omega
                    )
                  clear HKF HRA HAA
                  go_wp2
                  go_ret
                  exact ⟨by rw [HK.out]; rfl, HZV.out.2.trans (z.h.mono HZV.out.2.size)⟩
                repeat (go_big_quiet_step ((first | (go_at_call 64; exact bw_same (HKK.out _ (XV.tr (bw_ext _)))) | (go_at_call 67; exact bw_below (HKR.out _ (XV.tr (bw_ext _)))) | (go_at_call 68; exact bw_below (HKT.out _ (XV.tr (bw_ext _)))))))
                cases t3 : decide (r.index < lost)
                case true =>
                  repeat (go_big_quiet_step ((first | (go_at_call 64; exact bw_same (HKK.out _ (XV.tr (bw_ext _)))) | (go_at_call 67; exact bw_below (HKR.out _ (XV.tr (bw_ext _)))) | (go_at_call 68; exact bw_below (HKT.out _ (XV.tr (bw_ext _)))))))
                  refine wpQuiet_nil ?_
                  intro _ hw'
                  obtain ⟨z, hw''⟩ := hw'
                  subst hw''
                  have HK : Hid (bS = false) := HKF.out (fun h => by
                    have := HRA.out.1 h
                    have := of_decide_eq_true t3
                    omega
                    )
                  clear HKF HRA HAA
                  go_wp2
                  go_ret
                  exact ⟨by rw [HK.out]; rfl, HZV.out.2.trans (z.h.mono HZV.out.2.size)⟩
                repeat (go_big_quiet_step ((first | (go_at_call 64; exact bw_same (HKK.out _ (XV.tr (bw_ext _)))) | (go_at_call 67; exact bw_below (HKR.out _ (XV.tr (bw_ext _)))) | (go_at_call 68; exact bw_below (HKT.out _ (XV.tr (bw_ext _)))))))
                repeat (go_big_quiet_step ((first | (go_at_call 64; exact bw_same (HKK.out _ (XV.tr (bw_ext _)))) | (go_at_call 67; exact bw_below (HKR.out _ (XV.tr (bw_ext _)))) | (go_at_call 68; exact bw_below (HKT.out _ (XV.tr (bw_ext _)))))))
                refine wpQuiet_nil ?_
                intro _ hw'
                obtain ⟨z, hw''⟩ := hw'
                subst hw''
                have HA : Hid (∀ j, j < k + 1 → TombAt idx lost rows tombs j) := HAA.out (HRA.out.2 ⟨rfl, by have := of_decide_eq_false t4; omega, by simpa using t5, by have := of_decide_eq_false t1; omega, by have := of_decide_eq_false t2; omega, by have := of_decide_eq_false t3; omega, fun _ h => absurd h (by have := HK00.out; omega)⟩)
                clear HKF HRA HAA
                go_wp2
                go_roundw
                case rel => exact ⟨k + 1, by omega, by go_num, HZV.out.1.tr (bw_ext z), HZV.out.2.trans (z.h.mono HZV.out.2.size), HA⟩
                case measure => simp [intOf]; omega
            · obtain ⟨k', rfl⟩ : ∃ k', k = k' + 1 := ⟨k - 1, by omega⟩
              obtain ⟨pr, hpr⟩ : ∃ pr, tombs[k']? = some pr := ⟨_, List.getElem?_eq_getElem (by have := HN.out; omega)⟩
              have hk1 : (k' : Int) < (m : Int) := by omega
              have hk2 : (0 : Int) ≤ (k' : Int) := by omega
              have hw1 : IntKind.i64.wrap ((k' : Int) + 1 - 1) = (k' : Int) := by rw [Int.add_sub_cancel, IntKind.wrap_i64]; omega
              have hw2 : IntKind.i64.wrap (k' : Int) = (k' : Int) := by rw [IntKind.wrap_i64]; omega
              have hkd : decide ((0 : Int) < (k' : Int) + 1) = true := decide_eq_true (by omega)
              have HPR : Hid (tombs[k']? = some pr) := hpr
              clear hk0
              have y0 := HKC.out k' pr (by omega) hpr
              clear hpr
              as_aux_lemma =>
                go_wp2
                generalize hV : wr.alloc _ = V
                have XV : Ext wr V := by rw [← hV]; exact hE _ _
                have HZV : Hid (Ext W V ∧ Below w.heap.size w V) := by rw [← hV]; exact ⟨HXB.out.1.tr (hE _ _), HXB.out.2.alloc HXB.out.2.size _⟩
                have v0 : ∀ z : BW V, z.u.cell? ⟨wr.heap.size, 0, none⟩ = some (.slice ka kl kc) := bw_cell (by rw [← hV]; exact (at_block (heap_alloc_new wr _) 0 _ rfl).1)
                have v1 : ∀ z : BW V, z.u.cell? ⟨wr.heap.size, 1, none⟩ = some (.int .i64 r.index) := bw_cell (by rw [← hV]; exact (at_block (heap_alloc_new wr _) 1 _ rfl).1)
                clear hV
                obtain ⟨Q0, Q1, Q2, Q3, Q4, Q5⟩ := HQ.out
                have s0 := bw_cell (World.grownBy.cell HZV.out.1 Q0 (by simp))
                have s1 := bw_cell (World.grownBy.cell HZV.out.1 Q1 (by simp))
                have s2 := bw_cell (World.grownBy.cell HZV.out.1 Q2 (by simp))
                have s3 := bw_cell (World.grownBy.cell HZV.out.1 Q3 (by simp))
                have s4 := bw_cell (World.grownBy.cell HZV.out.1 Q4 (by simp))
                have s5 := bw_cell (World.grownBy.cell HZV.out.1 Q5 (by simp))
                clear Q0 Q1 Q2 Q3 Q4 Q5
                clear c0 c1 j0 j1 j2 j3 j4 j5
                have y1 := bw_cell (World.grownBy.cell XV y0 (by simp))
                clear y0
                have nonV := bw_ne V
                refine wp_region_bw (by kernel_rfl) (by kernel_rfl) ?_
                repeat (go_big_quiet_step ((first | (go_at_call 64; exact bw_same (HKK.out _ (XV.tr (bw_ext _)))) | (go_at_call 67; exact bw_below (HKR.out _ (XV.tr (bw_ext _)))) | (go_at_call 68; exact bw_below (HKT.out _ (XV.tr (bw_ext _)))))))
                cases b1
                case false =>
                  simp only [Bool.not_false]
                  repeat (go_big_quiet_step ((first | (go_at_call 64; exact bw_same (HKK.out _ (XV.tr (bw_ext _)))) | (go_at_call 67; exact bw_below (HKR.out _ (XV.tr (bw_ext _)))) | (go_at_call 68; exact bw_below (HKT.out _ (XV.tr (bw_ext _)))))))
                  refine wpQuiet_nil ?_
                  intro _ hw'
                  obtain ⟨z, hw''⟩ := hw'
                  subst hw''
                  have HK : Hid (bS = false) := HKF.out (fun h => by
                    have := HRA.out.1 h
                    simp_all
                    )
                  clear HKF HRA HAA
                  go_wp2
                  go_ret
                  exact ⟨by rw [HK.out]; rfl, HZV.out.2.trans (z.h.mono HZV.out.2.size)⟩
                simp only [Bool.not_true]
                repeat (go_big_quiet_step ((first | (go_at_call 64; exact bw_same (HKK.out _ (XV.tr (bw_ext _)))) | (go_at_call 67; exact bw_below (HKR.out _ (XV.tr (bw_ext _)))) | (go_at_call 68; exact bw_below (HKT.out _ (XV.tr (bw_ext _)))))))
                cases t4 : decide (0 ≤ fr)
                case true =>
                  repeat (go_big_quiet_step ((first | (go_at_call 64; exact bw_same (HKK.out _ (XV.tr (bw_ext _)))) | (go_at_call 67; exact bw_below (HKR.out _ (XV.tr (bw_ext _)))) | (go_at_call 68; exact bw_below (HKT.out _ (XV.tr (bw_ext _)))))))
                  refine wpQuiet_nil ?_
                  intro _ hw'
                  obtain ⟨z, hw''⟩ := hw'
                  subst hw''
                  have HK : Hid (bS = false) := HKF.out (fun h => by
                    have := HRA.out.1 h
                    have := of_decide_eq_true t4
                    omega
                    )
                  clear HKF HRA HAA
                  go_wp2
                  go_ret
                  exact ⟨by rw [HK.out]; rfl, HZV.out.2.trans (z.h.mono HZV.out.2.size)⟩
                repeat (go_big_quiet_step ((first | (go_at_call 64; exact bw_same (HKK.out _ (XV.tr (bw_ext _)))) | (go_at_call 67; exact bw_below (HKR.out _ (XV.tr (bw_ext _)))) | (go_at_call 68; exact bw_below (HKT.out _ (XV.tr (bw_ext _)))))))
                cases t5 : (ft != ((k' : Int) + 1))
                case true =>
                  repeat (go_big_quiet_step ((first | (go_at_call 64; exact bw_same (HKK.out _ (XV.tr (bw_ext _)))) | (go_at_call 67; exact bw_below (HKR.out _ (XV.tr (bw_ext _)))) | (go_at_call 68; exact bw_below (HKT.out _ (XV.tr (bw_ext _)))))))
                  refine wpQuiet_nil ?_
                  intro _ hw'
                  obtain ⟨z, hw''⟩ := hw'
                  subst hw''
                  have HK : Hid (bS = false) := HKF.out (fun h => by
                    have h3 := (HRA.out.1 h).2.2.1
                    rw [h3] at t5
                    simp at t5
                    )
                  clear HKF HRA HAA
                  go_wp2
                  go_ret
                  exact ⟨by rw [HK.out]; rfl, HZV.out.2.trans (z.h.mono HZV.out.2.size)⟩
                repeat (go_big_quiet_step ((first | (go_at_call 64; exact bw_same (HKK.out _ (XV.tr (bw_ext _)))) | (go_at_call 67; exact bw_below (HKR.out _ (XV.tr (bw_ext _)))) | (go_at_call 68; exact bw_below (HKT.out _ (XV.tr (bw_ext _)))))))
                cases t1 : decide (r.index < 1)
                case true =>
                  repeat (go_big_quiet_step ((first | (go_at_call 64; exact bw_same (HKK.out _ (XV.tr (bw_ext _)))) | (go_at_call 67; exact bw_below (HKR.out _ (XV.tr (bw_ext _)))) | (go_at_call 68; exact bw_below (HKT.out _ (XV.tr (bw_ext _)))))))
                  refine wpQuiet_nil ?_
                  intro _ hw'
                  obtain ⟨z, hw''⟩ := hw'
                  subst hw''
                  have HK : Hid (bS = false) := HKF.out (fun h => by
                    have := HRA.out.1 h
                    have := of_decide_eq_true t1
                    omega
                    )
                  clear HKF HRA HAA
                  go_wp2
                  go_ret
                  exact ⟨by rw [HK.out]; rfl, HZV.out.2.trans (z.h.mono HZV.out.2.size)⟩
                repeat (go_big_quiet_step ((first | (go_at_call 64; exact bw_same (HKK.out _ (XV.tr (bw_ext _)))) | (go_at_call 67; exact bw_below (HKR.out _ (XV.tr (bw_ext _)))) | (go_at_call 68; exact bw_below (HKT.out _ (XV.tr (bw_ext _)))))))
                cases t2 : decide (idx < r.index)
                case true =>
                  repeat (go_big_quiet_step ((first | (go_at_call 64; exact bw_same (HKK.out _ (XV.tr (bw_ext _)))) | (go_at_call 67; exact bw_below (HKR.out _ (XV.tr (bw_ext _)))) | (go_at_call 68; exact bw_below (HKT.out _ (XV.tr (bw_ext _)))))))
                  refine wpQuiet_nil ?_
                  intro _ hw'
                  obtain ⟨z, hw''⟩ := hw'
                  subst hw''
                  have HK : Hid (bS = false) := HKF.out (fun h => by
                    have := HRA.out.1 h
                    have := of_decide_eq_true t2
                    omega
                    )
                  clear HKF HRA HAA
                  go_wp2
                  go_ret
                  exact ⟨by rw [HK.out]; rfl, HZV.out.2.trans (z.h.mono HZV.out.2.size)⟩
                repeat (go_big_quiet_step ((first | (go_at_call 64; exact bw_same (HKK.out _ (XV.tr (bw_ext _)))) | (go_at_call 67; exact bw_below (HKR.out _ (XV.tr (bw_ext _)))) | (go_at_call 68; exact bw_below (HKT.out _ (XV.tr (bw_ext _)))))))
                cases t3 : decide (r.index < lost)
                case true =>
                  repeat (go_big_quiet_step ((first | (go_at_call 64; exact bw_same (HKK.out _ (XV.tr (bw_ext _)))) | (go_at_call 67; exact bw_below (HKR.out _ (XV.tr (bw_ext _)))) | (go_at_call 68; exact bw_below (HKT.out _ (XV.tr (bw_ext _)))))))
                  refine wpQuiet_nil ?_
                  intro _ hw'
                  obtain ⟨z, hw''⟩ := hw'
                  subst hw''
                  have HK : Hid (bS = false) := HKF.out (fun h => by
                    have := HRA.out.1 h
                    have := of_decide_eq_true t3
                    omega
                    )
                  clear HKF HRA HAA
                  go_wp2
                  go_ret
                  exact ⟨by rw [HK.out]; rfl, HZV.out.2.trans (z.h.mono HZV.out.2.size)⟩
                repeat (go_big_quiet_step ((first | (go_at_call 64; exact bw_same (HKK.out _ (XV.tr (bw_ext _)))) | (go_at_call 67; exact bw_below (HKR.out _ (XV.tr (bw_ext _)))) | (go_at_call 68; exact bw_below (HKT.out _ (XV.tr (bw_ext _)))))))
                cases t9 : decide (r.index < pr.index)
                case true =>
                  repeat (go_big_quiet_step ((first | (go_at_call 64; exact bw_same (HKK.out _ (XV.tr (bw_ext _)))) | (go_at_call 67; exact bw_below (HKR.out _ (XV.tr (bw_ext _)))) | (go_at_call 68; exact bw_below (HKT.out _ (XV.tr (bw_ext _)))))))
                  refine wpQuiet_nil ?_
                  intro _ hw'
                  obtain ⟨z, hw''⟩ := hw'
                  subst hw''
                  have HK : Hid (bS = false) := HKF.out (fun h => by
                    have := (HRA.out.1 h).2.2.2.2.2.2 pr (by omega) (by simpa using HPR.out)
                    have := of_decide_eq_true t9
                    omega
                    )
                  clear HKF HRA HAA
                  go_wp2
                  go_ret
                  exact ⟨by rw [HK.out]; rfl, HZV.out.2.trans (z.h.mono HZV.out.2.size)⟩
                repeat (go_big_quiet_step ((first | (go_at_call 64; exact bw_same (HKK.out _ (XV.tr (bw_ext _)))) | (go_at_call 67; exact bw_below (HKR.out _ (XV.tr (bw_ext _)))) | (go_at_call 68; exact bw_below (HKT.out _ (XV.tr (bw_ext _)))))))
                refine wpQuiet_nil ?_
                intro _ hw'
                obtain ⟨z, hw''⟩ := hw'
                subst hw''
                have HA : Hid (∀ j, j < k' + 1 + 1 → TombAt idx lost rows tombs j) := HAA.out (HRA.out.2 ⟨rfl, by have := of_decide_eq_false t4; omega, by simpa using t5, by have := of_decide_eq_false t1; omega, by have := of_decide_eq_false t2; omega, by have := of_decide_eq_false t3; omega, fun p' _ hp' => by
                  rw [Nat.add_sub_cancel, HPR.out] at hp'
                  cases hp'
                  have := of_decide_eq_false t9
                  omega⟩)
                clear HKF HRA HAA
                go_wp2
                go_roundw
                case rel => exact ⟨k' + 1 + 1, by omega, by go_num, HZV.out.1.tr (bw_ext z), HZV.out.2.trans (z.h.mono HZV.out.2.size), HA⟩
                case measure => simp [intOf]; omega
          · have hkn : m = k := by omega
            subst hkn
            have HARt : Hid (∀ j, j < m → TombAt idx lost rows tombs j) := hall
            have HXt : Hid (Ext W wr ∧ Below w.heap.size w wr) := ⟨hx, hb⟩
            clear hall
            obtain ⟨Q0, Q1, Q2, Q3, Q4, Q5⟩ := HQ.out
            have j0 := World.grownBy.cell hx Q0 (by simp)
            have j1 := World.grownBy.cell hx Q1 (by simp)
            have j2 := World.grownBy.cell hx Q2 (by simp)
            have j3 := World.grownBy.cell hx Q3 (by simp)
            have j4 := World.grownBy.cell hx Q4 (by simp)
            have j5 := World.grownBy.cell hx Q5 (by simp)
            clear Q0 Q1 Q2 Q3 Q4 Q5
            clear hx hb
            go_wp2
            as_aux_lemma =>
              go_loopw [7] (fun i wr => ∃ k : Nat, k ≤ p ∧ i = .int .i64 k ∧ Ext W wr ∧ Below w.heap.size w wr ∧ Hid (∀ j, j < k → SessAt idx sess j)) (fun i _ => p - (intOf i).toNat)
              case atStart => exact ⟨0, Nat.zero_le _, rfl, HXt.out.1, HXt.out.2, fun j hj => absurd hj (by omega)⟩
              case round =>
                obtain ⟨k, hk, rfl, hx, hb, hall⟩ := hrel
                by_cases hlt : k < p
                · obtain ⟨b, o, rfl, hbl, hc⟩ := H3s.out (by omega)
                  obtain ⟨r, hr⟩ : ∃ r, sess[k]? = some r := ⟨_, List.getElem?_eq_getElem (by have := HN.out; omega)⟩
                  obtain ⟨x0, _⟩ := HD.out k r hr
                  have X := HW.out.2.tr hx
                  have c0 := World.grownBy.cell X (hc k (by omega) 0 (by omega)) (by simp)
                  rw [Nat.add_zero, x0] at c0
                  have hlt' : (k : Int) < (p : Int) := by omega
                  have HKC : Hid (∀ i pr, i < p → sess[i]? = some pr → wr.cell? ⟨b, o + i * 2, none⟩ = some (.int .i64 pr.id)) := fun i pr hi hpr => by
                    rw [← (HD.out i pr hpr).1]
                    exact World.grownBy.cell X (hc i hi 0 (by omega)) (by simp)
                  have HRA : Hid (SessAt idx sess k ↔ 1 ≤ r.id ∧ r.id ≤ idx ∧ ∀ p, 0 < k → sess[k - 1]? = some p → p.id < r.id) := by
                    show _ ↔ _
                    constructor
                    · exact fun h => h r hr
                    · intro h r' hr'
                      rw [hr] at hr'
                      cases hr'
                      exact h
                  have HKF : Hid (¬ SessAt idx sess k → bS = false) := fun h => by
                    rw [← HBS.out]
                    exact tB_false (fun h' => h ((HSt.out.1 h').2.2.1.2 k (by have := HN.out; omega)))
                  have HAA : Hid (SessAt idx sess k → ∀ j, j < k + 1 → SessAt idx sess j) := fun h j hj => by
                    by_cases e : j = k
                    · subst e; exact h
                    · exact hall.out j (by omega)
                  have HXB : Hid (Ext W wr ∧ Below w.heap.size w wr) := ⟨hx, hb⟩
                  clear hc x0 hall X
                  obtain ⟨Q0, Q1, Q2, Q3, Q4, Q5⟩ := HQ.out
                  have j0 := World.grownBy.cell hx Q0 (by simp)
                  have j1 := World.grownBy.cell hx Q1 (by simp)
                  have j2 := World.grownBy.cell hx Q2 (by simp)
                  have j3 := World.grownBy.cell hx Q3 (by simp)
                  have j4 := World.grownBy.cell hx Q4 (by simp)
                  have j5 := World.grownBy.cell hx Q5 (by simp)
                  clear Q0 Q1 Q2 Q3 Q4 Q5
                  clear hx hb
                  have XV : Ext wr wr := Ext.re _
                  have HZV := HXB
                  by_cases hk0 : k = 0
                  · have HK00 : Hid (k = 0) := hk0
                    have hkd : decide (0 < k) = false := by simp; omega
                    have hkd2 : decide ((0 : Int) < (k : Int)) = false := decide_eq_false (by omega)
                    clear hk0
                    as_aux_lemma =>
                      go_wp2
                      obtain ⟨Q0, Q1, Q2, Q3, Q4, Q5⟩ := HQ.out
                      have s0 := bw_cell (World.grownBy.cell HZV.out.1 Q0 (by simp))
                      have s1 := bw_cell (World.grownBy.cell HZV.out.1 Q1 (by simp))
                      have s2 := bw_cell (World.grownBy.cell HZV.out.1 Q2 (by simp))
                      have s3 := bw_cell (World.grownBy.cell HZV.out.1 Q3 (by simp))
                      have s4 := bw_cell (World.grownBy.cell HZV.out.1 Q4 (by simp))
                      have s5 := bw_cell (World.grownBy.cell HZV.out.1 Q5 (by simp))
                      clear Q0 Q1 Q2 Q3 Q4 Q5
                      have c0' := bw_cell c0
                      clear c0 j0 j1 j2 j3 j4 j5
                      have nonV := bw_ne wr
                      refine wp_region_bw (by kernel_rfl) (by kernel_rfl) ?_
                      repeat (go_big_quiet_step (fail))
                      cases t1 : decide (r.id < 1)
                      case true =>
                        repeat (go_big_quiet_step (fail))
                        refine wpQuiet_nil ?_
                        intro _ hw'
                        obtain ⟨z, hw''⟩ := hw'
                        subst hw''
                        have HK : Hid (bS = false) := HKF.out (fun h => by
                          have := HRA.out.1 h
                          have := of_decide_eq_true t1
                          omega
                          )
                        clear HKF HRA HAA
                        go_wp2
                        go_ret
                        exact ⟨by rw [HK.out]; rfl, HZV.out.2.trans (z.h.mono HZV.out.2.size)⟩
                      repeat (go_big_quiet_step (fail))
                      cases t2 : decide (idx < r.id)
                      case true =>
                        repeat (go_big_quiet_step (fail))
                        refine wpQuiet_nil ?_
                        intro _ hw'
                        obtain ⟨z, hw''⟩ := hw'
                        subst hw''
                        have HK : Hid (bS = false) := HKF.out (fun h => by
                          have := HRA.out.1 h
                          have := of_decide_eq_true t2
                          omega
                          )
                        clear HKF HRA HAA
                        go_wp2
                        go_ret
                        exact ⟨by rw [HK.out]; rfl, HZV.out.2.trans (z.h.mono HZV.out.2.size)⟩
                      repeat (go_big_quiet_step (fail))
                      repeat (go_big_quiet_step (fail))
                      refine wpQuiet_nil ?_
                      intro _ hw'
                      obtain ⟨z, hw''⟩ := hw'
                      subst hw''
                      have HA : Hid (∀ j, j < k + 1 → SessAt idx sess j) := HAA.out (HRA.out.2 ⟨by have := of_decide_eq_false t1; omega, by have := of_decide_eq_false t2; omega, fun _ h => absurd h (by have := HK00.out; omega)⟩)
                      clear HKF HRA HAA
                      go_wp2
                      go_roundw
                      case rel => exact ⟨k + 1, by omega, by go_num, HZV.out.1.tr (bw_ext z), HZV.out.2.trans (z.h.mono HZV.out.2.size), HA⟩
                      case measure => simp [intOf]; omega
                  · obtain ⟨k', rfl⟩ : ∃ k', k = k' + 1 := ⟨k - 1, by omega⟩
                    obtain ⟨pr, hpr⟩ : ∃ pr, sess[k']? = some pr := ⟨_, List.getElem?_eq_getElem (by have := HN.out; omega)⟩
                    have hk1 : (k' : Int) < (p : Int) := by omega
                    have hk2 : (0 : Int) ≤ (k' : Int) := by omega
                    have hw1 : IntKind.i64.wrap ((k' : Int) + 1 - 1) = (k' : Int) := by rw [Int.add_sub_cancel, IntKind.wrap_i64]; omega
                    have hw2 : IntKind.i64.wrap (k' : Int) = (k' : Int) := by rw [IntKind.wrap_i64]; omega
                    have hkd : decide ((0 : Int) < (k' : Int) + 1) = true := decide_eq_true (by omega)
                    have HPR : Hid (sess[k']? = some pr) := hpr
                    clear hk0
                    have y0 := HKC.out k' pr (by omega) hpr
                    clear hpr
                    as_aux_lemma =>
                      go_wp2
                      obtain ⟨Q0, Q1, Q2, Q3, Q4, Q5⟩ := HQ.out
                      have s0 := bw_cell (World.grownBy.cell HZV.out.1 Q0 (by simp))
                      have s1 := bw_cell (World.grownBy.cell HZV.out.1 Q1 (by simp))
                      have s2 := bw_cell (World.grownBy.cell HZV.out.1 Q2 (by simp))
                      have s3 := bw_cell (World.grownBy.cell HZV.out.1 Q3 (by simp))
                      have s4 := bw_cell (World.grownBy.cell HZV.out.1 Q4 (by simp))
                      have s5 := bw_cell (World.grownBy.cell HZV.out.1 Q5 (by simp))
                      clear Q0 Q1 Q2 Q3 Q4 Q5
                      have c0' := bw_cell c0
                      clear c0 j0 j1 j2 j3 j4 j5
                      have y1 := bw_cell (World.grownBy.cell XV y0 (by simp))
                      clear y0
                      have nonV := bw_ne wr
                      refine wp_region_bw (by kernel_rfl) (by kernel_rfl) ?_
                      repeat (go_big_quiet_step (fail))
                      cases t1 : decide (r.id < 1)
                      case true =>
                        repeat (go_big_quiet_step (fail))
                        refine wpQuiet_nil ?_
                        intro _ hw'
                        obtain ⟨z, hw''⟩ := hw'
                        subst hw''
                        have HK : Hid (bS = false) := HKF.out (fun h => by
                          have := HRA.out.1 h
                          have := of_decide_eq_true t1
                          omega
                          )
                        clear HKF HRA HAA
                        go_wp2
                        go_ret
                        exact ⟨by rw [HK.out]; rfl, HZV.out.2.trans (z.h.mono HZV.out.2.size)⟩
                      repeat (go_big_quiet_step (fail))
                      cases t2 : decide (idx < r.id)
                      case true =>
                        repeat (go_big_quiet_step (fail))
                        refine wpQuiet_nil ?_
                        intro _ hw'
                        obtain ⟨z, hw''⟩ := hw'
                        subst hw''
                        have HK : Hid (bS = false) := HKF.out (fun h => by
                          have := HRA.out.1 h
                          have := of_decide_eq_true t2
                          omega
                          )
                        clear HKF HRA HAA
                        go_wp2
                        go_ret
                        exact ⟨by rw [HK.out]; rfl, HZV.out.2.trans (z.h.mono HZV.out.2.size)⟩
                      repeat (go_big_quiet_step (fail))
                      cases t9 : decide (r.id ≤ pr.id)
                      case true =>
                        repeat (go_big_quiet_step (fail))
                        refine wpQuiet_nil ?_
                        intro _ hw'
                        obtain ⟨z, hw''⟩ := hw'
                        subst hw''
                        have HK : Hid (bS = false) := HKF.out (fun h => by
                          have := (HRA.out.1 h).2.2 pr (by omega) (by simpa using HPR.out)
                          have := of_decide_eq_true t9
                          omega
                          )
                        clear HKF HRA HAA
                        go_wp2
                        go_ret
                        exact ⟨by rw [HK.out]; rfl, HZV.out.2.trans (z.h.mono HZV.out.2.size)⟩
                      repeat (go_big_quiet_step (fail))
                      refine wpQuiet_nil ?_
                      intro _ hw'
                      obtain ⟨z, hw''⟩ := hw'
                      subst hw''
                      have HA : Hid (∀ j, j < k' + 1 + 1 → SessAt idx sess j) := HAA.out (HRA.out.2 ⟨by have := of_decide_eq_false t1; omega, by have := of_decide_eq_false t2; omega, fun p' _ hp' => by
                        rw [Nat.add_sub_cancel, HPR.out] at hp'
                        cases hp'
                        have := of_decide_eq_false t9
                        omega⟩)
                      clear HKF HRA HAA
                      go_wp2
                      go_roundw
                      case rel => exact ⟨k' + 1 + 1, by omega, by go_num, HZV.out.1.tr (bw_ext z), HZV.out.2.trans (z.h.mono HZV.out.2.size), HA⟩
                      case measure => simp [intOf]; omega
                · have hkn : p = k := by omega
                  subst hkn
                  have HARs : Hid (∀ j, j < p → SessAt idx sess j) := hall
                  have HXs : Hid (Ext W wr ∧ Below w.heap.size w wr) := ⟨hx, hb⟩
                  clear hall
                  obtain ⟨Q0, Q1, Q2, Q3, Q4, Q5⟩ := HQ.out
                  have j0 := World.grownBy.cell hx Q0 (by simp)
                  have j1 := World.grownBy.cell hx Q1 (by simp)
                  have j2 := World.grownBy.cell hx Q2 (by simp)
                  have j3 := World.grownBy.cell hx Q3 (by simp)
                  have j4 := World.grownBy.cell hx Q4 (by simp)
                  have j5 := World.grownBy.cell hx Q5 (by simp)
                  clear Q0 Q1 Q2 Q3 Q4 Q5
                  clear hx hb
                  go_wp2
                  as_aux_lemma =>
                    go_loopw [8] (fun i wr => ∃ k : Nat, k ≤ q ∧ i = .int .i64 k ∧ Ext W wr ∧ Below w.heap.size w wr ∧ Hid (∀ j, j < k → LastAt idx lasts j)) (fun i _ => q - (intOf i).toNat)
                    case atStart => exact ⟨0, Nat.zero_le _, rfl, HXs.out.1, HXs.out.2, fun j hj => absurd hj (by omega)⟩
                    case round =>
                      obtain ⟨k, hk, rfl, hx, hb, hall⟩ := hrel
                      by_cases hlt : k < q
                      · obtain ⟨b, o, rfl, hbl, hc⟩ := H3l.out (by omega)
                        obtain ⟨r, hr⟩ : ∃ r, lasts[k]? = some r := ⟨_, List.getElem?_eq_getElem (by have := HN.out; omega)⟩
                        obtain ⟨x0, x1, x2, x3⟩ := HL.out k r hr
                        have X := HW.out.2.tr hx
                        have c0 := World.grownBy.cell X (hc k (by omega) 0 (by omega)) (by simp)
                        have c1 := World.grownBy.cell X (hc k (by omega) 1 (by omega)) (by simp)
                        have c2 := World.grownBy.cell X (hc k (by omega) 2 (by omega)) (by simp)
                        have c3 := World.grownBy.cell X (hc k (by omega) 3 (by omega)) (by simp)
                        rw [Nat.add_zero, x0] at c0
                        rw [x1] at c1
                        rw [x2] at c2
                        rw [x3] at c3
                        have hlt' : (k : Int) < (q : Int) := by omega
                        have HKC : Hid (∀ i pr, i < q → lasts[i]? = some pr → wr.cell? ⟨b, o + i * 4, none⟩ = some (.int .i64 pr.client)) := fun i pr hi hpr => by
                          rw [← (HL.out i pr hpr).1]
                          exact World.grownBy.cell X (hc i hi 0 (by omega)) (by simp)
                        have HRA : Hid (LastAt idx lasts k ↔ 0 ≤ r.client ∧ r.client ≤ 3 ∧ 1 ≤ r.req ∧ r.req ≤ 1000000 ∧ 0 ≤ r.code ∧ r.code ≤ 5 ∧ 1 ≤ r.index ∧ r.index ≤ idx ∧ ∀ p, 0 < k → lasts[k - 1]? = some p → p.client < r.client) := by
                          show _ ↔ _
                          constructor
                          · exact fun h => h r hr
                          · intro h r' hr'
                            rw [hr] at hr'
                            cases hr'
                            exact h
                        have HKF : Hid (¬ LastAt idx lasts k → bS = false) := fun h => by
                          rw [← HBS.out]
                          exact tB_false (fun h' => h ((HSt.out.1 h').2.2.2.2.2.2 k (by have := HN.out; omega)))
                        have HAA : Hid (LastAt idx lasts k → ∀ j, j < k + 1 → LastAt idx lasts j) := fun h j hj => by
                          by_cases e : j = k
                          · subst e; exact h
                          · exact hall.out j (by omega)
                        have HXB : Hid (Ext W wr ∧ Below w.heap.size w wr) := ⟨hx, hb⟩
                        clear hc x0 x1 x2 x3 hall X
                        obtain ⟨Q0, Q1, Q2, Q3, Q4, Q5⟩ := HQ.out
                        have j0 := World.grownBy.cell hx Q0 (by simp)
                        have j1 := World.grownBy.cell hx Q1 (by simp)
                        have j2 := World.grownBy.cell hx Q2 (by simp)
                        have j3 := World.grownBy.cell hx Q3 (by simp)
                        have j4 := World.grownBy.cell hx Q4 (by simp)
                        have j5 := World.grownBy.cell hx Q5 (by simp)
                        clear Q0 Q1 Q2 Q3 Q4 Q5
                        clear hx hb
                        by_cases hk0 : k = 0
                        · have HK00 : Hid (k = 0) := hk0
                          have hkd : decide (0 < k) = false := by simp; omega
                          have hkd2 : decide ((0 : Int) < (k : Int)) = false := decide_eq_false (by omega)
                          clear hk0
                          as_aux_lemma =>
                            go_wp2
                            generalize hV : wr.alloc _ = V
                            have XV : Ext wr V := by rw [← hV]; exact hE _ _
                            have HZV : Hid (Ext W V ∧ Below w.heap.size w V) := by rw [← hV]; exact ⟨HXB.out.1.tr (hE _ _), HXB.out.2.alloc HXB.out.2.size _⟩
                            have v0 : ∀ z : BW V, z.u.cell? ⟨wr.heap.size, 0, none⟩ = some (.int .i64 r.client) := bw_cell (by rw [← hV]; exact (at_block (heap_alloc_new wr _) 0 _ rfl).1)
                            have v1 : ∀ z : BW V, z.u.cell? ⟨wr.heap.size, 1, none⟩ = some (.int .i64 r.req) := bw_cell (by rw [← hV]; exact (at_block (heap_alloc_new wr _) 1 _ rfl).1)
                            have v2 : ∀ z : BW V, z.u.cell? ⟨wr.heap.size, 2, none⟩ = some (.int .i64 r.code) := bw_cell (by rw [← hV]; exact (at_block (heap_alloc_new wr _) 2 _ rfl).1)
                            have v3 : ∀ z : BW V, z.u.cell? ⟨wr.heap.size, 3, none⟩ = some (.int .i64 r.index) := bw_cell (by rw [← hV]; exact (at_block (heap_alloc_new wr _) 3 _ rfl).1)
                            clear hV
                            obtain ⟨Q0, Q1, Q2, Q3, Q4, Q5⟩ := HQ.out
                            have s0 := bw_cell (World.grownBy.cell HZV.out.1 Q0 (by simp))
                            have s1 := bw_cell (World.grownBy.cell HZV.out.1 Q1 (by simp))
                            have s2 := bw_cell (World.grownBy.cell HZV.out.1 Q2 (by simp))
                            have s3 := bw_cell (World.grownBy.cell HZV.out.1 Q3 (by simp))
                            have s4 := bw_cell (World.grownBy.cell HZV.out.1 Q4 (by simp))
                            have s5 := bw_cell (World.grownBy.cell HZV.out.1 Q5 (by simp))
                            clear Q0 Q1 Q2 Q3 Q4 Q5
                            clear c0 c1 c2 c3 j0 j1 j2 j3 j4 j5
                            have nonV := bw_ne V
                            refine wp_region_bw (by kernel_rfl) (by kernel_rfl) ?_
                            repeat (go_big_quiet_step (fail))
                            cases u1 : decide (r.client < 0)
                            case true =>
                              repeat (go_big_quiet_step (fail))
                              refine wpQuiet_nil ?_
                              intro _ hw'
                              obtain ⟨z, hw''⟩ := hw'
                              subst hw''
                              have HK : Hid (bS = false) := HKF.out (fun h => by
                                have := HRA.out.1 h
                                have := of_decide_eq_true u1
                                omega
                                )
                              clear HKF HRA HAA
                              go_wp2
                              go_ret
                              exact ⟨by rw [HK.out]; rfl, HZV.out.2.trans (z.h.mono HZV.out.2.size)⟩
                            repeat (go_big_quiet_step (fail))
                            cases u2 : decide (4 ≤ r.client)
                            case true =>
                              repeat (go_big_quiet_step (fail))
                              refine wpQuiet_nil ?_
                              intro _ hw'
                              obtain ⟨z, hw''⟩ := hw'
                              subst hw''
                              have HK : Hid (bS = false) := HKF.out (fun h => by
                                have := HRA.out.1 h
                                have := of_decide_eq_true u2
                                omega
                                )
                              clear HKF HRA HAA
                              go_wp2
                              go_ret
                              exact ⟨by rw [HK.out]; rfl, HZV.out.2.trans (z.h.mono HZV.out.2.size)⟩
                            repeat (go_big_quiet_step (fail))
                            cases u3 : decide (r.req < 1)
                            case true =>
                              repeat (go_big_quiet_step (fail))
                              refine wpQuiet_nil ?_
                              intro _ hw'
                              obtain ⟨z, hw''⟩ := hw'
                              subst hw''
                              have HK : Hid (bS = false) := HKF.out (fun h => by
                                have := HRA.out.1 h
                                have := of_decide_eq_true u3
                                omega
                                )
                              clear HKF HRA HAA
                              go_wp2
                              go_ret
                              exact ⟨by rw [HK.out]; rfl, HZV.out.2.trans (z.h.mono HZV.out.2.size)⟩
                            repeat (go_big_quiet_step (fail))
                            cases u4 : decide (1000000 < r.req)
                            case true =>
                              repeat (go_big_quiet_step (fail))
                              refine wpQuiet_nil ?_
                              intro _ hw'
                              obtain ⟨z, hw''⟩ := hw'
                              subst hw''
                              have HK : Hid (bS = false) := HKF.out (fun h => by
                                have := HRA.out.1 h
                                have := of_decide_eq_true u4
                                omega
                                )
                              clear HKF HRA HAA
                              go_wp2
                              go_ret
                              exact ⟨by rw [HK.out]; rfl, HZV.out.2.trans (z.h.mono HZV.out.2.size)⟩
                            repeat (go_big_quiet_step (fail))
                            cases u5 : decide (r.code < 0)
                            case true =>
                              repeat (go_big_quiet_step (fail))
                              refine wpQuiet_nil ?_
                              intro _ hw'
                              obtain ⟨z, hw''⟩ := hw'
                              subst hw''
                              have HK : Hid (bS = false) := HKF.out (fun h => by
                                have := HRA.out.1 h
                                have := of_decide_eq_true u5
                                omega
                                )
                              clear HKF HRA HAA
                              go_wp2
                              go_ret
                              exact ⟨by rw [HK.out]; rfl, HZV.out.2.trans (z.h.mono HZV.out.2.size)⟩
                            repeat (go_big_quiet_step (fail))
                            cases u6 : decide (5 < r.code)
                            case true =>
                              repeat (go_big_quiet_step (fail))
                              refine wpQuiet_nil ?_
                              intro _ hw'
                              obtain ⟨z, hw''⟩ := hw'
                              subst hw''
                              have HK : Hid (bS = false) := HKF.out (fun h => by
                                have := HRA.out.1 h
                                have := of_decide_eq_true u6
                                omega
                                )
                              clear HKF HRA HAA
                              go_wp2
                              go_ret
                              exact ⟨by rw [HK.out]; rfl, HZV.out.2.trans (z.h.mono HZV.out.2.size)⟩
                            repeat (go_big_quiet_step (fail))
                            cases u7 : decide (r.index < 1)
                            case true =>
                              repeat (go_big_quiet_step (fail))
                              refine wpQuiet_nil ?_
                              intro _ hw'
                              obtain ⟨z, hw''⟩ := hw'
                              subst hw''
                              have HK : Hid (bS = false) := HKF.out (fun h => by
                                have := HRA.out.1 h
                                have := of_decide_eq_true u7
                                omega
                                )
                              clear HKF HRA HAA
                              go_wp2
                              go_ret
                              exact ⟨by rw [HK.out]; rfl, HZV.out.2.trans (z.h.mono HZV.out.2.size)⟩
                            repeat (go_big_quiet_step (fail))
                            cases u8 : decide (idx < r.index)
                            case true =>
                              repeat (go_big_quiet_step (fail))
                              refine wpQuiet_nil ?_
                              intro _ hw'
                              obtain ⟨z, hw''⟩ := hw'
                              subst hw''
                              have HK : Hid (bS = false) := HKF.out (fun h => by
                                have := HRA.out.1 h
                                have := of_decide_eq_true u8
                                omega
                                )
                              clear HKF HRA HAA
                              go_wp2
                              go_ret
                              exact ⟨by rw [HK.out]; rfl, HZV.out.2.trans (z.h.mono HZV.out.2.size)⟩
                            repeat (go_big_quiet_step (fail))
                            repeat (go_big_quiet_step (fail))
                            refine wpQuiet_nil ?_
                            intro _ hw'
                            obtain ⟨z, hw''⟩ := hw'
                            subst hw''
                            have HA : Hid (∀ j, j < k + 1 → LastAt idx lasts j) := HAA.out (HRA.out.2 ⟨by have := of_decide_eq_false u1; omega, by have := of_decide_eq_false u2; omega, by have := of_decide_eq_false u3; omega, by have := of_decide_eq_false u4; omega, by have := of_decide_eq_false u5; omega, by have := of_decide_eq_false u6; omega, by have := of_decide_eq_false u7; omega, by have := of_decide_eq_false u8; omega, fun _ h => absurd h (by have := HK00.out; omega)⟩)
                            clear HKF HRA HAA
                            go_wp2
                            go_roundw
                            case rel => exact ⟨k + 1, by omega, by go_num, HZV.out.1.tr (bw_ext z), HZV.out.2.trans (z.h.mono HZV.out.2.size), HA⟩
                            case measure => simp [intOf]; omega
                        · obtain ⟨k', rfl⟩ : ∃ k', k = k' + 1 := ⟨k - 1, by omega⟩
                          obtain ⟨pr, hpr⟩ : ∃ pr, lasts[k']? = some pr := ⟨_, List.getElem?_eq_getElem (by have := HN.out; omega)⟩
                          have hk1 : (k' : Int) < (q : Int) := by omega
                          have hk2 : (0 : Int) ≤ (k' : Int) := by omega
                          have hw1 : IntKind.i64.wrap ((k' : Int) + 1 - 1) = (k' : Int) := by rw [Int.add_sub_cancel, IntKind.wrap_i64]; omega
                          have hw2 : IntKind.i64.wrap (k' : Int) = (k' : Int) := by rw [IntKind.wrap_i64]; omega
                          have hkd : decide ((0 : Int) < (k' : Int) + 1) = true := decide_eq_true (by omega)
                          have HPR : Hid (lasts[k']? = some pr) := hpr
                          clear hk0
                          have y0 := HKC.out k' pr (by omega) hpr
                          clear hpr
                          as_aux_lemma =>
                            go_wp2
                            generalize hV : wr.alloc _ = V
                            have XV : Ext wr V := by rw [← hV]; exact hE _ _
                            have HZV : Hid (Ext W V ∧ Below w.heap.size w V) := by rw [← hV]; exact ⟨HXB.out.1.tr (hE _ _), HXB.out.2.alloc HXB.out.2.size _⟩
                            have v0 : ∀ z : BW V, z.u.cell? ⟨wr.heap.size, 0, none⟩ = some (.int .i64 r.client) := bw_cell (by rw [← hV]; exact (at_block (heap_alloc_new wr _) 0 _ rfl).1)
                            have v1 : ∀ z : BW V, z.u.cell? ⟨wr.heap.size, 1, none⟩ = some (.int .i64 r.req) := bw_cell (by rw [← hV]; exact (at_block (heap_alloc_new wr _) 1 _ rfl).1)
                            have v2 : ∀ z : BW V, z.u.cell? ⟨wr.heap.size, 2, none⟩ = some (.int .i64 r.code) := bw_cell (by rw [← hV]; exact (at_block (heap_alloc_new wr _) 2 _ rfl).1)
                            have v3 : ∀ z : BW V, z.u.cell? ⟨wr.heap.size, 3, none⟩ = some (.int .i64 r.index) := bw_cell (by rw [← hV]; exact (at_block (heap_alloc_new wr _) 3 _ rfl).1)
                            clear hV
                            obtain ⟨Q0, Q1, Q2, Q3, Q4, Q5⟩ := HQ.out
                            have s0 := bw_cell (World.grownBy.cell HZV.out.1 Q0 (by simp))
                            have s1 := bw_cell (World.grownBy.cell HZV.out.1 Q1 (by simp))
                            have s2 := bw_cell (World.grownBy.cell HZV.out.1 Q2 (by simp))
                            have s3 := bw_cell (World.grownBy.cell HZV.out.1 Q3 (by simp))
                            have s4 := bw_cell (World.grownBy.cell HZV.out.1 Q4 (by simp))
                            have s5 := bw_cell (World.grownBy.cell HZV.out.1 Q5 (by simp))
                            clear Q0 Q1 Q2 Q3 Q4 Q5
                            clear c0 c1 c2 c3 j0 j1 j2 j3 j4 j5
                            have y1 := bw_cell (World.grownBy.cell XV y0 (by simp))
                            clear y0
                            have nonV := bw_ne V
                            refine wp_region_bw (by kernel_rfl) (by kernel_rfl) ?_
                            repeat (go_big_quiet_step (fail))
                            cases u1 : decide (r.client < 0)
                            case true =>
                              repeat (go_big_quiet_step (fail))
                              refine wpQuiet_nil ?_
                              intro _ hw'
                              obtain ⟨z, hw''⟩ := hw'
                              subst hw''
                              have HK : Hid (bS = false) := HKF.out (fun h => by
                                have := HRA.out.1 h
                                have := of_decide_eq_true u1
                                omega
                                )
                              clear HKF HRA HAA
                              go_wp2
                              go_ret
                              exact ⟨by rw [HK.out]; rfl, HZV.out.2.trans (z.h.mono HZV.out.2.size)⟩
                            repeat (go_big_quiet_step (fail))
                            cases u2 : decide (4 ≤ r.client)
                            case true =>
                              repeat (go_big_quiet_step (fail))
                              refine wpQuiet_nil ?_
                              intro _ hw'
                              obtain ⟨z, hw''⟩ := hw'
                              subst hw''
                              have HK : Hid (bS = false) := HKF.out (fun h => by
                                have := HRA.out.1 h
                                have := of_decide_eq_true u2
                                omega
                                )
                              clear HKF HRA HAA
                              go_wp2
                              go_ret
                              exact ⟨by rw [HK.out]; rfl, HZV.out.2.trans (z.h.mono HZV.out.2.size)⟩
                            repeat (go_big_quiet_step (fail))
                            cases u3 : decide (r.req < 1)
                            case true =>
                              repeat (go_big_quiet_step (fail))
                              refine wpQuiet_nil ?_
                              intro _ hw'
                              obtain ⟨z, hw''⟩ := hw'
                              subst hw''
                              have HK : Hid (bS = false) := HKF.out (fun h => by
                                have := HRA.out.1 h
                                have := of_decide_eq_true u3
                                omega
                                )
                              clear HKF HRA HAA
                              go_wp2
                              go_ret
                              exact ⟨by rw [HK.out]; rfl, HZV.out.2.trans (z.h.mono HZV.out.2.size)⟩
                            repeat (go_big_quiet_step (fail))
                            cases u4 : decide (1000000 < r.req)
                            case true =>
                              repeat (go_big_quiet_step (fail))
                              refine wpQuiet_nil ?_
                              intro _ hw'
                              obtain ⟨z, hw''⟩ := hw'
                              subst hw''
                              have HK : Hid (bS = false) := HKF.out (fun h => by
                                have := HRA.out.1 h
                                have := of_decide_eq_true u4
                                omega
                                )
                              clear HKF HRA HAA
                              go_wp2
                              go_ret
                              exact ⟨by rw [HK.out]; rfl, HZV.out.2.trans (z.h.mono HZV.out.2.size)⟩
                            repeat (go_big_quiet_step (fail))
                            cases u5 : decide (r.code < 0)
                            case true =>
                              repeat (go_big_quiet_step (fail))
                              refine wpQuiet_nil ?_
                              intro _ hw'
                              obtain ⟨z, hw''⟩ := hw'
                              subst hw''
                              have HK : Hid (bS = false) := HKF.out (fun h => by
                                have := HRA.out.1 h
                                have := of_decide_eq_true u5
                                omega
                                )
                              clear HKF HRA HAA
                              go_wp2
                              go_ret
                              exact ⟨by rw [HK.out]; rfl, HZV.out.2.trans (z.h.mono HZV.out.2.size)⟩
                            repeat (go_big_quiet_step (fail))
                            cases u6 : decide (5 < r.code)
                            case true =>
                              repeat (go_big_quiet_step (fail))
                              refine wpQuiet_nil ?_
                              intro _ hw'
                              obtain ⟨z, hw''⟩ := hw'
                              subst hw''
                              have HK : Hid (bS = false) := HKF.out (fun h => by
                                have := HRA.out.1 h
                                have := of_decide_eq_true u6
                                omega
                                )
                              clear HKF HRA HAA
                              go_wp2
                              go_ret
                              exact ⟨by rw [HK.out]; rfl, HZV.out.2.trans (z.h.mono HZV.out.2.size)⟩
                            repeat (go_big_quiet_step (fail))
                            cases u7 : decide (r.index < 1)
                            case true =>
                              repeat (go_big_quiet_step (fail))
                              refine wpQuiet_nil ?_
                              intro _ hw'
                              obtain ⟨z, hw''⟩ := hw'
                              subst hw''
                              have HK : Hid (bS = false) := HKF.out (fun h => by
                                have := HRA.out.1 h
                                have := of_decide_eq_true u7
                                omega
                                )
                              clear HKF HRA HAA
                              go_wp2
                              go_ret
                              exact ⟨by rw [HK.out]; rfl, HZV.out.2.trans (z.h.mono HZV.out.2.size)⟩
                            repeat (go_big_quiet_step (fail))
                            cases u8 : decide (idx < r.index)
                            case true =>
                              repeat (go_big_quiet_step (fail))
                              refine wpQuiet_nil ?_
                              intro _ hw'
                              obtain ⟨z, hw''⟩ := hw'
                              subst hw''
                              have HK : Hid (bS = false) := HKF.out (fun h => by
                                have := HRA.out.1 h
                                have := of_decide_eq_true u8
                                omega
                                )
                              clear HKF HRA HAA
                              go_wp2
                              go_ret
                              exact ⟨by rw [HK.out]; rfl, HZV.out.2.trans (z.h.mono HZV.out.2.size)⟩
                            repeat (go_big_quiet_step (fail))
                            cases t9 : decide (r.client ≤ pr.client)
                            case true =>
                              repeat (go_big_quiet_step (fail))
                              refine wpQuiet_nil ?_
                              intro _ hw'
                              obtain ⟨z, hw''⟩ := hw'
                              subst hw''
                              have HK : Hid (bS = false) := HKF.out (fun h => by
                                have := (HRA.out.1 h).2.2.2.2.2.2.2.2 pr (by omega) (by simpa using HPR.out)
                                have := of_decide_eq_true t9
                                omega
                                )
                              clear HKF HRA HAA
                              go_wp2
                              go_ret
                              exact ⟨by rw [HK.out]; rfl, HZV.out.2.trans (z.h.mono HZV.out.2.size)⟩
                            repeat (go_big_quiet_step (fail))
                            refine wpQuiet_nil ?_
                            intro _ hw'
                            obtain ⟨z, hw''⟩ := hw'
                            subst hw''
                            have HA : Hid (∀ j, j < k' + 1 + 1 → LastAt idx lasts j) := HAA.out (HRA.out.2 ⟨by have := of_decide_eq_false u1; omega, by have := of_decide_eq_false u2; omega, by have := of_decide_eq_false u3; omega, by have := of_decide_eq_false u4; omega, by have := of_decide_eq_false u5; omega, by have := of_decide_eq_false u6; omega, by have := of_decide_eq_false u7; omega, by have := of_decide_eq_false u8; omega, fun p' _ hp' => by
                              rw [Nat.add_sub_cancel, HPR.out] at hp'
                              cases hp'
                              have := of_decide_eq_false t9
                              omega⟩)
                            clear HKF HRA HAA
                            go_wp2
                            go_roundw
                            case rel => exact ⟨k' + 1 + 1, by omega, by go_num, HZV.out.1.tr (bw_ext z), HZV.out.2.trans (z.h.mono HZV.out.2.size), HA⟩
                            case measure => simp [intOf]; omega
                      · have hkn : q = k := by omega
                        subst hkn
                        have HARl : Hid (∀ j, j < q → LastAt idx lasts j) := hall
                        have HXl : Hid (Ext W wr ∧ Below w.heap.size w wr) := ⟨hx, hb⟩
                        clear hall
                        obtain ⟨Q0, Q1, Q2, Q3, Q4, Q5⟩ := HQ.out
                        have j0 := World.grownBy.cell hx Q0 (by simp)
                        have j1 := World.grownBy.cell hx Q1 (by simp)
                        have j2 := World.grownBy.cell hx Q2 (by simp)
                        have j3 := World.grownBy.cell hx Q3 (by simp)
                        have j4 := World.grownBy.cell hx Q4 (by simp)
                        have j5 := World.grownBy.cell hx Q5 (by simp)
                        clear Q0 Q1 Q2 Q3 Q4 Q5
                        clear hx hb
                        have HK : Hid (bS = true) := by
                          rw [← HBS.out]
                          refine tB_true (HSt.out.2 ⟨HK0.out.1, HK0.out.2, ⟨?_, ?_⟩, ⟨?_, ?_⟩, ⟨?_, ?_⟩, ⟨?_, ?_⟩⟩)
                          · have := HN.out; omega
                          · exact fun j hj => HARs.out j (by have := HN.out; omega)
                          · have := HN.out; omega
                          · exact fun j hj => HARr.out j (by have := HN.out; omega)
                          · have := HN.out; omega
                          · exact fun j hj => HARt.out j (by have := HN.out; omega)
                          · have := HN.out; omega
                          · exact fun j hj => HARl.out j (by have := HN.out; omega)
                        go_wp2
                        go_ret
                        exact ⟨by rw [HK.out]; rfl, HXl.out.2⟩

end Go.Proofs.YtnklnhnjmikooaaGreat
