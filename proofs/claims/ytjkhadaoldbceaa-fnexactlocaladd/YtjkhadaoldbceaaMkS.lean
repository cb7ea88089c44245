
/- Exact marks in lists of services. -/
import Derived.Test.YtjkhadaoldbceaaMkK
import Derived.Test.YtjkhadaoldbceaaSvA
namespace Go.Proofs.Ytjkhadaoldbceaa
open Go.RowKit

def zM (s : DSvc) : Nat := s.name.length + (s.checks.length * 5 + sK s.checks)
def sM (ss : List DSvc) : Nat := (ss.map zM).sum
/-- The number ahead of service number i. -/
def kS (k : Int) (ss : List DSvc) (i : Nat) : Int := k + ((sM (ss.take i) : Nat) : Int)
theorem kS_next (k : Int) (ss : List DSvc) (i : Nat) (s : DSvc) (h : ss[i]? = some s) : kS k ss (i + 1) = kS k ss i + ((zM s : Nat) : Int) := by
  unfold kS
  have : sM (ss.take (i + 1)) = sM (ss.take i) + zM s := sum_next zM ss i s h
  rw [this]
  omega
theorem kS_le (k : Int) (ss : List DSvc) (i : Nat) : k ≤ kS k ss i ∧ kS k ss i ≤ k + ((sM ss : Nat) : Int) := by
  unfold kS
  have : sM (ss.take i) ≤ sM ss := sum_take zM ss i
  omega
theorem kK_all (k : Int) (cs : List DChk) : kK k cs cs.length = k + ((cs.length * 5 + sK cs : Nat) : Int) := by
  unfold kK
  rw [List.take_length]
/-- A service of marks. -/
def mkS1 (k : Int) (s : DSvc) : DSvc := ⟨marks k s.name.length, mixK (k + s.name.length) s.checks s.checks.length⟩
/-- The first j of them are marks. -/
def mixS (k : Int) (ss : List DSvc) (j : Nat) : List DSvc := ss.mapIdx (fun i s => if i < j then mkS1 (kS k ss i) s else s)
theorem mixS_len (k : Int) (ss : List DSvc) (j : Nat) : (mixS k ss j).length = ss.length := by unfold mixS; simp
theorem mixS_get (k : Int) (ss : List DSvc) (j i : Nat) : (mixS k ss j)[i]? = (ss[i]?).map (fun s => if i < j then mkS1 (kS k ss i) s else s) := by unfold mixS; simp
theorem mixS_zero (k : Int) (ss : List DSvc) : mixS k ss 0 = ss := by
  apply List.ext_getElem?
  intro i
  rw [mixS_get]
  cases ss[i]? <;> simp
theorem mixS_at {k : Int} {ss : List DSvc} {j i : Nat} {s : DSvc} (h : ss[i]? = some s) : (mixS k ss j)[i]? = some (if i < j then mkS1 (kS k ss i) s else s) := by rw [mixS_get, h]; rfl

/-- The slice owns these services, their parts apart from one another, all in blocks of S. -/
def OSD (S : Nat → Prop) (w : World) (v : Value) (ss : List DSvc) : Prop := (∃ (a : Option Addr) (c : Nat), v = .slice a 0 c ∧ (a = none ∧ c = 0) ∧ ss = []) ∨
  ∃ (g cap : Nat) (F : Nat → Nat → Value) (M : Nat → Nat → Prop), v = .slice (some ⟨g, 0, none⟩) ss.length cap ∧ ss.length ≤ cap ∧ cap ≤ maxLen ∧ S g ∧ Blk w g 54 2 cap ss.length F ∧
    (∀ a c b, a ≠ c → M a b → ¬ M c b) ∧ (∀ a b, M a b → S b ∧ b ≠ g) ∧ ∀ (i : Nat) s, ss[i]? = some s → OwS (M (2 * i)) w (F i 0) s.name ∧ OKD (M (2 * i + 1)) w (F i 1) s.checks
theorem OSD.keep {S T : Nat → Prop} {w w' : World} {v : Value} {ss : List DSvc} (h : OSD S w v ss) (t : Trn T w w') (d : ∀ b, S b → ¬ T b) : OSD S w' v ss := by
  rcases h with h | ⟨g, cap, F, M, hv, hl, hm, hg, hB, hN, hS, hF⟩
  · exact .inl h
  · refine .inr ⟨g, cap, F, M, hv, hl, hm, hg, blk_kept hB (t.block g (blk_lt hB) (d g hg)), hN, hS, fun i s hs => ?_⟩
    obtain ⟨e0, e1⟩ := hF i s hs
    exact ⟨e0.keep t (fun b hb => d b (hS _ b hb).1), e1.keep t (fun b hb => d b (hS _ b hb).1)⟩
theorem OSD.ext {S : Nat → Prop} {w w' : World} {v : Value} {ss : List DSvc} (h : OSD S w v ss) (e : Ext w w') : OSD S w' v ss := h.keep (T := fun _ => False) (Trn.ext e) (fun _ _ h => h)
theorem OSD.v {S : Nat → Prop} {w : World} {v : Value} {ss : List DSvc} (h : OSD S w v ss) : VSvcs w v ss := by
  rcases h with ⟨a, c, rfl, hm, rfl⟩ | ⟨g, cap, F, M, rfl, hl, hm, hg, ⟨cur, h1, h2, h3⟩, hN, hS, hF⟩
  · exact ⟨fun _ _ => .bool true, ⟨a, c, rfl, Nat.zero_le _, by rw [hm.2]; exact Nat.zero_le _, fun h => absurd h (by simp)⟩, fun i d hd => by simp at hd⟩
  · refine ⟨F, ⟨_, cap, rfl, hl, hm, fun _ => ⟨g, 0, rfl, (Array.getElem?_eq_some_iff.1 h1).1, fun i hi j hj => ?_⟩⟩, fun i s hs => ?_⟩
    · rw [Nat.zero_add, cell_of_row w g _ cur _ (0, 0) h1]
      exact h3 i hi j hj
    · obtain ⟨e0, e1⟩ := hF i s hs
      exact ⟨e0.rv, e1.v⟩
/-- A service is short enough for marks. -/
def LenM (s : DSvc) : Prop := s.name.length ≤ 1048576 ∧ s.checks.length * 5 + sK s.checks ≤ 100000000 ∧ ∀ (i : Nat) c, s.checks[i]? = some c → c.name.length ≤ 1048576

theorem markS0 (a : Option Addr) (c : Nat) (k : Int) (w : World) : Calls Try.prog 35 #[.slice a 0 c, .int .i64 k] w fun e w' => e = .returned (.int .i64 k) ∧ w' = w := by
  go_enter Try.func35, Try.ntmps35
  go_wp2
  refine wp_loop_rounds 1 ?_
  rw [rounds_succ]
  go_wp2
  go_ret
  exact ⟨rfl, rfl⟩

set_option maxRecDepth 20000 in
set_option maxHeartbeats 8000000 in
theorem markSD (S : Nat → Prop) (v : Value) (ss : List DSvc) (k : Int) (w : World) (h : OSD S w v ss) (hT : ∀ (i : Nat) s, ss[i]? = some s → LenM s) (hS : sM ss ≤ 40000000) (hsl : ss.length ≤ 20000000) (hk0 : 0 ≤ k) (hk : k ≤ 40000000) :
    Calls Try.prog 35 #[v, .int .i64 k] w fun e w' => e = .returned (.int .i64 (kS k ss ss.length)) ∧ OSD S w' v (mixS k ss ss.length) ∧ Trn S w w' := by
  have HO := (show Hid (OSD S w v (mixS k ss 0)) by rw [mixS_zero]; exact h)
  rcases h with ⟨a, c, rfl, hm, rfl⟩ | ⟨g, cap, F0, N0, rfl, hl, hm, hg, _⟩
  · refine (markS0 a c k w).mono fun e w' ⟨h1, h2⟩ => ?_
    subst h2
    refine ⟨?_, HO.out, Trn.refl _ _⟩
    rw [h1]
    unfold kS
    simp [sM]
  obtain ⟨n, hn⟩ : ∃ n, n = ss.length := ⟨_, rfl⟩
  have HN : Hid (n = ss.length) := hn
  have HT : Hid (∀ (i : Nat) s, ss[i]? = some s → LenM s) := hT
  have HKL : Hid (∀ i, k ≤ kS k ss i ∧ kS k ss i ≤ 80000000) := fun i => by
    have := kS_le k ss i
    omega
  have HK0 : Hid (k = kS k ss 0) := by show _ = _; unfold kS; simp [sM]
  rw [← hn] at hl hsl ⊢
  have HSG : Hid (S g) := hg
  unfold maxLen at hm
  clear hT hn hg
  go_enter Try.func35, Try.ntmps35
  go_wp2
  go_loopw [1, 5] (fun q i wr => ∃ j : Nat, j ≤ n ∧ i = .int .i64 j ∧ ∃ kj : Int, q = .int .i64 kj ∧ Hid (kj = kS k ss j) ∧ Hid (OSD S wr (.slice (some ⟨g, 0, none⟩) n cap) (mixS k ss j)) ∧ Hid (Trn S w wr)) (fun _ i _ => n - (intOf i).toNat)
  case atStart => exact ⟨0, Nat.zero_le _, rfl, k, rfl, HK0.out, (by rw [HN.out]; exact HO.out), Trn.refl _ _⟩
  case round =>
    obtain ⟨j, hj, rfl, kj, rfl, hkj, hO, hTr⟩ := hrel
    have hkb := HKL.out j
    rw [← hkj.out] at hkb
    by_cases hlt : j < n
    · have hlt' : (j : Int) < (n : Int) := by omega
      obtain ⟨s, hs⟩ : ∃ s, ss[j]? = some s := ⟨_, List.getElem?_eq_getElem (by have := HN.out; omega)⟩
      have HS' : Hid (ss[j]? = some s) := hs
      have HKN : Hid (kS k ss (j + 1) = kK (kj + s.name.length) s.checks s.checks.length) := by
        show _ = _
        rw [kS_next k ss j s hs, kK_all, ← hkj.out]
        unfold zM
        omega
      have HLM := (show Hid (LenM s) from HT.out j s hs)
      obtain ⟨g', cap', F, M, hv, _, _, hg', hB, hNN, hNS, hF⟩ : ∃ (g' cap' : Nat) (F : Nat → Nat → Value) (M : Nat → Nat → Prop), (Value.slice (some ⟨g, 0, none⟩) n cap) = .slice (some ⟨g', 0, none⟩) (mixS k ss j).length cap' ∧ (mixS k ss j).length ≤ cap' ∧ cap' ≤ maxLen ∧ S g' ∧ Blk wr g' 54 2 cap' (mixS k ss j).length F ∧ (∀ a c b, a ≠ c → M a b → ¬ M c b) ∧ (∀ a b, M a b → S b ∧ b ≠ g') ∧ ∀ (i : Nat) s', (mixS k ss j)[i]? = some s' → OwS (M (2 * i)) wr (F i 0) s'.name ∧ OKD (M (2 * i + 1)) wr (F i 1) s'.checks := by
        rcases hO.out with ⟨_, _, _, _, hv⟩ | h
        · have h1 := congrArg List.length hv
          rw [mixS_len] at h1
          have h2 := HN.out
          simp at h1
          subst h1
          simp at h2
          omega
        · exact h
      simp only [Value.slice.injEq, Option.some.injEq, Addr.mk.injEq, and_true] at hv
      obtain ⟨rfl, hnl, rfl⟩ := hv
      rw [← hnl] at hB
      obtain ⟨o0, o1⟩ := hF j _ (mixS_at hs)
      rw [if_neg (Nat.lt_irrefl j)] at o0 o1
      have HF := (show Hid (∀ (i : Nat) s', (mixS k ss j)[i]? = some s' → OwS (M (2 * i)) wr (F i 0) s'.name ∧ OKD (M (2 * i + 1)) wr (F i 1) s'.checks) from hF)
      have HNN := (show Hid ((∀ a c b, a ≠ c → M a b → ¬ M c b) ∧ ∀ a b, M a b → S b ∧ b ≠ g) from ⟨hNN, hNS⟩)
      have HO0 := (show Hid (OwS (M (2 * j)) wr (F j 0) s.name ∧ OKD (M (2 * j + 1)) wr (F j 1) s.checks) from ⟨o0, o1⟩)
      have HB := (show Hid (Blk wr g 54 2 cap n F) from hB)
      have HCELL : Hid (∀ {W : World} {G : Nat → Nat → Value}, Blk W g 54 2 cap n G → ∀ c, c < 2 → W.cell? ⟨g, j * 2 + c, none⟩ = some (G j c)) := by
        rintro W G ⟨cur, h1, _, h3⟩ c hc'
        rw [cell_of_row W g _ cur _ (0, 0) h1]
        exact h3 j hlt c hc'
      have d0 := HCELL.out HB.out 0 (by omega)
      rw [Nat.add_zero] at d0
      obtain ⟨na, nc, hnv⟩ : ∃ a c, F j 0 = .slice a s.name.length c := rv_shape HO0.out.1.rv
      obtain ⟨nl, hnl2⟩ : ∃ nl, nl = s.name.length := ⟨_, rfl⟩
      have HNL : Hid (nl = s.name.length) := hnl2
      have HNV : Hid (F j 0 = .slice na nl nc) := by show _ = _; rw [hnv, hnl2]
      obtain ⟨ca, cc, hcv⟩ : ∃ a c, F j 1 = .slice a s.checks.length c := chks_shape HO0.out.2.v
      obtain ⟨cl, hcl⟩ : ∃ cl, cl = s.checks.length := ⟨_, rfl⟩
      have HCV : Hid (F j 1 = .slice ca cl cc) := by show _ = _; rw [hcv, hcl]
      rw [HNV.out] at d0
      have hlen : nl ≤ 1048576 := by rw [hnl2]; exact HLM.out.1
      clear hF hNN hNS o0 o1 hB hnl hg' hnv hnl2 hcv hcl hs
      go_wp2_with fail
      refine (markV 0 (.slice na nl nc) s.name kj wr (by rw [← HNV.out]; exact HO0.out.1.1.1) (by have := HNL.out; omega) (by omega) (by omega)).mono ?_
      rintro e w1 ⟨rfl, M1, G1⟩
      rw [← HNL.out] at M1 ⊢
      have T1 : Trn (M (2 * j)) wr w1 := Trn.one G1 (fun x e => HO0.out.1.2 x (by rw [HNV.out]; exact e))
      have HB1 := (show Hid (Blk w1 g 54 2 cap n F) from blk_kept HB.out (T1.block g (blk_lt HB.out) (fun h => (HNN.out.2 _ g h).2 rfl)))
      have HM1 : Hid (OwS (M (2 * j)) w1 (F j 0) (marks kj nl)) := ⟨⟨by rw [HNV.out]; exact M1, marks_rng _ _⟩, HO0.out.1.2⟩
      have HC1 : Hid (OKD (M (2 * j + 1)) w1 (F j 1) s.checks) := HO0.out.2.keep T1 (fun b hb => HNN.out.1 _ _ b (by omega) hb)
      have HT1 := (show Hid (Trn (M (2 * j)) wr w1) from T1)
      have d1 := HCELL.out HB1.out 1 (by omega)
      rw [HCV.out] at d1
      clear d0 T1 M1 G1
      go_wp2_with fail
      refine (markKD (M (2 * j + 1)) (.slice ca cl cc) s.checks (kj + nl) w1 (by rw [← HCV.out]; exact HC1.out) HLM.out.2.2 HLM.out.2.1 (by omega) (by omega)).mono ?_
      rintro e w2 ⟨rfl, M2, T2⟩
      have HZ : Hid (OSD S w2 (.slice (some ⟨g, 0, none⟩) n cap) (mixS k ss (j + 1)) ∧ Trn S w w2) := by
        have hml := mixS_len k ss (j + 1)
        have hnn := HN.out
        have B2 := blk_kept HB1.out (T2.block g (blk_lt HB1.out) (fun h => (HNN.out.2 _ g h).2 rfl))
        refine ⟨.inr ⟨g, cap, F, M, by rw [hml, ← hnn], by rw [hml, ← hnn]; exact hl, by unfold maxLen; exact hm, HSG.out, by rw [hml, ← hnn]; exact B2, HNN.out.1, HNN.out.2, fun i s' hs' => ?_⟩, (hTr.out.trans (HT1.out.mono (fun b hb => (HNN.out.2 _ b hb).1))).trans (T2.mono (fun b hb => (HNN.out.2 _ b hb).1))⟩
        rw [mixS_get] at hs'
        cases hci : ss[i]? with
        | none => rw [hci] at hs'; cases hs'
        | some t =>
          rw [hci] at hs'
          simp only [Option.map_some, Option.some.injEq] at hs'
          by_cases e : i = j
          · subst e
            have ht : t = s := by have := HS'.out; rw [hci] at this; exact Option.some.inj this
            subst ht
            rw [if_pos (Nat.lt_succ_self i), ← hkj.out] at hs'
            subst hs'
            refine ⟨?_, ?_⟩
            · have := HM1.out.keep T2 (fun b hb => HNN.out.1 _ _ b (by omega) hb)
              rw [HNL.out] at this
              exact this
            · rw [← HCV.out, HNL.out] at M2
              exact M2
          · have hs2 : s' = if i < j then mkS1 (kS k ss i) t else t := by
              rw [← hs']
              by_cases h1 : i < j
              · rw [if_pos h1, if_pos (by omega)]
              · rw [if_neg h1, if_neg (by omega)]
            obtain ⟨q0, q1⟩ := HF.out i s' (by rw [mixS_at hci, hs2])
            exact ⟨(q0.keep HT1.out (fun b hb => HNN.out.1 _ _ b (by omega) hb)).keep T2 (fun b hb => HNN.out.1 _ _ b (by omega) hb), (q1.keep HT1.out (fun b hb => HNN.out.1 _ _ b (by omega) hb)).keep T2 (fun b hb => HNN.out.1 _ _ b (by omega) hb)⟩
      have HKX : Hid (kK (kj + nl) s.checks s.checks.length = kS k ss (j + 1)) := by show _ = _; rw [HKN.out, HNL.out]
      rw [HKX.out]
      clear M2 T2 HB1 HM1 HC1 HT1 HF HNN HO0 HB HCELL hO hTr d1
      go_wp2
      go_roundw
      case rel => exact ⟨j + 1, by omega, by go_num, _, rfl, rfl, HZ.out.1, HZ.out.2⟩
      case measure => simp [intOf]; omega
    · have hjn : j = n := by omega
      subst hjn
      go_wp2
      go_ret
      exact ⟨by rw [show kj = kS k ss j from hkj.out]; rfl, hO.out, hTr.out⟩

set_option maxRecDepth 20000 in
set_option maxHeartbeats 4000000 in
theorem heldSD (v : Value) (ss : List DSvc) (k : Int) (w : World) (h : VSvcs w v (mixS k ss ss.length)) (hT : ∀ (i : Nat) s, ss[i]? = some s → LenM s) (hS : sM ss ≤ 40000000) (hsl : ss.length ≤ 20000000) (hk0 : 0 ≤ k) (hk : k ≤ 40000000) :
    Calls Try.prog 37 #[v, .int .i64 k] w fun e w' => e = .returned (.int .i64 (kS k ss ss.length)) ∧ w' = w := by
  obtain ⟨C, ⟨a, cap, rfl, h1, h2, h3⟩, hC⟩ := h
  rw [mixS_len] at h1 h3 ⊢
  obtain ⟨n, hn⟩ : ∃ n, n = ss.length := ⟨_, rfl⟩
  have HN : Hid (n = ss.length) := hn
  have HC : Hid (∀ (i : Nat) d, (mixS k ss n)[i]? = some d → RV w (C i 0) d.name ∧ VChks w (C i 1) d.checks) := by rw [hn]; exact hC
  have HT : Hid (∀ (i : Nat) s, ss[i]? = some s → LenM s) := hT
  have HKL : Hid (∀ i, k ≤ kS k ss i ∧ kS k ss i ≤ 80000000) := fun i => by
    have := kS_le k ss i
    omega
  have HK0 : Hid (k = kS k ss 0) := by show _ = _; unfold kS; simp [sM]
  rw [← hn] at h1 h3 hsl ⊢
  have H3 : Hid (0 < n → ∃ b o, a = some ⟨b, o, none⟩ ∧ b < w.heap.size ∧ ∀ i, i < n → ∀ j, j < 2 → w.cell? ⟨b, o + i * 2 + j, none⟩ = some (C i j)) := h3
  unfold maxLen at h2
  clear hT hn hC h3
  go_enter Try.func37, Try.ntmps37
  go_wp2
  go_loop [1, 5] (fun q i => ∃ j : Nat, j ≤ n ∧ i = .int .i64 j ∧ ∃ kj : Int, q = .int .i64 kj ∧ Hid (kj = kS k ss j)) (fun _ i => n - (intOf i).toNat)
  case atStart => exact ⟨0, Nat.zero_le _, rfl, k, rfl, HK0.out⟩
  case round =>
    obtain ⟨j, hj, rfl, kj, rfl, hkj⟩ := hrel
    have hkb := HKL.out j
    rw [← hkj.out] at hkb
    by_cases hlt : j < n
    · have hlt' : (j : Int) < (n : Int) := by omega
      obtain ⟨b, o, rfl, hbl, hc⟩ := H3.out (by omega)
      obtain ⟨s, hs⟩ : ∃ s, ss[j]? = some s := ⟨_, List.getElem?_eq_getElem (by have := HN.out; omega)⟩
      have HKN : Hid (kK (kj + s.name.length) s.checks s.checks.length = kS k ss (j + 1)) := by
        show _ = _
        rw [kS_next k ss j s hs, kK_all, ← hkj.out]
        unfold zM
        omega
      have HLM := (show Hid (LenM s) from HT.out j s hs)
      obtain ⟨e0, e1⟩ := HC.out j _ (mixS_at hs)
      rw [if_pos hlt, ← hkj.out] at e0 e1
      simp only [mkS1] at e0 e1
      obtain ⟨nl, hnl⟩ : ∃ nl, nl = s.name.length := ⟨_, rfl⟩
      have HNL : Hid (nl = s.name.length) := hnl
      have hlen : nl ≤ 1048576 := by rw [hnl]; exact HLM.out.1
      rw [← hnl] at e0 e1
      have HE0 : Hid (RV w (C j 0) (marks kj nl)) := e0
      have HE1 : Hid (VChks w (C j 1) (mixK (kj + nl) s.checks s.checks.length)) := e1
      obtain ⟨na, nc, hnv⟩ := rv_shape e0
      obtain ⟨ca, cc, hcv⟩ := chks_shape e1
      rw [marks_len] at hnv
      rw [mixK_len] at hcv
      obtain ⟨cl, hcl⟩ : ∃ cl, cl = s.checks.length := ⟨_, rfl⟩
      rw [← hcl] at hcv
      have c0 := hc j hlt 0 (by omega)
      rw [Nat.add_zero, hnv] at c0
      have c1 := hc j hlt 1 (by omega)
      rw [hcv] at c1
      have HNV : Hid (C j 0 = .slice na nl nc) := hnv
      have HCV : Hid (C j 1 = .slice ca cl cc) := hcv
      have HK1 := (show Hid (k ≤ kK (kj + nl) s.checks s.checks.length) by show _ ≤ _; rw [hnl, HKN.out]; exact (HKL.out (j + 1)).1)
      have HKX : Hid (kK (kj + nl) s.checks s.checks.length = kS k ss (j + 1)) := by show _ = _; rw [hnl]; exact HKN.out
      clear hc hnl hnv hcv hcl e0 e1 hs
      go_wp2_with fail
      refine (heldV (.slice na nl nc) nl kj w (by rw [← HNV.out]; exact HE0.out) (by omega) (by omega) (by omega)).mono ?_
      rintro e wX ⟨rfl, rfl⟩
      have hneg : ¬ (kj + (nl : Int) < 0) := by omega
      go_wp2_with fail
      refine (heldKD (.slice ca cl cc) s.checks (kj + nl) _ (by rw [← HCV.out]; exact HE1.out) HLM.out.2.2 HLM.out.2.1 (by omega) (by omega)).mono ?_
      rintro e wX ⟨rfl, rfl⟩
      have hk2 := HK1.out
      rw [HKX.out] at hk2 ⊢
      obtain ⟨kn, hkn⟩ : ∃ kn, kn = kS k ss (j + 1) := ⟨_, rfl⟩
      have HKM : Hid (kn = kS k ss (j + 1)) := hkn
      rw [← hkn] at hk2 ⊢
      have hneg2 : ¬ (kn < 0) := by omega
      clear hkn
      go_wp2
      go_round
      case rel => exact ⟨j + 1, by omega, by go_num, kn, rfl, HKM.out⟩
      case measure => simp [intOf]; omega
    · have hjn : j = n := by omega
      subst hjn
      go_wp2
      go_ret
      exact ⟨by rw [show kj = kS k ss j from hkj.out]; rfl, rfl⟩

end Go.Proofs.Ytjkhadaoldbceaa
