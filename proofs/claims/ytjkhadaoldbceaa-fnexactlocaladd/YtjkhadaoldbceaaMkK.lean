
/- Exact marks in lists of checks. -/
import Derived.Test.YtjkhadaoldbceaaSetO
import Derived.Test.YtjkhadaoldbceaaLsK
namespace Go.Proofs.Ytjkhadaoldbceaa
open Go.RowKit

/-- The number ahead of check number i. -/
def kK (k : Int) (cs : List DChk) (i : Nat) : Int := k + ((i * 5 + sK (cs.take i) : Nat) : Int)
theorem kK_next (k : Int) (cs : List DChk) (i : Nat) (s : DChk) (h : cs[i]? = some s) : kK k cs (i + 1) = kK k cs i + s.name.length + 5 := by
  unfold kK
  have : sK (cs.take (i + 1)) = sK (cs.take i) + zK s := sum_next zK cs i s h
  rw [this]
  unfold zK
  omega
theorem kK_le (k : Int) (cs : List DChk) (i : Nat) (h : i ≤ cs.length) : k ≤ kK k cs i ∧ kK k cs i ≤ k + ((cs.length * 5 + sK cs : Nat) : Int) := by
  unfold kK
  have : sK (cs.take i) ≤ sK cs := sum_take zK cs i
  omega
/-- A check of marks. -/
def mk1 (k : Int) (s : DChk) : DChk := ⟨marks k s.name.length, k + s.name.length, k + s.name.length + 1, k + s.name.length + 2, k + s.name.length + 3, k + s.name.length + 4⟩
/-- The first j of them are marks. -/
def mixK (k : Int) (cs : List DChk) (j : Nat) : List DChk := cs.mapIdx (fun i s => if i < j then mk1 (kK k cs i) s else s)
theorem mixK_len (k : Int) (cs : List DChk) (j : Nat) : (mixK k cs j).length = cs.length := by unfold mixK; simp
theorem mixK_get (k : Int) (cs : List DChk) (j i : Nat) : (mixK k cs j)[i]? = (cs[i]?).map (fun s => if i < j then mk1 (kK k cs i) s else s) := by unfold mixK; simp
theorem mixK_zero (k : Int) (cs : List DChk) : mixK k cs 0 = cs := by
  apply List.ext_getElem?
  intro i
  rw [mixK_get]
  cases cs[i]? <;> simp
theorem mixK_at {k : Int} {cs : List DChk} {j i : Nat} {s : DChk} (h : cs[i]? = some s) : (mixK k cs j)[i]? = some (if i < j then mk1 (kK k cs i) s else s) := by rw [mixK_get, h]; rfl

/-- The slice owns these checks, their names apart from one another, all in blocks of S. -/
def OKD (S : Nat → Prop) (w : World) (v : Value) (cs : List DChk) : Prop := (∃ (a : Option Addr) (c : Nat), v = .slice a 0 c ∧ (a = none ∧ c = 0) ∧ cs = []) ∨
  ∃ (g cap : Nat) (F : Nat → Nat → Value) (N : Nat → Nat → Prop), v = .slice (some ⟨g, 0, none⟩) cs.length cap ∧ cs.length ≤ cap ∧ cap ≤ maxLen ∧ S g ∧ Blk w g 43 6 cap cs.length F ∧
    (∀ i j b, i ≠ j → N i b → ¬ N j b) ∧ (∀ i b, N i b → S b ∧ b ≠ g) ∧ ∀ (i : Nat) s, cs[i]? = some s → OwS (N i) w (F i 0) s.name ∧ F i 1 = .int .i64 s.ttl ∧ F i 2 = .int .i64 s.most ∧ F i 3 = .int .i64 s.st ∧ F i 4 = .int .i64 s.age ∧ F i 5 = .int .i64 s.fails
theorem OKD.keep {S T : Nat → Prop} {w w' : World} {v : Value} {cs : List DChk} (h : OKD S w v cs) (t : Trn T w w') (d : ∀ b, S b → ¬ T b) : OKD S w' v cs := by
  rcases h with h | ⟨g, cap, F, N, hv, hl, hm, hg, hB, hN, hS, hF⟩
  · exact .inl h
  · refine .inr ⟨g, cap, F, N, hv, hl, hm, hg, blk_kept hB (t.block g (blk_lt hB) (d g hg)), hN, hS, fun i s hs => ?_⟩
    obtain ⟨e0, r⟩ := hF i s hs
    exact ⟨e0.keep t (fun b hb => d b (hS i b hb).1), r⟩
theorem OKD.ext {S : Nat → Prop} {w w' : World} {v : Value} {cs : List DChk} (h : OKD S w v cs) (e : Ext w w') : OKD S w' v cs := h.keep (T := fun _ => False) (Trn.ext e) (fun _ _ h => h)
theorem OKD.v {S : Nat → Prop} {w : World} {v : Value} {cs : List DChk} (h : OKD S w v cs) : VChks w v cs := by
  rcases h with ⟨a, c, rfl, hm, rfl⟩ | ⟨g, cap, F, N, rfl, hl, hm, hg, ⟨cur, h1, h2, h3⟩, hN, hS, hF⟩
  · exact ⟨fun _ _ => .bool true, ⟨a, c, rfl, Nat.zero_le _, by rw [hm.2]; exact Nat.zero_le _, fun h => absurd h (by simp)⟩, fun i d hd => by simp at hd⟩
  · refine ⟨F, ⟨_, cap, rfl, hl, hm, fun _ => ⟨g, 0, rfl, (Array.getElem?_eq_some_iff.1 h1).1, fun i hi j hj => ?_⟩⟩, fun i s hs => ?_⟩
    · rw [Nat.zero_add, cell_of_row w g _ cur _ (0, 0) h1]
      exact h3 i hi j hj
    · obtain ⟨e0, r⟩ := hF i s hs
      exact ⟨e0.rv, r⟩

theorem markK0 (a : Option Addr) (c : Nat) (k : Int) (w : World) : Calls Try.prog 58 #[.slice a 0 c, .int .i64 k] w fun e w' => e = .returned (.int .i64 k) ∧ w' = w := by
  go_enter Try.func58, Try.ntmps58
  go_wp2
  refine wp_loop_rounds 1 ?_
  rw [rounds_succ]
  go_wp2
  go_ret
  exact ⟨rfl, rfl⟩

set_option maxRecDepth 20000 in
set_option maxHeartbeats 8000000 in
theorem markKD (S : Nat → Prop) (v : Value) (cs : List DChk) (k : Int) (w : World) (h : OKD S w v cs) (hT : ∀ (i : Nat) s, cs[i]? = some s → s.name.length ≤ 1048576) (hS : cs.length * 5 + sK cs ≤ 100000000) (hk0 : 0 ≤ k) (hk : k ≤ 100000000) :
    Calls Try.prog 58 #[v, .int .i64 k] w fun e w' => e = .returned (.int .i64 (kK k cs cs.length)) ∧ OKD S w' v (mixK k cs cs.length) ∧ Trn S w w' := by
  have HO := (show Hid (OKD S w v (mixK k cs 0)) by rw [mixK_zero]; exact h)
  rcases h with ⟨a, c, rfl, hm, rfl⟩ | ⟨g, cap, F0, N0, rfl, hl, hm, hg, _⟩
  · refine (markK0 a c k w).mono fun e w' ⟨h1, h2⟩ => ?_
    subst h2
    refine ⟨?_, HO.out, Trn.refl _ _⟩
    rw [h1]
    unfold kK
    simp [sK]
  obtain ⟨n, hn⟩ : ∃ n, n = cs.length := ⟨_, rfl⟩
  have HN : Hid (n = cs.length) := hn
  have HT : Hid (∀ (i : Nat) s, cs[i]? = some s → s.name.length ≤ 1048576) := hT
  have HKL : Hid (∀ i, i ≤ n → k ≤ kK k cs i ∧ kK k cs i ≤ 200000000) := fun i hi => by
    have := kK_le k cs i (by omega)
    omega
  have HK0 : Hid (k = kK k cs 0) := by show _ = _; unfold kK; simp [sK]
  rw [← hn] at hl ⊢
  have hn8 : n ≤ 20000000 := by omega
  have HSG : Hid (S g) := hg
  unfold maxLen at hm
  clear hT hn hg
  go_enter Try.func58, Try.ntmps58
  go_wp2
  go_loopw [1, 5] (fun q i wr => ∃ j : Nat, j ≤ n ∧ i = .int .i64 j ∧ ∃ kj : Int, q = .int .i64 kj ∧ Hid (kj = kK k cs j) ∧ Hid (OKD S wr (.slice (some ⟨g, 0, none⟩) n cap) (mixK k cs j)) ∧ Hid (Trn S w wr)) (fun _ i _ => n - (intOf i).toNat)
  case atStart => exact ⟨0, Nat.zero_le _, rfl, k, rfl, HK0.out, (by rw [HN.out]; exact HO.out), Trn.refl _ _⟩
  case round =>
    obtain ⟨j, hj, rfl, kj, rfl, hkj, hO, hTr⟩ := hrel
    have hkb := HKL.out j hj
    rw [← hkj.out] at hkb
    by_cases hlt : j < n
    · have hlt' : (j : Int) < (n : Int) := by omega
      obtain ⟨s, hs⟩ : ∃ s, cs[j]? = some s := ⟨_, List.getElem?_eq_getElem (by have := HN.out; omega)⟩
      have HS' : Hid (cs[j]? = some s) := hs
      have HKN : Hid (kK k cs (j + 1) = kj + s.name.length + 5) := by show _ = _; rw [kK_next k cs j s hs, hkj.out]
      have hlen := HT.out j s hs
      obtain ⟨g', cap', F, N, hv, _, _, hg', hB, hNN, hNS, hF⟩ : ∃ (g' cap' : Nat) (F : Nat → Nat → Value) (N : Nat → Nat → Prop), (Value.slice (some ⟨g, 0, none⟩) n cap) = .slice (some ⟨g', 0, none⟩) (mixK k cs j).length cap' ∧ (mixK k cs j).length ≤ cap' ∧ cap' ≤ maxLen ∧ S g' ∧ Blk wr g' 43 6 cap' (mixK k cs j).length F ∧ (∀ i j b, i ≠ j → N i b → ¬ N j b) ∧ (∀ i b, N i b → S b ∧ b ≠ g') ∧ ∀ (i : Nat) s', (mixK k cs j)[i]? = some s' → OwS (N i) wr (F i 0) s'.name ∧ F i 1 = .int .i64 s'.ttl ∧ F i 2 = .int .i64 s'.most ∧ F i 3 = .int .i64 s'.st ∧ F i 4 = .int .i64 s'.age ∧ F i 5 = .int .i64 s'.fails := by
        rcases hO.out with ⟨_, _, _, _, hv⟩ | h
        · have h1 := congrArg List.length hv
          rw [mixK_len] at h1
          have h2 := HN.out
          simp at h1
          subst h1
          simp at h2
          omega
        · exact h
      simp only [Value.slice.injEq, Option.some.injEq, Addr.mk.injEq, and_true] at hv
      obtain ⟨rfl, hnl, rfl⟩ := hv
      rw [← hnl] at hB
      obtain ⟨o0, _⟩ := hF j _ (mixK_at hs)
      rw [if_neg (Nat.lt_irrefl j)] at o0
      have HF := (show Hid (∀ (i : Nat) s', (mixK k cs j)[i]? = some s' → OwS (N i) wr (F i 0) s'.name ∧ F i 1 = .int .i64 s'.ttl ∧ F i 2 = .int .i64 s'.most ∧ F i 3 = .int .i64 s'.st ∧ F i 4 = .int .i64 s'.age ∧ F i 5 = .int .i64 s'.fails) from hF)
      have HNN := (show Hid ((∀ i j b, i ≠ j → N i b → ¬ N j b) ∧ ∀ i b, N i b → S b ∧ b ≠ g) from ⟨hNN, hNS⟩)
      have HO0 := (show Hid (OwS (N j) wr (F j 0) s.name) from o0)
      have HB := (show Hid (Blk wr g 43 6 cap n F) from hB)
      have HCELL : Hid (∀ {W : World} {G : Nat → Nat → Value}, Blk W g 43 6 cap n G → ∀ c, c < 6 → W.cell? ⟨g, j * 6 + c, none⟩ = some (G j c)) := by
        rintro W G ⟨cur, h1, _, h3⟩ c hc'
        rw [cell_of_row W g _ cur _ (0, 0) h1]
        exact h3 j hlt c hc'
      have d0 := HCELL.out HB.out 0 (by omega)
      rw [Nat.add_zero] at d0
      obtain ⟨na, nc, hnv⟩ : ∃ a c, F j 0 = .slice a s.name.length c := by
        obtain ⟨a, c, h1, _⟩ := HO0.out.rv
        exact ⟨a, c, h1⟩
      obtain ⟨nl, hnl2⟩ : ∃ nl, nl = s.name.length := ⟨_, rfl⟩
      have HNL : Hid (nl = s.name.length) := hnl2
      have HNV : Hid (F j 0 = .slice na nl nc) := by show _ = _; rw [hnv, hnl2]
      rw [HNV.out] at d0
      rw [← hnl2] at hlen
      clear hF hNN hNS o0 hB hnl hg' hnv hnl2 hs
      go_wp2_with fail
      refine (markV 0 (.slice na nl nc) s.name kj wr (by rw [← HNV.out]; exact HO0.out.1.1) (by have := HNL.out; omega) (by omega) (by omega)).mono ?_
      rintro e w1 ⟨rfl, M1, G1⟩
      rw [← HNL.out]
      have T1 : Trn (N j) wr w1 := Trn.one G1 (fun x e => HO0.out.2 x (by rw [HNV.out]; exact e))
      have HB1 := (show Hid (Blk w1 g 43 6 cap n F) from blk_kept HB.out (T1.block g (blk_lt HB.out) (fun h => (HNN.out.2 j g h).2 rfl)))
      obtain ⟨⟨u1, a1⟩, f1⟩ := blk_cell HB1.out (j * 6 + 1) (by omega)
      obtain ⟨⟨u2, a2⟩, f2⟩ := blk_cell HB1.out (j * 6 + 2) (by omega)
      obtain ⟨⟨u3, a3⟩, f3⟩ := blk_cell HB1.out (j * 6 + 3) (by omega)
      obtain ⟨⟨u4, a4⟩, f4⟩ := blk_cell HB1.out (j * 6 + 4) (by omega)
      obtain ⟨⟨u5, a5⟩, f5⟩ := blk_cell HB1.out (j * 6 + 5) (by omega)
      have HZ : Hid (∀ x1 x2 x3 x4 x5 : Int, x1 = kj + nl → x2 = kj + nl + 1 → x3 = kj + nl + 2 → x4 = kj + nl + 3 → x5 = kj + nl + 4 → OKD S (((((w1.setCell ⟨g, j * 6 + 1, none⟩ (.int .i64 x1)).setCell ⟨g, j * 6 + 2, none⟩ (.int .i64 x2)).setCell ⟨g, j * 6 + 3, none⟩ (.int .i64 x3)).setCell ⟨g, j * 6 + 4, none⟩ (.int .i64 x4)).setCell ⟨g, j * 6 + 5, none⟩ (.int .i64 x5)) (.slice (some ⟨g, 0, none⟩) n cap) (mixK k cs (j + 1)) ∧ Trn S w (((((w1.setCell ⟨g, j * 6 + 1, none⟩ (.int .i64 x1)).setCell ⟨g, j * 6 + 2, none⟩ (.int .i64 x2)).setCell ⟨g, j * 6 + 3, none⟩ (.int .i64 x3)).setCell ⟨g, j * 6 + 4, none⟩ (.int .i64 x4)).setCell ⟨g, j * 6 + 5, none⟩ (.int .i64 x5))) := fun x1 x2 x3 x4 x5 e1 e2 e3 e4 e5 => by
        have B5 := blk_put (blk_put (blk_put (blk_put (blk_put HB1.out j 1 (by omega) (by omega) (.int .i64 x1)) j 2 (by omega) (by omega) (.int .i64 x2)) j 3 (by omega) (by omega) (.int .i64 x3)) j 4 (by omega) (by omega) (.int .i64 x4)) j 5 (by omega) (by omega) (.int .i64 x5)
        have TS : Trn (fun b => b = g) w1 _ := ((((Trn.set (fun b => b = g) w1 g (j * 6 + 1) (.int .i64 x1) rfl).trans (Trn.set _ _ g (j * 6 + 2) (.int .i64 x2) rfl)).trans (Trn.set _ _ g (j * 6 + 3) (.int .i64 x3) rfl)).trans (Trn.set _ _ g (j * 6 + 4) (.int .i64 x4) rfl)).trans (Trn.set _ _ g (j * 6 + 5) (.int .i64 x5) rfl)
        have hml := mixK_len k cs (j + 1)
        have hnn := HN.out
        refine ⟨.inr ⟨g, cap, _, N, by rw [hml, ← hnn], by rw [hml, ← hnn]; exact hl, by unfold maxLen; exact hm, HSG.out, by rw [hml, ← hnn]; exact B5, HNN.out.1, HNN.out.2, fun i s' hs' => ?_⟩, (hTr.out.trans (T1.mono (fun b hb => (HNN.out.2 j b hb).1))).trans (TS.mono (fun b hb => by subst hb; exact HSG.out))⟩
        rw [mixK_get] at hs'
        cases hci : cs[i]? with
        | none => rw [hci] at hs'; cases hs'
        | some t =>
          rw [hci] at hs'
          simp only [Option.map_some, Option.some.injEq] at hs'
          have nA : ∀ b, N i b → ¬ b = g := fun b hb => (HNN.out.2 i b hb).2
          by_cases e : i = j
          · subst e
            have ht : t = s := by have := HS'.out; rw [hci] at this; exact Option.some.inj this
            subst ht
            rw [if_pos (Nat.lt_succ_self i), ← hkj.out] at hs'
            subst hs'
            have OM : OwS (N i) w1 (F i 0) (marks kj t.name.length) := ⟨⟨by rw [HNV.out]; exact M1, marks_rng _ _⟩, HO0.out.2⟩
            refine ⟨?_, ?_, ?_, ?_, ?_, ?_⟩
            · have := OM.keep TS nA
              simpa [updK, mk1] using this
            all_goals simp [updK, mk1, e1, e2, e3, e4, e5, HNL.out]
          · have hs2 : s' = if i < j then mk1 (kK k cs i) t else t := by
              rw [← hs']
              by_cases h1 : i < j
              · rw [if_pos h1, if_pos (by omega)]
              · rw [if_neg h1, if_neg (by omega)]
            obtain ⟨q0, q1, q2, q3, q4, q5⟩ := HF.out i s' (by rw [mixK_at hci, hs2])
            have q0' := (q0.keep T1 (HNN.out.1 i j · e)).keep TS nA
            refine ⟨by simpa [updK, e] using q0', ?_, ?_, ?_, ?_, ?_⟩
            all_goals simp [updK, e, q1, q2, q3, q4, q5]
      clear M1 G1 T1 HB1 HF HNN HO0 HB HCELL hO hTr d0
      go_wp2
      go_roundw
      case rel =>
        have HZ1 := HZ.out (kj + nl) (kj + nl + 1) (kj + nl + 1 + 1) (kj + nl + 1 + 1 + 1) (kj + nl + 1 + 1 + 1 + 1) rfl rfl (by omega) (by omega) (by omega)
        refine ⟨j + 1, by omega, by go_num, _, rfl, ?_, ?_, ?_⟩
        · show _ = _; rw [HKN.out, ← HNL.out]; omega
        · exact HZ1.1
        · exact HZ1.2
      case measure => simp [intOf]; omega
    · have hjn : j = n := by omega
      subst hjn
      go_wp2
      go_ret
      exact ⟨by rw [show kj = kK k cs j from hkj.out]; rfl, hO.out, hTr.out⟩

set_option maxRecDepth 20000 in
set_option maxHeartbeats 4000000 in
theorem heldKD (v : Value) (cs : List DChk) (k : Int) (w : World) (h : VChks w v (mixK k cs cs.length)) (hT : ∀ (i : Nat) s, cs[i]? = some s → s.name.length ≤ 1048576) (hS : cs.length * 5 + sK cs ≤ 100000000) (hk0 : 0 ≤ k) (hk : k ≤ 100000000) :
    Calls Try.prog 59 #[v, .int .i64 k] w fun e w' => e = .returned (.int .i64 (kK k cs cs.length)) ∧ w' = w := by
  obtain ⟨C, ⟨a, cap, rfl, h1, h2, h3⟩, hC⟩ := h
  rw [mixK_len] at h1 h3 ⊢
  obtain ⟨n, hn⟩ : ∃ n, n = cs.length := ⟨_, rfl⟩
  have HN : Hid (n = cs.length) := hn
  have HC : Hid (∀ (i : Nat) d, (mixK k cs n)[i]? = some d → RV w (C i 0) d.name ∧ C i 1 = .int .i64 d.ttl ∧ C i 2 = .int .i64 d.most ∧ C i 3 = .int .i64 d.st ∧ C i 4 = .int .i64 d.age ∧ C i 5 = .int .i64 d.fails) := by rw [hn]; exact hC
  have HT : Hid (∀ (i : Nat) s, cs[i]? = some s → s.name.length ≤ 1048576) := hT
  have HKL : Hid (∀ i, i ≤ n → k ≤ kK k cs i ∧ kK k cs i ≤ 200000000) := fun i hi => by
    have := kK_le k cs i (by omega)
    omega
  have HK0 : Hid (k = kK k cs 0) := by show _ = _; unfold kK; simp [sK]
  rw [← hn] at h1 h3 ⊢
  have hn8 : n ≤ 20000000 := by omega
  have H3 : Hid (0 < n → ∃ b o, a = some ⟨b, o, none⟩ ∧ b < w.heap.size ∧ ∀ i, i < n → ∀ j, j < 6 → w.cell? ⟨b, o + i * 6 + j, none⟩ = some (C i j)) := h3
  unfold maxLen at h2
  clear hT hn hC h3
  go_enter Try.func59, Try.ntmps59
  go_wp2
  go_loop [1, 5] (fun q i => ∃ j : Nat, j ≤ n ∧ i = .int .i64 j ∧ ∃ kj : Int, q = .int .i64 kj ∧ Hid (kj = kK k cs j)) (fun _ i => n - (intOf i).toNat)
  case atStart => exact ⟨0, Nat.zero_le _, rfl, k, rfl, HK0.out⟩
  case round =>
    obtain ⟨j, hj, rfl, kj, rfl, hkj⟩ := hrel
    have hkb := HKL.out j hj
    rw [← hkj.out] at hkb
    by_cases hlt : j < n
    · have hlt' : (j : Int) < (n : Int) := by omega
      obtain ⟨b, o, rfl, hbl, hc⟩ := H3.out (by omega)
      obtain ⟨s, hs⟩ : ∃ s, cs[j]? = some s := ⟨_, List.getElem?_eq_getElem (by have := HN.out; omega)⟩
      have HKN : Hid (kK k cs (j + 1) = kj + s.name.length + 5) := by show _ = _; rw [kK_next k cs j s hs, hkj.out]
      have hlen := HT.out j s hs
      obtain ⟨e0, e1, e2, e3, e4, e5⟩ := HC.out j _ (mixK_at hs)
      rw [if_pos hlt, ← hkj.out] at e0 e1 e2 e3 e4 e5
      simp only [mk1] at e0 e1 e2 e3 e4 e5
      obtain ⟨nl, hnl⟩ : ∃ nl, nl = s.name.length := ⟨_, rfl⟩
      have HNL : Hid (nl = s.name.length) := hnl
      rw [← hnl] at e0 e1 e2 e3 e4 e5 hlen
      have HE0 : Hid (RV w (C j 0) (marks kj nl)) := e0
      obtain ⟨na, nc, hnv, _⟩ := e0
      rw [marks_len] at hnv
      have c0 := hc j hlt 0 (by omega)
      rw [Nat.add_zero, hnv] at c0
      have c1 := hc j hlt 1 (by omega)
      rw [e1] at c1
      have c2 := hc j hlt 2 (by omega)
      rw [e2] at c2
      have c3 := hc j hlt 3 (by omega)
      rw [e3] at c3
      have c4 := hc j hlt 4 (by omega)
      rw [e4] at c4
      have c5 := hc j hlt 5 (by omega)
      rw [e5] at c5
      have HNV : Hid (C j 0 = .slice na nl nc) := hnv
      have w1 : IntKind.i64.wrap (kj + nl + 1) = kj + nl + 1 := by rw [IntKind.wrap_i64]; omega
      have w2 : IntKind.i64.wrap (kj + nl + 1 + 1) = kj + nl + 2 := by rw [IntKind.wrap_i64]; omega
      have w2' : IntKind.i64.wrap (kj + nl + 2) = kj + nl + 2 := by rw [IntKind.wrap_i64]; omega
      clear hc hnl hnv e1 e2 e3 e4 e5 hs
      go_wp2_with fail
      refine (heldV (.slice na nl nc) nl kj w (by rw [← HNV.out]; exact HE0.out) (by omega) (by omega) (by omega)).mono ?_
      rintro e wX ⟨rfl, rfl⟩
      have hneg : ¬ (kj + (nl : Int) < 0) := by omega
      have n1 : ((kj + (nl : Int)) != kj + nl) = false := by simp
      go_wp2
      go_round
      case rel => exact ⟨j + 1, by omega, by go_num, _, rfl, by show _ = _; rw [HKN.out, ← HNL.out]; omega⟩
      case measure => simp [intOf]; omega
    · have hjn : j = n := by omega
      subst hjn
      go_wp2
      go_ret
      exact ⟨by rw [show kj = kK k cs j from hkj.out]; rfl, rfl⟩

end Go.Proofs.Ytjkhadaoldbceaa
