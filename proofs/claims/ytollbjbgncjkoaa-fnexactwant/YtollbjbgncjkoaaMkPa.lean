
/- Exact marks in lists (Pair). -/
import Derived.Test.YtollbjbgncjkoaaSetO
import Derived.Test.YtollbjbgncjkoaaSum0
import Derived.Test.YtollbjbgncjkoaaPa0
import Derived.Test.YtollbjbgncjkoaaSetM
namespace Go.Proofs.Ytollbjbgncjkoaa
open Go.RowKit

theorem shape_Pa {w : World} {v : Value} {xs : List Int} (h : RV w v xs) : ∃ a c, v = .slice a xs.length c := by
  obtain ⟨a, c, h1, _⟩ := h
  exact ⟨a, c, h1⟩
def zMPa (s : DPair) : Nat := s.key.length + s.val.length + 0
def sMPa (cs : List DPair) : Nat := (cs.map zMPa).sum
/-- The number ahead of number i. -/
def kPa (k : Int) (cs : List DPair) (i : Nat) : Int := k + ((sMPa (cs.take i) : Nat) : Int)
theorem kPa_next (k : Int) (cs : List DPair) (i : Nat) (s : DPair) (h : cs[i]? = some s) : kPa k cs (i + 1) = kPa k cs i + s.key.length + s.val.length + 0 := by
  unfold kPa
  have : sMPa (cs.take (i + 1)) = sMPa (cs.take i) + zMPa s := sum_next zMPa cs i s h
  rw [this]
  unfold zMPa
  omega
theorem kPa_le (k : Int) (cs : List DPair) (i : Nat) : k ≤ kPa k cs i ∧ kPa k cs i ≤ k + ((sMPa cs : Nat) : Int) := by
  unfold kPa
  have : sMPa (cs.take i) ≤ sMPa cs := sum_take zMPa cs i
  omega
def mk1Pa (k : Int) (s : DPair) : DPair := ⟨marks (k) s.key.length, marks (k + s.key.length) s.val.length⟩
def mixPa (k : Int) (cs : List DPair) (j : Nat) : List DPair := cs.mapIdx (fun i s => if i < j then mk1Pa (kPa k cs i) s else s)
theorem mixPa_len (k : Int) (cs : List DPair) (j : Nat) : (mixPa k cs j).length = cs.length := by unfold mixPa; simp
theorem mixPa_get (k : Int) (cs : List DPair) (j i : Nat) : (mixPa k cs j)[i]? = (cs[i]?).map (fun s => if i < j then mk1Pa (kPa k cs i) s else s) := by unfold mixPa; simp
theorem mixPa_zero (k : Int) (cs : List DPair) : mixPa k cs 0 = cs := by
  apply List.ext_getElem?
  intro i
  rw [mixPa_get]
  cases cs[i]? <;> simp
theorem mixPa_at {k : Int} {cs : List DPair} {j i : Nat} {s : DPair} (h : cs[i]? = some s) : (mixPa k cs j)[i]? = some (if i < j then mk1Pa (kPa k cs i) s else s) := by rw [mixPa_get, h]; rfl

/-- The slice owns these, their texts apart from one another, all in blocks of S. -/
def OPaD (S : Nat → Prop) (w : World) (v : Value) (cs : List DPair) : Prop := (v = .slice none 0 0 ∧ cs = []) ∨
  ∃ (g cap : Nat) (F : Nat → Nat → Value) (N : Nat → Nat → Prop), v = .slice (some ⟨g, 0, none⟩) cs.length cap ∧ cs.length ≤ cap ∧ cap ≤ maxLen ∧ S g ∧ Blk w g 50 2 cap cs.length F ∧
    (∀ a c b, a ≠ c → N a b → ¬ N c b) ∧ (∀ a b, N a b → S b ∧ b ≠ g) ∧ ∀ (i : Nat) s, cs[i]? = some s → OwT (N (2 * i + 0)) w (F i 0) s.key ∧ OwT (N (2 * i + 1)) w (F i 1) s.val
theorem OPaD.keep {S T : Nat → Prop} {w w' : World} {v : Value} {cs : List DPair} (h : OPaD S w v cs) (t : Trn T w w') (d : ∀ b, S b → ¬ T b) : OPaD S w' v cs := by
  rcases h with h | ⟨g, cap, F, N, hv, hl, hm, hg, hB, hN, hS, hF⟩
  · exact .inl h
  · refine .inr ⟨g, cap, F, N, hv, hl, hm, hg, blk_kept hB (t.block g (blk_lt hB) (d g hg)), hN, hS, fun i s hs => ?_⟩
    obtain ⟨e0, e1⟩ := hF i s hs
    exact ⟨e0.keep t (fun b hb => d b (hS _ b hb).1), e1.keep t (fun b hb => d b (hS _ b hb).1)⟩
theorem OPaD.mono {S T : Nat → Prop} {w : World} {v : Value} {cs : List DPair} (h : OPaD S w v cs) (k : ∀ x, S x → T x) : OPaD T w v cs := by
  rcases h with h | ⟨g, cap, F, N, hv, hl, hm, hg, hB, hN, hS, hF⟩
  · exact .inl h
  · exact .inr ⟨g, cap, F, N, hv, hl, hm, k g hg, hB, hN, fun i b hb => ⟨k b (hS i b hb).1, (hS i b hb).2⟩, hF⟩
theorem OPaD.ext {S : Nat → Prop} {w w' : World} {v : Value} {cs : List DPair} (h : OPaD S w v cs) (e : Ext w w') : OPaD S w' v cs := h.keep (T := fun _ => False) (Trn.ext e) (fun _ _ h => h)
theorem OPaD.v {S : Nat → Prop} {w : World} {v : Value} {cs : List DPair} (h : OPaD S w v cs) : VPairs w v cs := by
  rcases h with ⟨rfl, rfl⟩ | ⟨g, cap, F, N, rfl, hl, hm, hg, ⟨cur, h1, h2, h3⟩, hN, hS, hF⟩
  · exact ⟨fun _ _ => .bool true, ⟨none, 0, rfl, Nat.le_refl _, by unfold maxLen; omega, fun h => absurd h (by simp)⟩, fun i d hd => by simp at hd⟩
  · refine ⟨F, ⟨_, cap, rfl, hl, hm, fun _ => ⟨g, 0, rfl, (Array.getElem?_eq_some_iff.1 h1).1, fun i hi j hj => ?_⟩⟩, fun i s hs => ?_⟩
    · rw [Nat.zero_add, cell_of_row w g _ cur _ (0, 0) h1]
      exact h3 i hi j hj
    · obtain ⟨e0, e1⟩ := hF i s hs
      exact ⟨e0.rv, e1.rv⟩

theorem markPa0 (k : Int) (w : World) : Calls Try.prog 11 #[.slice none 0 0, .int .i64 k] w fun e w' => e = .returned (.int .i64 k) ∧ w' = w := by
  go_enter Try.func11, Try.ntmps11
  go_wp2
  refine wp_loop_rounds 1 ?_
  rw [rounds_succ]
  go_wp2
  go_ret
  exact ⟨rfl, rfl⟩

set_option maxRecDepth 20000 in
set_option maxHeartbeats 8000000 in
theorem markPaD (S : Nat → Prop) (v : Value) (cs : List DPair) (k : Int) (w : World) (h : OPaD S w v cs) (hT : ∀ (i : Nat) (s : DPair), cs[i]? = some s → s.key.length ≤ 1048576 ∧ s.val.length ≤ 1048576) (hS : sMPa cs ≤ 100000000) (hsl : cs.length ≤ 20000000) (hk0 : 0 ≤ k) (hk : k ≤ 100000000) :
    Calls Try.prog 11 #[v, .int .i64 k] w fun e w' => e = .returned (.int .i64 (kPa k cs cs.length)) ∧ OPaD S w' v (mixPa k cs cs.length) ∧ Trn S w w' := by
  have HO := (show Hid (OPaD S w v (mixPa k cs 0)) by rw [mixPa_zero]; exact h)
  rcases h with ⟨rfl, rfl⟩ | ⟨g, cap, F0, N0, rfl, hl, hm, hg, _⟩
  · refine (markPa0 k w).mono fun e w' ⟨h1, h2⟩ => ?_
    subst h2
    refine ⟨?_, HO.out, Trn.refl _ _⟩
    rw [h1]
    unfold kPa
    simp [sMPa]
  obtain ⟨n, hn⟩ : ∃ n, n = cs.length := ⟨_, rfl⟩
  have HN : Hid (n = cs.length) := hn
  have HT : Hid (∀ (i : Nat) (s : DPair), cs[i]? = some s → s.key.length ≤ 1048576 ∧ s.val.length ≤ 1048576) := hT
  have HKL : Hid (∀ i, k ≤ kPa k cs i ∧ kPa k cs i ≤ 200000000) := fun i => by
    have := kPa_le k cs i
    omega
  have HK0 : Hid (k = kPa k cs 0) := by show _ = _; unfold kPa; simp [sMPa]
  rw [← hn] at hl hsl ⊢
  have HSG : Hid (S g) := hg
  unfold maxLen at hm
  clear hT hn hg
  go_enter Try.func11, Try.ntmps11
  go_wp2
  go_loopw [1, 5] (fun q i wr => ∃ j : Nat, j ≤ n ∧ i = .int .i64 j ∧ ∃ kj : Int, q = .int .i64 kj ∧ Hid (kj = kPa k cs j) ∧ Hid (OPaD S wr (.slice (some ⟨g, 0, none⟩) n cap) (mixPa k cs j)) ∧ Hid (Trn S w wr)) (fun _ i _ => n - (intOf i).toNat)
  case atStart => exact ⟨0, Nat.zero_le _, rfl, k, rfl, HK0.out, (by rw [HN.out]; exact HO.out), Trn.refl _ _⟩
  case round =>
    obtain ⟨j, hj, rfl, kj, rfl, hkj, hO, hTr⟩ := hrel
    have hkb := HKL.out j
    rw [← hkj.out] at hkb
    by_cases hlt : j < n
    · have hlt' : (j : Int) < (n : Int) := by omega
      obtain ⟨s, hs⟩ : ∃ s, cs[j]? = some s := ⟨_, List.getElem?_eq_getElem (by have := HN.out; omega)⟩
      have HS' : Hid (cs[j]? = some s) := hs
      have HKN : Hid (kPa k cs (j + 1) = kj + s.key.length + s.val.length + 0) := by show _ = _; rw [kPa_next k cs j s hs, hkj.out]
      have HLEN := (show Hid (s.key.length ≤ 1048576 ∧ s.val.length ≤ 1048576) from HT.out j s hs)
      obtain ⟨g', cap', F, N, hv, _, _, hg', hB, hNN, hNS, hF⟩ : ∃ (g' cap' : Nat) (F : Nat → Nat → Value) (N : Nat → Nat → Prop), (Value.slice (some ⟨g, 0, none⟩) n cap) = .slice (some ⟨g', 0, none⟩) (mixPa k cs j).length cap' ∧ (mixPa k cs j).length ≤ cap' ∧ cap' ≤ maxLen ∧ S g' ∧ Blk wr g' 50 2 cap' (mixPa k cs j).length F ∧ (∀ a c b, a ≠ c → N a b → ¬ N c b) ∧ (∀ a b, N a b → S b ∧ b ≠ g') ∧ ∀ (i : Nat) s', (mixPa k cs j)[i]? = some s' → OwT (N (2 * i + 0)) wr (F i 0) s'.key ∧ OwT (N (2 * i + 1)) wr (F i 1) s'.val := by
        rcases hO.out with ⟨hv, _⟩ | h
        · cases hv
        · exact h
      simp only [Value.slice.injEq, Option.some.injEq, Addr.mk.injEq, and_true] at hv
      obtain ⟨rfl, hnl, rfl⟩ := hv
      rw [← hnl] at hB
      obtain ⟨o0, o1⟩ := hF j _ (mixPa_at hs)
      rw [if_neg (Nat.lt_irrefl j)] at o0 o1
      have HF := (show Hid (∀ (i : Nat) s', (mixPa k cs j)[i]? = some s' → OwT (N (2 * i + 0)) wr (F i 0) s'.key ∧ OwT (N (2 * i + 1)) wr (F i 1) s'.val) from hF)
      have HNN := (show Hid ((∀ a c b, a ≠ c → N a b → ¬ N c b) ∧ ∀ a b, N a b → S b ∧ b ≠ g) from ⟨hNN, hNS⟩)
      have HB0 := (show Hid (Blk wr g 50 2 cap n F) from hB)
      have HCELL : Hid (∀ {W : World} {G : Nat → Nat → Value}, Blk W g 50 2 cap n G → ∀ c, c < 2 → W.cell? ⟨g, j * 2 + c, none⟩ = some (G j c)) := by
        rintro W G ⟨cur, h1, _, h3⟩ c hc'
        rw [cell_of_row W g _ cur _ (0, 0) h1]
        exact h3 j hlt c hc'
      have HA0x0 := (show Hid (OwT (N (2 * j + 0)) wr (F j 0) s.key) from o0)
      obtain ⟨na0, nc0, hnv0⟩ := shape_Pa o0.rv
      obtain ⟨l0, hl0⟩ : ∃ l, l = s.key.length := ⟨_, rfl⟩
      have HNL0 : Hid (l0 = s.key.length) := hl0
      have HNV0 : Hid (F j 0 = .slice na0 l0 nc0) := by show _ = _; rw [hnv0, hl0]
      have hlen0 : l0 ≤ 1048576 := by rw [hl0]; exact HLEN.out.1
      have HA1x0 := (show Hid (OwT (N (2 * j + 1)) wr (F j 1) s.val) from o1)
      obtain ⟨na1, nc1, hnv1⟩ := shape_Pa o1.rv
      obtain ⟨l1, hl1⟩ : ∃ l, l = s.val.length := ⟨_, rfl⟩
      have HNL1 : Hid (l1 = s.val.length) := hl1
      have HNV1 : Hid (F j 1 = .slice na1 l1 nc1) := by show _ = _; rw [hnv1, hl1]
      have hlen1 : l1 ≤ 1048576 := by rw [hl1]; exact HLEN.out.2
      clear hF hNN hNS hB hnl hg' hs o0 o1 hnv0 hl0 hnv1 hl1
      have d0 := HCELL.out HB0.out 0 (by omega)
      rw [Nat.add_zero, HNV0.out] at d0
      go_wp2_with fail
      refine (markM 0 (.slice na0 l0 nc0) s.key (kj) wr (by rw [← HNV0.out]; exact HA0x0.out.1.1) (by have := HNL0.out; omega) (by omega) (by omega)).mono ?_
      rintro e w1 ⟨rfl, M0, G0⟩
      rw [← HNL0.out] at M0 ⊢
      have HT0 : Hid (Trn (N (2 * j + 0)) wr w1) := Trn.one G0 (fun x e => HA0x0.out.2 x (by rw [HNV0.out]; exact e))
      have HB1 := (show Hid (Blk w1 g 50 2 cap n F) from blk_kept HB0.out (HT0.out.block g (blk_lt HB0.out) (fun h => (HNN.out.2 _ g h).2 rfl)))
      have HA0x1 : Hid (OwT (N (2 * j + 0)) w1 (F j 0) (marks (kj) l0)) := ⟨⟨by rw [HNV0.out]; exact M0, marks_rng _ _⟩, HA0x0.out.2⟩
      have HA1x1 := (show Hid (OwT (N (2 * j + 1)) w1 (F j 1) s.val) from HA1x0.out.keep HT0.out (fun b hb => HNN.out.1 _ _ b (by omega) hb))
      clear M0 G0 d0
      have d1 := HCELL.out HB1.out 1 (by omega)
      rw [HNV1.out] at d1
      go_wp2_with fail
      refine (markM 0 (.slice na1 l1 nc1) s.val (kj + l0) w1 (by rw [← HNV1.out]; exact HA1x1.out.1.1) (by have := HNL1.out; omega) (by omega) (by omega)).mono ?_
      rintro e w2 ⟨rfl, M1, G1⟩
      rw [← HNL1.out] at M1 ⊢
      have HT1 : Hid (Trn (N (2 * j + 1)) w1 w2) := Trn.one G1 (fun x e => HA1x1.out.2 x (by rw [HNV1.out]; exact e))
      have HB2 := (show Hid (Blk w2 g 50 2 cap n F) from blk_kept HB1.out (HT1.out.block g (blk_lt HB1.out) (fun h => (HNN.out.2 _ g h).2 rfl)))
      have HA0x2 := (show Hid (OwT (N (2 * j + 0)) w2 (F j 0) (marks (kj) l0)) from HA0x1.out.keep HT1.out (fun b hb => HNN.out.1 _ _ b (by omega) hb))
      have HA1x2 : Hid (OwT (N (2 * j + 1)) w2 (F j 1) (marks (kj + l0) l1)) := ⟨⟨by rw [HNV1.out]; exact M1, marks_rng _ _⟩, HA1x1.out.2⟩
      clear M1 G1 d1
      have HZ : Hid (OPaD S w2 (.slice (some ⟨g, 0, none⟩) n cap) (mixPa k cs (j + 1)) ∧ Trn S w w2) := by
        have B5 := HB2.out
        have TS : Trn (fun b => b = g) w2 w2 := Trn.refl (fun b => b = g) w2
        have hml := mixPa_len k cs (j + 1)
        have hnn := HN.out
        refine ⟨.inr ⟨g, cap, _, N, by rw [hml, ← hnn], by rw [hml, ← hnn]; exact hl, by unfold maxLen; exact hm, HSG.out, by rw [hml, ← hnn]; exact B5, HNN.out.1, HNN.out.2, fun i s' hs' => ?_⟩, (((hTr.out.trans (HT0.out.mono (fun b hb => (HNN.out.2 _ b hb).1))).trans (HT1.out.mono (fun b hb => (HNN.out.2 _ b hb).1)))).trans (TS.mono (fun b hb => by subst hb; exact HSG.out))⟩
        rw [mixPa_get] at hs'
        cases hci : cs[i]? with
        | none => rw [hci] at hs'; cases hs'
        | some t =>
          rw [hci] at hs'
          simp only [Option.map_some, Option.some.injEq] at hs'
          have nA : ∀ a b, N a b → ¬ b = g := fun a b hb => (HNN.out.2 a b hb).2
          by_cases e : i = j
          · subst e
            have ht : t = s := by have := HS'.out; rw [hci] at this; exact Option.some.inj this
            subst ht
            rw [if_pos (Nat.lt_succ_self i), ← hkj.out] at hs'
            subst hs'
            have q0 := HA0x2.out.keep TS (nA _)
            have q1 := HA1x2.out.keep TS (nA _)
            refine ⟨?_, ?_⟩
            · simpa [updK, mk1Pa, HNL0.out, HNL1.out] using q0
            · simpa [updK, mk1Pa, HNL0.out, HNL1.out] using q1
          · have hs2 : s' = if i < j then mk1Pa (kPa k cs i) t else t := by
              rw [← hs']
              by_cases h1 : i < j
              · rw [if_pos h1, if_pos (by omega)]
              · rw [if_neg h1, if_neg (by omega)]
            obtain ⟨q0, q1⟩ := HF.out i s' (by rw [mixPa_at hci, hs2])
            have r0 := ((q0.keep HT0.out (fun b hb => HNN.out.1 _ _ b (by omega) hb)).keep HT1.out (fun b hb => HNN.out.1 _ _ b (by omega) hb)).keep TS (nA _)
            have r1 := ((q1.keep HT0.out (fun b hb => HNN.out.1 _ _ b (by omega) hb)).keep HT1.out (fun b hb => HNN.out.1 _ _ b (by omega) hb)).keep TS (nA _)
            refine ⟨?_, ?_⟩
            · simpa [updK, e] using r0
            · simpa [updK, e] using r1
      clear HF HNN HCELL hO hTr HLEN HT0 HB0 HT1 HB1 HB2 HA0x0 HA0x1 HA0x2 HA1x0 HA1x1 HA1x2
      go_wp2
      go_roundw
      case rel =>
        have HZ1 := HZ.out
        refine ⟨j + 1, by omega, by go_num, _, rfl, ?_, HZ1.1, HZ1.2⟩
        show _ = _
        rw [HKN.out, ← HNL0.out, ← HNL1.out] <;> omega
      case measure => simp [intOf]; omega
    · have hjn : j = n := by omega
      subst hjn
      go_wp2
      go_ret
      exact ⟨by rw [show kj = kPa k cs j from hkj.out]; rfl, hO.out, hTr.out⟩

set_option maxRecDepth 20000 in
set_option maxHeartbeats 4000000 in
theorem heldPaD (v : Value) (cs : List DPair) (k : Int) (w : World) (h : VPairs w v (mixPa k cs cs.length)) (hT : ∀ (i : Nat) (s : DPair), cs[i]? = some s → s.key.length ≤ 1048576 ∧ s.val.length ≤ 1048576) (hS : sMPa cs ≤ 100000000) (hsl : cs.length ≤ 20000000) (hk0 : 0 ≤ k) (hk : k ≤ 100000000) :
    Calls Try.prog 12 #[v, .int .i64 k] w fun e w' => e = .returned (.int .i64 (kPa k cs cs.length)) ∧ w' = w := by
  obtain ⟨C, ⟨a, cap, rfl, h1, h2, h3⟩, hC⟩ := h
  rw [mixPa_len] at h1 h3 ⊢
  obtain ⟨n, hn⟩ : ∃ n, n = cs.length := ⟨_, rfl⟩
  have HN : Hid (n = cs.length) := hn
  have HC : Hid (∀ (i : Nat) d, (mixPa k cs n)[i]? = some d → RV w (C i 0) d.key ∧ RV w (C i 1) d.val) := by rw [hn]; exact hC
  have HT : Hid (∀ (i : Nat) (s : DPair), cs[i]? = some s → s.key.length ≤ 1048576 ∧ s.val.length ≤ 1048576) := hT
  have HKL : Hid (∀ i, k ≤ kPa k cs i ∧ kPa k cs i ≤ 200000000) := fun i => by
    have := kPa_le k cs i
    omega
  have HK0 : Hid (k = kPa k cs 0) := by show _ = _; unfold kPa; simp [sMPa]
  rw [← hn] at h1 h3 hsl ⊢
  have H3 : Hid (0 < n → ∃ b o, a = some ⟨b, o, none⟩ ∧ b < w.heap.size ∧ ∀ i, i < n → ∀ j, j < 2 → w.cell? ⟨b, o + i * 2 + j, none⟩ = some (C i j)) := h3
  unfold maxLen at h2
  clear hT hn hC h3
  go_enter Try.func12, Try.ntmps12
  go_wp2
  go_loop [1, 5] (fun q i => ∃ j : Nat, j ≤ n ∧ i = .int .i64 j ∧ ∃ kj : Int, q = .int .i64 kj ∧ Hid (kj = kPa k cs j)) (fun _ i => n - (intOf i).toNat)
  case atStart => exact ⟨0, Nat.zero_le _, rfl, k, rfl, HK0.out⟩
  case round =>
    obtain ⟨j, hj, rfl, kj, rfl, hkj⟩ := hrel
    have hkb := HKL.out j
    rw [← hkj.out] at hkb
    by_cases hlt : j < n
    · have hlt' : (j : Int) < (n : Int) := by omega
      obtain ⟨b, o, rfl, hbl, hc⟩ := H3.out (by omega)
      obtain ⟨s, hs⟩ : ∃ s, cs[j]? = some s := ⟨_, List.getElem?_eq_getElem (by have := HN.out; omega)⟩
      have HKN : Hid (kPa k cs (j + 1) = kj + s.key.length + s.val.length + 0) := by show _ = _; rw [kPa_next k cs j s hs, hkj.out]
      have HLEN := (show Hid (s.key.length ≤ 1048576 ∧ s.val.length ≤ 1048576) from HT.out j s hs)
      obtain ⟨e0, e1⟩ := HC.out j _ (mixPa_at hs)
      rw [if_pos hlt, ← hkj.out] at e0 e1
      simp only [mk1Pa] at e0 e1
      obtain ⟨l0, hl0⟩ : ∃ l, l = s.key.length := ⟨_, rfl⟩
      have HNL0 : Hid (l0 = s.key.length) := hl0
      have hlen0 : l0 ≤ 1048576 := by rw [hl0]; exact HLEN.out.1
      obtain ⟨l1, hl1⟩ : ∃ l, l = s.val.length := ⟨_, rfl⟩
      have HNL1 : Hid (l1 = s.val.length) := hl1
      have hlen1 : l1 ≤ 1048576 := by rw [hl1]; exact HLEN.out.2
      rw [← hl0] at e0
      have HE0 : Hid (RV w (C j 0) (marks (kj) l0)) := e0
      obtain ⟨na0, nc0, hnv0⟩ := shape_Pa e0
      rw [marks_len] at hnv0
      have HNV0 : Hid (C j 0 = .slice na0 l0 nc0) := hnv0
      have c0 := hc j hlt 0 (by omega)
      rw [Nat.add_zero, hnv0] at c0
      rw [← hl0, ← hl1] at e1
      have HE1 : Hid (RV w (C j 1) (marks (kj + l0) l1)) := e1
      obtain ⟨na1, nc1, hnv1⟩ := shape_Pa e1
      rw [marks_len] at hnv1
      have HNV1 : Hid (C j 1 = .slice na1 l1 nc1) := hnv1
      have c1 := hc j hlt 1 (by omega)
      rw [hnv1] at c1
      clear hc hs HLEN hl0 hnv0 hl1 hnv1 e0 e1
      go_wp2_with fail
      refine (heldV (.slice na0 l0 nc0) l0 (kj) _ (by rw [← HNV0.out]; exact HE0.out) (by omega) (by omega) (by omega)).mono ?_
      rintro e wX ⟨rfl, rfl⟩
      have hneg0 : ¬ (kj + l0 < 0) := by omega
      go_wp2_with fail
      refine (heldV (.slice na1 l1 nc1) l1 (kj + l0) _ (by rw [← HNV1.out]; exact HE1.out) (by omega) (by omega) (by omega)).mono ?_
      rintro e wX ⟨rfl, rfl⟩
      have hneg1 : ¬ (kj + l0 + l1 < 0) := by omega
      go_wp2
      go_round
      case rel => exact ⟨j + 1, by omega, by go_num, _, rfl, by show _ = _; rw [HKN.out, ← HNL0.out, ← HNL1.out] <;> omega⟩
      case measure => simp [intOf]; omega
    · have hjn : j = n := by omega
      subst hjn
      go_wp2
      go_ret
      exact ⟨by rw [show kj = kPa k cs j from hkj.out]; rfl, rfl⟩

end Go.Proofs.Ytollbjbgncjkoaa
