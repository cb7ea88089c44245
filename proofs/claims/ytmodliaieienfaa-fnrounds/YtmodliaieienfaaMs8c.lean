
/- The specification's l10say: what is said of a member that is not there. -/
import Derived.Test.YtmodliaieienfaaMs8a
import Derived.Deep.RegionWith
namespace Go.Proofs.Ytmodliaieienfaa
open Go.RowKit

theorem nil_mems (w : World) (g : Nat) : VMem w (.slice (some ⟨g, 0, none⟩) 0 0) [] := ⟨fun _ _ => .bool true, ⟨_, 0, rfl, Nat.le_refl _, Nat.zero_le _, fun h => absurd h (by simp)⟩, fun i r hr => by simp at hr⟩

set_option maxRecDepth 20000 in
set_option maxHeartbeats 4000000 in
theorem sSay_none (gt base g cap n : Nat) (T : DTab) (m : DMem) (w : World) (hb : w.heap[gt]? = some (.cells #[.int .i64 T.self, .slice (some ⟨g, 0, none⟩) n cap] 28 (0, 0))) (ho : OwMem w base (.slice (some ⟨g, 0, none⟩) n cap) T.mems) (hn : n = T.mems.length) (hl : n ≤ 1000000) (hp : placeM T.mems m.id = -1) (_hne : g ≠ gt) (hbs : base ≤ w.heap.size) (hc : n ≤ cap) (hcm : cap ≤ maxLen) :
    Calls Try.prog 41 #[.pointer (some ⟨gt, 0, none⟩), .agg #[.int .i64 m.id, .int .i64 m.st, .int .i64 m.life]] w fun e w' => e = .returned (.bool true) ∧ ∃ tv, w'.heap[gt]? = some (.cells #[.int .i64 T.self, tv] 28 (0, 0)) ∧ OwMem w' base tv (insD T m).mems ∧ SayW gt (some g) w w' := by
  have hE : ∀ w : World, ∀ o, Ext w (w.alloc o) := fun w o => World.grownBy_alloc _ _ _
  have HNN : Hid (n = T.mems.length) := hn
  have HCM : Hid (cap ≤ maxLen) := hcm
  have hml2 : (n : Int) ≤ 1000000 := by omega
  have hcap : cap ≤ 9223372036854775807 := by unfold maxLen at hcm; omega
  clear hn hcm
  go_enter Try.func41, Try.ntmps41
  go_wp2_with fail
  have PM := heap_alloc_new w (.cells #[.int .i64 m.id, .int .i64 m.st, .int .i64 m.life] 40 (0, 0))
  have X0 := hE w (.cells #[.int .i64 m.id, .int .i64 m.st, .int .i64 m.life] 40 (0, 0))
  generalize w.alloc (.cells #[.int .i64 m.id, .int .i64 m.st, .int .i64 m.life] 40 (0, 0)) = W at PM X0 ⊢
  have HV : Hid (VTab W (.agg #[.int .i64 T.self, .slice (some ⟨g, 0, none⟩) n cap]) T) := ⟨_, rfl, ho.v.ext X0⟩
  have HF : Hid (∀ W', Ext W W' → Calls Try.prog 18 #[.agg #[.int .i64 T.self, .slice (some ⟨g, 0, none⟩) n cap], .int .i64 m.id] W' fun e w' => e = .returned (.int .i64 (-1)) ∧ Below W'.heap.size W' w') := fun W' e => by rw [← hp]; exact sFindV _ T m.id W' (HV.out.ext e) (by have := HNN.out; omega)
  have HBX : Hid (w.heap[gt]? = some (.cells #[.int .i64 T.self, .slice (some ⟨g, 0, none⟩) n cap] 28 (0, 0))) := hb
  have sM : w.heap.size < W.heap.size := (Array.getElem?_eq_some_iff.1 PM).1
  have sT : gt < w.heap.size := (Array.getElem?_eq_some_iff.1 hb).1
  have sG : g < w.heap.size := (ho.lt g (by simp [Value.ownBlock])).2
  obtain ⟨q0, q1⟩ := two_cells (ext_blk X0 hb)
  have m0 := (at_block PM 0 _ rfl).1
  have q0w := bw_cell q0
  have q1w := bw_cell q1
  have m0w := bw_cell m0
  have nonV := bw_ne W
  refine wp_region_bw (by kernel_rfl) (by kernel_rfl) ?_
  repeat (go_big_quiet_step ((go_at_call 18; exact bw_below (HF.out _ (bw_ext _)))))
  refine wpQuiet_nil ?_
  intro _ hw'
  obtain ⟨z, hw''⟩ := hw'
  subst hw''
  have X1 : Ext w z.u := X0.tr (bw_ext z)
  have PM1 := ext_blk (bw_ext z) PM
  have HO1 : Hid (OwMem z.u base (.slice (some ⟨g, 0, none⟩) n cap) T.mems) := ho.ext X1
  generalize z.u = w1 at X1 PM1 HO1 ⊢
  clear q0 q1 m0 q0w q1w m0w nonV HF HV PM z X0 ho hb hp
  have PT1 := ext_blk X1 HBX.out
  obtain ⟨q0, q1⟩ := two_cells PT1
  have m0 := (at_block PM1 0 _ rfl).1
  go_wp2
  go_loopw [6] (fun i wr => ∃ k q : Nat, k ≤ n ∧ i = .int .i64 k ∧ wr = w1.drewN q ∧ Hid (∀ (j : Nat) u, j < k → T.mems[j]? = some u → u.id < m.id)) (fun i _ => n - (intOf i).toNat)
  case atStart => exact ⟨0, 0, Nat.zero_le _, rfl, rfl, fun j u hj => absurd hj (by omega)⟩
  case round =>
    obtain ⟨k, q, hk, rfl, rfl, hall⟩ := hrel
    by_cases hlt : k < n
    · obtain ⟨s, hs⟩ : ∃ s, T.mems[k]? = some s := ⟨_, List.getElem?_eq_getElem (by have := HNN.out; omega)⟩
      obtain ⟨c0, c1, c2, _⟩ := HO1.out.cells HNN.out hs
      have hlt' : (k : Int) < (n : Int) := by omega
      clear c1 c2
      cases hd : decide (s.id < m.id)
      · have HK : Hid (insK T.mems m.id = k) := insK_at (fun j u hj hu => hall.out j u hj hu) (.inr ⟨s, hs, of_decide_eq_false hd⟩) (by have := HNN.out; omega)
        go_wp2_with fail
        go_quiet (fail)
        have HPRE : Hid (∀ q, VMem (w1.drewN q) (.slice (some ⟨g, 0, none⟩) k cap) (T.mems.take k)) := fun q => (HO1.out.ext (ext_drewN w1 q)).pre HNN.out k hk hc HCM.out
        have HLK : Hid ((T.mems.take k).length = k ∧ (T.mems.drop k).length = n - k) := ⟨by have := HNN.out; rw [List.length_take]; omega, by have := HNN.out; rw [List.length_drop]; omega⟩
        have HINS : Hid ([] ++ T.mems.take k ++ [m] ++ T.mems.drop k = (insD T m).mems) := by show _ = _; unfold insD; rw [HK.out]; simp
        have HA1 : Hid (∀ (q : Nat) (v3 : Value) (w3 : World), OwMem w3 w.heap.size v3 ([] ++ T.mems.take k) → (w1.drewN q).grownBy w3 (Value.slice none 0 0).ownBlock → Ext w1 w3 ∧ w3.cell? ⟨w.heap.size, 0, none⟩ = some (.int .i64 m.id) ∧ w3.cell? ⟨w.heap.size, 1, none⟩ = some (.int .i64 m.st) ∧ w3.cell? ⟨w.heap.size, 2, none⟩ = some (.int .i64 m.life)) := fun q v3 w3 _ g3 => by
          have X3 : Ext w1 w3 := Ext.tr (ext_drewN w1 q) g3
          have P := ext_blk X3 PM1
          exact ⟨X3, (at_block P 0 _ rfl).1, (at_block P 1 _ rfl).1, (at_block P 2 _ rfl).1⟩
        have HA2 : Hid (∀ (v3 : Value) (w3 : World) (v4 : Value) (w4 : World), Ext w1 w3 → OwMem w3 w.heap.size v3 ([] ++ T.mems.take k) → (w3.alloc (.cells #[.int .i64 m.id, .int .i64 m.st, .int .i64 m.life] 40 (0, 0))).grownBy w4 v3.ownBlock → OwMem w4 w.heap.size v4 ([] ++ T.mems.take k ++ [m]) → w4.heap[gt]? = some (.cells #[.int .i64 T.self, .slice (some ⟨g, 0, none⟩) n cap] 28 (0, 0)) ∧ OwMem w4 base (.slice (some ⟨g, 0, none⟩) n cap) T.mems ∧ SayW gt (some g) w w4 ∧ w4.cell? ⟨gt, 1, none⟩ = some (.slice (some ⟨g, 0, none⟩) n cap) ∧ w.heap.size ≤ w4.heap.size) := fun v3 w3 v4 w4 X3 o3 g4 _ => by
          have XA : Ext w1 (w3.alloc (.cells #[.int .i64 m.id, .int .i64 m.st, .int .i64 m.life] 40 (0, 0))) := X3.tr (hE _ _)
          have PA := ext_blk XA PT1
          have nb : ∀ b, b < w.heap.size → some b ≠ v3.ownBlock := fun b hb e => by have := (o3.lt b e.symm).1; omega
          have P4 := (g4.block gt (Array.getElem?_eq_some_iff.1 PA).1 (nb gt sT)).trans PA
          refine ⟨P4, (HO1.out.ext XA).keep g4 (.inr (by simp only [Value.ownBlock]; exact nb g sG)), (SayW.ext (X1.tr XA)).grown g4 (fun b hb => .inr (.inr (o3.lt b hb).1)), (at_block P4 1 _ rfl).1, ?_⟩
          have := X1.size
          have := XA.size
          have := g4.size
          omega
        have HA3 : Hid (∀ (v4 : Value) (w4 : World) (v5 : Value) (w5 : World), w4.heap[gt]? = some (.cells #[.int .i64 T.self, .slice (some ⟨g, 0, none⟩) n cap] 28 (0, 0)) → SayW gt (some g) w w4 → OwMem w4 w.heap.size v4 ([] ++ T.mems.take k ++ [m]) → w4.grownBy w5 v4.ownBlock → OwMem w5 w.heap.size v5 ([] ++ T.mems.take k ++ [m] ++ T.mems.drop k) → ∃ a5 l5 c5, v5 = .slice a5 l5 c5 ∧ w5.heap[gt]? = some (.cells #[.int .i64 T.self, .slice (some ⟨g, 0, none⟩) n cap] 28 (0, 0)) ∧ w5.cell? ⟨gt, 1, none⟩ = some (.slice (some ⟨g, 0, none⟩) n cap) ∧ w5.frozen? ⟨gt, 1, none⟩ = false ∧ OwMem w5 w.heap.size v5 (insD T m).mems ∧ SayW gt (some g) w w5) := fun v4 w4 v5 w5 P4 S4 o4 g5 o5 => by
          have nb : ∀ b, b < w.heap.size → some b ≠ v4.ownBlock := fun b hb e => by have := (o4.lt b e.symm).1; omega
          have P5 := (g5.block gt (Array.getElem?_eq_some_iff.1 P4).1 (nb gt sT)).trans P4
          obtain ⟨a5, c5, h5⟩ := o5.v.shape
          rw [HINS.out] at o5
          exact ⟨a5, _, c5, h5, P5, (at_block P5 1 _ rfl).1, (at_block P5 1 _ rfl).2, o5, S4.grown g5 (fun b hb => .inr (.inr (o4.lt b hb).1))⟩
        have HFIN : Hid (∀ (w5 : World) (v5 : Value), w5.heap[gt]? = some (.cells #[.int .i64 T.self, .slice (some ⟨g, 0, none⟩) n cap] 28 (0, 0)) → OwMem w5 w.heap.size v5 (insD T m).mems → SayW gt (some g) w w5 → ∃ tv, (w5.setCell ⟨gt, 1, none⟩ v5).heap[gt]? = some (.cells #[.int .i64 T.self, tv] 28 (0, 0)) ∧ OwMem (w5.setCell ⟨gt, 1, none⟩ v5) base tv (insD T m).mems ∧ SayW gt (some g) w (w5.setCell ⟨gt, 1, none⟩ v5)) := fun w5 v5 P5 O5 S5 => by
          have nb : v5.ownBlock = none ∨ v5.ownBlock ≠ some gt := by
            cases hv : v5.ownBlock with
            | none => exact .inl rfl
            | some b => exact .inr (by have := (O5.lt b hv).1; simp; omega)
          exact ⟨v5, set_block P5 1 v5, OwMem.base (O5.keep (set_grown _ _ _ _) nb) hbs, S5.grown (set_grown _ _ _ _) (fun b hb => .inl (by cases hb; rfl))⟩
        have hk2 : k ≤ 1000000 := by omega
        have hce : ¬ k = cap := by omega
        have hce' : ¬ cap ≤ k := by omega
        as_aux_lemma =>
          go_wp2_with (first
            | (at_builtin; refine wpList_append_Mem _ rfl (.tmp 51) (.tmp 57) 26 Try.underlying26 rfl w.heap.size v4 ([] ++ T.mems.take k ++ [m]) rfl O4.out (some ⟨g, k * 3, none⟩) (n - k) (cap - k) (T.mems.drop k) rfl (R4.out.suf HNN.out k hk hc HCM.out) (by have := HLK.out; have := HNN.out; simp; omega) y5 ?_; intro v5 w5 o5 g5 _; obtain ⟨a5, l5, c5, hv5, P5, u1, f1, O5, S5⟩ := HA3.out v4 w4 v5 w5 P4.out S4.out O4.out g5 o5; subst hv5; have HP5 : Hid (w5.heap[gt]? = some (.cells #[.int .i64 T.self, .slice (some ⟨g, 0, none⟩) n cap] 28 (0, 0))) := P5; have HO5 : Hid (OwMem w5 w.heap.size (.slice a5 l5 c5) (insD T m).mems) := O5; have HS5 : Hid (SayW gt (some g) w w5) := S5; clear P5 O5 S5 o5 g5)
            | (at_builtin; refine wpList_append_Mem _ rfl (.tmp 46) (.tmp 48) 26 Try.underlying26 rfl w.heap.size v3 ([] ++ T.mems.take k) rfl (O3.out.ext (hE _ _)) (some ⟨w3.heap.size, 0, none⟩) 1 1 [m] rfl (VMem.one w3 m) (by have := HLK.out; simp; omega) (by have := X3.out.size; have := X1.size; simp; omega) ?_; intro v4 w4 o4 g4 _; obtain ⟨p4, r4, s4, y1, y5⟩ := HA2.out v3 w3 v4 w4 X3.out O3.out g4 o4; have P4 : Hid (w4.heap[gt]? = some (.cells #[.int .i64 T.self, .slice (some ⟨g, 0, none⟩) n cap] 28 (0, 0))) := p4; have R4 : Hid (OwMem w4 base (.slice (some ⟨g, 0, none⟩) n cap) T.mems) := r4; have S4 : Hid (SayW gt (some g) w w4) := s4; have O4 : Hid (OwMem w4 w.heap.size v4 ([] ++ T.mems.take k ++ [m])) := o4; clear p4 r4 s4 o4 g4)
            | (at_builtin; refine wpList_append_Mem _ rfl (.tmp 38) (.tmp 44) 26 Try.underlying26 rfl w.heap.size (.slice none 0 0) [] rfl (OwMem.nil _ _) (some ⟨g, 0, none⟩) k cap (T.mems.take k) rfl (HPRE.out _) (by have := HLK.out; simp; omega) (by have := X1.size; show w.heap.size ≤ w1.heap.size; omega) ?_; intro v3 w3 o3 g3 _; obtain ⟨x3, n0, n1, n2⟩ := HA1.out _ v3 w3 o3 g3; have X3 : Hid (Ext w1 w3) := x3; have O3 : Hid (OwMem w3 w.heap.size v3 ([] ++ T.mems.take k)) := o3; obtain ⟨q0', q1'⟩ := two_cells (ext_blk x3 PT1); clear x3 o3 g3))
          go_ret
          exact ⟨rfl, HFIN.out w5 _ HP5.out HO5.out HS5.out⟩
      · have HA : Hid (∀ (j : Nat) u, j < k + 1 → T.mems[j]? = some u → u.id < m.id) := fun j u hj hu => by
          by_cases ej : j = k
          · subst ej
            rw [hs] at hu
            cases hu
            exact of_decide_eq_true hd
          · exact hall.out j u (by omega) hu
        go_wp2_with fail
        go_quiet (fail)
        go_wp2
        go_roundw
        case rel => exact ⟨k + 1, _, by omega, by go_num, by first | rfl | exact World.drewN_drewN _ _ _, HA⟩
        case measure => simp [intOf]; omega
    · have hkn : k = n := by omega
      have HK : Hid (insK T.mems m.id = k) := insK_at (fun j u hj hu => hall.out j u hj hu) (.inl (by have := HNN.out; omega)) (by have := HNN.out; omega)
      have hnl : ¬ ((k : Int) < (n : Int)) := by omega
      have hnd : decide ((k : Int) < (n : Int)) = false := decide_eq_false hnl
      clear hkn
      go_wp2_with fail
      go_quiet (fail)
      have HPRE : Hid (∀ q, VMem (w1.drewN q) (.slice (some ⟨g, 0, none⟩) k cap) (T.mems.take k)) := fun q => (HO1.out.ext (ext_drewN w1 q)).pre HNN.out k hk hc HCM.out
      have HLK : Hid ((T.mems.take k).length = k ∧ (T.mems.drop k).length = n - k) := ⟨by have := HNN.out; rw [List.length_take]; omega, by have := HNN.out; rw [List.length_drop]; omega⟩
      have HINS : Hid ([] ++ T.mems.take k ++ [m] ++ T.mems.drop k = (insD T m).mems) := by show _ = _; unfold insD; rw [HK.out]; simp
      have HA1 : Hid (∀ (q : Nat) (v3 : Value) (w3 : World), OwMem w3 w.heap.size v3 ([] ++ T.mems.take k) → (w1.drewN q).grownBy w3 (Value.slice none 0 0).ownBlock → Ext w1 w3 ∧ w3.cell? ⟨w.heap.size, 0, none⟩ = some (.int .i64 m.id) ∧ w3.cell? ⟨w.heap.size, 1, none⟩ = some (.int .i64 m.st) ∧ w3.cell? ⟨w.heap.size, 2, none⟩ = some (.int .i64 m.life)) := fun q v3 w3 _ g3 => by
        have X3 : Ext w1 w3 := Ext.tr (ext_drewN w1 q) g3
        have P := ext_blk X3 PM1
        exact ⟨X3, (at_block P 0 _ rfl).1, (at_block P 1 _ rfl).1, (at_block P 2 _ rfl).1⟩
      have HA2 : Hid (∀ (v3 : Value) (w3 : World) (v4 : Value) (w4 : World), Ext w1 w3 → OwMem w3 w.heap.size v3 ([] ++ T.mems.take k) → (w3.alloc (.cells #[.int .i64 m.id, .int .i64 m.st, .int .i64 m.life] 40 (0, 0))).grownBy w4 v3.ownBlock → OwMem w4 w.heap.size v4 ([] ++ T.mems.take k ++ [m]) → w4.heap[gt]? = some (.cells #[.int .i64 T.self, .slice (some ⟨g, 0, none⟩) n cap] 28 (0, 0)) ∧ OwMem w4 base (.slice (some ⟨g, 0, none⟩) n cap) T.mems ∧ SayW gt (some g) w w4 ∧ w4.cell? ⟨gt, 1, none⟩ = some (.slice (some ⟨g, 0, none⟩) n cap) ∧ w.heap.size ≤ w4.heap.size) := fun v3 w3 v4 w4 X3 o3 g4 _ => by
        have XA : Ext w1 (w3.alloc (.cells #[.int .i64 m.id, .int .i64 m.st, .int .i64 m.life] 40 (0, 0))) := X3.tr (hE _ _)
        have PA := ext_blk XA PT1
        have nb : ∀ b, b < w.heap.size → some b ≠ v3.ownBlock := fun b hb e => by have := (o3.lt b e.symm).1; omega
        have P4 := (g4.block gt (Array.getElem?_eq_some_iff.1 PA).1 (nb gt sT)).trans PA
        refine ⟨P4, (HO1.out.ext XA).keep g4 (.inr (by simp only [Value.ownBlock]; exact nb g sG)), (SayW.ext (X1.tr XA)).grown g4 (fun b hb => .inr (.inr (o3.lt b hb).1)), (at_block P4 1 _ rfl).1, ?_⟩
        have := X1.size
        have := XA.size
        have := g4.size
        omega
      have HA3 : Hid (∀ (v4 : Value) (w4 : World) (v5 : Value) (w5 : World), w4.heap[gt]? = some (.cells #[.int .i64 T.self, .slice (some ⟨g, 0, none⟩) n cap] 28 (0, 0)) → SayW gt (some g) w w4 → OwMem w4 w.heap.size v4 ([] ++ T.mems.take k ++ [m]) → w4.grownBy w5 v4.ownBlock → OwMem w5 w.heap.size v5 ([] ++ T.mems.take k ++ [m] ++ T.mems.drop k) → ∃ a5 l5 c5, v5 = .slice a5 l5 c5 ∧ w5.heap[gt]? = some (.cells #[.int .i64 T.self, .slice (some ⟨g, 0, none⟩) n cap] 28 (0, 0)) ∧ w5.cell? ⟨gt, 1, none⟩ = some (.slice (some ⟨g, 0, none⟩) n cap) ∧ w5.frozen? ⟨gt, 1, none⟩ = false ∧ OwMem w5 w.heap.size v5 (insD T m).mems ∧ SayW gt (some g) w w5) := fun v4 w4 v5 w5 P4 S4 o4 g5 o5 => by
        have nb : ∀ b, b < w.heap.size → some b ≠ v4.ownBlock := fun b hb e => by have := (o4.lt b e.symm).1; omega
        have P5 := (g5.block gt (Array.getElem?_eq_some_iff.1 P4).1 (nb gt sT)).trans P4
        obtain ⟨a5, c5, h5⟩ := o5.v.shape
        rw [HINS.out] at o5
        exact ⟨a5, _, c5, h5, P5, (at_block P5 1 _ rfl).1, (at_block P5 1 _ rfl).2, o5, S4.grown g5 (fun b hb => .inr (.inr (o4.lt b hb).1))⟩
      have HFIN : Hid (∀ (w5 : World) (v5 : Value), w5.heap[gt]? = some (.cells #[.int .i64 T.self, .slice (some ⟨g, 0, none⟩) n cap] 28 (0, 0)) → OwMem w5 w.heap.size v5 (insD T m).mems → SayW gt (some g) w w5 → ∃ tv, (w5.setCell ⟨gt, 1, none⟩ v5).heap[gt]? = some (.cells #[.int .i64 T.self, tv] 28 (0, 0)) ∧ OwMem (w5.setCell ⟨gt, 1, none⟩ v5) base tv (insD T m).mems ∧ SayW gt (some g) w (w5.setCell ⟨gt, 1, none⟩ v5)) := fun w5 v5 P5 O5 S5 => by
        have nb : v5.ownBlock = none ∨ v5.ownBlock ≠ some gt := by
          cases hv : v5.ownBlock with
          | none => exact .inl rfl
          | some b => exact .inr (by have := (O5.lt b hv).1; simp; omega)
        exact ⟨v5, set_block P5 1 v5, OwMem.base (O5.keep (set_grown _ _ _ _) nb) hbs, S5.grown (set_grown _ _ _ _) (fun b hb => .inl (by cases hb; rfl))⟩
      have hk2 : k ≤ 1000000 := by omega
      by_cases hce : k = cap
      · have HD : Hid (T.mems.drop k = []) := by show _ = _; rw [List.drop_of_length_le]; have := HNN.out; omega
        obtain rfl : n = k := by omega
        subst hce
        as_aux_lemma =>
          go_wp2_with (first
            | (at_builtin; refine wpList_append_Mem _ rfl (.tmp 51) (.tmp 57) 26 Try.underlying26 rfl w.heap.size v4 ([] ++ T.mems.take n ++ [m]) rfl O4.out (some ⟨g, 0, none⟩) (0) (0) (T.mems.drop n) rfl (by rw [HD.out]; exact nil_mems w4 g) (by have := HLK.out; have := HNN.out; simp; omega) y5 ?_; intro v5 w5 o5 g5 _; obtain ⟨a5, l5, c5, hv5, P5, u1, f1, O5, S5⟩ := HA3.out v4 w4 v5 w5 P4.out S4.out O4.out g5 o5; subst hv5; have HP5 : Hid (w5.heap[gt]? = some (.cells #[.int .i64 T.self, .slice (some ⟨g, 0, none⟩) n n] 28 (0, 0))) := P5; have HO5 : Hid (OwMem w5 w.heap.size (.slice a5 l5 c5) (insD T m).mems) := O5; have HS5 : Hid (SayW gt (some g) w w5) := S5; clear P5 O5 S5 o5 g5)
            | (at_builtin; refine wpList_append_Mem _ rfl (.tmp 46) (.tmp 48) 26 Try.underlying26 rfl w.heap.size v3 ([] ++ T.mems.take n) rfl (O3.out.ext (hE _ _)) (some ⟨w3.heap.size, 0, none⟩) 1 1 [m] rfl (VMem.one w3 m) (by have := HLK.out; simp; omega) (by have := X3.out.size; have := X1.size; simp; omega) ?_; intro v4 w4 o4 g4 _; obtain ⟨p4, r4, s4, y1, y5⟩ := HA2.out v3 w3 v4 w4 X3.out O3.out g4 o4; have P4 : Hid (w4.heap[gt]? = some (.cells #[.int .i64 T.self, .slice (some ⟨g, 0, none⟩) n n] 28 (0, 0))) := p4; have R4 : Hid (OwMem w4 base (.slice (some ⟨g, 0, none⟩) n n) T.mems) := r4; have S4 : Hid (SayW gt (some g) w w4) := s4; have O4 : Hid (OwMem w4 w.heap.size v4 ([] ++ T.mems.take n ++ [m])) := o4; clear p4 r4 s4 o4 g4)
            | (at_builtin; refine wpList_append_Mem _ rfl (.tmp 38) (.tmp 44) 26 Try.underlying26 rfl w.heap.size (.slice none 0 0) [] rfl (OwMem.nil _ _) (some ⟨g, 0, none⟩) n n (T.mems.take n) rfl (HPRE.out _) (by have := HLK.out; simp; omega) (by have := X1.size; show w.heap.size ≤ w1.heap.size; omega) ?_; intro v3 w3 o3 g3 _; obtain ⟨x3, n0, n1, n2⟩ := HA1.out _ v3 w3 o3 g3; have X3 : Hid (Ext w1 w3) := x3; have O3 : Hid (OwMem w3 w.heap.size v3 ([] ++ T.mems.take n)) := o3; obtain ⟨q0', q1'⟩ := two_cells (ext_blk x3 PT1); clear x3 o3 g3))
          go_ret
          exact ⟨rfl, HFIN.out w5 _ HP5.out HO5.out HS5.out⟩
      · have hce' : ¬ cap ≤ k := by omega
        as_aux_lemma =>
          go_wp2_with (first
            | (at_builtin; refine wpList_append_Mem _ rfl (.tmp 51) (.tmp 57) 26 Try.underlying26 rfl w.heap.size v4 ([] ++ T.mems.take k ++ [m]) rfl O4.out (some ⟨g, k * 3, none⟩) (n - k) (cap - k) (T.mems.drop k) rfl (R4.out.suf HNN.out k hk hc HCM.out) (by have := HLK.out; have := HNN.out; simp; omega) y5 ?_; intro v5 w5 o5 g5 _; obtain ⟨a5, l5, c5, hv5, P5, u1, f1, O5, S5⟩ := HA3.out v4 w4 v5 w5 P4.out S4.out O4.out g5 o5; subst hv5; have HP5 : Hid (w5.heap[gt]? = some (.cells #[.int .i64 T.self, .slice (some ⟨g, 0, none⟩) n cap] 28 (0, 0))) := P5; have HO5 : Hid (OwMem w5 w.heap.size (.slice a5 l5 c5) (insD T m).mems) := O5; have HS5 : Hid (SayW gt (some g) w w5) := S5; clear P5 O5 S5 o5 g5)
            | (at_builtin; refine wpList_append_Mem _ rfl (.tmp 46) (.tmp 48) 26 Try.underlying26 rfl w.heap.size v3 ([] ++ T.mems.take k) rfl (O3.out.ext (hE _ _)) (some ⟨w3.heap.size, 0, none⟩) 1 1 [m] rfl (VMem.one w3 m) (by have := HLK.out; simp; omega) (by have := X3.out.size; have := X1.size; simp; omega) ?_; intro v4 w4 o4 g4 _; obtain ⟨p4, r4, s4, y1, y5⟩ := HA2.out v3 w3 v4 w4 X3.out O3.out g4 o4; have P4 : Hid (w4.heap[gt]? = some (.cells #[.int .i64 T.self, .slice (some ⟨g, 0, none⟩) n cap] 28 (0, 0))) := p4; have R4 : Hid (OwMem w4 base (.slice (some ⟨g, 0, none⟩) n cap) T.mems) := r4; have S4 : Hid (SayW gt (some g) w w4) := s4; have O4 : Hid (OwMem w4 w.heap.size v4 ([] ++ T.mems.take k ++ [m])) := o4; clear p4 r4 s4 o4 g4)
            | (at_builtin; refine wpList_append_Mem _ rfl (.tmp 38) (.tmp 44) 26 Try.underlying26 rfl w.heap.size (.slice none 0 0) [] rfl (OwMem.nil _ _) (some ⟨g, 0, none⟩) k cap (T.mems.take k) rfl (HPRE.out _) (by have := HLK.out; simp; omega) (by have := X1.size; show w.heap.size ≤ w1.heap.size; omega) ?_; intro v3 w3 o3 g3 _; obtain ⟨x3, n0, n1, n2⟩ := HA1.out _ v3 w3 o3 g3; have X3 : Hid (Ext w1 w3) := x3; have O3 : Hid (OwMem w3 w.heap.size v3 ([] ++ T.mems.take k)) := o3; obtain ⟨q0', q1'⟩ := two_cells (ext_blk x3 PT1); clear x3 o3 g3))
          go_ret
          exact ⟨rfl, HFIN.out w5 _ HP5.out HO5.out HS5.out⟩

end Go.Proofs.Ytmodliaieienfaa
