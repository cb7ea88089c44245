/- A server that fell: what it owns; its marks, laid and held. -/
import Derived.Test.YtplgnohncdfgcamFb0
import Derived.Test.YtplgnohncdfgcamNn2
namespace Go.Proofs.Ytplgnohncdfgcam
open Go.RowKit

/-- What is left of a server that fell. -/
def fallD (M : DNode) (n : Nat) : DNode := ⟨M.id, M.term, M.vote, M.log, 0, 0, -1, 0, List.replicate n false, List.replicate n 0, List.replicate n 0⟩
/-- v is that server, in memory from lo on. -/
def FalN (lo : Nat) (w : World) (v : Value) (M : DNode) (n : Nat) : Prop := ∃ lv F gb gn gm, v = .agg #[.int .i64 M.id, .int .i64 M.term, .int .i64 M.vote, lv, .int .i64 0, .int .i64 0, .int .i64 (-1), .int .i64 0, .slice (some ⟨gb, 0, none⟩) n n, .slice (some ⟨gn, 0, none⟩) n n, .slice (some ⟨gm, 0, none⟩) n n] ∧ IG lo w lv M.log F ∧ lo ≤ gb ∧ lo ≤ gn ∧ lo ≤ gm ∧ gn ≠ gm ∧ OVL fB 4 w gb (List.replicate n false) ∧ OVL fI 3 w gn (List.replicate n 0) ∧ OVL fI 3 w gm (List.replicate n 0)
theorem FalN.ext {lo : Nat} {w w' : World} {v : Value} {M : DNode} {n : Nat} (h : FalN lo w v M n) (e : Ext w w') : FalN lo w' v M n := by
  obtain ⟨lv, F, gb, gn, gm, hv, h1, h2, h3, h4, h5, h6, h7, h8⟩ := h
  exact ⟨lv, F, gb, gn, gm, hv, h1.ext e, h2, h3, h4, h5, h6.ext e, h7.ext e, h8.ext e⟩
theorem FalN.same {lo : Nat} {w w' : World} {v : Value} {M : DNode} {n : Nat} (h : FalN lo w v M n) (hs : ∀ b, lo ≤ b → b < w.heap.size → w'.heap[b]? = w.heap[b]?) : FalN lo w' v M n := by
  obtain ⟨lv, F, gb, gn, gm, hv, h1, h2, h3, h4, h5, h6, h7, h8⟩ := h
  exact ⟨lv, F, gb, gn, gm, hv, h1.same hs, h2, h3, h4, h5, (hs gb h2 (Array.getElem?_eq_some_iff.1 h6).1).trans h6, (hs gn h3 (Array.getElem?_eq_some_iff.1 h7).1).trans h7, (hs gm h4 (Array.getElem?_eq_some_iff.1 h8).1).trans h8⟩
theorem FalN.v {lo : Nat} {w : World} {v : Value} {M : DNode} {n : Nat} (h : FalN lo w v M n) (hn : n ≤ 5) (hr : ∀ (i : Nat) (s : DItem), M.log[i]? = some s → (∀ x ∈ s.cmd.op.key, 0 ≤ x ∧ x ≤ 255) ∧ (∀ x ∈ s.cmd.op.val, 0 ≤ x ∧ x ≤ 255)) : VNode w v (fallD M n) := by
  obtain ⟨lv, F, gb, gn, gm, rfl, h1, h2, h3, h4, h5, h6, h7, h8⟩ := h
  refine ⟨lv, _, _, _, rfl, h1.v hr, ?_, ?_, ?_⟩
  · have := OVL.v h6 (by simp; omega)
    simpa [fallD] using this
  · have := OVL.v h7 (by simp; omega)
    simpa [fallD] using this
  · have := OVL.v h8 (by simp; omega)
    simpa [fallD] using this

/-- It is marked from 1 on, up to k. -/
def MkF (lo : Nat) (w : World) (v : Value) (M : DNode) (n : Nat) (k : Int) : Prop := ∃ lv gb gn gm, v = .agg #[.int .i64 M.id, .int .i64 M.term, .int .i64 M.vote, lv, .int .i64 0, .int .i64 0, .int .i64 (-1), .int .i64 0, .slice (some ⟨gb, 0, none⟩) n n, .slice (some ⟨gn, 0, none⟩) n n, .slice (some ⟨gm, 0, none⟩) n n] ∧ LogM lo w lv M.log ∧ k = kI 1 M.log M.log.length + n + n + n ∧ OVL fB 4 w gb (mkL (fun x : Int => x % 3 == 0) (kI 1 M.log M.log.length) n) ∧ OVL fI 3 w gn (mkL (fun x : Int => x) (kI 1 M.log M.log.length + n) n) ∧ OVL fI 3 w gm (mkL (fun x : Int => x) (kI 1 M.log M.log.length + n + n) n)
theorem MkF.ext {lo : Nat} {w w' : World} {v : Value} {M : DNode} {n : Nat} {k : Int} (h : MkF lo w v M n k) (e : Ext w w') : MkF lo w' v M n k := by
  obtain ⟨lv, gb, gn, gm, hv, h1, h2, h3, h4, h5⟩ := h
  exact ⟨lv, gb, gn, gm, hv, h1.ext e, h2, h3.ext e, h4.ext e, h5.ext e⟩
/-- Blocks that hold neither bytes, items, bools nor numbers are as they were. -/
def Oth3 (w w' : World) : Prop := ∀ (b : Nat) (cur : Array Value) (t : TypeId), t ≠ 5 → t ≠ 51 → t ≠ 4 → t ≠ 3 → w.heap[b]? = some (.cells cur t (0, 0)) → w'.heap[b]? = some (.cells cur t (0, 0))
theorem Oth3.step {w w1 w2 : World} {x : Nat} {cx : Array Value} {tx : TypeId} (h : Oth3 w w1) (hx : w1.heap[x]? = some (.cells cx tx (0, 0))) (ht : tx = 4 ∨ tx = 3) (hg : w1.grownBy w2 (some x)) : Oth3 w w2 := fun b cur t h5 hI h4 h3 hc => by
  have h1 := h b cur t h5 hI h4 h3 hc
  refine (hg.block b (Array.getElem?_eq_some_iff.1 h1).1 (fun e => ?_)).trans h1
  have e' : b = x := by simpa using e
  subst e'
  rw [h1] at hx
  cases hx
  rcases ht with rfl | rfl
  · exact h4 rfl
  · exact h3 rfl
theorem ovl_oth2 {α : Type} {f : α → Value} {t : TypeId} {w w' : World} {g : Nat} {xs : List α} (h : OVL f t w g xs) (o : Oth2 w w') (h5 : t ≠ 5) (hI : t ≠ 51) : OVL f t w' g xs := o g _ t h5 hI h
theorem ovl_ne {α β : Type} {f : α → Value} {f' : β → Value} {t t' : TypeId} {w : World} {g g' : Nat} {xs : List α} {ys : List β} (h : OVL f t w g xs) (k : OVL f' t' w g' ys) (ht : t ≠ t') : g ≠ g' := fun e => by
  subst e
  unfold OVL at h k
  have e2 := Option.some.inj (h.symm.trans k)
  injection e2 with _ e3
  exact ht e3
theorem ovl_othr {α : Type} {f : α → Value} {t : TypeId} {w w' : World} {g x : Nat} {xs : List α} (h : OVL f t w g xs) (hg : w.grownBy w' (some x)) (hx : g ≠ x) : OVL f t w' g xs := (hg.block g (Array.getElem?_eq_some_iff.1 h).1 (by simp; omega)).trans h
theorem obj_othr {w w' : World} {g x : Nat} {o : Obj} (h : w.heap[g]? = some o) (hg : w.grownBy w' (some x)) (hx : g ≠ x) : w'.heap[g]? = some o := (hg.block g (Array.getElem?_eq_some_iff.1 h).1 (by simp; omega)).trans h

set_option maxRecDepth 20000 in
set_option maxHeartbeats 4000000 in
theorem markFal (lo : Nat) (v : Value) (M : DNode) (n : Nat) (w : World) (h : FalN lo w v M n) (hn : n ≤ 5) (hl : LogL M.log) (hls : lo ≤ w.heap.size) :
    Calls Try.prog 13 #[v, .int .i64 1] w fun e w' => ∃ k : Int, 0 ≤ k ∧ e = .returned (.int .i64 k) ∧ MkF lo w' v M n k ∧ Below lo w w' ∧ Oth3 w w' := by
  have hE : ∀ w : World, ∀ o, Ext w (w.alloc o) := fun w o => World.grownBy_alloc _ _ _
  obtain ⟨lv, F, gb, gn, gm, rfl, hI, h2, h3, h4, h5, o1, o2, o3⟩ := h
  have e1 : gb ≠ gn := ovl_ne o1 o2 (by decide)
  have e2 : gb ≠ gm := ovl_ne o1 o3 (by decide)
  have lb := (Array.getElem?_eq_some_iff.1 o1).1
  have ln := (Array.getElem?_eq_some_iff.1 o2).1
  have lm := (Array.getElem?_eq_some_iff.1 o3).1
  have HI : Hid (IG lo w lv M.log F) := hI
  have HO1 : Hid (OVL fB 4 w gb (List.replicate n false)) := o1
  have HO2 : Hid (OVL fI 3 w gn (List.replicate n 0)) := o2
  have HO3 : Hid (OVL fI 3 w gm (List.replicate n 0)) := o3
  have HL : Hid (LogL M.log) := hl
  have hKb := kI_le 1 M.log M.log.length (Nat.le_refl _)
  have hS : M.log.length * 5 + sI M.log ≤ 50000000 := hl.2.2
  obtain ⟨K, hK⟩ : ∃ K, K = kI 1 M.log M.log.length := ⟨_, rfl⟩
  rw [← hK] at hKb
  have K0 : 0 ≤ K := by omega
  have K1 : K ≤ 60000000 := by omega
  have HK : Hid (kI 1 M.log M.log.length = K) := hK.symm
  clear hI o1 o2 o3 hl hK hKb hS
  go_enter Try.func13, Try.ntmps13
  go_wp2_with fail
  have hbx := heap_alloc_new w (.cells #[.int .i64 M.id, .int .i64 M.term, .int .i64 M.vote, lv, .int .i64 0, .int .i64 0, .int .i64 (-1), .int .i64 0, .slice (some ⟨gb, 0, none⟩) n n, .slice (some ⟨gn, 0, none⟩) n n, .slice (some ⟨gm, 0, none⟩) n n] 31 (0, 0))
  refine (markLog lo lv M.log F _ (HI.out.ext (hE _ _)) HL.out (by simp; omega)).mono ?_
  rw [HK.out]
  rintro e w1 ⟨rfl, L1, b1, q1⟩
  have P1 := q1 w.heap.size _ 31 (by decide) (by decide) hbx
  have D1 : Below lo w w1 := ((Below.refl _ w).alloc hls _).trans b1
  obtain ⟨c8, _⟩ := at_block P1 8 _ rfl
  have N1 : OVL fB 4 w1 gb (List.replicate n false) := ovl_oth2 (HO1.out.ext (hE _ _)) q1 (by decide) (by decide)
  have N2 : OVL fI 3 w1 gn (List.replicate n 0) := ovl_oth2 (HO2.out.ext (hE _ _)) q1 (by decide) (by decide)
  have N3 : OVL fI 3 w1 gm (List.replicate n 0) := ovl_oth2 (HO3.out.ext (hE _ _)) q1 (by decide) (by decide)
  have HT1 : Hid (Oth3 w w1) := fun b cur t h5 hI _ _ hc => q1 b cur t h5 hI ((Below.heap_alloc w _ b (Array.getElem?_eq_some_iff.1 hc).1).trans hc)
  clear q1 b1 hbx
  have m1 := markL_B gb (List.replicate n false) K w1 N1 K0 (by omega) (by simp; omega)
  simp only [List.length_replicate] at m1
  have HM1 : Hid _ := m1
  clear m1
  go_wp2_with fail
  refine Calls.mono HM1.out ?_
  rintro e w2 ⟨rfl, A2, G2⟩
  have s1 := D1.size
  have D2 : Below lo w w2 := D1.grown G2 (by omega) (fun k hk => by have : gb = k := (by simpa using hk); omega)
  have P2 := obj_othr P1 G2 (by omega)
  have L2 := L1.keep G2 N1 (by decide) (by decide)
  have HT2 : Hid (Oth3 w w2) := HT1.out.step N1 (.inl rfl) G2
  obtain ⟨c9, _⟩ := at_block P2 9 _ rfl
  have N2' := ovl_othr N2 G2 (by omega)
  have N3' := ovl_othr N3 G2 (by omega)
  clear c8 P1 N1 N2 N3 D1 G2 L1 HM1
  have m2 := markL_I gn (List.replicate n 0) (K + n) w2 N2' (by omega) (by omega) (by simp; omega)
  simp only [List.length_replicate] at m2
  have HM2 : Hid _ := m2
  clear m2
  go_wp2_with fail
  refine Calls.mono HM2.out ?_
  rintro e w3 ⟨rfl, A3, G3⟩
  have s2 := D2.size
  have D3 : Below lo w w3 := D2.grown G3 (by omega) (fun k hk => by have : gn = k := (by simpa using hk); omega)
  have P3 := obj_othr P2 G3 (by omega)
  have L3 := L2.keep G3 N2' (by decide) (by decide)
  have HT3 : Hid (Oth3 w w3) := HT2.out.step N2' (.inr rfl) G3
  obtain ⟨c10, _⟩ := at_block P3 10 _ rfl
  have N3'' := ovl_othr N3' G3 (by omega)
  have A2' := ovl_othr A2 G3 e1
  clear c9 P2 N2' N3' D2 G3 L2 HM2 A2
  have m3 := markL_I gm (List.replicate n 0) (K + n + n) w3 N3'' (by omega) (by omega) (by simp; omega)
  simp only [List.length_replicate] at m3
  have HM3 : Hid _ := m3
  clear m3
  go_wp2_with fail
  refine Calls.mono HM3.out ?_
  rintro e w4 ⟨rfl, A4, G4⟩
  have s3 := D3.size
  have D4 : Below lo w w4 := D3.grown G4 (by omega) (fun k hk => by have : gm = k := (by simpa using hk); omega)
  have L4 := L3.keep G4 N3'' (by decide) (by decide)
  have HT4 : Hid (Oth3 w w4) := HT3.out.step N3'' (.inr rfl) G4
  have A2'' := ovl_othr A2' G4 e2
  have A3' := ovl_othr A3 G4 h5
  have HR : Hid (MkF lo w4 (.agg #[.int .i64 M.id, .int .i64 M.term, .int .i64 M.vote, lv, .int .i64 0, .int .i64 0, .int .i64 (-1), .int .i64 0, .slice (some ⟨gb, 0, none⟩) n n, .slice (some ⟨gn, 0, none⟩) n n, .slice (some ⟨gm, 0, none⟩) n n]) M n (K + n + n + n)) := ⟨lv, gb, gn, gm, rfl, L4, by rw [HK.out], by rw [HK.out]; exact A2'', by rw [HK.out]; exact A3', by rw [HK.out]; exact A4⟩
  clear c10 P3 N3'' D3 G4 L3 HM3 A2' A3 A4 A2'' A3' L4
  go_wp2
  go_ret
  exact ⟨K + n + n + n, by omega, rfl, HR.out, D4, HT4.out⟩

set_option maxRecDepth 20000 in
set_option maxHeartbeats 4000000 in
theorem heldFal (lo : Nat) (v : Value) (M : DNode) (n : Nat) (k : Int) (w : World) (h : MkF lo w v M n k) (hn : n ≤ 5) (hl : LogL M.log) :
    Calls Try.prog 14 #[v, .int .i64 1] w fun e w' => e = .returned (.int .i64 k) ∧ Below w.heap.size w w' := by
  have hE : ∀ w : World, ∀ o, Ext w (w.alloc o) := fun w o => World.grownBy_alloc _ _ _
  obtain ⟨lv, gb, gn, gm, rfl, L, rfl, o1, o2, o3⟩ := h
  have hKb := kI_le 1 M.log M.log.length (Nat.le_refl _)
  have hS : M.log.length * 5 + sI M.log ≤ 50000000 := hl.2.2
  have HL : Hid (LogL M.log) := hl
  have HLM : Hid (LogM lo w lv M.log) := L
  obtain ⟨K, hK⟩ : ∃ K, K = kI 1 M.log M.log.length := ⟨_, rfl⟩
  rw [← hK] at hKb o1 o2 o3 ⊢
  have K0 : 0 ≤ K := by omega
  have K1 : K ≤ 60000000 := by omega
  have HK : Hid (kI 1 M.log M.log.length = K) := hK.symm
  have HO1 : Hid (OVL fB 4 w gb (mkL (fun x : Int => x % 3 == 0) K n)) := o1
  have HO2 : Hid (OVL fI 3 w gn (mkL (fun x : Int => x) (K + n) n)) := o2
  have HO3 : Hid (OVL fI 3 w gm (mkL (fun x : Int => x) (K + n + n) n)) := o3
  clear L o1 o2 o3 hl hK hKb hS
  go_enter Try.func14, Try.ntmps14
  go_wp2_with fail
  have hbx := heap_alloc_new w (.cells #[.int .i64 M.id, .int .i64 M.term, .int .i64 M.vote, lv, .int .i64 0, .int .i64 0, .int .i64 (-1), .int .i64 0, .slice (some ⟨gb, 0, none⟩) n n, .slice (some ⟨gn, 0, none⟩) n n, .slice (some ⟨gm, 0, none⟩) n n] 31 (0, 0))
  have X0 := hE w (.cells #[.int .i64 M.id, .int .i64 M.term, .int .i64 M.vote, lv, .int .i64 0, .int .i64 0, .int .i64 (-1), .int .i64 0, .slice (some ⟨gb, 0, none⟩) n n, .slice (some ⟨gn, 0, none⟩) n n, .slice (some ⟨gm, 0, none⟩) n n] 31 (0, 0))
  have B0 : Below w.heap.size w (w.alloc (.cells #[.int .i64 M.id, .int .i64 M.term, .int .i64 M.vote, lv, .int .i64 0, .int .i64 0, .int .i64 (-1), .int .i64 0, .slice (some ⟨gb, 0, none⟩) n n, .slice (some ⟨gn, 0, none⟩) n n, .slice (some ⟨gm, 0, none⟩) n n] 31 (0, 0))) := (Below.refl _ w).alloc (Nat.le_refl _) _
  generalize w.alloc (.cells #[.int .i64 M.id, .int .i64 M.term, .int .i64 M.vote, lv, .int .i64 0, .int .i64 0, .int .i64 (-1), .int .i64 0, .slice (some ⟨gb, 0, none⟩) n n, .slice (some ⟨gn, 0, none⟩) n n, .slice (some ⟨gm, 0, none⟩) n n] 31 (0, 0)) = V at hbx X0 B0 ⊢
  refine (heldLog lo lv M.log _ (HLM.out.ext X0) HL.out).mono ?_
  rw [HK.out]
  rintro e w1 ⟨rfl, q1, rfl⟩
  have P1 : ∀ q, (V.drewN q).heap[w.heap.size]? = some (.cells #[.int .i64 M.id, .int .i64 M.term, .int .i64 M.vote, lv, .int .i64 0, .int .i64 0, .int .i64 (-1), .int .i64 0, .slice (some ⟨gb, 0, none⟩) n n, .slice (some ⟨gn, 0, none⟩) n n, .slice (some ⟨gm, 0, none⟩) n n] 31 (0, 0)) := fun q => hbx
  have c8 : ∀ q, (V.drewN q).cell? ⟨w.heap.size, 8, none⟩ = some _ := fun q => (at_block (P1 q) 8 _ rfl).1
  have c9 : ∀ q, (V.drewN q).cell? ⟨w.heap.size, 9, none⟩ = some _ := fun q => (at_block (P1 q) 9 _ rfl).1
  have c10 : ∀ q, (V.drewN q).cell? ⟨w.heap.size, 10, none⟩ = some _ := fun q => (at_block (P1 q) 10 _ rfl).1
  have n0 : ¬ (K < 0) := by omega
  have n1 : ¬ (K + (n : Int) < 0) := by omega
  have n2 : ¬ (K + (n : Int) + n < 0) := by omega
  have n3 : ¬ (K + (n : Int) + n + n < 0) := by omega
  clear P1
  go_wp2_with fail
  refine (heldL_B gb n K _ ((HO1.out.ext X0).ext (ext_drewN _ _)) K0 (by omega) (by omega)).mono ?_
  rintro e w2 ⟨rfl, q2, rfl⟩
  rw [World.drewN_drewN]
  go_wp2_with fail
  refine (heldL_I gn n (K + n) _ ((HO2.out.ext X0).ext (ext_drewN _ _)) (by omega) (by omega) (by omega)).mono ?_
  rintro e w3 ⟨rfl, q3, rfl⟩
  rw [World.drewN_drewN]
  go_wp2_with fail
  refine (heldL_I gm n (K + n + n) _ ((HO3.out.ext X0).ext (ext_drewN _ _)) (by omega) (by omega) (by omega)).mono ?_
  rintro e w4 ⟨rfl, q4, rfl⟩
  rw [World.drewN_drewN]
  go_wp2
  go_ret
  exact ⟨rfl, below_drewN B0 _⟩

end Go.Proofs.Ytplgnohncdfgcam
