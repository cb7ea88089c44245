
/- Exact marks in a local. -/
import Derived.Test.YtjkhadaoldbceaaMkS
import Derived.Test.YtjkhadaoldbceaaSvL
namespace Go.Proofs.Ytjkhadaoldbceaa
open Go.RowKit

/-- A local's parts are owned, apart from one another, in blocks of S. -/
def OLD (S : Nat → Prop) (w : World) (nv sv : Value) (L : DLoc) : Prop := ∃ N K : Nat → Prop, OwS N w nv L.node ∧ OSD K w sv L.svcs ∧ (∀ b, N b → ¬ K b) ∧ (∀ b, N b → S b) ∧ ∀ b, K b → S b
theorem OLD.keep {S T : Nat → Prop} {w w' : World} {nv sv : Value} {L : DLoc} (h : OLD S w nv sv L) (t : Trn T w w') (d : ∀ b, S b → ¬ T b) : OLD S w' nv sv L := by
  obtain ⟨N, K, h1, h2, h3, h4, h5⟩ := h
  exact ⟨N, K, h1.keep t (fun b hb => d b (h4 b hb)), h2.keep t (fun b hb => d b (h5 b hb)), h3, h4, h5⟩
theorem OLD.ext {S : Nat → Prop} {w w' : World} {nv sv : Value} {L : DLoc} (h : OLD S w nv sv L) (e : Ext w w') : OLD S w' nv sv L := h.keep (T := fun _ => False) (Trn.ext e) (fun _ _ h => h)
theorem OLD.v {S : Nat → Prop} {w : World} {nv sv : Value} {L : DLoc} (h : OLD S w nv sv L) : VLoc w (.agg #[nv, sv]) L := by
  obtain ⟨N, K, h1, h2, _⟩ := h
  exact ⟨nv, sv, rfl, h1.rv, h2.v⟩
/-- A local of marks. -/
def mkLo (k : Int) (L : DLoc) : DLoc := ⟨marks k L.node.length, mixS (k + L.node.length) L.svcs L.svcs.length⟩
def kL (k : Int) (L : DLoc) : Int := kS (k + L.node.length) L.svcs L.svcs.length
/-- A local is short enough for marks. -/
def LenLM (L : DLoc) : Prop := L.node.length ≤ 1048576 ∧ sM L.svcs ≤ 40000000 ∧ L.svcs.length ≤ 20000000 ∧ ∀ (i : Nat) s, L.svcs[i]? = some s → LenM s
theorem kL_pos {k : Int} {L : DLoc} (h : 0 ≤ k) : 0 ≤ kL k L := by
  have := (kS_le (k + L.node.length) L.svcs L.svcs.length).1
  unfold kL
  omega

set_option maxHeartbeats 4000000 in
theorem markLD (S : Nat → Prop) (nv sv : Value) (L : DLoc) (k : Int) (w : World) (h : OLD S w nv sv L) (hl : LenLM L) (hk0 : 0 ≤ k) (hk : k ≤ 1000000) :
    Calls Try.prog 12 #[.agg #[nv, sv], .int .i64 k] w fun e w' => e = .returned (.int .i64 (kL k L)) ∧ OLD S w' nv sv (mkLo k L) ∧ Trn S w w' := by
  have hE : ∀ w : World, ∀ o, Ext w (w.alloc o) := fun w o => World.grownBy_alloc _ _ _
  obtain ⟨N, K, h1, h2, h3, h4, h5⟩ := h
  have HL : Hid (LenLM L) := hl
  have HD : Hid ((∀ b, N b → ¬ K b) ∧ (∀ b, N b → S b) ∧ ∀ b, K b → S b) := ⟨h3, h4, h5⟩
  obtain ⟨na, nc, hnv⟩ := rv_shape h1.rv
  obtain ⟨sa, sc, hsv⟩ := svcs_shape h2.v
  obtain ⟨n, hn⟩ : ∃ n, n = L.node.length := ⟨_, rfl⟩
  obtain ⟨m, hm⟩ : ∃ m, m = L.svcs.length := ⟨_, rfl⟩
  have HN : Hid (n = L.node.length) := hn
  have HKL : Hid (kL k L = kS (k + n) L.svcs L.svcs.length) := by show _ = _; unfold kL; rw [hn]
  rw [← hn] at hnv
  rw [← hm] at hsv
  have hln : n ≤ 1048576 := by rw [hn]; exact hl.1
  subst hnv
  subst hsv
  have H1 : Hid (OwS N w (.slice na n nc) L.node) := h1
  have H2 : Hid (OSD K w (.slice sa m sc) L.svcs) := h2
  clear h1 h2 h3 h4 h5 hl hn hm
  go_enter Try.func12, Try.ntmps12
  go_wp2_with fail
  generalize hV : World.alloc w _ = V
  have XV : Ext w V := by rw [← hV]; exact hE _ _
  have PV : V.heap[w.heap.size]? = some (.cells #[.slice na n nc, .slice sa m sc] 29 (0, 0)) := by rw [← hV]; exact heap_alloc_new w _
  clear hV
  refine (markV 0 (.slice na n nc) L.node k V (H1.out.ext XV).1.1 (by have := HN.out; omega) hk0 (by omega)).mono ?_
  rintro e w1 ⟨rfl, M1, G1⟩
  rw [← HN.out] at M1 ⊢
  have T1 : Trn N V w1 := Trn.one G1 (fun x e => H1.out.2 x e)
  have O1 : OwS N w1 (.slice na n nc) (marks k n) := ⟨⟨M1, marks_rng _ _⟩, H1.out.2⟩
  have O2 : OSD K w1 (.slice sa m sc) L.svcs := (H2.out.ext XV).keep T1 (fun b hb hn => HD.out.1 b hn hb)
  have P1 : w1.heap[w.heap.size]? = some (.cells #[.slice na n nc, .slice sa m sc] 29 (0, 0)) := (G1.block _ (Array.getElem?_eq_some_iff.1 PV).1 (fun e => (H1.out.ext XV).ne PV (by decide) e.symm)).trans PV
  have HT1 : Hid (Trn S w w1) := (Trn.ext XV).trans (T1.mono HD.out.2.1)
  have HO1 : Hid (OwS N w1 (.slice na n nc) (marks k n)) := O1
  have HO2 : Hid (OSD K w1 (.slice sa m sc) L.svcs) := O2
  obtain ⟨p1, _⟩ := at_block P1 1 _ rfl
  clear XV PV P1 M1 G1 T1 O1 O2 H1 H2
  go_wp2_with fail
  refine (markSD K (.slice sa m sc) L.svcs (k + n) w1 HO2.out HL.out.2.2.2 HL.out.2.1 HL.out.2.2.1 (by omega) (by omega)).mono ?_
  rintro e w2 ⟨rfl, M2, T2⟩
  have HF : Hid (OLD S w2 (.slice na n nc) (.slice sa m sc) (mkLo k L) ∧ Trn S w w2) := by
    refine ⟨⟨N, K, ?_, ?_, HD.out.1, HD.out.2.1, HD.out.2.2⟩, HT1.out.trans (T2.mono HD.out.2.2)⟩
    · have := HO1.out.keep T2 HD.out.1
      rw [HN.out] at this
      unfold mkLo
      rw [← HN.out] at this ⊢
      exact this
    · unfold mkLo
      rw [← HN.out]
      exact M2
  clear M2 T2 HO1 HO2 HT1 p1
  rw [← HKL.out]
  go_wp2
  go_ret
  exact ⟨rfl, HF.out⟩

set_option maxHeartbeats 4000000 in
theorem heldLD (v : Value) (L : DLoc) (k : Int) (w : World) (h : VLoc w v (mkLo k L)) (hl : LenLM L) (hk0 : 0 ≤ k) (hk : k ≤ 1000000) :
    Calls Try.prog 14 #[v, .int .i64 k] w fun e w' => e = .returned (.int .i64 (kL k L)) ∧ Below w.heap.size w w' := by
  have hE : ∀ w : World, ∀ o, Ext w (w.alloc o) := fun w o => World.grownBy_alloc _ _ _
  have hB : ∀ w : World, ∀ o, Below w.heap.size w (w.alloc o) := fun w o => (Below.refl _ w).alloc (Nat.le_refl _) _
  obtain ⟨nv, sv, rfl, h1, h2⟩ := h
  unfold mkLo at h1 h2
  have HL : Hid (LenLM L) := hl
  obtain ⟨n, hn⟩ : ∃ n, n = L.node.length := ⟨_, rfl⟩
  have HKL : Hid (kL k L = kS (k + n) L.svcs L.svcs.length) := by show _ = _; unfold kL; rw [hn]
  have HPOS := kL_pos (L := L) hk0
  simp only at h1 h2
  rw [← hn] at h1 h2
  have hln : n ≤ 1048576 := by rw [hn]; exact hl.1
  have H1 : Hid (RV w nv (marks k n)) := h1
  have H2 : Hid (VSvcs w sv (mixS (k + n) L.svcs L.svcs.length)) := h2
  clear h1 h2 hl hn
  go_enter Try.func14, Try.ntmps14
  go_wp2_with fail
  refine (heldV nv n k _ (H1.out.ext (hE _ _)) (by omega) hk0 (by omega)).mono ?_
  rintro e w1 ⟨rfl, rfl⟩
  have hneg : ¬ (k + (n : Int) < 0) := by omega
  go_wp2_with fail
  refine (heldSD sv L.svcs (k + n) _ (H2.out.ext (hE _ _)) HL.out.2.2.2 HL.out.2.1 HL.out.2.2.1 (by omega) (by omega)).mono ?_
  rintro e w2 ⟨rfl, rfl⟩
  rw [← HKL.out]
  have hneg2 : ¬ (kL k L < 0) := by omega
  go_wp2
  go_ret
  exact ⟨rfl, hB _ _⟩

end Go.Proofs.Ytjkhadaoldbceaa
