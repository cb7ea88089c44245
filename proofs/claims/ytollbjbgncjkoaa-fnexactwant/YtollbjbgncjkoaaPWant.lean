
/- Want of the program answers as the specification's, at every local; it writes into no argument, and its answer owns its memory. -/
import Derived.Test.YtollbjbgncjkoaaSvE
import Derived.Test.YtollbjbgncjkoaaSvL
import Derived.Test.YtollbjbgncjkoaaOwG
import Derived.Test.YtollbjbgncjkoaaMkPa
import Derived.Test.YtollbjbgncjkoaaLo0
import Derived.Test.YtollbjbgncjkoaaSvD
import Derived.Test.YtollbjbgncjkoaaWs13
import Derived.Test.YtollbjbgncjkoaaSt13
import Derived.Test.YtollbjbgncjkoaaSl0e
import Derived.Test.YtollbjbgncjkoaaLo2
import Derived.Test.YtollbjbgncjkoaaRgS
import Derived.Test.YtollbjbgncjkoaaInf
import Derived.Test.YtollbjbgncjkoaaBytes
import Derived.Test.YtollbjbgncjkoaaIKey
import Derived.Test.YtollbjbgncjkoaaCk0
import Derived.Lib.BytesEntry
import Derived.Lib.IndexLaws
import Derived.Test.YtollbjbgncjkoaaLo1
import Derived.Test.YtollbjbgncjkoaaCk6
import Derived.Test.YtollbjbgncjkoaaSum0
import Derived.Test.YtollbjbgncjkoaaQB
import Derived.Deep.CutRange
import Derived.Test.YtollbjbgncjkoaaVal0
import Derived.ProofKit
import Derived.OpenShut
import Derived.Lib.SmallJoins
import Derived.Test.YtollbjbgncjkoaaSt0
import Derived.Deep.Slices
import Derived.Test.YtollbjbgncjkoaaLsK
import Derived.Test.YtollbjbgncjkoaaRows
import Derived.ChangeOld
import Derived.Carry
namespace Go.Proofs.Ytollbjbgncjkoaa
open Go.RowKit

set_option maxHeartbeats 2000000 in
theorem toLocD (v : Value) (d : DLoc) (w : World) (h : VLoc w v d) (hl : LenLo d) :
    Calls Try.prog 6 #[v] w fun e w' => ∃ a c b mid, e = .returned (.agg #[.slice a d.node.length c, .slice (some ⟨b, 0, none⟩) d.svcs.length d.svcs.length]) ∧ OwS (Rg w.heap.size mid) w' (.slice a d.node.length c) d.node ∧ OSD (Rg mid w'.heap.size) w' (.slice (some ⟨b, 0, none⟩) d.svcs.length d.svcs.length) d.svcs ∧ (w.heap.size ≤ mid ∧ mid ≤ w'.heap.size) ∧ Below w.heap.size w w' := by
  obtain ⟨nv, cv, rfl, hn, hc⟩ := h
  have HR : Hid (∀ x ∈ d.node, 0 ≤ x ∧ x ≤ 255) := rv_rngK hn
  have HL : Hid (LenLo d) := hl
  obtain ⟨n, hnn⟩ : ∃ n, n = d.node.length := ⟨_, rfl⟩
  have HN : Hid (n = d.node.length) := hnn
  obtain ⟨m, hmm⟩ : ∃ m, m = d.svcs.length := ⟨_, rfl⟩
  have HM : Hid (m = d.svcs.length) := hmm
  obtain ⟨na, nc, hnv⟩ := rv_shape hn
  obtain ⟨ca, cc, hcv⟩ := svcs_shape hc
  rw [← hnn] at hnv ⊢
  rw [← hmm] at hcv ⊢
  subst hnv
  subst hcv
  clear hnn hmm hl
  have HNV := (show Hid (RV w (.slice na n nc) d.node) from hn)
  have HCV := (show Hid (VSvcs w (.slice ca m cc) d.svcs) from hc)
  clear hn hc
  go_enter Try.func6, Try.ntmps6
  go_wp2_with fail
  generalize hV : World.alloc (World.alloc (World.alloc w _) _) _ = V
  have HB0 : Below w.heap.size w V := by
    rw [← hV]
    exact (((Below.refl _ w).alloc (Nat.le_refl _) _).alloc (by simp) _).alloc (by simp; omega) _
  have A0 : V.heap[w.heap.size]? = some (.cells #[.slice na n nc, .slice ca m cc] 25 (0, 0)) := by
    rw [← hV, Below.heap_alloc _ _ _ (by simp; omega), Below.heap_alloc _ _ _ (by simp)]; exact heap_alloc_new w _
  have A1 : V.heap[w.heap.size + 1]? = some (.cells #[.slice none 0 0, .slice none 0 0] 31 (0, 0)) := by
    rw [← hV, Below.heap_alloc _ _ _ (by simp)]; simpa using heap_alloc_new (World.alloc w _) (.cells #[.slice none 0 0, .slice none 0 0] 31 (0, 0))
  have A2 : V.heap[w.heap.size + 1 + 1]? = some (.cells #[.slice none 0 0, .slice none 0 0] 31 (0, 0)) := by
    rw [← hV]; simpa using heap_alloc_new (World.alloc (World.alloc w _) _) (.cells #[.slice none 0 0, .slice none 0 0] 31 (0, 0))
  have HSZ : Hid (w.heap.size + 2 < V.heap.size) := (Array.getElem?_eq_some_iff.1 A2).1
  clear hV
  refine (toV _ d.node V (HNV.out.ext (ext_below HB0)) HL.out.1).mono ?_
  rintro e w1 ⟨v1, rfl, o1, b1⟩
  obtain ⟨a1, c1, rfl, _, _, _⟩ := Ow.rv o1 HR.out
  rw [← HN.out] at o1 ⊢
  have A0' := ext_blk (ext_below b1) A0
  have A1' := ext_blk (ext_below b1) A1
  have A2' := ext_blk (ext_below b1) A2
  have HO1 : Hid (Ow w1 V.heap.size (.slice a1 n c1) d.node) := o1
  have HX1 : Hid (Ext w w1) := (ext_below HB0).tr (ext_below b1)
  have HS1 : Hid (V.heap.size ≤ w1.heap.size) := b1.size
  clear A0 A1 A2 b1 HB0 o1
  obtain ⟨z0, y0⟩ := at_block A2' 0 _ rfl
  obtain ⟨x1, _⟩ := at_block A0' 1 _ rfl
  have HU : Hid (∀ U, U = w1.setCell ⟨w.heap.size + 1 + 1, 0, none⟩ (.slice a1 n c1) → Below w.heap.size w U ∧ U.heap[w.heap.size]? = some (.cells #[.slice na n nc, .slice ca m cc] 25 (0, 0)) ∧ U.heap[w.heap.size + 1]? = some (.cells #[.slice none 0 0, .slice none 0 0] 31 (0, 0)) ∧ U.heap[w.heap.size + 1 + 1]? = some (.cells #[.slice a1 n c1, .slice none 0 0] 31 (0, 0)) ∧ Ow U V.heap.size (.slice a1 n c1) d.node) := fun U hU => by
    subst hU
    exact ⟨(ext_bel HX1.out).setCell (Nat.le_trans (Nat.le_succ _) (Nat.le_succ _)) _, set_other _ _ _ (by omega) A0', set_other _ _ _ (by omega) A1', set_block A2' 0 _, ow_set HO1.out (by have := HSZ.out; omega)⟩
  clear A0' A1' A2'
  go_upto_region 3 with fail
  generalize hU : w1.setCell _ _ = U
  obtain ⟨BU, B0, B1, B2, O1⟩ := HU.out U hU.symm
  clear hU HU z0 y0 x1
  have HSU : Hid (w.heap.size + 2 < U.heap.size) := (Array.getElem?_eq_some_iff.1 B2).1
  have HO2 := (show Hid (Ow U V.heap.size (.slice a1 n c1) d.node) from O1)
  have HBU := (show Hid (Below w.heap.size w U) from BU)
  clear O1 BU HO1 HX1 HS1
  obtain ⟨x1, _⟩ := at_block B0 1 _ rfl
  go_wp2_with fail
  refine (toS_SvD _ d.svcs U (HCV.out.ext (ext_below HBU.out)) HL.out.2.1 HL.out.2.2).mono ?_
  rintro e w2 ⟨b5, rfl, o2, b2⟩
  rw [← HM.out] at o2 ⊢
  have HUS : Hid (U.heap.size ≤ w2.heap.size) := b2.size
  have D1 := ext_blk (ext_below b2) B1
  have D2 := ext_blk (ext_below b2) B2
  have HO3 : Hid (OwS (Rg w.heap.size U.heap.size) w2 (.slice a1 n c1) d.node ∧ OSD (Rg U.heap.size w2.heap.size) w2 (.slice (some ⟨b5, 0, none⟩) m m) d.svcs ∧ Below w.heap.size w w2) := ⟨((ows_of HO2.out HR.out (Nat.le_refl _)).mono (fun b hb => ⟨by have := HSZ.out; have := hb.1; omega, hb.2⟩)).ext (ext_below b2), o2, HBU.out.trans (b2.mono HBU.out.size)⟩
  have HNM : Hid (∀ b, (Value.slice a1 n c1).ownBlock = some b → V.heap.size ≤ b) := fun b hb => (World.ownsRow.lt HO2.out b hb).1
  obtain ⟨q0, _⟩ := at_block D1 0 _ rfl
  obtain ⟨q1, k1⟩ := at_block D1 1 _ rfl
  obtain ⟨r0, f0⟩ := at_block D2 0 _ rfl
  obtain ⟨r1, f1⟩ := at_block D2 1 _ rfl
  clear x1 B0 B1 B2 o2 b2 D1 D2 HO2 HBU
  have HFIN : Hid (∀ W, w2.grownBy W (some (w.heap.size + 1 + 1)) → ∀ W', W.grownBy W' (some (w.heap.size + 1)) → OwS (Rg w.heap.size U.heap.size) W' (.slice a1 n c1) d.node ∧ OSD (Rg U.heap.size W'.heap.size) W' (.slice (some ⟨b5, 0, none⟩) m m) d.svcs ∧ (w.heap.size ≤ U.heap.size ∧ U.heap.size ≤ W'.heap.size) ∧ Below w.heap.size w W') := fun W k W' k' => by
    have h1 := HSZ.out
    have h2 := HSU.out
    have T : Trn (fun b => b = w.heap.size + 1 + 1 ∨ b = w.heap.size + 1) w2 W' := (Trn.one k (fun x e => by cases e; exact .inl rfl)).trans (Trn.one k' (fun x e => by cases e; exact .inr rfl))
    have N : OwS (fun b => V.heap.size ≤ b ∧ b < U.heap.size) w2 (.slice a1 n c1) d.node := ⟨HO3.out.1.1, fun b hb => ⟨HNM.out b hb, (HO3.out.1.2 b hb).2⟩⟩
    have hs2 := HUS.out
    have ts := T.size
    refine ⟨(N.keep T (fun b hb e => by have := hb.1; omega)).mono (fun b hb => ⟨by have := hb.1; omega, hb.2⟩), (HO3.out.2.1.keep T (fun b hb e => by have := hb.1; omega)).mono (fun b hb => ⟨hb.1, by have := hb.2; omega⟩), ⟨by omega, by omega⟩, (HO3.out.2.2.grown k HO3.out.2.2.size (fun j hj => by cases hj; omega)).grown k' (Nat.le_trans HO3.out.2.2.size k.size) (fun j hj => by cases hj; omega)⟩
  clear HO3 HSU HSZ HNM HUS
  go_wp2
  refine bodyPost_ret (v := .agg #[.slice a1 n c1, .slice (some ⟨b5, 0, none⟩) m m]) (by simp [results, Try.results6, go_sem, *]) rfl ?_
  have HR3 := HFIN.out _ (set_grown w2 (w.heap.size + 1 + 1) 1 (.slice (some ⟨b5, 0, none⟩) m m)) _ ((set_grown _ (w.heap.size + 1) 0 (.slice a1 n c1)).trans (set_grown _ _ 1 (.slice (some ⟨b5, 0, none⟩) m m)))
  exact ⟨a1, c1, b5, _, rfl, HR3.1, HR3.2.1, HR3.2.2.1, HR3.2.2.2⟩

/-- The copy as one owned thing. -/
theorem old_of {w : World} {nv sv : Value} {L : DLoc} {lo mid hi : Nat} (h1 : OwS (Rg lo mid) w nv L.node) (h2 : OSD (Rg mid hi) w sv L.svcs) (h : lo ≤ mid ∧ mid ≤ hi) : OLD (Rg lo hi) w nv sv L :=
  ⟨_, _, h1, h2, fun b hb hk => by have := hb.2; have := hk.1; omega, fun b hb => ⟨hb.1, Nat.lt_of_lt_of_le hb.2 h.2⟩, fun b hb => ⟨Nat.le_trans h.1 hb.1, hb.2⟩⟩

end Go.Proofs.Ytollbjbgncjkoaa

namespace Go.Proofs.Ytollbjbgncjkoaa
open Go.RowKit

theorem toLocV (v : Value) (d : DLoc) (w : World) (h : VLoc w v d) (hl : LenLo d) :
    Calls Try.prog 6 #[v] w fun e w' => ∃ a c b c', e = .returned (.agg #[.slice a d.node.length c, .slice b d.svcs.length c']) ∧ VLoc w' (.agg #[.slice a d.node.length c, .slice b d.svcs.length c']) d ∧ Below w.heap.size w w' := by
  have h0 := h
  obtain ⟨nv, cv, rfl, hn, hc⟩ := h0
  exact (toLoc _ d w h hl).mono fun e w' ⟨a, c, b, h1, h2, h3, h4⟩ => ⟨a, c, _, _, h1, oloc_v h2 h3 hl (rv_rngK hn) (rngSvs_of hc), h4⟩

end Go.Proofs.Ytollbjbgncjkoaa

namespace Go.Proofs.Ytollbjbgncjkoaa
open Go.RowKit

def ownP (N : Nat → Prop) (w : World) (G : Nat → Value) (d : DPair) : Prop := ∃ A B : Nat → Prop, OwT A w (G 0) d.key ∧ OwT B w (G 1) d.val ∧ (∀ b, A b → ¬ B b) ∧ (∀ b, A b → N b) ∧ ∀ b, B b → N b
theorem keepsP : Keeps ownP := fun _ _ _ _ _ _ ⟨A, B, h1, h2, h3, h4, h5⟩ t d => ⟨A, B, h1.keep t (fun b hb => d b (h4 b hb)), h2.keep t (fun b hb => d b (h5 b hb)), h3, h4, h5⟩
def altP (A B : Nat → Nat → Prop) (a : Nat) : Nat → Prop := if a % 2 = 0 then A (a / 2) else B (a / 2)
theorem altP_even (A B : Nat → Nat → Prop) (i : Nat) : altP A B (2 * i + 0) = A i := by
  unfold altP
  rw [if_pos (by omega), show (2 * i + 0) / 2 = i by omega]
theorem altP_odd (A B : Nat → Nat → Prop) (i : Nat) : altP A B (2 * i + 1) = B i := by
  unfold altP
  rw [if_neg (by omega), show (2 * i + 1) / 2 = i by omega]
theorem opa_of {S : Nat → Prop} {w : World} {v : Value} {ss : List DPair} {F : Nat → Nat → Value} {N : Nat → Nat → Prop} (h : OR 50 2 ownP S w v ss F N) : OPaD S w v ss := by
  rcases h.row.blk with ⟨rfl, h0⟩ | ⟨g, cap, rfl, _, hl, hm, hB⟩
  · exact .inl ⟨rfl, List.eq_nil_of_length_eq_zero h0⟩
  · have hc : ∀ i : Nat, ∃ A B : Nat → Prop, (∀ s, ss[i]? = some s → OwT A w (F i 0) s.key ∧ OwT B w (F i 1) s.val) ∧ (∀ b, A b → ¬ B b) ∧ (∀ b, A b → N i b) ∧ ∀ b, B b → N i b := fun i => by
      cases hs : ss[i]? with
      | none => exact ⟨fun _ => False, fun _ => False, fun s h => (by cases h), fun _ h => h.elim, fun _ h => h.elim, fun _ h => h.elim⟩
      | some s =>
        obtain ⟨A, B, h1, h2, h3, h4, h5⟩ := h.own i s hs
        exact ⟨A, B, fun s' h => (by cases h; exact ⟨h1, h2⟩), h3, h4, h5⟩
    obtain ⟨A, hA⟩ := Classical.axiomOfChoice hc
    obtain ⟨B, hB2⟩ := Classical.axiomOfChoice hA
    have hin : ∀ a b, altP A B a b → N (a / 2) b := fun a b h => by
      rcases (show a = 2 * (a / 2) + 0 ∨ a = 2 * (a / 2) + 1 by omega) with e | e
      · rw [e, altP_even] at h
        exact (hB2 (a / 2)).2.2.1 b h
      · rw [e, altP_odd] at h
        exact (hB2 (a / 2)).2.2.2 b h
    refine .inr ⟨g, cap, F, altP A B, rfl, hl, hm, h.blk g rfl, hB, fun a c b hac ha hc => ?_, fun a b hb => ⟨(h.rng _ b (hin a b hb)).1, fun e => (h.rng _ b (hin a b hb)).2 (by rw [e]; rfl)⟩, fun i s hs => ?_⟩
    · by_cases e : a / 2 = c / 2
      · rcases (show a = 2 * (a / 2) + 0 ∨ a = 2 * (a / 2) + 1 by omega) with pa | pa
        · have pc : c = 2 * (a / 2) + 1 := by omega
          rw [pa, altP_even] at ha
          rw [pc, altP_odd] at hc
          exact (hB2 (a / 2)).2.1 b ha hc
        · have pc : c = 2 * (a / 2) + 0 := by omega
          rw [pa, altP_odd] at ha
          rw [pc, altP_even] at hc
          exact (hB2 (a / 2)).2.1 b hc ha
      · exact h.dis _ _ b e (hin a b ha) (hin c b hc)
    · have h1 := (hB2 i).1 s hs
      exact ⟨by rw [altP_even]; exact h1.1, by rw [altP_odd]; exact h1.2⟩
theorem owt_of {w : World} {base : Nat} {v : Value} {xs : List Int} (h : OwM w base v xs) (hr : ∀ x ∈ xs, 0 ≤ x ∧ x ≤ 255) : OwT (Rg base w.heap.size) w v xs := ⟨⟨h.base (Nat.zero_le _), hr⟩, fun b hb => h.lt b hb⟩

def wantD (L : DLoc) : List DPair := L.svcs.map (fun s => ⟨placeL L.node s.name, stL (worstF 0 s.checks)⟩)
def wantX (ok : Bool) (L : DLoc) : List DPair := if ok then wantD L else []
theorem wantD_len (L : DLoc) : (wantD L).length = L.svcs.length := by unfold wantD; simp
theorem wantD_next {L : DLoc} {k : Nat} {s : DSvc} (h : L.svcs[k]? = some s) : (wantD L).take (k + 1) = (wantD L).take k ++ [⟨placeL L.node s.name, stL (worstF 0 s.checks)⟩] := by
  unfold wantD
  rw [← List.map_take, ← List.map_take, List.take_add_one, h]
  simp
theorem info_Pr : (Try.prog.info? 50).map (fun i => (i.zero, i.size, i.bytes)) = some (some (.agg #[.slice none 0 0, .slice none 0 0]), 2, 48) := by kernel_rfl

end Go.Proofs.Ytollbjbgncjkoaa

namespace Go.Proofs.Ytollbjbgncjkoaa
open Go.RowKit

set_option maxRecDepth 20000 in
set_option maxHeartbeats 8000000 in
theorem sWantLV (v : Value) (L : DLoc) (w : World) (h : VLoc w v L) (hl : LenLo L) :
    Calls Try.prog 16 #[v] w fun e w' => ∃ pa pc, e = .returned (.slice pa L.svcs.length pc) ∧ OPaD (Rg w.heap.size w'.heap.size) w' (.slice pa L.svcs.length pc) (wantD L) ∧ Below w.heap.size w w' := by
  have hE : ∀ w : World, ∀ o, Ext w (w.alloc o) := fun w o => World.grownBy_alloc _ _ _
  obtain ⟨nv, sv, rfl, hn, hs⟩ := h
  have HL := hidL hl
  obtain ⟨na, nc, hnv⟩ := rv_shape hn
  obtain ⟨nn, hnn⟩ : ∃ nn, nn = L.node.length := ⟨_, rfl⟩
  rw [← hnn] at hnv
  subst hnv
  have HNV : Hid (RV w (.slice na nn nc) L.node) := hn
  obtain ⟨C, ⟨a, sc, rfl, q1, q2, q3⟩, hC⟩ := hs
  obtain ⟨m, hm⟩ : ∃ m, m = L.svcs.length := ⟨_, rfl⟩
  have HM := hidL hm
  have HC : Hid (∀ i d, L.svcs[i]? = some d → RV w (C i 0) d.name ∧ VChks w (C i 1) d.checks) := hC
  rw [← hm] at q1 q3 ⊢
  have H3 : Hid (0 < m → ∃ b o, a = some ⟨b, o, none⟩ ∧ b < w.heap.size ∧ ∀ i, i < m → ∀ j, j < 2 → w.cell? ⟨b, o + i * 2 + j, none⟩ = some (C i j)) := q3
  have hmm : (m : Int) ≤ 1048576 := by have := hl.2.1; omega
  unfold maxLen at q2
  clear hn hnn hC hm q3 hl
  go_enter Try.func16, Try.ntmps16
  go_upto_region 1 with fail
  generalize hW : World.alloc w _ = W
  have P0 : W.heap[w.heap.size]? = some (.cells #[.slice na nn nc, .slice a m sc] 31 (0, 0)) := by rw [← hW]; exact heap_alloc_new w _
  have BW : Below w.heap.size w W := by rw [← hW]; exact (Below.refl _ w).alloc (Nat.le_refl _) _
  clear hW
  have HP0 := hidL P0
  have HBW := hidL BW
  obtain ⟨⟨p0, p1⟩, _, _⟩ := cells2S P0
  clear P0 BW
  go_wp2
  go_loopw [3, 4] (fun q i wr => ∃ k : Nat, k ≤ m ∧ i = .int .i64 k ∧ ∃ (qa : Option Addr) (qc : Nat) (F : Nat → Nat → Value) (N : Nat → Nat → Prop), q = .slice qa k qc ∧ Hid (OR 50 2 ownP (fun b => w.heap.size < b ∧ b < wr.heap.size) wr (.slice qa k qc) ((wantD L).take k) F N) ∧ Hid (Below w.heap.size w wr) ∧ Hid (wr.heap[w.heap.size]? = some (.cells #[.slice na nn nc, .slice a m sc] 31 (0, 0)))) (fun _ i _ => m - (intOf i).toNat)
  case atStart => exact ⟨0, Nat.zero_le _, rfl, none, 0, fun _ _ => .bool true, _, rfl, OR.nil _ _ _ _ _ _, HBW.out, HP0.out⟩
  case round =>
    obtain ⟨k, hk, rfl, qa, qc, F, N, rfl, HOR, HB, HP⟩ := hrel
    have HWL : Hid (w.heap.size < wr.heap.size) := (Array.getElem?_eq_some_iff.1 HP.out).1
    clear p0 p1
    obtain ⟨⟨p0, p1⟩, _, _⟩ := cells2S HP.out
    by_cases hlt : k < m
    · obtain ⟨b, o, rfl, hbl, hc⟩ := H3.out (by omega)
      obtain ⟨s, hs⟩ : ∃ s, L.svcs[k]? = some s := ⟨_, List.getElem?_eq_getElem (by have := HM.out; omega)⟩
      obtain ⟨e0, e1⟩ := HC.out k s hs
      have HLS := hidL (HL.out.2.2 k s hs)
      have HXA : Hid (Ext w wr) := ext_below HB.out
      obtain ⟨ka, kc, hkv⟩ := rv_shape e0
      obtain ⟨cb, cd, hcv⟩ := chks_shape e1
      obtain ⟨kl, hkl⟩ : ∃ kl, kl = s.name.length := ⟨_, rfl⟩
      obtain ⟨cl, hcl⟩ : ∃ cl, cl = s.checks.length := ⟨_, rfl⟩
      rw [← hkl] at hkv
      rw [← hcl] at hcv
      rw [hkv] at e0
      rw [hcv] at e1
      have u0 := World.grownBy.cell HXA.out (hc k hlt 0 (by omega)) (by simp)
      rw [Nat.add_zero, hkv] at u0
      have u1 := World.grownBy.cell HXA.out (hc k hlt 1 (by omega)) (by simp)
      rw [hcv] at u1
      have HNM : Hid (RV wr (.slice ka kl kc) s.name) := e0.ext HXA.out
      have HCK : Hid (VChks wr (.slice cb cl cd) s.checks) := e1.ext HXA.out
      have HSS := hidL hs
      have hlt' : (k : Int) < (m : Int) := by omega
      clear hc hkv hcv e0 e1 hs hkl hcl
      go_upto_region 6 with fail
      generalize hU : World.alloc wr _ = U
      have PU : U.heap[wr.heap.size]? = some (.cells #[.slice ka kl kc, .slice cb cl cd] 45 (0, 0)) := by rw [← hU]; exact heap_alloc_new wr _
      have XU : Ext wr U := by rw [← hU]; exact hE _ _
      have SU : Hid (U.heap.size = wr.heap.size + 1) := by show _ = _; rw [← hU]; simp
      clear hU
      have HXU := hidL XU
      have XWU : Ext w U := HXA.out.tr XU
      have HPL : Hid (∀ V, Ext U V → Calls Try.prog 32 #[.slice na nn nc, .slice ka kl kc] V fun e w' => ∃ v, e = .returned v ∧ OwT (Rg V.heap.size w'.heap.size) w' v (placeL L.node s.name) ∧ Below V.heap.size V w') := fun V e => (sPlaceV _ _ L.node s.name V (HNV.out.ext (XWU.tr e)) (HNM.out.ext (HXU.out.tr e)) HL.out.1 HLS.out.1).mono fun e w' ⟨v, h1, h2, h3⟩ => ⟨v, h1, owt_of (h2.base (Nat.le_refl _)) (placeL_rng (rv_rngK HNV.out) (rv_rngK HNM.out)), h3⟩
      have HWO : Hid (∀ V, Ext U V → Calls Try.prog 35 #[.slice cb cl cd] V fun e w' => e = .returned (.int .i64 (worstF 0 s.checks)) ∧ Below V.heap.size V w') := fun V e => sWorstV _ s.checks V (HCK.out.ext (HXU.out.tr e)) HLS.out.2.1
      have HST : Hid (∀ V, Calls Try.prog 34 #[.int .i64 (worstF 0 s.checks)] V fun e w' => ∃ v, e = .returned v ∧ OwT (Rg V.heap.size w'.heap.size) w' v (stL (worstF 0 s.checks)) ∧ Below V.heap.size V w') := fun V => (sStatusTextV _ V).mono fun e w' ⟨v, h1, h2, h3⟩ => ⟨v, h1, owt_of h2 (stL_rng _), h3⟩
      have HQB : Hid (∀ b, (Value.slice qa k qc).ownBlock = some b → w.heap.size < b ∧ b < wr.heap.size) := fun b hb => HOR.out.blk b hb
      have nn1 : ¬ (Value.slice qa k qc).ownBlock = some w.heap.size := fun e => by have := HQB.out _ e; omega
      have nn2 : ¬ (Value.slice qa k qc).ownBlock = some wr.heap.size := fun e => by have := HQB.out _ e; omega
      obtain ⟨⟨x0, x1⟩, _, _⟩ := cells2S (ext_blk XU HP.out)
      obtain ⟨⟨y0, y1⟩, _, _⟩ := cells2S PU
      have z0 := fun p => tw_cell (S := fun b => (Value.slice qa k qc).ownBlock = some b) x0 nn1 p
      have z1 := fun p => tw_cell (S := fun b => (Value.slice qa k qc).ownBlock = some b) y0 nn2 p
      have z2 := fun p => tw_cell (S := fun b => (Value.slice qa k qc).ownBlock = some b) y1 nn2 p
      have nonV := tw_ne (fun b => (Value.slice qa k qc).ownBlock = some b) U
      clear x0 x1 y0 y1 PU XU nn1 nn2 XWU p0 p1 u0 u1
      refine wp_region_seg (S := fun w' => ∃ p : TW (fun b => (Value.slice qa k qc).ownBlock = some b) U, w' = p.u) (by kernel_rfl) (tw_drew _ U) (fun hHeld => ?_)
      refine wpAnyH_seg 0 5 9 (by kernel_rfl) (by kernel_rfl) (by kernel_rfl) (by kernel_rfl) (fun _ _ _ _ _ h => h) hHeld ?_
      simp only [List.drop_zero, List.take_succ_cons, List.take_zero]
      repeat (go_big_quiet_step (fail))
      refine wpQuiet_nil ?_
      refine wpAnyH_seg 6 2 7 (by kernel_rfl) (by kernel_rfl) (by kernel_rfl) (by kernel_rfl) (fun _ _ _ _ _ h => h) hHeld ?_
      simp only [List.drop_succ_cons, List.drop_zero, List.take_succ_cons, List.take_zero]
      repeat (go_big_quiet_step (fail))
      refine wpQuiet_nil ?_
      refine wpAnyH_one 5 6 (by kernel_rfl) (by kernel_rfl) rfl (fun K hK => ?_)
      go_simp
      go_at_call 32
      refine (HPL.out _ (ext_drewN U 1)).mono ?_
      rintro e w5 ⟨v5, rfl, o5, b5⟩
      obtain ⟨pa, pc, rfl⟩ := rv_shape o5.rv
      dsimp only
      have X5 : Ext U w5 := (ext_drewN U 1).tr (ext_below b5)
      refine hK.out _ _ ⟨⟨w5, X5.os, X5.size, fun q hq _ => X5.block q hq (by simp)⟩, rfl⟩ (fun hHeld => ?_)
      clear hK K
      try simp only [Act.put, List.setIfInBounds_toArray, List.set_cons_zero, List.set_cons_succ]
      refine wpAnyH_one 8 5 (by kernel_rfl) (by kernel_rfl) rfl (fun K hK => ?_)
      go_simp
      go_at_call 35
      refine (HWO.out _ X5).mono ?_
      rintro e w6 ⟨rfl, b6⟩
      dsimp only
      have X6 : Ext U w6 := X5.tr (ext_below b6)
      refine hK.out _ _ ⟨⟨w6, X6.os, X6.size, fun q hq _ => X6.block q hq (by simp)⟩, rfl⟩ (fun hHeld => ?_)
      clear hK K
      try simp only [Act.put, List.setIfInBounds_toArray, List.set_cons_zero, List.set_cons_succ]
      refine wpAnyH_one 9 4 (by kernel_rfl) (by kernel_rfl) rfl (fun K hK => ?_)
      go_simp
      go_at_call 34
      refine (HST.out _).mono ?_
      rintro e w7 ⟨v7, rfl, o7, b7⟩
      obtain ⟨sa', sc', rfl⟩ := rv_shape o7.rv
      dsimp only
      have X7 : Ext U w7 := X6.tr (ext_below b7)
      have OP7 := (o5.ext (ext_below b6)).ext (ext_below b7)
      have SZ5 : U.heap.size ≤ w5.heap.size := X5.size
      have SZ6 := b6.size
      have SZ7 := b7.size
      refine hK.out _ _ ⟨⟨w7, X7.os, X7.size, fun q hq _ => X7.block q hq (by simp)⟩, rfl⟩ (fun hHeld => ?_)
      clear hK K o5 b5 b6 b7
      try simp only [Act.put, List.setIfInBounds_toArray, List.set_cons_zero, List.set_cons_succ]
      refine wpAnyH_seg 10 1 3 (by kernel_rfl) (by kernel_rfl) (by kernel_rfl) (by kernel_rfl) (fun _ _ _ _ _ h => h) hHeld ?_
      simp only [List.drop_succ_cons, List.drop_zero, List.take_succ_cons, List.take_zero]
      repeat (go_big_quiet_step (fail))
      refine wpQuiet_nil ?_
      refine wpAnyH_one 11 2 (by kernel_rfl) (by kernel_rfl) rfl (fun K hK => ?_)
      go_simp
      have X8 : Ext U (w7.alloc (.cells #[.slice pa (placeL L.node s.name).length pc, .slice sa' (stL (worstF 0 s.checks)).length sc'] 50)) := X7.tr (hE _ _)
      refine hK.out _ _ ⟨⟨_, X8.os, X8.size, fun q hq _ => X8.block q hq (by simp)⟩, rfl⟩ (fun hHeld => ?_)
      clear hK K
      try simp only [Act.put, List.setIfInBounds_toArray, List.set_cons_zero, List.set_cons_succ]
      have hlk : ((wantD L).take k).length = k := by rw [List.length_take, wantD_len]; have := HM.out; omega
      have HLK := hidL hlk
      have HO8 := hidL (HOR.out.ext keepsP (HXU.out.tr X8))
      have HROW : Hid (Row 0 50 2 (w7.alloc (.cells #[.slice pa (placeL L.node s.name).length pc, .slice sa' (stL (worstF 0 s.checks)).length sc'] 50)) (.slice qa k qc) k F) := by
        have := HO8.out.row
        rw [hlk] at this
        exact this
      have hsu := SU.out
      have SZ8 : (w7.alloc (.cells #[.slice pa (placeL L.node s.name).length pc, .slice sa' (stL (worstF 0 s.checks)).length sc'] 50)).heap.size = w7.heap.size + 1 := by simp
      have HOWN : Hid (ownP (fun b => wr.heap.size < b ∧ b < w7.heap.size) (w7.alloc (.cells #[.slice pa (placeL L.node s.name).length pc, .slice sa' (stL (worstF 0 s.checks)).length sc'] 50)) (elem2 (.slice pa (placeL L.node s.name).length pc) (.slice sa' (stL (worstF 0 s.checks)).length sc') 0) ⟨placeL L.node s.name, stL (worstF 0 s.checks)⟩) := ⟨_, _, OP7.ext (hE _ _), o7.ext (hE _ _), fun b h1 h2 => by have := h1.2; have := h2.1; omega, fun b h => ⟨by have h3 : U.heap.size ≤ b := h.1; omega, by have := h.2; omega⟩, fun b h => ⟨by have := h.1; omega, h.2⟩⟩
      have HSRC := hidL (elem2_src w7 50 (.slice pa (placeL L.node s.name).length pc) (.slice sa' (stL (worstF 0 s.checks)).length sc'))
      have HX8 := hidL X8
      have HNX := hidL (wantD_next HSS.out)
      generalize (placeL L.node s.name).length = pl at *
      generalize (stL (worstF 0 s.checks)).length = sl at *
      clear OP7 o7 X5 X6 X7 X8 hlk
      refine wpAnyH_one 12 1 (by kernel_rfl) (by kernel_rfl) rfl (fun K hK => ?_)
      refine step_rowG info_Pr rfl (by omega) rfl (.tmp 18) (.tmp 29) 27 Try.underlying27 rfl 0 (.slice qa k qc) k F rfl HROW.out (some ⟨w7.heap.size, 0, none⟩) 1 1 (elem2 (.slice pa pl pc) (.slice sa' sl sc')) rfl HSRC.out elem2_one (fun e => by cases e) (by unfold maxLen; omega) (by omega) (Nat.zero_le _) ?_
      intro v9 w9 r9 g9 h9
      obtain ⟨a9, c9, rfl⟩ := r9.shape
      have HT9 : Hid (Trn (fun b => (Value.slice qa k qc).ownBlock = some b) U w9) := (Trn.ext HX8.out).trans (Trn.one g9 (fun x e => e))
      refine hK.out _ _ ⟨⟨w9, HT9.out.os, HT9.out.size, fun q hq hn => HT9.out.block q hq hn⟩, rfl⟩ (fun hHeld => ?_)
      clear hK K
      simp only [List.getElem_toArray, List.getElem_cons_succ, List.getElem_cons_zero, Act.put, List.setIfInBounds_toArray, List.set_cons_zero, List.set_cons_succ]
      have HOP := HO8.out.push keepsP HOWN.out (fun b h1 h2 => by have := h1.1; have := h2.2; omega) (fun b h => by rcases h with h | h <;> (have := h.2; omega)) (by rw [HLK.out]; exact r9) g9 h9
      have hs9 : w7.heap.size + 1 ≤ w9.heap.size := by have := g9.size; omega
      have HO9 : Hid (OR 50 2 ownP (fun b => w.heap.size < b ∧ b < w9.heap.size) w9 (.slice a9 (k + 1) c9) ((wantD L).take (k + 1)) (joinF ((wantD L).take k).length F (elem2 (.slice pa pl pc) (.slice sa' sl sc'))) (fun i => if i = ((wantD L).take k).length then (fun b => wr.heap.size < b ∧ b < w7.heap.size) else if i < ((wantD L).take k).length then N i else fun _ => False)) := by
        rw [HNX.out]
        refine HOP.mono (fun b hb => ?_)
        have := HWL.out
        rcases hb with hb | hb | ⟨hb, hv⟩
        · exact ⟨hb.1, by have := hb.2; omega⟩
        · exact ⟨by have := hb.1; omega, by have := hb.2; omega⟩
        · exact ⟨by omega, HOP.lt b hv⟩
      have HB9 : Hid (Below w.heap.size w w9) := Trn.below (HB.out.trans ((ext_bel HXU.out).mono HB.out.size)) HT9.out (by have := HB.out.size; omega) (fun b hb => by have := HQB.out b hb; omega)
      have HP9 : Hid (w9.heap[w.heap.size]? = some (.cells #[.slice na nn nc, .slice (some ⟨b, o, none⟩) m sc] 31 (0, 0))) := (HT9.out.block _ (by have := HWL.out; omega) (fun e => by have := HQB.out _ e; omega)).trans (ext_blk HXU.out HP.out)
      clear r9 g9 h9 HSRC HROW HOWN HOP HX8 HO8 HLK SZ8 z0 z1 z2 nonV
      have nonV := tw_ne (fun b => (Value.slice qa k qc).ownBlock = some b) U
      refine wpAnyH_seg 13 1 0 (by kernel_rfl) (by kernel_rfl) (by kernel_rfl) (by kernel_rfl) (fun _ _ _ _ _ h => h) ⟨⟨w9, HT9.out.os, HT9.out.size, fun q hq hn => HT9.out.block q hq hn⟩, rfl⟩ ?_
      simp only [List.drop_succ_cons, List.drop_zero, List.take_succ_cons, List.take_zero]
      repeat (go_big_quiet_step (fail))
      refine wpQuiet_nil ?_
      refine wpAnyH_endN (by kernel_rfl) ?_
      clear nonV HT9
      go_wp2
      go_roundw
      case rel => exact ⟨k + 1, by omega, by go_num, a9, c9, _, _, rfl, HO9, HB9, HP9⟩
      case measure => simp [intOf]; omega
    · have hkm : k = m := by omega
      subst hkm
      have hall : (wantD L).take k = wantD L := List.take_of_length_le (by rw [wantD_len]; have := HM.out; omega)
      rw [hall] at HOR
      have HW2 := hidL ((opa_of HOR.out).mono (T := Rg w.heap.size wr.heap.size) (fun b h => ⟨by have := h.1; omega, h.2⟩))
      clear hall HOR
      go_wp2
      go_ret
      exact ⟨_, _, rfl, HW2.out, HB.out⟩

set_option maxHeartbeats 2000000 in
theorem sWantV (v : Value) (L : DLoc) (w : World) (h : VLoc w v L) (hl : LenLo L) :
    Calls Try.prog 5 #[v] w fun e w' => ∃ pa pc, e = .returned (.slice pa (wantX (tB (LocP L)) L).length pc) ∧ OPaD (Rg w.heap.size w'.heap.size) w' (.slice pa (wantX (tB (LocP L)) L).length pc) (wantX (tB (LocP L)) L) ∧ Below w.heap.size w w' := by
  have hE : ∀ w : World, ∀ o, Ext w (w.alloc o) := fun w o => World.grownBy_alloc _ _ _
  have h0 := hidL h
  have HL := hidL hl
  obtain ⟨nv, sv, rfl, hn, hs⟩ := h
  obtain ⟨na, nc, rfl⟩ := rv_shape hn
  obtain ⟨sa, sc, rfl⟩ := svcs_shape hs
  obtain ⟨nn, hnn⟩ : ∃ nn, nn = L.node.length := ⟨_, rfl⟩
  obtain ⟨m, hm⟩ : ∃ m, m = L.svcs.length := ⟨_, rfl⟩
  have HM := hidL hm
  rw [← hnn, ← hm] at h0 ⊢
  obtain ⟨ok, hok⟩ : ∃ ok, ok = tB (LocP L) := ⟨_, rfl⟩
  have HLO : Hid (∀ V, Ext w V → Calls Try.prog 15 #[.agg #[.slice na nn nc, .slice sa m sc]] V fun e w' => e = .returned (.bool ok) ∧ Below V.heap.size V w') := fun V e => by rw [hok]; exact sLocalOkV _ L V (h0.out.ext e) HL.out
  rw [← hok]
  clear hnn hm hn hs hl hok
  go_enter Try.func5, Try.ntmps5
  go_upto_region 1 with fail
  generalize hW : World.alloc w _ = W
  have P0 : W.heap[w.heap.size]? = some (.cells #[.slice na nn nc, .slice sa m sc] 31 (0, 0)) := by rw [← hW]; exact heap_alloc_new w _
  have BW : Below w.heap.size w W := by rw [← hW]; exact (Below.refl _ w).alloc (Nat.le_refl _) _
  clear hW
  obtain ⟨⟨p0, p1⟩, _, _⟩ := cells2S P0
  go_wp2_with fail
  refine (HLO.out W (ext_below BW)).mono ?_
  rintro e w1 ⟨rfl, b1⟩
  have HB1 := hidL (BW.trans (b1.mono BW.size))
  have P1 := below_blk b1 (Array.getElem?_eq_some_iff.1 P0).1 P0
  clear p0 p1 b1 P0 BW
  obtain ⟨⟨p0, p1⟩, _, _⟩ := cells2S P1
  cases ok
  · go_wp2
    go_ret
    exact ⟨none, 0, rfl, .inl ⟨rfl, rfl⟩, HB1.out⟩
  · go_wp2_with fail
    refine (sWantLV _ L w1 (h0.out.ext (ext_below HB1.out)) HL.out).mono ?_
    rintro e w2 ⟨pa, pc, rfl, o2, b2⟩
    have HLN : Hid ((wantX true L).length = L.svcs.length) := wantD_len L
    have HO2 := hidL (o2.mono (T := Rg w.heap.size w2.heap.size) (fun b h => ⟨by have := h.1; have := HB1.out.size; omega, h.2⟩))
    have HB2 := hidL (HB1.out.trans (b2.mono HB1.out.size))
    clear o2 b2 p0 p1 P1
    go_wp2
    go_ret
    exact ⟨pa, pc, by rw [HLN.out]; rfl, by rw [HLN.out]; exact HO2.out, HB2.out⟩

end Go.Proofs.Ytollbjbgncjkoaa

namespace Go.Proofs.Ytollbjbgncjkoaa
open Go.RowKit

set_option maxRecDepth 10000 in
set_option maxHeartbeats 1000000 in
theorem grow0 (m : Nat) (w : World) (hm : m ≤ 4294967296) :
    Calls Try.prog 51 #[.slice none 0 0, .int .i64 m] w fun e w' => ∃ v, e = .returned v ∧ Ow w' w.heap.size v [] ∧ Below w.heap.size w w' := by
  obtain ⟨i0, hi, hz0, hz1, hz2⟩ := info_parts info5
  rcases Nat.eq_zero_or_pos m with h0 | h0
  · subst h0
    go_enter Try.func51, Try.ntmps51
    go_wp2
    go_ret
    exact ⟨_, rfl, World.ownsRow_nil _ _ _ _, Below.refl _ _⟩
  · have hpos : (0 : Int) < (m : Int) := by omega
    have hold : (Builtin.firstCells i0.size 0 (.slice none 0 0)).run Try.prog w.drew = .ok ([] : List Value).toArray w.drew := by
      simp [Builtin.firstCells]
    have hrz : ∀ ty, (Builtin.append_ #[22, 3] ty #[.slice none 0 0, .int .i64 (m : Int)]).run Try.prog w =
        .ok (.slice (some ⟨w.heap.size, 0, none⟩) m (grownCap w m 0 5)) (w.drew.alloc (.cells (([] : List Value).toArray ++ Builtin.zeroCells (Value.int .u8 0).cells m ++ Builtin.zeroCells (Value.int .u8 0).cells (grownCap w m 0 5 - m)) 5)) := fun ty => by
      have h := Lib.run_append_grow_zeros (P := Try.prog) w 22 3 ty 5 i0 (.int .u8 0) .i64 .i64 Try.underlying22 Try.underlying3 hi hz0 none 0 0 [] hold m h0 (by omega) (by omega) (by omega) (by rw [hz2]; omega)
        (growslice_fits (by omega) (by rw [hz2]; omega))
      simpa using h
    have hGn : m ≤ grownCap w m 0 5 := grownCap_ge w _ _ _
    have hGm : grownCap w m 0 5 ≤ maxLen := grownCap_le_maxLen w m 0 5 (by unfold maxLen; omega)
    obtain ⟨G, hG⟩ : ∃ G, G = grownCap w m 0 5 := ⟨_, rfl⟩
    rw [← hG] at hrz hGn hGm
    obtain ⟨cs, hcs⟩ : ∃ cs, cs = (([] : List Value).toArray ++ Builtin.zeroCells (Value.int .u8 0).cells m ++ Builtin.zeroCells (Value.int .u8 0).cells (G - m)) := ⟨_, rfl⟩
    rw [← hcs] at hrz
    have hsz : cs.size = G := by
      rw [hcs]
      simp [size_zeroCells, Value.cells]
      omega
    have HW : Hid (Ow (w.drew.alloc (.cells cs 5)) w.heap.size (.slice (some ⟨w.heap.size, 0, none⟩) 0 G) []) := World.ownsRow_made w.drew cs G (Nat.le_refl _) hGm (by omega)
    have hG63 : G ≤ 9223372036854775807 := by unfold maxLen at hGm; omega
    clear hold hG hcs hGm hsz
    go_enter Try.func51, Try.ntmps51
    go_wp2_with (at_builtin; refine Lib.wpList_append_run _ rfl _ _ _ _ rfl _ _ rfl rfl _ _ (hrz _) ?_)
    all_goals
      go_ret
      exact ⟨_, rfl, HW.out, ((Below.refl _ w).drew).alloc (Nat.le_refl _) _⟩

/-- The first k of some lists, one behind the other. -/
def cat (X : Nat → List Int) : Nat → List Int
  | 0 => []
  | k + 1 => cat X k ++ X k

theorem cat_le (X : Nat → List Int) {k m : Nat} (h : k ≤ m) : (cat X k).length ≤ (cat X m).length := by
  induction m with
  | zero => obtain rfl : k = 0 := by omega
            exact Nat.le_refl _
  | succ m ih =>
    by_cases e : k = m + 1
    · subst e; exact Nat.le_refl _
    · have := ih (by omega)
      simp only [cat, List.length_append]
      omega

theorem cat_rng (X : Nat → List Int) (m : Nat) (h : ∀ j, j < m → ∀ x ∈ X j, 0 ≤ x ∧ x ≤ 255) : ∀ x ∈ cat X m, 0 ≤ x ∧ x ≤ 255 := by
  induction m with
  | zero => intro x hx; cases hx
  | succ m ih =>
    intro x hx
    rcases List.mem_append.1 hx with hx | hx
    · exact ih (fun j hj => h j (by omega)) x hx
    · exact h m (by omega) x hx

set_option maxHeartbeats 2000000 in
theorem conc (g m c : Nat) (A : Nat → Option Addr) (L C : Nat → Nat) (X : Nat → List Int) (w : World) (hm : m ≤ 1000)
    (hc : ∀ j, j < m → w.cell? ⟨g, j, none⟩ = some (.slice (A j) (L j) (C j))) (hR : ∀ j, j < m → Rd w (A j) (L j) (X j)) (hb : (cat X m).length ≤ 4294967296) :
    Calls Try.prog 40 #[.slice (some ⟨g, 0, none⟩) m c] w fun e w' => ∃ v, e = .returned v ∧ Ow w' w.heap.size v (cat X m) ∧ Below w.heap.size w w' := by
  have hstep : ∀ k, k < m → (cat X k).length + L k ≤ (cat X m).length := fun k hk => by
    have := cat_le X (show k + 1 ≤ m by omega)
    simp only [cat, List.length_append, (hR k hk).len] at this
    exact this
  have HS : Hid (∀ k, k < m → (cat X k).length + L k ≤ (cat X m).length) := hstep
  have HC : Hid (∀ j, j < m → w.cell? ⟨g, j, none⟩ = some (.slice (A j) (L j) (C j))) := hc
  have HR : Hid (∀ j, j < m → Rd w (A j) (L j) (X j)) := hR
  clear hstep hc hR
  go_enter Try.func40, Try.ntmps40
  go_wp2
  go_loop [3, 11] (fun s i => ∃ k : Nat, k ≤ m ∧ i = .int .i64 k ∧ s = .int .i64 (cat X k).length) (fun _ i => m - (intOf i).toNat)
  case atStart => exact ⟨0, Nat.zero_le _, rfl, rfl⟩
  case round =>
    obtain ⟨k, hk, rfl, rfl⟩ := hrel
    by_cases hlt : k < m
    · have hck := HC.out k hlt
      have hbk := HS.out k hlt
      have HL : Hid ((cat X (k + 1)).length = (cat X k).length + L k) := by simp only [Hid, cat, List.length_append, (HR.out k hlt).len]
      go_wp2
      go_round
      case rel => exact ⟨k + 1, by omega, by go_num, by rw [HL.out]; go_num⟩
      case measure => simp [intOf]; omega
    · have hkm : k = m := by omega
      subst hkm
      go_wp2_with (go_at_call 51; refine (grow0 (cat X k).length _ hb).mono ?_; rintro e w1 ⟨v1, rfl, hown1, hb1⟩)
      go_loopw [6, 27] (fun v i wr => ∃ j : Nat, j ≤ k ∧ i = .int .i64 j ∧ Ow wr w.heap.size v (cat X j) ∧ Below w.heap.size w wr) (fun _ i _ => k - (intOf i).toNat)
      case atStart => exact ⟨0, Nat.zero_le _, rfl, hown1, hb1⟩
      case round =>
        obtain ⟨j, hj, rfl, hown, hbj⟩ := hrel
        clear hown1 hb1
        have hsz := hbj.size
        by_cases hlt : j < k
        · have hcj := HC.out j hlt
          have hcj' : wr.cell? ⟨g, j, none⟩ = some (.slice (A j) (L j) (C j)) := (hbj.cell (p := ⟨g, j, none⟩) (World.block_lt_of_cell? w _ hcj)).trans hcj
          have hbk := HS.out j hlt
          have hrj := (HR.out j hlt).below hbj (Nat.le_refl _)
          clear hcj
          go_wp2_with (at_builtin; refine wpList_append_bytes _ rfl (.tmp 31) (.tmp 32) 22 rfl w.heap.size info5 Try.underlying22 _ (cat X j) rfl hown (A j) (L j) (C j) (X j) rfl hrj (by omega) hsz ?_; intro v2 w2 hown2 hg2)
          have hb2 : Below w.heap.size w w2 := below_own hbj hsz hown hg2
          clear hg2
          go_wp2
          go_roundw
          case rel => exact ⟨j + 1, by omega, by go_num, hown2, hb2⟩
          case measure => simp [intOf]; omega
        · have hjk : j = k := by omega
          subst hjk
          go_wp2
          go_ret
          exact ⟨_, rfl, hown, hbj⟩

end Go.Proofs.Ytollbjbgncjkoaa

namespace Go.Proofs.Ytollbjbgncjkoaa
open Go.RowKit

theorem run_idx {w : World} {b o n c : Nat} {xs : List Int} (hx : xs.length = n) (hc : ∀ i, i < n → w.cell? ⟨b, o + i, none⟩ = some (.int .u8 (xs.getD i 0))) (cv : Int) :
    (callFunc 57 #[.slice (some ⟨b, o, none⟩) n c, .int .u8 cv]).run Try.prog w = .ok (.value (.int .i64 (Lib.indexByte (Lib.bytesOf xs) cv.toNat.toUInt8))) w := by
  rw [run_callFunc_extern (e := Extern.BytealgIndexByte.indexByte) Try.func57 (by kernel_rfl) (by kernel_rfl) (by kernel_rfl) (by kernel_rfl)]
  rw [Lib.run_indexByteSlice w b o n c xs hx hc cv]
  rfl

/-- Where it is not there, and where it is. -/
theorem idx47 {xs : List Int} (hr : ∀ x ∈ xs, 0 ≤ x ∧ x ≤ 255) : decide (Lib.indexByte (Lib.bytesOf xs) (47 : Int).toNat.toUInt8 < 0) = xs.all (fun c => !decide (c = 47)) := by
  rw [Bool.eq_iff_iff, decide_eq_true_eq, List.all_eq_true]
  have hge := Lib.indexByte_ge (Lib.bytesOf xs) (47 : Int).toNat.toUInt8
  constructor
  · intro h x hx
    have h1 := Lib.indexByte_none (l := Lib.bytesOf xs) (c := (47 : Int).toNat.toUInt8) (by omega)
    obtain ⟨j, hj, rfl⟩ := List.getElem_of_mem hx
    have h2 := h1 j
    simp only [Bool.not_eq_true', decide_eq_false_iff_not]
    intro e
    apply h2
    unfold Lib.bytesOf
    rw [List.getElem?_map, List.getElem?_eq_getElem hj, e]
    rfl
  · intro h
    by_cases hn : Lib.indexByte (Lib.bytesOf xs) (47 : Int).toNat.toUInt8 < 0
    · exact hn
    · exfalso
      obtain ⟨o, ho⟩ : ∃ o : Nat, Lib.indexByte (Lib.bytesOf xs) (47 : Int).toNat.toUInt8 = o := ⟨_, (Int.toNat_of_nonneg (by omega)).symm⟩
      have h1 := (Lib.indexByte_some ho).1
      unfold Lib.bytesOf at h1
      rw [List.getElem?_map] at h1
      obtain ⟨x, hx, hxe⟩ := Option.map_eq_some_iff.1 h1
      have hm := List.mem_of_getElem? hx
      have h2 := h x hm
      have h3 := hr x hm
      simp only [Bool.not_eq_true', decide_eq_false_iff_not] at h2
      apply h2
      have h4 := congrArg UInt8.toNat hxe
      simp at h4
      omega

set_option maxHeartbeats 1000000 in
theorem iPartV (v : Value) (xs : List Int) (w : World) (h : RV w v xs) : Calls Try.prog 37 #[v] w fun e w' => e = .returned (.bool (partB xs)) ∧ w' = w := by
  have HK : Hid (Calls Try.prog 47 #[v] w fun e w' => e = .returned (.bool (keyB xs)) ∧ w' = w) := keyOkV v xs w h
  have HD : Hid (partB xs = (xs.all (fun c => !decide (c = 47)) && keyB xs)) := rfl
  have hrg := rv_rngK h
  obtain ⟨a, cap, rfl, hr, h1, h2⟩ := h
  cases hk : keyB xs
  · have HE : Hid (partB xs = false) := by show _ = _; rw [HD.out, hk, Bool.and_false]
    go_enter Try.func37, Try.ntmps37
    go_wp2_with (go_at_call 47; refine HK.out.mono ?_; rintro e w1 ⟨rfl, rfl⟩; rw [hk])
    go_ret
    exact ⟨by rw [HE.out]; rfl, rfl⟩
  · have hl : 0 < xs.length := by
      rcases Nat.eq_zero_or_pos xs.length with e | e
      · exfalso
        have : xs = [] := List.length_eq_zero_iff.1 e
        rw [this] at hk
        exact absurd hk (by decide)
      · exact e
    have HE : Hid (partB xs = decide (Lib.indexByte (Lib.bytesOf xs) (47 : Int).toNat.toUInt8 < 0)) := by show _ = _; rw [HD.out, hk, Bool.and_true, idx47 hrg]
    obtain ⟨b, o, rfl, _, hc⟩ := hr.pos hl
    have hrun := run_idx (c := cap) rfl hc 47
    obtain ⟨r, hre⟩ : ∃ r, r = Lib.indexByte (Lib.bytesOf xs) (47 : Int).toNat.toUInt8 := ⟨_, rfl⟩
    rw [← hre] at hrun HE
    have HIX : Hid (Calls Try.prog 48 #[.slice (some ⟨b, o, none⟩) xs.length cap, .int .u8 47] w fun e w' => e = .returned (.int .i64 r) ∧ w' = w) := by
      show Calls _ _ _ _ _
      clear HD HE HK hre hc hk
      go_enter Try.func48, Try.ntmps48
      go_wp2
      go_ret
      exact ⟨rfl, rfl⟩
    clear hrun hre hc HD hr
    go_enter Try.func37, Try.ntmps37
    go_wp2_with (first | (go_at_call 47; refine HK.out.mono ?_; rintro e w1 ⟨rfl, rfl⟩; rw [hk]) | (go_at_call 48; refine HIX.out.mono ?_; rintro e w1 ⟨rfl, rfl⟩))
    go_ret
    exact ⟨by rw [HE.out]; rfl, rfl⟩

theorem rd_blk {W : World} {g : Nat} {xs : List Int} (p : W.heap[g]? = some (.cells (xs.map (Value.int .u8)).toArray 5 (0, 0))) (hr : ∀ x ∈ xs, 0 ≤ x ∧ x ≤ 255) : Rd W (some ⟨g, 0, none⟩) xs.length xs :=
  ⟨rfl, fun i hi => ⟨g, 0, rfl, by
    refine (at_block p (0 + i) _ ?_).1
    rw [List.getElem?_toArray, Nat.zero_add, List.getElem?_map, List.getElem?_eq_getElem hi, List.getD_eq_getElem?_getD, List.getElem?_eq_getElem hi]
    rfl⟩, hr⟩

set_option maxRecDepth 20000 in
set_option maxHeartbeats 2000000 in
theorem iPlaceV (nv mv : Value) (node name : List Int) (w : World) (h1 : RV w nv node) (h2 : RV w mv name) (l1 : node.length ≤ 1048576) (l2 : name.length ≤ 1048576) :
    Calls Try.prog 20 #[nv, mv] w fun e w' => ∃ v, e = .returned v ∧ Ow w' w.heap.size v (placeL node name) ∧ Below w.heap.size w w' := by
  have hE : ∀ w : World, ∀ o, Ext w (w.alloc o) := fun w o => World.grownBy_alloc _ _ _
  obtain ⟨na, nc, rfl, r1, _, _⟩ := h1
  obtain ⟨ma, mc, rfl, r2, _, _⟩ := h2
  have HC : Hid (∀ W : World, Ext w W → Rd W (some ⟨w.heap.size, 0, none⟩) 4 [115, 118, 99, 47] → W.heap[w.heap.size + 1]? = some (.cells #[.int .u8 47] 5 (0, 0)) →
      W.heap[w.heap.size + 1 + 1]? = some (.cells #[.slice (some ⟨w.heap.size, 0, none⟩) 4 4, .slice na node.length nc, .slice (some ⟨w.heap.size + 1, 0, none⟩) 1 1, .slice ma name.length mc] 22 (0, 0)) →
      Calls Try.prog 40 #[.slice (some ⟨w.heap.size + 1 + 1, 0, none⟩) 4 4] W fun e w' => ∃ v, e = .returned v ∧ Ow w' w.heap.size v (placeL node name) ∧ Below W.heap.size W w') := fun W X p0 p1 p2 => by
    have c0 := conc (w.heap.size + 1 + 1) 4 4 (fun j => if j = 0 then some ⟨w.heap.size, 0, none⟩ else if j = 1 then na else if j = 2 then some ⟨w.heap.size + 1, 0, none⟩ else ma) (fun j => if j = 0 then 4 else if j = 1 then node.length else if j = 2 then 1 else name.length)
      (fun j => if j = 0 then 4 else if j = 1 then nc else if j = 2 then 1 else mc) (fun j => if j = 0 then [115, 118, 99, 47] else if j = 1 then node else if j = 2 then [47] else name) W (by omega) (fun j hj => by
        obtain rfl | rfl | rfl | rfl : j = 0 ∨ j = 1 ∨ j = 2 ∨ j = 3 := by omega
        · exact (at_block p2 0 _ rfl).1
        · exact (at_block p2 1 _ rfl).1
        · exact (at_block p2 2 _ rfl).1
        · exact (at_block p2 3 _ rfl).1) (fun j hj => by
        obtain rfl | rfl | rfl | rfl : j = 0 ∨ j = 1 ∨ j = 2 ∨ j = 3 := by omega
        · exact p0
        · exact r1.grown X
        · exact rd_blk (xs := [47]) p1 (by decide)
        · exact r2.grown X) (by simp [cat]; omega)
    refine c0.mono fun e w' ⟨v, h1, h2, h3⟩ => ⟨v, h1, ?_, h3⟩
    have h4 := ow_base h2 (Nat.le_trans (by omega) X.size : w.heap.size ≤ W.heap.size)
    have h5 : cat (fun j => if j = 0 then [115, 118, 99, 47] else if j = 1 then node else if j = 2 then [47] else name) 4 = placeL node name := by simp [cat, placeL]
    rw [h5] at h4
    exact h4
  have kc := fun (w : World) (C : Array Value) (n c : Nat) => Lib.run_convert_bytes_const (P := Try.prog) w 22 5 C n c Try.underlying22 Try.underlying5
  have kcw := kc w #[.int .u8 115, .int .u8 118, .int .u8 99, .int .u8 47] 4 4
  clear kc
  have HR4 : Hid (Rd (w.alloc (.cells #[.int .u8 115, .int .u8 118, .int .u8 99, .int .u8 47] 5 (4, 4 + 1))) (some ⟨w.heap.size, 0, none⟩) 4 [115, 118, 99, 47]) := by
    obtain ⟨a1, c1, e1, r1, _, _⟩ := (m_const4 w).rv (by decide)
    cases e1
    exact r1
  clear r1 r2
  go_enter Try.func20, Try.ntmps20
  go_wp2_with fail
  refine (HC.out _ (((hE _ _).tr (hE _ _)).tr (hE _ _)) (HR4.out.grown ((hE _ _).tr (hE _ _))) (h3_1 _ _ _ _) (h3_2 _ _ _ _)).mono ?_
  rintro e w1 ⟨v, rfl, o1, b1⟩
  have HO := hidL o1
  have HB : Hid (Below w.heap.size w w1) := (((((Below.refl _ w).alloc (Nat.le_refl _) _).alloc (by simp) _).alloc (by simp; omega) _)).trans (b1.mono (by simp; omega))
  clear o1 b1
  go_wp2
  go_ret
  exact ⟨_, rfl, HO.out, HB.out⟩

end Go.Proofs.Ytollbjbgncjkoaa

namespace Go.Proofs.Ytollbjbgncjkoaa
open Go.RowKit

def ChksB (cs : List DChk) : Prop := cs.length ≤ 4 ∧ ChksP cs

set_option maxRecDepth 20000 in
set_option maxHeartbeats 4000000 in
theorem iChecksOkV (v : Value) (cs : List DChk) (w : World) (h : VChks w v cs) (hl : cs.length ≤ 1048576) :
    Calls Try.prog 49 #[v] w fun e w' => e = .returned (.bool (tB (ChksB cs))) ∧ Below w.heap.size w w' := by
  have hE : ∀ w : World, ∀ o, Ext w (w.alloc o) := fun w o => World.grownBy_alloc _ _ _
  obtain ⟨D, ⟨a, cd, rfl, q4, q5, q6⟩, hD⟩ := h
  obtain ⟨cl, hcl⟩ : ∃ cl, cl = cs.length := ⟨_, rfl⟩
  have HCL := hidL hcl
  rw [← hcl] at q4 q6 hl ⊢
  have HD : Hid (∀ i d, cs[i]? = some d → RV w (D i 0) d.name ∧ D i 1 = .int .i64 d.ttl ∧ D i 2 = .int .i64 d.most ∧ D i 3 = .int .i64 d.st ∧ D i 4 = .int .i64 d.age ∧ D i 5 = .int .i64 d.fails) := hD
  have H6 : Hid (0 < cl → ∃ b o, a = some ⟨b, o, none⟩ ∧ b < w.heap.size ∧ ∀ i, i < cl → ∀ j, j < 6 → w.cell? ⟨b, o + i * 6 + j, none⟩ = some (D i j)) := q6
  have hcm : (cl : Int) ≤ 1048576 := by omega
  obtain ⟨R, hR⟩ : ∃ R, R = tB (ChksB cs) := ⟨_, rfl⟩
  rw [← hR]
  have HNO : Hid (¬ ChksB cs → R = false) := fun h => by rw [hR]; exact tB_false h
  have HYE : Hid (ChksB cs → R = true) := fun h => by rw [hR]; exact tB_true h
  clear hD q6 q5 hR hcl
  go_enter Try.func49, Try.ntmps49
  by_cases h4 : 4 < cl
  · have HK : Hid (R = false) := HNO.out (fun h => by have := h.1; have := HCL.out; omega)
    have h4' : (4 : Int) < (cl : Int) := by omega
    go_wp2
    go_ret
    exact ⟨by rw [HK.out]; rfl, Below.refl _ w⟩
  have h4' : ¬ (4 : Int) < (cl : Int) := by omega
  go_wp2
  go_loopw [10] (fun i wr => ∃ j : Nat, j ≤ cl ∧ i = .int .i64 j ∧ Hid (∀ t, t < j → ChkAt cs t) ∧ Hid (Below w.heap.size w wr)) (fun i _ => cl - (intOf i).toNat)
  case atStart => exact ⟨0, Nat.zero_le _, rfl, fun j hj => absurd hj (by omega), Below.refl _ w⟩
  case round =>
    obtain ⟨j, hj, rfl, hdone, hb⟩ := hrel
    by_cases hjl : j < cl
    · obtain ⟨g, og, rfl, hgl, hgc⟩ := H6.out (by omega)
      obtain ⟨c, hcs⟩ : ∃ c, cs[j]? = some c := ⟨_, List.getElem?_eq_getElem (by have := HCL.out; omega)⟩
      obtain ⟨f0, f1, f2, f3, f4, f5⟩ := HD.out j c hcs
      have XV : Ext w wr := ext_below hb.out
      have r0 := f0.ext XV
      obtain ⟨ma, mc, hmv⟩ := rv_shape f0
      have cc0 := World.grownBy.cell XV (hgc j hjl 0 (by omega)) (by simp)
      rw [Nat.add_zero, hmv] at cc0
      rw [hmv] at r0
      have cc1 := World.grownBy.cell XV (hgc j hjl 1 (by omega)) (by simp)
      rw [f1] at cc1
      have cc2 := World.grownBy.cell XV (hgc j hjl 2 (by omega)) (by simp)
      rw [f2] at cc2
      have cc3 := World.grownBy.cell XV (hgc j hjl 3 (by omega)) (by simp)
      rw [f3] at cc3
      have cc4 := World.grownBy.cell XV (hgc j hjl 4 (by omega)) (by simp)
      rw [f4] at cc4
      have cc5 := World.grownBy.cell XV (hgc j hjl 5 (by omega)) (by simp)
      rw [f5] at cc5
      have HCI := hidL (chkAt_iff hcs)
      have hjl' : (j : Int) < (cl : Int) := by omega
      have HGC := hidL (show ∀ i, i < cl → ∀ j, j < 6 → w.cell? ⟨g, og + i * 6 + j, none⟩ = some (D i j) from hgc)
      have HXV := hidL XV
      have HRN := hidL r0
      have HNX : Hid (ChkAt cs j → ∀ t, t < j + 1 → ChkAt cs t) := fun h t ht => by
        by_cases e : t = j
        · subst e; exact h
        · exact hdone.out t (by omega)
      have HFC : Hid (¬ ChkAt cs j → R = false) := fun h => HNO.out (fun h' => h (h'.2 j (by have := HCL.out; omega)))
      clear hgc f0 f1 f2 f3 f4 f5 hmv hcs XV hdone r0
      obtain ⟨cn, hcn⟩ : ∃ cn, cn = c.name.length := ⟨_, rfl⟩
      rw [← hcn] at cc0 HRN
      clear hcn
      go_upto_region 6 with fail
      generalize hV : World.alloc wr _ = V
      have XV2 : Ext wr V := by rw [← hV]; exact hE _ _
      have PV : V.heap[wr.heap.size]? = some (.cells #[.slice ma cn mc, .int .i64 c.ttl, .int .i64 c.most, .int .i64 c.st, .int .i64 c.age, .int .i64 c.fails] 62 (0, 0)) := by rw [← hV]; exact heap_alloc_new wr _
      clear hV
      have HX2 := hidL XV2
      have HBV := hidL (hb.out.trans ((ext_bel XV2).mono hb.out.size))
      have y0 := bw_cell (at_block PV 0 _ rfl).1
      have y1 := bw_cell (at_block PV 1 _ rfl).1
      have y2 := bw_cell (at_block PV 2 _ rfl).1
      have y3 := bw_cell (at_block PV 3 _ rfl).1
      have y4 := bw_cell (at_block PV 4 _ rfl).1
      have y5 := bw_cell (at_block PV 5 _ rfl).1
      clear cc0 cc1 cc2 cc3 cc4 cc5 XV2 PV
      have nonV := bw_ne V
      obtain ⟨b1, hb1⟩ : ∃ b1, b1 = chkB c := ⟨_, rfl⟩
      have HB1 := hidL hb1
      have HCO : Hid (∀ U, Ext V U → Calls Try.prog 42 #[.agg #[.slice ma cn mc, .int .i64 c.ttl, .int .i64 c.most, .int .i64 c.st, .int .i64 c.age, .int .i64 c.fails]] U fun e w' => e = .returned (.bool b1) ∧ Below U.heap.size U w') := fun U e => by
        rw [hb1]
        exact iCheckOkV _ c U ⟨_, rfl, (HRN.out.ext HX2.out).ext e⟩
      clear hb1
      go_cut [33] from 15 to 33 (fun s33 wx => ∃ bb, s33 = .bool bb ∧ Hid (bb = true → ¬ ChkAt cs j) ∧ Hid (bb = false → ChkAt cs j) ∧ Hid (Below V.heap.size V wx))
      case first =>
        cases b1
        case false =>
          have HK : Hid (¬ ChkAt cs j) := fun h => by have h1 := (HCI.out.1 h).1; rw [← HB1.out] at h1; cases h1
          refine wp_region_bw (by kernel_rfl) (by kernel_rfl) ?_
          repeat (go_big_quiet_step ((go_at_call 42; exact bw_below (HCO.out _ (bw_ext _)))))
          refine wpQuiet_nil ?_
          rintro _ ⟨z, rfl⟩
          go_wp2_with fail
          go_meet
          exact ⟨true, rfl, fun _ => HK.out, fun h => (by cases h), z.h⟩
        case true =>
          by_cases hj0 : j = 0
          · have hkd : decide ((0 : Int) < (j : Int)) = false := decide_eq_false (by omega)
            have hkn : decide (0 < j) = false := decide_eq_false (by omega)
            have HJ0 := hidL hj0
            clear hj0
            refine wp_region_bw (by kernel_rfl) (by kernel_rfl) ?_
            repeat (go_big_quiet_step ((go_at_call 42; exact bw_below (HCO.out _ (bw_ext _)))))
            refine wpQuiet_nil ?_
            rintro _ ⟨z, rfl⟩
            go_wp2_with fail
            go_meet
            exact ⟨false, by simp, fun h => (by cases h), fun _ => HCI.out.2 ⟨HB1.out.symm, fun p h => by have := HJ0.out; omega⟩, z.h⟩
          · obtain ⟨p, hp⟩ : ∃ p, cs[j - 1]? = some p := ⟨_, List.getElem?_eq_getElem (by have := HCL.out; omega)⟩
            obtain ⟨j', rfl⟩ : ∃ j', j = j' + 1 := ⟨j - 1, by omega⟩
            have hpi : cs[j']? = some p := hp
            obtain ⟨f0, _⟩ := HD.out j' p hpi
            obtain ⟨pa, pc, hpv⟩ := rv_shape f0
            have y6 := World.grownBy.cell (HXV.out.tr HX2.out) (HGC.out j' (by omega) 0 (by omega)) (by simp)
            rw [Nat.add_zero, hpv] at y6
            rw [hpv] at f0
            have y7 := bw_cell y6
            obtain ⟨pn, hpn⟩ : ∃ pn, pn = p.name.length := ⟨_, rfl⟩
            rw [← hpn] at y7 f0
            obtain ⟨r, hr⟩ : ∃ r, r = cmpK p.name c.name := ⟨_, rfl⟩
            have HR : Hid (r < 0 ↔ ltK p.name c.name = true) := by show _ ↔ _; rw [hr]; exact cmpK_lt _ _
            have HCM : Hid (∀ U, Ext V U → Calls Try.prog 39 #[.slice pa pn pc, .slice ma cn mc] U fun e w' => e = .returned (.int .i64 r) ∧ w' = U) := fun U e => by
              rw [hr]
              exact compareE _ _ _ _ U ((f0.ext (HXV.out.tr HX2.out)).ext e) ((HRN.out.ext HX2.out).ext e)
            have HPI := hidL hpi
            have hw1 : IntKind.i64.wrap ((j' : Int) + 1 - 1) = (j' : Int) := by rw [Int.add_sub_cancel, IntKind.wrap_i64]; omega
            have hw2 : IntKind.i64.wrap (j' : Int) = (j' : Int) := by rw [IntKind.wrap_i64]; omega
            have hkd : decide ((0 : Int) < (j' : Int) + 1) = true := decide_eq_true (by omega)
            have hkm : (j' : Int) < (cl : Int) := by omega
            clear hj0 hp hpi f0 hpv y6 hpn hr
            refine wp_region_bw (by kernel_rfl) (by kernel_rfl) ?_
            repeat (go_big_quiet_step ((first | (go_at_call 42; exact bw_below (HCO.out _ (bw_ext _))) | (go_at_call 39; exact bw_same (HCM.out _ (bw_ext _))))))
            refine wpQuiet_nil ?_
            rintro _ ⟨z, rfl⟩
            go_wp2_with fail
            go_meet
            refine ⟨decide (0 ≤ r), by simp, fun h h' => ?_, fun h => HCI.out.2 ⟨HB1.out.symm, fun q _ hq => ?_⟩, z.h⟩
            · have h1 := (HCI.out.1 h').2 p (by omega) HPI.out
              have h2 := HR.out.2 h1
              have h3 := of_decide_eq_true h
              omega
            · have h2 : cs[j']? = some q := hq
              rw [HPI.out] at h2
              cases h2
              have h3 := of_decide_eq_false h
              exact HR.out.1 (by omega)
      obtain ⟨bb, rfl, HBT, HBF, HBY⟩ := hcut
      clear y0 y1 y2 y3 y4 y5
      have HZ := hidL (HBV.out.trans (HBY.out.mono HBV.out.size))
      cases bb
      · have HK := hidL (HNX.out (HBF.out rfl))
        clear HBT HBF HFC HCI
        go_wp2
        go_roundw
        case rel => exact ⟨j + 1, by omega, by go_num, HK, HZ⟩
        case measure => simp [intOf]; omega
      · have HK : Hid (R = false) := HFC.out (HBT.out rfl)
        clear HBT HBF HFC HCI
        go_wp2
        go_ret
        exact ⟨by rw [HK.out]; rfl, HZ.out⟩
    · have hjl2 : j = cl := by omega
      subst hjl2
      have HK : Hid (R = true) := HYE.out ⟨by have := HCL.out; omega, fun t ht => hdone.out t (by have := HCL.out; omega)⟩
      go_wp2
      go_ret
      exact ⟨by rw [HK.out]; rfl, hb.out⟩

def SvcP (node : List Int) (s : DSvc) : Prop := partB s.name = true ∧ keyB (placeL node s.name) = true ∧ ChksB s.checks

set_option maxRecDepth 20000 in
set_option maxHeartbeats 2000000 in
theorem iServiceOkV (nv sv : Value) (node : List Int) (s : DSvc) (w : World) (h : RV w nv node) (k : VSvc w sv s) (hn : node.length ≤ 1048576) (hl : LenSv s) :
    Calls Try.prog 38 #[nv, sv] w fun e w' => e = .returned (.bool (tB (SvcP node s))) ∧ Below w.heap.size w w' := by
  have hE : ∀ w : World, ∀ o, Ext w (w.alloc o) := fun w o => World.grownBy_alloc _ _ _
  obtain ⟨mv, cv, rfl, hm, hc⟩ := k
  obtain ⟨na, nc, rfl⟩ := rv_shape h
  obtain ⟨ma, mc, rfl⟩ := rv_shape hm
  obtain ⟨ca, cc, rfl⟩ := chks_shape hc
  obtain ⟨nn, hnn⟩ : ∃ nn, nn = node.length := ⟨_, rfl⟩
  obtain ⟨mn, hmn⟩ : ∃ mn, mn = s.name.length := ⟨_, rfl⟩
  obtain ⟨cn, hcn⟩ : ∃ cn, cn = s.checks.length := ⟨_, rfl⟩
  rw [← hnn] at h ⊢
  rw [← hmn] at hm ⊢
  rw [← hcn] at hc ⊢
  obtain ⟨R, hR⟩ : ∃ R, R = tB (SvcP node s) := ⟨_, rfl⟩
  rw [← hR]
  have HNO : Hid (¬ SvcP node s → R = false) := fun h => by rw [hR]; exact tB_false h
  have HYE : Hid (SvcP node s → R = true) := fun h => by rw [hR]; exact tB_true h
  have HP : Hid (∀ V, Ext w V → Calls Try.prog 37 #[.slice ma mn mc] V fun e w' => e = .returned (.bool (partB s.name)) ∧ w' = V) := fun V e => iPartV _ _ V (hm.ext e)
  have HQ : Hid (∀ V, Ext w V → Calls Try.prog 20 #[.slice na nn nc, .slice ma mn mc] V fun e w' => ∃ v, e = .returned v ∧ RV w' v (placeL node s.name) ∧ Below V.heap.size V w') := fun V e => (iPlaceV _ _ _ _ V (h.ext e) (hm.ext e) hn hl.1).mono fun e' w' ⟨v, h1, h2, h3⟩ => ⟨v, h1, Ow.rv h2 (placeL_rng (rv_rngK h) (rv_rngK hm)), h3⟩
  have HC : Hid (∀ V, Ext w V → Calls Try.prog 49 #[.slice ca cn cc] V fun e w' => e = .returned (.bool (tB (ChksB s.checks))) ∧ Below V.heap.size V w') := fun V e => iChecksOkV _ _ V (hc.ext e) hl.2.1
  clear h hm hc hnn hmn hcn hR
  go_enter Try.func38, Try.ntmps38
  cases hp : partB s.name
  · have HK : Hid (R = false) := HNO.out (fun h => by have h1 := h.1; rw [hp] at h1; cases h1)
    go_wp2_with (go_at_call 37; refine (HP.out _ (hE _ _)).mono ?_; rintro e w1 ⟨rfl, rfl⟩; rw [hp])
    go_ret
    exact ⟨by rw [HK.out]; rfl, ext_bel (hE _ _)⟩
  go_wp2_with (first | (go_at_call 37; refine (HP.out _ (hE _ _)).mono ?_; rintro e w1 ⟨rfl, rfl⟩; rw [hp]))
  refine (HQ.out _ (hE _ _)).mono ?_
  rintro e w2 ⟨v, rfl, rv, b2⟩
  obtain ⟨va, vc, rfl⟩ := rv_shape rv
  have HB2 := hidL ((ext_bel (hE w _)).trans (b2.mono (by simp)))
  have z1 := World.grownBy.cell (ext_below b2) (at_block (heap_alloc_new w _) 1 _ rfl).1 (by simp)
  clear b2
  cases hk : keyB (placeL node s.name)
  · have HK : Hid (R = false) := HNO.out (fun h => by have h1 := h.2.1; rw [hk] at h1; cases h1)
    go_wp2_with (go_at_call 47; refine (keyOkV _ _ _ rv).mono ?_; rintro e w1 ⟨rfl, rfl⟩; rw [hk])
    go_ret
    exact ⟨by rw [HK.out]; rfl, HB2.out⟩
  go_wp2_with (first | (go_at_call 47; refine (keyOkV _ _ _ rv).mono ?_; rintro e w1 ⟨rfl, rfl⟩; rw [hk]))
  refine (HC.out _ (ext_below HB2.out)).mono ?_
  rintro e w3 ⟨rfl, b3⟩
  have HB3 := hidL (HB2.out.trans (b3.mono HB2.out.size))
  have HK : Hid (R = tB (ChksB s.checks)) := by
    show _ = _
    by_cases hh : ChksB s.checks
    · rw [tB_true hh]; exact HYE.out ⟨hp, hk, hh⟩
    · rw [tB_false hh]; exact HNO.out (fun h => hh h.2.2)
  generalize tB (ChksB s.checks) = t at HK ⊢
  clear b3 rv z1
  go_wp2
  go_ret
  exact ⟨by rw [HK.out]; rfl, HB3.out⟩

end Go.Proofs.Ytollbjbgncjkoaa

namespace Go.Proofs.Ytollbjbgncjkoaa
open Go.RowKit

theorem svcAt_svcP {node : List Int} {ss : List DSvc} {i : Nat} {s : DSvc} (h : ss[i]? = some s) : SvcAt node ss i ↔ SvcP node s ∧ ∀ p, 0 < i → ss[i - 1]? = some p → ltK p.name s.name = true := by
  rw [svcAt_iff h]
  unfold SvcP ChksB
  constructor
  · rintro ⟨h1, h2, h3, h4, h5⟩
    exact ⟨⟨h1, h2, h3, h5⟩, h4⟩
  · rintro ⟨⟨h1, h2, h3, h5⟩, h4⟩
    exact ⟨h1, h2, h3, h4, h5⟩

set_option maxRecDepth 20000 in
set_option maxHeartbeats 4000000 in
theorem iLocalOkV (v : Value) (L : DLoc) (w : World) (h : VLoc w v L) (hl : LenLo L) :
    Calls Try.prog 19 #[v] w fun e w' => e = .returned (.bool (tB (LocP L))) ∧ Below w.heap.size w w' := by
  have hE : ∀ w : World, ∀ o, Ext w (w.alloc o) := fun w o => World.grownBy_alloc _ _ _
  obtain ⟨nv, sv, rfl, hn, hs⟩ := h
  have HL := hidL hl
  obtain ⟨na, nc, hnv⟩ := rv_shape hn
  obtain ⟨nn, hnn⟩ : ∃ nn, nn = L.node.length := ⟨_, rfl⟩
  rw [← hnn] at hnv
  subst hnv
  have HNV : Hid (RV w (.slice na nn nc) L.node) := hn
  obtain ⟨C, ⟨a, sc, rfl, q1, q2, q3⟩, hC⟩ := hs
  obtain ⟨m, hm⟩ : ∃ m, m = L.svcs.length := ⟨_, rfl⟩
  have HM := hidL hm
  have HC : Hid (∀ i d, L.svcs[i]? = some d → RV w (C i 0) d.name ∧ VChks w (C i 1) d.checks) := hC
  rw [← hm] at q1 q3 ⊢
  have H3 : Hid (0 < m → ∃ b o, a = some ⟨b, o, none⟩ ∧ b < w.heap.size ∧ ∀ i, i < m → ∀ j, j < 2 → w.cell? ⟨b, o + i * 2 + j, none⟩ = some (C i j)) := q3
  have hmm : (m : Int) ≤ 1048576 := by have := hl.2.1; omega
  obtain ⟨R, hR⟩ : ∃ R, R = tB (LocP L) := ⟨_, rfl⟩
  rw [← hR]
  have HNO : Hid (¬ LocP L → R = false) := fun h => by rw [hR]; exact tB_false h
  have HYE : Hid (LocP L → R = true) := fun h => by rw [hR]; exact tB_true h
  unfold maxLen at q2
  clear hn hnn hC hm q3 hR hl
  go_enter Try.func19, Try.ntmps19
  go_wp2_with fail
  generalize hW : World.alloc w _ = W
  have XW : Ext w W := by rw [← hW]; exact hE _ _
  have P0 : W.heap[w.heap.size]? = some (.cells #[.slice na nn nc, .slice a m sc] 31 (0, 0)) := by rw [← hW]; exact heap_alloc_new w _
  clear hW
  refine (iPartV (.slice na nn nc) L.node W (HNV.out.ext XW)).mono ?_
  rintro e w1 ⟨rfl, rfl⟩
  have HP0 := hidL P0
  have HXW := hidL XW
  obtain ⟨p0, f0⟩ := at_block P0 0 _ rfl
  obtain ⟨p1, f1⟩ := at_block P0 1 _ rfl
  clear P0 XW f0 f1
  cases hb : partB L.node
  · have HK : Hid (R = false) := HNO.out (fun h => by have h1 := h.1; rw [hb] at h1; cases h1)
    clear hb
    go_wp2
    go_ret
    exact ⟨by rw [HK.out]; rfl, ext_bel HXW.out⟩
  have HNB := hidL hb
  clear hb
  by_cases h6 : 6 < m
  · have HK : Hid (R = false) := HNO.out (fun h => by have := h.2.1; have := HM.out; omega)
    have h6' : (6 : Int) < (m : Int) := by omega
    go_wp2
    go_ret
    exact ⟨by rw [HK.out]; rfl, ext_bel HXW.out⟩
  have h6' : ¬ (6 : Int) < (m : Int) := by omega
  go_wp2
  go_loopw [18] (fun i wr => ∃ k : Nat, k ≤ m ∧ i = .int .i64 k ∧ Hid (∀ j, j < k → SvcAt L.node L.svcs j) ∧ Hid (Ext w1 wr)) (fun i _ => m - (intOf i).toNat)
  case atStart => exact ⟨0, Nat.zero_le _, rfl, fun j hj => absurd hj (by omega), grown_same _ _⟩
  case round =>
    obtain ⟨k, hk, rfl, hall, hX⟩ := hrel
    clear p0 p1
    have PX := ext_blk hX.out HP0.out
    obtain ⟨p0, f0⟩ := at_block PX 0 _ rfl
    obtain ⟨p1, f1⟩ := at_block PX 1 _ rfl
    clear PX f0 f1
    by_cases hlt : k < m
    · obtain ⟨b, o, rfl, hbl, hc⟩ := H3.out (by omega)
      obtain ⟨s, hs⟩ : ∃ s, L.svcs[k]? = some s := ⟨_, List.getElem?_eq_getElem (by have := HM.out; omega)⟩
      obtain ⟨e0, e1⟩ := HC.out k s hs
      have HLS := hidL (HL.out.2.2 k s hs)
      have HXA := hidL (HXW.out.tr hX.out)
      obtain ⟨ka, kc, hkv⟩ := rv_shape e0
      obtain ⟨cb, cd, hcv⟩ := chks_shape e1
      obtain ⟨kl, hkl⟩ : ∃ kl, kl = s.name.length := ⟨_, rfl⟩
      obtain ⟨cl, hcl⟩ : ∃ cl, cl = s.checks.length := ⟨_, rfl⟩
      rw [← hkl] at hkv
      rw [← hcl] at hcv
      rw [hkv] at e0
      rw [hcv] at e1
      have x0 := World.grownBy.cell HXA.out (hc k hlt 0 (by omega)) (by simp)
      rw [Nat.add_zero, hkv] at x0
      have x1 := World.grownBy.cell HXA.out (hc k hlt 1 (by omega)) (by simp)
      rw [hcv] at x1
      have HCB := hidL (show ∀ i, i < m → ∀ j, j < 2 → w.cell? ⟨b, o + i * 2 + j, none⟩ = some (C i j) from hc)
      have HNM : Hid (RV wr (.slice ka kl kc) s.name) := e0.ext HXA.out
      have HCK : Hid (VChks wr (.slice cb cl cd) s.checks) := e1.ext HXA.out
      have HSI := hidL (svcAt_svcP (node := L.node) hs)
      have hlt' : (k : Int) < (m : Int) := by omega
      have HAA : Hid (SvcAt L.node L.svcs k → ∀ j, j < k + 1 → SvcAt L.node L.svcs j) := fun h j hj => by
        by_cases e : j = k
        · subst e; exact h
        · exact hall.out j (by omega)
      have HF : Hid (¬ SvcAt L.node L.svcs k → R = false) := fun h => HNO.out (fun h' => h (h'.2.2 k (by have := HM.out; omega)))
      have HSS := hidL hs
      clear hc hkv hcv e0 e1 hs hall hkl hcl
      go_upto_region 6 with fail
      generalize hU : World.alloc wr _ = U
      have XU : Ext wr U := by rw [← hU]; exact hE _ _
      have PU : U.heap[wr.heap.size]? = some (.cells #[.slice ka kl kc, .slice cb cl cd] 45 (0, 0)) := by rw [← hU]; exact heap_alloc_new wr _
      clear hU
      have HXU := hidL XU
      have HBU := hidL (ext_bel (HXA.out.tr XU))
      obtain ⟨b1, hb1⟩ : ∃ b1, b1 = tB (SvcP L.node s) := ⟨_, rfl⟩
      have HB1 := hidL hb1
      have HSV : Hid (∀ V, Ext U V → Calls Try.prog 38 #[.slice na nn nc, .agg #[.slice ka kl kc, .slice cb cl cd]] V fun e w' => e = .returned (.bool b1) ∧ Below V.heap.size V w') := fun V e => by
        rw [hb1]
        exact iServiceOkV _ _ L.node s V ((HNV.out.ext (HXA.out.tr HXU.out)).ext e) ⟨_, _, rfl, (HNM.out.ext HXU.out).ext e, (HCK.out.ext HXU.out).ext e⟩ HL.out.1 HLS.out
      clear hb1
      have z0 := bw_cell (at_block PU 0 _ rfl).1
      have z1 := bw_cell (at_block PU 1 _ rfl).1
      have z2 := bw_cell (World.grownBy.cell XU p0 (by simp))
      have z3 := bw_cell (World.grownBy.cell XU p1 (by simp))
      clear p0 p1 x0 x1 XU PU
      have nonV := bw_ne U
      go_cut [44] from 23 to 44 (fun s44 wx => ∃ bb, s44 = .bool bb ∧ Hid (bb = true → ¬ SvcAt L.node L.svcs k) ∧ Hid (bb = false → SvcAt L.node L.svcs k) ∧ Hid (Below U.heap.size U wx))
      case first =>
        cases b1
        case false =>
          have HK : Hid (¬ SvcAt L.node L.svcs k) := fun h => by have h1 := tB_true (HSI.out.1 h).1; rw [← HB1.out] at h1; cases h1
          refine wp_region_bw (by kernel_rfl) (by kernel_rfl) ?_
          repeat (go_big_quiet_step ((go_at_call 38; exact bw_below (HSV.out _ (bw_ext _)))))
          refine wpQuiet_nil ?_
          rintro _ ⟨z, rfl⟩
          go_wp2_with fail
          go_meet
          exact ⟨true, rfl, fun _ => HK.out, fun h => (by cases h), z.h⟩
        case true =>
          have HSP : Hid (SvcP L.node s) := tB_iff.1 HB1.out.symm
          by_cases hk0 : k = 0
          · have hkd : decide ((0 : Int) < (k : Int)) = false := decide_eq_false (by omega)
            have hkn : decide (0 < k) = false := decide_eq_false (by omega)
            have HK0 := hidL hk0
            clear hk0
            refine wp_region_bw (by kernel_rfl) (by kernel_rfl) ?_
            repeat (go_big_quiet_step ((go_at_call 38; exact bw_below (HSV.out _ (bw_ext _)))))
            refine wpQuiet_nil ?_
            rintro _ ⟨z, rfl⟩
            go_wp2_with fail
            go_meet
            exact ⟨false, by simp, fun h => (by cases h), fun _ => HSI.out.2 ⟨HSP.out, fun p h => by have := HK0.out; omega⟩, z.h⟩
          · obtain ⟨p, hp⟩ : ∃ p, L.svcs[k - 1]? = some p := ⟨_, List.getElem?_eq_getElem (by have := HM.out; omega)⟩
            obtain ⟨k', rfl⟩ : ∃ k', k = k' + 1 := ⟨k - 1, by omega⟩
            have hpi : L.svcs[k']? = some p := hp
            obtain ⟨f0, _⟩ := HC.out k' p hpi
            obtain ⟨pa, pc, hpv⟩ := rv_shape f0
            have y6 := World.grownBy.cell (HXA.out.tr HXU.out) (HCB.out k' (by omega) 0 (by omega)) (by simp)
            rw [Nat.add_zero, hpv] at y6
            rw [hpv] at f0
            have y7 := bw_cell y6
            obtain ⟨pn, hpn⟩ : ∃ pn, pn = p.name.length := ⟨_, rfl⟩
            rw [← hpn] at y7 f0
            obtain ⟨r, hr⟩ : ∃ r, r = cmpK p.name s.name := ⟨_, rfl⟩
            have HR : Hid (r < 0 ↔ ltK p.name s.name = true) := by show _ ↔ _; rw [hr]; exact cmpK_lt _ _
            have HCM : Hid (∀ V, Ext U V → Calls Try.prog 39 #[.slice pa pn pc, .slice ka kl kc] V fun e w' => e = .returned (.int .i64 r) ∧ w' = V) := fun V e => by
              rw [hr]
              exact compareE _ _ _ _ V ((f0.ext (HXA.out.tr HXU.out)).ext e) ((HNM.out.ext HXU.out).ext e)
            have HPI := hidL hpi
            have hw1 : IntKind.i64.wrap ((k' : Int) + 1 - 1) = (k' : Int) := by rw [Int.add_sub_cancel, IntKind.wrap_i64]; omega
            have hw2 : IntKind.i64.wrap (k' : Int) = (k' : Int) := by rw [IntKind.wrap_i64]; omega
            have hkd : decide ((0 : Int) < (k' : Int) + 1) = true := decide_eq_true (by omega)
            have hkm : (k' : Int) < (m : Int) := by omega
            clear hk0 hp hpi f0 hpv y6 hpn hr
            refine wp_region_bw (by kernel_rfl) (by kernel_rfl) ?_
            repeat (go_big_quiet_step ((first | (go_at_call 38; exact bw_below (HSV.out _ (bw_ext _))) | (go_at_call 39; exact bw_same (HCM.out _ (bw_ext _))))))
            refine wpQuiet_nil ?_
            rintro _ ⟨z, rfl⟩
            go_wp2_with fail
            go_meet
            refine ⟨decide (0 ≤ r), by simp, fun h h' => ?_, fun h => HSI.out.2 ⟨HSP.out, fun q _ hq => ?_⟩, z.h⟩
            · have h1 := (HSI.out.1 h').2 p (by omega) HPI.out
              have h2 := HR.out.2 h1
              have h3 := of_decide_eq_true h
              omega
            · have h2 : L.svcs[k']? = some q := hq
              rw [HPI.out] at h2
              cases h2
              have h3 := of_decide_eq_false h
              exact HR.out.1 (by omega)
      obtain ⟨bb, rfl, HBT, HBF, HBX⟩ := hcut
      clear z0 z1 z2 z3
      cases bb
      · have HK := hidL (HAA.out (HBF.out rfl))
        have HZ := hidL (hX.out.tr (HXU.out.tr (ext_below HBX.out)))
        clear HBT HBF HF HSI HAA
        go_wp2
        go_roundw
        case rel => exact ⟨k + 1, by omega, by go_num, HK, HZ⟩
        case measure => simp [intOf]; omega
      · have HK : Hid (R = false) := HF.out (HBT.out rfl)
        have HZ := hidL (HBU.out.trans (HBX.out.mono HBU.out.size))
        clear HBT HBF HF HSI HAA
        go_wp2
        go_ret
        exact ⟨by rw [HK.out]; rfl, HZ.out⟩
    · have hkm : k = m := by omega
      subst hkm
      have HK : Hid (R = true) := HYE.out ⟨HNB.out, by have := HM.out; omega, fun i hi => hall.out i (by have := HM.out; omega)⟩
      have HZ := hidL (ext_bel (HXW.out.tr hX.out))
      clear H3
      go_wp2
      go_ret
      exact ⟨by rw [HK.out]; rfl, HZ.out⟩

end Go.Proofs.Ytollbjbgncjkoaa

namespace Go.Proofs.Ytollbjbgncjkoaa
open Go.RowKit

set_option maxRecDepth 20000 in
set_option maxHeartbeats 8000000 in
theorem iWantV (v : Value) (L : DLoc) (w : World) (h : VLoc w v L) (hl : LenLo L) :
    Calls Try.prog 7 #[v] w fun e w' => ∃ pa pc, e = .returned (.slice pa (wantX (tB (LocP L)) L).length pc) ∧ OPaD (Rg w.heap.size w'.heap.size) w' (.slice pa (wantX (tB (LocP L)) L).length pc) (wantX (tB (LocP L)) L) ∧ Below w.heap.size w w' := by
  have h0 := hidL h
  have hE : ∀ w : World, ∀ o, Ext w (w.alloc o) := fun w o => World.grownBy_alloc _ _ _
  obtain ⟨nv, sv, rfl, hn, hs⟩ := h
  have HL := hidL hl
  obtain ⟨na, nc, hnv⟩ := rv_shape hn
  obtain ⟨nn, hnn⟩ : ∃ nn, nn = L.node.length := ⟨_, rfl⟩
  rw [← hnn] at hnv
  subst hnv
  have HNV : Hid (RV w (.slice na nn nc) L.node) := hn
  obtain ⟨C, ⟨a, sc, rfl, q1, q2, q3⟩, hC⟩ := hs
  obtain ⟨m, hm⟩ : ∃ m, m = L.svcs.length := ⟨_, rfl⟩
  have HM := hidL hm
  have HC : Hid (∀ i d, L.svcs[i]? = some d → RV w (C i 0) d.name ∧ VChks w (C i 1) d.checks) := hC
  rw [← hm] at q1 q3 ⊢
  have H3 : Hid (0 < m → ∃ b o, a = some ⟨b, o, none⟩ ∧ b < w.heap.size ∧ ∀ i, i < m → ∀ j, j < 2 → w.cell? ⟨b, o + i * 2 + j, none⟩ = some (C i j)) := q3
  have hmm : (m : Int) ≤ 1048576 := by have := hl.2.1; omega
  unfold maxLen at q2
  rw [← hm] at h0
  obtain ⟨ok, hok⟩ : ∃ ok, ok = tB (LocP L) := ⟨_, rfl⟩
  have HLO : Hid (∀ V, Ext w V → Calls Try.prog 19 #[.agg #[.slice na nn nc, .slice a m sc]] V fun e w' => e = .returned (.bool ok) ∧ Below V.heap.size V w') := fun V e => by rw [hok]; exact iLocalOkV _ L V (h0.out.ext e) HL.out
  rw [← hok]
  clear hn hnn hC hm q3 hl hok
  go_enter Try.func7, Try.ntmps7
  go_upto_region 1 with fail
  generalize hW : World.alloc w _ = W
  have P0 : W.heap[w.heap.size]? = some (.cells #[.slice na nn nc, .slice a m sc] 31 (0, 0)) := by rw [← hW]; exact heap_alloc_new w _
  have BW : Below w.heap.size w W := by rw [← hW]; exact (Below.refl _ w).alloc (Nat.le_refl _) _
  clear hW
  obtain ⟨⟨p0, p1⟩, _, _⟩ := cells2S P0
  go_wp2_with fail
  refine (HLO.out W (ext_below BW)).mono ?_
  rintro e w1 ⟨rfl, b1⟩
  have HBW := hidL (BW.trans (b1.mono BW.size))
  have HP0 := hidL (below_blk b1 (Array.getElem?_eq_some_iff.1 P0).1 P0)
  clear p0 p1 b1 P0 BW
  obtain ⟨⟨p0, p1⟩, _, _⟩ := cells2S HP0.out
  cases ok
  · go_wp2
    go_ret
    exact ⟨none, 0, rfl, .inl ⟨rfl, rfl⟩, HBW.out⟩
  go_wp2
  go_loopw [3, 12] (fun q i wr => ∃ k : Nat, k ≤ m ∧ i = .int .i64 k ∧ ∃ (qa : Option Addr) (qc : Nat) (F : Nat → Nat → Value) (N : Nat → Nat → Prop), q = .slice qa k qc ∧ Hid (OR 50 2 ownP (fun b => w.heap.size < b ∧ b < wr.heap.size) wr (.slice qa k qc) ((wantD L).take k) F N) ∧ Hid (Below w.heap.size w wr) ∧ Hid (wr.heap[w.heap.size]? = some (.cells #[.slice na nn nc, .slice a m sc] 31 (0, 0)))) (fun _ i _ => m - (intOf i).toNat)
  case atStart => exact ⟨0, Nat.zero_le _, rfl, none, 0, fun _ _ => .bool true, _, rfl, OR.nil _ _ _ _ _ _, HBW.out, HP0.out⟩
  case round =>
    obtain ⟨k, hk, rfl, qa, qc, F, N, rfl, HOR, HB, HP⟩ := hrel
    have HWL : Hid (w.heap.size < wr.heap.size) := (Array.getElem?_eq_some_iff.1 HP.out).1
    clear p0 p1
    obtain ⟨⟨p0, p1⟩, _, _⟩ := cells2S HP.out
    by_cases hlt : k < m
    · obtain ⟨b, o, rfl, hbl, hc⟩ := H3.out (by omega)
      obtain ⟨s, hs⟩ : ∃ s, L.svcs[k]? = some s := ⟨_, List.getElem?_eq_getElem (by have := HM.out; omega)⟩
      obtain ⟨e0, e1⟩ := HC.out k s hs
      have HLS := hidL (HL.out.2.2 k s hs)
      have HXA : Hid (Ext w wr) := ext_below HB.out
      obtain ⟨ka, kc, hkv⟩ := rv_shape e0
      obtain ⟨cb, cd, hcv⟩ := chks_shape e1
      obtain ⟨kl, hkl⟩ : ∃ kl, kl = s.name.length := ⟨_, rfl⟩
      obtain ⟨cl, hcl⟩ : ∃ cl, cl = s.checks.length := ⟨_, rfl⟩
      rw [← hkl] at hkv
      rw [← hcl] at hcv
      rw [hkv] at e0
      rw [hcv] at e1
      have u0 := World.grownBy.cell HXA.out (hc k hlt 0 (by omega)) (by simp)
      rw [Nat.add_zero, hkv] at u0
      have u1 := World.grownBy.cell HXA.out (hc k hlt 1 (by omega)) (by simp)
      rw [hcv] at u1
      have HNM : Hid (RV wr (.slice ka kl kc) s.name) := e0.ext HXA.out
      have HCK : Hid (VChks wr (.slice cb cl cd) s.checks) := e1.ext HXA.out
      have HSS := hidL hs
      have hlt' : (k : Int) < (m : Int) := by omega
      clear hc hkv hcv e0 e1 hs hkl hcl
      go_upto_region 7 with fail
      generalize hU : World.alloc wr _ = U
      have PU : U.heap[wr.heap.size]? = some (.cells #[.slice ka kl kc, .slice cb cl cd] 45 (0, 0)) := by rw [← hU]; exact heap_alloc_new wr _
      have XU : Ext wr U := by rw [← hU]; exact hE _ _
      have SU : Hid (U.heap.size = wr.heap.size + 1) := by show _ = _; rw [← hU]; simp
      clear hU
      have HXU := hidL XU
      have XWU : Ext w U := HXA.out.tr XU
      have HPL : Hid (∀ V, Ext U V → Calls Try.prog 20 #[.slice na nn nc, .slice ka kl kc] V fun e w' => ∃ v, e = .returned v ∧ OwT (Rg V.heap.size w'.heap.size) w' v (placeL L.node s.name) ∧ Below V.heap.size V w') := fun V e => (iPlaceV _ _ L.node s.name V (HNV.out.ext (XWU.tr e)) (HNM.out.ext (HXU.out.tr e)) HL.out.1 HLS.out.1).mono fun e w' ⟨v, h1, h2, h3⟩ => ⟨v, h1, (ows_of h2 (placeL_rng (rv_rngK HNV.out) (rv_rngK HNM.out)) (Nat.le_refl _)).t, h3⟩
      have HWO : Hid (∀ V, Ext U V → Calls Try.prog 22 #[.slice cb cl cd] V fun e w' => e = .returned (.int .i64 (worstF 0 s.checks)) ∧ Below V.heap.size V w') := fun V e => iWorstV _ s.checks V (HCK.out.ext (HXU.out.tr e)) HLS.out.2.1
      have HST : Hid (∀ V, Calls Try.prog 21 #[.int .i64 (worstF 0 s.checks)] V fun e w' => ∃ v, e = .returned v ∧ OwT (Rg V.heap.size w'.heap.size) w' v (stL (worstF 0 s.checks)) ∧ Below V.heap.size V w') := fun V => (iStatusTextV _ V).mono fun e w' ⟨v, h1, h2, h3⟩ => ⟨v, h1, owt_of h2 (stL_rng _), h3⟩
      have HQB : Hid (∀ b, (Value.slice qa k qc).ownBlock = some b → w.heap.size < b ∧ b < wr.heap.size) := fun b hb => HOR.out.blk b hb
      have nn1 : ¬ (Value.slice qa k qc).ownBlock = some w.heap.size := fun e => by have := HQB.out _ e; omega
      have nn2 : ¬ (Value.slice qa k qc).ownBlock = some wr.heap.size := fun e => by have := HQB.out _ e; omega
      obtain ⟨⟨x0, x1⟩, _, _⟩ := cells2S (ext_blk XU HP.out)
      obtain ⟨⟨y0, y1⟩, _, _⟩ := cells2S PU
      have z0 := fun p => tw_cell (S := fun b => (Value.slice qa k qc).ownBlock = some b) x0 nn1 p
      have z1 := fun p => tw_cell (S := fun b => (Value.slice qa k qc).ownBlock = some b) y0 nn2 p
      have z2 := fun p => tw_cell (S := fun b => (Value.slice qa k qc).ownBlock = some b) y1 nn2 p
      have nonV := tw_ne (fun b => (Value.slice qa k qc).ownBlock = some b) U
      clear x0 x1 y0 y1 PU XU nn1 nn2 XWU p0 p1 u0 u1
      refine wp_region_seg (S := fun w' => ∃ p : TW (fun b => (Value.slice qa k qc).ownBlock = some b) U, w' = p.u) (by kernel_rfl) (tw_drew _ U) (fun hHeld => ?_)
      refine wpAnyH_seg 0 5 9 (by kernel_rfl) (by kernel_rfl) (by kernel_rfl) (by kernel_rfl) (fun _ _ _ _ _ h => h) hHeld ?_
      simp only [List.drop_zero, List.take_succ_cons, List.take_zero]
      repeat (go_big_quiet_step (fail))
      refine wpQuiet_nil ?_
      refine wpAnyH_seg 6 2 7 (by kernel_rfl) (by kernel_rfl) (by kernel_rfl) (by kernel_rfl) (fun _ _ _ _ _ h => h) hHeld ?_
      simp only [List.drop_succ_cons, List.drop_zero, List.take_succ_cons, List.take_zero]
      repeat (go_big_quiet_step (fail))
      refine wpQuiet_nil ?_
      refine wpAnyH_one 5 6 (by kernel_rfl) (by kernel_rfl) rfl (fun K hK => ?_)
      go_simp
      go_at_call 20
      refine (HPL.out _ (ext_drewN U 1)).mono ?_
      rintro e w5 ⟨v5, rfl, o5, b5⟩
      obtain ⟨pa, pc, rfl⟩ := rv_shape o5.rv
      dsimp only
      have X5 : Ext U w5 := (ext_drewN U 1).tr (ext_below b5)
      refine hK.out _ _ ⟨⟨w5, X5.os, X5.size, fun q hq _ => X5.block q hq (by simp)⟩, rfl⟩ (fun hHeld => ?_)
      clear hK K
      try simp only [Act.put, List.setIfInBounds_toArray, List.set_cons_zero, List.set_cons_succ]
      refine wpAnyH_one 8 5 (by kernel_rfl) (by kernel_rfl) rfl (fun K hK => ?_)
      go_simp
      go_at_call 22
      refine (HWO.out _ X5).mono ?_
      rintro e w6 ⟨rfl, b6⟩
      dsimp only
      have X6 : Ext U w6 := X5.tr (ext_below b6)
      refine hK.out _ _ ⟨⟨w6, X6.os, X6.size, fun q hq _ => X6.block q hq (by simp)⟩, rfl⟩ (fun hHeld => ?_)
      clear hK K
      try simp only [Act.put, List.setIfInBounds_toArray, List.set_cons_zero, List.set_cons_succ]
      refine wpAnyH_one 9 4 (by kernel_rfl) (by kernel_rfl) rfl (fun K hK => ?_)
      go_simp
      go_at_call 21
      refine (HST.out _).mono ?_
      rintro e w7 ⟨v7, rfl, o7, b7⟩
      obtain ⟨sa', sc', rfl⟩ := rv_shape o7.rv
      dsimp only
      have X7 : Ext U w7 := X6.tr (ext_below b7)
      have OP7 := (o5.ext (ext_below b6)).ext (ext_below b7)
      have SZ5 : U.heap.size ≤ w5.heap.size := X5.size
      have SZ6 := b6.size
      have SZ7 := b7.size
      refine hK.out _ _ ⟨⟨w7, X7.os, X7.size, fun q hq _ => X7.block q hq (by simp)⟩, rfl⟩ (fun hHeld => ?_)
      clear hK K o5 b5 b6 b7
      try simp only [Act.put, List.setIfInBounds_toArray, List.set_cons_zero, List.set_cons_succ]
      refine wpAnyH_seg 10 1 3 (by kernel_rfl) (by kernel_rfl) (by kernel_rfl) (by kernel_rfl) (fun _ _ _ _ _ h => h) hHeld ?_
      simp only [List.drop_succ_cons, List.drop_zero, List.take_succ_cons, List.take_zero]
      repeat (go_big_quiet_step (fail))
      refine wpQuiet_nil ?_
      refine wpAnyH_one 11 2 (by kernel_rfl) (by kernel_rfl) rfl (fun K hK => ?_)
      go_simp
      have X8 : Ext U (w7.alloc (.cells #[.slice pa (placeL L.node s.name).length pc, .slice sa' (stL (worstF 0 s.checks)).length sc'] 50)) := X7.tr (hE _ _)
      refine hK.out _ _ ⟨⟨_, X8.os, X8.size, fun q hq _ => X8.block q hq (by simp)⟩, rfl⟩ (fun hHeld => ?_)
      clear hK K
      try simp only [Act.put, List.setIfInBounds_toArray, List.set_cons_zero, List.set_cons_succ]
      have hlk : ((wantD L).take k).length = k := by rw [List.length_take, wantD_len]; have := HM.out; omega
      have HLK := hidL hlk
      have HO8 := hidL (HOR.out.ext keepsP (HXU.out.tr X8))
      have HROW : Hid (Row 0 50 2 (w7.alloc (.cells #[.slice pa (placeL L.node s.name).length pc, .slice sa' (stL (worstF 0 s.checks)).length sc'] 50)) (.slice qa k qc) k F) := by
        have := HO8.out.row
        rw [hlk] at this
        exact this
      have hsu := SU.out
      have SZ8 : (w7.alloc (.cells #[.slice pa (placeL L.node s.name).length pc, .slice sa' (stL (worstF 0 s.checks)).length sc'] 50)).heap.size = w7.heap.size + 1 := by simp
      have HOWN : Hid (ownP (fun b => wr.heap.size < b ∧ b < w7.heap.size) (w7.alloc (.cells #[.slice pa (placeL L.node s.name).length pc, .slice sa' (stL (worstF 0 s.checks)).length sc'] 50)) (elem2 (.slice pa (placeL L.node s.name).length pc) (.slice sa' (stL (worstF 0 s.checks)).length sc') 0) ⟨placeL L.node s.name, stL (worstF 0 s.checks)⟩) := ⟨_, _, OP7.ext (hE _ _), o7.ext (hE _ _), fun b h1 h2 => by have := h1.2; have := h2.1; omega, fun b h => ⟨by have h3 : U.heap.size ≤ b := h.1; omega, by have := h.2; omega⟩, fun b h => ⟨by have := h.1; omega, h.2⟩⟩
      have HSRC := hidL (elem2_src w7 50 (.slice pa (placeL L.node s.name).length pc) (.slice sa' (stL (worstF 0 s.checks)).length sc'))
      have HX8 := hidL X8
      have HNX := hidL (wantD_next HSS.out)
      generalize (placeL L.node s.name).length = pl at *
      generalize (stL (worstF 0 s.checks)).length = sl at *
      clear OP7 o7 X5 X6 X7 X8 hlk
      refine wpAnyH_one 12 1 (by kernel_rfl) (by kernel_rfl) rfl (fun K hK => ?_)
      refine step_rowG info_Pr rfl (by omega) rfl (.tmp 16) (.tmp 27) 27 Try.underlying27 rfl 0 (.slice qa k qc) k F rfl HROW.out (some ⟨w7.heap.size, 0, none⟩) 1 1 (elem2 (.slice pa pl pc) (.slice sa' sl sc')) rfl HSRC.out elem2_one (fun e => by cases e) (by unfold maxLen; omega) (by omega) (Nat.zero_le _) ?_
      intro v9 w9 r9 g9 h9
      obtain ⟨a9, c9, rfl⟩ := r9.shape
      have HT9 : Hid (Trn (fun b => (Value.slice qa k qc).ownBlock = some b) U w9) := (Trn.ext HX8.out).trans (Trn.one g9 (fun x e => e))
      refine hK.out _ _ ⟨⟨w9, HT9.out.os, HT9.out.size, fun q hq hn => HT9.out.block q hq hn⟩, rfl⟩ (fun hHeld => ?_)
      clear hK K
      simp only [List.getElem_toArray, List.getElem_cons_succ, List.getElem_cons_zero, Act.put, List.setIfInBounds_toArray, List.set_cons_zero, List.set_cons_succ]
      have HOP := HO8.out.push keepsP HOWN.out (fun b h1 h2 => by have := h1.1; have := h2.2; omega) (fun b h => by rcases h with h | h <;> (have := h.2; omega)) (by rw [HLK.out]; exact r9) g9 h9
      have hs9 : w7.heap.size + 1 ≤ w9.heap.size := by have := g9.size; omega
      have HO9 : Hid (OR 50 2 ownP (fun b => w.heap.size < b ∧ b < w9.heap.size) w9 (.slice a9 (k + 1) c9) ((wantD L).take (k + 1)) (joinF ((wantD L).take k).length F (elem2 (.slice pa pl pc) (.slice sa' sl sc'))) (fun i => if i = ((wantD L).take k).length then (fun b => wr.heap.size < b ∧ b < w7.heap.size) else if i < ((wantD L).take k).length then N i else fun _ => False)) := by
        rw [HNX.out]
        refine HOP.mono (fun b hb => ?_)
        have := HWL.out
        rcases hb with hb | hb | ⟨hb, hv⟩
        · exact ⟨hb.1, by have := hb.2; omega⟩
        · exact ⟨by have := hb.1; omega, by have := hb.2; omega⟩
        · exact ⟨by omega, HOP.lt b hv⟩
      have HB9 : Hid (Below w.heap.size w w9) := Trn.below (HB.out.trans ((ext_bel HXU.out).mono HB.out.size)) HT9.out (by have := HB.out.size; omega) (fun b hb => by have := HQB.out b hb; omega)
      have HP9 : Hid (w9.heap[w.heap.size]? = some (.cells #[.slice na nn nc, .slice (some ⟨b, o, none⟩) m sc] 31 (0, 0))) := (HT9.out.block _ (by have := HWL.out; omega) (fun e => by have := HQB.out _ e; omega)).trans (ext_blk HXU.out HP.out)
      clear r9 g9 h9 HSRC HROW HOWN HOP HX8 HO8 HLK SZ8 z0 z1 z2 nonV
      have nonV := tw_ne (fun b => (Value.slice qa k qc).ownBlock = some b) U
      refine wpAnyH_seg 13 1 0 (by kernel_rfl) (by kernel_rfl) (by kernel_rfl) (by kernel_rfl) (fun _ _ _ _ _ h => h) ⟨⟨w9, HT9.out.os, HT9.out.size, fun q hq hn => HT9.out.block q hq hn⟩, rfl⟩ ?_
      simp only [List.drop_succ_cons, List.drop_zero, List.take_succ_cons, List.take_zero]
      repeat (go_big_quiet_step (fail))
      refine wpQuiet_nil ?_
      refine wpAnyH_endN (by kernel_rfl) ?_
      clear nonV HT9
      go_wp2
      go_roundw
      case rel => exact ⟨k + 1, by omega, by go_num, a9, c9, _, _, rfl, HO9, HB9, HP9⟩
      case measure => simp [intOf]; omega
    · have hkm : k = m := by omega
      subst hkm
      have hall : (wantD L).take k = wantD L := List.take_of_length_le (by rw [wantD_len]; have := HM.out; omega)
      rw [hall] at HOR
      have HW2 := hidL ((opa_of HOR.out).mono (T := Rg w.heap.size wr.heap.size) (fun b h => ⟨by have := h.1; omega, h.2⟩))
      have HLN : Hid ((wantX true L).length = k) := by show _ = _; rw [HM.out]; exact wantD_len L
      clear hall HOR
      go_wp2
      go_ret
      exact ⟨_, _, by rw [HLN.out]; rfl, by rw [HLN.out]; exact HW2.out, HB.out⟩

end Go.Proofs.Ytollbjbgncjkoaa

namespace Go.Proofs.Ytollbjbgncjkoaa
open Go.RowKit

/-- The law's argument, the specification's answer, the program's argument and its answer: each in its own range of blocks. -/
structure LKP (w W : World) (av : Array Value) (sv xn xs gv : Value) (slo shi xlo xhi bx glo ghi : Nat) (R : List DPair) (DX : DLoc) (RG : List DPair) : Prop where
  ord : w.heap.size < slo ∧ slo ≤ shi ∧ shi ≤ xlo ∧ xlo ≤ xhi ∧ xhi ≤ bx ∧ bx < glo ∧ glo ≤ ghi ∧ ghi ≤ W.heap.size
  low : Below w.heap.size w W
  a : W.heap[w.heap.size]? = some (.cells av 25 (0, 0))
  x : W.heap[bx]? = some (.cells #[xn, xs] 31 (0, 0))
  sO : OPaD (Rg slo shi) W sv R
  xO : OLD (Rg xlo xhi) W xn xs DX
  gO : OPaD (Rg glo ghi) W gv RG
theorem LKP.grow {w W : World} {av : Array Value} {sv xn xs gv : Value} {slo shi xlo xhi bx glo ghi : Nat} {R : List DPair} {DX : DLoc} {RG : List DPair} {W' : World} (h : LKP w W av sv xn xs gv slo shi xlo xhi bx glo ghi R DX RG) (b : Below W.heap.size W W') : LKP w W' av sv xn xs gv slo shi xlo xhi bx glo ghi R DX RG := by
  have e := ext_below b
  have o := h.ord
  exact ⟨⟨o.1, o.2.1, o.2.2.1, o.2.2.2.1, o.2.2.2.2.1, o.2.2.2.2.2.1, o.2.2.2.2.2.2.1, Nat.le_trans o.2.2.2.2.2.2.2 b.size⟩, h.low.trans (b.mono h.low.size), ext_blk e h.a, ext_blk e h.x, h.sO.ext e, h.xO.ext e, h.gO.ext e⟩
theorem LKP.turnX {w W : World} {av : Array Value} {sv xn xs gv : Value} {slo shi xlo xhi bx glo ghi : Nat} {R : List DPair} {DX : DLoc} {RG : List DPair} {W' : World} {D2 : DLoc} (h : LKP w W av sv xn xs gv slo shi xlo xhi bx glo ghi R DX RG) (t : Trn (Rg xlo xhi) W W') (x2 : OLD (Rg xlo xhi) W' xn xs D2) : LKP w W' av sv xn xs gv slo shi xlo xhi bx glo ghi R D2 RG := by
  have o := h.ord
  have hx := (Array.getElem?_eq_some_iff.1 h.x).1
  have f := fun k (hk : k < W.heap.size) (hn : ¬ Rg xlo xhi k) => t.block k hk hn
  refine ⟨⟨o.1, o.2.1, o.2.2.1, o.2.2.2.1, o.2.2.2.2.1, o.2.2.2.2.2.1, o.2.2.2.2.2.2.1, Nat.le_trans o.2.2.2.2.2.2.2 t.size⟩, Trn.below h.low t h.low.size (fun b hb => by have := hb.1; omega), (f _ (by omega) (fun e => by have := e.1; omega)).trans h.a, (f _ (by omega) (fun e => by have := e.2; omega)).trans h.x, h.sO.keep t (fun b h1 h2 => by have := h1.2; have := h2.1; omega), x2, h.gO.keep t (fun b h1 h2 => by have := h1.1; have := h2.2; omega)⟩
theorem LKP.turnG {w W : World} {av : Array Value} {sv xn xs gv : Value} {slo shi xlo xhi bx glo ghi : Nat} {R : List DPair} {DX : DLoc} {RG : List DPair} {W' : World} {D2 : List DPair} (h : LKP w W av sv xn xs gv slo shi xlo xhi bx glo ghi R DX RG) (t : Trn (Rg glo ghi) W W') (g2 : OPaD (Rg glo ghi) W' gv D2) : LKP w W' av sv xn xs gv slo shi xlo xhi bx glo ghi R DX D2 := by
  have o := h.ord
  have hx := (Array.getElem?_eq_some_iff.1 h.x).1
  have f := fun k (hk : k < W.heap.size) (hn : ¬ Rg glo ghi k) => t.block k hk hn
  refine ⟨⟨o.1, o.2.1, o.2.2.1, o.2.2.2.1, o.2.2.2.2.1, o.2.2.2.2.2.1, o.2.2.2.2.2.2.1, Nat.le_trans o.2.2.2.2.2.2.2 t.size⟩, Trn.below h.low t h.low.size (fun b hb => by have := hb.1; omega), (f _ (by omega) (fun e => by have := e.1; omega)).trans h.a, (f _ (by omega) (fun e => by have := e.1; omega)).trans h.x, h.sO.keep t (fun b h1 h2 => by have := h1.2; have := h2.1; omega), h.xO.keep t (fun b h1 h2 => by have := h1.2; have := h2.1; omega), g2⟩
theorem zM_le (s : DSvc) : zM s ≤ 5 * zSv s := by unfold zM zSv; omega
theorem sM_le (ss : List DSvc) : sM ss ≤ 5 * sSv ss := by
  unfold sM sSv
  induction ss with
  | nil => simp
  | cons s r ih =>
    have := zM_le s
    simp only [List.map_cons, List.sum_cons]
    omega
theorem lenLM_of {d : DLoc} (h : zLo d ≤ 1048576) : LenLM d := by
  have h1 := sM_le d.svcs
  have h2 := h
  unfold zLo at h2
  refine ⟨by omega, by omega, by omega, fun i s hs => ?_⟩
  have h3 := lenSv_of (s := s) (by have := sum_mem zSv d.svcs i s hs; have h5 : (d.svcs.map zSv).sum = sSv d.svcs := rfl; omega)
  refine ⟨h3.1, ?_, h3.2.2⟩
  have h4 := sum_mem zM d.svcs i s hs
  have h5 : (d.svcs.map zM).sum = sM d.svcs := rfl
  have h6 : zM s = s.name.length + (s.checks.length * 5 + sK s.checks) := rfl
  omega
theorem stL_len8 (q : Int) : (stL q).length ≤ 8 := by
  unfold stL
  repeat' split
  all_goals decide
theorem keyB_len {xs : List Int} (h : keyB xs = true) : xs.length ≤ 20 := by
  unfold keyB at h
  simp only [Bool.and_eq_true, decide_eq_true_eq] at h
  omega
theorem wantX_bd (L : DLoc) : (∀ (i : Nat) s, (wantX (tB (LocP L)) L)[i]? = some s → s.key.length ≤ 20 ∧ s.val.length ≤ 8) ∧ (wantX (tB (LocP L)) L).length ≤ 6 := by
  cases hb : tB (LocP L)
  · exact ⟨fun i s h => by simp [wantX] at h, by simp [wantX]⟩
  · have hp : LocP L := tB_iff.1 hb
    refine ⟨fun i s h => ?_, by unfold wantX; rw [if_pos rfl, wantD_len]; exact hp.2.1⟩
    unfold wantX wantD at h
    rw [if_pos rfl, List.getElem?_map] at h
    obtain ⟨t, ht, rfl⟩ := Option.map_eq_some_iff.1 h
    have h1 := (svcAt_iff ht).1 (hp.2.2 i (List.getElem?_eq_some_iff.1 ht).1)
    exact ⟨keyB_len h1.2.1, stL_len8 _⟩
theorem sMPa_bd {cs : List DPair} (h : ∀ s ∈ cs, s.key.length ≤ 20 ∧ s.val.length ≤ 8) : sMPa cs ≤ 28 * cs.length := by
  unfold sMPa
  induction cs with
  | nil => simp
  | cons s r ih =>
    have h1 := ih (fun x hx => h x (List.mem_cons_of_mem _ hx))
    have h2 := h s (List.mem_cons_self ..)
    have h3 : zMPa s = s.key.length + s.val.length + 0 := rfl
    simp only [List.map_cons, List.sum_cons, List.length_cons]
    omega

end Go.Proofs.Ytollbjbgncjkoaa

namespace Go.Proofs.Ytollbjbgncjkoaa
open Go.RowKit

set_option maxRecDepth 20000 in
set_option maxHeartbeats 8000000 in
theorem law_Want (v : Value) (D : DLoc) (w : World) (h : VLoc w v D) :
    Calls Try.prog 3 #[v] w fun e w' => e = .returned (.bool true) ∧ Below w.heap.size w w' := by
  have hE : ∀ w : World, ∀ o, Ext w (w.alloc o) := fun w o => World.grownBy_alloc _ _ _
  have hB : ∀ w : World, ∀ o, Below w.heap.size w (w.alloc o) := fun w o => (Below.refl _ w).alloc (Nat.le_refl _) _
  have h0 : Hid (VLoc w v D) := h
  obtain ⟨nv, sv, rfl, hn, hs⟩ := h
  obtain ⟨na, nc, rfl⟩ := rv_shape hn
  obtain ⟨sa, sc, rfl⟩ := svcs_shape hs
  obtain ⟨nn, hnn⟩ : ∃ nn, nn = D.node.length := ⟨_, rfl⟩
  obtain ⟨m, hm⟩ : ∃ m, m = D.svcs.length := ⟨_, rfl⟩
  have HNN := hidL hnn
  have HMM := hidL hm
  rw [← hnn, ← hm] at h0 ⊢
  clear hnn hm hn hs
  go_enter Try.func3, Try.ntmps3
  go_wp2_with fail
  refine (szLoc _ D 1048576 _ (h0.out.ext (hE _ _)) (by omega) (by omega)).mono ?_
  rintro e w1 ⟨r, rfl, hrr, b1⟩
  have B1 := (hB w _).trans (b1.mono (by simp))
  have P1 : w1.heap[w.heap.size]? = some (.cells #[.slice na nn nc, .slice sa m sc] 25 (0, 0)) := below_blk b1 (by simp) (heap_alloc_new w _)
  rcases hrr with ⟨h1, rfl⟩ | ⟨h1, h2⟩
  · go_wp2_with fail
    go_ret
    exact ⟨rfl, B1⟩
  have HZL : Hid (zLo D ≤ 1048576) := by show _ ≤ _; omega
  have HLE : Hid (LenLo D) := lenLo_of HZL.out
  have HLM : Hid (LenLM D) := lenLM_of HZL.out
  have hr0 : 0 ≤ r := by omega
  clear h1 h2 b1
  have HW1 : Hid (w.heap.size < w1.heap.size) := (Array.getElem?_eq_some_iff.1 P1).1
  have HTA : Hid (∀ V, Below w.heap.size w V → Calls Try.prog 6 #[.agg #[.slice na nn nc, .slice sa m sc]] V fun e w' => ∃ xa xc xb xd, e = .returned (.agg #[.slice xa nn xc, .slice xb m xd]) ∧ Hid (OLD (Rg V.heap.size w'.heap.size) w' (.slice xa nn xc) (.slice xb m xd) D) ∧ Below V.heap.size V w') := fun V e => (toLocD _ D V (h0.out.ext (ext_below e)) HLE.out).mono (fun e w' ⟨a, c, b, mid, h1, h2, h3, h4, h5⟩ => by rw [← HNN.out, ← HMM.out] at h1; rw [← HNN.out] at h2; rw [← HMM.out] at h3; exact ⟨a, c, _, _, h1, old_of h2 h3 h4, h5⟩)
  have hbd := wantX_bd D
  have HS : Hid (∀ V xv, VLoc V xv D → Calls Try.prog 5 #[xv] V fun e w' => ∃ pa pc, e = .returned (.slice pa (wantX (tB (LocP D)) D).length pc) ∧ Hid (OPaD (Rg V.heap.size w'.heap.size) w' (.slice pa (wantX (tB (LocP D)) D).length pc) (wantX (tB (LocP D)) D)) ∧ Below V.heap.size V w') := fun V xv hx => sWantV xv D V hx HLE.out
  have HI : Hid (∀ V xv, VLoc V xv D → Calls Try.prog 7 #[xv] V fun e w' => ∃ pa pc, e = .returned (.slice pa (wantX (tB (LocP D)) D).length pc) ∧ Hid (OPaD (Rg V.heap.size w'.heap.size) w' (.slice pa (wantX (tB (LocP D)) D).length pc) (wantX (tB (LocP D)) D)) ∧ Below V.heap.size V w') := fun V xv hx => iWantV xv D V hx HLE.out
  generalize wantX (tB (LocP D)) D = R at hbd HS HI
  have HLR : Hid (∀ (i : Nat) (s : DPair), R[i]? = some s → s.key.length ≤ 1048576 ∧ s.val.length ≤ 1048576) := fun i s hs => by have := hbd.1 i s hs; omega
  have HMR : Hid (sMPa R ≤ 100000000) := by
    show _ ≤ _
    have h9 := sMPa_bd (cs := R) (fun s hs => by obtain ⟨i, hi⟩ := List.getElem?_of_mem hs; exact hbd.1 i s hi)
    have := hbd.2
    omega
  have HL6 : Hid (R.length ≤ 6) := hbd.2
  clear hbd
  generalize hrl : R.length = rl at HS HI
  have HRL := hidL hrl
  clear hrl
  obtain ⟨p0, p1⟩ := cells2L P1
  -- the specification's answer
  go_wp2_with fail
  refine (HTA.out w1 B1).mono ?_
  rintro e w2 ⟨xa2, xc2, xb2, xd2, rfl, o2, b2⟩
  have X2 : Ext w1 w2 := ext_below b2
  clear b2
  go_wp2_with fail
  refine (HS.out w2 _ o2.out.v).mono ?_
  rintro e w3 ⟨ta, tc, rfl, o3, b3⟩
  have X3 : Ext w1 w3 := X2.tr (ext_below b3)
  have HSZ3 : Hid (w1.heap.size ≤ w2.heap.size ∧ w2.heap.size ≤ w3.heap.size) := ⟨X2.size, b3.size⟩
  have B3 : Below w.heap.size w w3 := B1.trans ((ext_bel X3).mono B1.size)
  have P3 := ext_blk X3 P1
  clear b3 X2 o2 p0 p1 P1
  obtain ⟨p0, p1⟩ := cells2L P3
  -- the program's argument
  go_wp2_with fail
  refine (HTA.out w3 B3).mono ?_
  rintro e w4 ⟨xa4, xc4, xb4, xd4, rfl, o4, b4⟩
  have X34 : Ext w3 w4 := ext_below b4
  have HM4 : Hid (∀ W, W = w4.alloc (.cells #[.slice xa4 nn xc4, .slice xb4 m xd4] 31 (0, 0)) → Ext w3 W ∧ W.heap[w4.heap.size]? = some (.cells #[.slice xa4 nn xc4, .slice xb4 m xd4] 31 (0, 0)) ∧ OLD (Rg w3.heap.size w4.heap.size) W (.slice xa4 nn xc4) (.slice xb4 m xd4) D ∧ W.heap.size = w4.heap.size + 1) := fun W hW => by
    subst hW
    exact ⟨X34.tr (hE _ _), heap_alloc_new _ _, o4.out.ext (hE _ _), by simp⟩
  have HSZ4 : Hid (w3.heap.size ≤ w4.heap.size) := X34.size
  clear b4 p0 p1
  go_upto_region 7 with fail
  generalize hU : w4.alloc _ = U4
  obtain ⟨X3U, XU, OX, S4⟩ := HM4.out U4 hU.symm
  have HS4 := hidL S4
  clear hU HM4 X34 o4 S4
  generalize hbx : w4.heap.size = bx at *
  clear hbx
  have HOX := hidL OX
  obtain ⟨q0, q1⟩ := cells2L XU
  -- the program
  go_wp2_with fail
  refine (HI.out U4 _ HOX.out.v).mono ?_
  rintro e W0 ⟨ga, gc, rfl, O5, b5⟩
  have HL0 : Hid (LKP w W0 #[.slice na nn nc, .slice sa m sc] (.slice ta rl tc) (.slice xa4 nn xc4) (.slice xb4 m xd4) (.slice ga rl gc) w2.heap.size w3.heap.size w3.heap.size bx bx U4.heap.size W0.heap.size R D R) := by
    have X4W : Ext U4 W0 := ext_below b5
    have X3W := X3U.tr X4W
    have := HW1.out; have := HSZ3.out; have := HSZ4.out; have := HS4.out
    exact ⟨⟨by omega, by omega, Nat.le_refl _, by omega, Nat.le_refl _, by omega, b5.size, Nat.le_refl _⟩, B3.trans ((ext_bel X3W).mono B3.size), ext_blk X3W P3, ext_blk X4W XU, o3.out.ext X3W, HOX.out.ext X4W, O5.out⟩
  clear q0 q1 OX O5 b5 XU X3U P3 o3 B3 HOX X3
  generalize hgh : W0.heap.size = ghi at HL0
  clear hgh
  generalize U4.heap.size = glo at *
  generalize w3.heap.size = xlo at *
  generalize w2.heap.size = slo at *
  -- its answer held against the specification's
  go_wp2_with fail
  refine (eqS_Pa _ _ R _ (by have h9 := HL0.out.gO.v; exact h9) HL0.out.sO.v (by have := HL6.out; omega) HLR.out).mono ?_
  rintro e W1 ⟨rfl, b1⟩
  have HL1 := hidL (HL0.out.grow b1)
  have HLOW : Hid (Below w.heap.size w W1) := HL1.out.low
  clear b1 HL0
  obtain ⟨x0, x1⟩ := cells2L HL1.out.x
  obtain ⟨a0, a1⟩ := cells2L HL1.out.a
  -- its argument is as it was
  go_upto_region 10 with fail
  have z0 := bw_cell x0
  have z1 := bw_cell x1
  have z2 := bw_cell a0
  have z3 := bw_cell a1
  have nonV := bw_ne W1
  clear x0 x1 a0 a1
  refine wp_region_seg (S := fun w' => ∃ p : BW W1, w' = p.u) (by kernel_rfl) (inBW_drew W1) (fun hHeld => ?_)
  refine wpAnyH_seg 0 2 3 (by kernel_rfl) (by kernel_rfl) (by kernel_rfl) (by kernel_rfl) (fun _ _ _ _ _ h => h) hHeld ?_
  simp only [List.drop_zero, List.take_succ_cons, List.take_zero]
  repeat (go_big_quiet_step (fail))
  refine wpQuiet_nil ?_
  refine wpAnyH_one 2 2 (by kernel_rfl) (by kernel_rfl) rfl (fun K hK => ?_)
  go_simp
  go_at_call 6
  refine (HTA.out _ (HLOW.out.trans ((below_drew1 W1).mono HLOW.out.size))).mono ?_
  rintro e w6 ⟨xa6, xc6, xb6, xd6, rfl, o6, b6⟩
  dsimp only
  have B6 : Below W1.heap.size W1 w6 := (below_drew1 W1).trans b6
  refine hK.out _ _ ⟨⟨w6, B6⟩, rfl⟩ (fun hHeld => ?_)
  clear hK K
  try simp only [Act.put, List.setIfInBounds_toArray, List.set_cons_zero, List.set_cons_succ]
  refine wpAnyH_one 3 1 (by kernel_rfl) (by kernel_rfl) rfl (fun K hK => ?_)
  go_simp
  go_at_call 9
  refine (eqLoc _ _ D _ ((HL1.out.grow B6).xO.v) o6.out.v HLE.out).mono ?_
  rintro e w7 ⟨rfl, b7⟩
  dsimp only
  have B7 : Below W1.heap.size W1 w7 := B6.trans (b7.mono B6.size)
  refine hK.out _ _ ⟨⟨w7, B7⟩, rfl⟩ (fun hHeld => ?_)
  clear hK K
  try simp only [Act.put, List.setIfInBounds_toArray, List.set_cons_zero, List.set_cons_succ]
  refine wpAnyH_seg 4 1 0 (by kernel_rfl) (by kernel_rfl) (by kernel_rfl) (by kernel_rfl) (fun _ _ _ _ _ h => h) hHeld ?_
  simp only [List.drop_succ_cons, List.drop_zero, List.take_succ_cons, List.take_zero]
  repeat (go_big_quiet_step (fail))
  refine wpQuiet_nil ?_
  refine wpAnyH_endN (by kernel_rfl) ?_
  have HL2 := hidL (HL1.out.grow B7)
  clear z0 z1 z2 z3 nonV hHeld B6 B7 b6 b7 o6 HL1 HLOW
  obtain ⟨x0, x1⟩ := cells2L HL2.out.x
  -- marks in its argument
  have HK1 : Hid (0 ≤ kL 1 D) := kL_pos (by omega)
  obtain ⟨k1, hk1⟩ : ∃ k1, k1 = kL 1 D := ⟨_, rfl⟩
  have HKD := hidL hk1
  rw [← hk1] at HK1
  clear hk1
  go_wp2_with fail
  refine (markLD _ _ _ D 1 _ HL2.out.xO HLM.out (by omega) (by omega)).mono ?_
  rintro e W3 ⟨rfl, o3, t3⟩
  rw [← HKD.out]
  have HL3 := hidL (HL2.out.turnX t3 o3)
  clear o3 t3 x0 x1 HL2
  have hk0 : ¬ (k1 < 0) := by have := HK1.out; omega
  have hk2 : decide (k1 < 0) = false := by simp; omega
  go_wp2_with fail
  refine (eqS_Pa _ _ R _ HL3.out.gO.v HL3.out.sO.v (by have := HL6.out; omega) HLR.out).mono ?_
  rintro e W4 ⟨rfl, b4⟩
  have HL4 := hidL (HL3.out.grow b4)
  clear b4 HL3
  -- marks in its answer
  have HK2 : Hid (0 ≤ kPa 1 R R.length) := by have := (kPa_le 1 R R.length).1; show _ ≤ _; omega
  obtain ⟨k2, hk3⟩ : ∃ k2, k2 = kPa 1 R R.length := ⟨_, rfl⟩
  have HKR := hidL hk3
  rw [← hk3] at HK2
  clear hk3
  go_wp2_with fail
  refine (markPaD _ _ R 1 _ HL4.out.gO HLR.out HMR.out (by have := HL6.out; omega) (by omega) (by omega)).mono ?_
  rintro e W5 ⟨rfl, o5, t5⟩
  rw [← HKR.out]
  have HL5 := hidL (HL4.out.turnG t5 o5)
  clear o5 t5 HL4
  go_wp2_with fail
  refine (heldPaD _ R 1 _ HL5.out.gO.v HLR.out HMR.out (by have := HL6.out; omega) (by omega) (by omega)).mono ?_
  rintro e _ ⟨rfl, rfl⟩
  rw [← HKR.out]
  have HLOW5 := hidL HL5.out.low
  obtain ⟨a0, a1⟩ := cells2L HL5.out.a
  have hm0 : ¬ (k2 < 0) := by have := HK2.out; omega
  -- another call
  go_wp2_with fail
  refine (HTA.out _ HLOW5.out).mono ?_
  rintro e W7 ⟨xa7, xc7, xb7, xd7, rfl, o7, b7⟩
  have HL7 := hidL (HL5.out.grow b7)
  clear b7 a0 a1 HL5 HLOW5
  go_wp2_with fail
  refine (HI.out W7 _ o7.out.v).mono ?_
  rintro e W8 ⟨ha, hc, rfl, O8, b8⟩
  have HL8 := hidL (HL7.out.grow b8)
  clear b8 o7 HL7
  go_wp2_with fail
  refine (eqS_Pa _ _ R _ O8.out.v HL8.out.sO.v (by have := HL6.out; omega) HLR.out).mono ?_
  rintro e W10 ⟨rfl, b10⟩
  have HL10 := hidL (HL8.out.grow b10)
  clear b10 HL8 O8
  go_wp2_with fail
  refine (heldPaD _ R 1 _ HL10.out.gO.v HLR.out HMR.out (by have := HL6.out; omega) (by omega) (by omega)).mono ?_
  rintro e _ ⟨rfl, rfl⟩
  rw [← HKR.out]
  have HZ := hidL HL10.out.low
  clear HL10
  go_wp2
  go_ret
  exact ⟨rfl, HZ.out⟩

end Go.Proofs.Ytollbjbgncjkoaa

namespace Go.Proofs.Ytollbjbgncjkoaa
open Go.ChangeShapes Go.WideShapes Go.ChangeAt Go.RowKit Go.Joins

section
variable {H : Type} {enc : TypeId × Value → H} {W : World} {fuel : Nat} {v : Value} {y : DataW H × List MemPlace}

theorem int_of_trod (h : DataW.trod enc Try.prog W 0 (fun _ => true) true fuel 3 [v] = some y) : ∃ q : Int, v = .int .i64 q ∧ -9223372036854775808 ≤ q ∧ q ≤ 9223372036854775807 := by
  obtain ⟨q, e0, rfl, wa⟩ := DataW.trod_int Try.underlying3 h
  simp only [List.cons.injEq, and_true] at e0
  subst e0
  simp [Lit.wf, IntKind.min, IntKind.max, IntKind.signed, IntKind.bits] at wa
  exact ⟨q, rfl, by omega, by omega⟩
end

theorem array6 {cs : Array Value} (h : cs.size = 6) : ∃ a b c d e f, cs = #[a, b, c, d, e, f] := by
  obtain ⟨l⟩ := cs
  match l, h with
  | [a, b, c, d, e, f], _ => exact ⟨a, b, c, d, e, f, rfl⟩

end Go.Proofs.Ytollbjbgncjkoaa

namespace Go.Proofs.Ytollbjbgncjkoaa
open Go.ChangeShapes Go.WideShapes Go.ChangeAt Go.RowKit Go.Joins

section
variable {H : Type} {enc : TypeId × Value → H} {W : World} {fuel : Nat} {v : Value} {y : DataW H × List MemPlace}

theorem rv_of_trod (h : DataW.trod enc Try.prog W 0 (fun _ => true) true fuel 22 [v] = some y) : ∃ xs, RV W v xs ∧ ∀ x ∈ xs, 0 ≤ x ∧ x ≤ 255 := by
  rcases open_ints Try.underlying22 Try.underlying5 (by kernel_rfl) h with ⟨hcs, _⟩ | ⟨x, len, cap, zs, hcs, _, hl, hm, hz, _, hcell, hwz⟩
  · simp only [List.cons.injEq, and_true] at hcs
    subst hcs
    exact ⟨[], ⟨none, 0, rfl, Rd.nil _ _, Nat.le_refl _, Nat.zero_le _⟩, fun x hx => by cases hx⟩
  · simp only [List.cons.injEq, and_true] at hcs
    subst hcs
    have hz' : zs.length = cap := by simpa using hz
    have hln : (zs.take len).length = len := by simp; omega
    have hrng : ∀ n ∈ zs.take len, 0 ≤ n ∧ n ≤ 255 := fun n hn => by
      have := hwz n (List.mem_of_mem_take hn)
      simp [Lit.wf, IntKind.min, IntKind.max, IntKind.signed, IntKind.bits] at this
      omega
    refine ⟨zs.take len, ⟨some x, cap, by rw [hln], ⟨rfl, fun i hi => ?_, hrng⟩, by omega, hm⟩, hrng⟩
    rw [hln] at hi
    obtain ⟨b, off, spot⟩ := x
    have hspot : spot = none := by simpa [Addr.add] using World.cell?_spot (hcell 0 (by omega))
    subst hspot
    have hc := hcell i (by omega)
    refine ⟨b, off, rfl, ?_⟩
    rw [Addr.add_lit] at hc
    rw [hc]
    simp [List.getD, hi]

end

end Go.Proofs.Ytollbjbgncjkoaa

namespace Go.Proofs.Ytollbjbgncjkoaa
open Go.ChangeShapes Go.WideShapes Go.ChangeAt Go.RowKit Go.Joins

theorem list_of {α : Type} {p : Nat → α → Prop} : ∀ n : Nat, (∀ i, i < n → ∃ x, p i x) → ∃ rs : List α, rs.length = n ∧ ∀ (i : Nat) (r : α), rs[i]? = some r → p i r
  | 0, _ => ⟨[], rfl, fun i r h => by simp at h⟩
  | n + 1, h => by
    obtain ⟨rs, hl, hr⟩ := list_of n (fun i hi => h i (by omega))
    obtain ⟨x, hx⟩ := h n (by omega)
    refine ⟨rs ++ [x], by simp [hl], fun i r hi => ?_⟩
    by_cases e : i < n
    · rw [List.getElem?_append_left (by omega)] at hi
      exact hr i r hi
    · rw [List.getElem?_append_right (by omega)] at hi
      have e2 : i - rs.length = 0 := by
        have := (List.getElem?_eq_some_iff.1 hi).1
        simp at this
        omega
      rw [e2] at hi
      simp at hi
      obtain rfl : i = n := by omega
      rw [← hi]
      exact hx

section
variable {H : Type} {enc : TypeId × Value → H} {W : World} {fuel : Nat} {v : Value} {y : DataW H × List MemPlace}

set_option maxRecDepth 100000 in
/-- A slice of whatever structs: its cells, element by element. -/
theorem sl_of_trod {t e : TypeId} {k : Nat} (ht : Try.prog.underlying t = some (.slice e)) (hc : Try.prog.cellsOf e = k) (hk : 0 < k)
    (h : DataW.trod enc Try.prog W 0 (fun _ => true) true fuel t [v] = some y) :
    ∃ (n : Nat) (C : Nat → Nat → Value), SL W k v n C ∧ ∃ (m : Nat) (D : Nat → DataW H × List MemPlace), ∀ i, i < n → DataW.trod enc Try.prog W 0 (fun _ => true) true m e ((List.range k).map (C i)) = some (D i) := by
  rcases Go.Deep.open_slice ht h with ⟨hcs, _⟩ | ⟨a, len, cap, m, n, D, Pl, hcs, _, hl, hm, hmm, _, hx⟩
  · simp only [List.cons.injEq, and_true] at hcs
    subst hcs
    exact ⟨0, fun _ _ => .int .i64 0, ⟨none, 0, rfl, Nat.le_refl _, Nat.zero_le _, fun h => absurd h (by omega)⟩, 0, fun _ => y, fun i hi => absurd hi (by omega)⟩
  · simp only [List.cons.injEq, and_true] at hcs
    subst hcs
    rw [hc] at hx
    have hmm' : m = cap := by rw [hmm]; simp
    subst hmm'
    have hex : ∀ i, i < len → ∃ cs' : List Value, W.cells? 0 (a.add (i * k)) k = some cs' ∧ DataW.trod enc Try.prog W 0 (fun _ => true) true n e cs' = some (D i, Pl i) := fun i hi => hx i (by omega)
    obtain ⟨cs, hcsl, hcs⟩ := list_of len hex
    have hget : ∀ i, i < len → ∃ c, cs[i]? = some c := fun i hi => ⟨_, List.getElem?_eq_getElem (by omega)⟩
    refine ⟨len, fun i j => ((cs.getD i []).getD j (.int .i64 0)), ⟨some a, m, rfl, hl, hm, fun hpos => ?_⟩, n, fun i => (D i, Pl i), fun i hi => ?_⟩
    · obtain ⟨c, hcc⟩ := hget 0 hpos
      obtain ⟨h1, _⟩ := hcs 0 c hcc
      obtain ⟨_, hln, hce⟩ := World.cells?_some h1
      obtain ⟨b, off, spot⟩ := a
      have hc0 := hce 0 hk
      have hsome : W.cell? ((Addr.add ⟨b, off, spot⟩ (0 * k)).add 0) = some (c[0]'(by omega)) := by rw [hc0, List.getElem?_eq_getElem (by omega)]
      have hspot : spot = none := by simpa [Addr.add] using World.cell?_spot hsome
      subst hspot
      have hbl := World.block_lt_of_cell? W _ hsome
      rw [Addr.add_lit, Addr.add_lit] at hbl
      refine ⟨b, off, rfl, hbl, fun i hi j hj => ?_⟩
      obtain ⟨c', hcc'⟩ := hget i hi
      obtain ⟨h1', _⟩ := hcs i c' hcc'
      obtain ⟨_, hln', hce'⟩ := World.cells?_some h1'
      have := hce' j hj
      rw [Addr.add_lit, Addr.add_lit] at this
      rw [this, List.getElem?_eq_getElem (by omega)]
      simp [List.getD, hcc', List.getElem?_eq_getElem (show j < c'.length by omega)]
    · obtain ⟨c', hcc'⟩ := hget i hi
      obtain ⟨h1', h2'⟩ := hcs i c' hcc'
      obtain ⟨_, hln', _⟩ := World.cells?_some h1'
      have hce : (List.range k).map (fun j => ((cs.getD i []).getD j (.int .i64 0))) = c' := by
        apply List.ext_getElem?
        intro j
        by_cases hj : j < k
        · simp [List.getD, hcc', hj, List.getElem?_eq_getElem (show j < c'.length by omega)]
        · simp [hj, hln']
      rw [hce]
      exact h2'

theorem bool_of_trod (h : DataW.trod enc Try.prog W 0 (fun _ => true) true fuel 4 [v] = some y) : ∃ b, v = .bool b := by
  obtain ⟨b, e0, _⟩ := DataW.trod_bool Try.underlying4 h
  simp only [List.cons.injEq, and_true] at e0
  exact ⟨b, e0⟩
end

end Go.Proofs.Ytollbjbgncjkoaa

namespace Go.Proofs.Ytollbjbgncjkoaa
open Go.ChangeShapes Go.WideShapes Go.ChangeAt Go.RowKit Go.Joins

set_option maxRecDepth 100000 in
theorem chks_of_trod {H : Type} {enc : TypeId × Value → H} {W : World} {fuel : Nat} {v : Value} {y : DataW H × List MemPlace} (h : DataW.trod enc Try.prog W 0 (fun _ => true) true fuel 56 [v] = some y) : ∃ rs, VChks W v rs := by
  obtain ⟨n, C, hS, m, D, hD⟩ := sl_of_trod (k := 6) Try.underlying56 (by kernel_rfl) (by omega) h
  obtain ⟨rs, hl, hr⟩ := list_of (p := fun i (d : DChk) => RV W (C i 0) d.name ∧ C i 1 = .int .i64 d.ttl ∧ C i 2 = .int .i64 d.most ∧ C i 3 = .int .i64 d.st ∧ C i 4 = .int .i64 d.age ∧ C i 5 = .int .i64 d.fails) n (fun i hi => by
    have hC : DataW.trod enc Try.prog W 0 (fun _ => true) true m 82 [C i 0, C i 1, C i 2, C i 3, C i 4, C i 5] = some (D i) := hD i hi
    obtain ⟨us, n', _, _, _, hul, hu⟩ := DataW.trod_struct Try.underlying82 hC
    match us, hul with
    | [u0, u1, u2, u3, u4, u5], _ =>
      have e0 : DataW.trod enc Try.prog W 0 (fun _ => true) true n' 22 [C i 0] = some u0 := hu 0 _ rfl
      have e1 : DataW.trod enc Try.prog W 0 (fun _ => true) true n' 3 [C i 1] = some u1 := hu 1 _ rfl
      have e2 : DataW.trod enc Try.prog W 0 (fun _ => true) true n' 3 [C i 2] = some u2 := hu 2 _ rfl
      have e3 : DataW.trod enc Try.prog W 0 (fun _ => true) true n' 3 [C i 3] = some u3 := hu 3 _ rfl
      have e4 : DataW.trod enc Try.prog W 0 (fun _ => true) true n' 3 [C i 4] = some u4 := hu 4 _ rfl
      have e5 : DataW.trod enc Try.prog W 0 (fun _ => true) true n' 3 [C i 5] = some u5 := hu 5 _ rfl
      obtain ⟨ts, r0, _⟩ := rv_of_trod e0
      obtain ⟨q1, x1, _, _⟩ := int_of_trod e1
      obtain ⟨q2, x2, _, _⟩ := int_of_trod e2
      obtain ⟨q3, x3, _, _⟩ := int_of_trod e3
      obtain ⟨q4, x4, _, _⟩ := int_of_trod e4
      obtain ⟨q5, x5, _, _⟩ := int_of_trod e5
      exact ⟨⟨ts, q1, q2, q3, q4, q5⟩, r0, x1, x2, x3, x4, x5⟩)
  exact ⟨rs, C, by rw [hl]; exact hS, hr⟩

end Go.Proofs.Ytollbjbgncjkoaa

namespace Go.Proofs.Ytollbjbgncjkoaa
open Go.ChangeShapes Go.WideShapes Go.ChangeAt Go.RowKit Go.Joins

set_option maxRecDepth 100000 in
theorem svcs_of_trod {H : Type} {enc : TypeId × Value → H} {W : World} {fuel : Nat} {v : Value} {y : DataW H × List MemPlace} (h : DataW.trod enc Try.prog W 0 (fun _ => true) true fuel 23 [v] = some y) : ∃ rs, VSvcs W v rs := by
  obtain ⟨n, C, hS, m, D, hD⟩ := sl_of_trod (k := 2) Try.underlying23 (by kernel_rfl) (by omega) h
  obtain ⟨rs, hl, hr⟩ := list_of (p := fun i (d : DSvc) => RV W (C i 0) d.name ∧ VChks W (C i 1) d.checks) n (fun i hi => by
    have hC : DataW.trod enc Try.prog W 0 (fun _ => true) true m 58 [C i 0, C i 1] = some (D i) := hD i hi
    obtain ⟨us, n', _, _, _, hul, hu⟩ := DataW.trod_struct Try.underlying58 hC
    match us, hul with
    | [u0, u1], _ =>
      have e0 : DataW.trod enc Try.prog W 0 (fun _ => true) true n' 22 [C i 0] = some u0 := hu 0 _ rfl
      have e1 : DataW.trod enc Try.prog W 0 (fun _ => true) true n' 56 [C i 1] = some u1 := hu 1 _ rfl
      obtain ⟨ts, r0, _⟩ := rv_of_trod e0
      obtain ⟨cs, r1⟩ := chks_of_trod e1
      exact ⟨⟨ts, cs⟩, r0, r1⟩)
  exact ⟨rs, C, by rw [hl]; exact hS, hr⟩

theorem arr2L {cs : Array Value} (h : cs.size = 2) : ∃ a b, cs = #[a, b] := by
  obtain ⟨l⟩ := cs
  match l, h with
  | [a, b], _ => exact ⟨a, b, rfl⟩

set_option maxRecDepth 100000 in
theorem open_Local {H : Type} {enc : TypeId × Value → H} {W : World} {r : Reach} {b0 : Nat} {v : Value} {d : DataW H} {p : List MemPlace}
    (hv : Value.okWide Try.prog W r b0 25 v) (h : DataW.Trod enc Try.prog W 0 (fun _ => true) true 25 v d p) : ∃ D, VLoc W v D := by
  obtain ⟨cs, rfl, hsz⟩ := okWide_struct Try.underlying25 hv
  have h6 : Try.prog.cellsOf 25 = 2 := by kernel_rfl
  obtain ⟨c0, c1, rfl⟩ := arr2L (hsz.trans h6)
  obtain ⟨fuel, hf⟩ := h
  obtain ⟨xs, n, _, _, _, hxl, hx⟩ := DataW.trod_struct Try.underlying25 hf
  match xs, hxl with
  | [y0, y1], _ =>
    have h0 : DataW.trod enc Try.prog W 0 (fun _ => true) true n 22 [c0] = some y0 := hx 0 _ rfl
    have h1 : DataW.trod enc Try.prog W 0 (fun _ => true) true n 23 [c1] = some y1 := hx 1 _ rfl
    obtain ⟨ts, r0, _⟩ := rv_of_trod h0
    obtain ⟨ss, r1⟩ := svcs_of_trod h1
    exact ⟨⟨ts, ss⟩, c0, c1, rfl, r0, r1⟩

end Go.Proofs.Ytollbjbgncjkoaa

namespace Go.Proofs.Ytollbjbgncjkoaa
open Go.ChangeShapes Go.WideShapes Go.ChangeAt Go.RowKit

theorem own : ownKnob Try.prog.godebug = none := by kernel_rfl
theorem laidOut : laidOutB Try.prog = true := by kernel_rfl

set_option maxRecDepth 100000 in
theorem lifted (os : Os) (started : os.Started) (H : Type) (enc : TypeId × Value → H) :
    ReturnsInHanded {} Try.checked os 3 .any (Rows.fnExactWantSpec.pre6 enc Try.prog Try.f3 Rows.fnExactWantRow.domain false) (Rows.fnExactWantSpec.post enc Try.prog Try.f3 false true false false) := by
  refine returnsInHanded_of_change (C := Try.checked) own started (by kernel_rfl) Try.func3
    (ChangeSpec.witness6 (enc := enc) (C := Try.checked) false ⟨#[], #[.agg #[.slice none 0 0, .slice none 0 0]], []⟩ 8 (by kernel_rfl) (by kernel_rfl) (by kernel_rfl) (by kernel_rfl)) ?_
  intro W base args ds gs before hval0 hW hcnd _
  have hval : ∀ (j : Nat) t v, Try.f3.params[j]? = some t → args[j]? = some v → Value.okWide Try.prog W .any base t v := hval0
  have hW' := hW
  obtain ⟨p, q, hA0, hV, rfl, hfz, hnd⟩ := hW
  have hA : DataW.TrodAll enc Try.prog W 0 (fun _ => true) true Try.f3.params.toList args.toList ds p := hA0
  rw [Try.params3] at hA hval
  obtain ⟨v0, vs0, d0, ds0, p0, q0, hargs, rfl, rfl, h0, r0⟩ := trodAll_cons hA
  obtain ⟨rfl, rfl, rfl⟩ := trodAll_nil r0
  obtain rfl : args = #[v0] := by cases args; simp_all
  obtain ⟨rfl, rfl⟩ := trodVars_none hV
  have k0 := h0
  have lt0 : ∀ x ∈ p0, x.block < W.heap.size := by obtain ⟨m, hm⟩ := k0; exact DataW.trod_lt m _ _ _ hm
  obtain ⟨D0, w0⟩ := open_Local (hval 0 25 v0 rfl rfl) h0
  clear hA0 hval0
  refine (law_Want v0 D0 W w0).mono fun e W' ⟨he, bel⟩ => ?_
  subst he
  exact ⟨_, rfl, _, _, _, [], _, [], hW', trodAll_mk1 (shut_bool Try.underlying4 _), (trodAll_cons_mk (Below.trod laidOut (by kernel_rfl) (of_decide_eq_true (by kernel_rfl)) k0 bel lt0) trodAll_mk0), rfl, bel.frame _, fun h => by cases h⟩

theorem over : Rows.fnExactWantRow.holds Try.pinned (OpenSpec.ofChange Rows.fnExactWantSpec) :=
  OpenClaim.holds_of_wide 3 Try.f3 rfl rfl rfl rfl rfl rfl rfl ⟨rfl, rfl, rfl, rfl, rfl⟩ rfl rfl rfl rfl rfl (by kernel_rfl) Try.func3 (by kernel_rfl)
    (of_decide_eq_true (by kernel_rfl)) (by unfold Func.isWrapper; first | (rw [if_pos (by decide +kernel)]; kernel_rfl) | (rw [if_neg (by decide +kernel)]; exact ⟨rfl, rfl⟩))
    (fun os started H enc _ => lifted os started H enc)

theorem proved : Rows.FnExactWantSaid := over
#print axioms proved
end Go.Proofs.Ytollbjbgncjkoaa

