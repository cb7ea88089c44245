/- The program's TableOk. -/
import Derived.Test.YtfdklcmhafhbeaaMi0
import Derived.Test.YtfdklcmhafhbeaaMi1
import Derived.Deep.CutRange
namespace Go.Proofs.Ytfdklcmhafhbeaa
open Go.RowKit

theorem cells2 {w : World} {g : Nat} {v0 v1 : Value} {t : TypeId} (h : w.heap[g]? = some (.cells #[v0, v1] t (0, 0))) : w.cell? ⟨g, 0, none⟩ = some v0 ∧ w.cell? ⟨g, 1, none⟩ = some v1 := ⟨(at_block h 0 _ rfl).1, (at_block h 1 _ rfl).1⟩
theorem cells3 {w : World} {g : Nat} {v0 v1 v2 : Value} {t : TypeId} (h : w.heap[g]? = some (.cells #[v0, v1, v2] t (0, 0))) : w.cell? ⟨g, 0, none⟩ = some v0 ∧ w.cell? ⟨g, 1, none⟩ = some v1 ∧ w.cell? ⟨g, 2, none⟩ = some v2 := ⟨(at_block h 0 _ rfl).1, (at_block h 1 _ rfl).1, (at_block h 2 _ rfl).1⟩

/-- The least name that may stand at k. -/
def LeastAt (ts : List DMem) (k : Nat) (L : Int) : Prop := (k = 0 ∧ L = 0) ∨ ∃ (k' : Nat) (p : DMem), k = k' + 1 ∧ ts[k']? = some p ∧ L = p.id + 1
theorem LeastAt.iff {ts : List DMem} {k : Nat} {L : Int} {s : DMem} (h : LeastAt ts k L) (hs : ts[k]? = some s) (hm : memB s = true) : MemAt ts k ↔ ¬ s.id < L := by
  have h0 : 0 ≤ s.id := by
    simp only [memB, Bool.and_eq_true, decide_eq_true_eq] at hm
    exact hm.1.1.1.1.1
  rcases h with ⟨rfl, rfl⟩ | ⟨k', p, rfl, hp, rfl⟩
  · exact ⟨fun _ => by omega, fun _ t ht => by rw [hs] at ht; cases ht; exact ⟨hm, fun p hp => absurd hp (by omega)⟩⟩
  · constructor
    · intro h
      have := (h s hs).2 p (by omega) (by rw [Nat.add_sub_cancel]; exact hp)
      omega
    · intro h t ht
      rw [hs] at ht
      cases ht
      refine ⟨hm, fun p' _ hp' => ?_⟩
      rw [Nat.add_sub_cancel, hp] at hp'
      cases hp'
      omega

set_option maxRecDepth 20000 in
set_option maxHeartbeats 8000000 in
theorem iTableOkV (v : Value) (T : DTab) (w : World) (h : VTab w v T) (hn : T.mems.length ≤ 1048576) :
    Calls Try.prog 33 #[v] w fun e w' => e = .returned (.bool (tB (TabP T))) ∧ Below w.heap.size w w' := by
  have hB : ∀ w : World, ∀ o, Below w.heap.size w (w.alloc o) := fun w o => (Below.refl _ w).alloc (Nat.le_refl _) _
  obtain ⟨tv, rfl, h⟩ := h
  obtain ⟨a, cap, rfl⟩ := h.shape
  obtain ⟨n, hnn⟩ : ∃ n, n = T.mems.length := ⟨_, rfl⟩
  have HV : Hid (VMem w (.slice a T.mems.length cap) T.mems) := h
  have HN : Hid (n = T.mems.length) := hnn
  rw [← hnn] at HV hn ⊢
  clear h hnn
  have hml2 : (n : Int) ≤ 1048576 := by omega
  go_enter Try.func33, Try.ntmps33
  by_cases g1 : (12 : Int) < n
  · have HK : Hid (tB (TabP T) = false) := tB_false (fun h => by have := h.1; have := HN.out; omega)
    have d1 : decide ((n : Int) > 12) = true := decide_eq_true g1
    go_wp2
    go_ret
    exact ⟨by rw [HK.out]; rfl, hB _ _⟩
  have d1 : decide ((n : Int) > 12) = false := decide_eq_false (by omega)
  have H12 : Hid (n ≤ 12) := by show n ≤ 12; omega
  go_wp2
  have P0 := heap_alloc_new w (.cells #[.int .i64 T.self, .slice a n cap] 36 (0, 0))
  have B0 := hB w (.cells #[.int .i64 T.self, .slice a n cap] 36 (0, 0))
  have HP0 : Hid ((w.alloc (.cells #[.int .i64 T.self, .slice a n cap] 36 (0, 0))).heap[w.heap.size]? = some (.cells #[.int .i64 T.self, .slice a n cap] 36 (0, 0))) := P0
  clear P0
  go_loopw [3, 15] (fun le i wr => ∃ (k : Nat) (L : Int), k ≤ n ∧ le = .int .i64 L ∧ i = .int .i64 k ∧ Hid (∀ j, j < k → MemAt T.mems j) ∧ Hid (LeastAt T.mems k L) ∧ Below w.heap.size w wr ∧ Hid (wr.heap[w.heap.size]? = some (.cells #[.int .i64 T.self, .slice a n cap] 36 (0, 0)))) (fun _ i _ => n - (intOf i).toNat)
  case atStart => exact ⟨0, 0, Nat.zero_le _, rfl, rfl, fun j hj => absurd hj (by omega), .inl ⟨rfl, rfl⟩, B0, HP0⟩
  case round =>
    obtain ⟨k, L, hk, rfl, rfl, hall, hle, hb, hbx⟩ := hrel
    clear B0 HP0 d1 g1
    by_cases hlt : k < n
    · obtain ⟨s, hs⟩ : ∃ s, T.mems[k]? = some s := ⟨_, List.getElem?_eq_getElem (by have := HN.out; omega)⟩
      obtain ⟨b, o, rfl, c0, c1, c2⟩ := HV.out.at (ext_below hb) hs
      have hlt' : (k : Int) < (n : Int) := by omega
      have HE : Hid (∀ W', Calls Try.prog 54 #[.agg #[.int .i64 s.id, .int .i64 s.st, .int .i64 s.life]] W' fun e w' => e = .returned (.bool (memB s)) ∧ Below W'.heap.size W' w') := fun W' => iMemberOkV s W'
      go_upto_region 7 with fail
      generalize hV : wr.alloc _ = V
      have HBV : Hid (Below w.heap.size w V) := by rw [← hV]; exact hb.alloc hb.size _
      have HBX : Hid (V.heap[w.heap.size]? = some (.cells #[.int .i64 T.self, .slice (some ⟨b, o, none⟩) n cap] 36 (0, 0))) := by rw [← hV]; exact below_blk (hB wr _) (Array.getElem?_eq_some_iff.1 hbx.out).1 hbx.out
      obtain ⟨y0, y1, y2⟩ : V.cell? ⟨wr.heap.size, 0, none⟩ = some (.int .i64 s.id) ∧ V.cell? ⟨wr.heap.size, 1, none⟩ = some (.int .i64 s.st) ∧ V.cell? ⟨wr.heap.size, 2, none⟩ = some (.int .i64 s.life) := by rw [← hV]; exact cells3 (heap_alloc_new wr _)
      clear hV c0 c1 c2
      cases hm : memB s
      · have HK : Hid (tB (TabP T) = false) := tB_false (fun h => by have := (h.2.1 k (by have := HN.out; omega) s hs).1; rw [hm] at this; cases this)
        rw [hm] at HE
        clear hm
        as_aux_lemma =>
          go_wp2_with (go_at_call 54; refine (HE.out _).mono ?_; rintro e w2 ⟨rfl, b2⟩; have z0 := World.grownBy.cell (ext_below b2) y0 (by simp))
          go_ret
          exact ⟨by rw [HK.out]; rfl, HBV.out.trans (b2.mono HBV.out.size)⟩
      · rw [hm] at HE
        have HI : Hid (MemAt T.mems k ↔ ¬ s.id < L) := hle.out.iff hs hm
        have hid : 0 ≤ s.id ∧ s.id < 12 := by
          simp only [memB, Bool.and_eq_true, decide_eq_true_eq] at hm
          exact ⟨hm.1.1.1.1.1, hm.1.1.1.1.2⟩
        obtain ⟨hid0, hid1⟩ := hid
        clear hm
        cases hc : decide (s.id < L)
        · have HA : Hid (∀ j, j < k + 1 → MemAt T.mems j) := fun j hj => by
            by_cases ej : j = k
            · subst ej
              exact HI.out.2 (of_decide_eq_false hc)
            · exact hall.out j (by omega)
          have HLE : Hid (LeastAt T.mems (k + 1) (s.id + 1)) := .inr ⟨k, s, rfl, hs, rfl⟩
          as_aux_lemma =>
            go_wp2_with (go_at_call 54; refine (HE.out _).mono ?_; rintro e w2 ⟨rfl, b2⟩; have z0 := World.grownBy.cell (ext_below b2) y0 (by simp))
            go_roundw
            case rel => exact ⟨k + 1, s.id + 1, by omega, by go_num, by go_num, HA, HLE, HBV.out.trans (b2.mono HBV.out.size), below_blk b2 (Array.getElem?_eq_some_iff.1 HBX.out).1 HBX.out⟩
            case measure => simp [intOf]; omega
        · have HK : Hid (tB (TabP T) = false) := tB_false (fun h => HI.out.1 (h.2.1 k (by have := HN.out; omega)) (of_decide_eq_true hc))
          as_aux_lemma =>
            go_wp2_with (go_at_call 54; refine (HE.out _).mono ?_; rintro e w2 ⟨rfl, b2⟩; have z0 := World.grownBy.cell (ext_below b2) y0 (by simp))
            go_ret
            exact ⟨by rw [HK.out]; rfl, HBV.out.trans (b2.mono HBV.out.size)⟩
    · have hkn : n = k := by omega
      subst hkn
      have HALL : Hid (T.mems.length ≤ 12 ∧ ∀ i, i < T.mems.length → MemAt T.mems i) := ⟨by have := HN.out; have := H12.out; omega, fun i hi => hall.out i (by have := HN.out; omega)⟩
      obtain ⟨q0, q1⟩ := cells2 hbx.out
      go_wp2_with fail
      refine (findMV _ T.mems T.self wr (HV.out.ext (ext_below hb)) HALL.out.1 (ascM_of HALL.out.2)).mono ?_
      rintro e w2 ⟨t, fb, rfl, b2, f1, f2⟩
      have HF1 : Hid (fb = true → placeM T.mems T.self = t) := f1
      have HF2 : Hid (fb = false → placeM T.mems T.self = -1 ∧ insK T.mems T.self = t) := f2
      have hb2 := hb.trans (b2.mono hb.size)
      have hbx2 := below_blk b2 (Array.getElem?_eq_some_iff.1 hbx.out).1 hbx.out
      clear q0 q1 f1 f2
      obtain ⟨q0, q1⟩ := cells2 hbx2
      cases fb
      · have HK : Hid (tB (TabP T) = false) := tB_false (fun h => by
          obtain ⟨i, t, ht, he, hf, _⟩ := h.2.2
          have := placeM_some ht he hf
          have := (HF2.out rfl).1
          omega)
        clear HF1 HF2
        go_wp2
        go_ret
        exact ⟨by rw [HK.out]; rfl, hb2⟩
      · rcases placeM_cases T.mems T.self with ⟨hp, hno⟩ | ⟨i, u, hu, he, hf, hp⟩
        · exact absurd (HF1.out rfl) (by omega)
        have hit : i = t := by have := HF1.out rfl; omega
        subst hit
        have hin : i < n := by have := (List.getElem?_eq_some_iff.1 hu).1; have := HN.out; omega
        have hin' : (i : Int) < (n : Int) := by omega
        obtain ⟨b, o, rfl, c0, c1, c2⟩ := HV.out.at (ext_below hb2) hu
        have HK : Hid (tB (TabP T) = ownB u) := by
          show _ = _
          cases ho : ownB u
          · refine tB_false (fun h => ?_)
            obtain ⟨i', t', ht', he', hf', ho'⟩ := h.2.2
            have e1 := placeM_some ht' he' hf'
            have : i' = i := by omega
            subst this
            rw [hu] at ht'
            cases ht'
            rw [ho] at ho'
            cases ho'
          · exact tB_true ⟨HALL.out.1, HALL.out.2, i, u, hu, he, hf, ho⟩
        have HS : Hid (∀ W', Calls Try.prog 56 #[.agg #[.int .i64 u.id, .int .i64 u.st, .int .i64 u.life]] W' fun e w' => e = .returned (.bool (ownB u)) ∧ Below W'.heap.size W' w') := fun W' => selfOkV u W'
        generalize ownB u = ob at HK HS
        clear hp hf he HF1 HF2
        go_wp2_with (go_at_call 56; refine (HS.out _).mono ?_; rintro e w3 ⟨rfl, b3⟩)
        go_ret
        exact ⟨by rw [HK.out]; rfl, hb2.trans (b3.mono hb2.size)⟩

end Go.Proofs.Ytfdklcmhafhbeaa
