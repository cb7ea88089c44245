/- The specification's MemberOf. -/
import Derived.Test.YtpgbpfaaidcnpaaMs2
import Derived.Test.YtpgbpfaaidcnpaaElG
import Derived.Test.YtpgbpfaaidcnpaaMd2
namespace Go.Proofs.Ytpgbpfaaidcnpaa
open Go.RowKit

set_option maxRecDepth 20000 in
set_option maxHeartbeats 4000000 in
theorem sMemberOfV (v : Value) (T : DTab) (id : Int) (w : World) (h : VTab w v T) (hn : T.mems.length ≤ 1048576) :
    Calls Try.prog 7 #[v, .int .i64 id] w fun e w' => e = .returned (.tuple #[.agg #[.int .i64 (ofD T id).1.id, .int .i64 (ofD T id).1.st, .int .i64 (ofD T id).1.life], .bool (ofD T id).2]) ∧ Below w.heap.size w w' := by
  have HT : Hid (VTab w v T) := h
  have HN : Hid (T.mems.length ≤ 1048576) := hn
  obtain ⟨tv, rfl, h⟩ := h
  obtain ⟨a, cap, rfl⟩ := h.shape
  obtain ⟨R, hR⟩ : ∃ R, R = ofD T id := ⟨_, rfl⟩
  rw [← hR]
  have HR : Hid (R = ofD T id) := hR
  obtain ⟨n, hnn⟩ : ∃ n, n = T.mems.length := ⟨_, rfl⟩
  have HNN : Hid (n = T.mems.length) := hnn
  rw [← hnn] at HT h ⊢
  have HV : Hid (VMem w (.slice a n cap) T.mems) := h
  clear h hR hnn hn
  go_enter Try.func7, Try.ntmps7
  go_wp2_with fail
  have PA := al2_0 w (.cells #[.int .i64 T.self, .slice a n cap] 32 (0, 0)) (.cells #[.int .i64 0, .int .i64 0, .int .i64 0] 27 (0, 0))
  have PR := al2_1 w (.cells #[.int .i64 T.self, .slice a n cap] 32 (0, 0)) (.cells #[.int .i64 0, .int .i64 0, .int .i64 0] 27 (0, 0))
  have BW : Below w.heap.size w ((w.alloc (.cells #[.int .i64 T.self, .slice a n cap] 32 (0, 0))).alloc (.cells #[.int .i64 0, .int .i64 0, .int .i64 0] 27 (0, 0))) := ((Below.refl _ w).alloc (Nat.le_refl _) _).alloc (by simp) _
  generalize (w.alloc (.cells #[.int .i64 T.self, .slice a n cap] 32 (0, 0))).alloc (.cells #[.int .i64 0, .int .i64 0, .int .i64 0] 27 (0, 0)) = W at PA PR BW ⊢
  refine (sTableOkV _ T W (HT.out.ext (ext_below BW)) HN.out).mono ?_
  rintro e w1 ⟨rfl, b1⟩
  have B1 := BW.trans (b1.mono BW.size)
  have PA1 := below_blk b1 (Array.getElem?_eq_some_iff.1 PA).1 PA
  have PR1 := below_blk b1 (Array.getElem?_eq_some_iff.1 PR).1 PR
  clear PA PR BW b1
  obtain ⟨q0, q1⟩ := two_cells PA1
  cases t0 : tB (TabP T)
  · have HK : Hid (R = (⟨0, 0, 0⟩, false)) := by show _ = _; rw [HR.out]; exact ofD_no (fun h' => by rw [tB_true h'] at t0; cases t0)
    obtain ⟨r0, f0⟩ := at_block PR1 0 _ rfl
    obtain ⟨r1, f1⟩ := at_block PR1 1 _ rfl
    obtain ⟨r2, f2⟩ := at_block PR1 2 _ rfl
    clear t0
    go_wp2
    refine bodyPost_ret (v := .tuple #[.agg #[.int .i64 0, .int .i64 0, .int .i64 0], .bool false]) (by simp [results, Try.results7, go_sem, *]) rfl ?_
    rw [HK.out]
    exact ⟨rfl, ((B1.setCell (by simp) _).setCell (by simp) _).setCell (by simp) _⟩
  have HTP : Hid (TabP T) := tB_iff.1 t0
  clear t0
  go_wp2_with fail
  refine (sFindV _ T id w1 (HT.out.ext (ext_below B1)) HN.out).mono ?_
  rintro e w2 ⟨rfl, b2⟩
  have B2 := B1.trans (b2.mono B1.size)
  have PA2 := below_blk b2 (Array.getElem?_eq_some_iff.1 PA1).1 PA1
  have PR2 := below_blk b2 (Array.getElem?_eq_some_iff.1 PR1).1 PR1
  clear PA1 PR1 b2 q0 q1 B1
  obtain ⟨q0, q1⟩ := two_cells PA2
  obtain ⟨r0, f0⟩ := at_block PR2 0 _ rfl
  obtain ⟨r1, f1⟩ := at_block PR2 1 _ rfl
  obtain ⟨r2, f2⟩ := at_block PR2 2 _ rfl
  rcases placeM_cases T.mems id with ⟨hpl, hno⟩ | ⟨i, t, ht, he, hf, hpl⟩
  · have HK : Hid (R = (⟨0, 0, 0⟩, false)) := by show _ = _; rw [HR.out]; exact ofD_none HTP.out hpl
    rw [hpl]
    clear hpl hno
    go_wp2
    refine bodyPost_ret (v := .tuple #[.agg #[.int .i64 0, .int .i64 0, .int .i64 0], .bool false]) (by simp [results, Try.results7, go_sem, *]) rfl ?_
    rw [HK.out]
    exact ⟨rfl, ((B2.setCell (by simp) _).setCell (by simp) _).setCell (by simp) _⟩
  · have hin : i < n := by have := (List.getElem?_eq_some_iff.1 ht).1; have := HNN.out; omega
    have hin' : (i : Int) < (n : Int) := by omega
    have HK : Hid (R = (t, true)) := by show _ = _; rw [HR.out]; exact ofD_some HTP.out hpl ht
    obtain ⟨b, o, rfl, c0, c1, c2⟩ := HV.out.at (ext_below B2) ht
    rw [hpl]
    clear hpl hf he
    go_wp2
    refine bodyPost_ret (v := .tuple #[.agg #[.int .i64 t.id, .int .i64 t.st, .int .i64 t.life], .bool true]) (by simp [results, Try.results7, go_sem, *]) rfl ?_
    rw [HK.out]
    exact ⟨rfl, ((B2.setCell (by simp) _).setCell (by simp) _).setCell (by simp) _⟩

end Go.Proofs.Ytpgbpfaaidcnpaa
