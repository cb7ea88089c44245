/- The library's Clone at members; the program's copyTable. -/
import Derived.Test.YtbphmgcfbjiadaaMd2
import Derived.Test.YtbphmgcfbjiadaaElG
import Derived.Lib.SliceRun
namespace Go.Proofs.Ytbphmgcfbjiadaa
open Go.RowKit

set_option maxHeartbeats 1000000 in
theorem cloneM (v : Value) (ts : List DMem) (w : World) (h : VMem w v ts) (hn : ts.length ≤ 1048576) :
    Calls Try.prog 33 #[v] w fun e w' => ∃ v', e = .returned v' ∧ OwMem w' w.heap.size v' ts ∧ Below w.heap.size w w' := by
  obtain ⟨a, cap, rfl⟩ := h.shape
  obtain ⟨n, hnn⟩ : ∃ n, n = ts.length := ⟨_, rfl⟩
  rw [← hnn] at h ⊢
  have HN : Hid (n = ts.length) := hnn
  have HV : Hid (VMem w (.slice a n cap) ts) := h
  have hn1 : (n : Int) ≤ 1048576 := by omega
  have hnl := fun w => Lib.run_eql_slice_nil (P := Try.prog) w 28 34 a n cap 0 0 Try.underlying28
  cases a with
  | none =>
    have h0 : ts = [] := by
      obtain ⟨C, ⟨a', cap', e, _, _, h3⟩, _⟩ := h
      simp only [Value.slice.injEq] at e
      refine List.eq_nil_of_length_eq_zero ?_
      rcases Nat.eq_zero_or_pos ts.length with h' | h'
      · exact h'
      · obtain ⟨b, o, e', _⟩ := h3 h'
        rw [← e.1] at e'
        cases e'
    subst h0
    clear hnn h
    go_enter Try.func33, Try.ntmps33
    go_wp2
    go_ret
    exact ⟨_, rfl, World.ownsRow_nil _ _ _ _, Below.refl _ _⟩
  | some ad =>
    clear hnn h
    go_enter Try.func33, Try.ntmps33
    go_wp2_with (at_builtin; refine wpList_append_Mem _ rfl (.tmp 5) (.tmp 6) 28 Try.underlying28 rfl w.heap.size _ [] rfl (OwMem.made w _ (Nat.le_refl _)) (some ad) n cap ts rfl (HV.out.ext (World.grownBy_alloc _ _ _)) (by simp; omega) (by simp) ?_; intro v1 w1 hown1 hg1 _)
    go_ret
    refine ⟨_, rfl, hown1, ?_⟩
    exact ((Below.refl _ _).alloc (Nat.le_refl _) _).grown hg1 (by simp) (fun k hk => by cases hk; exact Nat.le_refl _)

set_option maxHeartbeats 4000000 in
theorem copyTV (v : Value) (T : DTab) (w : World) (h : VTab w v T) (hl : T.mems.length ≤ 1048576) : Calls Try.prog 23 #[v] w fun e w' => ∃ tv, e = .returned (.agg #[.int .i64 T.self, tv]) ∧ OwMem w' w.heap.size tv T.mems ∧ Below w.heap.size w w' := by
  obtain ⟨tv, rfl, h⟩ := h
  go_enter Try.func23, Try.ntmps23
  have HV : Hid (VMem w tv T.mems) := h
  obtain ⟨a, cap, rfl⟩ := h.shape
  obtain ⟨n, hn⟩ : ∃ n, n = T.mems.length := ⟨_, rfl⟩
  rw [← hn] at HV ⊢
  have HN : Hid (n = T.mems.length) := hn
  have HL : Hid (T.mems.length ≤ 1048576) := hl
  clear h hn hl
  go_wp2_with fail
  have PA := al2_0 w (.cells #[.int .i64 T.self, .slice a n cap] 30 (0, 0)) (.cells #[.int .i64 0, .slice none 0 0] 30 (0, 0))
  have PR := al2_1 w (.cells #[.int .i64 T.self, .slice a n cap] 30 (0, 0)) (.cells #[.int .i64 0, .slice none 0 0] 30 (0, 0))
  have BW : Below w.heap.size w ((w.alloc (.cells #[.int .i64 T.self, .slice a n cap] 30 (0, 0))).alloc (.cells #[.int .i64 0, .slice none 0 0] 30 (0, 0))) := ((Below.refl _ w).alloc (Nat.le_refl _) _).alloc (by simp) _
  generalize (w.alloc (.cells #[.int .i64 T.self, .slice a n cap] 30 (0, 0))).alloc (.cells #[.int .i64 0, .slice none 0 0] 30 (0, 0)) = W at PA PR BW ⊢
  refine (cloneM _ T.mems W (HV.out.ext (ext_below BW)) HL.out).mono ?_
  rintro e w1 ⟨v1, rfl, o1, b1⟩
  have hsA := (Array.getElem?_eq_some_iff.1 PA).1
  have hsR := (Array.getElem?_eq_some_iff.1 PR).1
  have PA1 := below_blk b1 hsA PA
  have PR1 := below_blk b1 hsR PR
  have B1 := BW.trans (b1.mono BW.size)
  obtain ⟨a1, c1, rfl⟩ := o1.v.shape
  rw [← HN.out] at o1 ⊢
  have nA : (Value.slice a1 n c1).ownBlock = none ∨ (Value.slice a1 n c1).ownBlock ≠ some w.heap.size := by
    cases hv : (Value.slice a1 n c1).ownBlock with
    | none => exact .inl rfl
    | some k => exact .inr (by have := (o1.lt k hv).1; simp; omega)
  have nR : (Value.slice a1 n c1).ownBlock = none ∨ (Value.slice a1 n c1).ownBlock ≠ some (w.heap.size + 1) := by
    cases hv : (Value.slice a1 n c1).ownBlock with
    | none => exact .inl rfl
    | some k => exact .inr (by have := (o1.lt k hv).1; simp; omega)
  have O1 : Hid (OwMem w1 W.heap.size (.slice a1 n c1) T.mems) := o1
  have HB : Hid (Below w.heap.size w w1) := B1
  have hsw : w.heap.size ≤ W.heap.size := BW.size
  obtain ⟨q0, f0⟩ := at_block PA1 0 _ rfl
  obtain ⟨q1, f1⟩ := at_block PA1 1 _ rfl
  obtain ⟨r0, f2⟩ := at_block PR1 0 _ rfl
  obtain ⟨r1, f3⟩ := at_block PR1 1 _ rfl
  clear PA PR PA1 PR1 o1 b1 B1 BW
  go_wp2
  refine bodyPost_ret (v := .agg #[.int .i64 T.self, .slice a1 n c1]) (by simp [results, Try.results23, go_sem, *]) rfl ?_
  exact ⟨_, rfl, OwMem.base (((O1.out.keep (set_grown _ _ _ _) nA).keep (set_grown _ _ _ _) nR).keep (set_grown _ _ _ _) nR) hsw, ((HB.out.setCell (by simp) _).setCell (by simp) _).setCell (by simp) _⟩

end Go.Proofs.Ytbphmgcfbjiadaa
