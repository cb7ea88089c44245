
/- The specification's Live. -/
import Derived.Test.YtmodliaieienfaaMs2
import Derived.Test.YtmodliaieienfaaElG
import Derived.Test.YtmodliaieienfaaMdL
import Derived.Test.YtmodliaieienfaaLiA
namespace Go.Proofs.Ytmodliaieienfaa
open Go.RowKit

set_option maxRecDepth 20000 in
set_option maxHeartbeats 4000000 in
theorem sLiveV (v : Value) (T : DTab) (w : World) (h : VTab w v T) (hn : T.mems.length ≤ 1048576) :
    Calls Try.prog 60 #[v] w fun e w' => ∃ lv, e = .returned lv ∧ OwI w' w.heap.size lv (liveD T) ∧ Below w.heap.size w w' := by
  have hE : ∀ w : World, ∀ o, Ext w (w.alloc o) := fun w o => World.grownBy_alloc _ _ _
  have hB : ∀ w : World, ∀ o, Below w.heap.size w (w.alloc o) := fun w o => (Below.refl _ w).alloc (Nat.le_refl _) _
  have HT : Hid (VTab w v T) := h
  have HN : Hid (T.mems.length ≤ 1048576) := hn
  obtain ⟨tv, rfl, h⟩ := h
  obtain ⟨a, cap, rfl⟩ := h.shape
  obtain ⟨n, hnn⟩ : ∃ n, n = T.mems.length := ⟨_, rfl⟩
  have HNN : Hid (n = T.mems.length) := hnn
  rw [← hnn] at HT h ⊢
  have HV : Hid (VMem w (.slice a n cap) T.mems) := h
  have hml : (n : Int) ≤ 1048576 := by omega
  clear h hnn hn
  go_enter Try.func60, Try.ntmps60
  go_wp2_with fail
  refine (sTableOkV _ T _ (HT.out.ext (hE _ _)) HN.out).mono ?_
  rintro e w1 ⟨rfl, b1⟩
  have B1 := (hB w _).trans (b1.mono (by simp))
  have PA1 := below_blk b1 (by simp) (heap_alloc_new w _)
  clear b1
  obtain ⟨q0, q1⟩ := two_cells PA1
  cases t0 : tB (TabP T)
  · have HK : Hid (liveD T = []) := liveD_no (fun h' => by rw [tB_true h'] at t0; cases t0)
    clear t0
    go_wp2
    go_ret
    refine ⟨_, rfl, ?_, B1⟩
    rw [HK.out]
    exact World.ownsRow_nil _ _ _ _
  have HTP : Hid (TabP T) := tB_iff.1 t0
  clear t0
  have HPA : Hid (w1.heap[w.heap.size]? = some (.cells #[.int .i64 T.self, .slice a n cap] 28 (0, 0))) := PA1
  go_wp2
  go_loopw [3, 4] (fun lv i wr => ∃ k : Nat, k ≤ n ∧ i = .int .i64 k ∧ ∃ xs, Hid (xs = liveL (T.mems.take k)) ∧ xs.length ≤ k ∧ Hid (OwI wr w.heap.size lv xs) ∧ Below w.heap.size w wr ∧ Hid (wr.heap[w.heap.size]? = some (.cells #[.int .i64 T.self, .slice a n cap] 28 (0, 0)))) (fun _ i _ => n - (intOf i).toNat)
  case atStart => exact ⟨0, Nat.zero_le _, rfl, [], by show _ = _; simp [liveL], Nat.le_refl _, World.ownsRow_nil _ _ _ _, B1, HPA⟩
  case round =>
    obtain ⟨k, hk, rfl, xs, hxs, hxl, ho, hb, hbx⟩ := hrel
    clear q0 q1 PA1 B1 HPA
    obtain ⟨q0, q1⟩ := two_cells hbx.out
    obtain ⟨la, lc, rfl⟩ := ho.out.shape
    by_cases hlt : k < n
    · obtain ⟨s, hs⟩ : ∃ s, T.mems[k]? = some s := ⟨_, List.getElem?_eq_getElem (by have := HNN.out; omega)⟩
      obtain ⟨b, o, rfl, c0, c1, c2⟩ := HV.out.at (ext_below hb) hs
      have hlt' : (k : Int) < (n : Int) := by omega
      have HNX := liveL_next hs
      rw [← hxs.out] at HNX
      cases e1 : decide (s.st ≤ 1)
      · have HX : Hid (xs = liveL (T.mems.take (k + 1))) := by show _ = _; rw [HNX, if_neg (of_decide_eq_false e1), List.append_nil]
        clear HNX
        go_wp2
        go_roundw
        case rel => exact ⟨k + 1, by omega, by go_num, xs, HX, by omega, ho, hb, hbx⟩
        case measure => simp [intOf]; omega
      · have HX : Hid (xs ++ [s.id] = liveL (T.mems.take (k + 1))) := by show _ = _; rw [HNX, if_pos (of_decide_eq_true e1)]
        have sz := hb.size
        have kc : ∀ z, (wr.alloc (.cells #[.int .i64 z] 3 (0, 0))).cell? ⟨wr.heap.size, 0, none⟩ = some (.int .i64 z) := fun z => (at_block (heap_alloc_new wr _) 0 _ rfl).1
        have HOA : Hid (OwI (wr.alloc (.cells #[.int .i64 s.id] 3 (0, 0))) w.heap.size (.slice la xs.length lc) xs) := ho.out.ext (hE _ _)
        have HFIN : Hid (∀ v' w', OwI w' w.heap.size v' (xs ++ [s.id]) → (wr.alloc (.cells #[.int .i64 s.id] 3 (0, 0))).grownBy w' (Value.slice la xs.length lc).ownBlock → Below w.heap.size w w' ∧ w'.heap[w.heap.size]? = some (.cells #[.int .i64 T.self, .slice (some ⟨b, o, none⟩) n cap] 28 (0, 0))) := by
          intro v' w' o' g'
          have hA := ext_blk (hE wr (.cells #[.int .i64 s.id] 3 (0, 0))) hbx.out
          refine ⟨(hb.alloc hb.size _).grown g' (by simp; omega) (fun j hj => (World.ownsRow.lt HOA.out j hj).1), (g'.block _ (Array.getElem?_eq_some_iff.1 hA).1 (fun e => ?_)).trans hA⟩
          rcases HOA.out.2 with ⟨hv, _⟩ | ⟨gg, cc, cur, hv, _, hg, _⟩
          · rw [hv] at e; cases e
          · rw [hv] at e
            simp only [Value.ownBlock, Option.some.injEq] at e
            subst e
            rw [hA] at hg
            cases hg
        clear HNX ho
        go_wp2_with (at_builtin; refine wpList_append_i1 _ rfl _ _ rfl w.heap.size (.slice la xs.length lc) xs rfl HOA.out wr.heap.size s.id rfl (kc _) (by omega) (by simp; omega) ?_; intro v' w' o' g'; obtain ⟨bb, pp⟩ := HFIN.out v' w' o' g'; have oo : Hid (OwI w' w.heap.size v' (xs ++ [s.id])) := o')
        go_roundw
        case rel => exact ⟨k + 1, by omega, by go_num, _, HX, by simp; omega, oo, bb, pp⟩
        case measure => simp [intOf]; omega
    · have hkn : k = n := by omega
      subst hkn
      have HR : Hid (liveD T = xs) := by
        show _ = _
        rw [liveD_yes HTP.out, hxs.out, List.take_of_length_le (by have := HNN.out; omega)]
      go_wp2
      go_ret
      refine ⟨_, rfl, ?_, hb⟩
      rw [HR.out]
      exact ho.out

end Go.Proofs.Ytmodliaieienfaa
