/- The program's Live. -/
import Derived.Test.YtfdklcmhafhbeaaMi2
import Derived.Test.YtfdklcmhafhbeaaElG
import Derived.Test.YtfdklcmhafhbeaaMdL
import Derived.Test.YtfdklcmhafhbeaaLiA
namespace Go.Proofs.Ytfdklcmhafhbeaa
open Go.RowKit

set_option maxRecDepth 20000 in
set_option maxHeartbeats 4000000 in
theorem iLiveV (v : Value) (T : DTab) (w : World) (h : VTab w v T) (hn : T.mems.length ≤ 1048576) :
    Calls Try.prog 58 #[v] w fun e w' => ∃ lv, e = .returned lv ∧ OwI w' w.heap.size lv (liveD T) ∧ Below w.heap.size w w' := by
  have hE : ∀ w : World, ∀ o, Ext w (w.alloc o) := fun w o => World.grownBy_alloc _ _ _
  have hB : ∀ w : World, ∀ o, Below w.heap.size w (w.alloc o) := fun w o => (Below.refl _ w).alloc (Nat.le_refl _) _
  have HT : Hid (VTab w v T) := h
  have HN : Hid (T.mems.length ≤ 1048576) := hn
  obtain ⟨tv, rfl, h⟩ := h
  obtain ⟨a, cap, rfl⟩ := h.shape
  obtain ⟨n, hnn⟩ : ∃ n, n = T.mems.length := ⟨_, rfl⟩
  have HNN : Hid (n = T.mems.length) := hnn
  rw [← hnn] at HT h ⊢
  have HV : Hid (VMem w (.slice a n cap) T.mems) := h
  have hml : (n : Int) ≤ 1048576 := by omega
  clear h hnn hn
  go_enter Try.func58, Try.ntmps58
  go_wp2_with fail
  refine (iTableOkV _ T _ (HT.out.ext (hE _ _)) HN.out).mono ?_
  rintro e w1 ⟨rfl, b1⟩
  have B1 := (hB w _).trans (b1.mono (by simp))
  have PA1 := below_blk b1 (by simp) (heap_alloc_new w _)
  clear b1
  obtain ⟨q0, q1⟩ := cells2 PA1
  cases t0 : tB (TabP T)
  · have HK : Hid (liveD T = []) := liveD_no (fun h' => by rw [tB_true h'] at t0; cases t0)
    clear t0
    go_wp2
    go_ret
    refine ⟨_, rfl, ?_, B1⟩
    rw [HK.out]
    exact World.ownsRow_nil _ _ _ _
  have HTP : Hid (TabP T) := tB_iff.1 t0
  clear t0
  have HPA : Hid (w1.heap[w.heap.size]? = some (.cells #[.int .i64 T.self, .slice a n cap] 36 (0, 0))) := PA1
  go_wp2
  go_loopw [3, 12] (fun lv i wr => ∃ k : Nat, k ≤ n ∧ i = .int .i64 k ∧ ∃ xs, Hid (xs = liveL (T.mems.take k)) ∧ xs.length ≤ k ∧ Hid (OwI wr w.heap.size lv xs) ∧ Below w.heap.size w wr ∧ Hid (wr.heap[w.heap.size]? = some (.cells #[.int .i64 T.self, .slice a n cap] 36 (0, 0)))) (fun _ i _ => n - (intOf i).toNat)
  case atStart => exact ⟨0, Nat.zero_le _, rfl, [], by show _ = _; simp [liveL], Nat.le_refl _, World.ownsRow_nil _ _ _ _, B1, HPA⟩
  case round =>
    obtain ⟨k, hk, rfl, xs, hxs, hxl, ho, hb, hbx⟩ := hrel
    clear q0 q1 PA1 B1 HPA
    obtain ⟨q0, q1⟩ := cells2 hbx.out
    obtain ⟨la, lc, rfl⟩ := ho.out.shape
    by_cases hlt : k < n
    · obtain ⟨s, hs⟩ : ∃ s, T.mems[k]? = some s := ⟨_, List.getElem?_eq_getElem (by have := HNN.out; omega)⟩
      obtain ⟨b, o, rfl, c0, c1, c2⟩ := HV.out.at (ext_below hb) hs
      have hlt' : (k : Int) < (n : Int) := by omega
      have HNX := liveL_next hs
      rw [← hxs.out] at HNX
      have hst : 0 ≤ s.st := by
        have := (HTP.out.2.1 k (by have := HNN.out; omega) s hs).1
        simp only [memB, Bool.and_eq_true, decide_eq_true_eq] at this
        exact this.1.1.1.2
      have HNX' : Hid (liveL (T.mems.take (k + 1)) = xs ++ (if s.st ≤ 1 then [s.id] else [])) := HNX
      clear HNX
      have sz := hb.size
      have hBV : ∀ ob, Below w.heap.size w (wr.alloc ob) := fun ob => hb.alloc hb.size _
      have hbxV : ∀ ob, (wr.alloc ob).heap[w.heap.size]? = some (.cells #[.int .i64 T.self, .slice (some ⟨b, o, none⟩) n cap] 36 (0, 0)) := fun ob => ext_blk (hE wr ob) hbx.out
      have HOV : Hid (∀ ob, OwI (wr.alloc ob) w.heap.size (.slice la xs.length lc) xs) := fun ob => ho.out.ext (hE _ _)
      have HST : Hid (0 ≤ s.st) := hst
      clear hst
      go_upto_region 7 with fail
      have y0 : (wr.alloc (.cells #[.int .i64 s.id, .int .i64 s.st, .int .i64 s.life] 72 (0, 0))).cell? ⟨wr.heap.size, 0, none⟩ = some (.int .i64 s.id) := (cells3 (heap_alloc_new wr _)).1
      have y1 : (wr.alloc (.cells #[.int .i64 s.id, .int .i64 s.st, .int .i64 s.life] 72 (0, 0))).cell? ⟨wr.heap.size, 1, none⟩ = some (.int .i64 s.st) := (cells3 (heap_alloc_new wr _)).2.1
      have BV := hBV (.cells #[.int .i64 s.id, .int .i64 s.st, .int .i64 s.life] 72 (0, 0))
      have BX := hbxV (.cells #[.int .i64 s.id, .int .i64 s.st, .int .i64 s.life] 72 (0, 0))
      have OV := HOV.out (.cells #[.int .i64 s.id, .int .i64 s.st, .int .i64 s.life] 72 (0, 0))
      generalize wr.alloc (.cells #[.int .i64 s.id, .int .i64 s.st, .int .i64 s.life] 72 (0, 0)) = V at y0 y1 BV BX OV ⊢
      have HBV : Hid (Below w.heap.size w V) := BV
      have HBX : Hid (V.heap[w.heap.size]? = some (.cells #[.int .i64 T.self, .slice (some ⟨b, o, none⟩) n cap] 36 (0, 0))) := BX
      have HOW : Hid (OwI V w.heap.size (.slice la xs.length lc) xs) := OV
      clear c0 c1 c2 hBV hbxV HOV BV BX OV q0 q1
      by_cases e1 : s.st ≤ 1
      case neg =>
        have HX : Hid (xs = liveL (T.mems.take (k + 1))) := by show _ = _; rw [HNX'.out, if_neg e1, List.append_nil]
        have d0 : (s.st == 0) = false := by have : s.st ≠ 0 := by omega
                                            simpa using this
        have d1 : (s.st == 1) = false := by have : s.st ≠ 1 := by omega
                                            simpa using this
        clear HNX' e1
        go_wp2
        go_roundw
        case rel => exact ⟨k + 1, by omega, by go_num, xs, HX, by omega, HOW, HBV.out, HBX⟩
        case measure => simp [intOf]; omega
      have HX : Hid (xs ++ [s.id] = liveL (T.mems.take (k + 1))) := by show _ = _; rw [HNX'.out, if_pos e1]
      have kc : ∀ z, (V.alloc (.cells #[.int .i64 z] 3 (0, 0))).cell? ⟨V.heap.size, 0, none⟩ = some (.int .i64 z) := fun z => (at_block (heap_alloc_new V _) 0 _ rfl).1
      have sV := HBV.out.size
      have HOA : Hid (OwI (V.alloc (.cells #[.int .i64 s.id] 3 (0, 0))) w.heap.size (.slice la xs.length lc) xs) := HOW.out.ext (hE _ _)
      have HFIN : Hid (∀ v' w', OwI w' w.heap.size v' (xs ++ [s.id]) → (V.alloc (.cells #[.int .i64 s.id] 3 (0, 0))).grownBy w' (Value.slice la xs.length lc).ownBlock → Below w.heap.size w w' ∧ w'.heap[w.heap.size]? = some (.cells #[.int .i64 T.self, .slice (some ⟨b, o, none⟩) n cap] 36 (0, 0))) := by
        intro v' w' o' g'
        have hA := ext_blk (hE V (.cells #[.int .i64 s.id] 3 (0, 0))) HBX.out
        refine ⟨(HBV.out.alloc HBV.out.size _).grown g' (by simp; omega) (fun j hj => (World.ownsRow.lt HOA.out j hj).1), (g'.block _ (Array.getElem?_eq_some_iff.1 hA).1 (fun e => ?_)).trans hA⟩
        rcases HOA.out.2 with ⟨hv, _⟩ | ⟨gg, cc, cur, hv, _, hg, _⟩
        · rw [hv] at e; cases e
        · rw [hv] at e
          simp only [Value.ownBlock, Option.some.injEq] at e
          subst e
          rw [hA] at hg
          cases hg
      have hst2 : s.st = 0 ∨ s.st = 1 := by have := HST.out; omega
      obtain ⟨d0, hd0⟩ : ∃ d0, (s.st == 0) = d0 := ⟨_, rfl⟩
      clear HNX' e1 ho
      cases d0
      · have hd1 : (s.st == 1) = true := by
          have : s.st ≠ 0 := by simpa using hd0
          have : s.st = 1 := by omega
          simpa using this
        clear hst2
        go_wp2_with (at_builtin; refine wpList_append_i1 _ rfl _ _ rfl w.heap.size (.slice la xs.length lc) xs rfl HOA.out V.heap.size s.id rfl (kc _) (by omega) (by simp; omega) ?_; intro v' w' o' g'; obtain ⟨bb, pp⟩ := HFIN.out v' w' o' g'; have oo : Hid (OwI w' w.heap.size v' (xs ++ [s.id])) := o')
        go_roundw
        case rel => exact ⟨k + 1, by omega, by go_num, _, HX, by simp; omega, oo, bb, pp⟩
        case measure => simp [intOf]; omega
      · clear hst2
        go_wp2_with (at_builtin; refine wpList_append_i1 _ rfl _ _ rfl w.heap.size (.slice la xs.length lc) xs rfl HOA.out V.heap.size s.id rfl (kc _) (by omega) (by simp; omega) ?_; intro v' w' o' g'; obtain ⟨bb, pp⟩ := HFIN.out v' w' o' g'; have oo : Hid (OwI w' w.heap.size v' (xs ++ [s.id])) := o')
        go_roundw
        case rel => exact ⟨k + 1, by omega, by go_num, _, HX, by simp; omega, oo, bb, pp⟩
        case measure => simp [intOf]; omega
    · have hkn : k = n := by omega
      subst hkn
      have HR : Hid (liveD T = xs) := by
        show _ = _
        rw [liveD_yes HTP.out, hxs.out, List.take_of_length_le (by have := HNN.out; omega)]
      go_wp2
      go_ret
      refine ⟨_, rfl, ?_, hb⟩
      rw [HR.out]
      exact ho.out

end Go.Proofs.Ytfdklcmhafhbeaa
