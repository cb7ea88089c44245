/- The program's othersOf. -/
import Derived.Test.YtfdklcmhafhbeaaDl0
import Derived.Test.YtfdklcmhafhbeaaMiLive
import Derived.Test.YtfdklcmhafhbeaaLPr
import Derived.Deep.RegionHeld3
namespace Go.Proofs.Ytfdklcmhafhbeaa
open Go.RowKit

set_option maxRecDepth 20000 in
set_option maxHeartbeats 2000000 in
theorem iOthersV (v : Value) (T : DTab) (w : World) (h : VTab w v T) (hn : T.mems.length ≤ 1048576) :
    Calls Try.prog 36 #[v] w fun e w' => ∃ v', e = .returned v' ∧ OwI w' w.heap.size v' (othersD T) ∧ Below w.heap.size w w' := by
  have hE : ∀ w : World, ∀ o, Ext w (w.alloc o) := fun w o => World.grownBy_alloc _ _ _
  have HT : Hid (VTab w v T) := h
  have HN : Hid (T.mems.length ≤ 1048576) := hn
  obtain ⟨tv, rfl, ht⟩ := h
  obtain ⟨a, cap, rfl⟩ := ht.shape
  obtain ⟨n, hnn⟩ : ∃ n, n = T.mems.length := ⟨_, rfl⟩
  rw [← hnn] at HT ⊢
  obtain ⟨R, hR⟩ : ∃ R, R = othersD T := ⟨_, rfl⟩
  have HR : Hid (R = exceptL (liveD T) T.self) := hR
  rw [← hR]
  clear ht hnn hn hR
  go_enter Try.func36, Try.ntmps36
  go_upto_region 1 with fail
  generalize hW : w.alloc _ = W
  have XW : Hid (Ext w W) := by rw [← hW]; exact hE _ _
  have P0 : W.heap[w.heap.size]? = some (.cells #[.int .i64 T.self, .slice a n cap] 36 (0, 0)) := by rw [← hW]; exact heap_alloc_new w _
  clear hW
  obtain ⟨c0, c1⟩ := two_cells P0
  have HP0 : Hid (W.heap[w.heap.size]? = some (.cells #[.int .i64 T.self, .slice a n cap] 36 (0, 0))) := P0
  clear P0
  go_region_held3 (fun w' => w'.cell? ⟨w.heap.size, 0, none⟩ = some (.int .i64 T.self) ∧ w'.cell? ⟨w.heap.size, 1, none⟩ = some (.slice a n cap)) (first | (simp [*]; done) | go_keep)
    (first
      | (have zz := HO1; clear zz; go_at_call 41; refine (withoutV _ (liveD T) T.self _ _ HO1.out (live_len HN.out)).mono ?_; rintro e w2 ⟨v2, rfl, o2, g2⟩; rw [← HR.out] at o2; obtain ⟨a2, e2, rfl⟩ := o2.shape; have HO2 : Hid (OwI w2 w.heap.size (.slice a2 R.length e2) R) := o2.base (by have := XW.out.size; exact this); have HB2 : Hid (Below w.heap.size w w2) := HB1.out.grown g2 HB1.out.size (fun k hk => Nat.le_trans XW.out.size (World.ownsRow.lt HO1.out k hk).1); obtain ⟨d0, d1⟩ := two_cells ((g2.block _ (Array.getElem?_eq_some_iff.1 HP1.out).1 (ne_rowN HO1.out HP1.out (by decide))).trans HP1.out); clear o2 g2)
      | (go_at_call 58; refine (iLiveV _ T _ (HT.out.ext (XW.out.tr (ext_drewN W 1))) HN.out).mono ?_; rintro e w1 ⟨v1, rfl, o1, b1⟩; obtain ⟨a1, e1, rfl⟩ := o1.shape; have HO1 : Hid (OwI w1 W.heap.size (.slice a1 (liveD T).length e1) (liveD T)) := o1; have XW1 : Hid (Ext W w1) := (ext_drewN W 1).tr (ext_below b1); have HB1 : Hid (Below w.heap.size w w1) := ext_bel (XW.out.tr XW1.out); have HP1 := hideR (ext_blk XW1.out HP0.out); obtain ⟨b0, b1'⟩ := two_cells HP1.out; clear o1 b1))
  all_goals
    go_wp2
    go_ret
    exact ⟨_, rfl, HO2.out, HB2.out⟩

end Go.Proofs.Ytfdklcmhafhbeaa
