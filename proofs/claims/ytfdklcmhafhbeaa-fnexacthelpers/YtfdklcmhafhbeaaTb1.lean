/- Tables of members: read, sized, copied, held against one another; marks. -/
import Derived.Test.YtfdklcmhafhbeaaElMem3
namespace Go.Proofs.Ytfdklcmhafhbeaa
open Go.RowKit

structure DTab where
  self : Int
  mems : List DMem

def VTab (w : World) (v : Value) (T : DTab) : Prop := ∃ tv, v = .agg #[.int .i64 T.self, tv] ∧ VMem w tv T.mems
theorem VTab.ext {w w' : World} {v : Value} {T : DTab} (h : VTab w v T) (e : Ext w w') : VTab w' v T := by
  obtain ⟨tv, hv, h1⟩ := h
  exact ⟨tv, hv, h1.ext e⟩

set_option maxHeartbeats 1000000 in
theorem szTab (v : Value) (T : DTab) (l : Int) (w : World) (h : VTab w v T) (hl0 : 0 ≤ l) (hl : l ≤ 1048576) :
    Calls Try.prog 7 #[v, .int .i64 l] w (SzPost l T.mems.length w) := by
  have hE : ∀ w : World, ∀ o, Ext w (w.alloc o) := fun w o => World.grownBy_alloc _ _ _
  have hB : ∀ w : World, ∀ o, Below w.heap.size w (w.alloc o) := fun w o => (Below.refl _ w).alloc (Nat.le_refl _) _
  obtain ⟨tv, rfl, ht⟩ := h
  obtain ⟨m, hm⟩ : ∃ m, m = T.mems.length := ⟨_, rfl⟩
  have HM : Hid (m = T.mems.length) := hm
  rw [← hm]
  clear hm
  go_enter Try.func7, Try.ntmps7
  go_wp2_with fail
  refine (szS_Mem tv T.mems l _ (ht.ext (hE _ _)) (by omega) (by omega)).mono ?_
  rintro e w1 ⟨r, rfl, hr, b1⟩
  rw [← HM.out] at hr
  have B1 := (hB w _).trans (b1.mono (by simp))
  rcases hr with ⟨g1, rfl⟩ | ⟨g1, g2⟩
  · go_wp2
    go_ret
    exact ⟨-1, rfl, .inl ⟨g1, rfl⟩, B1⟩
  · have hr0 : 0 ≤ r := by omega
    have HR : Hid (r = l - m) := g2
    clear g2 g1
    go_wp2
    go_ret
    exact ⟨r, rfl, .inr ⟨by have := HR.out; omega, HR.out⟩, B1⟩

set_option maxHeartbeats 1000000 in
theorem toTab (v : Value) (T : DTab) (w : World) (h : VTab w v T) (hn : T.mems.length ≤ 1048576) :
    Calls Try.prog 10 #[v] w fun e w' => ∃ g, e = .returned (.agg #[.int .i64 T.self, .slice (some ⟨g, 0, none⟩) T.mems.length T.mems.length]) ∧ OwMem w' w.heap.size (.slice (some ⟨g, 0, none⟩) T.mems.length T.mems.length) T.mems ∧ Below w.heap.size w w' := by
  have hE : ∀ w : World, ∀ o, Ext w (w.alloc o) := fun w o => World.grownBy_alloc _ _ _
  have HN1 : Hid (T.mems.length ≤ 1048576) := hn
  obtain ⟨tv, rfl, ht⟩ := h
  obtain ⟨n, hnn⟩ : ∃ n, n = T.mems.length := ⟨_, rfl⟩
  have HN : Hid (n = T.mems.length) := hnn
  rw [← hnn] at hn ⊢
  clear hnn
  go_enter Try.func10, Try.ntmps10
  go_wp2_with fail
  generalize hV : World.alloc (World.alloc (World.alloc w _) _) _ = V
  have HB0 : Below w.heap.size w V := by
    rw [← hV]
    exact (((Below.refl _ w).alloc (Nat.le_refl _) _).alloc (by simp) _).alloc (by simp; omega) _
  have hq0 : V.cell? ⟨w.heap.size + 1 + 1, 0, none⟩ = some (.int .i64 T.self) := by rw [← hV]; simp [go_sem]
  have hq1 : V.cell? ⟨w.heap.size + 1 + 1, 1, none⟩ = some (.slice none 0 0) := by rw [← hV]; simp [go_sem]
  have hf1 : V.frozen? ⟨w.heap.size + 1 + 1, 1, none⟩ = false := by rw [← hV]; simp [go_sem]
  have hr0 : V.cell? ⟨w.heap.size + 1, 0, none⟩ = some (.int .i64 0) := by rw [← hV]; simp [go_sem]
  have hr1 : V.cell? ⟨w.heap.size + 1, 1, none⟩ = some (.slice none 0 0) := by rw [← hV]; simp [go_sem]
  have hs0 : V.frozen? ⟨w.heap.size + 1, 0, none⟩ = false := by rw [← hV]; simp [go_sem]
  have hs1 : V.frozen? ⟨w.heap.size + 1, 1, none⟩ = false := by rw [← hV]; simp [go_sem]
  have hsz : V.heap.size = w.heap.size + 3 := by rw [← hV]; simp [go_sem]
  clear hV
  refine (toS_Mem tv T.mems V (ht.ext (ext_below HB0)) (by rw [← HN.out]; exact hn)).mono ?_
  rintro e w1 ⟨F, rfl, hBk, hF, b1⟩
  have HO : Hid (OwMem w1 V.heap.size (.slice (some ⟨V.heap.size, 0, none⟩) n n) T.mems) := by
    have := blk_Mem (base := V.heap.size) hBk hF (Nat.le_refl _) HN1.out
    rw [← HN.out] at this
    exact this
  rw [← HN.out] at hBk ⊢
  have B1 := HB0.trans (b1.mono (by omega))
  obtain ⟨hc, hf⟩ : (∀ b o, b < V.heap.size → w1.cell? ⟨b, o, none⟩ = V.cell? ⟨b, o, none⟩) ∧ (∀ b o, b < V.heap.size → w1.frozen? ⟨b, o, none⟩ = V.frozen? ⟨b, o, none⟩) := ⟨fun b o h => b1.cell (p := ⟨b, o, none⟩) h, fun b o h => b1.frozen (p := ⟨b, o, none⟩) h⟩
  have q0 := (hc _ _ (by omega)).trans hq0
  have q1 := (hc _ _ (by omega)).trans hq1
  have f1 := (hf _ _ (by omega)).trans hf1
  have r0 := (hc _ _ (by omega)).trans hr0
  have r1 := (hc _ _ (by omega)).trans hr1
  have s0 := (hf _ _ (by omega)).trans hs0
  have s1 := (hf _ _ (by omega)).trans hs1
  clear hc hf hq0 hq1 hf1 hr0 hr1 hs0 hs1 hF hBk
  have Hsz : Hid (V.heap.size = w.heap.size + 3) := hsz
  have hgt : w.heap.size + 2 < V.heap.size := by omega
  have HSZ : Hid (w.heap.size ≤ V.heap.size) := by show _ ≤ _; omega
  have HB1 : Hid (Below w.heap.size w w1) := B1
  clear hsz b1 HB0 B1
  generalize V.heap.size = g at *
  go_wp2
  refine bodyPost_ret (v := .agg #[.int .i64 T.self, .slice (some ⟨g, 0, none⟩) n n]) (by simp [results, Try.results10, go_sem, *]) rfl ?_
  refine ⟨g, rfl, ?_, ?_⟩
  · refine OwMem.base (b := g) ?_ HSZ.out
    refine (((HO.out.keep (set_grown _ _ _ _) (.inr ?_)).keep (set_grown _ _ _ _) (.inr ?_)).keep (set_grown _ _ _ _) (.inr ?_))
    all_goals simp [Value.ownBlock]; omega
  · exact ((HB1.out.setCell (by simp <;> omega) _).setCell (by simp <;> omega) _).setCell (by simp <;> omega) _

set_option maxHeartbeats 1000000 in
theorem eqTab (v u : Value) (T : DTab) (w : World) (h : VTab w v T) (k : VTab w u T) (hn : T.mems.length ≤ 1048576) :
    Calls Try.prog 13 #[v, u] w fun e w' => e = .returned (.bool true) ∧ Below w.heap.size w w' := by
  obtain ⟨tv, rfl, ht⟩ := h
  obtain ⟨uv, rfl, hu⟩ := k
  have EE : ∀ o o', Ext w ((w.alloc o).alloc o') := fun o o' => (World.grownBy_alloc _ _ _).trans (World.grownBy_alloc _ _ _)
  go_enter Try.func13, Try.ntmps13
  go_wp2_with fail
  refine (eqS_Mem tv uv T.mems _ (ht.ext (EE _ _)) (hu.ext (EE _ _)) hn).mono ?_
  rintro e w1 ⟨rfl, b1⟩
  go_wp2
  go_ret
  exact ⟨rfl, (((Below.refl _ w).alloc (Nat.le_refl _) _).alloc (by simp) _).trans (b1.mono (by simp; omega))⟩

end Go.Proofs.Ytfdklcmhafhbeaa
