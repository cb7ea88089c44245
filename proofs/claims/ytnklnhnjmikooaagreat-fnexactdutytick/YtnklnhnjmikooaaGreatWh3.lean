
/- The exact statements' helpers on wheels: sizes, copies, held against one another. -/
import Derived.Test.YtnklnhnjmikooaaGreatWh1
import Derived.Test.YtnklnhnjmikooaaGreatWh2
namespace Go.Proofs.YtnklnhnjmikooaaGreat
open Go.RowKit

set_option maxHeartbeats 1000000 in
theorem szS_W (v : Value) (ss : List DTim) (l : Int) (w : World) (h : VTims w v ss) (hl0 : 0 ≤ l) (hl : l ≤ 1048576) :
    Calls Tryz.prog 59 #[v, .int .i64 l] w (SzPost l ss.length w) := by
  obtain ⟨C, ⟨a, cap, rfl, h1, h2, _⟩, _⟩ := h
  unfold maxLen at h2
  generalize ss.length = n at *
  by_cases hn : l - n < 0
  · go_enter Tryz.func59, Tryz.ntmps59
    go_wp2
    go_ret
    exact ⟨-1, rfl, .inl ⟨hn, rfl⟩, Below.refl _ _⟩
  · go_enter Tryz.func59, Tryz.ntmps59
    go_wp2
    go_ret
    exact ⟨l - n, rfl, .inr ⟨by omega, rfl⟩, Below.refl _ _⟩

set_option maxHeartbeats 1000000 in
theorem szW (v : Value) (W : DWheel) (l : Int) (w : World) (h : VWheel w v W) (hl0 : 0 ≤ l) (hl : l ≤ 1048576) :
    Calls Tryz.prog 21 #[v, .int .i64 l] w (SzPost l W.tms.length w) := by
  have hE : ∀ w : World, ∀ o, Ext w (w.alloc o) := fun w o => World.grownBy_alloc _ _ _
  have hB : ∀ w : World, ∀ o, Below w.heap.size w (w.alloc o) := fun w o => (Below.refl _ w).alloc (Nat.le_refl _) _
  obtain ⟨tv, rfl, ht⟩ := h
  obtain ⟨m, hm⟩ : ∃ m, m = W.tms.length := ⟨_, rfl⟩
  have HM : Hid (m = W.tms.length) := hm
  rw [← hm]
  clear hm
  go_enter Tryz.func21, Tryz.ntmps21
  go_wp2_with fail
  refine (szS_W tv W.tms l _ (ht.ext (hE _ _)) (by omega) (by omega)).mono ?_
  rintro e w1 ⟨r, rfl, hr, b1⟩
  rw [← HM.out] at hr
  have B1 := (hB w _).trans (b1.mono (by simp))
  rcases hr with ⟨g1, rfl⟩ | ⟨g1, g2⟩
  · go_wp2
    go_ret
    exact ⟨-1, rfl, .inl ⟨g1, rfl⟩, B1⟩
  · have hr0 : 0 ≤ r := by omega
    have HR : Hid (r = l - m) := g2
    clear g2 g1
    go_wp2
    go_ret
    exact ⟨r, rfl, .inr ⟨by have := HR.out; omega, HR.out⟩, B1⟩

/-- The block g holds the timers of a list that the call made. -/
def OTims (w : World) (g : Nat) (ts : List DTim) : Prop := ∃ F, Blk w g 114 2 ts.length ts.length F ∧ ∀ i s, ts[i]? = some s → F i 0 = .int .i64 s.id ∧ F i 1 = .int .i64 s.due
theorem OTims.grown {w w' : World} {g : Nat} {row : Option Nat} {ts : List DTim} (h : OTims w g ts) (hg : w.grownBy w' row) (hx : row ≠ some g) : OTims w' g ts := by
  obtain ⟨F, hB, hF⟩ := h
  exact ⟨F, blk_kept hB (hg.block g (blk_lt hB) (fun e => hx e.symm)), hF⟩
theorem OTims.v {w : World} {g : Nat} {ts : List DTim} (h : OTims w g ts) (hn : ts.length ≤ 1048576) : VTims w (.slice (some ⟨g, 0, none⟩) ts.length ts.length) ts := by
  obtain ⟨F, hB, hF⟩ := h
  exact ⟨F, blk_SL hB (by unfold maxLen; omega), hF⟩

set_option maxHeartbeats 1000000 in
theorem toW (v : Value) (W : DWheel) (w : World) (h : VWheel w v W) (hn : W.tms.length ≤ 1048576) :
    Calls Tryz.prog 30 #[v] w fun e w' => ∃ g, e = .returned (.agg #[.int .i64 W.now, .slice (some ⟨g, 0, none⟩) W.tms.length W.tms.length]) ∧ w.heap.size ≤ g ∧ OTims w' g W.tms ∧ Below w.heap.size w w' := by
  have hE : ∀ w : World, ∀ o, Ext w (w.alloc o) := fun w o => World.grownBy_alloc _ _ _
  have hB : ∀ w : World, ∀ o, Below w.heap.size w (w.alloc o) := fun w o => (Below.refl _ w).alloc (Nat.le_refl _) _
  obtain ⟨tv, rfl, ht⟩ := h
  obtain ⟨n, hnn⟩ : ∃ n, n = W.tms.length := ⟨_, rfl⟩
  have HN : Hid (n = W.tms.length) := hnn
  rw [← hnn] at hn ⊢
  clear hnn
  go_enter Tryz.func30, Tryz.ntmps30
  go_wp2_with fail
  generalize hV : World.alloc (World.alloc (World.alloc w _) _) _ = V
  have HB0 : Below w.heap.size w V := by
    rw [← hV]
    exact (((Below.refl _ w).alloc (Nat.le_refl _) _).alloc (by simp) _).alloc (by simp; omega) _
  have hq0 : V.cell? ⟨w.heap.size + 1 + 1, 0, none⟩ = some (.int .i64 W.now) := by rw [← hV]; simp [go_sem]
  have hq1 : V.cell? ⟨w.heap.size + 1 + 1, 1, none⟩ = some (.slice none 0 0) := by rw [← hV]; simp [go_sem]
  have hf1 : V.frozen? ⟨w.heap.size + 1 + 1, 1, none⟩ = false := by rw [← hV]; simp [go_sem]
  have hr0 : V.cell? ⟨w.heap.size + 1, 0, none⟩ = some (.int .i64 0) := by rw [← hV]; simp [go_sem]
  have hr1 : V.cell? ⟨w.heap.size + 1, 1, none⟩ = some (.slice none 0 0) := by rw [← hV]; simp [go_sem]
  have hs0 : V.frozen? ⟨w.heap.size + 1, 0, none⟩ = false := by rw [← hV]; simp [go_sem]
  have hs1 : V.frozen? ⟨w.heap.size + 1, 1, none⟩ = false := by rw [← hV]; simp [go_sem]
  have hsz : V.heap.size = w.heap.size + 3 := by rw [← hV]; simp [go_sem]
  clear hV
  refine (toS_W tv W.tms V (ht.ext (ext_below HB0)) (by rw [← HN.out]; exact hn)).mono ?_
  rintro e w1 ⟨F, rfl, hBk, hF, b1⟩
  rw [← HN.out] at hBk ⊢
  have B1 := HB0.trans (b1.mono (by omega))
  obtain ⟨hc, hf⟩ : (∀ b o, b < V.heap.size → w1.cell? ⟨b, o, none⟩ = V.cell? ⟨b, o, none⟩) ∧ (∀ b o, b < V.heap.size → w1.frozen? ⟨b, o, none⟩ = V.frozen? ⟨b, o, none⟩) := ⟨fun b o h => b1.cell (p := ⟨b, o, none⟩) h, fun b o h => b1.frozen (p := ⟨b, o, none⟩) h⟩
  have q0 := (hc _ _ (by omega)).trans hq0
  have q1 := (hc _ _ (by omega)).trans hq1
  have f1 := (hf _ _ (by omega)).trans hf1
  have r0 := (hc _ _ (by omega)).trans hr0
  have r1 := (hc _ _ (by omega)).trans hr1
  have s0 := (hf _ _ (by omega)).trans hs0
  have s1 := (hf _ _ (by omega)).trans hs1
  have HF : Hid (∀ i s, W.tms[i]? = some s → F i 0 = .int .i64 s.id ∧ F i 1 = .int .i64 s.due) := hF
  clear hc hf hq0 hq1 hf1 hr0 hr1 hs0 hs1 hF
  have HO : Hid (OTims w1 V.heap.size W.tms) := ⟨F, by rw [← HN.out]; exact hBk, HF.out⟩
  have Hsz : Hid (V.heap.size = w.heap.size + 3) := hsz
  have hgt : w.heap.size + 2 < V.heap.size := by omega
  have HSZ : Hid (w.heap.size ≤ V.heap.size) := by show _ ≤ _; omega
  have HB1 : Hid (Below w.heap.size w w1) := B1
  clear hsz hBk b1 HB0 B1
  generalize V.heap.size = g at *
  go_wp2
  refine bodyPost_ret (v := .agg #[.int .i64 W.now, .slice (some ⟨g, 0, none⟩) n n]) (by simp [results, Tryz.results30, go_sem, *]) rfl ?_
  refine ⟨g, rfl, HSZ.out, ?_, ?_⟩
  · refine (((HO.out.grown (set_grown _ _ _ _) ?_).grown (set_grown _ _ _ _) ?_).grown (set_grown _ _ _ _) ?_)
    all_goals simp; omega
  · exact ((HB1.out.setCell (by simp <;> omega) _).setCell (by simp <;> omega) _).setCell (by simp <;> omega) _

set_option maxHeartbeats 1000000 in
theorem eqW (v u : Value) (W : DWheel) (w : World) (h : VWheel w v W) (k : VWheel w u W) (hn : W.tms.length ≤ 1048576) :
    Calls Tryz.prog 40 #[v, u] w fun e w' => e = .returned (.bool true) ∧ Below w.heap.size w w' := by
  obtain ⟨tv, rfl, ht⟩ := h
  obtain ⟨uv, rfl, hu⟩ := k
  have EE : ∀ o o', Ext w ((w.alloc o).alloc o') := fun o o' => (World.grownBy_alloc _ _ _).trans (World.grownBy_alloc _ _ _)
  go_enter Tryz.func40, Tryz.ntmps40
  go_wp2_with fail
  refine (eqS_W tv uv W.tms _ (ht.ext (EE _ _)) (hu.ext (EE _ _)) hn).mono ?_
  rintro e w1 ⟨rfl, b1⟩
  go_wp2
  go_ret
  exact ⟨rfl, (((Below.refl _ w).alloc (Nat.le_refl _) _).alloc (by simp) _).trans (b1.mono (by simp; omega))⟩

end Go.Proofs.YtnklnhnjmikooaaGreat
