
/- The specification's l7stop at a wheel within a duty's box. -/
import Derived.Test.YtnklnhnjmikooaaGreatHpY
import Derived.Test.YtnklnhnjmikooaaGreatHpL
import Derived.Test.YtnklnhnjmikooaaGreatDy7
import Derived.Test.YtnklnhnjmikooaaGreatDy5
import Derived.Test.YtnklnhnjmikooaaGreatHpS
namespace Go.Proofs.YtnklnhnjmikooaaGreat
open Go.RowKit

theorem setD_len (D : DWheel) (id after : Int) (h : D.tms.length ≤ 1048576) : (setD (tB (WheelP D)) D id after).1.tms.length ≤ 1048576 := by
  cases hok : tB (WheelP D) with
  | false => unfold setD; simp
  | true =>
    have h40 := (tB_iff.1 hok).2.1
    unfold setD
    rw [if_pos rfl]
    split
    · exact h
    · simp only
      rw [(insT_perm _ _).length_eq]
      unfold lessT
      split
      · simp; omega
      · rw [List.length_append, List.length_eraseIdx]
        split <;> simp <;> omega

end Go.Proofs.YtnklnhnjmikooaaGreat

namespace Go.Proofs.YtnklnhnjmikooaaGreat
open Go.RowKit

set_option maxHeartbeats 2000000 in
theorem ownDuV (v : Value) (D : DDuty) (w : World) (h : VDuty w v D) (hl : D.wh.tms.length ≤ 1048576) :
    Calls Tryz.prog 28 #[v] w fun e w' => ∃ a c, e = .returned (.agg #[.int .i64 D.ttl, .int .i64 D.wh.now, .slice a D.wh.tms.length c]) ∧ OwT w' w.heap.size (.slice a D.wh.tms.length c) D.wh.tms ∧ Below w.heap.size w w' := by
  have HL : Hid (D.wh.tms.length ≤ 1048576) := hl
  obtain ⟨tv, rfl, ht⟩ := h
  obtain ⟨a, cap, rfl⟩ := ht.shape
  have HV : Hid (VTims w (.slice a D.wh.tms.length cap) D.wh.tms) := ht
  obtain ⟨n, hn⟩ : ∃ n, n = D.wh.tms.length := ⟨_, rfl⟩
  rw [← hn] at HV ⊢
  have HN : Hid (n = D.wh.tms.length) := hn
  clear hn ht hl
  go_enter Tryz.func28, Tryz.ntmps28
  go_wp2_with fail
  generalize hW : World.alloc (World.alloc w _) _ = W
  have BW : Below w.heap.size w W := by rw [← hW]; exact ((Below.refl _ w).alloc (Nat.le_refl _) _).alloc (by simp) _
  have PB : W.heap[w.heap.size]? = some (.cells #[.int .i64 D.ttl, .int .i64 D.wh.now, .slice a n cap] 39 (0, 0)) := by rw [← hW, Below.heap_alloc _ _ _ (by simp)]; exact heap_alloc_new w _
  have PR : W.heap[w.heap.size + 1]? = some (.cells #[.int .i64 0, .int .i64 0, .slice none 0 0] 39 (0, 0)) := by rw [← hW]; simpa using heap_alloc_new (World.alloc w (.cells #[.int .i64 D.ttl, .int .i64 D.wh.now, .slice a n cap] 39)) (.cells #[.int .i64 0, .int .i64 0, .slice none 0 0] 39)
  have hsz : W.heap.size = w.heap.size + 2 := by rw [← hW]; simp
  clear hW
  have HSZ := hideD hsz
  have HB0 := hideD BW
  have HC : Hid (∀ V, Ext W V → Calls Tryz.prog 69 #[.agg #[.int .i64 D.wh.now, .slice a n cap]] V fun e w' => ∃ a' c', e = .returned (.agg #[.int .i64 D.wh.now, .slice a' n c']) ∧ (w'.cell? ⟨w.heap.size, 0, none⟩ = some (.int .i64 D.ttl) ∧ w'.cell? ⟨w.heap.size, 1, none⟩ = some (.int .i64 D.wh.now) ∧ w'.cell? ⟨w.heap.size, 2, none⟩ = some (.slice a n cap)) ∧ (w'.cell? ⟨w.heap.size + 1, 0, none⟩ = some (.int .i64 0) ∧ w'.cell? ⟨w.heap.size + 1, 1, none⟩ = some (.int .i64 0) ∧ w'.cell? ⟨w.heap.size + 1, 2, none⟩ = some (.slice none 0 0)) ∧ (w'.frozen? ⟨w.heap.size + 1, 0, none⟩ = false ∧ w'.frozen? ⟨w.heap.size + 1, 1, none⟩ = false ∧ w'.frozen? ⟨w.heap.size + 1, 2, none⟩ = false) ∧ Hid (OwT w' V.heap.size (.slice a' n c') D.wh.tms) ∧ Hid (Below V.heap.size V w')) := fun V hb =>
    (ownV _ D.wh V ⟨_, rfl, HV.out.ext ((ext_below BW).trans hb)⟩ HL.out).mono (fun e w' ⟨v', h1, h2, h3⟩ => by
      obtain ⟨a', c', rfl⟩ := h2.v.shape
      rw [← HN.out] at h1 h2
      have P1 := ext_blk (hb.trans (ext_below h3)) PB
      have P2 := ext_blk (hb.trans (ext_below h3)) PR
      exact ⟨a', c', h1, bx3 P1, bx3 P2, ⟨(at_block P2 0 _ rfl).2, (at_block P2 1 _ rfl).2, (at_block P2 2 _ rfl).2⟩, h2, h3⟩)
  obtain ⟨p0, p1, p2⟩ := bx3 PB
  clear PB PR BW hsz
  go_region_held3 (fun w' => w'.cell? ⟨w.heap.size, 0, none⟩ = some (.int .i64 D.ttl) ∧ w'.cell? ⟨w.heap.size, 1, none⟩ = some (.int .i64 D.wh.now) ∧ w'.cell? ⟨w.heap.size, 2, none⟩ = some (.slice a n cap)) (first | (simp [*]; done) | go_keep) (first | (go_at_call 69; refine (HC.out _ ?_).mono ?_; exact ext_drewN W 1; rintro e w1 ⟨a1, c1, rfl, ⟨y0, y1, y2⟩, ⟨z0, z1, z2⟩, ⟨f0, f1, f2⟩, o1, b1⟩))
  all_goals
    go_wp2
    refine bodyPost_ret (v := .agg #[.int .i64 D.ttl, .int .i64 D.wh.now, .slice a1 n c1]) (by simp [results, Tryz.results28, go_sem, *]) rfl ?_
    have hnv : (Value.slice a1 n c1).ownBlock = none ∨ (Value.slice a1 n c1).ownBlock ≠ some (w.heap.size + 1) := by
      right
      intro e
      have := (World.ownsRow.lt o1.out _ e).1
      have := HSZ.out
      simp at *
      omega
    refine ⟨a1, c1, rfl, ((((baseT o1.out HB0.out.size).kept (set_grown _ _ _ _) hnv).kept (set_grown _ _ _ _) hnv).kept (set_grown _ _ _ _) hnv), ?_⟩
    repeat (first | exact HB0.out.trans ((below_undrew b1.out).mono HB0.out.size) | (refine Below.setCell ?_ (by simp) _))

end Go.Proofs.YtnklnhnjmikooaaGreat

namespace Go.Proofs.YtnklnhnjmikooaaGreat
open Go.RowKit

/-- A duty in a box of the call's own. -/
structure DB (w : World) (base h : Nat) (ttl now : Int) (a : Option Addr) (cap : Nat) (ts : List DTim) : Prop where
  box : w.heap[h]? = some (.cells #[.int .i64 ttl, .int .i64 now, .slice a ts.length cap] 39 (0, 0))
  row : OwT w base (.slice a ts.length cap) ts
  low : base ≤ h
theorem DB.cells {w : World} {base h cap : Nat} {ttl now : Int} {a : Option Addr} {ts : List DTim} (p : DB w base h ttl now a cap ts) : w.cell? ⟨h, 1, none⟩ = some (.int .i64 now) ∧ w.cell? ⟨h, 2, none⟩ = some (.slice a ts.length cap) ∧ w.frozen? ⟨h, 2, none⟩ = false := ⟨(at_block p.box 1 _ rfl).1, (at_block p.box 2 _ rfl).1, (at_block p.box 2 _ rfl).2⟩
theorem DB.below {w w' : World} {base h cap : Nat} {ttl now : Int} {a : Option Addr} {ts : List DTim} (p : DB w base h ttl now a cap ts) (b : Below w.heap.size w w') : DB w' base h ttl now a cap ts :=
  ⟨below_blk b (Array.getElem?_eq_some_iff.1 p.box).1 p.box, p.row.kept (ext_below b) (by cases hv : (Value.slice a ts.length cap).ownBlock <;> simp), p.low⟩

/-- What stopping in a box comes to. -/
def SStopD (base h : Nat) (ttl now : Int) (ts : List DTim) (id : Int) (w : World) (e : Ending) (w' : World) : Prop := ∃ b a' cap' ts', e = .returned (.bool b) ∧ (b = false ∧ placeT ts id = -1 ∧ ts' = ts ∨ b = true ∧ ∃ i : Nat, placeT ts id = (i : Int) ∧ i < ts.length ∧ ts' = ts.eraseIdx i) ∧ DB w' base h ttl now a' cap' ts' ∧ w.grownBy w' (some h)

set_option maxHeartbeats 4000000 in
theorem sstopVD (h base cap : Nat) (ttl now : Int) (a : Option Addr) (ts : List DTim) (id : Int) (w : World) (p : DB w base h ttl now a cap ts) (hl : ts.length ≤ 1000) (hb : base ≤ w.heap.size) :
    Calls Tryz.prog 70 #[.pointer (some ⟨h, 1, none⟩), .int .i64 id] w (SStopD base h ttl now ts id w) := by
  obtain ⟨c0, c1, f1⟩ := p.cells
  obtain ⟨n, hn⟩ : ∃ n, n = ts.length := ⟨_, rfl⟩
  rw [← hn] at c1 hl
  have HN : Hid (n = ts.length) := hn
  have HV : Hid (VTims w (.slice a n cap) ts) := by rw [hn]; exact p.row.v
  have HP0 : Hid (DB w base h ttl now a cap ts) := p
  have hhl : h < w.heap.size := (Array.getElem?_eq_some_iff.1 p.box).1
  have HB : Hid (base ≤ w.heap.size) := hb
  clear hn p hb
  go_enter Tryz.func70, Tryz.ntmps70
  go_wp2_with fail
  refine (sfindV _ ts id w HV.out).mono ?_
  rintro e w1 ⟨rfl, rfl⟩
  rcases placeT_cases ts id with ⟨hp, _⟩ | ⟨i, t, ht, _, _, hp⟩
  · have HPL : Hid (placeT ts id = -1) := hp
    rw [hp]
    clear hp
    go_wp2
    go_ret
    exact ⟨false, a, cap, ts, rfl, .inl ⟨rfl, HPL.out, rfl⟩, HP0.out, grown_re _ _⟩
  · have hi : i < n := by have := (List.getElem?_eq_some_iff.1 ht).1; have := HN.out; omega
    have HPL : Hid (placeT ts id = (i : Int) ∧ i < ts.length) := ⟨hp, by have := HN.out; omega⟩
    rw [hp]
    clear hp ht
    have hin : (i : Int) < n := by omega
    have hn1 : (n : Int) ≤ 1000 := by omega
    have hcap : n ≤ cap ∧ cap ≤ 9223372036854775807 := by
      obtain ⟨C, ⟨a', cap', e, q1, q2, _⟩, _⟩ := HV.out
      simp only [Value.slice.injEq] at e
      obtain ⟨_, e2, rfl⟩ := e
      unfold maxLen at q2
      omega
    obtain ⟨hc1, hc2⟩ := hcap
    obtain ⟨g, ha⟩ : ∃ g, a = some ⟨g, 0, none⟩ := by
      rcases HP0.out.row.2 with ⟨_, h0⟩ | ⟨g, c, cur, hv, _⟩
      · have := HPL.out.2; omega
      · simp only [Value.slice.injEq] at hv
        exact ⟨g, hv.1⟩
    subst ha
    have kA : ∀ o, (w1.alloc o).cell? ⟨h, 2, none⟩ = some (.slice (some ⟨g, 0, none⟩) n cap) := fun o => World.grownBy.cell (World.grownBy_alloc w1 o none) c1 (by simp)
    have kB : ∀ o, (w1.alloc o).drew.cell? ⟨h, 2, none⟩ = some (.slice (some ⟨g, 0, none⟩) n cap) := fun o => kA o
    have hne1 : w1.heap.size ≠ h := by omega
    go_wp2_with fail
    have HV1 : Hid (VTims (w1.alloc (.cells #[] 114)).drew (.slice (some ⟨g, 0, none⟩) i cap) (ts.take i)) := (HV.out.take (by omega)).ext ((World.grownBy_alloc w1 _ none).trans (ext_drewN _ 1))
    have HLL : Hid (∀ m : Nat, (ts.take m).length ≤ 1000) := fun m => by have := HN.out; simp; omega
    have HKEEP : Hid (∀ w2, (w1.alloc (.cells #[] 114)).grownBy w2 (some w1.heap.size) → w2.cell? ⟨h, 2, none⟩ = some (.slice (some ⟨g, 0, none⟩) n cap) ∧ w2.frozen? ⟨h, 2, none⟩ = false) := fun w2 g2 => ⟨g2.cell (kA _) (by simp; omega), by
      rw [World.frozen?_of_block (w := w1) (by rw [g2.block h (by simp; omega) (by simp; omega), Below.heap_alloc w1 _ h hhl])]; exact f1⟩
    have hic : i ≤ cap := by omega
    have hwr : IntKind.i64.wrap ((i : Int) + 1) = (i : Int) + 1 := by rw [IntKind.wrap_i64]; omega
    have hi0 : (0 : Int) ≤ (i : Int) + 1 := by omega
    have hi1 : (i : Int) + 1 ≤ n := by omega
    have HL2 : Hid ((ts.take i).length + (ts.drop (i + 1)).length ≤ 2000) := by have := HN.out; show _ ≤ _; simp; omega
    have HV2 : Hid (∀ w2, (w1.alloc (.cells #[] 114)).grownBy w2 (some w1.heap.size) → (cap = i + 1 → VTims w2 (.slice (some ⟨g, 0, none⟩) 0 0) (ts.drop (i + 1))) ∧ (¬ cap = i + 1 → VTims w2 (.slice (some ⟨g, (i + 1) * 2, none⟩) (n - (i + 1)) (cap - (i + 1))) (ts.drop (i + 1)))) := fun w2 g2 => by
      have e2 : Below w1.heap.size w1 w2 := ((Below.refl _ w1).alloc (Nat.le_refl _) _).grown g2 (by simp) (fun k hk => by cases hk; exact Nat.le_refl _)
      refine ⟨fun hce => ?_, fun hce => ?_⟩
      · have : ts.drop (i + 1) = [] := List.drop_of_length_le (by have := HN.out; omega)
        rw [this]
        exact ⟨fun _ _ => .bool true, ⟨_, 0, rfl, Nat.le_refl _, Nat.zero_le _, fun h => absurd h (by simp)⟩, fun i r hr => by simp at hr⟩
      · have := (HV.out.ext (ext_below e2)).drop (k := i + 1) (by omega)
        simpa using this
    have HFIN : Hid (∀ v2 w2 v3 w3, OwT w2 w1.heap.size v2 ([] ++ ts.take i) → (w1.alloc (.cells #[] 114)).grownBy w2 (some w1.heap.size) → OwT w3 w1.heap.size v3 ([] ++ ts.take i ++ ts.drop (i + 1)) → w2.grownBy w3 v2.ownBlock → ∃ a3 c3, v3 = .slice a3 (n - 1) c3 ∧ w3.cell? ⟨h, 2, none⟩ = some (.slice (some ⟨g, 0, none⟩) n cap) ∧ w3.frozen? ⟨h, 2, none⟩ = false ∧ DB (w3.setCell ⟨h, 2, none⟩ v3) base h ttl now a3 c3 (ts.eraseIdx i) ∧ w1.grownBy (w3.setCell ⟨h, 2, none⟩ v3) (some h)) := by
      intro v2 w2 v3 w3 o2 g2 o3 g3
      have e2 : Below w1.heap.size w1 w2 := ((Below.refl _ w1).alloc (Nat.le_refl _) _).grown g2 (by simp) (fun k hk => by cases hk; exact Nat.le_refl _)
      have e3 : Below w1.heap.size w1 w3 := e2.grown g3 e2.size (fun k hk => (World.ownsRow.lt o2 k hk).1)
      have hE : [] ++ ts.take i ++ ts.drop (i + 1) = ts.eraseIdx i := by rw [List.eraseIdx_eq_take_drop_succ]; exact rfl
      rw [hE] at o3
      have hlE : (ts.eraseIdx i).length = n - 1 := by rw [List.length_eraseIdx, if_pos HPL.out.2, ← HN.out]
      obtain ⟨a3, c3, rfl⟩ := o3.v.shape
      rw [hlE] at o3 ⊢
      have hbx := below_blk e3 hhl HP0.out.box
      rw [← HN.out] at hbx
      have hnb : (Value.slice a3 (n - 1) c3).ownBlock = none ∨ (Value.slice a3 (n - 1) c3).ownBlock ≠ some h := by
        right
        intro e
        have := (World.ownsRow.lt o3 _ e).1
        omega
      refine ⟨a3, c3, rfl, (at_block hbx 2 _ rfl).1, (at_block hbx 2 _ rfl).2, ⟨?_, ?_, HP0.out.low⟩, ?_⟩
      · rw [set_block hbx 2 (.slice a3 (n - 1) c3), hlE]
        simp
      · rw [hlE]
        exact (o3.base HB.out).kept (set_grown _ _ _ _) hnb
      · exact (grown_below e3 _).trans (set_grown _ _ _ _)
    by_cases hce : cap = i + 1
    · have hnn : n = i + 1 := by omega
      subst hce
      subst hnn
      have hii : (i : Int) ≤ (i : Int) + 1 := by omega
      go_region_law (first | (refine step_append_tm rfl (.tmp 15) (.tmp 21) 35 Tryz.underlying35 rfl w1.heap.size (.slice (some ⟨w1.heap.size, 0, none⟩) 0 0) [] rfl (ow_none w1 _ (Nat.le_refl _)) (some ⟨g, 0, none⟩) i (i + 1) (ts.take i) rfl HV1.out (by have := HLL.out i; simp at *; omega) (by simp) ?_; intro v2 w2 o2 g2 a2; obtain ⟨x1, x2⟩ := HKEEP.out w2 (grown_undrew g2)) | (refine step_append_tm rfl (.tmp 22) (.tmp 29) 35 Tryz.underlying35 rfl w1.heap.size v2 ([] ++ ts.take i) rfl o2 (some ⟨g, 0, none⟩) 0 0 (ts.drop (i + 1)) rfl ((HV2.out w2 (grown_undrew g2)).1 rfl) (by have := HL2.out; simp at *; omega) (by have := g2.size; simp at this; omega) ?_; intro v3 w3 o3 g3 hat3; obtain ⟨a3, c3, rfl, y1, y2, y3, y4⟩ := HFIN.out v2 w2 v3 w3 o2 (grown_undrew g2) o3 g3))
      all_goals
        go_wp2_with fail
        go_ret
        exact ⟨true, a3, c3, ts.eraseIdx i, rfl, .inr ⟨rfl, i, HPL.out.1, HPL.out.2, rfl⟩, y3, y4⟩
    · have hce' : ¬ cap = i + 1 := hce
      go_region_law (first | (refine step_append_tm rfl (.tmp 15) (.tmp 21) 35 Tryz.underlying35 rfl w1.heap.size (.slice (some ⟨w1.heap.size, 0, none⟩) 0 0) [] rfl (ow_none w1 _ (Nat.le_refl _)) (some ⟨g, 0, none⟩) i cap (ts.take i) rfl HV1.out (by have := HLL.out i; simp at *; omega) (by simp) ?_; intro v2 w2 o2 g2 a2; obtain ⟨x1, x2⟩ := HKEEP.out w2 (grown_undrew g2)) | (refine step_append_tm rfl (.tmp 22) (.tmp 29) 35 Tryz.underlying35 rfl w1.heap.size v2 ([] ++ ts.take i) rfl o2 (some ⟨g, (i + 1) * 2, none⟩) (n - (i + 1)) (cap - (i + 1)) (ts.drop (i + 1)) rfl ((HV2.out w2 (grown_undrew g2)).2 hce') (by have := HL2.out; simp at *; omega) (by have := g2.size; simp at this; omega) ?_; intro v3 w3 o3 g3 hat3; obtain ⟨a3, c3, rfl, y1, y2, y3, y4⟩ := HFIN.out v2 w2 v3 w3 o2 (grown_undrew g2) o3 g3))
      all_goals
        go_wp2_with fail
        go_ret
        exact ⟨true, a3, c3, ts.eraseIdx i, rfl, .inr ⟨rfl, i, HPL.out.1, HPL.out.2, rfl⟩, y3, y4⟩

end Go.Proofs.YtnklnhnjmikooaaGreat

