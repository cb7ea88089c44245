
/- The contract of the program's WheelStop. -/
import Derived.Test.YtnklnhnjmikooaaGreatHpI
namespace Go.Proofs.YtnklnhnjmikooaaGreat
open Go.RowKit

/-- The wheel without this timer, and whether there was one. -/
def stopD (c : Bool) (D : DWheel) (id : Int) : DWheel × Bool := if c then (if placeT D.tms id < 0 then (D, false) else (⟨D.now, D.tms.eraseIdx (placeT D.tms id).toNat⟩, true)) else (⟨0, []⟩, false)
/-- A wheel and a bool, in memory of its own. -/
def ResW (R : DWheel × Bool) (w : World) (e : Ending) (w' : World) : Prop := ∃ tv, e = .returned (.tuple #[.agg #[.int .i64 R.1.now, tv], .bool R.2]) ∧ OwT w' w.heap.size tv R.1.tms ∧ Below w.heap.size w w'

theorem perm_erase {ts ts' : List DTim} {i : Nat} {t : DTim} (ht : ts[i]? = some t) (p : (t :: ts').Perm ts) : ts'.Perm (ts.eraseIdx i) := by
  obtain ⟨hl, rfl⟩ := List.getElem?_eq_some_iff.1 ht
  have h1 : ts = ts.take i ++ ts[i] :: ts.drop (i + 1) := by rw [List.getElem_cons_drop]; exact (List.take_append_drop i ts).symm
  have h2 : (ts[i] :: ts').Perm (ts[i] :: (ts.take i ++ ts.drop (i + 1))) := p.trans (by
    have h3 := List.perm_middle (a := ts[i]) (l₁ := ts.take i) (l₂ := ts.drop (i + 1))
    rw [← h1] at h3
    exact h3)
  rw [List.eraseIdx_eq_take_drop_succ]
  exact h2.cons_inv
theorem SortT.erase {ts : List DTim} (h : SortT ts) (i : Nat) : SortT (ts.eraseIdx i) := List.Pairwise.sublist (List.eraseIdx_sublist ts i) h
/-- What is told in the end, in order. -/
theorem stop_end {D : DWheel} {id : Int} {b : Bool} {ts' tk : List DTim} (hD : WheelP D) (hs : StopP D.tms id b ts') (hk : SortT tk) (hp : tk.Perm ts') : stopD true D id = (⟨D.now, tk⟩, b) := by
  have g := wheel_good hD
  rcases hs with ⟨rfl, h1, rfl⟩ | ⟨rfl, i, t, h1, h2, h3, h4⟩
  · have : tk = D.tms := sort_uniq hk (wheel_sort hD) (g.perm hp) hp
    subst this
    unfold stopD
    rw [if_pos rfl, h1, if_pos (by omega)]
  · have hp' := hp.trans (perm_erase h2 h4)
    have : tk = D.tms.eraseIdx i := sort_uniq hk ((wheel_sort hD).erase i) (fun x hx => g x (List.mem_of_mem_eraseIdx (hp'.mem_iff.1 hx))) hp'
    subst this
    unfold stopD
    rw [if_pos rfl, h1, if_neg (by omega)]
    simp

set_option maxHeartbeats 4000000 in
theorem iStopV (v : Value) (D : DWheel) (id : Int) (w : World) (h : VWheel w v D) (hl : D.tms.length ≤ 1048576) : Calls Tryz.prog 107 #[v, .int .i64 id] w (ResW (stopD (tB (WheelP D)) D id) w) := by
  have HV0 : Hid (VWheel w v D) := h
  obtain ⟨tv, rfl, h⟩ := h
  obtain ⟨ta, tc', rfl⟩ := h.shape
  obtain ⟨n, hn⟩ : ∃ n, n = D.tms.length := ⟨_, rfl⟩
  rw [← hn] at HV0 ⊢
  clear h hn
  cases hok : tB (WheelP D) with
  | false =>
    have HOK : Hid (tB (WheelP D) = false) := hok
    clear hok
    go_enter Tryz.func107, Tryz.ntmps107
    go_wp2_with fail
    generalize hW : World.alloc (World.alloc w _) _ = W
    have BW : Below w.heap.size w W := by rw [← hW]; exact ((Below.refl _ w).alloc (Nat.le_refl _) _).alloc (by simp) _
    have PR : W.heap[w.heap.size + 1]? = some (.cells #[.int .i64 0, .slice none 0 0] 37 (0, 0)) := by rw [← hW]; simpa using heap_alloc_new (World.alloc w (.cells #[.int .i64 D.now, .slice ta n tc'] 37)) (.cells #[.int .i64 0, .slice none 0 0] 37)
    clear hW
    refine (iWheelOkV _ D W (HV0.out.ext (ext_below BW))).mono ?_
    rintro e w1 ⟨rfl, b1⟩
    rw [HOK.out]
    have PR1 := below_blk b1 (Array.getElem?_eq_some_iff.1 PR).1 PR
    have HB1 : Hid (Below w.heap.size w w1) := BW.trans (b1.mono BW.size)
    obtain ⟨z0, y0⟩ := at_block PR1 0 _ rfl
    obtain ⟨z1, y1⟩ := at_block PR1 1 _ rfl
    clear b1 PR PR1 BW
    go_wp2
    refine bodyPost_ret (v := .tuple #[.agg #[.int .i64 0, .slice none 0 0], .bool false]) (by simp [results, Tryz.results107, go_sem, *]) rfl ?_
    refine ⟨_, rfl, World.ownsRow_nil _ _ _ _, ?_⟩
    first | exact HB1.out | exact HB1.out.setCell (by simp) _ | exact (HB1.out.setCell (by simp) _).setCell (by simp) _
  | true =>
    have HOK : Hid (tB (WheelP D) = true) := hok
    have HD : Hid (WheelP D) := tB_iff.1 hok
    have HL : Hid (D.tms.length ≤ 1048576) := hl
    clear hok
    go_enter Tryz.func107, Tryz.ntmps107
    go_wp2_with fail
    generalize hW : World.alloc (World.alloc w _) _ = W
    have BW : Below w.heap.size w W := by rw [← hW]; exact ((Below.refl _ w).alloc (Nat.le_refl _) _).alloc (by simp) _
    have PB : W.heap[w.heap.size]? = some (.cells #[.int .i64 D.now, .slice ta n tc'] 37 (0, 0)) := by rw [← hW, Below.heap_alloc _ _ _ (by simp)]; exact heap_alloc_new w _
    have PR : W.heap[w.heap.size + 1]? = some (.cells #[.int .i64 0, .slice none 0 0] 37 (0, 0)) := by rw [← hW]; simpa using heap_alloc_new (World.alloc w (.cells #[.int .i64 D.now, .slice ta n tc'] 37)) (.cells #[.int .i64 0, .slice none 0 0] 37)
    clear hW
    refine (iWheelOkV _ D W (HV0.out.ext (ext_below BW))).mono ?_
    rintro e w1 ⟨rfl, b1⟩
    rw [HOK.out]
    have hbl := (Array.getElem?_eq_some_iff.1 PB).1
    have hrl := (Array.getElem?_eq_some_iff.1 PR).1
    have PB1 := below_blk b1 hbl PB
    have PR1 := below_blk b1 hrl PR
    have hrl1 := (Array.getElem?_eq_some_iff.1 PR1).1
    have HB1 : Hid (Below w.heap.size w w1) := BW.trans (b1.mono BW.size)
    obtain ⟨z0, y0⟩ := at_block PB1 0 _ rfl
    obtain ⟨z1, y1⟩ := at_block PB1 1 _ rfl
    clear b1 PR PB BW hbl hrl
    go_wp2_with fail
    refine (alarmsOfV _ D w1 (HV0.out.ext (ext_below HB1.out)) HL.out).mono ?_
    rintro e w2 ⟨b, a, cap, rfl, p2, b2⟩
    have HP2 : Hid (HP w2 w1.heap.size b a cap D.tms) := p2
    have HB2 : Hid (Below w1.heap.size w1 w2) := b2
    clear p2 b2 z0 y0 z1 y1
    go_wp2_with fail
    refine (stopV b w1.heap.size cap a D.tms id w2 HP2.out (wheel_good HD.out) (by have := HD.out.2.1; omega) (wheel_heap HD.out)).mono ?_
    rintro e w3 ⟨q, ts', rfl, hs, hh, p3, t3⟩
    have HB3 : Hid (Below w1.heap.size w1 w3) := HB2.out.trans (t3.below HB2.out.size HP2.out.low (fun k hk => (HP2.out.blk.2 k hk).1))
    have HP3 : Hid (HP w3 w1.heap.size b a cap ts') := p3
    have HS : Hid (StopP D.tms id q ts') := hs
    have HH : Hid (HeapL ts'.length ts') := hh
    have HSUB : Hid (∀ x ∈ ts', x ∈ D.tms) := fun x hx => by
      rcases HS.out with ⟨_, _, e⟩ | ⟨_, i, t, _, _, _, hp⟩
      · rw [e] at hx; exact hx
      · exact hp.mem_iff.1 (by simp [hx])
    have HLE : Hid (ts'.length ≤ 100) := by
      have h40 := HD.out.2.1
      show _ ≤ _
      rcases HS.out with ⟨_, _, e⟩ | ⟨_, i, t, _, _, _, hp⟩
      · rw [e]; omega
      · have := hp.length_eq
        simp at this
        omega
    have PB3 := below_blk HB3.out (by omega) PB1
    have PR3 := below_blk HB3.out hrl1 PR1
    obtain ⟨z0, y0⟩ := at_block PB3 0 _ rfl
    clear p3 t3 hs hh
    go_wp2_with fail
    refine (wheelV b w1.heap.size cap a ts' D.now w3 HP3.out (fun x hx => wheel_good HD.out x (HSUB.out x hx)) HLE.out HH.out (fun x hx => wheel_due HD.out x (HSUB.out x hx))).mono ?_
    rintro e w4 ⟨v4, tk, rfl, o4, hs4, hp4, t4⟩
    have HB4 : Hid (Below w1.heap.size w1 w4) := HB3.out.trans (t4.below HB3.out.size HP3.out.low (fun k hk => (HP3.out.blk.2 k hk).1))
    have PR4 := below_blk HB4.out hrl1 PR1
    have HEQ : Hid (stopD true D id = (⟨D.now, tk⟩, q)) := stop_end HD.out HS.out hs4 hp4
    obtain ⟨va, vc, rfl⟩ := o4.v.shape
    have HO4 : Hid (OwT w4 w.heap.size (.slice va tk.length vc) tk) := o4.base (by have := HB1.out.size; have := HB3.out.size; omega)
    have HNV : Hid ((Value.slice va tk.length vc).ownBlock = none ∨ (Value.slice va tk.length vc).ownBlock ≠ some (w.heap.size + 1)) := by
      right
      intro e
      have h1 := (World.ownsRow.lt o4 _ e).1
      have := HB3.out.size
      omega
    obtain ⟨x0, f0⟩ := at_block PR4 0 _ rfl
    obtain ⟨x1, f1⟩ := at_block PR4 1 _ rfl
    have HBF : Hid (Below w.heap.size w w4) := HB1.out.trans (HB4.out.mono HB1.out.size)
    clear o4 hs4 hp4 t4 z0 y0 PB1 PR1 PB3 PR3 PR4
    go_wp2
    refine bodyPost_ret (v := .tuple #[.agg #[.int .i64 D.now, .slice va tk.length vc], .bool q]) (by simp [results, Tryz.results107, go_sem, *]) rfl ?_
    rw [HEQ.out]
    refine ⟨_, rfl, (HO4.out.kept (set_grown _ _ _ _) HNV.out).kept (set_grown _ _ _ _) HNV.out, (HBF.out.setCell (by simp) _).setCell (by simp) _⟩

end Go.Proofs.YtnklnhnjmikooaaGreat
