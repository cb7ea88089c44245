/- The contracts of the specification's and of the program's LastOf. -/
import Derived.Test.YtplgnohncdfgcakLsB
import Derived.Test.YtplgnohncdfgcakIState
namespace Go.Proofs.Ytplgnohncdfgcak
open Go.RowKit

/-- What LastOf must answer. -/
def LastRes (S : DState) (client : Int) (d : DLast) (fb : Bool) : Prop :=
  if tB (StP S) = true ∧ 0 ≤ fndL S.lasts client then fb = true ∧ ∃ k : Nat, fndL S.lasts client = k ∧ S.lasts[k]? = some d
  else fb = false ∧ d = ⟨0, 0, 0, 0⟩

theorem LastRes.one {S : DState} {client : Int} {d d' : DLast} {fb fb' : Bool} (h : LastRes S client d fb) (h' : LastRes S client d' fb') : d = d' ∧ fb = fb' := by
  unfold LastRes at h h'
  split at h
  · rename_i hc
    rw [if_pos hc] at h'
    obtain ⟨rfl, k, e, hk⟩ := h
    obtain ⟨rfl, k', e', hk'⟩ := h'
    obtain rfl : k = k' := by omega
    rw [hk] at hk'
    exact ⟨by injection hk', rfl⟩
  · rename_i hc
    rw [if_neg hc] at h'
    exact ⟨h.2.trans h'.2.symm, h.1.trans h'.1.symm⟩

def lastV (d : DLast) : Value := .agg #[.int .i64 d.client, .int .i64 d.req, .int .i64 d.code, .int .i64 d.index]

theorem h2_0 (w : World) (a b : Obj) : ((w.alloc a).alloc b).heap[w.heap.size]? = some a := by
  rw [Below.heap_alloc _ _ _ (by simp), heap_alloc_new]
theorem h2_1 (w : World) (a b : Obj) : ((w.alloc a).alloc b).heap[w.heap.size + 1]? = some b := by
  have := heap_alloc_new (w.alloc a) b
  simpa using this

/-- What a StateOk must answer. -/
def SaysOk (f : FuncId) : Prop := ∀ (v : Value) (S : DState) (w : World), VState w v S → Calls Try.prog f #[v] w fun e w' => e = .returned (.bool (tB (StP S))) ∧ Below w.heap.size w w'

set_option maxHeartbeats 4000000 in
theorem sLastOfV (hI : SaysOk 39) (v : Value) (S : DState) (client : Int) (w : World) (h : VState w v S) :
    Calls Try.prog 32 #[v, .int .i64 client] w fun e w' => ∃ d fb, e = .returned (.tuple #[lastV d, .bool fb]) ∧ Below w.heap.size w w' ∧ LastRes S client d fb := by
  have hE : ∀ w : World, ∀ o, Ext w (w.alloc o) := fun w o => World.grownBy_alloc _ _ _
  have hB : ∀ w : World, ∀ o, Below w.heap.size w (w.alloc o) := fun w o => (Below.refl _ w).alloc (Nat.le_refl _) _
  have h0 : Hid (VState w v S) := h
  have HI : Hid (SaysOk 39) := hI
  clear hI
  obtain ⟨rv, tv, sv, lv, rfl, _, _, _, hl⟩ := h
  go_enter Try.func32, Try.ntmps32
  go_wp2_with fail
  refine (HI.out _ S _ (h0.out.ext (by first | exact hE _ _ | exact (hE _ _).tr (hE _ _)))).mono ?_
  rintro e w1 ⟨rfl, b1⟩
  have R1 := below_blk b1 (by simp; omega) (h2_0 w _ _)
  have T1 := below_blk b1 (by simp) (h2_1 w _ _)
  have hs1 : w.heap.size + 2 ≤ w1.heap.size := by have := b1.size; simp at this; omega
  have B1 : Below w.heap.size w w1 := ((hB w _).alloc (by simp) _).trans (b1.mono (by simp; omega))
  have HL1 : Hid (VLasts w1 lv S.lasts) := hl.ext (ext_below B1)
  clear b1
  obtain ⟨t0, g0⟩ := at_block T1 0 _ rfl
  obtain ⟨t1, g1⟩ := at_block T1 1 _ rfl
  obtain ⟨t2, g2⟩ := at_block T1 2 _ rfl
  obtain ⟨t3, g3⟩ := at_block T1 3 _ rfl
  obtain ⟨r5, _⟩ := at_block R1 5 _ rfl
  cases hok : tB (StP S)
  · have HR : Hid (LastRes S client ⟨0, 0, 0, 0⟩ false) := by
      show LastRes S client ⟨0, 0, 0, 0⟩ false
      unfold LastRes
      rw [if_neg (by rw [hok]; simp)]
      exact ⟨rfl, rfl⟩
    clear hok R1 r5
    go_wp2
    refine bodyPost_ret (v := .tuple #[lastV ⟨0, 0, 0, 0⟩, .bool false]) (by simp [results, lastV, Try.results32, go_sem, t0, t1, t2, t3]) rfl ?_
    refine ⟨_, _, rfl, ?_, HR.out⟩
    repeat (refine below_set ?_ (by omega))
    exact B1
  have HOK : Hid (tB (StP S) = true) := hok
  clear hok
  obtain ⟨C, ⟨a, cap, rfl, h1, h2, h3⟩, hC⟩ := hl
  have HC : Hid (∀ i r, S.lasts[i]? = some r → C i 0 = .int .i64 r.client ∧ C i 1 = .int .i64 r.req ∧ C i 2 = .int .i64 r.code ∧ C i 3 = .int .i64 r.index) := hC
  clear hC
  generalize hls : S.lasts = ls at *
  obtain ⟨n, hnn⟩ : ∃ n, n = ls.length := ⟨_, rfl⟩
  rw [← hnn] at h1 h3 r5 ⊢
  have HN : Hid (n = ls.length) := hnn
  have HLS : Hid (S.lasts = ls) := hls
  clear hnn hls R1 T1
  unfold maxLen at h2
  have H3 : Hid (0 < n → ∃ b o, a = some ⟨b, o, none⟩ ∧ b < w.heap.size ∧ ∀ i, i < n → ∀ j, j < 4 → w.cell? ⟨b, o + i * 4 + j, none⟩ = some (C i j)) := h3
  clear h3
  go_wp2
  go_loopw [6] (fun i wr => ∃ k q : Nat, k ≤ n ∧ i = .int .i64 k ∧ wr = w1.drewN q ∧ Hid (∀ i s, i < k → ls[i]? = some s → (fun s : DLast => decide (s.client = client)) s = false)) (fun i _ => n - (intOf i).toNat)
  case atStart => exact ⟨0, 0, Nat.zero_le _, rfl, rfl, fun i s hi => absurd hi (by omega)⟩
  case round =>
    obtain ⟨k, q, hk, rfl, rfl, hall⟩ := hrel
    by_cases hlt : k < n
    · obtain ⟨b, o, rfl, hbl, hc⟩ := H3.out (by omega)
      obtain ⟨s, hs⟩ : ∃ s, ls[k]? = some s := ⟨_, List.getElem?_eq_getElem (by have := HN.out; omega)⟩
      obtain ⟨e0, e1, e2, e3⟩ := HC.out k s hs
      have X := ext_below B1
      have c0 := World.grownBy.cell X (hc k hlt 0 (by omega)) (by simp)
      have c1 := World.grownBy.cell X (hc k hlt 1 (by omega)) (by simp)
      have c2 := World.grownBy.cell X (hc k hlt 2 (by omega)) (by simp)
      have c3 := World.grownBy.cell X (hc k hlt 3 (by omega)) (by simp)
      rw [e0, Nat.add_zero] at c0
      rw [e1] at c1
      rw [e2] at c2
      rw [e3] at c3
      have hlt' : (k : Int) < (n : Int) := by omega
      clear hc e0 e1 e2 e3
      by_cases hid : s.client = client
      · have HR : Hid (LastRes S client s true) := by
          show LastRes S client s true
          have hf : fndL S.lasts client = (k : Int) := by
            rw [HLS.out]
            exact fnd_at hall.out hs (decide_eq_true hid)
          unfold LastRes
          rw [if_pos ⟨HOK.out, by omega⟩]
          exact ⟨rfl, k, hf, by rw [HLS.out]; exact hs⟩
        have hne : ¬ b = w.heap.size + 1 := by omega
        have hse : (s.client == client) = true := by simpa using hid
        clear hall hid
        go_wp2
        refine bodyPost_ret (v := .tuple #[lastV s, .bool true]) (by simp [results, lastV, Try.results32, go_sem, t0, t1, t2, t3]) rfl ?_
        refine ⟨_, _, rfl, ?_, HR.out⟩
        repeat (refine below_set ?_ (by omega))
        exact below_drewN B1 _
      · have HA : Hid (∀ i s, i < k + 1 → ls[i]? = some s → (fun s : DLast => decide (s.client = client)) s = false) := fun i s' hi hs' => by
          by_cases e : i = k
          · subst e
            rw [hs] at hs'
            cases hs'
            exact decide_eq_false hid
          · exact hall.out i s' (by omega) hs'
        have hse : (s.client == client) = false := by simpa using hid
        clear hall hid
        go_wp2
        go_roundw
        case rel => exact ⟨k + 1, q, by omega, by go_num, rfl, HA⟩
        case measure => simp [intOf]; omega
    · have hkn : k = n := by omega
      subst hkn
      have HR : Hid (LastRes S client ⟨0, 0, 0, 0⟩ false) := by
        show LastRes S client ⟨0, 0, 0, 0⟩ false
        have hf : fndL S.lasts client = -1 := by
          rw [HLS.out]
          exact fnd_none (fun i s hs => hall.out i s (by have := (List.getElem?_eq_some_iff.1 hs).1; have := HN.out; omega) hs)
        unfold LastRes
        rw [if_neg (by rw [hf]; omega)]
        exact ⟨rfl, rfl⟩
      clear hall
      go_wp2
      refine bodyPost_ret (v := .tuple #[lastV ⟨0, 0, 0, 0⟩, .bool false]) (by simp [results, lastV, Try.results32, go_sem, t0, t1, t2, t3]) rfl ?_
      refine ⟨_, _, rfl, ?_, HR.out⟩
      repeat (refine below_set ?_ (by omega))
      exact below_drewN B1 _

set_option maxHeartbeats 4000000 in
theorem iLastOfV (v : Value) (S : DState) (client : Int) (w : World) (h : VState w v S) :
    Calls Try.prog 33 #[v, .int .i64 client] w fun e w' => ∃ d fb, e = .returned (.tuple #[lastV d, .bool fb]) ∧ Below w.heap.size w w' ∧ LastRes S client d fb := by
  have hE : ∀ w : World, ∀ o, Ext w (w.alloc o) := fun w o => World.grownBy_alloc _ _ _
  have hB : ∀ w : World, ∀ o, Below w.heap.size w (w.alloc o) := fun w o => (Below.refl _ w).alloc (Nat.le_refl _) _
  have h0 : Hid (VState w v S) := h
  obtain ⟨rv, tv, sv, lv, rfl, _, _, _, hl⟩ := h
  go_enter Try.func33, Try.ntmps33
  go_wp2_with fail
  refine (iStateOkV _ S _ (h0.out.ext (by first | exact hE _ _ | exact (hE _ _).tr (hE _ _)))).mono ?_
  rintro e w1 ⟨rfl, b1⟩
  have R1 := below_blk b1 (by simp; omega) (h2_0 w _ _)
  have T1 := below_blk b1 (by simp) (h2_1 w _ _)
  have hs1 : w.heap.size + 2 ≤ w1.heap.size := by have := b1.size; simp at this; omega
  have B1 : Below w.heap.size w w1 := ((hB w _).alloc (by simp) _).trans (b1.mono (by simp; omega))
  have HL1 : Hid (VLasts w1 lv S.lasts) := hl.ext (ext_below B1)
  clear b1
  cases hok : tB (StP S)
  · have HR : Hid (LastRes S client ⟨0, 0, 0, 0⟩ false) := by
      show LastRes S client ⟨0, 0, 0, 0⟩ false
      unfold LastRes
      rw [if_neg (by rw [hok]; simp)]
      exact ⟨rfl, rfl⟩
    obtain ⟨t0, g0⟩ := at_block T1 0 _ rfl
    obtain ⟨t1, g1⟩ := at_block T1 1 _ rfl
    obtain ⟨t2, g2⟩ := at_block T1 2 _ rfl
    obtain ⟨t3, g3⟩ := at_block T1 3 _ rfl
    clear hok R1
    go_wp2
    refine bodyPost_ret (v := .tuple #[lastV ⟨0, 0, 0, 0⟩, .bool false]) (by simp [results, lastV, Try.results33, go_sem, t0, t1, t2, t3]) rfl ?_
    refine ⟨_, _, rfl, ?_, HR.out⟩
    repeat (refine below_set ?_ (by omega))
    exact B1
  have HOK : Hid (tB (StP S) = true) := hok
  have HLP : Hid (LastP S.index S.lasts) := (tB_iff.1 hok).2.2.2.2.2
  clear hok
  obtain ⟨r5, _⟩ := at_block R1 5 _ rfl
  go_wp2_with fail
  refine (findLastV _ S.lasts client w1 HL1.out HLP.out.1 (ascL_of HLP.out)).mono ?_
  rintro e w2 ⟨t, fb, rfl, b2, f1, f2⟩
  have T2 := below_blk b2 (by omega) T1
  have R2 := below_blk b2 (by omega) R1
  have B2 := B1.trans (b2.mono B1.size)
  obtain ⟨t0, g0⟩ := at_block T2 0 _ rfl
  obtain ⟨t1, g1⟩ := at_block T2 1 _ rfl
  obtain ⟨t2, g2⟩ := at_block T2 2 _ rfl
  obtain ⟨t3, g3⟩ := at_block T2 3 _ rfl
  obtain ⟨r5', _⟩ := at_block R2 5 _ rfl
  clear r5 T1 R1 T2 R2 b2
  cases fb
  · have HR : Hid (LastRes S client ⟨0, 0, 0, 0⟩ false) := by
      show LastRes S client ⟨0, 0, 0, 0⟩ false
      unfold LastRes
      rw [if_neg (by rw [f2 rfl]; omega)]
      exact ⟨rfl, rfl⟩
    clear f1 f2
    go_wp2
    refine bodyPost_ret (v := .tuple #[lastV ⟨0, 0, 0, 0⟩, .bool false]) (by simp [results, lastV, Try.results33, go_sem, t0, t1, t2, t3]) rfl ?_
    refine ⟨_, _, rfl, ?_, HR.out⟩
    repeat (refine below_set ?_ (by omega))
    exact B2
  · obtain ⟨k, s, ek, hs, _, _⟩ := fnd_hit (by have := f1 rfl; unfold fndL at this; omega : 0 ≤ fnd (fun s : DLast => decide (s.client = client)) S.lasts)
    have HR : Hid (LastRes S client s true) := by
      show LastRes S client s true
      unfold LastRes
      rw [if_pos ⟨HOK.out, by rw [f1 rfl]; omega⟩]
      exact ⟨rfl, k, ek, hs⟩
    obtain rfl : k = t := by have := f1 rfl; unfold fndL at this; omega
    clear f1 f2 ek
    obtain ⟨C, ⟨a, cap, rfl, h1, h2, h3⟩, hC⟩ := hl
    obtain ⟨e0, e1, e2, e3⟩ := hC k s hs
    have hkn := (List.getElem?_eq_some_iff.1 hs).1
    obtain ⟨b, o, rfl, hbl, hc⟩ := h3 (by omega)
    have X := ext_below B2
    have c0 := World.grownBy.cell X (hc k hkn 0 (by omega)) (by simp)
    have c1 := World.grownBy.cell X (hc k hkn 1 (by omega)) (by simp)
    have c2 := World.grownBy.cell X (hc k hkn 2 (by omega)) (by simp)
    have c3 := World.grownBy.cell X (hc k hkn 3 (by omega)) (by simp)
    rw [e0, Nat.add_zero] at c0
    rw [e1] at c1
    rw [e2] at c2
    rw [e3] at c3
    have hne : ¬ b = w.heap.size + 1 := by omega
    unfold maxLen at h2
    clear hc e0 e1 e2 e3 h3 hC hs
    generalize S.lasts.length = n at *
    have hlt' : (k : Int) < (n : Int) := by omega
    go_wp2
    refine bodyPost_ret (v := .tuple #[lastV s, .bool true]) (by simp [results, lastV, Try.results33, go_sem, t0, t1, t2, t3]) rfl ?_
    refine ⟨_, _, rfl, ?_, HR.out⟩
    repeat (refine below_set ?_ (by omega))
    exact B2

end Go.Proofs.Ytplgnohncdfgcak
