/- The program's word on what an addition has. -/
import Derived.Test.YtplgnohncdfgcalMsE
import Derived.WalkMore
namespace Go.Proofs.Ytplgnohncdfgcal
open Go.RowKit

/-- Items one after another from a least term on. -/
def itemsB : Int → Int → List DItem → Bool
  | _, _, [] => true
  | l, t, s :: r => itemB s && (inB s.term l t && itemsB s.term t r)
def addB (p pt t c : Int) (ss : List DItem) : Bool := prevB p pt t && (inB c 0 400 && (decide ((ss.length : Int) ≤ min 4 (400 - p)) && itemsB pt t ss))

theorem run_min2 (x y : Int) (W : World) : (Builtin.min_ #[3, 3] 3 #[.int .i64 x, .int .i64 y]).run Try.prog W = .ok (.int .i64 (min x y)) W := by
  simp [Builtin.min_, Builtin.min2, go_sem]
  rw [Int.min_def]
  split <;> split <;> omega

set_option maxHeartbeats 4000000 in
theorem addOkV (p pt t c : Int) (iv : Value) (ss : List DItem) (w : World) (h : VItems w iv ss) :
    Calls Try.prog 152 #[.agg #[.int .i64 p, .int .i64 pt, iv, .int .i64 c], .int .i64 t] w fun e w' => e = .returned (.bool (addB p pt t c ss)) ∧ Below w.heap.size w w' := by
  obtain ⟨C, ⟨a, cap, rfl, h1, h2, h3⟩, hC⟩ := h
  have hE : ∀ w : World, ∀ o, Ext w (w.alloc o) := fun w o => World.grownBy_alloc _ _ _
  have hB : ∀ w : World, ∀ o, Below w.heap.size w (w.alloc o) := fun w o => (Below.refl _ w).alloc (Nat.le_refl _) _
  have HC : Hid (∀ i d, ss[i]? = some d → C i 0 = .int .i64 d.term ∧ C i 1 = .int .i64 d.cmd.client ∧ C i 2 = .int .i64 d.cmd.req ∧ C i 3 = .int .i64 d.cmd.op.kind ∧ RV w (C i 4) d.cmd.op.key ∧ RV w (C i 5) d.cmd.op.val ∧ C i 6 = .int .i64 d.cmd.op.n) := hC
  clear hC
  unfold maxLen at h2
  have HA : Hid (addB p pt t c ss = (prevB p pt t && (inB c 0 400 && (decide ((ss.length : Int) ≤ min 4 (400 - p)) && itemsB pt t ss)))) := rfl
  obtain ⟨n, hnn⟩ : ∃ n, n = ss.length := ⟨_, rfl⟩
  rw [← hnn] at h1 h3 HA ⊢
  have HN : Hid (n = ss.length) := hnn
  clear hnn
  have H3 : Hid (0 < n → ∃ b o, a = some ⟨b, o, none⟩ ∧ b < w.heap.size ∧ ∀ i, i < n → ∀ j, j < 7 → w.cell? ⟨b, o + i * 7 + j, none⟩ = some (C i j)) := h3
  clear h3
  cases k1 : prevB p pt t
  · go_enter Try.func152, Try.ntmps152
    go_wp2_with (go_at_call 150; refine (prevOkV _ _ _ _).mono ?_; rintro e w2 ⟨rfl, rfl⟩; rw [k1])
    go_ret
    exact ⟨by rw [HA.out, k1]; rfl, hB _ _⟩
  cases k2 : inB c 0 400
  · go_enter Try.func152, Try.ntmps152
    go_wp2_with (first | (go_at_call 150; refine (prevOkV _ _ _ _).mono ?_; rintro e w2 ⟨rfl, rfl⟩; rw [k1]) | (go_at_call 62; refine (withinV _ _ _ _).mono ?_; rintro e w2 ⟨rfl, rfl⟩; rw [k2]))
    go_ret
    exact ⟨by rw [HA.out, k1, k2]; rfl, hB _ _⟩
  have hp : 0 ≤ p ∧ p ≤ 400 := by
    unfold prevB inB at k1
    split at k1
    · omega
    · simp only [Bool.and_eq_true, decide_eq_true_eq] at k1; omega
  obtain ⟨hp0, hp1⟩ := hp
  obtain ⟨q, hq⟩ : ∃ q, q = min 4 (400 - p) := ⟨_, rfl⟩
  have hmin : ∀ W : World, (Builtin.min_ #[3, 3] 3 #[.int .i64 4, .int .i64 (400 - p)]).run Try.prog W = .ok (.int .i64 q) W := fun W => by
    rw [hq]
    exact run_min2 4 (400 - p) W
  rw [← hq, k1, k2, Bool.true_and, Bool.true_and] at HA
  clear hq
  by_cases hle : (n : Int) ≤ q
  case neg =>
    have hgt : q < (n : Int) := by omega
    have HF : Hid (decide ((n : Int) ≤ q) = false) := decide_eq_false hle
    clear hle
    go_enter Try.func152, Try.ntmps152
    go_wp2_with (first | (go_at_call 150; refine (prevOkV _ _ _ _).mono ?_; rintro e w2 ⟨rfl, rfl⟩; rw [k1]) | (go_at_call 62; refine (withinV _ _ _ _).mono ?_; rintro e w2 ⟨rfl, rfl⟩; rw [k2]))
    go_ret
    exact ⟨by rw [HA.out, HF.out]; rfl, hB _ _⟩
  have hng : ¬ q < (n : Int) := by omega
  have HF : Hid (decide ((n : Int) ≤ q) = true) := decide_eq_true hle
  rw [HF.out, Bool.true_and] at HA
  clear hle HF
  go_enter Try.func152, Try.ntmps152
  go_wp2_with (first | (go_at_call 150; refine (prevOkV _ _ _ _).mono ?_; rintro e w2 ⟨rfl, rfl⟩; rw [k1]) | (go_at_call 62; refine (withinV _ _ _ _).mono ?_; rintro e w2 ⟨rfl, rfl⟩; rw [k2]))
  generalize hW : w.alloc _ = W
  have HW : Hid (Below w.heap.size w W ∧ Ext w W) := by rw [← hW]; exact ⟨hB _ _, hE _ _⟩
  clear hW k1 k2 hmin hng
  go_loopw [5, 34] (fun l i wr => ∃ k : Nat, k ≤ n ∧ i = .int .i64 k ∧ ∃ L : Int, l = .int .i64 L ∧ Ext W wr ∧ Below w.heap.size w wr ∧ Hid (itemsB pt t ss = itemsB L t (ss.drop k))) (fun _ i _ => n - (intOf i).toNat)
  case atStart => exact ⟨0, Nat.zero_le _, rfl, pt, rfl, Ext.re _, HW.out.1, by show _ = _; rfl⟩
  case round =>
    obtain ⟨k, hk, rfl, L, rfl, hx, hb, hall⟩ := hrel
    by_cases hlt : k < n
    · obtain ⟨b, o, rfl, hbl, hc⟩ := H3.out (by omega)
      obtain ⟨s, hs⟩ : ∃ s, ss[k]? = some s := ⟨_, List.getElem?_eq_getElem (by have := HN.out; omega)⟩
      obtain ⟨e0, e1, e2, e3, e4, e5, e6⟩ := HC.out k s hs
      have HD : Hid (itemsB L t (ss.drop k) = (itemB s && (inB s.term L t && itemsB s.term t (ss.drop (k + 1))))) := by
        have hkl : k < ss.length := by have := HN.out; omega
        have hg : ss[k] = s := by rw [List.getElem?_eq_getElem hkl] at hs; exact Option.some.inj hs
        show _ = _
        rw [List.drop_eq_getElem_cons hkl, hg]
        rfl
      have X := HW.out.2.tr hx
      have c0 := World.grownBy.cell X (hc k hlt 0 (by omega)) (by simp)
      rw [Nat.add_zero, e0] at c0
      have c1 := World.grownBy.cell X (hc k hlt 1 (by omega)) (by simp)
      rw [e1] at c1
      have c2 := World.grownBy.cell X (hc k hlt 2 (by omega)) (by simp)
      rw [e2] at c2
      have c3 := World.grownBy.cell X (hc k hlt 3 (by omega)) (by simp)
      rw [e3] at c3
      have c4 := World.grownBy.cell X (hc k hlt 4 (by omega)) (by simp)
      have cr4 := e4.ext X
      obtain ⟨ca4, cp4, cx4, _, _, _⟩ := e4
      rw [cx4] at cr4 c4
      have c5 := World.grownBy.cell X (hc k hlt 5 (by omega)) (by simp)
      have cr5 := e5.ext X
      obtain ⟨ca5, cp5, cx5, _, _, _⟩ := e5
      rw [cx5] at cr5 c5
      have c6 := World.grownBy.cell X (hc k hlt 6 (by omega)) (by simp)
      rw [e6] at c6
      have hlt' : (k : Int) < (n : Int) := by omega
      clear hc
      have HIO : Hid (∀ ob, Calls Try.prog 20 #[.agg #[.int .i64 s.term, .int .i64 s.cmd.client, .int .i64 s.cmd.req, .int .i64 s.cmd.op.kind, .slice ca4 s.cmd.op.key.length cp4, .slice ca5 s.cmd.op.val.length cp5, .int .i64 s.cmd.op.n]] (wr.alloc ob) fun e w' => e = .returned (.bool (itemB s)) ∧ Below (wr.alloc ob).heap.size (wr.alloc ob) w') := fun ob => iItemOkV _ s _ ⟨_, _, rfl, cr4.ext (hE _ _), cr5.ext (hE _ _)⟩
      clear cr4 cr5
      have HXB : Hid (∀ ob w2, Below (wr.alloc ob).heap.size (wr.alloc ob) w2 → Ext W w2 ∧ Below w.heap.size w w2) := fun ob w2 b2 => ⟨(hx.tr (hE _ _)).tr (ext_below b2), (hb.alloc hb.size _).trans (b2.mono (by have := hb.size; simp; omega))⟩
      obtain ⟨t1, K1⟩ : ∃ c, itemB s = c := ⟨_, rfl⟩
      obtain ⟨t2, K2⟩ : ∃ c, inB s.term L t = c := ⟨_, rfl⟩
      cases t1
      · have HR : Hid (addB p pt t c ss = false) := by show _ = _; rw [HA.out, hall.out, HD.out, K1]; rfl
        clear hall HD
        go_wp2_with (first | (go_at_call 20; refine (HIO.out _).mono ?_; rintro e w2 ⟨rfl, b2⟩; rw [K1]; have R1 := below_blk b2 (by simp) (heap_alloc_new wr _); obtain ⟨r0, q0⟩ := at_block R1 0 _ rfl; clear R1) | (go_at_call 62; refine (withinV _ _ _ _).mono ?_; rintro e w3 ⟨rfl, rfl⟩; rw [K2]))
        go_ret
        exact ⟨by rw [HR.out]; rfl, (HXB.out _ _ b2).2⟩
      cases t2
      · have HR : Hid (addB p pt t c ss = false) := by show _ = _; rw [HA.out, hall.out, HD.out, K1, K2]; rfl
        clear hall HD
        go_wp2_with (first | (go_at_call 20; refine (HIO.out _).mono ?_; rintro e w2 ⟨rfl, b2⟩; rw [K1]; have R1 := below_blk b2 (by simp) (heap_alloc_new wr _); obtain ⟨r0, q0⟩ := at_block R1 0 _ rfl; clear R1) | (go_at_call 62; refine (withinV _ _ _ _).mono ?_; rintro e w3 ⟨rfl, rfl⟩; rw [K2]))
        go_ret
        exact ⟨by rw [HR.out]; rfl, (HXB.out _ _ b2).2⟩
      · have HR : Hid (itemsB pt t ss = itemsB s.term t (ss.drop (k + 1))) := by show _ = _; rw [hall.out, HD.out, K1, K2]; rfl
        clear hall HD
        go_wp2_with (first | (go_at_call 20; refine (HIO.out _).mono ?_; rintro e w2 ⟨rfl, b2⟩; rw [K1]; have R1 := below_blk b2 (by simp) (heap_alloc_new wr _); obtain ⟨r0, q0⟩ := at_block R1 0 _ rfl; clear R1) | (go_at_call 62; refine (withinV _ _ _ _).mono ?_; rintro e w3 ⟨rfl, rfl⟩; rw [K2]))
        go_roundw
        case rel => exact ⟨k + 1, by omega, by go_num, s.term, rfl, (HXB.out _ _ b2).1, (HXB.out _ _ b2).2, HR⟩
        case measure => simp [intOf]; omega
    · have hkn : k = n := by omega
      subst hkn
      have HR : Hid (addB p pt t c ss = true) := by
        show _ = _
        rw [HA.out, hall.out, List.drop_of_length_le (by have := HN.out; omega)]
        rfl
      clear hall
      go_wp2
      go_ret
      exact ⟨by rw [HR.out]; rfl, hb⟩

end Go.Proofs.Ytplgnohncdfgcal
