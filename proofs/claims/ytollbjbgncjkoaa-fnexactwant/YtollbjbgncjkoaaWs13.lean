
/- Worst of both sides. -/
import Derived.Test.YtollbjbgncjkoaaLsK
import Derived.Test.YtollbjbgncjkoaaCk6
import Derived.Test.YtollbjbgncjkoaaCk1z
namespace Go.Proofs.Ytollbjbgncjkoaa
open Go.RowKit

/-- The worst status of these and of one ahead of them. -/
def worstF : Int → List DChk → Int
  | A, [] => A
  | A, C :: r => if chkB C then worstF (max A C.st) r else 2

theorem run_maxK (x y : Int) (W : World) : (Builtin.max_ #[3, 3] 3 #[.int .i64 x, .int .i64 y]).run Try.prog W = .ok (.int .i64 (max x y)) W := by
  simp [Builtin.max_, Builtin.max2, go_sem]
  rw [Int.max_def]
  split <;> split <;> omega

set_option maxHeartbeats 4000000 in
theorem sWorstV (v : Value) (ss : List DChk) (w : World) (h : VChks w v ss) (hn : ss.length ≤ 1048576) :
    Calls Try.prog 35 #[v] w fun e w' => e = .returned (.int .i64 (worstF 0 ss)) ∧ Below w.heap.size w w' := by
  obtain ⟨C, ⟨a, cap, rfl, h1, h2, h3⟩, hC⟩ := h
  have HC : Hid (∀ i d, ss[i]? = some d → RV w (C i 0) d.name ∧ C i 1 = .int .i64 d.ttl ∧ C i 2 = .int .i64 d.most ∧ C i 3 = .int .i64 d.st ∧ C i 4 = .int .i64 d.age ∧ C i 5 = .int .i64 d.fails) := hC
  clear hC
  obtain ⟨n, hnn⟩ : ∃ n, n = ss.length := ⟨_, rfl⟩
  obtain ⟨R, hR⟩ : ∃ R, R = worstF 0 ss := ⟨_, rfl⟩
  rw [← hnn] at h1 h3 hn ⊢
  rw [← hR]
  have HN : Hid (n = ss.length) := hnn
  have HR : Hid (R = worstF 0 ss) := hR
  clear hnn hR
  have H3 : Hid (0 < n → ∃ b o, a = some ⟨b, o, none⟩ ∧ b < w.heap.size ∧ ∀ i, i < n → ∀ j, j < 6 → w.cell? ⟨b, o + i * 6 + j, none⟩ = some (C i j)) := h3
  clear h3
  have hml2 : (n : Int) ≤ 1048576 := by omega
  go_enter Try.func35, Try.ntmps35
  go_wp2
  go_loopw [3, 4] (fun q i wr => ∃ k : Nat, k ≤ n ∧ i = .int .i64 k ∧ ∃ A : Int, q = .int .i64 A ∧ Hid (R = worstF A (ss.drop k)) ∧ Below w.heap.size w wr) (fun _ i _ => n - (intOf i).toNat)
  case atStart => exact ⟨0, Nat.zero_le _, rfl, 0, rfl, HR.out, Below.refl _ _⟩
  case round =>
    obtain ⟨k, hk, rfl, A, rfl, hA, hb⟩ := hrel
    by_cases hlt : k < n
    · obtain ⟨b, o, rfl, hbl, hc⟩ := H3.out (by omega)
      obtain ⟨s, hs⟩ : ∃ s, ss[k]? = some s := ⟨_, List.getElem?_eq_getElem (by have := HN.out; omega)⟩
      obtain ⟨e0, e1, e2, e3, e4, e5⟩ := HC.out k s hs
      have X := ext_below hb
      have c0 := World.grownBy.cell X (hc k hlt 0 (by omega)) (by simp)
      rw [Nat.add_zero] at c0
      have cr0 := e0.ext X
      obtain ⟨ca0, cp0, cx0, _, _, _⟩ := e0
      rw [cx0] at cr0 c0
      have c1 := World.grownBy.cell X (hc k hlt 1 (by omega)) (by simp)
      rw [e1] at c1
      have c2 := World.grownBy.cell X (hc k hlt 2 (by omega)) (by simp)
      rw [e2] at c2
      have c3 := World.grownBy.cell X (hc k hlt 3 (by omega)) (by simp)
      rw [e3] at c3
      have c4 := World.grownBy.cell X (hc k hlt 4 (by omega)) (by simp)
      rw [e4] at c4
      have c5 := World.grownBy.cell X (hc k hlt 5 (by omega)) (by simp)
      rw [e5] at c5
      have hlt' : (k : Int) < (n : Int) := by omega
      clear hc
      have HD : Hid (worstF A (ss.drop k) = if chkB s then worstF (max A s.st) (ss.drop (k + 1)) else 2) := by
        show _ = _
        obtain ⟨hkl, hks⟩ := List.getElem?_eq_some_iff.1 hs
        rw [List.drop_eq_getElem_cons hkl, hks]
        rfl
      have HST : Hid (chkB s = true → 0 ≤ s.st ∧ s.st ≤ 2) := fun h => by
        have := chkB_num h
        exact ⟨this.2.2.2.2.1, this.2.2.2.2.2.1⟩
      go_wp2_with fail
      refine (sCheckOkV _ s wr ⟨_, rfl, cr0⟩).mono ?_
      rintro e w2 ⟨rfl, b2⟩
      have hb2 := hb.trans (b2.mono hb.size)
      have c3w := World.grownBy.cell (ext_below b2) c3 (by simp)
      clear c0 c1 c2 c3 c4 c5 b2
      cases hc : chkB s
      · have HF : Hid (R = 2) := by show _ = _; rw [hA.out, HD.out, hc]; rfl
        go_wp2
        go_ret
        exact ⟨by rw [HF.out]; rfl, hb2⟩
      · by_cases hgt : A < s.st
        · have HF : Hid (R = worstF s.st (ss.drop (k + 1))) := by show _ = _; rw [hA.out, HD.out, hc, Int.max_eq_right (by omega)]; rfl
          clear HD hA
          go_wp2
          go_roundw
          case rel => exact ⟨k + 1, by omega, by go_num, s.st, rfl, HF, hb2⟩
          case measure => simp [intOf]; omega
        · have HF : Hid (R = worstF A (ss.drop (k + 1))) := by show _ = _; rw [hA.out, HD.out, hc, Int.max_eq_left (by omega)]; rfl
          clear HD hA
          go_wp2
          go_roundw
          case rel => exact ⟨k + 1, by omega, by go_num, A, rfl, HF, hb2⟩
          case measure => simp [intOf]; omega
    · have hkn : k = n := by omega
      subst hkn
      have HF : Hid (R = A) := by
        show _ = _
        rw [hA.out, List.drop_of_length_le (by have := HN.out; omega)]
        rfl
      go_wp2
      go_ret
      exact ⟨by rw [HF.out]; rfl, hb⟩

set_option maxHeartbeats 4000000 in
theorem iWorstV (v : Value) (ss : List DChk) (w : World) (h : VChks w v ss) (hn : ss.length ≤ 1048576) :
    Calls Try.prog 22 #[v] w fun e w' => e = .returned (.int .i64 (worstF 0 ss)) ∧ Below w.heap.size w w' := by
  obtain ⟨C, ⟨a, cap, rfl, h1, h2, h3⟩, hC⟩ := h
  have HC : Hid (∀ i d, ss[i]? = some d → RV w (C i 0) d.name ∧ C i 1 = .int .i64 d.ttl ∧ C i 2 = .int .i64 d.most ∧ C i 3 = .int .i64 d.st ∧ C i 4 = .int .i64 d.age ∧ C i 5 = .int .i64 d.fails) := hC
  clear hC
  obtain ⟨n, hnn⟩ : ∃ n, n = ss.length := ⟨_, rfl⟩
  obtain ⟨R, hR⟩ : ∃ R, R = worstF 0 ss := ⟨_, rfl⟩
  rw [← hnn] at h1 h3 hn ⊢
  rw [← hR]
  have HN : Hid (n = ss.length) := hnn
  have HR : Hid (R = worstF 0 ss) := hR
  clear hnn hR
  have H3 : Hid (0 < n → ∃ b o, a = some ⟨b, o, none⟩ ∧ b < w.heap.size ∧ ∀ i, i < n → ∀ j, j < 6 → w.cell? ⟨b, o + i * 6 + j, none⟩ = some (C i j)) := h3
  clear h3
  have hml2 : (n : Int) ≤ 1048576 := by omega
  go_enter Try.func22, Try.ntmps22
  go_wp2
  go_loopw [3, 8] (fun q i wr => ∃ k : Nat, k ≤ n ∧ i = .int .i64 k ∧ ∃ A : Int, q = .int .i64 A ∧ Hid (R = worstF A (ss.drop k)) ∧ Below w.heap.size w wr) (fun _ i _ => n - (intOf i).toNat)
  case atStart => exact ⟨0, Nat.zero_le _, rfl, 0, rfl, HR.out, Below.refl _ _⟩
  case round =>
    obtain ⟨k, hk, rfl, A, rfl, hA, hb⟩ := hrel
    by_cases hlt : k < n
    · obtain ⟨b, o, rfl, hbl, hc⟩ := H3.out (by omega)
      obtain ⟨s, hs⟩ : ∃ s, ss[k]? = some s := ⟨_, List.getElem?_eq_getElem (by have := HN.out; omega)⟩
      obtain ⟨e0, e1, e2, e3, e4, e5⟩ := HC.out k s hs
      have X := ext_below hb
      have c0 := World.grownBy.cell X (hc k hlt 0 (by omega)) (by simp)
      rw [Nat.add_zero] at c0
      have cr0 := e0.ext X
      obtain ⟨ca0, cp0, cx0, _, _, _⟩ := e0
      rw [cx0] at cr0 c0
      have c1 := World.grownBy.cell X (hc k hlt 1 (by omega)) (by simp)
      rw [e1] at c1
      have c2 := World.grownBy.cell X (hc k hlt 2 (by omega)) (by simp)
      rw [e2] at c2
      have c3 := World.grownBy.cell X (hc k hlt 3 (by omega)) (by simp)
      rw [e3] at c3
      have c4 := World.grownBy.cell X (hc k hlt 4 (by omega)) (by simp)
      rw [e4] at c4
      have c5 := World.grownBy.cell X (hc k hlt 5 (by omega)) (by simp)
      rw [e5] at c5
      have hlt' : (k : Int) < (n : Int) := by omega
      clear hc
      have HD : Hid (worstF A (ss.drop k) = if chkB s then worstF (max A s.st) (ss.drop (k + 1)) else 2) := by
        show _ = _
        obtain ⟨hkl, hks⟩ := List.getElem?_eq_some_iff.1 hs
        rw [List.drop_eq_getElem_cons hkl, hks]
        rfl
      have HST : Hid (chkB s = true → 0 ≤ s.st ∧ s.st ≤ 2) := fun h => by
        have := chkB_num h
        exact ⟨this.2.2.2.2.1, this.2.2.2.2.2.1⟩
      go_upto_region 5 with fail
      generalize hU : World.alloc wr _ = U
      have XU : Ext wr U := by rw [← hU]; exact World.grownBy_alloc _ _ _
      have PU : U.heap[wr.heap.size]? = some (.cells #[.slice ca0 s.name.length cp0, .int .i64 s.ttl, .int .i64 s.most, .int .i64 s.st, .int .i64 s.age, .int .i64 s.fails] 62 (0, 0)) := by rw [← hU]; exact heap_alloc_new wr _
      have cr := cr0.ext XU
      obtain ⟨p0, p1, p2, p3, p4, p5⟩ := cells6 PU
      clear hU c0 c1 c2 c3 c4 c5 cr0
      go_wp2_with fail
      refine (iCheckOkV _ s U ⟨_, rfl, cr⟩).mono ?_
      rintro e w2 ⟨rfl, b2⟩
      have hb2 := hb.trans ((ext_bel (XU.tr (ext_below b2))).mono hb.size)
      have c3w := (cells6 (ext_blk (ext_below b2) PU)).2.2.2.1
      clear p0 p1 p2 p3 p4 p5 b2 PU XU
      cases hc : chkB s
      · have HF : Hid (R = 2) := by show _ = _; rw [hA.out, HD.out, hc]; rfl
        go_wp2
        go_ret
        exact ⟨by rw [HF.out]; rfl, hb2⟩
      · obtain ⟨M, hM⟩ : ∃ M, M = max A s.st := ⟨_, rfl⟩
        have hmax : ∀ W, (Builtin.max_ #[3, 3] 3 #[.int .i64 A, .int .i64 s.st]).run Try.prog W = .ok (.int .i64 M) W := fun W => by rw [hM]; exact run_maxK _ _ W
        have HF : Hid (R = worstF M (ss.drop (k + 1))) := by show _ = _; rw [hA.out, HD.out, hc, hM]; rfl
        clear HD hA hM
        go_wp2
        go_roundw
        case rel => exact ⟨k + 1, by omega, by go_num, M, rfl, HF, hb2⟩
        case measure => simp [intOf]; omega
    · have hkn : k = n := by omega
      subst hkn
      have HF : Hid (R = A) := by
        show _ = _
        rw [hA.out, List.drop_of_length_le (by have := HN.out; omega)]
        rfl
      go_wp2
      go_ret
      exact ⟨by rw [HF.out]; rfl, hb⟩

end Go.Proofs.Ytollbjbgncjkoaa
