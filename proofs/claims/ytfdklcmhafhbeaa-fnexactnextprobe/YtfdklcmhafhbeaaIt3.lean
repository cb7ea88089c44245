/- What a moment brings: the program's ask and tick. -/
import Derived.Test.YtfdklcmhafhbeaaIt2
import Derived.Test.YtfdklcmhafhbeaaPr8
import Derived.Test.YtfdklcmhafhbeaaPx6
namespace Go.Proofs.Ytfdklcmhafhbeaa
open Go.RowKit

theorem others12 {T : DTab} (h : TabP T) : (othersD T).length ≤ 12 := Nat.le_trans (except_len _ _) (by rw [liveD_yes h]; exact Nat.le_trans (liveL_len _) h.1)
theorem others_nn {T : DTab} (h : TabP T) : ∀ x ∈ othersD T, 0 ≤ x := fun x hx => by
  have hx1 : x ∈ liveD T := (List.mem_filter.1 hx).1
  rw [liveD_yes h] at hx1
  unfold liveL at hx1
  obtain ⟨t, ht, rfl⟩ := List.mem_map.1 hx1
  obtain ⟨i, hi⟩ := List.getElem?_of_mem (List.mem_filter.1 ht).1
  have := h.2.1 i (List.getElem?_eq_some_iff.1 hi).1
  have hm := (this t hi).1
  unfold memB at hm
  simp only [Bool.and_eq_true, decide_eq_true_eq] at hm
  exact hm.1.1.1.1.1
theorem scanL_mem {l : List Int} : ∀ {os : List Int} {j : Nat} {x : Int} {k : Nat}, scanL l os j = some (x, k) → x ∈ l
  | [], _, _, _, h => by cases h
  | y :: os, j, x, k, h => by
    rw [scanL] at h
    split at h
    · rename_i hc
      simp only [Option.some.injEq, Prod.mk.injEq] at h
      rw [← h.1]
      simpa using hc
    · exact scanL_mem h
theorem nextL_who {l : List Int} : ∀ (m : Nat) (P : DPro), (nextL l m P).2 = -1 ∨ (nextL l m P).2 ∈ l
  | 0, _ => .inl rfl
  | m + 1, P => by
    cases h : goOn l P with
    | some p =>
      obtain ⟨x, k⟩ := p
      right
      rw [nextL, h]
      exact scanL_mem h
    | none =>
      rw [nextL, h]
      exact nextL_who m _

set_option maxHeartbeats 2000000 in
theorem askV (w0 : World) (gt base : Nat) (P : DPro) (tv : Value) (id : Int) (w : World) (h : NxSt w0 gt base P tv w) (hg : base ≤ gt) :
    Calls Try.prog 63 #[.pointer (some ⟨gt, 0, none⟩), .int .i64 id] w fun e w' => (id = -1 ∧ e = .returned (.tuple #[.int .i64 0, .int .i64 0]) ∧ w' = w) ∨ (id ≠ -1 ∧ e = .returned (.tuple #[.int .i64 1, .int .i64 id]) ∧ NxSt w0 gt base ⟨P.order, P.next, P.seed, 1, id, 0⟩ tv w') := by
  by_cases hid : id = -1
  · have h1 : (id == -1) = true := by simp [hid]
    have HID : Hid (id = -1) := hid
    clear hid
    go_enter Try.func63, Try.ntmps63
    go_wp2
    go_ret2
    exact .inl ⟨HID.out, rfl, rfl⟩
  · have h1 : (id == -1) = false := by simp [hid]
    have HID : Hid (id ≠ -1) := hid
    have HS : Hid (NxSt w0 gt base ⟨P.order, P.next, P.seed, 1, id, 0⟩ tv (((w.setCell ⟨gt, 3, none⟩ (.int .i64 1)).setCell ⟨gt, 4, none⟩ (.int .i64 id)).setCell ⟨gt, 5, none⟩ (.int .i64 0))) := ((h.set3 hg 1).set4 hg id).set5 hg 0
    obtain ⟨c3, f3⟩ := at_block h.box 3 _ rfl
    obtain ⟨c4, f4⟩ := at_block h.box 4 _ rfl
    obtain ⟨c5, f5⟩ := at_block h.box 5 _ rfl
    clear hid h
    go_enter Try.func63, Try.ntmps63
    go_wp2
    go_ret2
    exact .inr ⟨HID.out, rfl, HS.out⟩

theorem NxSt.drew {w W : World} {gt base : Nat} {P : DPro} {tv : Value} (h : NxSt w gt base P tv W) (hb : base ≤ W.heap.size) : NxSt w gt base P tv W.drew := h.ext hb (ext_drewN _ 1)

set_option maxRecDepth 20000 in
set_option maxHeartbeats 4000000 in
theorem iTickV (gt base b2 : Nat) (P : DPro) (pv ov : Value) (ls : List Int) (w : World) (hb : w.heap[gt]? = some (.cells #[pv, .int .i64 P.next, .int .i64 P.seed, .int .i64 P.state, .int .i64 P.who, .int .i64 P.wait] 30 (0, 0))) (ho : OwI w base pv P.order) (hP : ProW P) (hst0 : 0 ≤ P.state) (hst : P.state ≤ 2) (hw0 : 0 ≤ P.wait) (hw4 : P.wait ≤ 4) (hl : OwI w b2 ov ls) (hn : ls.length ≤ 12) (hls : ∀ x ∈ ls, 0 ≤ x) (hg : base ≤ gt) (hbs : base ≤ w.heap.size) :
    Calls Try.prog 45 #[.pointer (some ⟨gt, 0, none⟩), ov] w fun e w' => e = .returned (.tuple #[.int .i64 (tickPD ls P).2.1, .int .i64 (tickPD ls P).2.2]) ∧ ∃ qv, NxSt w gt base (tickPD ls P).1 qv w' := by
  have ST0 : NxSt w gt base P pv w := ⟨hb, ho, Below.refl _ _⟩
  have HNX := iNextV gt base b2 P pv ov ls w hb ho hP hl hn hg hbs
  obtain ⟨oa, oc, rfl⟩ := hl.shape
  obtain ⟨on, hon⟩ : ∃ on, on = ls.length := ⟨_, rfl⟩
  rw [← hon] at HNX ⊢
  obtain ⟨R, hR⟩ : ∃ R, R = tickPD ls P := ⟨_, rfl⟩
  rw [← hR]
  have HG : Hid (base ≤ gt) := hg
  have HBS : Hid (base ≤ w.heap.size) := hbs
  have HLS : Hid (∀ x ∈ ls, 0 ≤ x) := hls
  obtain ⟨p0, p1, p2, p3, p4, p5⟩ := cells6 hb
  clear hl hls hon ho hbs
  by_cases s0 : P.state = 0
  · have e0 : (P.state == 0) = true := by simpa using s0
    have HRR : Hid (R = if (nextL ls 2 P).2 < 0 then ((nextL ls 2 P).1, 0, 0) else (⟨(nextL ls 2 P).1.order, (nextL ls 2 P).1.next, (nextL ls 2 P).1.seed, 1, (nextL ls 2 P).2, 0⟩, 1, (nextL ls 2 P).2)) := by show _ = _; rw [hR, tickPD, if_pos s0]
    have HWH : Hid ((nextL ls 2 P).2 = -1 ∨ (nextL ls 2 P).2 ∈ ls) := nextL_who 2 P
    obtain ⟨X, hX⟩ : ∃ X, X = nextL ls 2 P := ⟨_, rfl⟩
    rw [← hX] at HRR HWH HNX
    have HN2 : Hid _ := HNX
    clear hR s0 hX HNX hb ST0
    go_enter Try.func45, Try.ntmps45
    go_wp2_with fail
    refine Calls.mono HN2.out ?_
    rintro e w1 ⟨rfl, qv, S1⟩
    have HS1 : Hid (NxSt w gt base X.1 qv w1) := S1
    clear S1 HN2
    go_wp2_with fail
    refine (askV w gt base X.1 qv X.2 w1 HS1.out HG.out).mono ?_
    rintro e w2 (⟨hid, rfl, rfl⟩ | ⟨hid, rfl, S2⟩)
    · have HK : Hid (R = (X.1, 0, 0)) := by show _ = _; rw [HRR.out, if_pos (by omega)]
      clear hid
      go_wp2
      go_ret2
      rw [HK.out]
      exact ⟨rfl, qv, HS1.out⟩
    · have HK : Hid (R = (⟨X.1.order, X.1.next, X.1.seed, 1, X.2, 0⟩, 1, X.2)) := by
        show _ = _
        rw [HRR.out, if_neg]
        rcases HWH.out with h | h
        · exact absurd h hid
        · have := HLS.out _ h; omega
      have HS2 : Hid (NxSt w gt base ⟨X.1.order, X.1.next, X.1.seed, 1, X.2, 0⟩ qv w2) := S2
      clear hid S2
      go_wp2
      go_ret2
      rw [HK.out]
      exact ⟨rfl, qv, HS2.out⟩
  have e0 : (P.state == 0) = false := by simpa using s0
  have SW := ST0.set5 hg (P.wait + 1)
  have HSW : Hid (NxSt w gt base ⟨P.order, P.next, P.seed, P.state, P.who, P.wait + 1⟩ pv (w.setCell ⟨gt, 5, none⟩ (.int .i64 (P.wait + 1)))) := SW
  obtain ⟨q3, f3⟩ := at_block SW.box 3 _ rfl
  obtain ⟨q4, f4⟩ := at_block SW.box 4 _ rfl
  obtain ⟨q5, f5⟩ := at_block SW.box 5 _ rfl
  have f5' := (at_block hb 5 _ rfl).2
  clear HNX
  by_cases s1 : P.state = 1
  · have e1 : (P.state == 1) = true := by simpa using s1
    have e2 : (P.state == 2) = false := by simp [s1]
    by_cases wt : P.wait + 1 < 2
    · have HK : Hid (R = (⟨P.order, P.next, P.seed, P.state, P.who, P.wait + 1⟩, 0, 0)) := by show _ = _; rw [hR, tickPD, if_neg s0, if_pos s1, if_pos wt]
      have d1 : decide (P.wait + 1 ≥ 2) = false := decide_eq_false (by omega)
      clear hR s0 s1 hb ST0 SW
      go_enter Try.func45, Try.ntmps45
      go_wp2
      go_ret2
      rw [HK.out]
      exact ⟨rfl, pv, HSW.out⟩
    · have HK : Hid (R = (⟨P.order, P.next, P.seed, 2, P.who, 0⟩, 2, P.who)) := by show _ = _; rw [hR, tickPD, if_neg s0, if_pos s1, if_neg wt]
      have d1 : decide (P.wait + 1 ≥ 2) = true := decide_eq_true (by omega)
      have HF : Hid (NxSt w gt base ⟨P.order, P.next, P.seed, 2, P.who, 0⟩ pv (((w.setCell ⟨gt, 5, none⟩ (.int .i64 (P.wait + 1))).setCell ⟨gt, 3, none⟩ (.int .i64 2)).setCell ⟨gt, 5, none⟩ (.int .i64 0))) := (SW.set3 hg 2).set5 hg 0
      obtain ⟨x4, _⟩ := at_block HF.out.box 4 _ rfl
      have HFS : Hid (base ≤ (((w.setCell ⟨gt, 5, none⟩ (.int .i64 (P.wait + 1))).setCell ⟨gt, 3, none⟩ (.int .i64 2)).setCell ⟨gt, 5, none⟩ (.int .i64 0)).heap.size) := Nat.le_trans HBS.out (Nat.le_trans (set_grown w gt 5 _).size (Nat.le_trans (set_grown _ gt 3 _).size (set_grown _ gt 5 _).size))
      clear hR s0 s1 hb ST0 SW
      go_enter Try.func45, Try.ntmps45
      go_wp2_with fail
      go_region
      all_goals
        go_wp2
        go_ret2
        rw [HK.out]
        exact ⟨rfl, pv, HF.out.drew HFS.out⟩
  have s2 : P.state = 2 := by omega
  have e1 : (P.state == 1) = false := by simpa using s1
  have e2 : (P.state == 2) = true := by simp [s2]
  by_cases wt : P.wait + 1 < 4
  · have HK : Hid (R = (⟨P.order, P.next, P.seed, P.state, P.who, P.wait + 1⟩, 0, 0)) := by show _ = _; rw [hR, tickPD, if_neg s0, if_neg s1, if_pos wt]
    have d1 : decide (P.wait + 1 ≥ 4) = false := decide_eq_false (by omega)
    clear hR s0 s1 s2 hb ST0 SW
    go_enter Try.func45, Try.ntmps45
    go_wp2
    go_ret2
    rw [HK.out]
    exact ⟨rfl, pv, HSW.out⟩
  · have HK : Hid (R = (⟨P.order, P.next, P.seed, 0, 0, 0⟩, 3, P.who)) := by show _ = _; rw [hR, tickPD, if_neg s0, if_neg s1, if_neg wt]
    have d1 : decide (P.wait + 1 ≥ 4) = true := decide_eq_true (by omega)
    have HPB : Hid (ProB gt base ⟨P.order, P.next, P.seed, P.state, P.who, P.wait + 1⟩ pv (w.setCell ⟨gt, 5, none⟩ (.int .i64 (P.wait + 1)))) := ⟨SW.box, SW.own⟩
    have HLOW : Hid (Below base w (w.setCell ⟨gt, 5, none⟩ (.int .i64 (P.wait + 1)))) := SW.low
    clear hR s0 s1 s2 hb ST0 SW
    go_enter Try.func45, Try.ntmps45
    go_wp2_with fail
    refine (restV gt base ⟨P.order, P.next, P.seed, P.state, P.who, P.wait + 1⟩ pv _ HPB.out).mono ?_
    rintro e w2 ⟨rfl, PB, g2⟩
    have HF : Hid (NxSt w gt base ⟨P.order, P.next, P.seed, 0, 0, 0⟩ pv w2) := ⟨PB.1, PB.2, HLOW.out.grown g2 (Nat.le_trans HBS.out (set_grown _ _ _ _).size) (fun k hk => by cases hk; exact HG.out)⟩
    clear PB g2 HPB
    go_wp2
    go_ret2
    rw [HK.out]
    exact ⟨rfl, pv, HF.out⟩

end Go.Proofs.Ytfdklcmhafhbeaa
