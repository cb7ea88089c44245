/- The contract of the program's NodeOk. -/
import Derived.Test.YtdcbajejgphlgaaNdR0
import Derived.Test.YtdcbajejgphlgaaNdR1
import Derived.Test.YtdcbajejgphlgaaNdR2
import Derived.Test.YtdcbajejgphlgaaNdR3
import Derived.Test.YtdcbajejgphlgaaNdC0
import Derived.Test.YtdcbajejgphlgaaSum0
namespace Go.Proofs.Ytdcbajejgphlgaa
open Go.RowKit

theorem roleOkV (M : DNode) (s : Int) (v : Value) (w : World) (h : VNode w v M) (hn : M.log.length ≤ 400) :
    Calls Try.prog 43 #[v, .int .i64 s] w fun e w' => e = .returned (.bool (roleB M s)) ∧ Below w.heap.size w w' := by
  by_cases e0 : M.role = 0
  · have e : roleB M s = (sizeB M s && role0B M) := by unfold roleB; rw [if_pos e0]
    rw [e]
    exact roleOkV0 M s v w h e0 hn
  by_cases e1 : M.role = 1
  · have e : roleB M s = (sizeB M s && role1B M) := by unfold roleB; rw [if_neg e0, if_pos e1]
    rw [e]
    exact roleOkV1 M s v w h e1 hn
  by_cases e2 : M.role = 2
  · have e : roleB M s = (sizeB M s && role2B M) := by unfold roleB; rw [if_neg e0, if_neg e1, if_pos e2]
    rw [e]
    exact roleOkV2 M s v w h e2 hn
  have e : roleB M s = false := by unfold roleB; rw [if_neg e0, if_neg e1, if_neg e2]; simp
  rw [e]
  exact roleOkV3 M s v w h e0 e1 e2

/-- What the program says of a server. -/
def nodeB (M : DNode) (s : Int) : Bool := srvB M.id s && (numB M s && (logB M.term M.log && roleB M s))

set_option maxHeartbeats 4000000 in
theorem iNodeOkB (v : Value) (M : DNode) (s : Int) (w : World) (h : VNode w v M) :
    Calls Try.prog 22 #[v, .int .i64 s] w fun e w' => e = .returned (.bool (nodeB M s)) ∧ Below w.heap.size w w' := by
  have hE : ∀ w : World, ∀ o, Ext w (w.alloc o) := fun w o => World.grownBy_alloc _ _ _
  have hB : ∀ w : World, ∀ o, Below w.heap.size w (w.alloc o) := fun w o => (Below.refl _ w).alloc (Nat.le_refl _) _
  have H0 : Hid (VNode w v M) := h
  have HU : Hid (nodeB M s = (srvB M.id s && (numB M s && (logB M.term M.log && roleB M s)))) := rfl
  obtain ⟨lv, bv, nv, mv, rfl, hi, hbv, hnv, hmv⟩ := h
  have HI : Hid (VItems w lv M.log) := hi
  obtain ⟨ia, ic, rfl⟩ := items_shape hi
  obtain ⟨ba, bc, rfl⟩ := vl_shape hbv
  obtain ⟨na, nc, rfl⟩ := vl_shape hnv
  obtain ⟨ma, mc, rfl⟩ := vl_shape hmv
  clear hi hbv hnv hmv
  cases k1 : srvB M.id s
  case false =>
    go_enter Try.func22, Try.ntmps22
    go_wp2_with (go_at_call 23; refine (serverOkV _ _ _).mono ?_; rintro e w2 ⟨rfl, rfl⟩; rw [k1])
    go_ret
    exact ⟨by rw [HU.out, k1]; rfl, hB _ _⟩
  have hs : 1 ≤ s ∧ s ≤ 5 := by
    unfold srvB inB at k1
    simp only [Bool.and_eq_true, decide_eq_true_eq] at k1
    exact k1.1
  have HS : Hid (1 ≤ s ∧ s ≤ 5) := hs
  clear hs
  cases k2 : numB M s
  case false =>
    go_enter Try.func22, Try.ntmps22
    go_wp2_with (go_at_call 23; refine (serverOkV _ _ _).mono ?_; rintro e w2 ⟨rfl, rfl⟩; rw [k1])
    refine (numbersOkV M s _ _ (H0.out.ext (hE _ _)) HS.out.1 HS.out.2).mono ?_
    rintro e w3 ⟨rfl, b3⟩
    rw [k2]
    go_wp2
    go_ret
    exact ⟨by rw [HU.out, k1, k2]; rfl, (hB _ _).trans (b3.mono (by simp))⟩
  cases k3 : logB M.term M.log
  case false =>
    go_enter Try.func22, Try.ntmps22
    go_wp2_with (go_at_call 23; refine (serverOkV _ _ _).mono ?_; rintro e w2 ⟨rfl, rfl⟩; rw [k1])
    refine (numbersOkV M s _ _ (H0.out.ext (hE _ _)) HS.out.1 HS.out.2).mono ?_
    rintro e w3 ⟨rfl, b3⟩
    rw [k2]
    have R3 := below_blk b3 (by simp) (heap_alloc_new w _)
    obtain ⟨c3, _⟩ := at_block R3 3 _ rfl
    obtain ⟨c1, _⟩ := at_block R3 1 _ rfl
    go_wp2_with fail
    refine (logOkV M.term _ M.log w3 ((HI.out.ext (hE _ _)).ext (ext_below b3))).mono ?_
    rintro e w4 ⟨rfl, b4⟩
    rw [k3]
    go_wp2
    go_ret
    exact ⟨by rw [HU.out, k1, k2, k3]; rfl, ((hB _ _).trans (b3.mono (by simp))).trans (b4.mono (Nat.le_trans (by simp) b3.size))⟩
  have HL : Hid (M.log.length ≤ 400) := by
    unfold logB at k3
    simp only [Bool.and_eq_true, decide_eq_true_eq] at k3
    exact k3.1
  obtain ⟨k4b, k4⟩ : ∃ t, roleB M s = t := ⟨_, rfl⟩
  go_enter Try.func22, Try.ntmps22
  go_wp2_with (go_at_call 23; refine (serverOkV _ _ _).mono ?_; rintro e w2 ⟨rfl, rfl⟩; rw [k1])
  refine (numbersOkV M s _ _ (H0.out.ext (hE _ _)) HS.out.1 HS.out.2).mono ?_
  rintro e w3 ⟨rfl, b3⟩
  rw [k2]
  have R3 := below_blk b3 (by simp) (heap_alloc_new w _)
  obtain ⟨c3, _⟩ := at_block R3 3 _ rfl
  obtain ⟨c1, _⟩ := at_block R3 1 _ rfl
  go_wp2_with fail
  refine (logOkV M.term _ M.log w3 ((HI.out.ext (hE _ _)).ext (ext_below b3))).mono ?_
  rintro e w4 ⟨rfl, b4⟩
  rw [k3]
  have R4 := below_blk b4 (Array.getElem?_eq_some_iff.1 R3).1 R3
  obtain ⟨d0, _⟩ := at_block R4 0 _ rfl
  obtain ⟨d1, _⟩ := at_block R4 1 _ rfl
  obtain ⟨d2, _⟩ := at_block R4 2 _ rfl
  obtain ⟨d3, _⟩ := at_block R4 3 _ rfl
  obtain ⟨d4, _⟩ := at_block R4 4 _ rfl
  obtain ⟨d5, _⟩ := at_block R4 5 _ rfl
  obtain ⟨d6, _⟩ := at_block R4 6 _ rfl
  obtain ⟨d7, _⟩ := at_block R4 7 _ rfl
  obtain ⟨d8, _⟩ := at_block R4 8 _ rfl
  obtain ⟨d9, _⟩ := at_block R4 9 _ rfl
  obtain ⟨d10, _⟩ := at_block R4 10 _ rfl
  clear c1 c3
  go_wp2_with fail
  refine (roleOkV M s _ w4 (((H0.out.ext (hE _ _)).ext (ext_below b3)).ext (ext_below b4)) HL.out).mono ?_
  rintro e w5 ⟨rfl, b5⟩
  rw [k4]
  go_wp2
  go_ret
  exact ⟨by rw [HU.out, k1, k2, k3, k4]; rfl, (((hB _ _).trans (b3.mono (by simp))).trans (b4.mono (Nat.le_trans (by simp) b3.size))).trans (b5.mono (Nat.le_trans (Nat.le_trans (by simp) b3.size) b4.size))⟩

theorem itemsB_iff (t : Int) (ss : List DItem) : ∀ l : Int, itemsB l t ss = true ↔ ∀ (i : Nat) (d : DItem), ss[i]? = some d → itemB d = true ∧ d.term ≤ t ∧ (∀ p, 0 < i → ss[i - 1]? = some p → p.term ≤ d.term) ∧ l ≤ d.term := by
  induction ss with
  | nil => intro l; simp [itemsB]
  | cons s r ih =>
    intro l
    have e : itemsB l t (s :: r) = (itemB s && (inB s.term l t && itemsB s.term t r)) := rfl
    rw [e]
    simp only [Bool.and_eq_true, ih, inB, decide_eq_true_eq]
    constructor
    · rintro ⟨h1, ⟨h2, h3⟩, h4⟩ i d hd
      cases i with
      | zero =>
        simp only [List.getElem?_cons_zero, Option.some.injEq] at hd
        subst hd
        exact ⟨h1, h3, fun p h0 => absurd h0 (by omega), h2⟩
      | succ j =>
        rw [List.getElem?_cons_succ] at hd
        obtain ⟨a1, a2, a3, a4⟩ := h4 j d hd
        refine ⟨a1, a2, fun p _ hp => ?_, by omega⟩
        rw [Nat.add_sub_cancel] at hp
        cases j with
        | zero =>
          simp only [List.getElem?_cons_zero, Option.some.injEq] at hp
          subst hp
          exact a4
        | succ q =>
          rw [List.getElem?_cons_succ] at hp
          exact a3 p (by omega) (by rw [Nat.add_sub_cancel]; exact hp)
    · intro h
      obtain ⟨a1, a2, _, a4⟩ := h 0 s rfl
      have hs : ∀ (j : Nat) (d : DItem), r[j]? = some d → s.term ≤ d.term := by
        intro j
        induction j with
        | zero =>
          intro d hd
          exact (h 1 d (by rw [List.getElem?_cons_succ]; exact hd)).2.2.1 s (by omega) rfl
        | succ q iq =>
          intro d hd
          have hq : q < r.length := by
            have := (List.getElem?_eq_some_iff.mp hd).1
            omega
          have h5 := iq r[q] (List.getElem?_eq_getElem hq)
          have h6 := (h (q + 2) d (by rw [List.getElem?_cons_succ]; exact hd)).2.2.1 r[q] (by omega) (by show (s :: r)[q + 1]? = _; rw [List.getElem?_cons_succ]; exact List.getElem?_eq_getElem hq)
          omega
      refine ⟨a1, ⟨a4, a2⟩, fun j d hd => ?_⟩
      obtain ⟨b1, b2, b3, b4⟩ := h (j + 1) d (by rw [List.getElem?_cons_succ]; exact hd)
      refine ⟨b1, b2, fun p h0 hp => ?_, hs j d hd⟩
      refine b3 p (by omega) ?_
      rw [Nat.add_sub_cancel]
      obtain ⟨q, rfl⟩ : ∃ q, j = q + 1 := ⟨j - 1, by omega⟩
      rw [List.getElem?_cons_succ]
      rw [Nat.add_sub_cancel] at hp
      exact hp

theorem all_iff {α : Type} (p : α → Bool) (xs : List α) : xs.all p = true ↔ ∀ (i : Nat) (x : α), xs[i]? = some x → p x = true := by
  rw [List.all_eq_true]
  constructor
  · intro h i x hx
    exact h x (List.mem_of_getElem? hx)
  · intro h x hx
    obtain ⟨i, hi, e⟩ := List.mem_iff_getElem.1 hx
    exact h i x (by rw [List.getElem?_eq_getElem hi, e])
theorem get_of {α : Type} (xs : List α) (i : Nat) (h : i < xs.length) : ∃ x, xs[i]? = some x := ⟨_, List.getElem?_eq_getElem h⟩

/-- What is kept of all servers, list by list. -/
theorem entries_iff (M : DNode) (h1 : M.next.length = M.votes.length) (h2 : M.mat.length = M.votes.length) (A : Bool → Prop) (B C : Int → Prop) :
    (∀ i, i < M.votes.length → ∀ b n m, M.votes[i]? = some b → M.next[i]? = some n → M.mat[i]? = some m → A b ∧ B n ∧ C m) ↔ (∀ (i : Nat) b, M.votes[i]? = some b → A b) ∧ (∀ (i : Nat) n, M.next[i]? = some n → B n) ∧ (∀ (i : Nat) m, M.mat[i]? = some m → C m) := by
  have hg : ∀ i, i < M.votes.length → ∃ b n m, M.votes[i]? = some b ∧ M.next[i]? = some n ∧ M.mat[i]? = some m := fun i hi => by
    obtain ⟨b, hb⟩ := get_of M.votes i hi
    obtain ⟨n, hn⟩ := get_of M.next i (by omega)
    obtain ⟨m, hm⟩ := get_of M.mat i (by omega)
    exact ⟨b, n, m, hb, hn, hm⟩
  constructor
  · intro h
    refine ⟨fun i b hb => ?_, fun i n hn => ?_, fun i m hm => ?_⟩
    · obtain ⟨b', n, m, e1, e2, e3⟩ := hg i (List.getElem?_eq_some_iff.1 hb).1
      exact (h i (List.getElem?_eq_some_iff.1 hb).1 b n m hb e2 e3).1
    · have hi : i < M.votes.length := by have := (List.getElem?_eq_some_iff.1 hn).1; omega
      obtain ⟨b', n', m, e1, e2, e3⟩ := hg i hi
      exact (h i hi b' n m e1 hn e3).2.1
    · have hi : i < M.votes.length := by have := (List.getElem?_eq_some_iff.1 hm).1; omega
      obtain ⟨b', n', m', e1, e2, e3⟩ := hg i hi
      exact (h i hi b' n' m e1 e2 hm).2.2
  · rintro ⟨ha, hb, hc⟩ i _ b n m e1 e2 e3
    exact ⟨ha i b e1, hb i n e2, hc i m e3⟩

theorem nodeB_iff (M : DNode) (s : Int) : nodeB M s = true ↔ NodeP M s := by
  have hI : itemsB 1 M.term M.log = true ↔ ∀ i, i < M.log.length → NItemAt M i := by
    rw [itemsB_iff]
    constructor
    · intro h i _ d hd
      obtain ⟨a1, a2, a3, _⟩ := h i d hd
      exact ⟨a1, a2, a3⟩
    · intro h i d hd
      obtain ⟨a1, a2, a3⟩ := h i (List.getElem?_eq_some_iff.mp hd).1 d hd
      refine ⟨a1, a2, a3, ?_⟩
      unfold itemB inB at a1
      simp only [Bool.and_eq_true, decide_eq_true_eq] at a1
      exact a1.1.1
  have hb0 : ∀ x : Int, inB x 0 0 = true ↔ x = 0 := fun x => by unfold inB; simp only [Bool.and_eq_true, decide_eq_true_eq]; omega
  unfold nodeB srvB numB logB NodeP NHeadP
  have hsz : sizeB M s = true ↔ (M.votes.length : Int) = s ∧ (M.next.length : Int) = s ∧ (M.mat.length : Int) = s := by
    unfold sizeB; simp only [Bool.and_eq_true, beq_iff_eq]
  unfold roleB
  simp only [Bool.and_eq_true, hI, hsz, inB, decide_eq_true_eq]
  constructor
  · rintro ⟨⟨a1, a2⟩, ⟨b1, b2, b3, b4, b5⟩, ⟨c1, c2⟩, ⟨d1, d2, d3⟩, hr⟩
    have l1 : M.next.length = M.votes.length := by omega
    have l2 : M.mat.length = M.votes.length := by omega
    split at hr
    · rename_i r
      unfold role0B zeroB at hr
      simp only [Bool.and_eq_true, all_iff, hb0] at hr
      refine ⟨⟨a1, by omega, b1, by omega, c1, b4, by omega, by omega, b5, d1, d2, d3⟩, c2, fun h => absurd r h, ?_, fun h => by omega⟩
      have := (entries_iff M l1 l2 (fun b => (!b) = true) (fun n => n = 0) (fun m => m = 0)).2 ⟨hr.1, hr.2.1, hr.2.2⟩
      intro i hi b n m e1 e2 e3
      obtain ⟨x1, x2, x3⟩ := this i hi b n m e1 e2 e3
      exact ⟨fun h => by omega, fun _ => ⟨x2, x3⟩, fun _ => by simpa using x1⟩
    split at hr
    · rename_i r0 r
      unfold role1B zeroB selfB at hr
      simp only [Bool.and_eq_true, all_iff, hb0, decide_eq_true_eq, beq_iff_eq] at hr
      refine ⟨⟨a1, by omega, b1, by omega, c1, b4, by omega, by omega, b5, d1, d2, d3⟩, c2, fun h => hr.1, ?_, fun h => by omega⟩
      have := (entries_iff M l1 l2 (fun _ => True) (fun n => n = 0) (fun m => m = 0)).2 ⟨fun _ _ _ => trivial, hr.2.1, hr.2.2⟩
      intro i hi b n m e1 e2 e3
      obtain ⟨x1, x2, x3⟩ := this i hi b n m e1 e2 e3
      exact ⟨fun h => by omega, fun _ => ⟨x2, x3⟩, fun h => absurd h r0⟩
    split at hr
    · rename_i r0 r1 r
      unfold role2B selfB inB at hr
      simp only [Bool.and_eq_true, all_iff, decide_eq_true_eq, beq_iff_eq] at hr
      refine ⟨⟨a1, by omega, b1, by omega, c1, b4, by omega, by omega, b5, d1, d2, d3⟩, c2, fun h => hr.1, ?_, fun h => hr.2.1⟩
      have := (entries_iff M l1 l2 (fun _ => True) (fun n => 1 ≤ n ∧ n ≤ M.log.length + 1) (fun m => 0 ≤ m ∧ m ≤ M.log.length)).2 ⟨fun _ _ _ => trivial, hr.2.2.1, hr.2.2.2⟩
      intro i hi b n m e1 e2 e3
      obtain ⟨x1, x2, x3⟩ := this i hi b n m e1 e2 e3
      exact ⟨fun _ => ⟨x2, x3⟩, fun h => absurd r h, fun h => absurd h r0⟩
    · cases hr
  · rintro ⟨⟨a1, a2, b1, b2, c1, b3, rr, b4, b5, d1, d2, d3⟩, c2, hro, hen, hld⟩
    have l1 : M.next.length = M.votes.length := by omega
    have l2 : M.mat.length = M.votes.length := by omega
    refine ⟨⟨a1, by omega⟩, ⟨b1, by omega, by omega, b3, b5⟩, ⟨c1, c2⟩, ⟨d1, d2, d3⟩, ?_⟩
    split
    · rename_i r
      unfold role0B zeroB
      simp only [Bool.and_eq_true, all_iff, hb0]
      have := (entries_iff M l1 l2 (fun b => (!b) = true) (fun n => n = 0) (fun m => m = 0)).1 (fun i hi b n m e1 e2 e3 => by
        obtain ⟨x1, x2, x3⟩ := hen i hi b n m e1 e2 e3
        exact ⟨by rw [x3 r]; rfl, x2 (by omega)⟩)
      exact this
    split
    · rename_i r0 r
      unfold role1B zeroB selfB
      simp only [Bool.and_eq_true, all_iff, hb0, decide_eq_true_eq, beq_iff_eq]
      have := (entries_iff M l1 l2 (fun _ => True) (fun n => n = 0) (fun m => m = 0)).1 (fun i hi b n m e1 e2 e3 => by
        obtain ⟨x1, x2, x3⟩ := hen i hi b n m e1 e2 e3
        exact ⟨trivial, x2 (by omega)⟩)
      exact ⟨hro r0, this.2⟩
    split
    · rename_i r0 r1 r
      unfold role2B selfB inB
      simp only [Bool.and_eq_true, all_iff, decide_eq_true_eq, beq_iff_eq]
      have := (entries_iff M l1 l2 (fun _ => True) (fun n => 1 ≤ n ∧ n ≤ M.log.length + 1) (fun m => 0 ≤ m ∧ m ≤ M.log.length)).1 (fun i hi b n m e1 e2 e3 => by
        obtain ⟨x1, x2, x3⟩ := hen i hi b n m e1 e2 e3
        exact ⟨trivial, x1 r⟩)
      exact ⟨hro r0, hld r, this.2⟩
    · omega

theorem iNodeOkP (v : Value) (M : DNode) (s : Int) (w : World) (h : VNode w v M) :
    Calls Try.prog 22 #[v, .int .i64 s] w fun e w' => e = .returned (.bool (tB (NodeP M s))) ∧ Below w.heap.size w w' := by
  have e : nodeB M s = tB (NodeP M s) := by rw [Bool.eq_iff_iff, tB_iff]; exact nodeB_iff M s
  rw [← e]
  exact iNodeOkB v M s w h

end Go.Proofs.Ytdcbajejgphlgaa
