/- Contracts of HasPrefix, the specification's and the program's. -/
import Derived.Test.YtbkifmbkmjjbnajCom
import Derived.Laws.BytesArg
import Derived.WalkLawsBesides
namespace Go.Proofs.Ytbkifmbkmjjbnaj
open Go.RowKit

theorem convR {w : World} {a : Option Addr} {n : Nat} {xs : List Int} (h : Rd w a n xs) (cap : Nat) : (convert 22 9 (.slice a n cap)).run Try.prog w = .ok (.string (strOfNums xs)) w := by
  cases a with
  | none =>
    have h0 : n = 0 := by
      rcases Nat.eq_zero_or_pos n with h' | h'
      · exact h'
      · obtain ⟨b, o, e, _⟩ := h.pos h'
        cases e
    subst h0
    obtain rfl : xs = [] := List.eq_nil_of_length_eq_zero h.len
    rw [run_convert_bytes_nil w 22 5 Try.underlying22 Try.underlying5 0 cap 9 Try.underlying9]
    rfl
  | some ad =>
    have hl : (loadCells ad n).run Try.prog w = .ok (xs.map (Value.int .u8)).toArray w := by
      have := run_loadCells_list (P := Try.prog) w ad (xs.map (Value.int .u8)) (fun j v hj => by
        have hjl : j < xs.length := by
          have := (List.getElem?_eq_some_iff.1 hj).1
          simpa using this
        obtain ⟨b, o', e, hbl, hc⟩ := h.pos (by have := h.len; omega)
        simp only [Option.some.injEq] at e
        subst e
        rw [Addr.add_lit, hc j (by have := h.len; omega)]
        simpa [List.getD, hjl] using hj)
      simpa [h.len] using this
    rw [run_convert_bytes_string w 22 9 5 _ n cap Try.underlying22 Try.underlying5 Try.underlying9, run_bytesToString w _ n cap xs hl, foldl_push_bytes]
    simp [strOfNums, ByteArray.empty, ByteArray.emptyWithCapacity]
    rfl

theorem take_len_le (xs : List Int) (m n : Nat) (hl : xs.length = n) (h : m ≤ n) : (xs.take m).length = m := by simp; omega

theorem rd_head {w : World} {a : Option Addr} {n : Nat} {xs : List Int} (hr : Rd w a n xs) (m : Nat) (h : m ≤ n) : Rd w a m (xs.take m) :=
  ⟨take_len_le xs m n hr.len h, fun i hi => by
    obtain ⟨b, o, e, hc⟩ := hr.cell i (by omega)
    exact ⟨b, o, e, by rw [hc]; simp [List.getD, hi]⟩, fun x hx => hr.rng x (List.mem_of_mem_take hx)⟩

theorem nums_inj : ∀ (xs ys : List Int), (∀ x ∈ xs, 0 ≤ x ∧ x ≤ 255) → (∀ x ∈ ys, 0 ≤ x ∧ x ≤ 255) → (xs.map fun n => UInt8.ofNat n.toNat) = (ys.map fun n => UInt8.ofNat n.toNat) → xs = ys
  | [], [], _, _, _ => rfl
  | [], _ :: _, _, _, h => by simp at h
  | _ :: _, [], _, _, h => by simp at h
  | x :: xs, y :: ys, hx, hy, h => by
    simp only [List.map_cons, List.cons.injEq] at h
    have h1 := hx x (List.mem_cons_self ..)
    have h2 := hy y (List.mem_cons_self ..)
    have e : x.toNat = y.toNat := by
      have := congrArg UInt8.toNat h.1
      simp only [UInt8.toNat_ofNat'] at this
      omega
    have : x = y := by omega
    rw [this, nums_inj xs ys (fun z hz => hx z (List.mem_cons_of_mem _ hz)) (fun z hz => hy z (List.mem_cons_of_mem _ hz)) h.2]

theorem str_eq (xs ys : List Int) (hx : ∀ x ∈ xs, 0 ≤ x ∧ x ≤ 255) (hy : ∀ x ∈ ys, 0 ≤ x ∧ x ≤ 255) : ((strOfNums xs).toList == (strOfNums ys).toList) = decide (xs = ys) := by
  rw [Bool.eq_iff_iff]
  simp only [beq_iff_eq, decide_eq_true_eq]
  rw [ByteArray.toList_eq, ByteArray.toList_eq, strOfNums_data, strOfNums_data]
  exact ⟨nums_inj xs ys hx hy, fun h => by rw [h]⟩

theorem com_pre (xs ys : List Int) : com xs ys = ys.length ↔ ys.length ≤ xs.length ∧ xs.take ys.length = ys := by
  induction xs generalizing ys with
  | nil =>
    cases ys with
    | nil => simp [com]
    | cons y ys => simp [com]
  | cons x xs ih =>
    cases ys with
    | nil => simp [com]
    | cons y ys =>
      rw [com]
      by_cases h : x = y
      · rw [if_pos h]
        have := ih ys
        simp only [List.length_cons, Nat.add_right_cancel_iff, List.take_succ_cons, List.cons.injEq, h, true_and, Nat.add_le_add_iff_right]
        exact this
      · rw [if_neg h]
        simp [h]

/-- xs begins with ys. -/
def hasB (xs ys : List Int) : Bool := decide (com xs ys = ys.length)

set_option maxHeartbeats 2000000 in
theorem sHas (a b : Option Addr) (n c m d : Nat) (xs ys : List Int) (w : World) (hr : Rd w a n xs) (hs : Rd w b m ys) (_hn : n ≤ 2097152) (_hm : m ≤ 2097152) (hc : n ≤ c) :
    Calls Try.prog 6 #[.slice a n c, .slice b m d] w fun e w' => e = .returned (.bool (hasB xs ys)) ∧ ∃ q, w' = w.drewN q := by
  have hl := hr.len
  have hl' := hs.len
  by_cases hmn : m ≤ n
  · have hr2 := rd_head hr m hmn
    have HV : Hid (((strOfNums (xs.take m)).toList == (strOfNums ys).toList) = hasB xs ys) := by
      unfold Hid hasB
      rw [str_eq _ _ hr2.rng hs.rng, decide_eq_decide, com_pre, hl', hl]
      exact ⟨fun h => ⟨hmn, h⟩, fun h => h.2⟩
    have hcv := fun q => convR (w := w.drewN q) (hr2.grown (ext_drewN w q)) c
    have hcu := fun q => convR (w := w.drewN q) (hs.grown (ext_drewN w q)) d
    have hmn' : (m : Int) ≤ (n : Int) := by omega
    have hmc : (m : Int) ≤ (c : Int) := by omega
    have hd : decide (m ≤ n) = true := by simp; omega
    clear hl hl'
    go_enter Try.func6, Try.ntmps6
    go_wp2
    go_quiet (fail)
    go_wp2
    go_ret
    exact ⟨by rw [← HV.out]; rfl, _, rfl⟩
  · have HV : Hid (hasB xs ys = false) := by
      unfold Hid hasB
      rw [decide_eq_false_iff_not, com_pre]
      omega
    have hd : decide (m ≤ n) = false := by simp; omega
    have hmn' : ¬ (m : Int) ≤ (n : Int) := by omega
    clear hl hl'
    go_enter Try.func6, Try.ntmps6
    go_wp2
    go_quiet (fail)
    go_wp2
    go_ret
    exact ⟨by rw [HV.out]; rfl, _, rfl⟩

set_option maxHeartbeats 2000000 in
theorem iHas (a b : Option Addr) (n c m d : Nat) (xs ys : List Int) (w : World) (hV : RV w (.slice a n c) xs) (hU : RV w (.slice b m d) ys) (hn : xs.length ≤ 2097152) (hm : ys.length ≤ 2097152) (hl : ys.length = m) :
    Calls Try.prog 8 #[.slice a n c, .slice b m d] w fun e w' => e = .returned (.bool (hasB xs ys)) ∧ ∃ q, w' = w.drewN q := by
  have hle := (com_le xs ys).2
  by_cases hq : com xs ys = ys.length
  · have HV : Hid (hasB xs ys = true) := by unfold Hid hasB; rw [hq]; simp
    have hq' : com xs ys = m := by omega
    have HQ : Hid (com xs ys = m) := hq'
    clear hq hq' hle hl
    go_enter Try.func8, Try.ntmps8
    go_wp2_with fail
    refine (iComV _ _ xs ys w hV hU hn hm).mono ?_
    rintro e w1 ⟨rfl, q, rfl⟩
    rw [HQ.out]
    go_wp2
    go_ret
    exact ⟨by rw [HV.out]; simp, q, rfl⟩
  · have HV : Hid (hasB xs ys = false) := by unfold Hid hasB; rw [decide_eq_false_iff_not]; exact hq
    have hne : ((com xs ys : Int) == (m : Int)) = false := by simp; omega
    clear hq hle hl
    go_enter Try.func8, Try.ntmps8
    go_wp2_with fail
    refine (iComV _ _ xs ys w hV hU hn hm).mono ?_
    rintro e w1 ⟨rfl, q, rfl⟩
    go_wp2
    go_ret
    exact ⟨by rw [HV.out]; simp, q, rfl⟩

theorem sHasV (v u : Value) (xs ys : List Int) (w : World) (h : RV w v xs) (k : RV w u ys) (hn : xs.length ≤ 2097152) (hm : ys.length ≤ 2097152) :
    Calls Try.prog 6 #[v, u] w fun e w' => e = .returned (.bool (hasB xs ys)) ∧ ∃ q, w' = w.drewN q := by
  obtain ⟨a, cap, rfl, hr, h1, _⟩ := h
  obtain ⟨b, cap', rfl, hs, _, _⟩ := k
  exact sHas a b xs.length cap ys.length cap' xs ys w hr hs hn hm h1
theorem iHasV (v u : Value) (xs ys : List Int) (w : World) (h : RV w v xs) (k : RV w u ys) (hn : xs.length ≤ 2097152) (hm : ys.length ≤ 2097152) :
    Calls Try.prog 8 #[v, u] w fun e w' => e = .returned (.bool (hasB xs ys)) ∧ ∃ q, w' = w.drewN q := by
  have h' := h
  have k' := k
  obtain ⟨a, cap, rfl, _⟩ := h
  obtain ⟨b, cap', rfl, _⟩ := k
  exact iHas a b xs.length cap ys.length cap' xs ys w h' k' hn hm rfl

end Go.Proofs.Ytbkifmbkmjjbnaj
