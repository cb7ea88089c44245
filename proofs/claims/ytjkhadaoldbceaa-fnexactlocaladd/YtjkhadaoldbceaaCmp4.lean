
/- The order of texts: bytes.Compare, and that it tells what the order of strings does. -/
import Derived.Test.YtjkhadaoldbceaaConv
import Derived.Lib.BytesEntry
import Derived.Laws.Externs
namespace Go.Proofs.Ytjkhadaoldbceaa
open Go.RowKit

/-- The one text comes ahead of the other. -/
def ltK (xs ys : List Int) : Bool := Op.bytesLess (strOfNums xs).toList (strOfNums ys).toList

theorem cmpB_lt : ∀ (a b : List UInt8), Lib.compareBytes a b < 0 ↔ Op.bytesLess a b = true
  | [], [] => by simp [Lib.compareBytes, Op.bytesLess]
  | [], _ :: _ => by simp [Lib.compareBytes, Op.bytesLess]
  | _ :: _, [] => by simp [Lib.compareBytes, Op.bytesLess]
  | x :: a, y :: b => by
    have ih := cmpB_lt a b
    unfold Lib.compareBytes Op.bytesLess
    by_cases h : x < y
    · simp [h]
    · by_cases h' : y < x
      · have hne : ¬ x = y := fun e => by subst e; exact UInt8.lt_irrefl _ h'
        simp [h, h', hne]
      · have he : x = y := UInt8.le_antisymm (UInt8.not_lt.1 h') (UInt8.not_lt.1 h)
        subst he
        simp [h, ih]

theorem bytesOf_nums (xs : List Int) : Lib.bytesOf xs = xs.map fun n => UInt8.ofNat n.toNat := rfl

theorem run_bytesOf {w : World} {a : Option Addr} {n : Nat} {xs : List Int} (h : Rd w a n xs) (cap : Nat) :
    (Extern.Bytes.bytesOf (.slice a n cap)).run Try.prog w = .ok (strOfNums xs) w := by
  cases a with
  | none =>
    have h0 : n = 0 := by
      rcases Nat.eq_zero_or_pos n with h' | h'
      · exact h'
      · obtain ⟨b, o, e, _⟩ := h.pos h'
        cases e
    subst h0
    obtain rfl : xs = [] := List.eq_nil_of_length_eq_zero h.len
    rfl
  | some ad =>
    have hl := Lib.run_loadBytesX (P := Try.prog) w xs ad .empty (fun j x hj => by
      have hjl : j < xs.length := (List.getElem?_eq_some_iff.1 hj).1
      obtain ⟨b, o, e, hc⟩ := h.cell j (by have := h.len; omega)
      simp only [Option.some.injEq] at e
      subst e
      rw [Addr.add_lit, hc, List.getD_eq_getElem?_getD, hj]
      rfl)
    rw [h.len] at hl
    have he : (⟨ByteArray.empty.data ++ (Lib.bytesOf xs).toArray⟩ : ByteArray) = strOfNums xs := by
      apply ByteArray.ext
      show (#[] : Array UInt8) ++ (Lib.bytesOf xs).toArray = _
      simp
      rfl
    rw [he] at hl
    exact hl

theorem run_cmp {w : World} {a b : Option Addr} {n m : Nat} {xs ys : List Int} (hr : Rd w a n xs) (hs : Rd w b m ys) (c d : Nat) :
    (callFunc 71 #[.slice a n c, .slice b m d]).run Try.prog w = .ok (.value (.int .i64 (Lib.compareBytes (strOfNums xs).data.toList (strOfNums ys).data.toList))) w := by
  rw [run_callFunc_extern (e := Extern.BytealgCompare.compare) Try.func71 (by kernel_rfl) (by kernel_rfl) (by kernel_rfl) (by kernel_rfl)]
  have : (Extern.BytealgCompare.compare #[.slice a n c, .slice b m d]).run Try.prog w = .ok (.int .i64 (Lib.compareBytes (strOfNums xs).data.toList (strOfNums ys).data.toList)) w := by
    change Sem.run Try.prog (do pure (goInt (Extern.BytealgCompare.cmp (← Extern.Bytes.bytesOf (.slice a n c)) (← Extern.Bytes.bytesOf (.slice b m d))))) w = _
    simp only [Sem.run_bind, Sem.run_pure, run_bytesOf hr, run_bytesOf hs, Result.andThen]
    rw [Lib.cmp_eq]
    rfl
  rw [this]
  rfl

/-- What bytes.Compare tells. -/
def cmpK (xs ys : List Int) : Int := Lib.compareBytes (strOfNums xs).data.toList (strOfNums ys).data.toList
theorem cmpK_lt (xs ys : List Int) : cmpK xs ys < 0 ↔ ltK xs ys = true := by
  rw [cmpK, cmpB_lt, ltK, ByteArray.toList_eq, ByteArray.toList_eq]

set_option maxHeartbeats 1000000 in
theorem compareE (v u : Value) (xs ys : List Int) (w : World) (h : RV w v xs) (k : RV w u ys) :
    Calls Try.prog 50 #[v, u] w fun e w' => e = .returned (.int .i64 (cmpK xs ys)) ∧ w' = w := by
  obtain ⟨a, cap, rfl, hr, _, _⟩ := h
  obtain ⟨b, cap', rfl, hs, _, _⟩ := k
  have hrun := run_cmp hr hs cap cap'
  rw [← cmpK] at hrun
  generalize cmpK xs ys = r at *
  go_enter Try.func50, Try.ntmps50
  go_wp2
  go_ret
  exact ⟨rfl, rfl⟩

set_option maxHeartbeats 1000000 in
theorem compareV (v u : Value) (xs ys : List Int) (w : World) (h : RV w v xs) (k : RV w u ys) :
    Calls Try.prog 50 #[v, u] w fun e w' => ∃ r : Int, e = .returned (.int .i64 r) ∧ ((ltK xs ys = true ∧ r < 0) ∨ (ltK xs ys = false ∧ 0 ≤ r)) ∧ w' = w := by
  obtain ⟨a, cap, rfl, hr, _, _⟩ := h
  obtain ⟨b, cap', rfl, hs, _, _⟩ := k
  have hrun := run_cmp hr hs cap cap'
  have hlt : Lib.compareBytes (strOfNums xs).data.toList (strOfNums ys).data.toList < 0 ↔ ltK xs ys = true := by
    rw [cmpB_lt, ltK, ByteArray.toList_eq, ByteArray.toList_eq]
  generalize Lib.compareBytes (strOfNums xs).data.toList (strOfNums ys).data.toList = r at *
  have HL : Hid (r < 0 ↔ ltK xs ys = true) := hlt
  clear hlt
  go_enter Try.func50, Try.ntmps50
  go_wp2
  go_ret
  refine ⟨r, rfl, ?_, rfl⟩
  have := HL.out
  cases h : ltK xs ys
  · right
    refine ⟨rfl, ?_⟩
    rw [h] at this
    simp at this
    exact this
  · left
    exact ⟨rfl, this.2 h⟩

end Go.Proofs.Ytjkhadaoldbceaa
