
/- Bytes as a string: the conversion read off memory, and that two strings are alike just if the bytes are. -/
import Derived.Test.YtnklnhnjmikooaaGreatInf
import Derived.Test.YtnklnhnjmikooaaGreatVal0
import Derived.Laws.BytesArg
import Derived.WalkLawsBesides
namespace Go.Proofs.YtnklnhnjmikooaaGreat
open Go.RowKit

theorem convR {w : World} {a : Option Addr} {n : Nat} {xs : List Int} (h : Rd w a n xs) (cap : Nat) : (convert 93 9 (.slice a n cap)).run Tryz.prog w = .ok (.string (strOfNums xs)) w := by
  cases a with
  | none =>
    have h0 : n = 0 := by
      rcases Nat.eq_zero_or_pos n with h' | h'
      · exact h'
      · obtain ⟨b, o, e, _⟩ := h.pos h'
        cases e
    subst h0
    obtain rfl : xs = [] := List.eq_nil_of_length_eq_zero h.len
    rw [run_convert_bytes_nil w 93 5 Tryz.underlying93 Tryz.underlying5 0 cap 9 Tryz.underlying9]
    rfl
  | some ad =>
    have hl : (loadCells ad n).run Tryz.prog w = .ok (xs.map (Value.int .u8)).toArray w := by
      have := run_loadCells_list (P := Tryz.prog) w ad (xs.map (Value.int .u8)) (fun j v hj => by
        have hjl : j < xs.length := by
          have := (List.getElem?_eq_some_iff.1 hj).1
          simpa using this
        obtain ⟨b, o', e, hbl, hc⟩ := h.pos (by have := h.len; omega)
        simp only [Option.some.injEq] at e
        subst e
        rw [Addr.add_lit, hc j (by have := h.len; omega)]
        simpa [List.getD, hjl] using hj)
      simpa [h.len] using this
    rw [run_convert_bytes_string w 93 9 5 _ n cap Tryz.underlying93 Tryz.underlying5 Tryz.underlying9, run_bytesToString w _ n cap xs hl, foldl_push_bytes]
    simp [strOfNums, ByteArray.empty, ByteArray.emptyWithCapacity]
    rfl

theorem take_len_le (xs : List Int) (m n : Nat) (hl : xs.length = n) (h : m ≤ n) : (xs.take m).length = m := by simp; omega

theorem rd_head {w : World} {a : Option Addr} {n : Nat} {xs : List Int} (hr : Rd w a n xs) (m : Nat) (h : m ≤ n) : Rd w a m (xs.take m) :=
  ⟨take_len_le xs m n hr.len h, fun i hi => by
    obtain ⟨b, o, e, hc⟩ := hr.cell i (by omega)
    exact ⟨b, o, e, by rw [hc]; simp [List.getD, hi]⟩, fun x hx => hr.rng x (List.mem_of_mem_take hx)⟩

theorem nums_inj : ∀ (xs ys : List Int), (∀ x ∈ xs, 0 ≤ x ∧ x ≤ 255) → (∀ x ∈ ys, 0 ≤ x ∧ x ≤ 255) → (xs.map fun n => UInt8.ofNat n.toNat) = (ys.map fun n => UInt8.ofNat n.toNat) → xs = ys
  | [], [], _, _, _ => rfl
  | [], _ :: _, _, _, h => by simp at h
  | _ :: _, [], _, _, h => by simp at h
  | x :: xs, y :: ys, hx, hy, h => by
    simp only [List.map_cons, List.cons.injEq] at h
    have h1 := hx x (List.mem_cons_self ..)
    have h2 := hy y (List.mem_cons_self ..)
    have e : x.toNat = y.toNat := by
      have := congrArg UInt8.toNat h.1
      simp only [UInt8.toNat_ofNat'] at this
      omega
    have : x = y := by omega
    rw [this, nums_inj xs ys (fun z hz => hx z (List.mem_cons_of_mem _ hz)) (fun z hz => hy z (List.mem_cons_of_mem _ hz)) h.2]

theorem str_eq (xs ys : List Int) (hx : ∀ x ∈ xs, 0 ≤ x ∧ x ≤ 255) (hy : ∀ x ∈ ys, 0 ≤ x ∧ x ≤ 255) : ((strOfNums xs).toList == (strOfNums ys).toList) = decide (xs = ys) := by
  rw [Bool.eq_iff_iff]
  simp only [beq_iff_eq, decide_eq_true_eq]
  rw [ByteArray.toList_eq, ByteArray.toList_eq, strOfNums_data, strOfNums_data]
  exact ⟨nums_inj xs ys hx hy, fun h => by rw [h]⟩

end Go.Proofs.YtnklnhnjmikooaaGreat
