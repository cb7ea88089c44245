/- The contract of the program's StateText. -/
import Derived.Test.YtheojmjnpemkbaaDoorSx8
import Derived.Deep.RegionHeld3
namespace Go.Proofs.YtheojmjnpemkbaaDoor
open Go.RowKit

theorem line_row (V w4 : World) (q kv vv : Value) (xs : List Int) (r : DRow) (tn hn : Nat) (et : r.turned = (tn : Int)) (eh : r.holder = (hn : Int)) (hr : RowN r) (rk : RV V kv r.key) (rv : RV V vv r.val) (ho : Ow w4 V.heap.size q xs) (b : Below V.heap.size V w4) (hl : xs.length ≤ 90000000) (hp : PowTab V.heap.size V) :
    Calls Tryd.prog 24 #[q, .string ⟨#[114, 111, 119]⟩, .slice (some ⟨w4.heap.size, 0, none⟩) 4 4] (w4.alloc (.cells #[.int .i64 0, .int .i64 0, kv, .int .i64 0, .int .i64 1, .int .i64 0, vv, .int .i64 0, .int .i64 2, .int .i64 0, .slice none 0 0, .int .i64 (tn : Int), .int .i64 2, .int .i64 0, .slice none 0 0, .int .i64 (hn : Int)] 54))
      fun e w' => ∃ v', e = .returned v' ∧ Ow w' V.heap.size v' (xs ++ lineRow r) ∧ Bk V.heap.size w4 w' := by
  have b' := b.alloc b.size (.cells #[.int .i64 0, .int .i64 0, kv, .int .i64 0, .int .i64 1, .int .i64 0, vv, .int .i64 0, .int .i64 2, .int .i64 0, .slice none 0 0, .int .i64 (tn : Int), .int .i64 2, .int .i64 0, .slice none 0 0, .int .i64 (hn : Int)] 54)
  obtain ⟨⟨k1, k2⟩, k3, k4⟩ := hr
  refine (putLineV V.heap.size q xs ⟨#[114, 111, 119]⟩ [114, 111, 119] _ [⟨0, 0, kv, r.key, 0⟩, ⟨1, 0, vv, r.val, 0⟩, ⟨2, 0, .slice none 0 0, [], tn⟩, ⟨2, 0, .slice none 0 0, [], hn⟩] _ (ho.ext (World.grownBy_alloc _ _ _)) b'.size (by omega) rfl (by simp) (toks9 w4 _ _ _ 4 rfl (by decide) ?_) (by simp) ?_ (hp.on b')).mono ?_
  · intro i k hi
    have hlt := (List.getElem?_eq_some_iff.1 hi).1
    simp only [List.length_cons, List.length_nil] at hlt
    have : i = 0 ∨ i = 1 ∨ i = 2 ∨ i = 3 := by omega
    rcases this with rfl | rfl | rfl | rfl
    all_goals
      simp only [List.getElem?_cons_zero, List.getElem?_cons_succ, Option.some.injEq] at hi
      subst hi
      exact ⟨rfl, rfl, rfl, rfl⟩
  · intro t ht
    simp only [List.mem_cons, List.not_mem_nil, or_false] at ht
    rcases ht with rfl | rfl | rfl | rfl
    · exact tok9_key rk b' k1
    · exact tok9_val rv b' k2
    · exact tok9_num _ _ _ (by omega)
    · exact tok9_num _ _ _ (by omega)
  · rintro e w' ⟨v', rfl, o, bb⟩
    refine ⟨v', rfl, ?_, ((Bk.refl _ w4).alloc b.size _).trans bb⟩
    have e1 : r.turned.toNat = tn := by omega
    have e2 : r.holder.toNat = hn := by omega
    simpa [lineRow, toksL, tokL, e1, e2] using o

theorem line_tomb (V w4 : World) (q kv : Value) (xs : List Int) (r : DTomb) (tn : Nat) (et : r.index = (tn : Int)) (hr : TombN r) (rk : RV V kv r.key) (ho : Ow w4 V.heap.size q xs) (b : Below V.heap.size V w4) (hl : xs.length ≤ 90000000) (hp : PowTab V.heap.size V) :
    Calls Tryd.prog 24 #[q, .string ⟨#[103, 111, 110, 101]⟩, .slice (some ⟨w4.heap.size, 0, none⟩) 2 2] (w4.alloc (.cells #[.int .i64 0, .int .i64 0, kv, .int .i64 0, .int .i64 2, .int .i64 0, .slice none 0 0, .int .i64 (tn : Int)] 54))
      fun e w' => ∃ v', e = .returned v' ∧ Ow w' V.heap.size v' (xs ++ lineTomb r) ∧ Bk V.heap.size w4 w' := by
  have b' := b.alloc b.size (.cells #[.int .i64 0, .int .i64 0, kv, .int .i64 0, .int .i64 2, .int .i64 0, .slice none 0 0, .int .i64 (tn : Int)] 54)
  obtain ⟨k1, k3⟩ := hr
  refine (putLineV V.heap.size q xs ⟨#[103, 111, 110, 101]⟩ [103, 111, 110, 101] _ [⟨0, 0, kv, r.key, 0⟩, ⟨2, 0, .slice none 0 0, [], tn⟩] _ (ho.ext (World.grownBy_alloc _ _ _)) b'.size (by omega) rfl (by simp) (toks9 w4 _ _ _ 2 rfl (by decide) ?_) (by simp) ?_ (hp.on b')).mono ?_
  · intro i k hi
    have hlt := (List.getElem?_eq_some_iff.1 hi).1
    simp only [List.length_cons, List.length_nil] at hlt
    have : i = 0 ∨ i = 1 := by omega
    rcases this with rfl | rfl
    all_goals
      simp only [List.getElem?_cons_zero, List.getElem?_cons_succ, Option.some.injEq] at hi
      subst hi
      exact ⟨rfl, rfl, rfl, rfl⟩
  · intro t ht
    simp only [List.mem_cons, List.not_mem_nil, or_false] at ht
    rcases ht with rfl | rfl
    · exact tok9_key rk b' k1
    · exact tok9_num _ _ _ (by omega)
  · rintro e w' ⟨v', rfl, o, bb⟩
    refine ⟨v', rfl, ?_, ((Bk.refl _ w4).alloc b.size _).trans bb⟩
    have e1 : r.index.toNat = tn := by omega
    simpa [lineTomb, toksL, tokL, e1] using o

theorem line_num (V w4 : World) (q : Value) (xs : List Int) (s : ByteArray) (nm : List Int) (hs : Lib.strCells s = B8 nm) (hnm : nm.length ≤ 14) (tn : Nat) (ht : tn ≤ 1000000) (ho : Ow w4 V.heap.size q xs) (b : Below V.heap.size V w4) (hl : xs.length ≤ 90000000) (hp : PowTab V.heap.size V) :
    Calls Tryd.prog 24 #[q, .string s, .slice (some ⟨w4.heap.size, 0, none⟩) 1 1] (w4.alloc (.cells #[.int .i64 2, .int .i64 0, .slice none 0 0, .int .i64 (tn : Int)] 54))
      fun e w' => ∃ v', e = .returned v' ∧ Ow w' V.heap.size v' (xs ++ (nm ++ 32 :: decL tn ++ [10])) ∧ Bk V.heap.size w4 w' := by
  have b' := b.alloc b.size (.cells #[.int .i64 2, .int .i64 0, .slice none 0 0, .int .i64 (tn : Int)] 54)
  refine (putLineV V.heap.size q xs s nm _ [⟨2, 0, .slice none 0 0, [], tn⟩] _ (ho.ext (World.grownBy_alloc _ _ _)) b'.size (by omega) hs (by omega) (toks9 w4 _ _ _ 1 rfl (by decide) ?_) (by simp) ?_ (hp.on b')).mono ?_
  · intro i k hi
    have hlt := (List.getElem?_eq_some_iff.1 hi).1
    simp only [List.length_cons, List.length_nil] at hlt
    obtain rfl : i = 0 := by omega
    simp only [List.getElem?_cons_zero, Option.some.injEq] at hi
    subst hi
    exact ⟨rfl, rfl, rfl, rfl⟩
  · intro t ht
    simp only [List.mem_cons, List.not_mem_nil, or_false] at ht
    subst ht
    exact tok9_num _ _ _ ht
  · rintro e w' ⟨v', rfl, o, bb⟩
    refine ⟨v', rfl, ?_, ((Bk.refl _ w4).alloc b.size _).trans bb⟩
    simpa [toksL, tokL] using o

end Go.Proofs.YtheojmjnpemkbaaDoor
