/- Bytes that are put behind one another: the program's PutNum, PutText, putNums told of values. -/
import Derived.Test.YtknemgmfbmmngaaPb
import Derived.Test.YtknemgmfbmmngaaIPut
import Derived.Test.YtknemgmfbmmngaaIPutT
namespace Go.Proofs.Ytknemgmfbmmngaa
open Go.RowKit

theorem iPutV (v : Value) (xs : List Int) (q : Int) (w : World) (h : RV w v xs) (hn : xs.length ≤ 2097152) : Calls Try.prog 61 #[v, .int .i64 q] w (PutPost w (xs ++ numL q)) := by
  have hr := putL_rng h.rng q
  obtain ⟨a, cap, rfl, hd, _, _⟩ := h
  exact (iPut a xs.length cap xs q w hd hn).mono fun e w' ⟨v', h1, h2, h3⟩ => ⟨v', h1, h2.rv hr, h2, h3⟩
theorem iPutTV (v u : Value) (xs ys : List Int) (w : World) (h : RV w v xs) (k : RV w u ys) (hn : xs.length ≤ 2097152) (hm : ys.length ≤ 2097152) : Calls Try.prog 62 #[v, u] w (PutPost w (textL xs ys)) := by
  have hr := textL_rng h.rng k.rng
  obtain ⟨a, cap, rfl, hd, _, _⟩ := h
  obtain ⟨b, cap', rfl, hd', _, _⟩ := k
  exact (iPutT a b xs.length cap ys.length cap' xs ys w hd hd' hn hm).mono fun e w' ⟨v', h1, h2, h3⟩ => ⟨v', h1, h2.rv hr, h2, h3⟩

/-- Numbers one behind the other, behind xs. -/
def numsL (xs : List Int) (qs : List Int) : List Int := qs.foldl (fun a q => a ++ numL q) xs
theorem nums_next (xs : List Int) (qs : List Int) (k : Nat) (d : Int) (h : qs[k]? = some d) : numsL xs (qs.take (k + 1)) = numsL xs (qs.take k) ++ numL d := by
  obtain ⟨hk, he⟩ := List.getElem?_eq_some_iff.1 h
  unfold numsL
  rw [List.take_succ_eq_append_getElem hk, List.foldl_append, he]
  rfl

set_option maxRecDepth 20000 in
set_option maxHeartbeats 4000000 in
theorem iPutN (v : Value) (xs : List Int) (g n : Nat) (qs : List Int) (w : World) (h : RV w v xs) (hn : xs.length ≤ 1000000) (hq : n = qs.length) (h1 : 0 < n) (h9 : n ≤ 9) (hg : ∀ j q, qs[j]? = some q → w.cell? ⟨g, j, none⟩ = some (.int .i64 q)) :
    Calls Try.prog 24 #[v, .slice (some ⟨g, 0, none⟩) n n] w (PutPost w (numsL xs qs)) := by
  have hgl : g < w.heap.size := by
    obtain ⟨q, hq0⟩ : ∃ q, qs[0]? = some q := ⟨_, List.getElem?_eq_getElem (by omega)⟩
    exact World.block_lt_of_cell? w _ (hg 0 q hq0)
  have HG : Hid (∀ j q, qs[j]? = some q → w.cell? ⟨g, j, none⟩ = some (.int .i64 q)) := hg
  have HN : Hid (n = qs.length) := hq
  clear hg hq
  go_enter Try.func24, Try.ntmps24
  go_wp2
  go_loopw [0, 9] (fun bv i wr => ∃ k : Nat, k ≤ n ∧ i = .int .i64 k ∧ ∃ zs, Hid (zs = numsL xs (qs.take k)) ∧ zs.length ≤ 1000000 + 5 * k ∧ RV wr bv zs ∧ (0 < k → Ow wr w.heap.size bv zs) ∧ Below w.heap.size w wr) (fun _ i _ => n - (intOf i).toNat)
  case atStart => exact ⟨0, Nat.zero_le _, rfl, xs, by show _ = _; simp [numsL], by omega, h, fun h => absurd h (by omega), Below.refl _ _⟩
  case round =>
    obtain ⟨k, hk, rfl, zs, hzs, hzl, rz, oz, bz⟩ := hrel
    by_cases hlt : k < n
    · obtain ⟨s, hs⟩ : ∃ s, qs[k]? = some s := ⟨_, List.getElem?_eq_getElem (by have := HN.out; omega)⟩
      have d0 := World.grownBy.cell (ext_below bz) (HG.out k s hs) (by simp)
      have hlt' : (k : Int) < (n : Int) := by omega
      have HNX : Hid (numsL xs (qs.take (k + 1)) = zs ++ numL s) := by show _ = _; rw [nums_next xs qs k s hs, ← hzs.out]
      have hle := putL_le zs s
      obtain ⟨z', hz'⟩ : ∃ z', z' = zs ++ numL s := ⟨_, rfl⟩
      rw [← hz'] at hle
      have HZ' : Hid (zs ++ numL s = z') := hz'.symm
      clear hz'
      go_wp2_with fail
      refine (iPutV _ zs s wr rz (by omega)).mono ?_
      rw [HZ'.out]
      rintro e w2 ⟨v2, rfl, r2, o2, b2⟩
      go_wp2
      go_roundw
      case rel => exact ⟨k + 1, by omega, by go_num, z', by show _ = _; rw [HNX.out, HZ'.out], by omega, r2, fun _ => ow_base o2 bz.size, bz.trans (b2.mono bz.size)⟩
      case measure => simp [intOf]; omega
    · have hkn : k = n := by omega
      subst hkn
      have HR : Hid (numsL xs qs = zs) := by
        show _ = _
        rw [hzs.out, List.take_of_length_le (by have := HN.out; omega)]
      go_wp2
      go_ret
      refine ⟨_, rfl, ?_, ?_, bz⟩
      · rw [HR.out]; exact rz
      · rw [HR.out]; exact oz h1

theorem yesNumV (b : Bool) (w : World) : Calls Try.prog 63 #[.bool b] w fun e w' => e = .returned (.int .i64 (yesI b)) ∧ w' = w := by
  cases b
  · go_enter Try.func63, Try.ntmps63
    go_wp2
    go_ret
    exact ⟨rfl, rfl⟩
  · go_enter Try.func63, Try.ntmps63
    go_wp2
    go_ret
    exact ⟨rfl, rfl⟩

theorem nums_cells {W : World} {g : Nat} {qs : List Int} (h : W.heap[g]? = some (.cells (qs.map fun q => Value.int .i64 q).toArray 3 (0, 0))) : ∀ (j : Nat) q, qs[j]? = some q → W.cell? ⟨g, j, none⟩ = some (.int .i64 q) := by
  intro j q hq
  rw [cell_of_row W g j _ 3 (0, 0) h]
  simp [hq]
theorem new_at {w : World} {g : Nat} (o : Obj) (hg : g = w.heap.size) : (w.alloc o).heap[g]? = some o := by subst hg; exact heap_alloc_new w o

end Go.Proofs.Ytknemgmfbmmngaa
