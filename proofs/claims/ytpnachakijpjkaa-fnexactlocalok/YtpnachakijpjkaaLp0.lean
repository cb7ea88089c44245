
/- The program's partOk, placeOf. -/
import Derived.Test.YtpnachakijpjkaaLo0
import Derived.Test.YtpnachakijpjkaaIKey
import Derived.Test.YtpnachakijpjkaaConc
import Derived.Test.YtpnachakijpjkaaCk0
import Derived.Lib.BytesEntry
import Derived.Lib.IndexLaws
namespace Go.Proofs.Ytpnachakijpjkaa
open Go.RowKit

theorem run_idx {w : World} {b o n c : Nat} {xs : List Int} (hx : xs.length = n) (hc : ∀ i, i < n → w.cell? ⟨b, o + i, none⟩ = some (.int .u8 (xs.getD i 0))) (cv : Int) :
    (callFunc 83 #[.slice (some ⟨b, o, none⟩) n c, .int .u8 cv]).run Try.prog w = .ok (.value (.int .i64 (Lib.indexByte (Lib.bytesOf xs) cv.toNat.toUInt8))) w := by
  rw [run_callFunc_extern (e := Extern.BytealgIndexByte.indexByte) Try.func83 (by kernel_rfl) (by kernel_rfl) (by kernel_rfl) (by kernel_rfl)]
  rw [Lib.run_indexByteSlice w b o n c xs hx hc cv]
  rfl

/-- Where it is not there, and where it is. -/
theorem idx47 {xs : List Int} (hr : ∀ x ∈ xs, 0 ≤ x ∧ x ≤ 255) : decide (Lib.indexByte (Lib.bytesOf xs) (47 : Int).toNat.toUInt8 < 0) = xs.all (fun c => !decide (c = 47)) := by
  rw [Bool.eq_iff_iff, decide_eq_true_eq, List.all_eq_true]
  have hge := Lib.indexByte_ge (Lib.bytesOf xs) (47 : Int).toNat.toUInt8
  constructor
  · intro h x hx
    have h1 := Lib.indexByte_none (l := Lib.bytesOf xs) (c := (47 : Int).toNat.toUInt8) (by omega)
    obtain ⟨j, hj, rfl⟩ := List.getElem_of_mem hx
    have h2 := h1 j
    simp only [Bool.not_eq_true', decide_eq_false_iff_not]
    intro e
    apply h2
    unfold Lib.bytesOf
    rw [List.getElem?_map, List.getElem?_eq_getElem hj, e]
    rfl
  · intro h
    by_cases hn : Lib.indexByte (Lib.bytesOf xs) (47 : Int).toNat.toUInt8 < 0
    · exact hn
    · exfalso
      obtain ⟨o, ho⟩ : ∃ o : Nat, Lib.indexByte (Lib.bytesOf xs) (47 : Int).toNat.toUInt8 = o := ⟨_, (Int.toNat_of_nonneg (by omega)).symm⟩
      have h1 := (Lib.indexByte_some ho).1
      unfold Lib.bytesOf at h1
      rw [List.getElem?_map] at h1
      obtain ⟨x, hx, hxe⟩ := Option.map_eq_some_iff.1 h1
      have hm := List.mem_of_getElem? hx
      have h2 := h x hm
      have h3 := hr x hm
      simp only [Bool.not_eq_true', decide_eq_false_iff_not] at h2
      apply h2
      have h4 := congrArg UInt8.toNat hxe
      simp at h4
      omega

set_option maxHeartbeats 1000000 in
theorem iPartV (v : Value) (xs : List Int) (w : World) (h : RV w v xs) : Calls Try.prog 37 #[v] w fun e w' => e = .returned (.bool (partB xs)) ∧ w' = w := by
  have HK : Hid (Calls Try.prog 60 #[v] w fun e w' => e = .returned (.bool (keyB xs)) ∧ w' = w) := keyOkV v xs w h
  have HD : Hid (partB xs = (xs.all (fun c => !decide (c = 47)) && keyB xs)) := rfl
  have hrg := rv_rngK h
  obtain ⟨a, cap, rfl, hr, h1, h2⟩ := h
  cases hk : keyB xs
  · have HE : Hid (partB xs = false) := by show _ = _; rw [HD.out, hk, Bool.and_false]
    go_enter Try.func37, Try.ntmps37
    go_wp2_with (go_at_call 60; refine HK.out.mono ?_; rintro e w1 ⟨rfl, rfl⟩; rw [hk])
    go_ret
    exact ⟨by rw [HE.out]; rfl, rfl⟩
  · have hl : 0 < xs.length := by
      rcases Nat.eq_zero_or_pos xs.length with e | e
      · exfalso
        have : xs = [] := List.length_eq_zero_iff.1 e
        rw [this] at hk
        exact absurd hk (by decide)
      · exact e
    have HE : Hid (partB xs = decide (Lib.indexByte (Lib.bytesOf xs) (47 : Int).toNat.toUInt8 < 0)) := by show _ = _; rw [HD.out, hk, Bool.and_true, idx47 hrg]
    obtain ⟨b, o, rfl, _, hc⟩ := hr.pos hl
    have hrun := run_idx (c := cap) rfl hc 47
    obtain ⟨r, hre⟩ : ∃ r, r = Lib.indexByte (Lib.bytesOf xs) (47 : Int).toNat.toUInt8 := ⟨_, rfl⟩
    rw [← hre] at hrun HE
    have HIX : Hid (Calls Try.prog 61 #[.slice (some ⟨b, o, none⟩) xs.length cap, .int .u8 47] w fun e w' => e = .returned (.int .i64 r) ∧ w' = w) := by
      show Calls _ _ _ _ _
      clear HD HE HK hre hc hk
      go_enter Try.func61, Try.ntmps61
      go_wp2
      go_ret
      exact ⟨rfl, rfl⟩
    clear hrun hre hc HD hr
    go_enter Try.func37, Try.ntmps37
    go_wp2_with (first | (go_at_call 60; refine HK.out.mono ?_; rintro e w1 ⟨rfl, rfl⟩; rw [hk]) | (go_at_call 61; refine HIX.out.mono ?_; rintro e w1 ⟨rfl, rfl⟩))
    go_ret
    exact ⟨by rw [HE.out]; rfl, rfl⟩

theorem rd_blk {W : World} {g : Nat} {xs : List Int} (p : W.heap[g]? = some (.cells (xs.map (Value.int .u8)).toArray 5 (0, 0))) (hr : ∀ x ∈ xs, 0 ≤ x ∧ x ≤ 255) : Rd W (some ⟨g, 0, none⟩) xs.length xs :=
  ⟨rfl, fun i hi => ⟨g, 0, rfl, by
    refine (at_block p (0 + i) _ ?_).1
    rw [List.getElem?_toArray, Nat.zero_add, List.getElem?_map, List.getElem?_eq_getElem hi, List.getD_eq_getElem?_getD, List.getElem?_eq_getElem hi]
    rfl⟩, hr⟩

set_option maxRecDepth 20000 in
set_option maxHeartbeats 2000000 in
theorem iPlaceV (nv mv : Value) (node name : List Int) (w : World) (h1 : RV w nv node) (h2 : RV w mv name) (l1 : node.length ≤ 1048576) (l2 : name.length ≤ 1048576) :
    Calls Try.prog 62 #[nv, mv] w fun e w' => ∃ v, e = .returned v ∧ Ow w' w.heap.size v (placeL node name) ∧ Below w.heap.size w w' := by
  have hE : ∀ w : World, ∀ o, Ext w (w.alloc o) := fun w o => World.grownBy_alloc _ _ _
  obtain ⟨na, nc, rfl, r1, _, _⟩ := h1
  obtain ⟨ma, mc, rfl, r2, _, _⟩ := h2
  have HC : Hid (∀ W : World, Ext w W → Rd W (some ⟨w.heap.size, 0, none⟩) 4 [115, 118, 99, 47] → W.heap[w.heap.size + 1]? = some (.cells #[.int .u8 47] 5 (0, 0)) →
      W.heap[w.heap.size + 1 + 1]? = some (.cells #[.slice (some ⟨w.heap.size, 0, none⟩) 4 4, .slice na node.length nc, .slice (some ⟨w.heap.size + 1, 0, none⟩) 1 1, .slice ma name.length mc] 22 (0, 0)) →
      Calls Try.prog 84 #[.slice (some ⟨w.heap.size + 1 + 1, 0, none⟩) 4 4] W fun e w' => ∃ v, e = .returned v ∧ Ow w' w.heap.size v (placeL node name) ∧ Below W.heap.size W w') := fun W X p0 p1 p2 => by
    have c0 := conc (w.heap.size + 1 + 1) 4 4 (fun j => if j = 0 then some ⟨w.heap.size, 0, none⟩ else if j = 1 then na else if j = 2 then some ⟨w.heap.size + 1, 0, none⟩ else ma) (fun j => if j = 0 then 4 else if j = 1 then node.length else if j = 2 then 1 else name.length)
      (fun j => if j = 0 then 4 else if j = 1 then nc else if j = 2 then 1 else mc) (fun j => if j = 0 then [115, 118, 99, 47] else if j = 1 then node else if j = 2 then [47] else name) W (by omega) (fun j hj => by
        obtain rfl | rfl | rfl | rfl : j = 0 ∨ j = 1 ∨ j = 2 ∨ j = 3 := by omega
        · exact (at_block p2 0 _ rfl).1
        · exact (at_block p2 1 _ rfl).1
        · exact (at_block p2 2 _ rfl).1
        · exact (at_block p2 3 _ rfl).1) (fun j hj => by
        obtain rfl | rfl | rfl | rfl : j = 0 ∨ j = 1 ∨ j = 2 ∨ j = 3 := by omega
        · exact p0
        · exact r1.grown X
        · exact rd_blk (xs := [47]) p1 (by decide)
        · exact r2.grown X) (by simp [cat]; omega)
    refine c0.mono fun e w' ⟨v, h1, h2, h3⟩ => ⟨v, h1, ?_, h3⟩
    have h4 := ow_base h2 (Nat.le_trans (by omega) X.size : w.heap.size ≤ W.heap.size)
    have h5 : cat (fun j => if j = 0 then [115, 118, 99, 47] else if j = 1 then node else if j = 2 then [47] else name) 4 = placeL node name := by simp [cat, placeL]
    rw [h5] at h4
    exact h4
  have kc := fun (w : World) (C : Array Value) (n c : Nat) => Lib.run_convert_bytes_const (P := Try.prog) w 22 5 C n c Try.underlying22 Try.underlying5
  have kcw := kc w #[.int .u8 115, .int .u8 118, .int .u8 99, .int .u8 47] 4 4
  clear kc
  have HR4 : Hid (Rd (w.alloc (.cells #[.int .u8 115, .int .u8 118, .int .u8 99, .int .u8 47] 5 (4, 4 + 1))) (some ⟨w.heap.size, 0, none⟩) 4 [115, 118, 99, 47]) := by
    obtain ⟨a1, c1, e1, r1, _, _⟩ := (m_const4 w).rv (by decide)
    cases e1
    exact r1
  clear r1 r2
  go_enter Try.func62, Try.ntmps62
  go_wp2_with fail
  refine (HC.out _ (((hE _ _).tr (hE _ _)).tr (hE _ _)) (HR4.out.grown ((hE _ _).tr (hE _ _))) (h3_1 _ _ _ _) (h3_2 _ _ _ _)).mono ?_
  rintro e w1 ⟨v, rfl, o1, b1⟩
  have HO := hidL o1
  have HB : Hid (Below w.heap.size w w1) := (((((Below.refl _ w).alloc (Nat.le_refl _) _).alloc (by simp) _).alloc (by simp; omega) _)).trans (b1.mono (by simp; omega))
  clear o1 b1
  go_wp2
  go_ret
  exact ⟨_, rfl, HO.out, HB.out⟩

end Go.Proofs.Ytpnachakijpjkaa
