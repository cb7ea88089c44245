
/- The others that live: plain; the specification's l11has, l11others. -/
import Derived.Test.YtmodliaieienfaaMs6
import Derived.Test.YtmodliaieienfaaPr4a
import Derived.Test.YtmodliaieienfaaPr2
namespace Go.Proofs.Ytmodliaieienfaa
open Go.RowKit

/-- The first k of a list but for one number. -/
def exceptL (xs : List Int) (s : Int) : List Int := xs.filter fun x => x != s
theorem except_take {xs : List Int} {s x : Int} {k : Nat} (h : xs[k]? = some x) : exceptL (xs.take (k + 1)) s = exceptL (xs.take k) s ++ (if x = s then [] else [x]) := by
  unfold exceptL
  rw [List.take_add_one, h, List.filter_append]
  by_cases e : x = s <;> simp [e]
theorem except_len (xs : List Int) (s : Int) : (exceptL xs s).length ≤ xs.length := List.length_filter_le _ _

set_option maxHeartbeats 1000000 in
theorem sHasV (v : Value) (xs : List Int) (x : Int) (w : World) (h : VL fI w v xs) :
    Calls Try.prog 56 #[v, .int .i64 x] w fun e w' => e = .returned (.bool (xs.contains x)) ∧ w' = w := by
  obtain ⟨a, cap, rfl⟩ := vl_shape h
  obtain ⟨n, hnn⟩ : ∃ n, n = xs.length := ⟨_, rfl⟩
  have HV : Hid (VL fI w (.slice a n cap) xs) := by rw [hnn]; exact h
  have HN : Hid (n = xs.length) := hnn
  have hml : n ≤ 9223372036854775807 := by
    obtain ⟨a', cap', e, h1, h2, _⟩ := h
    unfold maxLen at h2
    omega
  obtain ⟨R, hR⟩ : ∃ R, R = xs.contains x := ⟨_, rfl⟩
  rw [← hR]
  rw [← hnn]
  have HR : Hid (R = xs.contains x) := hR
  clear h hnn hR
  go_enter Try.func56, Try.ntmps56
  go_wp2
  go_loopw [5] (fun i wr => ∃ k : Nat, k ≤ n ∧ i = .int .i64 k ∧ wr = w ∧ Hid (∀ (j : Nat) y, j < k → xs[j]? = some y → y ≠ x)) (fun i _ => n - (intOf i).toNat)
  case atStart => exact ⟨0, Nat.zero_le _, rfl, rfl, fun j y hj => absurd hj (by omega)⟩
  case round =>
    obtain ⟨k, hk, rfl, hwr, hall⟩ := hrel
    have hwr' := hwr.symm
    clear hwr
    subst hwr'
    by_cases hlt : k < n
    · obtain ⟨y, hy⟩ : ∃ y, xs[k]? = some y := ⟨_, List.getElem?_eq_getElem (by have := HN.out; omega)⟩
      obtain ⟨b, o, rfl, hc⟩ := HV.out.get hy
      have ck := hc k y hy
      have hlt' : (k : Int) < (n : Int) := by omega
      clear hc
      by_cases e : y = x
      · have HK : Hid (R = true) := by show _ = _; rw [HR.out, List.contains_iff_mem]; rw [← e]; exact List.mem_of_getElem? hy
        have e' : (y == x) = true := by simpa using e
        clear e
        go_wp2
        go_ret
        exact ⟨by rw [HK.out]; rfl, rfl⟩
      · have e' : (y == x) = false := by simpa using e
        have HA : Hid (∀ (j : Nat) z, j < k + 1 → xs[j]? = some z → z ≠ x) := fun j z hj hz => by
          by_cases ej : j = k
          · subst ej
            rw [hy] at hz
            cases hz
            exact e
          · exact hall.out j z (by omega) hz
        clear e
        go_wp2
        go_roundw
        case rel => exact ⟨k + 1, by omega, by go_num, by first | rfl | trivial, HA⟩
        case measure => simp [intOf]; omega
    · have HK : Hid (R = false) := by
        show _ = _
        rw [HR.out]
        cases hc : xs.contains x
        · rfl
        · exfalso
          rw [List.contains_iff_mem] at hc
          obtain ⟨i, hi⟩ := List.getElem?_of_mem hc
          exact hall.out i x (by have := (List.getElem?_eq_some_iff.1 hi).1; have := HN.out; omega) hi rfl
      have hlt' : ¬ ((k : Int) < (n : Int)) := by omega
      go_wp2
      go_ret
      exact ⟨by rw [HK.out]; rfl, rfl⟩

/-- The others that live. -/
def othersD (T : DTab) (h : Decidable (TabP T) := Classical.propDecidable (TabP T)) : List Int := exceptL (liveD T h) T.self
theorem live_len {T : DTab} (h : T.mems.length ≤ 1048576) : (liveD T).length ≤ 1048576 := by
  by_cases hp : TabP T
  · rw [liveD_yes hp]
    exact Nat.le_trans (liveL_len _) h
  · rw [liveD_no hp]; simp
theorem others_len {T : DTab} (h : T.mems.length ≤ 1048576) : (othersD T).length ≤ 1048576 := Nat.le_trans (except_len _ _) (live_len h)

set_option maxRecDepth 20000 in
set_option maxHeartbeats 2000000 in
theorem sOthersV (v : Value) (T : DTab) (w : World) (h : VTab w v T) (hn : T.mems.length ≤ 1048576) :
    Calls Try.prog 55 #[v] w fun e w' => ∃ lv, e = .returned lv ∧ OwI w' w.heap.size lv (othersD T) ∧ Below w.heap.size w w' := by
  have hE : ∀ w : World, ∀ o, Ext w (w.alloc o) := fun w o => World.grownBy_alloc _ _ _
  have hB : ∀ w : World, ∀ o, Below w.heap.size w (w.alloc o) := fun w o => (Below.refl _ w).alloc (Nat.le_refl _) _
  have HT : Hid (VTab w v T) := h
  have HN : Hid (T.mems.length ≤ 1048576) := hn
  obtain ⟨tv, rfl, h⟩ := h
  obtain ⟨a, cap, rfl⟩ := h.shape
  obtain ⟨n, hnn⟩ : ∃ n, n = T.mems.length := ⟨_, rfl⟩
  rw [← hnn] at HT ⊢
  obtain ⟨L, hL⟩ : ∃ L, L = liveD T := ⟨_, rfl⟩
  have HL : Hid (L = liveD T) := hL
  have HO : Hid (othersD T = exceptL L T.self) := by show _ = _; rw [hL]; rfl
  have HLL : Hid (L.length ≤ 1048576) := by show _ ≤ _; rw [hL]; exact live_len hn
  clear h hnn hn hL
  go_enter Try.func55, Try.ntmps55
  go_wp2_with fail
  generalize hW : w.alloc _ = W
  have XW : Ext w W := by rw [← hW]; exact hE _ _
  have P0 : W.heap[w.heap.size]? = some (.cells #[.int .i64 T.self, .slice a n cap] 28 (0, 0)) := by rw [← hW]; exact heap_alloc_new w _
  clear hW
  refine (sLiveV _ T W (HT.out.ext XW) HN.out).mono ?_
  rintro e w1 ⟨lv, rfl, o1, b1⟩
  rw [← HL.out] at o1
  obtain ⟨la, lc, hlv⟩ := o1.shape
  obtain ⟨m, hm⟩ : ∃ m, m = L.length := ⟨_, rfl⟩
  have HM : Hid (m = L.length) := hm
  rw [← hm] at hlv
  subst hlv
  have hmm : (m : Int) ≤ 1048576 := by have := HLL.out; omega
  have HLV : Hid (OwI w1 W.heap.size (.slice la m lc) L) := o1
  have X1 : Ext w w1 := XW.tr (ext_below b1)
  have HP1 : Hid (w1.heap[w.heap.size]? = some (.cells #[.int .i64 T.self, .slice a n cap] 28 (0, 0))) := ext_blk (ext_below b1) P0
  have HX1 : Hid (Ext w w1) := X1
  clear o1 b1 P0 XW X1 hm
  go_wp2
  go_loopw [3, 5] (fun ov i wr => ∃ k : Nat, k ≤ m ∧ i = .int .i64 k ∧ ∃ xs, Hid (xs = exceptL (L.take k) T.self) ∧ xs.length ≤ k ∧ Hid (OwI wr w1.heap.size ov xs) ∧ Hid (Below w1.heap.size w1 wr)) (fun _ i _ => m - (intOf i).toNat)
  case atStart => exact ⟨0, Nat.zero_le _, rfl, [], by show _ = _; simp [exceptL], Nat.le_refl _, World.ownsRow_nil _ _ _ _, Below.refl _ _⟩
  case round =>
    obtain ⟨k, hk, rfl, xs, hxs, hxl, ho, hb⟩ := hrel
    obtain ⟨oa, oc, rfl⟩ := ho.out.shape
    obtain ⟨lx, hlx⟩ : ∃ lx, lx = xs.length := ⟨_, rfl⟩
    have HLX : Hid (lx = xs.length) := hlx
    have HOX : Hid (OwI wr w1.heap.size (.slice oa lx oc) xs) := by rw [hlx]; exact ho.out
    rw [← hlx] at hxl ⊢
    clear hlx ho
    by_cases hlt : k < m
    · obtain ⟨y, hy⟩ : ∃ y, L[k]? = some y := ⟨_, List.getElem?_eq_getElem (by have := HM.out; omega)⟩
      obtain ⟨b, o, rfl, hc⟩ := (HLV.out.vl.ext (ext_below hb.out)).get hy
      have ck := hc k y hy
      obtain ⟨p0, p1⟩ := two_cells (ext_blk (ext_below hb.out) HP1.out)
      have hlt' : (k : Int) < (m : Int) := by omega
      have HNX := except_take (s := T.self) hy
      rw [← hxs.out] at HNX
      have HY : Hid (L[k]? = some y) := hy
      have HCC : Hid (∀ W', Ext wr W' → W'.cell? ⟨b, o + k, none⟩ = some (.int .i64 y)) := fun W' e => World.grownBy.cell e ck (by simp)
      clear hc hy
      by_cases e : y = T.self
      · have HX : Hid (xs = exceptL (L.take (k + 1)) T.self) := by show _ = _; rw [HNX, if_pos e, List.append_nil]
        have e' : (y != T.self) = false := by simpa using e
        clear HNX e
        go_wp2_with fail
        go_quiet (fail)
        go_wp2
        go_roundw
        case rel => exact ⟨k + 1, by omega, by go_num, xs, HX, by have := HLX.out; omega, HOX.out.ext (ext_drewN _ _), below_drewN hb.out _⟩
        case measure => simp [intOf]; omega
      · have HX : Hid (xs ++ [y] = exceptL (L.take (k + 1)) T.self) := by show _ = _; rw [HNX, if_neg e]
        have e' : (y != T.self) = true := by simpa using e
        clear HNX e
        go_wp2_with fail
        go_quiet (fail)
        generalize hq : World.drewN wr _ = wq
        have XQ : Ext wr wq := by rw [← hq]; exact ext_drewN _ _
        clear hq
        have cq := HCC.out wq XQ
        have HBQ : Hid (Below w1.heap.size w1 wq) := hb.out.trans ((ext_bel XQ).mono hb.out.size)
        have HOQ : Hid (OwI wq w1.heap.size (.slice oa lx oc) xs) := HOX.out.ext XQ
        clear ck p0 p1
        go_wp2_with (at_builtin; refine wpList_append_i1 _ rfl (.tmp 21) (.tmp 26) rfl w1.heap.size _ xs rfl (HOQ.out.ext (hE _ _)) _ y rfl (by simp) (by have := HLX.out; omega) (by have := HBQ.out.size; simp; omega) ?_; intro v2 w2 o2 g2)
        have HO2 : Hid (OwI w2 w1.heap.size v2 (xs ++ [y])) := o2
        have HB2 : Hid (Below w1.heap.size w1 w2) := (HBQ.out.trans ((hB _ _).mono HBQ.out.size)).grown g2 (by have := HBQ.out.size; simp; omega) (fun k hk => (HOX.out.lt k hk).1)
        clear o2 g2
        go_roundw
        case rel => exact ⟨k + 1, by omega, by go_num, xs ++ [y], HX, by simp; have := HLX.out; omega, HO2, HB2⟩
        case measure => simp [intOf]; omega
    · have hkm : m = k := by omega
      subst hkm
      have HF : Hid (xs = othersD T) := by show _ = _; rw [HO.out, hxs.out, List.take_of_length_le (by have := HM.out; omega)]
      go_wp2
      go_ret
      rw [← HF.out]
      exact ⟨_, rfl, OwI.base HOX.out HX1.out.size, (ext_bel HX1.out).trans (hb.out.mono HX1.out.size)⟩

end Go.Proofs.Ytmodliaieienfaa
