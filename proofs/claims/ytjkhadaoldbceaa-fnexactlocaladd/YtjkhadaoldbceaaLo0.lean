
/- Parts of keys, and where a service stands: the specification's l14part, l14key. -/
import Derived.Test.YtjkhadaoldbceaaOp2
import Derived.Test.YtjkhadaoldbceaaOm
import Derived.Lib.SlBytesConst
namespace Go.Proofs.Ytjkhadaoldbceaa
open Go.RowKit

/-- It is a key without '/'. -/
def partB (xs : List Int) : Bool := xs.all (fun c => !decide (c = 47)) && keyB xs
theorem all47 {xs : List Int} (h : ∀ j, j < xs.length → xs.getD j 0 ≠ 47) : xs.all (fun c => !decide (c = 47)) = true := by
  rw [List.all_eq_true]
  intro x hx
  obtain ⟨j, hj, rfl⟩ := List.getElem_of_mem hx
  have := h j hj
  simpa [List.getD, hj] using this
theorem not_all47 {xs : List Int} {j : Nat} (hj : j < xs.length) (h : xs.getD j 0 = 47) : xs.all (fun c => !decide (c = 47)) = false := by
  rw [List.all_eq_false]
  refine ⟨xs[j], List.getElem_mem hj, ?_⟩
  have : xs[j] = 47 := by simpa [List.getD, hj] using h
  simp [this]

set_option maxHeartbeats 1000000 in
theorem sPartV (v : Value) (xs : List Int) (w : World) (h : RV w v xs) : Calls Try.prog 43 #[v] w fun e w' => e = .returned (.bool (partB xs)) ∧ w' = w := by
  have HV : Hid (RV w v xs) := h
  obtain ⟨a, cap, rfl, hr, h1, h2⟩ := h
  unfold maxLen at h2
  obtain ⟨n, hn⟩ : ∃ n, n = xs.length := ⟨_, rfl⟩
  have HN : Hid (n = xs.length) := hn
  rw [← hn] at hr h1 HV ⊢
  clear hn
  have HC : Hid (0 < n → ∃ b o, a = some ⟨b, o, none⟩ ∧ ∀ i, i < n → w.cell? ⟨b, o + i, none⟩ = some (.int .u8 (xs.getD i 0))) := fun hp => by
    obtain ⟨b, o, e, _, hc⟩ := hr.pos hp
    exact ⟨b, o, e, hc⟩
  clear hr
  have hml : n ≤ 9223372036854775807 := by omega
  go_enter Try.func43, Try.ntmps43
  go_wp2
  go_loop [3] (fun i => ∃ k : Nat, k ≤ n ∧ i = .int .i64 k ∧ Hid (∀ j, j < k → xs.getD j 0 ≠ 47)) (fun i => n - (intOf i).toNat)
  case atStart => exact ⟨0, Nat.zero_le _, rfl, fun j hj => absurd hj (by omega)⟩
  case round =>
    obtain ⟨k, hk, rfl, hall⟩ := hrel
    by_cases hlt : k < n
    · obtain ⟨b, o, rfl, hc⟩ := HC.out (by omega)
      have hck := hc k hlt
      have HNX : Hid (xs.getD k 0 ≠ 47 → ∀ j, j < k + 1 → xs.getD j 0 ≠ 47) := fun h j hj => by
        by_cases e : j = k
        · subst e; exact h
        · exact hall.out j (by omega)
      have HF : Hid (xs.getD k 0 = 47 → partB xs = false) := fun h => by
        unfold partB
        rw [not_all47 (by have := HN.out; omega) h]
        rfl
      generalize xs.getD k 0 = c at hck HNX HF
      clear hc hall
      have hlt' : (k : Int) < (n : Int) := by omega
      by_cases hz : c = 47
      · subst hz
        have HK : Hid (partB xs = false) := HF.out rfl
        clear HF HNX
        go_wp2
        go_ret
        exact ⟨by rw [HK.out]; rfl, rfl⟩
      · have hz' : (c == 47) = false := by simpa using hz
        have HK := (show Hid (∀ j, j < k + 1 → xs.getD j 0 ≠ 47) from HNX.out hz)
        clear HF HNX
        go_wp2
        go_round
        case rel => exact ⟨k + 1, by omega, by go_num, HK⟩
        case measure => simp [intOf]; omega
    · have hkn : k = n := by omega
      subst hkn
      have HK : Hid (partB xs = keyB xs) := by
        show _ = _
        unfold partB
        rw [all47 (fun j hj => hall.out j (by have := HN.out; omega))]
        rfl
      clear HC
      go_wp2_with fail
      refine (l2keyV _ xs w HV.out).mono ?_
      rintro e w1 ⟨rfl, rfl⟩
      go_wp2
      go_ret
      exact ⟨by rw [HK.out]; rfl, rfl⟩

/-- Where a service of a node stands. -/
def placeL (node name : List Int) : List Int := [115, 118, 99, 47] ++ node ++ [47] ++ name
theorem placeL_len (node name : List Int) : (placeL node name).length = 5 + node.length + name.length := by
  unfold placeL
  simp only [List.length_append, List.length_cons, List.length_nil]
  omega
theorem placeL_rng {node name : List Int} (h : ∀ x ∈ node, 0 ≤ x ∧ x ≤ 255) (k : ∀ x ∈ name, 0 ≤ x ∧ x ≤ 255) : ∀ x ∈ placeL node name, 0 ≤ x ∧ x ≤ 255 := by
  unfold placeL
  intro x hx
  simp only [List.mem_append, List.mem_cons, List.not_mem_nil, or_false] at hx
  rcases hx with ((hx | hx) | hx) | hx
  · rcases hx with rfl | rfl | rfl | rfl <;> omega
  · exact h x hx
  · subst hx; omega
  · exact k x hx

theorem m_const4 (w : World) : OwM (w.alloc (.cells #[.int .u8 115, .int .u8 118, .int .u8 99, .int .u8 47] 5 (4, 4 + 1))) w.heap.size (.slice (some ⟨w.heap.size, 0, none⟩) 4 4) [115, 118, 99, 47] := .inr ⟨w.heap.size, 4, #[.int .u8 115, .int .u8 118, .int .u8 99, .int .u8 47], (4, 4 + 1), rfl, Nat.le_refl _, heap_alloc_new _ _, .inr (Nat.le_refl _), by decide, by decide, rfl, rfl⟩
theorem hidL {p : Prop} (h : p) : Hid p := h

set_option maxHeartbeats 2000000 in
theorem sPlaceV (nv mv : Value) (node name : List Int) (w : World) (h1 : RV w nv node) (h2 : RV w mv name) (l1 : node.length ≤ 1048576) (l2 : name.length ≤ 1048576) :
    Calls Try.prog 45 #[nv, mv] w fun e w' => ∃ v, e = .returned v ∧ OwM w' w.heap.size v (placeL node name) ∧ Below w.heap.size w w' := by
  have hE : ∀ w : World, ∀ o, Ext w (w.alloc o) := fun w o => World.grownBy_alloc _ _ _
  obtain ⟨na, nc, rfl, r1, _, _⟩ := h1
  obtain ⟨ma, mc, rfl, r2, _, _⟩ := h2
  have kc := fun (w : World) (C : Array Value) (n c : Nat) => Lib.run_convert_bytes_const (P := Try.prog) w 22 5 C n c Try.underlying22 Try.underlying5
  obtain ⟨n, hn⟩ : ∃ n, n = node.length := ⟨_, rfl⟩
  obtain ⟨m, hm⟩ : ∃ m, m = name.length := ⟨_, rfl⟩
  have HN := hidL hn
  have HM := hidL hm
  rw [← hn] at r1 l1 ⊢
  rw [← hm] at r2 l2 ⊢
  have R1 := hidL r1
  have R2 := hidL r2
  clear r1 r2 hn hm
  have kcw := kc w #[.int .u8 115, .int .u8 118, .int .u8 99, .int .u8 47] 4 4
  clear kc
  have HV : Hid (∀ V, V = w.alloc (.cells #[.int .u8 115, .int .u8 118, .int .u8 99, .int .u8 47] 5 (4, 4 + 1)) → OwM V w.heap.size (.slice (some ⟨w.heap.size, 0, none⟩) 4 4) [115, 118, 99, 47] ∧ Below w.heap.size w V ∧ Ext w V) := fun V hV => by
    subst hV
    exact ⟨m_const4 w, (Below.refl _ w).alloc (Nat.le_refl _) _, hE _ _⟩
  go_enter Try.func45, Try.ntmps45
  go_wp2_with (at_builtin; refine wpList_append_m _ rfl _ _ 22 rfl w.heap.size info5 Try.underlying22 (.slice (some ⟨w.heap.size, 0, none⟩) 4 4) [115, 118, 99, 47] rfl (HV.out _ rfl).1 na n nc node rfl (R1.out.grown (HV.out _ rfl).2.2) (by simp only [List.length_cons, List.length_nil]; omega) (HV.out _ rfl).2.1.size ?_; intro v2 w2 o2 g2 _; refine Hid.out ?_)
  refine hidL ?_
  have B2 : Below w.heap.size w w2 := m_below (HV.out _ rfl).2.1 (Nat.le_refl _) (HV.out _ rfl).1 (HV.out _ rfl).2.1.size g2
  clear HV g2 kcw R1
  go_wp2_with (at_builtin; refine wpList_append_m _ rfl _ _ 22 rfl w.heap.size info5 Try.underlying22 v2 ([115, 118, 99, 47] ++ node) rfl (o2.ext (hE _ _)) _ 1 1 [47] rfl (rd_one w2 47 (by omega) (by omega)) (by have := HN.out; simp only [List.length_append, List.length_cons, List.length_nil]; omega) (by have := B2.size; simp; omega) ?_; intro v3 w3 o3 g3 _; refine Hid.out ?_)
  refine hidL ?_
  have B3 : Below w.heap.size w w3 := m_below (B2.alloc B2.size _) (Nat.le_refl _) (o2.ext (hE _ _)) (by have := B2.size; simp; omega) g3
  clear g3 o2 B2
  go_wp2_with (at_builtin; refine wpList_append_m _ rfl _ _ 22 rfl w.heap.size info5 Try.underlying22 v3 ([115, 118, 99, 47] ++ node ++ [47]) rfl o3 ma m mc name rfl (R2.out.grown (ext_below B3)) (by have := HN.out; simp only [List.length_append, List.length_cons, List.length_nil]; omega) B3.size ?_; intro v4 w4 o4 g4 _; refine Hid.out ?_)
  refine hidL ?_
  have B4 : Below w.heap.size w w4 := m_below B3 (Nat.le_refl _) o3 B3.size g4
  have O4 := hidL (show OwM w4 w.heap.size v4 (placeL node name) from o4)
  clear g4 o3 B3 o4
  go_wp2
  go_ret
  exact ⟨_, rfl, O4.out, B4⟩

end Go.Proofs.Ytjkhadaoldbceaa
