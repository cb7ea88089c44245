/- The specification's TreeKeys; how much its keys are; lists of texts in the words of marks. -/
import Derived.Test.YtdeogmkcomdbjaaTr0
import Derived.Test.YtdeogmkcomdbjaaTl1
import Derived.Test.YtdeogmkcomdbjaaSsT
namespace Go.Proofs.Ytdeogmkcomdbjaa
open Go.RowKit

theorem cnt_le : ∀ (d : Nat) (t : DTree d), cntKD d t ≤ cntTD d t
  | 0, _ => Nat.zero_le _
  | d + 1, (e, h, x, n, kid) => by
    have h1 : ∀ m, sumN m (fun i => cntKD d (kid i)) ≤ sumN m (fun i => cntTD d (kid i)) := fun m => by
      induction m with
      | zero => exact Nat.le_refl _
      | succ m ih => have := cnt_le d (kid m); simp only [sumN]; omega
    have := h1 n
    simp only [cntKD, cntTD]
    cases h <;> simp <;> omega
theorem key_long : ∀ (d : Nat) (t : DTree d) (ah x : List Int), x ∈ keysTD d t ah → x.length ≤ ah.length + (lngKD d t + (edTD d t).length)
  | 0, _, _, _, h => by cases h
  | d + 1, (e, h, x0, n, kid), ah, x, hx => by
    show x.length ≤ ah.length + (lngK (DTree.node e h x0 n kid) + e.length)
    simp only [keysTD] at hx
    rcases List.mem_append.1 hx with hx | hx
    · cases h
      · simp at hx
      · simp only [if_true, List.mem_singleton] at hx
        rw [hx, List.length_append]
        omega
    · obtain ⟨i, hi, hx⟩ := flat_mem hx
      have h1 := key_long d (kid i) (ah ++ e) x hx
      have h2 : lngKD d (kid i) + (edTD d (kid i)).length ≤ lngK (DTree.node e h x0 n kid) := lng_kid (e := e) (h := h) (x := x0) (kid := kid) hi
      rw [List.length_append] at h1
      omega
theorem ahead_bd {L : Nat → List Int} {B : Nat} (h : ∀ i, (L i).length ≤ B) : ∀ n, ahead L n ≤ n * B
  | 0 => by simp [ahead]
  | n + 1 => by have := ahead_bd h n; have := h n; simp only [ahead]; rw [Nat.add_mul]; omega
theorem keysPD_bd {d : Nat} (t : DTree d) (p : List Int) : (keysPD t p).length ≤ 200 ∧ ∀ x ∈ keysPD t p, x.length ≤ 20 := by
  unfold keysPD
  split
  · rename_i h
    have ok : okT t := tB_iff.1 h
    have h1 : (keysP t [] p).length ≤ (keysT t []).length := List.length_filter_le _ _
    have h2 : (keysT t []).length = cntKD d t := keys_len d t []
    have h3 := cnt_le d t
    have h4 : cntTD d t ≤ 200 := ok.2.2.1
    refine ⟨by omega, fun x hx => ?_⟩
    have h5 := key_long d t [] x (List.mem_filter.1 hx).1
    have h6 : lngKD d t + (edTD d t).length ≤ 20 := ok.2.2.2.2
    simp only [List.length_nil] at h5
    omega
  · exact ⟨by simp, fun x hx => by cases hx⟩
theorem keysPD_rng {w : World} {d : Nat} {t : DTree d} {v : Value} (ht : VTree w t v) (p : List Int) : ∀ x ∈ keysPD t p, ∀ y ∈ x, 0 ≤ y ∧ y ≤ 255 := by
  unfold keysPD
  split
  · exact fun x hx => keys_rng (ah := []) ht (fun _ h => by cases h) (List.mem_filter.1 hx).1
  · exact fun x hx => by cases hx
def atF (F : List Value) (i : Nat) : Value := F.getD i undef
def atL (r : List (List Int)) (i : Nat) : List Int := r.getD i []
theorem atF_some {F : List Value} {i : Nat} (h : i < F.length) : F[i]? = some (atF F i) := by simp [atF, List.getD, h]
theorem atL_some {r : List (List Int)} {i : Nat} (h : i < r.length) : r[i]? = some (atL r i) := by simp [atL, List.getD, h]
theorem atL_mem {r : List (List Int)} {i : Nat} (h : i < r.length) : atL r i ∈ r := List.mem_of_getElem? (atL_some h)
theorem atL_len {r : List (List Int)} {B : Nat} (h : ∀ x ∈ r, x.length ≤ B) (i : Nat) : (atL r i).length ≤ B := by
  by_cases hi : i < r.length
  · exact h _ (atL_mem hi)
  · simp [atL, List.getD, List.getElem?_eq_none (by omega : r.length ≤ i)]
theorem sso_of {w : World} {lo : Nat} {v : Value} {F : List Value} {r : List (List Int)} (h : TxS w lo v F r) (ap : Apart F) : SSO lo w.heap.size w v r.length (atF F) (atL r) := by
  have hl := h.len
  refine ⟨?_, fun i hi => (h.tx i _ _ (atF_some (by omega)) (atL_some hi)).1, fun i hi k hk => ((h.tx i _ _ (atF_some (by omega)) (atL_some hi)).1.lt k hk).2, fun i j hi hj hij => ap i j _ _ (atF_some (by omega)) (atF_some (by omega)) hij⟩
  rcases h.row.2 with ⟨h0, h1⟩ | ⟨g, cap, cur, hv, h1, h2, h3, h4, h5, h6⟩
  · exact .inl ⟨h0, by omega⟩
  · refine .inr ⟨g, cap, cur, by rw [hv, hl], h1, (Array.getElem?_eq_some_iff.1 h2).1, h2, by omega, h4, by omega, fun i hi => ?_⟩
    have e : (cur.toList.take (F.length * 1))[i]? = some (atF F i) := by rw [h6]; exact atF_some (by omega)
    rw [List.getElem?_take, if_pos (by omega)] at e
    simpa using e
theorem ssr_of {w : World} {lo : Nat} {v : Value} {F : List Value} {r : List (List Int)} (h : TxS w lo v F r) : SSR w v r.length (atF F) := by
  have hl := h.len
  rcases h.row.2 with ⟨h0, h1⟩ | ⟨g, cap, cur, hv, h1, h2, h3, h4, h5, h6⟩
  · exact ⟨none, 0, by rw [h0, ← hl, h1], by omega, Nat.zero_le _, fun hn => absurd hn (by omega)⟩
  · refine ⟨_, cap, by rw [hv, hl], by omega, h4, fun _ => ⟨g, 0, rfl, (Array.getElem?_eq_some_iff.1 h2).1, fun i hi => ?_⟩⟩
    rw [Nat.zero_add, cell_of_row w g _ cur 22 (0, 0) h2]
    have e : (cur.toList.take (F.length * 1))[i]? = some (atF F i) := by rw [h6]; exact atF_some (by omega)
    rw [List.getElem?_take, if_pos (by omega)] at e
    simpa using e
theorem rvs_of {w : World} {lo : Nat} {v : Value} {F : List Value} {r : List (List Int)} (h : TxS w lo v F r) (hr : ∀ x ∈ r, ∀ y ∈ x, 0 ≤ y ∧ y ≤ 255) : ∀ i, i < r.length → RV w (atF F i) (atL r i) := fun i hi =>
  (h.tx i _ _ (atF_some (by have := h.len; omega)) (atL_some hi)).1.rv (hr _ (atL_mem hi))

set_option maxHeartbeats 1000000 in
theorem sTreeKeysV_of (HL : ∀ (d : Nat) (t : DTree d), L6Says t) {d : Nat} (t : DTree d) (v u : Value) (key : List Int) (w : World) (ht : VTree w t v) (hu : RV w u key) (hsz : szT t ≤ 1048576) (hkl : key.length ≤ 1048576) :
    Calls Try.prog 12 #[v, u] w fun e w' => ∃ lv F, e = .returned lv ∧ TxS w' w.heap.size lv F (keysPD t key) ∧ Below w.heap.size w w' := by
  have hE : ∀ w : World, ∀ o, Ext w (w.alloc o) := fun w o => World.grownBy_alloc _ _ _
  have HLL : Hid (∀ (d : Nat) (t : DTree d), L6Says t) := HL
  clear HL
  obtain ⟨ob, hob⟩ : ∃ ob, ob = tB (okT t) := ⟨_, rfl⟩
  obtain ⟨R, hR⟩ : ∃ R, R = keysPD t key := ⟨_, rfl⟩
  rw [← hR]
  have HOB := hideL hob
  have HRR : Hid (R = if ob then keysP t [] key else []) := by show _ = _; rw [hR, hob]; unfold keysPD; rfl
  clear hob hR
  have HT : Hid (VTree w t v) := ht
  have HZ : Hid (szT t ≤ 1048576) := hsz
  have HUV : Hid (RV w u key) := hu
  have HKL : Hid (key.length ≤ 2000000) := Nat.le_trans hkl (by omega)
  obtain ⟨ua, uc, rfl, _, _, _⟩ := hu
  obtain ⟨un, hun⟩ : ∃ un, un = key.length := ⟨_, rfl⟩
  rw [← hun] at HUV ⊢
  obtain ⟨e1, e2, e3, hv, xv, k1, k2, k3, rfl⟩ := VTree.agg ht
  clear ht hsz hun hkl
  go_enter Try.func12, Try.ntmps12
  go_wp2_with fail
  generalize hW : w.alloc _ = W
  have P0 : W.heap[w.heap.size]? = some (.cells #[.slice e1 e2 e3, .bool hv, .int .i64 xv, .slice k1 k2 k3] 30 (0, 0)) := by rw [← hW]; exact heap_alloc_new w _
  have XW : Ext w W := by rw [← hW]; exact hE _ _
  clear hW
  refine (sTreeOkV_of HLL.out t _ W (VTree.ext XW _ _ HT.out) HZ.out).mono ?_
  rintro e9 w1 ⟨rfl, b1⟩
  have P1 := ext_blk (ext_below b1) P0
  have X1 : Ext w w1 := XW.tr (ext_below b1)
  obtain ⟨q0, _⟩ := at_block P1 0 _ rfl
  obtain ⟨q1, _⟩ := at_block P1 1 _ rfl
  obtain ⟨q2, _⟩ := at_block P1 2 _ rfl
  obtain ⟨q3, _⟩ := at_block P1 3 _ rfl
  clear P0 P1 XW b1
  rw [← HOB.out]
  cases ob
  · have HK : Hid (R = []) := HRR.out
    go_wp2
    go_ret
    exact ⟨_, [], rfl, by rw [HK.out]; exact TxS.nil _ _, ext_bel X1⟩
  have HK : Hid (R = keysP t [] key) := HRR.out
  go_wp2_with fail
  refine (l6keys_any d t _ _ _ [] key w1 (VTree.ext X1 _ _ HT.out) ⟨none, 0, rfl, Rd.nil _ _, Nat.le_refl _, Nat.zero_le _⟩ (HUV.out.ext X1) (by have := HZ.out; simp only [List.length_nil]; omega) HKL.out).mono ?_
  rintro e9 w2 ⟨lv, F, rfl, t2, b2⟩
  have HT2 := hideL (t2.low X1.size)
  have B2 := (ext_bel X1).trans (b2.mono X1.size)
  clear t2 b2
  go_wp2
  go_ret
  exact ⟨_, F, rfl, by rw [HK.out]; exact HT2.out, B2⟩

end Go.Proofs.Ytdeogmkcomdbjaa
