/- The program's Turned: its closure, the keys that it wants of the rows. -/
import Derived.Test.YtplgnohncdfgcalTrA
import Derived.Test.YtplgnohncdfgcalClone
namespace Go.Proofs.Ytplgnohncdfgcal
open Go.RowKit

theorem turned1V (k v : Value) (ka va : Option Addr) (kn kc vn vc : Nat) (hk : k = .slice ka kn kc) (hv : v = .slice va vn vc) (t h id : Int) (g : Nat) (w : World) (hc : w.cell? ⟨g, 0, none⟩ = some (.int .i64 id)) :
    Calls Try.prog 49 #[.agg #[k, v, .int .i64 t, .int .i64 h], .pointer (some ⟨g, 0, none⟩)] w fun e w' => e = .returned (.bool (decide (id < t))) ∧ Below w.heap.size w w' := by
  subst hk hv
  have hB : ∀ w : World, ∀ o, Below w.heap.size w (w.alloc o) := fun w o => (Below.refl _ w).alloc (Nat.le_refl _) _
  have hE : ∀ w : World, ∀ o, Ext w (w.alloc o) := fun w o => World.grownBy_alloc _ _ _
  have hca : ∀ ob, (w.alloc ob).cell? ⟨g, 0, none⟩ = some (.int .i64 id) := fun ob => World.grownBy.cell (hE w ob) hc (by simp)
  have hcd : ∀ ob q, ((w.alloc ob).drewN q).cell? ⟨g, 0, none⟩ = some (.int .i64 id) := fun ob q => hca ob
  go_enter Try.func49, Try.ntmps49
  go_wp2
  generalize hV : w.alloc _ = V
  have HBV : Hid (Below w.heap.size w V) := by rw [← hV]; exact hB _ _
  have v3 : V.cell? ⟨w.heap.size, 2, none⟩ = some (.int .i64 t) := by rw [← hV]; exact (at_block (heap_alloc_new w _) 2 _ rfl).1
  have vg : V.cell? ⟨g, 0, none⟩ = some (.int .i64 id) := by rw [← hV]; exact hca _
  clear hV hca hcd hc
  go_wp2
  go_ret
  exact ⟨rfl, HBV.out⟩

set_option maxHeartbeats 4000000 in
set_option maxRecDepth 100000 in
theorem keysTurnedV (rv : Value) (rs : List DRow) (id : Int) (g : Nat) (w : World) (hr : VRows w rv rs) (hg : w.cell? ⟨g, 0, none⟩ = some (.int .i64 id)) (hn20 : rs.length ≤ 20) (hkl : ∀ (i : Nat) (r : DRow), rs[i]? = some r → r.key.length ≤ 2097152) :
    Calls Try.prog 48 #[rv, .func (.func 49) #[] #[.pointer (some ⟨g, 0, none⟩)]] w fun e w' => ∃ v' F, e = .returned v' ∧ SSG w.heap.size w' v' (keysP (fun r => decide (id < r.turned)) rs).length F (at_ (keysP (fun r => decide (id < r.turned)) rs)) ∧ Below w.heap.size w w' := by
  have hE : ∀ w : World, ∀ o, Ext w (w.alloc o) := fun w o => World.grownBy_alloc _ _ _
  have hB : ∀ w : World, ∀ o, Below w.heap.size w (w.alloc o) := fun w o => (Below.refl _ w).alloc (Nat.le_refl _) _
  obtain ⟨C, ⟨a, cap, rfl, h1, h2, h3⟩, hC⟩ := hr
  have HC : Hid (∀ i r, rs[i]? = some r → RV w (C i 0) r.key ∧ RV w (C i 1) r.val ∧ C i 2 = .int .i64 r.turned ∧ C i 3 = .int .i64 r.holder) := hC
  have HKK : Hid (∀ (i : Nat) (r : DRow), rs[i]? = some r → r.key.length ≤ 2097152) := hkl
  have HG : Hid (w.cell? ⟨g, 0, none⟩ = some (.int .i64 id)) := hg
  clear hC hkl hg
  obtain ⟨n, hn⟩ : ∃ n, n = rs.length := ⟨_, rfl⟩
  rw [← hn] at h1 h3 hn20 ⊢
  have HN : Hid (n = rs.length) := hn
  clear hn
  unfold maxLen at h2
  have H3 : Hid (0 < n → ∃ b o, a = some ⟨b, o, none⟩ ∧ b < w.heap.size ∧ ∀ i, i < n → ∀ j, j < 4 → w.cell? ⟨b, o + i * 4 + j, none⟩ = some (C i j)) := h3
  clear h3
  go_enter Try.func48, Try.ntmps48
  go_wp2
  go_loopw [5, 10] (fun vo i wr => ∃ k : Nat, k ≤ n ∧ i = .int .i64 k ∧ Hid (Below w.heap.size w wr) ∧ Hid (∃ F, SSG w.heap.size wr vo (keysP (fun r => decide (id < r.turned)) (rs.take k)).length F (at_ (keysP (fun r => decide (id < r.turned)) (rs.take k))))) (fun _ i _ => n - (intOf i).toNat)
  case atStart => exact ⟨0, Nat.zero_le _, rfl, Below.refl _ _, fun _ => .slice none 0 0, SSG.nil _ _ _ _⟩
  case round =>
    obtain ⟨k, hk, rfl, hgb, hss⟩ := hrel
    by_cases hlt : k < n
    · obtain ⟨b, o, rfl, hbl, hc⟩ := H3.out (by omega)
      obtain ⟨s, hs⟩ : ∃ s, rs[k]? = some s := ⟨_, List.getElem?_eq_getElem (by have := HN.out; omega)⟩
      obtain ⟨e0, e1, e2, e3⟩ := HC.out k s hs
      have X := ext_below hgb.out
      have c0 := World.grownBy.cell X (hc k hlt 0 (by omega)) (by simp)
      have c1 := World.grownBy.cell X (hc k hlt 1 (by omega)) (by simp)
      have c2 := World.grownBy.cell X (hc k hlt 2 (by omega)) (by simp)
      have c3 := World.grownBy.cell X (hc k hlt 3 (by omega)) (by simp)
      have HK : Hid (RV wr (C k 0) s.key) := e0.ext X
      have HGW : Hid (wr.cell? ⟨g, 0, none⟩ = some (.int .i64 id)) := World.grownBy.cell X HG.out (by simp)
      obtain ⟨ka, kc, ek, _, _, _⟩ := e0
      obtain ⟨va, vc, ev, _, _, _⟩ := e1
      rw [Nat.add_zero, ek] at c0
      rw [ev] at c1
      rw [e2] at c2
      rw [e3] at c3
      have HKR : Hid (Rd wr ka s.key.length s.key) := by
        have := HK.out
        rw [ek] at this
        obtain ⟨_, _, e, hrd, _, _⟩ := this
        cases e
        exact hrd
      have hlt' : (k : Int) < (n : Int) := by omega
      have HNX := keysP_next (fun r => decide (id < r.turned)) rs k s hs
      have HKN : Hid (s.key.length ≤ 2097152) := HKK.out k s hs
      have HAL : Hid ((keysP (fun r => decide (id < r.turned)) (rs.take k)).length ≤ 20) := by
        show (((rs.take k).filter _).map _).length ≤ 20
        rw [List.length_map]
        refine Nat.le_trans (List.length_filter_le _ _) ?_
        rw [List.length_take]
        omega
      generalize keysP (fun r => decide (id < r.turned)) (rs.take k) = acc at hss HNX HAL
      clear hc e2 e3 X ek ev HK
      obtain ⟨kl, hkl⟩ : ∃ kl, s.key.length = kl := ⟨_, rfl⟩
      have HKL : Hid (s.key.length = kl) := hkl
      rw [hkl] at c0 HKR HKN
      generalize s.val.length = vl at c1
      clear hkl
      by_cases hh : id < s.turned
      · have HNX2 : Hid (keysP (fun r => decide (id < r.turned)) (rs.take (k + 1)) = acc ++ [s.key]) := by
          show _ = _
          rw [HNX, if_pos (decide_eq_true hh)]
        have HHH : Hid (decide (id < s.turned) = true) := decide_eq_true hh
        clear HNX hh hs
        obtain ⟨F, hF⟩ := hss.out
        have HFS : Hid (SSG w.heap.size wr _ acc.length F (at_ acc)) := hF
        have HFL : Hid (∀ i, i < acc.length → ∀ q, (F i).ownBlock = some q → q < wr.heap.size) := fun i hi q hq => ((hF.tx i hi).lt q hq).2
        have hwz : w.heap.size ≤ wr.heap.size := hgb.out.size
        clear hss hF
        go_wp2_with (first
          | (go_at_call 49; refine (turned1V _ _ ka va kl kc vl vc rfl rfl s.turned s.holder id g _ (World.grownBy.cell (hE wr _) HGW.out (by simp))).mono ?_; rintro e w5 ⟨rfl, b5⟩; rw [HHH.out]; have HB5 : Hid (Below wr.heap.size wr w5) := (hB wr _).trans (b5.mono (by simp)); obtain ⟨y0, _⟩ := at_block (below_blk b5 (by simp) (heap_alloc_new wr _)) 0 _ rfl; have hs5 := HB5.out.size; clear b5)
          | (go_at_call 50; refine (clone ka kl kc s.key w5 (HKR.out.grown (ext_below HB5.out)) HKN.out).mono ?_; rintro e w8 ⟨v8, rfl, ow8, b8⟩; obtain ⟨a8, c8, rfl⟩ := ow_shape ow8; rw [HKL.out] at ow8 ⊢; have HB8 : Hid (Below wr.heap.size wr w8) := HB5.out.trans (b8.mono hs5); have HF8 : Hid (SSG w.heap.size w8 _ acc.length F (at_ acc)) := HFS.out.ext (ext_below HB8.out); have hs8 := b8.size; have HOW8 : Hid (Ow w8 w5.heap.size (.slice a8 kl c8) s.key) := ow8; clear ow8 b8)
          | (at_builtin; refine wpList_append_tb _ rfl (.tmp 17) (.tmp 21) rfl w.heap.size _ acc.length _ rfl (HF8.out.ext (hE _ _)).row w8.heap.size (.slice a8 kl c8) rfl (at_block (heap_alloc_new w8 _) 0 _ rfl).1 rfl (by have := HAL.out; omega) (by simp; omega) ?_; intro v9 w9 ow9 g9))
        have X9 : Ext w8 (w8.alloc (.cells #[.slice a8 kl c8] 44 (0, 0))) := hE _ _
        have HG9 : Hid (Below w.heap.size w w9) := (((hgb.out.trans (HB8.out.mono hgb.out.size))).grown X9 (by omega) (fun k hk => by cases hk)).grown g9 (by simp; omega) (fun k hk => ((HF8.out.ext X9).row.lt k hk).1)
        have HS9 : Hid (∃ F, SSG w.heap.size w9 v9 (keysP (fun r => decide (id < r.turned)) (rs.take (k + 1))).length F (at_ (keysP (fun r => decide (id < r.turned)) (rs.take (k + 1))))) := by
          show ∃ F, _
          rw [HNX2.out]
          exact ⟨_, ((HF8.out.ext X9).next (ow_base (HOW8.out.ext X9) (by omega)) (HOW8.out.ext X9) (fun i hi q hq => by have := HFL.out i hi q hq; omega) ow9 g9).as (by simp) (fun i hi => at_push acc s.key i hi)⟩
        clear X9 ow9 g9 HB8 HF8 HOW8 hgb
        go_roundw
        case rel => exact ⟨k + 1, by omega, by go_num, HG9.out, HS9.out⟩
        case measure => simp [intOf]; omega
      · have HNX2 : Hid (keysP (fun r => decide (id < r.turned)) (rs.take (k + 1)) = acc) := by
          show _ = _
          rw [HNX, if_neg (by simpa using hh)]
          simp
        have HHH : Hid (decide (id < s.turned) = false) := decide_eq_false hh
        clear HNX hh hs
        go_wp2_with (go_at_call 49; refine (turned1V _ _ ka va kl kc vl vc rfl rfl s.turned s.holder id g _ (World.grownBy.cell (hE wr _) HGW.out (by simp))).mono ?_; rintro e w5 ⟨rfl, b5⟩; rw [HHH.out]; have HB5 : Hid (Below wr.heap.size wr w5) := (hB wr _).trans (b5.mono (by simp)); clear b5)
        go_roundw
        case rel => exact ⟨k + 1, by omega, by go_num, hgb.out.trans (HB5.out.mono hgb.out.size), by rw [HNX2.out]; exact ⟨hss.out.choose, hss.out.choose_spec.ext (ext_below HB5.out)⟩⟩
        case measure => simp [intOf]; omega
    · have hkn : n = k := by omega
      subst hkn
      have HF : Hid (∃ F, SSG w.heap.size wr u5 (keysP (fun r => decide (id < r.turned)) rs).length F (at_ (keysP (fun r => decide (id < r.turned)) rs))) := by
        have := hss.out
        rw [List.take_of_length_le (by have := HN.out; omega)] at this
        exact this
      clear hss
      go_wp2
      go_ret
      obtain ⟨F, hF⟩ := HF.out
      exact ⟨_, F, rfl, hF, hgb.out⟩

end Go.Proofs.Ytplgnohncdfgcal
