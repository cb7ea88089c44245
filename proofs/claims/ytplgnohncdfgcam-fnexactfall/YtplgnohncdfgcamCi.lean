/- Copies of lists of items: the program's and the specification's. -/
import Derived.Test.YtplgnohncdfgcamCp2
import Derived.Test.YtplgnohncdfgcamIg
namespace Go.Proofs.Ytplgnohncdfgcam
open Go.RowKit

set_option maxRecDepth 20000 in
set_option maxHeartbeats 4000000 in
theorem copyItemsV (v : Value) (ss : List DItem) (w : World) (h : VItems w v ss) (hn : ss.length ≤ 1048576) (hl : ∀ (i : Nat) s, ss[i]? = some s → s.cmd.op.key.length ≤ 2097152 ∧ s.cmd.op.val.length ≤ 2097152) :
    Calls Try.prog 37 #[v] w fun e w' => ∃ v' F, e = .returned v' ∧ IG w.heap.size w' v' ss F ∧ Below w.heap.size w w' := by
  have hE : ∀ w : World, ∀ o, Ext w (w.alloc o) := fun w o => World.grownBy_alloc _ _ _
  obtain ⟨C, ⟨a, cap, rfl, h1, h2, h3⟩, hC⟩ := h
  have HC : Hid (∀ i d, ss[i]? = some d → C i 0 = .int .i64 d.term ∧ C i 1 = .int .i64 d.cmd.client ∧ C i 2 = .int .i64 d.cmd.req ∧ C i 3 = .int .i64 d.cmd.op.kind ∧ RV w (C i 4) d.cmd.op.key ∧ RV w (C i 5) d.cmd.op.val ∧ C i 6 = .int .i64 d.cmd.op.n) := hC
  have HL : Hid (∀ (i : Nat) s, ss[i]? = some s → s.cmd.op.key.length ≤ 2097152 ∧ s.cmd.op.val.length ≤ 2097152) := hl
  clear hC hl
  unfold maxLen at h2
  obtain ⟨n, hnn⟩ : ∃ n, n = ss.length := ⟨_, rfl⟩
  rw [← hnn] at h1 h3 hn ⊢
  have HN : Hid (n = ss.length) := hnn
  clear hnn
  have H3 : Hid (0 < n → ∃ b o, a = some ⟨b, o, none⟩ ∧ b < w.heap.size ∧ ∀ i, i < n → ∀ j, j < 7 → w.cell? ⟨b, o + i * 7 + j, none⟩ = some (C i j)) := h3
  clear h3
  obtain ⟨i0, hi, hz0, hz1, hz2⟩ := info_parts info_I
  obtain ⟨wm, hmk, hrow, hgm⟩ := run_make_own (P := Try.prog) w w.heap.size 29 51 i0 _ 7 Try.underlying29 hi hz0 hz1 .i64 .i64 n (by rw [hz2]; omega) (by unfold maxLen; omega) (Nat.le_refl _)
  have HMR : Hid (IG w.heap.size wm (.slice (some ⟨w.heap.size, 0, none⟩) 0 n) [] (fun _ _ => .bool false)) := IG.made hrow
  have hbm : Below w.heap.size w wm := (Below.refl _ w).grown hgm (Nat.le_refl _) (fun k hk => by cases hk)
  clear hrow hgm hi hz0 hz1 hz2
  go_enter Try.func37, Try.ntmps37
  go_wp2
  go_loopw [3, 11] (fun bv i wr => ∃ k : Nat, k ≤ n ∧ i = .int .i64 k ∧ Below w.heap.size w wr ∧ ∃ F, Hid (IG w.heap.size wr bv (ss.take k) F)) (fun _ i _ => n - (intOf i).toNat)
  case atStart => exact ⟨0, Nat.zero_le _, rfl, hbm, _, by rw [List.take_zero]; exact HMR⟩
  case round =>
    obtain ⟨k, hk, rfl, hb, F, hF⟩ := hrel
    clear hmk HMR hbm
    by_cases hlt : k < n
    · obtain ⟨b, o, rfl, hbl, hc⟩ := H3.out (by omega)
      obtain ⟨s, hs⟩ : ∃ s, ss[k]? = some s := ⟨_, List.getElem?_eq_getElem (by have := HN.out; omega)⟩
      have HS : Hid (ss[k]? = some s) := hs
      have HTL : Hid ((ss.take k).length = k) := by show _ = _; rw [List.length_take]; have := HN.out; omega
      have HTN : Hid (ss.take (k + 1) = ss.take k ++ [s]) := by show _ = _; rw [List.take_add_one, hs]; rfl
      obtain ⟨e0, e1, e2, e3, e4, e5, e6⟩ := HC.out k s hs
      have X := ext_below hb
      have d0 := World.grownBy.cell X (hc k hlt 0 (by omega)) (by simp)
      rw [Nat.add_zero, e0] at d0
      have d1 := World.grownBy.cell X (hc k hlt 1 (by omega)) (by simp)
      rw [e1] at d1
      have d2 := World.grownBy.cell X (hc k hlt 2 (by omega)) (by simp)
      rw [e2] at d2
      have d3 := World.grownBy.cell X (hc k hlt 3 (by omega)) (by simp)
      rw [e3] at d3
      have d4 := World.grownBy.cell X (hc k hlt 4 (by omega)) (by simp)
      have cr4 := e4.ext X
      have hr4 := rv_rng e4
      obtain ⟨ca4, cp4, cx4, _, _, _⟩ := e4
      rw [cx4] at cr4 d4
      have d5 := World.grownBy.cell X (hc k hlt 5 (by omega)) (by simp)
      have cr5 := e5.ext X
      have hr5 := rv_rng e5
      obtain ⟨ca5, cp5, cx5, _, _, _⟩ := e5
      rw [cx5] at cr5 d5
      have d6 := World.grownBy.cell X (hc k hlt 6 (by omega)) (by simp)
      rw [e6] at d6
      have hlt' : (k : Int) < (n : Int) := by omega
      have hlk := HL.out k s hs
      clear hc hs
      go_wp2_with fail
      refine (copyItemV _ s _ ⟨_, _, rfl, cr4.ext (hE _ _), cr5.ext (hE _ _)⟩ hlk.1 hlk.2).mono ?_
      rintro e w1 ⟨v1, rfl, ⟨kv, vv, rfl, ok, ov, hap⟩, b1⟩
      have HOK : Hid (Ow w1 _ kv s.cmd.op.key ∧ Ow w1 _ vv s.cmd.op.val) := ⟨ok, ov⟩
      obtain ⟨ka, kc, rfl, _, _, _⟩ := Ow.rv ok hr4
      obtain ⟨va, vc, rfl, _, _, _⟩ := Ow.rv ov hr5
      have hF0 := hF.out.ext (hE wr (.cells #[.int .i64 s.term, .int .i64 s.cmd.client, .int .i64 s.cmd.req, .int .i64 s.cmd.op.kind, .slice ca4 s.cmd.op.key.length cp4, .slice ca5 s.cmd.op.val.length cp5, .int .i64 s.cmd.op.n] 51 (0, 0)))
      have HF0 : Hid (IG w.heap.size _ _ (ss.take k) F) := hF0
      have HB1 : Hid (Below _ _ w1) := b1
      have hs1 : wr.heap.size + 1 ≤ w1.heap.size := by have := b1.size; simpa using this
      have hbs := hb.size
      have BB1 : Below w.heap.size w w1 := (hb.alloc hbs _).trans (b1.mono (by simp; omega))
      clear hF hF0 ok ov b1 d0 d1 d2 d3 d4 d5 d6 cr4 cr5
      have RW := (HF0.out.ext ((ext_below HB1.out).tr (hE w1 (.cells #[.int .i64 s.term, .int .i64 s.cmd.client, .int .i64 s.cmd.req, .int .i64 s.cmd.op.kind, .slice ka s.cmd.op.key.length kc, .slice va s.cmd.op.val.length vc, .int .i64 s.cmd.op.n] 51 (0, 0))))).row
      rw [HTL.out] at RW
      have HRW : Hid _ := RW
      clear RW
      have N1 := heap_alloc_new w1 (.cells #[.int .i64 s.term, .int .i64 s.cmd.client, .int .i64 s.cmd.req, .int .i64 s.cmd.op.kind, .slice ka s.cmd.op.key.length kc, .slice va s.cmd.op.val.length vc, .int .i64 s.cmd.op.n] 51 (0, 0))
      have HCL : Hid (∀ (j : Nat) u, ([.int .i64 s.term, .int .i64 s.cmd.client, .int .i64 s.cmd.req, .int .i64 s.cmd.op.kind, .slice ka s.cmd.op.key.length kc, .slice va s.cmd.op.val.length vc, .int .i64 s.cmd.op.n] : List Value)[j]? = some u → (w1.alloc (.cells #[.int .i64 s.term, .int .i64 s.cmd.client, .int .i64 s.cmd.req, .int .i64 s.cmd.op.kind, .slice ka s.cmd.op.key.length kc, .slice va s.cmd.op.val.length vc, .int .i64 s.cmd.op.n] 51 (0, 0))).cell? ⟨w1.heap.size, j, none⟩ = some u) := fun j u hu => by
        rw [cell_of_row _ _ j _ _ (0, 0) N1]
        simpa using hu
      clear N1
      go_wp2_with (at_builtin; refine wpList_append_it _ rfl (.tmp 15) (.tmp 18) rfl w.heap.size _ k _ rfl HRW.out w1.heap.size _ rfl rfl HCL.out (by simp [Value.oneCell']) (by omega) (by simp; omega) ?_; intro v3 w3 r3 g3 q3)
      have HN3 := IG.next HF0.out (by simp; omega) HB1.out HOK.out.1 HOK.out.2 hap (hE w1 _) (by rw [HTL.out]; exact r3) g3 q3
      rw [← HTN.out] at HN3
      have HN3' : Hid _ := HN3
      have B3 : Below w.heap.size w w3 := (BB1.alloc (by omega) _).grown g3 (by simp; omega) (fun x hx => by have := (World.ownsRow.lt HRW.out x hx).1; omega)
      clear HN3 r3 g3 q3
      go_wp2
      go_roundw
      case rel => exact ⟨k + 1, by omega, by go_num, B3, _, HN3'.out⟩
      case measure => simp [intOf]; omega
    · have hkn : k = n := by omega
      subst hkn
      have HTT : Hid (ss.take k = ss) := by show _ = _; rw [List.take_of_length_le (by have := HN.out; omega)]
      go_wp2
      go_ret
      exact ⟨_, F, rfl, by have := hF.out; rw [HTT.out] at this; exact this, hb⟩

end Go.Proofs.Ytplgnohncdfgcam
