/- The program's method hear: a member that is not there. -/
import Derived.Test.YtbphmgcfbjiadaaMiAf
import Derived.Test.YtbphmgcfbjiadaaMiM
import Derived.Test.YtbphmgcfbjiadaaMi2
import Derived.Test.YtbphmgcfbjiadaaInM
import Derived.Deep.RegionWith
import Derived.Deep.RegionLawGrows
namespace Go.Proofs.Ytbphmgcfbjiadaa
open Go.RowKit

theorem findM_yes (v : Value) (ls : List DMem) (id : Int) (w : World) (h : VMem w v ls) (hn4 : ls.length ≤ 12) (hasc : AscM ls) (i : Nat) (hp : placeM ls id = (i : Int)) :
    Calls Try.prog 30 #[v, .int .i64 id] w fun e w' => e = .returned (.tuple #[.int .i64 i, .bool true]) ∧ Below w.heap.size w w' := by
  refine (findMV v ls id w h hn4 hasc).mono ?_
  rintro e w' ⟨t, fb, rfl, b, f1, f2⟩
  cases fb
  · have := (f2 rfl).1; omega
  · have e : t = i := by have := f1 rfl; omega
    subst e
    exact ⟨rfl, b⟩
theorem findM_no (v : Value) (ls : List DMem) (id : Int) (w : World) (h : VMem w v ls) (hn4 : ls.length ≤ 12) (hasc : AscM ls) (k : Nat) (hk : k = insK ls id) (hp : placeM ls id = -1) :
    Calls Try.prog 30 #[v, .int .i64 id] w fun e w' => e = .returned (.tuple #[.int .i64 k, .bool false]) ∧ Below w.heap.size w w' := by
  refine (findMV v ls id w h hn4 hasc).mono ?_
  rintro e w' ⟨t, fb, rfl, b, f1, f2⟩
  cases fb
  · have e : t = k := by rw [hk]; exact (f2 rfl).2.symm
    subst e
    exact ⟨rfl, b⟩
  · have := f1 rfl; omega

set_option maxRecDepth 20000 in
set_option maxHeartbeats 4000000 in
theorem hear_none (gt base g cap n : Nat) (T : DTab) (m : DMem) (w : World) (hb : w.heap[gt]? = some (.cells #[.int .i64 T.self, .slice (some ⟨g, 0, none⟩) n cap] 30 (0, 0))) (ho : OwMem w base (.slice (some ⟨g, 0, none⟩) n cap) T.mems) (hn : n = T.mems.length) (hT : TabP T) (hp : placeM T.mems m.id = -1) (hne : g ≠ gt) (hbs : base ≤ w.heap.size) (hc : n ≤ cap) (hcm : cap ≤ maxLen) :
    Calls Try.prog 24 #[.pointer (some ⟨gt, 0, none⟩), .agg #[.int .i64 m.id, .int .i64 m.st, .int .i64 m.life]] w fun e w' => e = .returned (.bool true) ∧ ∃ tv, w'.heap[gt]? = some (.cells #[.int .i64 T.self, tv] 30 (0, 0)) ∧ OwMem w' base tv (insD T m).mems ∧ SayW gt (some g) w w' := by
  have hE : ∀ w : World, ∀ o, Ext w (w.alloc o) := fun w o => World.grownBy_alloc _ _ _
  have hl : n ≤ 12 := by have := hT.1; omega
  obtain ⟨k, hk⟩ : ∃ k, k = insK T.mems m.id := ⟨_, rfl⟩
  have hkn : k ≤ n := by have := insK_le T.mems m.id; omega
  have sT : gt < w.heap.size := (Array.getElem?_eq_some_iff.1 hb).1
  have sG : g < w.heap.size := (ho.lt g (by simp [Value.ownBlock])).2
  go_enter Try.func24, Try.ntmps24
  go_wp2_with fail
  have PM := heap_alloc_new w (.cells #[.int .i64 m.id, .int .i64 m.st, .int .i64 m.life] 34 (0, 0))
  have X0 := hE w (.cells #[.int .i64 m.id, .int .i64 m.st, .int .i64 m.life] 34 (0, 0))
  generalize w.alloc (.cells #[.int .i64 m.id, .int .i64 m.st, .int .i64 m.life] 34 (0, 0)) = W at PM X0 ⊢
  have HF : Hid (∀ W', Ext W W' → Calls Try.prog 30 #[.slice (some ⟨g, 0, none⟩) n cap, .int .i64 m.id] W' fun e w' => e = .returned (.tuple #[.int .i64 k, .bool false]) ∧ Below W'.heap.size W' w') := fun W' e => findM_no _ T.mems m.id W' (ho.v.ext (X0.tr e)) hT.1 (tab_asc hT) k hk hp
  have HBX : Hid (w.heap[gt]? = some (.cells #[.int .i64 T.self, .slice (some ⟨g, 0, none⟩) n cap] 30 (0, 0))) := hb
  have HO : Hid (OwMem w base (.slice (some ⟨g, 0, none⟩) n cap) T.mems) := ho
  have HNN : Hid (n = T.mems.length) := hn
  have HK : Hid (k = insK T.mems m.id) := hk
  have HCM : Hid (cap ≤ maxLen) := hcm
  obtain ⟨q0, q1⟩ := cells2 (ext_blk X0 hb)
  have m0 := (at_block PM 0 _ rfl).1
  have q0w := bw_cell q0
  have q1w := bw_cell q1
  have m0w := bw_cell m0
  have nonV := bw_ne W
  clear hn hk hcm ho hb hp hT
  refine wp_region_bw (by kernel_rfl) (by kernel_rfl) ?_
  repeat (go_big_quiet_step ((go_at_call 30; exact bw_below (HF.out _ (bw_ext _)))))
  refine wpQuiet_nil ?_
  intro _ hw'
  obtain ⟨z, hw''⟩ := hw'
  subst hw''
  have X1 : Ext w z.u := X0.tr (bw_ext z)
  have PM1 := ext_blk (bw_ext z) PM
  generalize z.u = V at X1 PM1 ⊢
  clear q0 q1 m0 q0w q1w m0w nonV HF PM z X0
  have PT1 := ext_blk X1 HBX.out
  have HO1 : Hid (OwMem V base (.slice (some ⟨g, 0, none⟩) n cap) T.mems) := HO.out.ext X1
  obtain ⟨q0, q1⟩ := cells2 PT1
  obtain ⟨m0, m1, m2⟩ := cells3 PM1
  have sV : w.heap.size ≤ V.heap.size := X1.size
  have HINS : Hid (∀ W : World, Ext V W → W.heap[V.heap.size]? = some (.cells #[.int .i64 m.id, .int .i64 m.st, .int .i64 m.life] 34 (0, 0)) → Calls Try.prog 34 #[.slice (some ⟨g, 0, none⟩) n cap, .int .i64 k, .slice (some ⟨V.heap.size, 0, none⟩) 1 1] W fun e w' => ∃ a5 l5 c5, e = .returned (.slice a5 l5 c5) ∧ Hid (w'.heap[gt]? = some (.cells #[.int .i64 T.self, .slice (some ⟨g, 0, none⟩) n cap] 30 (0, 0))) ∧ w'.cell? ⟨gt, 1, none⟩ = some (.slice (some ⟨g, 0, none⟩) n cap) ∧ w'.frozen? ⟨gt, 1, none⟩ = false ∧ Hid (OwMem w' base (.slice a5 l5 c5) (insD T m).mems) ∧ Hid (SayW gt (some g) w w')) := fun W XW HW => by
    have sW := XW.size
    refine (insertM base g n cap V.heap.size k T.mems m W (HO1.out.ext XW) HNN.out (by omega) hkn hc HCM.out HW (by omega) (by omega)).mono ?_
    rintro e w' ⟨v', rfl, o', g'⟩
    obtain ⟨a5, c5, hv⟩ := o'.v.shape
    have PW := ext_blk XW PT1
    have P' := (g'.block gt (Array.getElem?_eq_some_iff.1 PW).1 (by simp; omega)).trans PW
    obtain ⟨u1, f1⟩ := at_block P' 1 _ rfl
    refine ⟨a5, _, c5, by rw [hv], P', u1, f1, ?_, (SayW.ext (X1.tr XW)).grown g' (fun b hb => .inr (.inl hb.symm))⟩
    show OwMem w' base _ _
    rw [← hv]
    unfold insD
    rw [← HK.out]
    exact o'
  have HFIN : Hid (∀ (w5 : World) (v5 : Value), w5.heap[gt]? = some (.cells #[.int .i64 T.self, .slice (some ⟨g, 0, none⟩) n cap] 30 (0, 0)) → OwMem w5 base v5 (insD T m).mems → SayW gt (some g) w w5 → ∃ tv, (w5.setCell ⟨gt, 1, none⟩ v5).heap[gt]? = some (.cells #[.int .i64 T.self, tv] 30 (0, 0)) ∧ OwMem (w5.setCell ⟨gt, 1, none⟩ v5) base tv (insD T m).mems ∧ SayW gt (some g) w (w5.setCell ⟨gt, 1, none⟩ v5)) := fun w5 v5 P5 O5 S5 => by
    have nb : v5.ownBlock = none ∨ v5.ownBlock ≠ some gt := by
      cases hv : v5.ownBlock with
      | none => exact .inl rfl
      | some b =>
        refine .inr fun e => ?_
        rcases O5.2 with ⟨hv', _⟩ | ⟨b', c', cur, hv', _, hg', _⟩
        · rw [hv'] at hv; cases hv
        · rw [hv'] at hv
          simp only [Value.ownBlock, Option.some.injEq] at hv e
          subst hv
          subst e
          rw [P5] at hg'
          simp only [Option.some.injEq, Obj.cells.injEq] at hg'
          exact absurd hg'.2.1 (by decide)
    exact ⟨v5, set_block P5 1 v5, O5.keep (set_grown _ _ _ _) nb, S5.grown (set_grown _ _ _ _) (fun b hb => .inl (by cases hb; rfl))⟩
  have XD : Ext V V.drew := ext_drewN V 1
  have XA : ∀ o, Ext V (V.alloc o).drew := fun o => (hE V o).tr (ext_drewN _ 1)
  have XB : ∀ o, Ext V (V.drew.alloc o) := fun o => (ext_drewN V 1).tr (hE _ o)
  have NA : ∀ o, (V.alloc o).drew.heap[V.heap.size]? = some o := fun o => heap_alloc_new V o
  have NB : ∀ o, (V.drew.alloc o).heap[V.heap.size]? = some o := fun o => heap_alloc_new V.drew o
  have k1 : ∀ o, (V.alloc o).cell? ⟨gt, 1, none⟩ = some (.slice (some ⟨g, 0, none⟩) n cap) := fun o => World.grownBy.cell (World.grownBy_alloc V o none) q1 (by simp)
  clear HO HO1 HBX PT1 PM1
  go_wp2_with fail
  go_region_law (go_simp; go_at_call 34; refine (HINS.out _ ?_ ?_).mono ?_; (first | exact XA _ | exact XB _); (first | exact NA _ | exact NB _); rintro e w5 ⟨a5, l5, c5, rfl, P5, u1, f1, O5, S5⟩)
  all_goals
    go_wp2
    go_ret
    exact ⟨rfl, HFIN.out w5 _ P5.out O5.out S5.out⟩

end Go.Proofs.Ytbphmgcfbjiadaa
