/- Copies of lists of items: the specification's. -/
import Derived.Test.YtdcbajejgphlgaaIg
import Derived.Test.YtdcbajejgphlgaaTo0
import Derived.Deep.RegionHeld3
namespace Go.Proofs.Ytdcbajejgphlgaa
open Go.RowKit

set_option maxRecDepth 20000 in
set_option maxHeartbeats 4000000 in
theorem sOwnItemV (v : Value) (d : DItem) (w : World) (h : VItem w v d) (hk : d.cmd.op.key.length ≤ 2097152) (hv : d.cmd.op.val.length ≤ 2097152) :
    Calls Try.prog 53 #[v] w fun e w' => ∃ v', e = .returned v' ∧ OItem w' w.heap.size v' d ∧ Below w.heap.size w w' := by
  have hE : ∀ w : World, ∀ o, Ext w (w.alloc o) := fun w o => World.grownBy_alloc _ _ _
  obtain ⟨kv, vv, rfl, rk, rv⟩ := h
  have hrk := rv_rng rk
  have hrv := rv_rng rv
  obtain ⟨ka, kc, rfl, kr, _, _⟩ := rk
  obtain ⟨va, vc, rfl, vr, _, _⟩ := rv
  go_enter Try.func53, Try.ntmps53
  have P0 : ((w.alloc (.cells #[.int .i64 d.term, .int .i64 d.cmd.client, .int .i64 d.cmd.req, .int .i64 d.cmd.op.kind, .slice ka d.cmd.op.key.length kc, .slice va d.cmd.op.val.length vc, .int .i64 d.cmd.op.n] 74 (0, 0))).alloc (.cells #[.int .i64 0, .int .i64 0, .int .i64 0, .int .i64 0, .slice none 0 0, .slice none 0 0, .int .i64 0] 74 (0, 0))).heap[w.heap.size]? = _ := (Below.heap_alloc (w.alloc _) _ w.heap.size (by simp)).trans (heap_alloc_new w _)
  have R0 : ((w.alloc (.cells #[.int .i64 d.term, .int .i64 d.cmd.client, .int .i64 d.cmd.req, .int .i64 d.cmd.op.kind, .slice ka d.cmd.op.key.length kc, .slice va d.cmd.op.val.length vc, .int .i64 d.cmd.op.n] 74 (0, 0))).alloc (.cells #[.int .i64 0, .int .i64 0, .int .i64 0, .int .i64 0, .slice none 0 0, .slice none 0 0, .int .i64 0] 74 (0, 0))).heap[w.heap.size + 1]? = some (.cells #[.int .i64 0, .int .i64 0, .int .i64 0, .int .i64 0, .slice none 0 0, .slice none 0 0, .int .i64 0] 74 (0, 0)) := by have := heap_alloc_new (w.alloc (.cells #[.int .i64 d.term, .int .i64 d.cmd.client, .int .i64 d.cmd.req, .int .i64 d.cmd.op.kind, .slice ka d.cmd.op.key.length kc, .slice va d.cmd.op.val.length vc, .int .i64 d.cmd.op.n] 74 (0, 0))) (.cells #[.int .i64 0, .int .i64 0, .int .i64 0, .int .i64 0, .slice none 0 0, .slice none 0 0, .int .i64 0] 74 (0, 0)); simpa using this
  have X0 : Ext w ((w.alloc (.cells #[.int .i64 d.term, .int .i64 d.cmd.client, .int .i64 d.cmd.req, .int .i64 d.cmd.op.kind, .slice ka d.cmd.op.key.length kc, .slice va d.cmd.op.val.length vc, .int .i64 d.cmd.op.n] 74 (0, 0))).alloc (.cells #[.int .i64 0, .int .i64 0, .int .i64 0, .int .i64 0, .slice none 0 0, .slice none 0 0, .int .i64 0] 74 (0, 0))) := (hE _ _).tr (hE _ _)
  have B0 : Below w.heap.size w ((w.alloc (.cells #[.int .i64 d.term, .int .i64 d.cmd.client, .int .i64 d.cmd.req, .int .i64 d.cmd.op.kind, .slice ka d.cmd.op.key.length kc, .slice va d.cmd.op.val.length vc, .int .i64 d.cmd.op.n] 74 (0, 0))).alloc (.cells #[.int .i64 0, .int .i64 0, .int .i64 0, .int .i64 0, .slice none 0 0, .slice none 0 0, .int .i64 0] 74 (0, 0))) := ((Below.refl _ w).alloc (Nat.le_refl _) _).alloc (by simp) _
  have z0 : ((w.alloc (.cells #[.int .i64 d.term, .int .i64 d.cmd.client, .int .i64 d.cmd.req, .int .i64 d.cmd.op.kind, .slice ka d.cmd.op.key.length kc, .slice va d.cmd.op.val.length vc, .int .i64 d.cmd.op.n] 74 (0, 0))).alloc (.cells #[.int .i64 0, .int .i64 0, .int .i64 0, .int .i64 0, .slice none 0 0, .slice none 0 0, .int .i64 0] 74 (0, 0))).heap.size = w.heap.size + 2 := by simp
  have F1 : ∀ w1, (((w.alloc (.cells #[.int .i64 d.term, .int .i64 d.cmd.client, .int .i64 d.cmd.req, .int .i64 d.cmd.op.kind, .slice ka d.cmd.op.key.length kc, .slice va d.cmd.op.val.length vc, .int .i64 d.cmd.op.n] 74 (0, 0))).alloc (.cells #[.int .i64 0, .int .i64 0, .int .i64 0, .int .i64 0, .slice none 0 0, .slice none 0 0, .int .i64 0] 74 (0, 0))).alloc (.cells #[] 5 (0, 0))).grownBy w1 (some (w.heap.size + 2)) → w.heap.size + 3 ≤ w1.heap.size ∧ w1.heap[w.heap.size]? = some (.cells #[.int .i64 d.term, .int .i64 d.cmd.client, .int .i64 d.cmd.req, .int .i64 d.cmd.op.kind, .slice ka d.cmd.op.key.length kc, .slice va d.cmd.op.val.length vc, .int .i64 d.cmd.op.n] 74 (0, 0)) ∧ w1.heap[w.heap.size + 1]? = some (.cells #[.int .i64 0, .int .i64 0, .int .i64 0, .int .i64 0, .slice none 0 0, .slice none 0 0, .int .i64 0] 74 (0, 0)) ∧ Below w.heap.size w w1 := by
    intro w1 g1
    refine ⟨?_, ?_, ?_, ?_⟩
    · have := g1.size
      simp at this
      omega
    · exact (g1.block w.heap.size (by simp; omega) (by simp)).trans ((Below.heap_alloc _ _ _ (by rw [z0]; omega)).trans P0)
    · exact (g1.block (w.heap.size + 1) (by simp) (by simp)).trans ((Below.heap_alloc _ _ _ (by rw [z0]; omega)).trans R0)
    · exact (B0.alloc (by rw [z0]; omega) (.cells #[] 5 (0, 0))).grown g1 (by simp; omega) (fun k hk => by have : w.heap.size + 2 = k := by simpa using hk
                                                                                                           omega)
  have O1 : Ow (((w.alloc (.cells #[.int .i64 d.term, .int .i64 d.cmd.client, .int .i64 d.cmd.req, .int .i64 d.cmd.op.kind, .slice ka d.cmd.op.key.length kc, .slice va d.cmd.op.val.length vc, .int .i64 d.cmd.op.n] 74 (0, 0))).alloc (.cells #[.int .i64 0, .int .i64 0, .int .i64 0, .int .i64 0, .slice none 0 0, .slice none 0 0, .int .i64 0] 74 (0, 0))).alloc (.cells #[] 5 (0, 0))) (w.heap.size + 2) (.slice (some ⟨w.heap.size + 2, 0, none⟩) 0 0) [] := by
    have := ow_empty ((w.alloc (.cells #[.int .i64 d.term, .int .i64 d.cmd.client, .int .i64 d.cmd.req, .int .i64 d.cmd.op.kind, .slice ka d.cmd.op.key.length kc, .slice va d.cmd.op.val.length vc, .int .i64 d.cmd.op.n] 74 (0, 0))).alloc (.cells #[.int .i64 0, .int .i64 0, .int .i64 0, .int .i64 0, .slice none 0 0, .slice none 0 0, .int .i64 0] 74 (0, 0)))
    rw [z0] at this
    exact this
  have HF1 : Hid _ := F1
  have HO1 : Hid _ := O1
  clear F1 O1
  have F2 : ∀ (w1 : World) (a1 : Option Addr) (p1 : Nat), w.heap.size + 3 ≤ w1.heap.size → w1.heap[w.heap.size]? = some (.cells #[.int .i64 d.term, .int .i64 d.cmd.client, .int .i64 d.cmd.req, .int .i64 d.cmd.op.kind, .slice ka d.cmd.op.key.length kc, .slice va d.cmd.op.val.length vc, .int .i64 d.cmd.op.n] 74 (0, 0)) → w1.heap[w.heap.size + 1]? = some (.cells #[.int .i64 0, .int .i64 0, .int .i64 0, .int .i64 0, .slice none 0 0, .slice none 0 0, .int .i64 0] 74 (0, 0)) → Below w.heap.size w w1 →
      ((w1.setCell ⟨w.heap.size, 4, none⟩ (.slice a1 d.cmd.op.key.length p1)).alloc (.cells #[] 5 (0, 0))).heap[w.heap.size]? = some (.cells #[.int .i64 d.term, .int .i64 d.cmd.client, .int .i64 d.cmd.req, .int .i64 d.cmd.op.kind, .slice a1 d.cmd.op.key.length p1, .slice va d.cmd.op.val.length vc, .int .i64 d.cmd.op.n] 74 (0, 0)) ∧ ((w1.setCell ⟨w.heap.size, 4, none⟩ (.slice a1 d.cmd.op.key.length p1)).alloc (.cells #[] 5 (0, 0))).heap[w.heap.size + 1]? = some (.cells #[.int .i64 0, .int .i64 0, .int .i64 0, .int .i64 0, .slice none 0 0, .slice none 0 0, .int .i64 0] 74 (0, 0)) ∧ Below w.heap.size w ((w1.setCell ⟨w.heap.size, 4, none⟩ (.slice a1 d.cmd.op.key.length p1)).alloc (.cells #[] 5 (0, 0))) ∧ Ow ((w1.setCell ⟨w.heap.size, 4, none⟩ (.slice a1 d.cmd.op.key.length p1)).alloc (.cells #[] 5 (0, 0))) w1.heap.size (.slice (some ⟨w1.heap.size, 0, none⟩) 0 0) [] ∧ ((w1.setCell ⟨w.heap.size, 4, none⟩ (.slice a1 d.cmd.op.key.length p1)).alloc (.cells #[] 5 (0, 0))).heap.size = w1.heap.size + 1 ∧ ((w1.setCell ⟨w.heap.size, 4, none⟩ (.slice a1 d.cmd.op.key.length p1)).alloc (.cells #[] 5 (0, 0))).cell? ⟨w.heap.size, 5, none⟩ = some (.slice va d.cmd.op.val.length vc) := by
    intro w1 a1 p1 hs1 P1 R1 B1
    have zz : (w1.setCell ⟨w.heap.size, 4, none⟩ (.slice a1 d.cmd.op.key.length p1)).heap.size = w1.heap.size := by simp
    have T := (Below.heap_alloc _ (.cells #[] 5 (0, 0)) w.heap.size (by rw [zz]; omega)).trans (set_block P1 4 (.slice a1 d.cmd.op.key.length p1))
    refine ⟨T, ?_, ?_, ?_, ?_, (at_block T 5 _ rfl).1⟩
    · exact (Below.heap_alloc _ _ _ (by rw [zz]; omega)).trans (set_other w.heap.size 4 _ (by omega) R1)
    · exact (below_set B1 (Nat.le_refl _)).alloc (by rw [zz]; omega) _
    · have := ow_empty (w1.setCell ⟨w.heap.size, 4, none⟩ (.slice a1 d.cmd.op.key.length p1))
      rw [zz] at this
      exact this
    · simp
  have F3 : ∀ (w1 w2 : World) (a1 : Option Addr) (p1 : Nat), w.heap.size + 3 ≤ w1.heap.size → ((w1.setCell ⟨w.heap.size, 4, none⟩ (.slice a1 d.cmd.op.key.length p1)).alloc (.cells #[] 5 (0, 0))).heap.size = w1.heap.size + 1 → ((w1.setCell ⟨w.heap.size, 4, none⟩ (.slice a1 d.cmd.op.key.length p1)).alloc (.cells #[] 5 (0, 0))).heap[w.heap.size]? = some (.cells #[.int .i64 d.term, .int .i64 d.cmd.client, .int .i64 d.cmd.req, .int .i64 d.cmd.op.kind, .slice a1 d.cmd.op.key.length p1, .slice va d.cmd.op.val.length vc, .int .i64 d.cmd.op.n] 74 (0, 0)) → ((w1.setCell ⟨w.heap.size, 4, none⟩ (.slice a1 d.cmd.op.key.length p1)).alloc (.cells #[] 5 (0, 0))).heap[w.heap.size + 1]? = some (.cells #[.int .i64 0, .int .i64 0, .int .i64 0, .int .i64 0, .slice none 0 0, .slice none 0 0, .int .i64 0] 74 (0, 0)) → Below w.heap.size w ((w1.setCell ⟨w.heap.size, 4, none⟩ (.slice a1 d.cmd.op.key.length p1)).alloc (.cells #[] 5 (0, 0))) → ((w1.setCell ⟨w.heap.size, 4, none⟩ (.slice a1 d.cmd.op.key.length p1)).alloc (.cells #[] 5 (0, 0))).grownBy w2 (some w1.heap.size) →
      w2.heap[w.heap.size]? = some (.cells #[.int .i64 d.term, .int .i64 d.cmd.client, .int .i64 d.cmd.req, .int .i64 d.cmd.op.kind, .slice a1 d.cmd.op.key.length p1, .slice va d.cmd.op.val.length vc, .int .i64 d.cmd.op.n] 74 (0, 0)) ∧ w2.heap[w.heap.size + 1]? = some (.cells #[.int .i64 0, .int .i64 0, .int .i64 0, .int .i64 0, .slice none 0 0, .slice none 0 0, .int .i64 0] 74 (0, 0)) ∧ Below w.heap.size w w2 ∧ w1.heap.size + 1 ≤ w2.heap.size := by
    intro w1 w2 a1 p1 hs1 zw1 T1 R1 B1 g2
    refine ⟨(g2.block w.heap.size (by omega) (by simp; omega)).trans T1, (g2.block (w.heap.size + 1) (by omega) (by simp; omega)).trans R1, B1.grown g2 (by omega) (fun k hk => ?_), ?_⟩
    · have : w1.heap.size = k := by simpa using hk
      omega
    · have := g2.size
      omega
  have HF2 : Hid _ := F2
  have HF3 : Hid _ := F3
  clear F2 F3
  go_wp2_with (first
    | (at_builtin; refine wpList_append_bytes _ rfl (.tmp 3) (.tmp 7) 61 rfl (w.heap.size + 2) info5 Try.underlying61 _ [] rfl HO1.out ka _ kc d.cmd.op.key rfl (kr.grown (X0.tr (hE _ _))) (by simp; omega) (by simp) ?_; intro v1 w1 o1 g1; simp only [List.nil_append] at o1; obtain ⟨a1, p1, rfl, _, _, _⟩ := Ow.rv o1 hrk; obtain ⟨hs1, P1, R1, B1⟩ := HF1.out w1 g1; obtain ⟨T1, R1', B1', O2, zw1, k5⟩ := HF2.out w1 a1 p1 hs1 P1 R1 B1; obtain ⟨t0, f0⟩ := at_block P1 0 _ rfl; obtain ⟨t1, f1⟩ := at_block P1 1 _ rfl; obtain ⟨t2, f2⟩ := at_block P1 2 _ rfl; obtain ⟨t3, f3⟩ := at_block P1 3 _ rfl; obtain ⟨t4, f4⟩ := at_block P1 4 _ rfl; obtain ⟨t5, f5⟩ := at_block P1 5 _ rfl; obtain ⟨t6, f6⟩ := at_block P1 6 _ rfl)
    | (at_builtin; refine wpList_append_bytes _ rfl (.tmp 12) (.tmp 16) 61 rfl w1.heap.size info5 Try.underlying61 _ [] rfl O2 va d.cmd.op.val.length vc d.cmd.op.val rfl (vr.grown (ext_below B1')) (by simp only [List.length_nil]; omega) (by omega) ?_; intro v2 w2 o2 g2; simp only [List.nil_append] at o2; obtain ⟨a2, p2, rfl, _, _, _⟩ := Ow.rv o2 hrv; obtain ⟨P2, R2, B2, hs2⟩ := HF3.out w1 w2 a1 p1 hs1 zw1 T1 R1' B1' g2; obtain ⟨u0, hh0⟩ := at_block P2 0 _ rfl; obtain ⟨u1, hh1⟩ := at_block P2 1 _ rfl; obtain ⟨u2, hh2⟩ := at_block P2 2 _ rfl; obtain ⟨u3, hh3⟩ := at_block P2 3 _ rfl; obtain ⟨u4, hh4⟩ := at_block P2 4 _ rfl; obtain ⟨u5, hh5⟩ := at_block P2 5 _ rfl; obtain ⟨u6, hh6⟩ := at_block P2 6 _ rfl; obtain ⟨r0, z0⟩ := at_block R2 0 _ rfl; obtain ⟨r1, z1⟩ := at_block R2 1 _ rfl; obtain ⟨r2, z2⟩ := at_block R2 2 _ rfl; obtain ⟨r3, z3⟩ := at_block R2 3 _ rfl; obtain ⟨r4, z4⟩ := at_block R2 4 _ rfl; obtain ⟨r5, z5⟩ := at_block R2 5 _ rfl; obtain ⟨r6, z6⟩ := at_block R2 6 _ rfl))
  have g2' : World.grownBy ((w1.setCell ⟨w.heap.size, 4, none⟩ (.slice a1 d.cmd.op.key.length p1)).alloc (.cells #[] 5 (0, 0))) w2 (some w1.heap.size) := g2
  have ok2 : Ow w2 (w.heap.size + 2) (.slice a1 d.cmd.op.key.length p1) d.cmd.op.key := by
    refine ((ow_row o1 (set_grown w1 w.heap.size 4 _) (by omega)).ext (hE _ _)).kept g2' ?_
    cases e : Value.ownBlock (.slice a1 d.cmd.op.key.length p1) with
    | none => exact .inl rfl
    | some b =>
      right
      have hl := (o1.lt b e).2
      intro e'
      have : b = w1.heap.size := by simpa using e'
      omega
  have ov2 : Ow w2 (w.heap.size + 2) (.slice a2 d.cmd.op.val.length p2) d.cmd.op.val := ow_base o2 (by omega)
  have hap : Value.ownBlock (.slice a1 d.cmd.op.key.length p1) = none ∨ Value.ownBlock (.slice a1 d.cmd.op.key.length p1) ≠ Value.ownBlock (.slice a2 d.cmd.op.val.length p2) := by
    cases e : Value.ownBlock (.slice a1 d.cmd.op.key.length p1) with
    | none => exact .inl rfl
    | some b =>
      right
      have hl := (o1.lt b e).2
      intro e'
      have := (o2.lt b e'.symm).1
      omega
  refine bodyPost_ret (v := .agg #[.int .i64 d.term, .int .i64 d.cmd.client, .int .i64 d.cmd.req, .int .i64 d.cmd.op.kind, .slice a1 d.cmd.op.key.length p1, .slice a2 d.cmd.op.val.length p2, .int .i64 d.cmd.op.n]) (by simp [results, Try.results53, go_sem, r0, r1, r2, r3, r4, r5, r6]) rfl ?_
  refine ⟨_, rfl, ⟨_, _, rfl, ow_base (base := w.heap.size + 2) ?_ (by omega), ow_base (base := w.heap.size + 2) ?_ (by omega), hap⟩, ?_⟩
  · repeat (refine ow_set ?_ (by omega))
    exact ok2
  · repeat (refine ow_set ?_ (by omega))
    exact ov2
  · repeat (refine below_set ?_ (by omega))
    exact B2

set_option maxRecDepth 20000 in
set_option maxHeartbeats 4000000 in
theorem sOwnItemsV (v : Value) (ss : List DItem) (w : World) (h : VItems w v ss) (hn : ss.length ≤ 1048576) (hl : ∀ (i : Nat) s, ss[i]? = some s → s.cmd.op.key.length ≤ 2097152 ∧ s.cmd.op.val.length ≤ 2097152) :
    Calls Try.prog 38 #[v] w fun e w' => ∃ v' F, e = .returned v' ∧ IG w.heap.size w' v' ss F ∧ Below w.heap.size w w' := by
  have hE : ∀ w : World, ∀ o, Ext w (w.alloc o) := fun w o => World.grownBy_alloc _ _ _
  obtain ⟨C, ⟨a, cap, rfl, h1, h2, h3⟩, hC⟩ := h
  have HC : Hid (∀ i d, ss[i]? = some d → C i 0 = .int .i64 d.term ∧ C i 1 = .int .i64 d.cmd.client ∧ C i 2 = .int .i64 d.cmd.req ∧ C i 3 = .int .i64 d.cmd.op.kind ∧ RV w (C i 4) d.cmd.op.key ∧ RV w (C i 5) d.cmd.op.val ∧ C i 6 = .int .i64 d.cmd.op.n) := hC
  have HL : Hid (∀ (i : Nat) s, ss[i]? = some s → s.cmd.op.key.length ≤ 2097152 ∧ s.cmd.op.val.length ≤ 2097152) := hl
  clear hC hl
  unfold maxLen at h2
  obtain ⟨n, hnn⟩ : ∃ n, n = ss.length := ⟨_, rfl⟩
  rw [← hnn] at h1 h3 hn ⊢
  have HN : Hid (n = ss.length) := hnn
  clear hnn
  have H3 : Hid (0 < n → ∃ b o, a = some ⟨b, o, none⟩ ∧ b < w.heap.size ∧ ∀ i, i < n → ∀ j, j < 7 → w.cell? ⟨b, o + i * 7 + j, none⟩ = some (C i j)) := h3
  clear h3
  go_enter Try.func38, Try.ntmps38
  go_wp2
  go_loopw [3, 4] (fun bv i wr => ∃ k : Nat, k ≤ n ∧ i = .int .i64 k ∧ Below w.heap.size w wr ∧ ∃ F, Hid (IG w.heap.size wr bv (ss.take k) F)) (fun _ i _ => n - (intOf i).toNat)
  case atStart => exact ⟨0, Nat.zero_le _, rfl, Below.refl _ _, (fun _ _ => .bool false), by rw [List.take_zero]; exact IG.nil _ _ _⟩
  case round =>
    obtain ⟨k, hk, rfl, hb, F, hF⟩ := hrel
    by_cases hlt : k < n
    · obtain ⟨b, o, rfl, hbl, hc⟩ := H3.out (by omega)
      obtain ⟨s, hs⟩ : ∃ s, ss[k]? = some s := ⟨_, List.getElem?_eq_getElem (by have := HN.out; omega)⟩
      have HS : Hid (ss[k]? = some s) := hs
      have HTL : Hid ((ss.take k).length = k) := by show _ = _; rw [List.length_take]; have := HN.out; omega
      have HTN : Hid (ss.take (k + 1) = ss.take k ++ [s]) := by show _ = _; rw [List.take_add_one, hs]; rfl
      obtain ⟨e0, e1, e2, e3, e4, e5, e6⟩ := HC.out k s hs
      have X := ext_below hb
      have d0 := World.grownBy.cell X (hc k hlt 0 (by omega)) (by simp)
      rw [Nat.add_zero, e0] at d0
      have d1 := World.grownBy.cell X (hc k hlt 1 (by omega)) (by simp)
      rw [e1] at d1
      have d2 := World.grownBy.cell X (hc k hlt 2 (by omega)) (by simp)
      rw [e2] at d2
      have d3 := World.grownBy.cell X (hc k hlt 3 (by omega)) (by simp)
      rw [e3] at d3
      have d4 := World.grownBy.cell X (hc k hlt 4 (by omega)) (by simp)
      have cr4 := e4.ext X
      have hr4 := rv_rng e4
      obtain ⟨ca4, cp4, cx4, _, _, _⟩ := e4
      rw [cx4] at cr4 d4
      have d5 := World.grownBy.cell X (hc k hlt 5 (by omega)) (by simp)
      have cr5 := e5.ext X
      have hr5 := rv_rng e5
      obtain ⟨ca5, cp5, cx5, _, _, _⟩ := e5
      rw [cx5] at cr5 d5
      have d6 := World.grownBy.cell X (hc k hlt 6 (by omega)) (by simp)
      rw [e6] at d6
      have hlt' : (k : Int) < (n : Int) := by omega
      have hlk := HL.out k s hs
      clear hc hs
      go_wp2_with fail
      refine (sOwnItemV _ s wr ⟨_, _, rfl, cr4, cr5⟩ hlk.1 hlk.2).mono ?_
      rintro e w1 ⟨v1, rfl, ⟨kv, vv, rfl, ok, ov, hap⟩, b1⟩
      have HOK : Hid (Ow w1 wr.heap.size kv s.cmd.op.key ∧ Ow w1 wr.heap.size vv s.cmd.op.val) := ⟨ok, ov⟩
      obtain ⟨ka, kc, rfl, _, _, _⟩ := Ow.rv ok hr4
      obtain ⟨va, vc, rfl, _, _, _⟩ := Ow.rv ov hr5
      have HB1 : Hid (Below wr.heap.size wr w1) := b1
      have hs1 := b1.size
      have hbs := hb.size
      have BB1 : Below w.heap.size w w1 := hb.trans (b1.mono hbs)
      clear ok ov b1 d0 d1 d2 d3 d4 d5 d6 cr4 cr5
      have RW := (hF.out.ext ((ext_below HB1.out).tr (hE w1 (.cells #[.int .i64 s.term, .int .i64 s.cmd.client, .int .i64 s.cmd.req, .int .i64 s.cmd.op.kind, .slice ka s.cmd.op.key.length kc, .slice va s.cmd.op.val.length vc, .int .i64 s.cmd.op.n] 74 (0, 0))))).row
      rw [HTL.out] at RW
      have HRW : Hid _ := RW
      clear RW
      have N1 := heap_alloc_new w1 (.cells #[.int .i64 s.term, .int .i64 s.cmd.client, .int .i64 s.cmd.req, .int .i64 s.cmd.op.kind, .slice ka s.cmd.op.key.length kc, .slice va s.cmd.op.val.length vc, .int .i64 s.cmd.op.n] 74 (0, 0))
      have HCL : Hid (∀ (j : Nat) u, ([.int .i64 s.term, .int .i64 s.cmd.client, .int .i64 s.cmd.req, .int .i64 s.cmd.op.kind, .slice ka s.cmd.op.key.length kc, .slice va s.cmd.op.val.length vc, .int .i64 s.cmd.op.n] : List Value)[j]? = some u → (w1.alloc (.cells #[.int .i64 s.term, .int .i64 s.cmd.client, .int .i64 s.cmd.req, .int .i64 s.cmd.op.kind, .slice ka s.cmd.op.key.length kc, .slice va s.cmd.op.val.length vc, .int .i64 s.cmd.op.n] 74 (0, 0))).cell? ⟨w1.heap.size, j, none⟩ = some u) := fun j u hu => by
        rw [cell_of_row _ _ j _ _ (0, 0) N1]
        simpa using hu
      clear N1
      go_wp2_with (at_builtin; refine wpList_append_it _ rfl (.tmp 11) (.tmp 17) rfl w.heap.size _ k _ rfl HRW.out w1.heap.size _ rfl rfl HCL.out (by simp [Value.oneCell']) (by omega) (by simp; omega) ?_; intro v3 w3 r3 g3 q3)
      have HN3 := IG.next hF.out hbs HB1.out HOK.out.1 HOK.out.2 hap (hE w1 _) (by rw [HTL.out]; exact r3) g3 q3
      rw [← HTN.out] at HN3
      have HN3' : Hid _ := HN3
      have B3 : Below w.heap.size w w3 := (BB1.alloc (by omega) _).grown g3 (by simp; omega) (fun x hx => by have := (World.ownsRow.lt HRW.out x hx).1; omega)
      clear HN3 r3 g3 q3
      go_wp2
      go_roundw
      case rel => exact ⟨k + 1, by omega, by go_num, B3, _, HN3'.out⟩
      case measure => simp [intOf]; omega
    · have hkn : k = n := by omega
      subst hkn
      have HTT : Hid (ss.take k = ss) := by show _ = _; rw [List.take_of_length_le (by have := HN.out; omega)]
      go_wp2
      go_ret
      exact ⟨_, F, rfl, by have := hF.out; rw [HTT.out] at this; exact this, hb⟩

end Go.Proofs.Ytdcbajejgphlgaa
