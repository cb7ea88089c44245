
/- The specification's l15own, DutyRenew. -/
import Derived.Test.YtgafnajnndbofaaDy7
import Derived.Test.YtgafnajnndbofaaDy5
import Derived.Test.YtgafnajnndbofaaHpX
namespace Go.Proofs.Ytgafnajnndbofaa
open Go.RowKit

set_option maxHeartbeats 2000000 in
theorem ownDuV (v : Value) (D : DDuty) (w : World) (h : VDuty w v D) (hl : D.wh.tms.length ≤ 1048576) :
    Calls Try.prog 25 #[v] w fun e w' => ∃ a c, e = .returned (.agg #[.int .i64 D.ttl, .int .i64 D.wh.now, .slice a D.wh.tms.length c]) ∧ OwT w' w.heap.size (.slice a D.wh.tms.length c) D.wh.tms ∧ Below w.heap.size w w' := by
  have HL : Hid (D.wh.tms.length ≤ 1048576) := hl
  obtain ⟨tv, rfl, ht⟩ := h
  obtain ⟨a, cap, rfl⟩ := ht.shape
  have HV : Hid (VTims w (.slice a D.wh.tms.length cap) D.wh.tms) := ht
  obtain ⟨n, hn⟩ : ∃ n, n = D.wh.tms.length := ⟨_, rfl⟩
  rw [← hn] at HV ⊢
  have HN : Hid (n = D.wh.tms.length) := hn
  clear hn ht hl
  go_enter Try.func25, Try.ntmps25
  go_wp2_with fail
  generalize hW : World.alloc (World.alloc w _) _ = W
  have BW : Below w.heap.size w W := by rw [← hW]; exact ((Below.refl _ w).alloc (Nat.le_refl _) _).alloc (by simp) _
  have PB : W.heap[w.heap.size]? = some (.cells #[.int .i64 D.ttl, .int .i64 D.wh.now, .slice a n cap] 33 (0, 0)) := by rw [← hW, Below.heap_alloc _ _ _ (by simp)]; exact heap_alloc_new w _
  have PR : W.heap[w.heap.size + 1]? = some (.cells #[.int .i64 0, .int .i64 0, .slice none 0 0] 33 (0, 0)) := by rw [← hW]; simpa using heap_alloc_new (World.alloc w (.cells #[.int .i64 D.ttl, .int .i64 D.wh.now, .slice a n cap] 33)) (.cells #[.int .i64 0, .int .i64 0, .slice none 0 0] 33)
  have hsz : W.heap.size = w.heap.size + 2 := by rw [← hW]; simp
  clear hW
  have HSZ := hideD hsz
  have HB0 := hideD BW
  have HC : Hid (∀ V, Ext W V → Calls Try.prog 39 #[.agg #[.int .i64 D.wh.now, .slice a n cap]] V fun e w' => ∃ a' c', e = .returned (.agg #[.int .i64 D.wh.now, .slice a' n c']) ∧ (w'.cell? ⟨w.heap.size, 0, none⟩ = some (.int .i64 D.ttl) ∧ w'.cell? ⟨w.heap.size, 1, none⟩ = some (.int .i64 D.wh.now) ∧ w'.cell? ⟨w.heap.size, 2, none⟩ = some (.slice a n cap)) ∧ (w'.cell? ⟨w.heap.size + 1, 0, none⟩ = some (.int .i64 0) ∧ w'.cell? ⟨w.heap.size + 1, 1, none⟩ = some (.int .i64 0) ∧ w'.cell? ⟨w.heap.size + 1, 2, none⟩ = some (.slice none 0 0)) ∧ (w'.frozen? ⟨w.heap.size + 1, 0, none⟩ = false ∧ w'.frozen? ⟨w.heap.size + 1, 1, none⟩ = false ∧ w'.frozen? ⟨w.heap.size + 1, 2, none⟩ = false) ∧ Hid (OwT w' V.heap.size (.slice a' n c') D.wh.tms) ∧ Hid (Below V.heap.size V w')) := fun V hb =>
    (ownV _ D.wh V ⟨_, rfl, HV.out.ext ((ext_below BW).trans hb)⟩ HL.out).mono (fun e w' ⟨v', h1, h2, h3⟩ => by
      obtain ⟨a', c', rfl⟩ := h2.v.shape
      rw [← HN.out] at h1 h2
      have P1 := ext_blk (hb.trans (ext_below h3)) PB
      have P2 := ext_blk (hb.trans (ext_below h3)) PR
      exact ⟨a', c', h1, bx3 P1, bx3 P2, ⟨(at_block P2 0 _ rfl).2, (at_block P2 1 _ rfl).2, (at_block P2 2 _ rfl).2⟩, h2, h3⟩)
  obtain ⟨p0, p1, p2⟩ := bx3 PB
  clear PB PR BW hsz
  go_region_held3 (fun w' => w'.cell? ⟨w.heap.size, 0, none⟩ = some (.int .i64 D.ttl) ∧ w'.cell? ⟨w.heap.size, 1, none⟩ = some (.int .i64 D.wh.now) ∧ w'.cell? ⟨w.heap.size, 2, none⟩ = some (.slice a n cap)) (first | (simp [*]; done) | go_keep) (first | (go_at_call 39; refine (HC.out _ ?_).mono ?_; exact ext_drewN W 1; rintro e w1 ⟨a1, c1, rfl, ⟨y0, y1, y2⟩, ⟨z0, z1, z2⟩, ⟨f0, f1, f2⟩, o1, b1⟩))
  all_goals
    go_wp2
    refine bodyPost_ret (v := .agg #[.int .i64 D.ttl, .int .i64 D.wh.now, .slice a1 n c1]) (by simp [results, Try.results25, go_sem, *]) rfl ?_
    have hnv : (Value.slice a1 n c1).ownBlock = none ∨ (Value.slice a1 n c1).ownBlock ≠ some (w.heap.size + 1) := by
      right
      intro e
      have := (World.ownsRow.lt o1.out _ e).1
      have := HSZ.out
      simp at *
      omega
    refine ⟨a1, c1, rfl, ((((baseT o1.out HB0.out.size).kept (set_grown _ _ _ _) hnv).kept (set_grown _ _ _ _) hnv).kept (set_grown _ _ _ _) hnv), ?_⟩
    repeat (first | exact HB0.out.trans ((below_undrew b1.out).mono HB0.out.size) | (refine Below.setCell ?_ (by simp) _))

end Go.Proofs.Ytgafnajnndbofaa
