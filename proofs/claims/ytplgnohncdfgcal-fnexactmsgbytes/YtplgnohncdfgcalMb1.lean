/- Messages as bytes: the specification's l3item and l3bytes. -/
import Derived.Test.YtplgnohncdfgcalMb0
import Derived.Test.YtplgnohncdfgcalMsP
namespace Go.Proofs.Ytplgnohncdfgcal
open Go.RowKit

theorem cellsB7 {w w' : World} {g : Nat} {v0 v1 v2 v3 v4 v5 v6 : Value} {t : TypeId} (h : w.heap[g]? = some (.cells #[v0, v1, v2, v3, v4, v5, v6] t (0, 0))) (b : Below w.heap.size w w') :
    w'.heap[g]? = some (.cells #[v0, v1, v2, v3, v4, v5, v6] t (0, 0)) ∧ w'.cell? ⟨g, 0, none⟩ = some v0 ∧ w'.cell? ⟨g, 1, none⟩ = some v1 ∧ w'.cell? ⟨g, 2, none⟩ = some v2 ∧ w'.cell? ⟨g, 3, none⟩ = some v3 ∧ w'.cell? ⟨g, 4, none⟩ = some v4 ∧ w'.cell? ⟨g, 5, none⟩ = some v5 ∧ w'.cell? ⟨g, 6, none⟩ = some v6 := by
  have h' := below_blk b (Array.getElem?_eq_some_iff.1 h).1 h
  exact ⟨h', (at_block h' 0 _ rfl).1, (at_block h' 1 _ rfl).1, (at_block h' 2 _ rfl).1, (at_block h' 3 _ rfl).1, (at_block h' 4 _ rfl).1, (at_block h' 5 _ rfl).1, (at_block h' 6 _ rfl).1⟩
theorem cellsB9 {w w' : World} {g : Nat} {v0 v1 v2 v3 v4 v5 v6 v7 v8 : Value} {t : TypeId} (h : w.heap[g]? = some (.cells #[v0, v1, v2, v3, v4, v5, v6, v7, v8] t (0, 0))) (b : Below w.heap.size w w') :
    w'.heap[g]? = some (.cells #[v0, v1, v2, v3, v4, v5, v6, v7, v8] t (0, 0)) ∧ w'.cell? ⟨g, 0, none⟩ = some v0 ∧ w'.cell? ⟨g, 1, none⟩ = some v1 ∧ w'.cell? ⟨g, 2, none⟩ = some v2 ∧ w'.cell? ⟨g, 3, none⟩ = some v3 ∧ w'.cell? ⟨g, 4, none⟩ = some v4 ∧ w'.cell? ⟨g, 5, none⟩ = some v5 ∧ w'.cell? ⟨g, 6, none⟩ = some v6 ∧ w'.cell? ⟨g, 7, none⟩ = some v7 ∧ w'.cell? ⟨g, 8, none⟩ = some v8 := by
  have h' := below_blk b (Array.getElem?_eq_some_iff.1 h).1 h
  exact ⟨h', (at_block h' 0 _ rfl).1, (at_block h' 1 _ rfl).1, (at_block h' 2 _ rfl).1, (at_block h' 3 _ rfl).1, (at_block h' 4 _ rfl).1, (at_block h' 5 _ rfl).1, (at_block h' 6 _ rfl).1, (at_block h' 7 _ rfl).1, (at_block h' 8 _ rfl).1⟩

theorem rv_nil (w : World) : RV w (.slice none 0 0) [] := ⟨none, 0, rfl, Rd.nil _ _, Nat.le_refl _, Nat.zero_le _⟩

/-- What is asked of an item that is written. -/
def ItW (x : DItem) : Prop := (-1 ≤ x.cmd.client ∧ x.cmd.client ≤ 3) ∧ x.cmd.op.key.length ≤ 20 ∧ x.cmd.op.val.length ≤ 20

theorem opB_w {o : DOp} (h : opB o = true) : o.key.length ≤ 20 ∧ o.val.length ≤ 20 := by
  unfold opB at h
  simp only [Bool.and_eq_true, decide_eq_true_eq] at h
  obtain ⟨⟨⟨⟨⟨⟨⟨_, _⟩, h1⟩, _⟩, _⟩, h2⟩, _⟩, _⟩ := h
  refine ⟨?_, h1⟩
  split at h2
  · unfold keyB at h2
    simp only [Bool.and_eq_true, decide_eq_true_eq] at h2
    omega
  · simp only [decide_eq_true_eq] at h2
    omega
theorem itemB_w {x : DItem} (h : itemB x = true) : ItW x := by
  unfold itemB at h
  simp only [Bool.and_eq_true] at h
  obtain ⟨_, h⟩ := h
  unfold cmdB at h
  split at h
  · rename_i hc
    simp only [Bool.and_eq_true] at h
    exact ⟨by omega, opB_w h.2⟩
  · simp only [Bool.and_eq_true, decide_eq_true_eq] at h
    exact ⟨by omega, opB_w h.2⟩
theorem msg_w {M : DMsg} (h : MsgP M) : (0 ≤ M.kind ∧ M.kind ≤ 3) ∧ M.items.length ≤ 4 ∧ ∀ (i : Nat) d, M.items[i]? = some d → ItW d := by
  obtain ⟨h1, _, h3, _⟩ := h
  refine ⟨h1.1, h1.2.2.2.2.2.2.2.2.2.1, fun i d hd => ?_⟩
  have hi : i < M.items.length := (List.getElem?_eq_some_iff.1 hd).1
  exact itemB_w (h3 i hi d hd).1

set_option maxRecDepth 20000 in
set_option maxHeartbeats 4000000 in
theorem sItL (v xv : Value) (xs : List Int) (x : DItem) (w : World) (h : RV w v xs) (hx : VItem w xv x) (hn : xs.length ≤ 900000) (hi : ItW x) :
    Calls Try.prog 115 #[v, xv] w (PutPost w (itL xs x)) := by
  have hE : ∀ w : World, ∀ o, Ext w (w.alloc o) := fun w o => World.grownBy_alloc _ _ _
  obtain ⟨⟨hc1, hc2⟩, hk, hv⟩ := hi
  obtain ⟨kv, vv, rfl, rk, rv⟩ := hx
  have l1 := putL_le xs x.term
  have l2 := putL_le (xs ++ numL x.term) (x.cmd.client + 1)
  have l3 := putL_le (xs ++ numL x.term ++ numL (x.cmd.client + 1)) x.cmd.req
  obtain ⟨x1, hx1⟩ : ∃ x1, x1 = xs ++ numL x.term := ⟨_, rfl⟩
  obtain ⟨x2, hx2⟩ : ∃ x2, x2 = x1 ++ numL (x.cmd.client + 1) := ⟨_, rfl⟩
  obtain ⟨x3, hx3⟩ : ∃ x3, x3 = x2 ++ numL x.cmd.req := ⟨_, rfl⟩
  have HL : Hid (itL xs x = opL x3 x.cmd.op) := by unfold Hid; rw [hx3, hx2, hx1]; rfl
  rw [← hx1] at l1 l2 l3
  rw [← hx2] at l2 l3
  rw [← hx3] at l3
  have H1 : Hid (xs ++ numL x.term = x1) := hx1.symm
  have H2 : Hid (x1 ++ numL (x.cmd.client + 1) = x2) := hx2.symm
  have H3 : Hid (x2 ++ numL x.cmd.req = x3) := hx3.symm
  clear hx1 hx2 hx3
  have HWR : Hid (IntKind.i64.wrap (x.cmd.client + 1) = x.cmd.client + 1) := by unfold Hid; simp [IntKind.wrap, IntKind.signed, IntKind.bits]; omega
  go_enter Try.func115, Try.ntmps115
  go_wp2_with fail
  have P0 := heap_alloc_new w (.cells #[.int .i64 x.term, .int .i64 x.cmd.client, .int .i64 x.cmd.req, .int .i64 x.cmd.op.kind, kv, vv, .int .i64 x.cmd.op.n] 57 (0, 0))
  have X0 := hE w (.cells #[.int .i64 x.term, .int .i64 x.cmd.client, .int .i64 x.cmd.req, .int .i64 x.cmd.op.kind, kv, vv, .int .i64 x.cmd.op.n] 57 (0, 0))
  have B0 : Below w.heap.size w (w.alloc (.cells #[.int .i64 x.term, .int .i64 x.cmd.client, .int .i64 x.cmd.req, .int .i64 x.cmd.op.kind, kv, vv, .int .i64 x.cmd.op.n] 57 (0, 0))) := (Below.refl _ w).alloc (Nat.le_refl _) _
  generalize w.alloc (.cells #[.int .i64 x.term, .int .i64 x.cmd.client, .int .i64 x.cmd.req, .int .i64 x.cmd.op.kind, kv, vv, .int .i64 x.cmd.op.n] 57 (0, 0)) = W at P0 X0 B0 ⊢
  obtain ⟨Q0, c0, c1, c2, c3, c4, c5, c6⟩ := cellsB7 P0 (Below.refl _ W)
  have e0 : W.drew.heap.size = W.heap.size := rfl
  have rIn := h.ext X0
  have XDa : Ext W W.drew := ext_drewN W 1
  go_region_held3 (fun w' => w'.cell? ⟨w.heap.size, 0, none⟩ = some (.int .i64 x.term) ∧ w'.cell? ⟨w.heap.size, 1, none⟩ = some (.int .i64 x.cmd.client) ∧ w'.cell? ⟨w.heap.size, 2, none⟩ = some (.int .i64 x.cmd.req) ∧ w'.cell? ⟨w.heap.size, 3, none⟩ = some (.int .i64 x.cmd.op.kind) ∧ w'.cell? ⟨w.heap.size, 4, none⟩ = some kv ∧ w'.cell? ⟨w.heap.size, 5, none⟩ = some vv ∧ w'.cell? ⟨w.heap.size, 6, none⟩ = some (.int .i64 x.cmd.op.n)) (simp [*])
    (first
      | (go_at_call 127; refine (sOpL _ _ x3 x.cmd.op _ ra3 ⟨kv, vv, rfl, (rk.ext X0).ext (((XDa.tr (ext_below ba1)).tr (ext_below ba2)).tr (ext_below ba3)), (rv.ext X0).ext (((XDa.tr (ext_below ba1)).tr (ext_below ba2)).tr (ext_below ba3))⟩ (by omega) hk hv).mono ?_; rintro e wa4 ⟨va4, rfl, ra4, oa4, ba4⟩; obtain ⟨Qa4, c0, c1, c2, c3, c4, c5, c6⟩ := cellsB7 Qa3 ba4)
      | (go_at_call 114; refine (sPutV _ x2 x.cmd.req _ ra2 (by omega)).mono ?_; rw [H3.out]; rintro e wa3 ⟨va3, rfl, ra3, oa3, ba3⟩; obtain ⟨Qa3, c0, c1, c2, c3, c4, c5, c6⟩ := cellsB7 Qa2 ba3)
      | (go_at_call 114; refine (sPutV _ x1 (IntKind.i64.wrap (x.cmd.client + 1)) _ ra1 (by omega)).mono ?_; rw [HWR.out, H2.out]; rintro e wa2 ⟨va2, rfl, ra2, oa2, ba2⟩; obtain ⟨Qa2, c0, c1, c2, c3, c4, c5, c6⟩ := cellsB7 Qa1 ba2)
      | (go_at_call 114; refine (sPutV _ xs x.term _ (rIn.ext XDa) (by omega)).mono ?_; rw [H1.out]; rintro e wa1 ⟨va1, rfl, ra1, oa1, ba1⟩; obtain ⟨Qa1, c0, c1, c2, c3, c4, c5, c6⟩ := cellsB7 (w := W.drew) Q0 ba1))
  all_goals
    go_wp2
    go_ret
    have s0 := B0.size
    have s1 := ba1.size
    have s2 := ba2.size
    have s3 := ba3.size
    refine ⟨_, rfl, ?_, ?_, ?_⟩
    · rw [HL.out]; exact ra4
    · rw [HL.out]; exact ow_base oa4 (by omega)
    · exact (((((below_drewN B0 1).trans (ba1.mono (by omega))).trans (ba2.mono (by omega))).trans (ba3.mono (by omega))).trans (ba4.mono (by omega)))

/-- The bytes of a message's head. -/
def headL (k : Int) (M : DMsg) : List Int := [] ++ numL k ++ numL M.from_ ++ numL M.to ++ numL M.term
theorem headL_le (k : Int) (M : DMsg) : (headL k M).length ≤ 20 := by
  unfold headL
  have h1 := putL_le ([] ++ numL k ++ numL M.from_ ++ numL M.to) M.term
  have h2 := putL_le ([] ++ numL k ++ numL M.from_) M.to
  have h3 := putL_le ([] ++ numL k) M.from_
  have h4 := putL_le [] k
  simp only [List.length_nil] at h4
  omega
def yesI (b : Bool) : Int := if b then 1 else 0
/-- The bytes of a message. -/
def bytesL (M : DMsg) : List Int :=
  if M.kind = 0 then headL 0 M ++ numL M.prev ++ numL M.prevTerm
  else if M.kind = 2 then M.items.foldl itL (headL 2 M ++ numL M.prev ++ numL M.prevTerm ++ numL M.commit ++ numL M.items.length)
  else if M.kind = 3 then headL 3 M ++ numL M.prev ++ numL (yesI M.yes)
  else headL 1 M ++ numL (yesI M.yes)

theorem its_next (xs : List Int) (rs : List DItem) (k : Nat) (d : DItem) (h : rs[k]? = some d) : (rs.take (k + 1)).foldl itL xs = itL ((rs.take k).foldl itL xs) d := by
  obtain ⟨hk, he⟩ := List.getElem?_eq_some_iff.1 h
  rw [List.take_succ_eq_append_getElem hk, List.foldl_append, he]
  rfl
theorem its_le (xs : List Int) (rs : List DItem) : (rs.foldl itL xs).length ≤ xs.length + 75 * rs.length := by
  induction rs generalizing xs with
  | nil => simp
  | cons r rs ih =>
    have h1 := ih (itL xs r)
    have h2 := itL_le xs r
    simp only [List.foldl_cons, List.length_cons]
    omega

set_option maxRecDepth 20000 in
set_option maxHeartbeats 8000000 in
theorem sB_ask (M : DMsg) (iv : Value) (hi : ∃ a c, iv = .slice a M.items.length c) (w : World) :
    Calls Try.prog 74 #[.agg #[.int .i64 0, .int .i64 M.from_, .int .i64 M.to, .int .i64 M.term, .int .i64 M.prev, .int .i64 M.prevTerm, iv, .int .i64 M.commit, .bool M.yes]] w (PutPost w (headL 0 M ++ numL M.prev ++ numL M.prevTerm)) := by
  have hE : ∀ w : World, ∀ o, Ext w (w.alloc o) := fun w o => World.grownBy_alloc _ _ _
  obtain ⟨ia, ic, rfl⟩ := hi
  obtain ⟨y1, hy1⟩ : ∃ y, y = [] ++ numL (0) := ⟨_, rfl⟩
  have m1 := putL_le [] (0)
  rw [← hy1] at m1
  obtain ⟨y2, hy2⟩ : ∃ y, y = y1 ++ numL (M.from_) := ⟨_, rfl⟩
  have m2 := putL_le y1 (M.from_)
  rw [← hy2] at m2
  obtain ⟨y3, hy3⟩ : ∃ y, y = y2 ++ numL (M.to) := ⟨_, rfl⟩
  have m3 := putL_le y2 (M.to)
  rw [← hy3] at m3
  obtain ⟨y4, hy4⟩ : ∃ y, y = y3 ++ numL (M.term) := ⟨_, rfl⟩
  have m4 := putL_le y3 (M.term)
  rw [← hy4] at m4
  have HH : Hid (headL 0 M = y4) := by unfold Hid; rw [hy4, hy3, hy2, hy1]; rfl
  have G1 : Hid ([] ++ numL (0) = y1) := hy1.symm
  have G2 : Hid (y1 ++ numL (M.from_) = y2) := hy2.symm
  have G3 : Hid (y2 ++ numL (M.to) = y3) := hy3.symm
  have G4 : Hid (y3 ++ numL (M.term) = y4) := hy4.symm
  simp only [List.length_nil] at m1
  clear hy1 hy2 hy3 hy4
  go_enter Try.func74, Try.ntmps74
  go_wp2_with fail
  have P0 := heap_alloc_new w (.cells #[.int .i64 0, .int .i64 M.from_, .int .i64 M.to, .int .i64 M.term, .int .i64 M.prev, .int .i64 M.prevTerm, .slice ia M.items.length ic, .int .i64 M.commit, .bool M.yes] 68 (0, 0))
  have X0 := hE w (.cells #[.int .i64 0, .int .i64 M.from_, .int .i64 M.to, .int .i64 M.term, .int .i64 M.prev, .int .i64 M.prevTerm, .slice ia M.items.length ic, .int .i64 M.commit, .bool M.yes] 68 (0, 0))
  have B0 : Below w.heap.size w (w.alloc (.cells #[.int .i64 0, .int .i64 M.from_, .int .i64 M.to, .int .i64 M.term, .int .i64 M.prev, .int .i64 M.prevTerm, .slice ia M.items.length ic, .int .i64 M.commit, .bool M.yes] 68 (0, 0))) := (Below.refl _ w).alloc (Nat.le_refl _) _
  generalize w.alloc (.cells #[.int .i64 0, .int .i64 M.from_, .int .i64 M.to, .int .i64 M.term, .int .i64 M.prev, .int .i64 M.prevTerm, .slice ia M.items.length ic, .int .i64 M.commit, .bool M.yes] 68 (0, 0)) = W at P0 X0 B0 ⊢
  obtain ⟨Q0, c0, c1, c2, c3, c4, c5, c6, c7, c8⟩ := cellsB9 P0 (Below.refl _ W)
  have e0 : W.drew.heap.size = W.heap.size := rfl
  have rIn := rv_nil W
  have XDh : Ext W W.drew := ext_drewN W 1
  go_region_held3 (fun w' => w'.cell? ⟨w.heap.size, 0, none⟩ = some (.int .i64 0) ∧ w'.cell? ⟨w.heap.size, 1, none⟩ = some (.int .i64 M.from_) ∧ w'.cell? ⟨w.heap.size, 2, none⟩ = some (.int .i64 M.to) ∧ w'.cell? ⟨w.heap.size, 3, none⟩ = some (.int .i64 M.term) ∧ w'.cell? ⟨w.heap.size, 4, none⟩ = some (.int .i64 M.prev) ∧ w'.cell? ⟨w.heap.size, 5, none⟩ = some (.int .i64 M.prevTerm) ∧ w'.cell? ⟨w.heap.size, 6, none⟩ = some (.slice ia M.items.length ic) ∧ w'.cell? ⟨w.heap.size, 7, none⟩ = some (.int .i64 M.commit) ∧ w'.cell? ⟨w.heap.size, 8, none⟩ = some (.bool M.yes)) (simp [*])
    (first
      | (go_at_call 114; refine (sPutV _ y3 (M.term) _ rh3 (by first | omega | simp)).mono ?_; rw [G4.out]; rintro e wh4 ⟨vh4, rfl, rh4, oh4, bh4⟩; obtain ⟨Qh4, c0, c1, c2, c3, c4, c5, c6, c7, c8⟩ := cellsB9 Qh3 bh4)
      | (go_at_call 114; refine (sPutV _ y2 (M.to) _ rh2 (by first | omega | simp)).mono ?_; rw [G3.out]; rintro e wh3 ⟨vh3, rfl, rh3, oh3, bh3⟩; obtain ⟨Qh3, c0, c1, c2, c3, c4, c5, c6, c7, c8⟩ := cellsB9 Qh2 bh3)
      | (go_at_call 114; refine (sPutV _ y1 (M.from_) _ rh1 (by first | omega | simp)).mono ?_; rw [G2.out]; rintro e wh2 ⟨vh2, rfl, rh2, oh2, bh2⟩; obtain ⟨Qh2, c0, c1, c2, c3, c4, c5, c6, c7, c8⟩ := cellsB9 Qh1 bh2)
      | (go_at_call 114; refine (sPutV _ [] (0) _ (rIn.ext XDh) (by first | omega | simp)).mono ?_; rw [G1.out]; rintro e wh1 ⟨vh1, rfl, rh1, oh1, bh1⟩; obtain ⟨Qh1, c0, c1, c2, c3, c4, c5, c6, c7, c8⟩ := cellsB9 (w := W.drew) Q0 bh1))
  have s0 := B0.size
  have sh1 := bh1.size
  have sh2 := bh2.size
  have sh3 := bh3.size
  have sh4 := bh4.size
  have Bh := (((((below_drewN B0 1).trans (bh1.mono (by omega))).trans (bh2.mono (by omega))).trans (bh3.mono (by omega))).trans (bh4.mono (by omega)))
  have sh : w.heap.size ≤ wh4.heap.size := Bh.size
  obtain ⟨z1, hz1⟩ : ∃ z, z = y4 ++ numL M.prev := ⟨_, rfl⟩
  have n1 := putL_le y4 M.prev
  rw [← hz1] at n1
  have HL : Hid (headL 0 M ++ numL M.prev ++ numL M.prevTerm = z1 ++ numL M.prevTerm) := by unfold Hid; rw [hz1, HH.out]
  have F1 : Hid (y4 ++ numL M.prev = z1) := hz1.symm
  clear hz1
  go_wp2_with fail
  have XDp : Ext wh4 wh4.drew := ext_drewN wh4 1
  go_region_held3 (fun w' => w'.cell? ⟨w.heap.size, 0, none⟩ = some (.int .i64 0) ∧ w'.cell? ⟨w.heap.size, 1, none⟩ = some (.int .i64 M.from_) ∧ w'.cell? ⟨w.heap.size, 2, none⟩ = some (.int .i64 M.to) ∧ w'.cell? ⟨w.heap.size, 3, none⟩ = some (.int .i64 M.term) ∧ w'.cell? ⟨w.heap.size, 4, none⟩ = some (.int .i64 M.prev) ∧ w'.cell? ⟨w.heap.size, 5, none⟩ = some (.int .i64 M.prevTerm) ∧ w'.cell? ⟨w.heap.size, 6, none⟩ = some (.slice ia M.items.length ic) ∧ w'.cell? ⟨w.heap.size, 7, none⟩ = some (.int .i64 M.commit) ∧ w'.cell? ⟨w.heap.size, 8, none⟩ = some (.bool M.yes)) (simp [*])
    (first
      | (go_at_call 114; refine (sPutV _ z1 M.prevTerm _ rp1 (by omega)).mono ?_; rintro e wp2 ⟨vp2, rfl, rp2, op2, bp2⟩; obtain ⟨Qp2, c0, c1, c2, c3, c4, c5, c6, c7, c8⟩ := cellsB9 Qp1 bp2)
      | (go_at_call 114; refine (sPutV _ y4 M.prev _ (rh4.ext XDp) (by omega)).mono ?_; rw [F1.out]; rintro e wp1 ⟨vp1, rfl, rp1, op1, bp1⟩; obtain ⟨Qp1, c0, c1, c2, c3, c4, c5, c6, c7, c8⟩ := cellsB9 (w := wh4.drew) Qh4 bp1))
  all_goals
    go_wp2
    go_ret
    have s1 := bp1.size
    have e1 : wh4.drew.heap.size = wh4.heap.size := rfl
    refine ⟨_, rfl, ?_, ?_, ?_⟩
    · rw [HL.out]; exact rp2
    · rw [HL.out]; exact ow_base op2 (by omega)
    · exact (((below_drewN Bh 1).trans (bp1.mono (by omega))).trans (bp2.mono (by omega)))

set_option maxRecDepth 20000 in
set_option maxHeartbeats 8000000 in
theorem sB_vote1 (M : DMsg) (iv : Value) (hi : ∃ a c, iv = .slice a M.items.length c) (w : World) (hy : M.yes = true) :
    Calls Try.prog 74 #[.agg #[.int .i64 1, .int .i64 M.from_, .int .i64 M.to, .int .i64 M.term, .int .i64 M.prev, .int .i64 M.prevTerm, iv, .int .i64 M.commit, .bool M.yes]] w (PutPost w (headL 1 M ++ numL 1)) := by
  rw [hy]
  clear hy
  have hE : ∀ w : World, ∀ o, Ext w (w.alloc o) := fun w o => World.grownBy_alloc _ _ _
  obtain ⟨ia, ic, rfl⟩ := hi
  obtain ⟨y1, hy1⟩ : ∃ y, y = [] ++ numL (1) := ⟨_, rfl⟩
  have m1 := putL_le [] (1)
  rw [← hy1] at m1
  obtain ⟨y2, hy2⟩ : ∃ y, y = y1 ++ numL (M.from_) := ⟨_, rfl⟩
  have m2 := putL_le y1 (M.from_)
  rw [← hy2] at m2
  obtain ⟨y3, hy3⟩ : ∃ y, y = y2 ++ numL (M.to) := ⟨_, rfl⟩
  have m3 := putL_le y2 (M.to)
  rw [← hy3] at m3
  obtain ⟨y4, hy4⟩ : ∃ y, y = y3 ++ numL (M.term) := ⟨_, rfl⟩
  have m4 := putL_le y3 (M.term)
  rw [← hy4] at m4
  have HH : Hid (headL 1 M = y4) := by unfold Hid; rw [hy4, hy3, hy2, hy1]; rfl
  have G1 : Hid ([] ++ numL (1) = y1) := hy1.symm
  have G2 : Hid (y1 ++ numL (M.from_) = y2) := hy2.symm
  have G3 : Hid (y2 ++ numL (M.to) = y3) := hy3.symm
  have G4 : Hid (y3 ++ numL (M.term) = y4) := hy4.symm
  simp only [List.length_nil] at m1
  clear hy1 hy2 hy3 hy4
  go_enter Try.func74, Try.ntmps74
  go_wp2_with fail
  have P0 := heap_alloc_new w (.cells #[.int .i64 1, .int .i64 M.from_, .int .i64 M.to, .int .i64 M.term, .int .i64 M.prev, .int .i64 M.prevTerm, .slice ia M.items.length ic, .int .i64 M.commit, .bool true] 68 (0, 0))
  have X0 := hE w (.cells #[.int .i64 1, .int .i64 M.from_, .int .i64 M.to, .int .i64 M.term, .int .i64 M.prev, .int .i64 M.prevTerm, .slice ia M.items.length ic, .int .i64 M.commit, .bool true] 68 (0, 0))
  have B0 : Below w.heap.size w (w.alloc (.cells #[.int .i64 1, .int .i64 M.from_, .int .i64 M.to, .int .i64 M.term, .int .i64 M.prev, .int .i64 M.prevTerm, .slice ia M.items.length ic, .int .i64 M.commit, .bool true] 68 (0, 0))) := (Below.refl _ w).alloc (Nat.le_refl _) _
  generalize w.alloc (.cells #[.int .i64 1, .int .i64 M.from_, .int .i64 M.to, .int .i64 M.term, .int .i64 M.prev, .int .i64 M.prevTerm, .slice ia M.items.length ic, .int .i64 M.commit, .bool true] 68 (0, 0)) = W at P0 X0 B0 ⊢
  obtain ⟨Q0, c0, c1, c2, c3, c4, c5, c6, c7, c8⟩ := cellsB9 P0 (Below.refl _ W)
  have e0 : W.drew.heap.size = W.heap.size := rfl
  have rIn := rv_nil W
  have XDh : Ext W W.drew := ext_drewN W 1
  go_region_held3 (fun w' => w'.cell? ⟨w.heap.size, 0, none⟩ = some (.int .i64 1) ∧ w'.cell? ⟨w.heap.size, 1, none⟩ = some (.int .i64 M.from_) ∧ w'.cell? ⟨w.heap.size, 2, none⟩ = some (.int .i64 M.to) ∧ w'.cell? ⟨w.heap.size, 3, none⟩ = some (.int .i64 M.term) ∧ w'.cell? ⟨w.heap.size, 4, none⟩ = some (.int .i64 M.prev) ∧ w'.cell? ⟨w.heap.size, 5, none⟩ = some (.int .i64 M.prevTerm) ∧ w'.cell? ⟨w.heap.size, 6, none⟩ = some (.slice ia M.items.length ic) ∧ w'.cell? ⟨w.heap.size, 7, none⟩ = some (.int .i64 M.commit) ∧ w'.cell? ⟨w.heap.size, 8, none⟩ = some (.bool true)) (simp [*])
    (first
      | (go_at_call 114; refine (sPutV _ y3 (M.term) _ rh3 (by first | omega | simp)).mono ?_; rw [G4.out]; rintro e wh4 ⟨vh4, rfl, rh4, oh4, bh4⟩; obtain ⟨Qh4, c0, c1, c2, c3, c4, c5, c6, c7, c8⟩ := cellsB9 Qh3 bh4)
      | (go_at_call 114; refine (sPutV _ y2 (M.to) _ rh2 (by first | omega | simp)).mono ?_; rw [G3.out]; rintro e wh3 ⟨vh3, rfl, rh3, oh3, bh3⟩; obtain ⟨Qh3, c0, c1, c2, c3, c4, c5, c6, c7, c8⟩ := cellsB9 Qh2 bh3)
      | (go_at_call 114; refine (sPutV _ y1 (M.from_) _ rh1 (by first | omega | simp)).mono ?_; rw [G2.out]; rintro e wh2 ⟨vh2, rfl, rh2, oh2, bh2⟩; obtain ⟨Qh2, c0, c1, c2, c3, c4, c5, c6, c7, c8⟩ := cellsB9 Qh1 bh2)
      | (go_at_call 114; refine (sPutV _ [] (1) _ (rIn.ext XDh) (by first | omega | simp)).mono ?_; rw [G1.out]; rintro e wh1 ⟨vh1, rfl, rh1, oh1, bh1⟩; obtain ⟨Qh1, c0, c1, c2, c3, c4, c5, c6, c7, c8⟩ := cellsB9 (w := W.drew) Q0 bh1))
  have s0 := B0.size
  have sh1 := bh1.size
  have sh2 := bh2.size
  have sh3 := bh3.size
  have sh4 := bh4.size
  have Bh := (((((below_drewN B0 1).trans (bh1.mono (by omega))).trans (bh2.mono (by omega))).trans (bh3.mono (by omega))).trans (bh4.mono (by omega)))
  have sh : w.heap.size ≤ wh4.heap.size := Bh.size
  go_wp2_with fail
  refine (sPutV _ y4 1 _ rh4 (by omega)).mono ?_
  rintro e wp2 ⟨vp2, rfl, rp2, op2, bp2⟩
  go_wp2
  go_ret
  refine ⟨_, rfl, ?_, ?_, ?_⟩
  · rw [HH.out]; exact rp2
  · rw [HH.out]; exact ow_base op2 (by omega)
  · exact Bh.trans (bp2.mono (by omega))

set_option maxRecDepth 20000 in
set_option maxHeartbeats 8000000 in
theorem sB_ack1 (M : DMsg) (iv : Value) (hi : ∃ a c, iv = .slice a M.items.length c) (w : World) (hy : M.yes = true) :
    Calls Try.prog 74 #[.agg #[.int .i64 3, .int .i64 M.from_, .int .i64 M.to, .int .i64 M.term, .int .i64 M.prev, .int .i64 M.prevTerm, iv, .int .i64 M.commit, .bool M.yes]] w (PutPost w (headL 3 M ++ numL M.prev ++ numL 1)) := by
  rw [hy]
  clear hy
  have hE : ∀ w : World, ∀ o, Ext w (w.alloc o) := fun w o => World.grownBy_alloc _ _ _
  obtain ⟨ia, ic, rfl⟩ := hi
  obtain ⟨y1, hy1⟩ : ∃ y, y = [] ++ numL (3) := ⟨_, rfl⟩
  have m1 := putL_le [] (3)
  rw [← hy1] at m1
  obtain ⟨y2, hy2⟩ : ∃ y, y = y1 ++ numL (M.from_) := ⟨_, rfl⟩
  have m2 := putL_le y1 (M.from_)
  rw [← hy2] at m2
  obtain ⟨y3, hy3⟩ : ∃ y, y = y2 ++ numL (M.to) := ⟨_, rfl⟩
  have m3 := putL_le y2 (M.to)
  rw [← hy3] at m3
  obtain ⟨y4, hy4⟩ : ∃ y, y = y3 ++ numL (M.term) := ⟨_, rfl⟩
  have m4 := putL_le y3 (M.term)
  rw [← hy4] at m4
  have HH : Hid (headL 3 M = y4) := by unfold Hid; rw [hy4, hy3, hy2, hy1]; rfl
  have G1 : Hid ([] ++ numL (3) = y1) := hy1.symm
  have G2 : Hid (y1 ++ numL (M.from_) = y2) := hy2.symm
  have G3 : Hid (y2 ++ numL (M.to) = y3) := hy3.symm
  have G4 : Hid (y3 ++ numL (M.term) = y4) := hy4.symm
  simp only [List.length_nil] at m1
  clear hy1 hy2 hy3 hy4
  go_enter Try.func74, Try.ntmps74
  go_wp2_with fail
  have P0 := heap_alloc_new w (.cells #[.int .i64 3, .int .i64 M.from_, .int .i64 M.to, .int .i64 M.term, .int .i64 M.prev, .int .i64 M.prevTerm, .slice ia M.items.length ic, .int .i64 M.commit, .bool true] 68 (0, 0))
  have X0 := hE w (.cells #[.int .i64 3, .int .i64 M.from_, .int .i64 M.to, .int .i64 M.term, .int .i64 M.prev, .int .i64 M.prevTerm, .slice ia M.items.length ic, .int .i64 M.commit, .bool true] 68 (0, 0))
  have B0 : Below w.heap.size w (w.alloc (.cells #[.int .i64 3, .int .i64 M.from_, .int .i64 M.to, .int .i64 M.term, .int .i64 M.prev, .int .i64 M.prevTerm, .slice ia M.items.length ic, .int .i64 M.commit, .bool true] 68 (0, 0))) := (Below.refl _ w).alloc (Nat.le_refl _) _
  generalize w.alloc (.cells #[.int .i64 3, .int .i64 M.from_, .int .i64 M.to, .int .i64 M.term, .int .i64 M.prev, .int .i64 M.prevTerm, .slice ia M.items.length ic, .int .i64 M.commit, .bool true] 68 (0, 0)) = W at P0 X0 B0 ⊢
  obtain ⟨Q0, c0, c1, c2, c3, c4, c5, c6, c7, c8⟩ := cellsB9 P0 (Below.refl _ W)
  have e0 : W.drew.heap.size = W.heap.size := rfl
  have rIn := rv_nil W
  have XDh : Ext W W.drew := ext_drewN W 1
  go_region_held3 (fun w' => w'.cell? ⟨w.heap.size, 0, none⟩ = some (.int .i64 3) ∧ w'.cell? ⟨w.heap.size, 1, none⟩ = some (.int .i64 M.from_) ∧ w'.cell? ⟨w.heap.size, 2, none⟩ = some (.int .i64 M.to) ∧ w'.cell? ⟨w.heap.size, 3, none⟩ = some (.int .i64 M.term) ∧ w'.cell? ⟨w.heap.size, 4, none⟩ = some (.int .i64 M.prev) ∧ w'.cell? ⟨w.heap.size, 5, none⟩ = some (.int .i64 M.prevTerm) ∧ w'.cell? ⟨w.heap.size, 6, none⟩ = some (.slice ia M.items.length ic) ∧ w'.cell? ⟨w.heap.size, 7, none⟩ = some (.int .i64 M.commit) ∧ w'.cell? ⟨w.heap.size, 8, none⟩ = some (.bool true)) (simp [*])
    (first
      | (go_at_call 114; refine (sPutV _ y3 (M.term) _ rh3 (by first | omega | simp)).mono ?_; rw [G4.out]; rintro e wh4 ⟨vh4, rfl, rh4, oh4, bh4⟩; obtain ⟨Qh4, c0, c1, c2, c3, c4, c5, c6, c7, c8⟩ := cellsB9 Qh3 bh4)
      | (go_at_call 114; refine (sPutV _ y2 (M.to) _ rh2 (by first | omega | simp)).mono ?_; rw [G3.out]; rintro e wh3 ⟨vh3, rfl, rh3, oh3, bh3⟩; obtain ⟨Qh3, c0, c1, c2, c3, c4, c5, c6, c7, c8⟩ := cellsB9 Qh2 bh3)
      | (go_at_call 114; refine (sPutV _ y1 (M.from_) _ rh1 (by first | omega | simp)).mono ?_; rw [G2.out]; rintro e wh2 ⟨vh2, rfl, rh2, oh2, bh2⟩; obtain ⟨Qh2, c0, c1, c2, c3, c4, c5, c6, c7, c8⟩ := cellsB9 Qh1 bh2)
      | (go_at_call 114; refine (sPutV _ [] (3) _ (rIn.ext XDh) (by first | omega | simp)).mono ?_; rw [G1.out]; rintro e wh1 ⟨vh1, rfl, rh1, oh1, bh1⟩; obtain ⟨Qh1, c0, c1, c2, c3, c4, c5, c6, c7, c8⟩ := cellsB9 (w := W.drew) Q0 bh1))
  have s0 := B0.size
  have sh1 := bh1.size
  have sh2 := bh2.size
  have sh3 := bh3.size
  have sh4 := bh4.size
  have Bh := (((((below_drewN B0 1).trans (bh1.mono (by omega))).trans (bh2.mono (by omega))).trans (bh3.mono (by omega))).trans (bh4.mono (by omega)))
  have sh : w.heap.size ≤ wh4.heap.size := Bh.size
  obtain ⟨z1, hz1⟩ : ∃ z, z = y4 ++ numL M.prev := ⟨_, rfl⟩
  have n1 := putL_le y4 M.prev
  rw [← hz1] at n1
  have HL : Hid (headL 3 M ++ numL M.prev ++ numL 1 = z1 ++ numL 1) := by unfold Hid; rw [hz1, HH.out]
  have F1 : Hid (y4 ++ numL M.prev = z1) := hz1.symm
  clear hz1
  go_wp2_with fail
  refine (sPutV _ y4 M.prev _ rh4 (by omega)).mono ?_
  rw [F1.out]
  rintro e wp1 ⟨vp1, rfl, rp1, op1, bp1⟩
  obtain ⟨Qp1, c0, c1, c2, c3, c4, c5, c6, c7, c8⟩ := cellsB9 Qh4 bp1
  have s1 := bp1.size
  go_wp2_with fail
  refine (sPutV _ z1 1 _ rp1 (by omega)).mono ?_
  rintro e wp2 ⟨vp2, rfl, rp2, op2, bp2⟩
  go_wp2
  go_ret
  refine ⟨_, rfl, ?_, ?_, ?_⟩
  · rw [HL.out]; exact rp2
  · rw [HL.out]; exact ow_base op2 (by omega)
  · exact (Bh.trans (bp1.mono (by omega))).trans (bp2.mono (by omega))

set_option maxRecDepth 20000 in
set_option maxHeartbeats 8000000 in
theorem sB_vote0 (M : DMsg) (iv : Value) (hi : ∃ a c, iv = .slice a M.items.length c) (w : World) (hy : M.yes = false) :
    Calls Try.prog 74 #[.agg #[.int .i64 1, .int .i64 M.from_, .int .i64 M.to, .int .i64 M.term, .int .i64 M.prev, .int .i64 M.prevTerm, iv, .int .i64 M.commit, .bool M.yes]] w (PutPost w (headL 1 M ++ numL 0)) := by
  rw [hy]
  clear hy
  have hE : ∀ w : World, ∀ o, Ext w (w.alloc o) := fun w o => World.grownBy_alloc _ _ _
  obtain ⟨ia, ic, rfl⟩ := hi
  obtain ⟨y1, hy1⟩ : ∃ y, y = [] ++ numL (1) := ⟨_, rfl⟩
  have m1 := putL_le [] (1)
  rw [← hy1] at m1
  obtain ⟨y2, hy2⟩ : ∃ y, y = y1 ++ numL (M.from_) := ⟨_, rfl⟩
  have m2 := putL_le y1 (M.from_)
  rw [← hy2] at m2
  obtain ⟨y3, hy3⟩ : ∃ y, y = y2 ++ numL (M.to) := ⟨_, rfl⟩
  have m3 := putL_le y2 (M.to)
  rw [← hy3] at m3
  obtain ⟨y4, hy4⟩ : ∃ y, y = y3 ++ numL (M.term) := ⟨_, rfl⟩
  have m4 := putL_le y3 (M.term)
  rw [← hy4] at m4
  have HH : Hid (headL 1 M = y4) := by unfold Hid; rw [hy4, hy3, hy2, hy1]; rfl
  have G1 : Hid ([] ++ numL (1) = y1) := hy1.symm
  have G2 : Hid (y1 ++ numL (M.from_) = y2) := hy2.symm
  have G3 : Hid (y2 ++ numL (M.to) = y3) := hy3.symm
  have G4 : Hid (y3 ++ numL (M.term) = y4) := hy4.symm
  simp only [List.length_nil] at m1
  clear hy1 hy2 hy3 hy4
  go_enter Try.func74, Try.ntmps74
  go_wp2_with fail
  have P0 := heap_alloc_new w (.cells #[.int .i64 1, .int .i64 M.from_, .int .i64 M.to, .int .i64 M.term, .int .i64 M.prev, .int .i64 M.prevTerm, .slice ia M.items.length ic, .int .i64 M.commit, .bool false] 68 (0, 0))
  have X0 := hE w (.cells #[.int .i64 1, .int .i64 M.from_, .int .i64 M.to, .int .i64 M.term, .int .i64 M.prev, .int .i64 M.prevTerm, .slice ia M.items.length ic, .int .i64 M.commit, .bool false] 68 (0, 0))
  have B0 : Below w.heap.size w (w.alloc (.cells #[.int .i64 1, .int .i64 M.from_, .int .i64 M.to, .int .i64 M.term, .int .i64 M.prev, .int .i64 M.prevTerm, .slice ia M.items.length ic, .int .i64 M.commit, .bool false] 68 (0, 0))) := (Below.refl _ w).alloc (Nat.le_refl _) _
  generalize w.alloc (.cells #[.int .i64 1, .int .i64 M.from_, .int .i64 M.to, .int .i64 M.term, .int .i64 M.prev, .int .i64 M.prevTerm, .slice ia M.items.length ic, .int .i64 M.commit, .bool false] 68 (0, 0)) = W at P0 X0 B0 ⊢
  obtain ⟨Q0, c0, c1, c2, c3, c4, c5, c6, c7, c8⟩ := cellsB9 P0 (Below.refl _ W)
  have e0 : W.drew.heap.size = W.heap.size := rfl
  have rIn := rv_nil W
  have XDh : Ext W W.drew := ext_drewN W 1
  go_region_held3 (fun w' => w'.cell? ⟨w.heap.size, 0, none⟩ = some (.int .i64 1) ∧ w'.cell? ⟨w.heap.size, 1, none⟩ = some (.int .i64 M.from_) ∧ w'.cell? ⟨w.heap.size, 2, none⟩ = some (.int .i64 M.to) ∧ w'.cell? ⟨w.heap.size, 3, none⟩ = some (.int .i64 M.term) ∧ w'.cell? ⟨w.heap.size, 4, none⟩ = some (.int .i64 M.prev) ∧ w'.cell? ⟨w.heap.size, 5, none⟩ = some (.int .i64 M.prevTerm) ∧ w'.cell? ⟨w.heap.size, 6, none⟩ = some (.slice ia M.items.length ic) ∧ w'.cell? ⟨w.heap.size, 7, none⟩ = some (.int .i64 M.commit) ∧ w'.cell? ⟨w.heap.size, 8, none⟩ = some (.bool false)) (simp [*])
    (first
      | (go_at_call 114; refine (sPutV _ y3 (M.term) _ rh3 (by first | omega | simp)).mono ?_; rw [G4.out]; rintro e wh4 ⟨vh4, rfl, rh4, oh4, bh4⟩; obtain ⟨Qh4, c0, c1, c2, c3, c4, c5, c6, c7, c8⟩ := cellsB9 Qh3 bh4)
      | (go_at_call 114; refine (sPutV _ y2 (M.to) _ rh2 (by first | omega | simp)).mono ?_; rw [G3.out]; rintro e wh3 ⟨vh3, rfl, rh3, oh3, bh3⟩; obtain ⟨Qh3, c0, c1, c2, c3, c4, c5, c6, c7, c8⟩ := cellsB9 Qh2 bh3)
      | (go_at_call 114; refine (sPutV _ y1 (M.from_) _ rh1 (by first | omega | simp)).mono ?_; rw [G2.out]; rintro e wh2 ⟨vh2, rfl, rh2, oh2, bh2⟩; obtain ⟨Qh2, c0, c1, c2, c3, c4, c5, c6, c7, c8⟩ := cellsB9 Qh1 bh2)
      | (go_at_call 114; refine (sPutV _ [] (1) _ (rIn.ext XDh) (by first | omega | simp)).mono ?_; rw [G1.out]; rintro e wh1 ⟨vh1, rfl, rh1, oh1, bh1⟩; obtain ⟨Qh1, c0, c1, c2, c3, c4, c5, c6, c7, c8⟩ := cellsB9 (w := W.drew) Q0 bh1))
  have s0 := B0.size
  have sh1 := bh1.size
  have sh2 := bh2.size
  have sh3 := bh3.size
  have sh4 := bh4.size
  have Bh := (((((below_drewN B0 1).trans (bh1.mono (by omega))).trans (bh2.mono (by omega))).trans (bh3.mono (by omega))).trans (bh4.mono (by omega)))
  have sh : w.heap.size ≤ wh4.heap.size := Bh.size
  go_wp2_with fail
  refine (sPutV _ y4 0 _ rh4 (by omega)).mono ?_
  rintro e wp2 ⟨vp2, rfl, rp2, op2, bp2⟩
  go_wp2
  go_ret
  refine ⟨_, rfl, ?_, ?_, ?_⟩
  · rw [HH.out]; exact rp2
  · rw [HH.out]; exact ow_base op2 (by omega)
  · exact Bh.trans (bp2.mono (by omega))

set_option maxRecDepth 20000 in
set_option maxHeartbeats 8000000 in
theorem sB_ack0 (M : DMsg) (iv : Value) (hi : ∃ a c, iv = .slice a M.items.length c) (w : World) (hy : M.yes = false) :
    Calls Try.prog 74 #[.agg #[.int .i64 3, .int .i64 M.from_, .int .i64 M.to, .int .i64 M.term, .int .i64 M.prev, .int .i64 M.prevTerm, iv, .int .i64 M.commit, .bool M.yes]] w (PutPost w (headL 3 M ++ numL M.prev ++ numL 0)) := by
  rw [hy]
  clear hy
  have hE : ∀ w : World, ∀ o, Ext w (w.alloc o) := fun w o => World.grownBy_alloc _ _ _
  obtain ⟨ia, ic, rfl⟩ := hi
  obtain ⟨y1, hy1⟩ : ∃ y, y = [] ++ numL (3) := ⟨_, rfl⟩
  have m1 := putL_le [] (3)
  rw [← hy1] at m1
  obtain ⟨y2, hy2⟩ : ∃ y, y = y1 ++ numL (M.from_) := ⟨_, rfl⟩
  have m2 := putL_le y1 (M.from_)
  rw [← hy2] at m2
  obtain ⟨y3, hy3⟩ : ∃ y, y = y2 ++ numL (M.to) := ⟨_, rfl⟩
  have m3 := putL_le y2 (M.to)
  rw [← hy3] at m3
  obtain ⟨y4, hy4⟩ : ∃ y, y = y3 ++ numL (M.term) := ⟨_, rfl⟩
  have m4 := putL_le y3 (M.term)
  rw [← hy4] at m4
  have HH : Hid (headL 3 M = y4) := by unfold Hid; rw [hy4, hy3, hy2, hy1]; rfl
  have G1 : Hid ([] ++ numL (3) = y1) := hy1.symm
  have G2 : Hid (y1 ++ numL (M.from_) = y2) := hy2.symm
  have G3 : Hid (y2 ++ numL (M.to) = y3) := hy3.symm
  have G4 : Hid (y3 ++ numL (M.term) = y4) := hy4.symm
  simp only [List.length_nil] at m1
  clear hy1 hy2 hy3 hy4
  go_enter Try.func74, Try.ntmps74
  go_wp2_with fail
  have P0 := heap_alloc_new w (.cells #[.int .i64 3, .int .i64 M.from_, .int .i64 M.to, .int .i64 M.term, .int .i64 M.prev, .int .i64 M.prevTerm, .slice ia M.items.length ic, .int .i64 M.commit, .bool false] 68 (0, 0))
  have X0 := hE w (.cells #[.int .i64 3, .int .i64 M.from_, .int .i64 M.to, .int .i64 M.term, .int .i64 M.prev, .int .i64 M.prevTerm, .slice ia M.items.length ic, .int .i64 M.commit, .bool false] 68 (0, 0))
  have B0 : Below w.heap.size w (w.alloc (.cells #[.int .i64 3, .int .i64 M.from_, .int .i64 M.to, .int .i64 M.term, .int .i64 M.prev, .int .i64 M.prevTerm, .slice ia M.items.length ic, .int .i64 M.commit, .bool false] 68 (0, 0))) := (Below.refl _ w).alloc (Nat.le_refl _) _
  generalize w.alloc (.cells #[.int .i64 3, .int .i64 M.from_, .int .i64 M.to, .int .i64 M.term, .int .i64 M.prev, .int .i64 M.prevTerm, .slice ia M.items.length ic, .int .i64 M.commit, .bool false] 68 (0, 0)) = W at P0 X0 B0 ⊢
  obtain ⟨Q0, c0, c1, c2, c3, c4, c5, c6, c7, c8⟩ := cellsB9 P0 (Below.refl _ W)
  have e0 : W.drew.heap.size = W.heap.size := rfl
  have rIn := rv_nil W
  have XDh : Ext W W.drew := ext_drewN W 1
  go_region_held3 (fun w' => w'.cell? ⟨w.heap.size, 0, none⟩ = some (.int .i64 3) ∧ w'.cell? ⟨w.heap.size, 1, none⟩ = some (.int .i64 M.from_) ∧ w'.cell? ⟨w.heap.size, 2, none⟩ = some (.int .i64 M.to) ∧ w'.cell? ⟨w.heap.size, 3, none⟩ = some (.int .i64 M.term) ∧ w'.cell? ⟨w.heap.size, 4, none⟩ = some (.int .i64 M.prev) ∧ w'.cell? ⟨w.heap.size, 5, none⟩ = some (.int .i64 M.prevTerm) ∧ w'.cell? ⟨w.heap.size, 6, none⟩ = some (.slice ia M.items.length ic) ∧ w'.cell? ⟨w.heap.size, 7, none⟩ = some (.int .i64 M.commit) ∧ w'.cell? ⟨w.heap.size, 8, none⟩ = some (.bool false)) (simp [*])
    (first
      | (go_at_call 114; refine (sPutV _ y3 (M.term) _ rh3 (by first | omega | simp)).mono ?_; rw [G4.out]; rintro e wh4 ⟨vh4, rfl, rh4, oh4, bh4⟩; obtain ⟨Qh4, c0, c1, c2, c3, c4, c5, c6, c7, c8⟩ := cellsB9 Qh3 bh4)
      | (go_at_call 114; refine (sPutV _ y2 (M.to) _ rh2 (by first | omega | simp)).mono ?_; rw [G3.out]; rintro e wh3 ⟨vh3, rfl, rh3, oh3, bh3⟩; obtain ⟨Qh3, c0, c1, c2, c3, c4, c5, c6, c7, c8⟩ := cellsB9 Qh2 bh3)
      | (go_at_call 114; refine (sPutV _ y1 (M.from_) _ rh1 (by first | omega | simp)).mono ?_; rw [G2.out]; rintro e wh2 ⟨vh2, rfl, rh2, oh2, bh2⟩; obtain ⟨Qh2, c0, c1, c2, c3, c4, c5, c6, c7, c8⟩ := cellsB9 Qh1 bh2)
      | (go_at_call 114; refine (sPutV _ [] (3) _ (rIn.ext XDh) (by first | omega | simp)).mono ?_; rw [G1.out]; rintro e wh1 ⟨vh1, rfl, rh1, oh1, bh1⟩; obtain ⟨Qh1, c0, c1, c2, c3, c4, c5, c6, c7, c8⟩ := cellsB9 (w := W.drew) Q0 bh1))
  have s0 := B0.size
  have sh1 := bh1.size
  have sh2 := bh2.size
  have sh3 := bh3.size
  have sh4 := bh4.size
  have Bh := (((((below_drewN B0 1).trans (bh1.mono (by omega))).trans (bh2.mono (by omega))).trans (bh3.mono (by omega))).trans (bh4.mono (by omega)))
  have sh : w.heap.size ≤ wh4.heap.size := Bh.size
  obtain ⟨z1, hz1⟩ : ∃ z, z = y4 ++ numL M.prev := ⟨_, rfl⟩
  have n1 := putL_le y4 M.prev
  rw [← hz1] at n1
  have HL : Hid (headL 3 M ++ numL M.prev ++ numL 0 = z1 ++ numL 0) := by unfold Hid; rw [hz1, HH.out]
  have F1 : Hid (y4 ++ numL M.prev = z1) := hz1.symm
  clear hz1
  go_wp2_with fail
  refine (sPutV _ y4 M.prev _ rh4 (by omega)).mono ?_
  rw [F1.out]
  rintro e wp1 ⟨vp1, rfl, rp1, op1, bp1⟩
  obtain ⟨Qp1, c0, c1, c2, c3, c4, c5, c6, c7, c8⟩ := cellsB9 Qh4 bp1
  have s1 := bp1.size
  go_wp2_with fail
  refine (sPutV _ z1 0 _ rp1 (by omega)).mono ?_
  rintro e wp2 ⟨vp2, rfl, rp2, op2, bp2⟩
  go_wp2
  go_ret
  refine ⟨_, rfl, ?_, ?_, ?_⟩
  · rw [HL.out]; exact rp2
  · rw [HL.out]; exact ow_base op2 (by omega)
  · exact (Bh.trans (bp1.mono (by omega))).trans (bp2.mono (by omega))


end Go.Proofs.Ytplgnohncdfgcal
