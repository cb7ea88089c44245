/- The contract of the program's putWords: a name and tokens behind it, each behind a blank. -/
import Derived.Test.YtheojmjnpemkbaaDoorTk8
namespace Go.Proofs.YtheojmjnpemkbaaDoor
open Go.RowKit

/-- The value v is a slice that reads as the tokens ts, in a block that holds no bytes. -/
def VToks (w : World) (v : Value) (ts : List DTok) : Prop :=
  (ts = [] ∧ ∃ a cap, v = .slice a 0 cap) ∨
  ∃ g cap cs t fz, v = .slice (some ⟨g, 0, none⟩) ts.length cap ∧ w.heap[g]? = some (.cells cs t fz) ∧ t ≠ 5 ∧
    ∀ (i : Nat) (k : DTok), ts[i]? = some k → cs[i * 4]? = some (.int .i64 (k.kind : Int)) ∧ cs[i * 4 + 1]? = some (.int .i64 k.pos) ∧ cs[i * 4 + 2]? = some k.tv ∧ cs[i * 4 + 3]? = some (.int .i64 (k.n : Int))

theorem VToks.bk {B : Nat} {w w' : World} {v : Value} {ts : List DTok} (h : VToks w v ts) (b : Bk B w w') : VToks w' v ts := by
  rcases h with h | ⟨g, cap, cs, t, fz, h1, h2, h3, h4⟩
  · exact .inl h
  · exact .inr ⟨g, cap, cs, t, fz, h1, b.block h2 h3, h3, h4⟩
theorem VToks.at {w : World} {v : Value} {ts : List DTok} (h : VToks w v ts) {i : Nat} {k : DTok} (hi : ts[i]? = some k) : ∃ g cap, v = .slice (some ⟨g, 0, none⟩) ts.length cap ∧
    w.cell? ⟨g, i * 4, none⟩ = some (.int .i64 (k.kind : Int)) ∧ w.cell? ⟨g, i * 4 + 1, none⟩ = some (.int .i64 k.pos) ∧ w.cell? ⟨g, i * 4 + 2, none⟩ = some k.tv ∧ w.cell? ⟨g, i * 4 + 3, none⟩ = some (.int .i64 (k.n : Int)) := by
  rcases h with ⟨rfl, _⟩ | ⟨g, cap, cs, t, fz, rfl, h2, _, h4⟩
  · simp at hi
  · obtain ⟨a, b, c, d⟩ := h4 i k hi
    refine ⟨g, cap, rfl, ?_, ?_, ?_, ?_⟩
    all_goals rw [cell_of_row w g _ cs t fz h2]
    · exact a
    · exact b
    · exact c
    · exact d
theorem VToks.shape {w : World} {v : Value} {ts : List DTok} (h : VToks w v ts) : ∃ a cap, v = .slice a ts.length cap := by
  rcases h with ⟨rfl, a, cap, rfl⟩ | ⟨g, cap, cs, t, fz, rfl, _⟩
  · exact ⟨a, cap, rfl⟩
  · exact ⟨_, cap, rfl⟩

/-- Tokens, each behind a blank. -/
def toksL (ts : List DTok) : List Int := ts.flatMap fun t => 32 :: tokL t

theorem toksL_len {B : Nat} {w : World} {ts : List DTok} (h : ∀ t ∈ ts, TokOk B w t) : (toksL ts).length ≤ 3145731 * ts.length := by
  induction ts with
  | nil => simp [toksL]
  | cons t ts ih =>
    have h1 := tokL_len (h t (List.mem_cons_self ..))
    have h2 := ih fun t ht => h t (List.mem_cons_of_mem _ ht)
    simp only [toksL, List.flatMap_cons, List.length_append, List.length_cons] at h2 ⊢
    omega
theorem toksL_rng {B : Nat} {w : World} {ts : List DTok} (h : ∀ t ∈ ts, TokOk B w t) : ∀ x ∈ toksL ts, 0 ≤ x ∧ x ≤ 255 := by
  intro x hx
  obtain ⟨t, ht, hx⟩ := List.mem_flatMap.1 hx
  rcases List.mem_cons.1 hx with rfl | hx
  · omega
  · exact tokL_rng (h t ht) x hx
theorem toksL_take {ts : List DTok} {k : Nat} {t : DTok} (h : ts[k]? = some t) : toksL (ts.take (k + 1)) = toksL (ts.take k) ++ [32] ++ tokL t := by
  rw [List.take_add_one, h]
  simp [toksL]

set_option maxHeartbeats 2000000 in
theorem putWordsV (B : Nat) (v : Value) (xs : List Int) (s : ByteArray) (nm : List Int) (tv : Value) (ts : List DTok) (w : World) (h : Ow w B v xs) (hB : B ≤ w.heap.size) (hl : xs.length ≤ 500000000) (hs : Lib.strCells s = B8 nm) (hnm : nm.length ≤ 1000000)
    (hts : VToks w tv ts) (htl : ts.length ≤ 8) (hok : ∀ t ∈ ts, TokOk B w t) (hp : PowTab B w) :
    Calls Tryd.prog 56 #[v, .string s, tv] w fun e w' => ∃ v', e = .returned v' ∧ Ow w' B v' (xs ++ nm ++ toksL ts) ∧ Bk B w w' := by
  obtain ⟨i0, hi, hz0, hz1, hz2⟩ := info_parts info5
  have hss : s.size = nm.length := by
    have := congrArg List.length hs
    rw [Lib.strCells_length] at this
    simpa using this
  have HS : Hid (Lib.strCells s = B8 nm) := hs
  clear hs
  have HSS : Hid (s.size = nm.length) := hss
  clear hss
  obtain ⟨ta, tc, rfl⟩ := hts.shape
  have HV : Hid (VToks w (.slice ta ts.length tc) ts) := hts
  clear hts
  have HO : Hid (∀ t ∈ ts, TokOk B w t) := hok
  clear hok
  have HP : Hid (PowTab B w) := hp
  clear hp
  obtain ⟨n, hn⟩ : ∃ n, n = ts.length := ⟨_, rfl⟩
  have HN : Hid (n = ts.length) := hn
  rw [← hn] at HV htl ⊢
  clear hn
  go_enter Tryd.func56, Tryd.ntmps56
  go_wp2_with (at_builtin; refine Lib.wpList_append_own_string _ rfl _ _ 29 9 rfl B 5 i0 Tryd.underlying29 Tryd.underlying9 hi hz0 hz1 hz2 v xs.length (B8 xs) rfl h s rfl (by have := HSS.out; unfold maxLen; omega) (by have := HSS.out; omega) hB ?_; intro v1 w1 o1 g1 _; have o1' : Ow w1 B v1 (xs ++ nm) := (by show w1.ownsRow B 5 1 v1 (xs ++ nm).length (B8 (xs ++ nm)); rw [show (xs ++ nm).length = xs.length + s.size from by rw [HSS.out]; simp, show B8 (xs ++ nm) = B8 xs ++ Lib.strCells s from by rw [HS.out]; simp]; exact o1); clear o1)
  have b1 : Bk B w w1 := (Bk.refl B w).grown h hB g1
  go_loopw [0, 14] (fun q i wr => ∃ k : Nat, k ≤ n ∧ i = .int .i64 k ∧ Ow wr B q (xs ++ nm ++ toksL (ts.take k)) ∧ Bk B w wr) (fun _ i _ => n - (intOf i).toNat)
  case atStart => exact ⟨0, Nat.zero_le _, rfl, by simpa [toksL] using o1', b1⟩
  case round =>
    obtain ⟨k, hk, rfl, hown, hb⟩ := hrel
    clear o1' g1 b1
    by_cases hlt : k < n
    · obtain ⟨t, ht⟩ : ∃ t, ts[k]? = some t := ⟨_, List.getElem?_eq_getElem (by have := HN.out; omega)⟩
      obtain ⟨g, cap, ev, c0, c1, c2, c3⟩ := (HV.out.bk hb).at ht
      rw [← HN.out] at ev
      simp only [Value.slice.injEq] at ev
      obtain ⟨rfl, _, rfl⟩ := ev
      have hT : TokOk B w t := HO.out t (List.mem_of_getElem? ht)
      obtain ⟨a, cap', et, _, _, _⟩ := hT.rd w (Below.refl _ _)
      have HT : Hid (TokOk B w t) := hT
      have HX : Hid (toksL (ts.take (k + 1)) = toksL (ts.take k) ++ [32] ++ tokL t) := toksL_take ht
      have HL : Hid (xs.length + nm.length + (toksL (ts.take k)).length ≤ 540000000) := by
        show _ ≤ _
        have h1 := toksL_len (fun t ht => HO.out t (List.mem_of_mem_take ht) : ∀ t ∈ ts.take k, TokOk B w t)
        have h2 : (ts.take k).length ≤ 8 := by have := HN.out; simp; omega
        omega
      clear hT ht
      obtain ⟨kind, pos, tv, text, tn⟩ := t
      dsimp only at c0 c1 c2 c3 et
      subst et
      have hlt' : (k : Int) < (n : Int) := by omega
      go_upto_region 5 with fail
      obtain ⟨V, hV⟩ : ∃ V, V = wr.alloc (.cells #[.int .i64 (kind : Int), .int .i64 pos, .slice a text.length cap', .int .i64 (tn : Int)] 54) := ⟨_, rfl⟩
      have q : V.heap[wr.heap.size]? = some (.cells #[.int .i64 (kind : Int), .int .i64 pos, .slice a text.length cap', .int .i64 (tn : Int)] 54 (0, 0)) := by rw [hV]; exact heap_alloc_new wr _
      have bV : Bk B w V := by rw [hV]; exact hb.alloc (Nat.le_trans hB hb.size) _
      have oV : Ow V B u0 (xs ++ nm ++ toksL (ts.take k)) := by rw [hV]; exact hown.ext (World.grownBy_alloc _ _ _)
      rw [← hV]
      have hne : V.heap.size ≠ wr.heap.size := by rw [hV]; simp
      clear hV c0 c1 c2 c3
      obtain ⟨q0, _⟩ := at_block q 0 _ rfl
      obtain ⟨q1, _⟩ := at_block q 1 _ rfl
      obtain ⟨q2, _⟩ := at_block q 2 _ rfl
      obtain ⟨q3, _⟩ := at_block q 3 _ rfl
      have hE : ∀ W : World, ∀ o, Ext W (W.alloc o) := fun W o => World.grownBy_alloc _ _ _
      have k0 : ∀ o, (V.alloc o).cell? ⟨wr.heap.size, 0, none⟩ = some (.int .i64 (kind : Int)) := fun o => World.grownBy.cell (hE V o) q0 (by simp)
      have k1 : ∀ o, (V.alloc o).cell? ⟨wr.heap.size, 1, none⟩ = some (.int .i64 pos) := fun o => World.grownBy.cell (hE V o) q1 (by simp)
      have k2 : ∀ o, (V.alloc o).cell? ⟨wr.heap.size, 2, none⟩ = some (.slice a text.length cap') := fun o => World.grownBy.cell (hE V o) q2 (by simp)
      have k3 : ∀ o, (V.alloc o).cell? ⟨wr.heap.size, 3, none⟩ = some (.int .i64 (tn : Int)) := fun o => World.grownBy.cell (hE V o) q3 (by simp)
      have QV : Hid (V.heap[wr.heap.size]? = some (.cells #[.int .i64 (kind : Int), .int .i64 pos, .slice a text.length cap', .int .i64 (tn : Int)] 54 (0, 0))) := q
      clear q
      have HB : Hid (∀ w4 o, (V.drew.alloc o).grownBy w4 u0.ownBlock → Bk B w w4) := fun w4 o hg =>
        ((bV.drewN 1).alloc (Nat.le_trans hB bV.size) o).grown ((oV.ext (ext_drewN V 1)).ext (hE _ _)) (by have := bV.size; simp; omega) hg
      have HQ : Hid (∀ w4 o, (V.drew.alloc o).grownBy w4 u0.ownBlock → w4.heap[wr.heap.size]? = some (.cells #[.int .i64 (kind : Int), .int .i64 pos, .slice a text.length cap', .int .i64 (tn : Int)] 54 (0, 0))) := fun w4 o hg =>
        (((Bk.refl B V).drewN 1).alloc (Nat.le_trans hB bV.size) o |>.grown ((oV.ext (ext_drewN V 1)).ext (hE _ _)) (by have := bV.size; simp; omega) hg).block QV.out (by decide)
      go_region_law (first
        | (refine step_append_bytes rfl (.tmp 19) (.tmp 20) 29 rfl B info5 Tryd.underlying29 u0 (xs ++ nm ++ toksL (ts.take k)) (by first | rfl | simp [Act.eval, Act.put]) ((oV.ext (ext_drewN _ 1)).ext (hE _ _)) (some ⟨V.heap.size, 0, none⟩) 1 1 [32] (by first | rfl | simp [Act.eval, Act.put]) (rd_one V.drew 32 (by omega) (by omega)) (by have := HL.out; simp only [List.length_append]; omega) (by have := bV.size; simp; omega) ?_; intro v4 w4 o4 g4; have B4 := HB.out _ _ g4; have Q4 := HQ.out _ _ g4; obtain ⟨z0, _⟩ := at_block Q4 0 _ rfl; obtain ⟨z1, _⟩ := at_block Q4 1 _ rfl; obtain ⟨z2, _⟩ := at_block Q4 2 _ rfl; obtain ⟨z3, _⟩ := at_block Q4 3 _ rfl; clear Q4)
        | (go_simp; go_at_call 68; refine (putV B v4 (xs ++ nm ++ toksL (ts.take k) ++ [32]) ⟨kind, pos, .slice a text.length cap', text, tn⟩ w4 o4 (Nat.le_trans hB B4.size) (by have := HL.out; simp only [List.length_append, List.length_cons, List.length_nil]; omega) (HT.out.on B4.below) (HP.out.on B4.below)).mono ?_; rintro e w5 ⟨v5, rfl, o5, b5⟩))
      all_goals
        go_wp2
        go_roundw
        case rel => exact ⟨k + 1, by omega, by go_num, by rw [HX.out]; simpa using o5, B4.trans b5⟩
        case measure => simp [intOf]; omega
    · have hkn : k = n := by omega
      subst hkn
      have HT : Hid (ts.take k = ts) := List.take_of_length_le (by have := HN.out; omega)
      go_wp2
      go_ret
      exact ⟨u0, rfl, by rw [HT.out] at hown; exact hown, hb⟩

end Go.Proofs.YtheojmjnpemkbaaDoor
