/- Lists of items while they grow by append: what they own. -/
import Derived.Test.YtdcbajejgphlgaaMsA
import Derived.Maps.AppendAt
namespace Go.Proofs.Ytdcbajejgphlgaa
open Go.RowKit

/-- n elements of seven cells, cell by cell. -/
def flat7 (F : Nat → Nat → Value) : Nat → List Value
  | 0 => []
  | n + 1 => flat7 F n ++ [F n 0, F n 1, F n 2, F n 3, F n 4, F n 5, F n 6]
theorem flat7_len (F : Nat → Nat → Value) (n : Nat) : (flat7 F n).length = n * 7 := by
  induction n with
  | zero => rfl
  | succ n ih => simp [flat7, ih]; omega
theorem flat7_congr {F G : Nat → Nat → Value} {n : Nat} (h : ∀ i, i < n → ∀ c, F i c = G i c) : flat7 F n = flat7 G n := by
  induction n with
  | zero => rfl
  | succ n ih =>
    simp only [flat7]
    rw [ih (fun i hi c => h i (by omega) c)]
    simp [h n (by omega)]
theorem flat7_get (F : Nat → Nat → Value) (n : Nat) (i c : Nat) (hi : i < n) (hc : c < 7) : (flat7 F n)[i * 7 + c]? = some (F i c) := by
  induction n with
  | zero => omega
  | succ n ih =>
    simp only [flat7]
    by_cases e : i = n
    · subst e
      rw [List.getElem?_append_right (by rw [flat7_len]; omega), flat7_len]
      have : i * 7 + c - i * 7 = c := by omega
      rw [this]
      match c, hc with
      | 0, _ => rfl
      | 1, _ => rfl
      | 2, _ => rfl
      | 3, _ => rfl
      | 4, _ => rfl
      | 5, _ => rfl
      | 6, _ => rfl
    · rw [List.getElem?_append_left (by rw [flat7_len]; omega)]
      exact ih (by omega)

/-- The list v holds the items ss, whose cells are F's, in memory from base on; no two of its blocks are one. -/
structure IG (base : Nat) (w : World) (v : Value) (ss : List DItem) (F : Nat → Nat → Value) : Prop where
  row : w.ownsRow base 74 7 v ss.length (flat7 F ss.length)
  cel : ∀ (i : Nat) s, ss[i]? = some s → F i 0 = .int .i64 s.term ∧ F i 1 = .int .i64 s.cmd.client ∧ F i 2 = .int .i64 s.cmd.req ∧ F i 3 = .int .i64 s.cmd.op.kind ∧ Ow w base (F i 4) s.cmd.op.key ∧ Ow w base (F i 5) s.cmd.op.val ∧ F i 6 = .int .i64 s.cmd.op.n
  own : ∀ i, i < ss.length → ∀ c, (c = 4 ∨ c = 5) → (F i c).ownBlock = none ∨ (F i c).ownBlock ≠ v.ownBlock
  dis : ∀ i c i' c', i < ss.length → i' < ss.length → (c = 4 ∨ c = 5) → (c' = 4 ∨ c' = 5) → (i ≠ i' ∨ c ≠ c') → (F i c).ownBlock = none ∨ (F i c).ownBlock ≠ (F i' c').ownBlock

theorem IG.ext {base : Nat} {w w' : World} {v : Value} {ss : List DItem} {F : Nat → Nat → Value} (h : IG base w v ss F) (e : Ext w w') : IG base w' v ss F := by
  refine ⟨h.row.kept e (by cases hv : v.ownBlock <;> simp), fun i s hs => ?_, h.own, h.dis⟩
  obtain ⟨e0, e1, e2, e3, e4, e5, e6⟩ := h.cel i s hs
  exact ⟨e0, e1, e2, e3, e4.ext e, e5.ext e, e6⟩
theorem IG.lt {base : Nat} {w : World} {v : Value} {ss : List DItem} {F : Nat → Nat → Value} (h : IG base w v ss F) (i : Nat) (hi : i < ss.length) (c : Nat) (hc : c = 4 ∨ c = 5) (b : Nat) (hb : (F i c).ownBlock = some b) : base ≤ b ∧ b < w.heap.size := by
  obtain ⟨s, hs⟩ : ∃ s, ss[i]? = some s := ⟨_, List.getElem?_eq_getElem hi⟩
  obtain ⟨_, _, _, _, e4, e5, _⟩ := h.cel i s hs
  rcases hc with rfl | rfl
  · exact e4.lt b hb
  · exact e5.lt b hb

/-- One item more: its texts are new, the list has been appended to. -/
theorem IG.next {base : Nat} {w w1 w2 w3 : World} {v v3 : Value} {ss : List DItem} {F : Nat → Nat → Value} (h : IG base w v ss F) (hb : base ≤ w.heap.size) (b1 : Below w.heap.size w w1) {d : DItem} {kv vv : Value}
    (ok : Ow w1 w.heap.size kv d.cmd.op.key) (ov : Ow w1 w.heap.size vv d.cmd.op.val) (hap : kv.ownBlock = none ∨ kv.ownBlock ≠ vv.ownBlock) (e2 : Ext w1 w2)
    (hr : w3.ownsRow base 74 7 v3 (ss.length + 1) (flat7 F ss.length ++ [.int .i64 d.term, .int .i64 d.cmd.client, .int .i64 d.cmd.req, .int .i64 d.cmd.op.kind, kv, vv, .int .i64 d.cmd.op.n]))
    (hg : w2.grownBy w3 v.ownBlock) (hv : v3.ownBlock = v.ownBlock ∨ v3.ownBlock = some w2.heap.size) :
    IG base w3 v3 (ss ++ [d]) (fun i c => if i = ss.length then ([.int .i64 d.term, .int .i64 d.cmd.client, .int .i64 d.cmd.req, .int .i64 d.cmd.op.kind, kv, vv, .int .i64 d.cmd.op.n] : List Value).getD c (.bool false) else F i c) := by
  have hs1 := b1.size
  have hs2 : w1.heap.size ≤ w2.heap.size := e2.size
  have hlen : (ss ++ [d]).length = ss.length + 1 := by simp
  have hvl : ∀ b, v.ownBlock = some b → b < w.heap.size := fun b hb' => (h.row.lt b hb').2
  have kl : ∀ b, kv.ownBlock = some b → w.heap.size ≤ b ∧ b < w1.heap.size := fun b hb' => ok.lt b hb'
  have vl : ∀ b, vv.ownBlock = some b → w.heap.size ≤ b ∧ b < w1.heap.size := fun b hb' => ov.lt b hb'
  have new_v : ∀ u : Value, (∀ b, u.ownBlock = some b → w.heap.size ≤ b ∧ b < w1.heap.size) → (u.ownBlock = none ∨ u.ownBlock ≠ v.ownBlock) := fun u hu => by
    cases e : u.ownBlock with
    | none => exact .inl rfl
    | some b =>
      right
      intro e'
      have h1 := (hu b e).1
      have h2 := hvl b e'.symm
      omega
  have new_v3 : ∀ u : Value, (∀ b, u.ownBlock = some b → b < w1.heap.size) → (u.ownBlock = none ∨ u.ownBlock ≠ v.ownBlock) → (u.ownBlock = none ∨ u.ownBlock ≠ v3.ownBlock) := fun u hu hn => by
    rcases hv with hv | hv
    · rw [hv]; exact hn
    · cases e : u.ownBlock with
      | none => exact .inl rfl
      | some b =>
        right
        rw [hv]
        intro e'
        have h1 := hu b e
        have h2 : b = w2.heap.size := by simpa using e'
        omega
  have old_new : ∀ i, i < ss.length → ∀ c, (c = 4 ∨ c = 5) → ∀ u : Value, (∀ b, u.ownBlock = some b → w.heap.size ≤ b ∧ b < w1.heap.size) → (F i c).ownBlock = none ∨ (F i c).ownBlock ≠ u.ownBlock := fun i hi c hc u hu => by
    cases e : (F i c).ownBlock with
    | none => exact .inl rfl
    | some b =>
      right
      intro e'
      have h1 := (h.lt i hi c hc b e).2
      have h2 := (hu b e'.symm).1
      omega
  have flip : ∀ a b : Option Nat, (a = none ∨ a ≠ b) → (b = none ∨ b ≠ a) := fun a b hab => by
    cases b with
    | none => exact .inl rfl
    | some y =>
      right
      intro e
      rcases hab with rfl | hab
      · cases e
      · exact hab e.symm
  refine ⟨?_, fun i s hs => ?_, fun i hi c hc => ?_, fun i c i' c' hi hi' hc hc' hne => ?_⟩
  · rw [hlen]
    simp only [flat7]
    rw [flat7_congr (G := F) (fun i hi c => by rw [if_neg (by omega)])]
    simpa using hr
  · by_cases e : i = ss.length
    · subst e
      have : s = d := by simpa using hs.symm
      subst this
      simp only [if_true]
      exact ⟨rfl, rfl, rfl, rfl, ow_base ((ok.ext e2).kept hg (new_v kv kl)) hb, ow_base ((ov.ext e2).kept hg (new_v vv vl)) hb, rfl⟩
    · have hi : i < ss.length := by have := (List.getElem?_eq_some_iff.1 hs).1; rw [hlen] at this; omega
      rw [List.getElem?_append_left hi] at hs
      obtain ⟨e0, e1, e2', e3, e4, e5, e6⟩ := h.cel i s hs
      simp only [if_neg e]
      exact ⟨e0, e1, e2', e3, (((e4.ext (ext_below b1)).ext e2).kept hg (h.own i hi 4 (.inl rfl))), (((e5.ext (ext_below b1)).ext e2).kept hg (h.own i hi 5 (.inr rfl))), e6⟩
  · rw [hlen] at hi
    by_cases e : i = ss.length
    · subst e
      simp only [if_true]
      rcases hc with rfl | rfl
      · exact new_v3 kv (fun b hb' => (kl b hb').2) (new_v kv kl)
      · exact new_v3 vv (fun b hb' => (vl b hb').2) (new_v vv vl)
    · simp only [if_neg e]
      exact new_v3 _ (fun b hb' => by have := (h.lt i (by omega) c hc b hb').2; omega) (h.own i (by omega) c hc)
  · rw [hlen] at hi hi'
    by_cases e : i = ss.length
    · by_cases e' : i' = ss.length
      · subst e
        subst e'
        simp only [if_true]
        rcases hc with rfl | rfl <;> rcases hc' with rfl | rfl
        · rcases hne with h1 | h1 <;> exact absurd rfl h1
        · exact hap
        · exact flip _ _ hap
        · rcases hne with h1 | h1 <;> exact absurd rfl h1
      · subst e
        simp only [if_true, if_neg e']
        rcases hc with rfl | rfl
        · exact flip _ _ (old_new i' (by omega) c' hc' kv kl)
        · exact flip _ _ (old_new i' (by omega) c' hc' vv vl)
    · by_cases e' : i' = ss.length
      · subst e'
        simp only [if_true, if_neg e]
        rcases hc' with rfl | rfl
        · exact old_new i (by omega) c hc kv kl
        · exact old_new i (by omega) c hc vv vl
      · simp only [if_neg e, if_neg e']
        exact h.dis i c i' c' (by omega) (by omega) hc hc' hne

theorem IG.nil (base : Nat) (w : World) (F : Nat → Nat → Value) : IG base w (.slice none 0 0) [] F := ⟨World.ownsRow_nil _ _ _ _, fun i s hs => by simp at hs, fun i hi => absurd hi (by simp), fun i c i' c' hi => absurd hi (by simp)⟩
theorem IG.made {base : Nat} {w : World} {v : Value} {F : Nat → Nat → Value} (h : w.ownsRow base 74 7 v 0 []) : IG base w v [] F := ⟨h, fun i s hs => by simp at hs, fun i hi => absurd hi (by simp), fun i c i' c' hi => absurd hi (by simp)⟩
/-- What the list is: none, or a block. -/
theorem IG.blk {base : Nat} {w : World} {v : Value} {ss : List DItem} {F : Nat → Nat → Value} (h : IG base w v ss F) : (v = .slice none 0 0 ∧ ss = []) ∨ ∃ g cap, v = .slice (some ⟨g, 0, none⟩) ss.length cap ∧ base ≤ g ∧ g < w.heap.size ∧ ss.length ≤ cap ∧ cap ≤ maxLen ∧ Blk w g 74 7 cap ss.length F := by
  rcases h.row.2 with ⟨rfl, h0⟩ | ⟨g, cap, cur, rfl, hb, hg, hnc, hcm, hcs, htake⟩
  · exact .inl ⟨rfl, List.eq_nil_of_length_eq_zero h0⟩
  · refine .inr ⟨g, cap, rfl, hb, (Array.getElem?_eq_some_iff.1 hg).1, hnc, hcm, cur, hg, hcs, fun i hi j hj => ?_⟩
    have h1 := flat7_get F ss.length i j hi hj
    rw [← htake, List.getElem?_take_of_lt (by omega)] at h1
    simpa using h1
theorem IG.v {base : Nat} {w : World} {v : Value} {ss : List DItem} {F : Nat → Nat → Value} (h : IG base w v ss F) (hr : ∀ (i : Nat) (s : DItem), ss[i]? = some s → (∀ x ∈ s.cmd.op.key, 0 ≤ x ∧ x ≤ 255) ∧ (∀ x ∈ s.cmd.op.val, 0 ≤ x ∧ x ≤ 255)) : VItems w v ss := by
  refine ⟨F, ?_, fun i d hd => ?_⟩
  · rcases h.blk with ⟨rfl, rfl⟩ | ⟨g, cap, rfl, _, hg, h1, h2, cur, h3, h4, h5⟩
    · exact ⟨none, 0, rfl, Nat.le_refl _, Nat.zero_le _, fun h => absurd h (by simp)⟩
    · refine ⟨_, cap, rfl, h1, h2, fun _ => ⟨g, 0, rfl, hg, fun i hi j hj => ?_⟩⟩
      rw [Nat.zero_add, cell_of_row w g _ cur _ (0, 0) h3]
      exact h5 i hi j hj
  · obtain ⟨e0, e1, e2, e3, e4, e5, e6⟩ := h.cel i d hd
    exact ⟨e0, e1, e2, e3, e4.rv (hr i d hd).1, e5.rv (hr i d hd).2, e6⟩

theorem IG.shape {base : Nat} {w : World} {v : Value} {ss : List DItem} {F : Nat → Nat → Value} (h : IG base w v ss F) : ∃ a c, v = .slice a ss.length c := by
  rcases h.blk with ⟨rfl, rfl⟩ | ⟨g, cap, rfl, _⟩
  · exact ⟨none, 0, rfl⟩
  · exact ⟨_, _, rfl⟩
theorem IG.mono {base base' : Nat} {w : World} {v : Value} {ss : List DItem} {F : Nat → Nat → Value} (h : IG base w v ss F) (hb : base' ≤ base) : IG base' w v ss F := by
  refine ⟨⟨h.row.1, ?_⟩, fun i s hs => ?_, h.own, h.dis⟩
  · rcases h.row.2 with h2 | ⟨g, cap, cur, hv, hg, r⟩
    · exact .inl h2
    · exact .inr ⟨g, cap, cur, hv, Nat.le_trans hb hg, r⟩
  · obtain ⟨e0, e1, e2, e3, e4, e5, e6⟩ := h.cel i s hs
    exact ⟨e0, e1, e2, e3, ow_base e4 hb, ow_base e5 hb, e6⟩

/-- An item appended, in a region that goes in the order of the text. -/
theorem wpList_append_it (w : World) {ops : Array Oper} {rest : List Oper} {o : Oper} {a : Act} {Q : Exit → Act → World → Prop} (hgd : o.guard = none) (s x : Operand)
    (ho : o.op = .call { callee := .builtin .append, args := #[s, x], argTypes := #[28, 28] })
    (base : Nat) (v : Value) (n : Nat) (xs : List Value) (hs : a.eval s = v) (hown : w.ownsRow base 74 7 v n xs)
    (g : Nat) (us : List Value) (hx : a.eval x = .slice (some ⟨g, 0, none⟩) 1 1) (hl : us.length = 7) (hc : ∀ (j : Nat) u, us[j]? = some u → w.cell? ⟨g, j, none⟩ = some u) (h1 : ∀ u ∈ us, u.oneCell' = true)
    (hb : n ≤ 1048576) (hbase : base ≤ w.heap.size)
    (h : ∀ v' w', w'.ownsRow base 74 7 v' (n + 1) (xs ++ us) → w.grownBy w' v.ownBlock → (v'.ownBlock = v.ownBlock ∨ v'.ownBlock = some w.heap.size) → wpList Try.prog ops Q rest (a.put o.dst v') w') : wpList Try.prog ops Q (o :: rest) a w := by
  obtain ⟨i0, hi, hz0, hz1, hz2⟩ := info_parts info_I
  obtain ⟨v', w', hrun, r1, r2, _, r4⟩ := run_append_own_at (P := Try.prog) w base 28 o.type 74 i0 _ 7 88 Try.underlying28 hi hz0 hz1 hz2 rfl (by decide) v n xs hown ⟨g, 0, none⟩ 1 1 us (by omega)
    (fun j u' hj => by rw [Addr.add_lit, Nat.zero_add]; exact hc j u' hj) h1 (by unfold maxLen; omega) (by omega) hbase
  refine wpList_plain hgd fun K hK => ?_
  unfold Oper.wp execOp
  simp only [ho, resolve, invoke, builtin, Sem.run_bind, Sem.run_pure, Result.andThen_ok, List.map_toArray, List.map_cons, List.map_nil, hs, hx, hrun]
  exact hK _ _ (h v' w' r1 r2 r4)

end Go.Proofs.Ytdcbajejgphlgaa
