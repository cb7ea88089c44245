
/- An append within a row's room, from wherever; clear of one element. It holds over every program. -/
import Derived.Test.YtjkhadaoldbceaaRowG
import Derived.Test.YtjkhadaoldbceaaSetO
import Derived.Lib.FrozenHead2
import Derived.Lib.SliceRun
namespace Go.Proofs.Ytjkhadaoldbceaa
open Go.RowKit

/-- All but element i. -/
def skipF (i : Nat) (F : Nat → Nat → Value) : Nat → Nat → Value := fun a j => if a < i then F a j else F (a + 1) j
theorem blk_less {w : World} {g T K cap n m : Nat} {F : Nat → Nat → Value} (h : Blk w g T K cap n F) (hm : m ≤ n) : Blk w g T K cap m F := by
  obtain ⟨cur, h1, h2, h3⟩ := h
  exact ⟨cur, h1, h2, fun i hi j hj => h3 i (by omega) j hj⟩
theorem blk_same {w : World} {g T K cap n : Nat} {F G : Nat → Nat → Value} (h : Blk w g T K cap n F) (e : ∀ i, i < n → ∀ j, j < K → F i j = G i j) : Blk w g T K cap n G := by
  obtain ⟨cur, h1, h2, h3⟩ := h
  exact ⟨cur, h1, h2, fun i hi j hj => by rw [← e i hi j hj]; exact h3 i hi j hj⟩
section
variable {P : Program} {T K B : Nat} {z : Value}
theorem run_roomG (hinfo : (P.info? T).map (fun i => (i.zero, i.size, i.bytes)) = some (some z, K, B)) (hK : 0 < K) (w : World) (t ty : TypeId) (ht : P.underlying t = some (.slice T)) (g n cap : Nat) (F : Nat → Nat → Value) (hb : Blk w g T K cap n F)
    (ad : Addr) (m c : Nat) (C : Nat → Nat → Value) (hC : Src K w (some ad) m C) (h1 : ∀ i, i < m → ∀ j, j < K → (C i j).oneCell' = true) (hroom : n + m ≤ cap) :
    ∃ w', (Builtin.append_ #[t, t] ty #[.slice (some ⟨g, 0, none⟩) n cap, .slice (some ad) m c]).run P w = .ok (.slice (some ⟨g, 0, none⟩) (n + m) cap) w' ∧ Blk w' g T K cap (n + m) (joinF n F C) ∧ w.grownBy w' (some g) := by
  obtain ⟨i0, hi, hz0, hz1, hz2⟩ := info_parts hinfo
  obtain ⟨cur, hg, hs, hF⟩ := hb
  subst hz1
  have hle : (n + m) * i0.size ≤ cap * i0.size := Nat.mul_le_mul_right _ hroom
  have hle2 := hle
  rw [Nat.add_mul] at hle2
  have hcl := cellsF_len C i0.size m
  have hnews : ∀ j u, (cellsF C i0.size m)[j]? = some u → w.cell? (ad.add j) = some u := fun j u hj => by
    have hjl := (List.getElem?_eq_some_iff.1 hj).1
    rw [cellsF_len] at hjl
    have hm : 0 < m := by
      rcases Nat.eq_zero_or_pos m with e | e
      · subst e; simp at hjl
      · exact e
    obtain ⟨ad', e, hc'⟩ := hC hm
    cases e
    have e1 : j / i0.size < m := (Nat.div_lt_iff_lt_mul hK).2 hjl
    have e2 : j / i0.size * i0.size + j % i0.size = j := by rw [Nat.mul_comm]; exact Nat.div_add_mod j i0.size
    have e3 := hc' (j / i0.size) e1 (j % i0.size) (Nat.mod_lt _ hK)
    have e4 := cellsF_get C i0.size m (j / i0.size) (j % i0.size) e1 (Nat.mod_lt _ hK)
    rw [e2] at e3 e4
    rw [e4] at hj
    cases hj
    exact e3
  have hone : ∀ u ∈ cellsF C i0.size m, u.oneCell' = true := fun u hu => by
    obtain ⟨i, c', hi', hc', rfl⟩ := cellsF_mem hu
    exact h1 i hi' c' hc'
  have hr := run_append_roomF (P := P) w t ty T i0 ht hi g n cap cur (0, 0) hg (Nat.zero_le _) ad m c (cellsF C i0.size m) hcl hnews hone hroom (by rw [hcl, hs]; exact hle2)
  refine ⟨_, hr, ⟨_, setRow_heap w g cur _ T _ hg, ?_, fun i hi j hj => ?_⟩, ⟨rfl, rfl, rfl, by simp, fun k _ hk => setRow_other w g k _ (fun e => hk (by simp [e]))⟩⟩
  · simp only [List.size_toArray, List.length_append, List.length_take, List.length_drop, Array.length_toList, hcl]
    omega
  · have h4 : (i + 1) * i0.size ≤ (n + m) * i0.size := Nat.mul_le_mul_right _ hi
    rw [Nat.succ_mul] at h4
    have htl : (cur.toList.take (n * i0.size)).length = n * i0.size := by rw [List.length_take, Array.length_toList]; omega
    rw [List.getElem?_toArray, List.append_assoc]
    unfold joinF
    by_cases hin : i < n
    · have h5 : (i + 1) * i0.size ≤ n * i0.size := Nat.mul_le_mul_right _ hin
      rw [Nat.succ_mul] at h5
      rw [if_pos hin, List.getElem?_append_left (by omega), List.getElem?_take_of_lt (by omega), Array.getElem?_toList]
      exact hF i hin j hj
    · obtain ⟨d, rfl⟩ : ∃ d, i = n + d := ⟨i - n, by omega⟩
      rw [if_neg hin, List.getElem?_append_right (by rw [htl, Nat.add_mul]; omega), htl, Nat.add_sub_cancel_left, show (n + d) * i0.size + j - n * i0.size = d * i0.size + j by rw [Nat.add_mul]; omega, List.getElem?_append_left (by
        have h6 : (d + 1) * i0.size ≤ m * i0.size := Nat.mul_le_mul_right _ (by omega)
        rw [Nat.succ_mul] at h6
        rw [hcl]
        omega)]
      exact cellsF_get C i0.size m d j (by omega) hj

theorem step_roomG (hinfo : (P.info? T).map (fun i => (i.zero, i.size, i.bytes)) = some (some z, K, B)) (hK : 0 < K) {ops : Array Oper} {o : Oper} {act : Act} {w : World} {KK : Act → World → Prop} {Q : Exit → Act → World → Prop} {E : Prop} (hgd : o.guard = none) (s x : Operand) (t : TypeId) (ht : P.underlying t = some (.slice T))
    (ho : o.op = .call { callee := .builtin .append, args := #[s, x], argTypes := #[t, t] }) (g n cap : Nat) (F : Nat → Nat → Value) (hs : act.eval s = .slice (some ⟨g, 0, none⟩) n cap) (hb : Blk w g T K cap n F)
    (ad : Addr) (m c : Nat) (C : Nat → Nat → Value) (hx : act.eval x = .slice (some ad) m c) (hC : Src K w (some ad) m C) (h1 : ∀ i, i < m → ∀ j, j < K → (C i j).oneCell' = true) (r : Nat) (hr : n + m = r) (hroom : r ≤ cap)
    (k : ∀ w', Blk w' g T K cap r (joinF n F C) → w.grownBy w' (some g) → KK (act.put o.dst (.slice (some ⟨g, 0, none⟩) r cap)) w') :
    if Region.wanted o (yielded ops act.tmps) = true then Oper.wp P o act w KK Q else E := by
  have hw : Region.wanted o (yielded ops act.tmps) = true := by simp [Region.wanted, hgd]
  rw [if_pos hw]
  subst hr
  obtain ⟨w', hrun, r1, r2⟩ := run_roomG hinfo hK w t o.type ht g n cap F hb ad m c C hC h1 hroom
  unfold Oper.wp execOp
  simp only [ho, resolve, invoke, builtin, Sem.run_bind, Sem.run_pure, Result.andThen_ok, List.map_toArray, List.map_cons, List.map_nil, hs, hx, hrun]
  exact k w' r1 r2

/-- 'clear(s)', s of one element. -/
theorem run_clear_one (w : World) (t ty : TypeId) (ht : P.underlying t = some (.slice T)) (hv : ∀ w, (zeroValue T).run P w = .ok z w) (zs : List Value) (hz : (Builtin.zeroCells z.cells 1).toList = zs) (h1 : ∀ u ∈ zs, u.oneCell' = true) (b o c : Nat)
    (hc : ∀ j, j < zs.length → (w.cell? ⟨b, o + j, none⟩).isSome = true) (hf : ∀ j, j < zs.length → w.frozen? ⟨b, o + j, none⟩ = false) :
    (Builtin.clear_ #[t] ty #[.slice (some ⟨b, o, none⟩) 1 c]).run P w = .ok (.tuple #[]) (w.setCells b o zs) := by
  have hst := run_storeCells_cells (P := P) b o zs 0 w (by simpa using hc) (by simpa using hf) h1
  simp only [Nat.add_zero] at hst
  simp [Builtin.clear_, run_underlying ht, hv, hz, hst]
end

end Go.Proofs.Ytjkhadaoldbceaa
