/- Trees marked: the walks. -/
import Derived.Test.YtdeogmkcomdbjaaTm0
import Derived.Deep.CutRange
namespace Go.Proofs.Ytdeogmkcomdbjaa
open Go.RowKit

theorem hideM {p : Prop} (h : p) : Hid p := h
def MarkTSays (d : Nat) : Prop := ∀ (lo hi n : Nat) (kid : Nat → DTree d) (v : Value) (k : Int) (w : World), WKD w lo hi d n kid v → 0 ≤ k → k + 1048578 * (ndK d n kid : Int) ≤ 1125899906842624 →
  Calls Try.prog 38 #[v, .int .i64 k] w fun e w' => ∃ m : Nat, m ≤ 1048578 * ndK d n kid ∧ e = .returned (.int .i64 (k + m)) ∧ MkT lo hi w w'

set_option maxHeartbeats 1000000 in
theorem markTS_zero : MarkTSays 0 := by
  intro lo hi n kid v k w h hk0 hk
  obtain ⟨rfl, a, c, rfl⟩ := h
  go_enter Try.func38, Try.ntmps38
  go_wp2
  refine wp_loop_rounds 1 ?_
  rw [rounds_succ]
  go_wp2
  go_ret
  exact ⟨0, Nat.zero_le _, by simp, MkT.re _ _ _⟩

set_option maxRecDepth 20000 in
set_option maxHeartbeats 1000000 in
theorem markTS_step (d : Nat) (ih : MarkTSays d) : MarkTSays (d + 1) := by
  intro lo hi n kid v k w h hk0 hk
  have HW : Hid (WKD w lo hi (d + 1) n kid v) := h
  obtain ⟨g, F, rfl, hlo, hhi, hn, harr, hkids⟩ := h
  have HIH : Hid (MarkTSays d) := ih
  obtain ⟨f, hf⟩ : ∃ f, f = fun i => 1 + ndK d (kid i).2.2.2.1 (kid i).2.2.2.2 := ⟨_, rfl⟩
  have HND : Hid (ndK (d + 1) n kid = sumN n f) := by show sumN _ _ = _; rw [hf]
  have HF : Hid (∀ i, f i = 1 + ndK d (kid i).2.2.2.1 (kid i).2.2.2.2) := fun i => by rw [hf]
  have HSL : Hid (∀ i, i ≤ n → sumN i f ≤ sumN n f) := fun i hi => sumN_le f hi
  have HK : Hid (k + 1048578 * (sumN n f : Int) ≤ 1125899906842624) := by have := hk; rw [HND.out] at this; exact this
  have HA : Hid (Arr w g 30 4 n hdT F) := harr
  have HKI : Hid (∀ i, i < n → WB lo hi w (F i 0) ∧ WKD w lo hi d (kid i).2.2.2.1 (kid i).2.2.2.2 (F i 3)) := hkids
  have HLO : Hid (lo ≤ g ∧ g < hi) := ⟨hlo, hhi⟩
  rw [HND.out]
  clear ih hf hk harr hkids hlo hhi HW
  go_enter Try.func38, Try.ntmps38
  go_wp2
  go_loopw [1, 5] (fun q iv wr => ∃ (i m : Nat), i ≤ n ∧ iv = .int .i64 i ∧ q = .int .i64 (k + m) ∧ Hid (m ≤ 1048578 * sumN i f) ∧ Hid (MkT lo hi w wr)) (fun _ iv _ => n - (intOf iv).toNat)
  case atStart => exact ⟨0, 0, Nat.zero_le _, rfl, by simp, Nat.zero_le _, MkT.re _ _ _⟩
  case round =>
    obtain ⟨i, m, hi', rfl, rfl, hm, hM⟩ := hrel
    by_cases hlt : i < n
    · have A1 := HA.out.mkT hM.out
      have W1 := (HKI.out i hlt).1.mkT hM.out
      obtain ⟨ea, en, ec, hes⟩ := W1.shape
      have c0 := A1.cell i hlt 0 (by omega) (.inl rfl)
      rw [Nat.add_zero, hes] at c0
      rw [hes] at W1
      have HW1 := hideM W1
      have hlt' : (i : Int) < (n : Int) := by omega
      have hn' : (n : Int) ≤ 1048576 := by omega
      have HMB : Hid (m + 1048578 * f i ≤ 1048578 * sumN (i + 1) f) := by
        show _ ≤ _
        have := hm.out
        simp only [sumN]
        omega
      have hmk : (m : Int) + 1048578 * (f i : Int) + k ≤ 1125899906842624 := by
        have h1 := HMB.out
        have h2 := HSL.out (i + 1) (by omega)
        have h3 := HK.out
        omega
      have hf1 : (1 : Int) ≤ (f i : Int) := by rw [HF.out i]; omega
      have hmk2 : (m : Int) + k ≤ 1125899905794046 := by omega
      clear A1 W1
      go_wp2_with fail
      refine (markW lo hi none _ (k + m) wr HW1.out (by omega) (by omega)).mono ?_
      rintro e w2 ⟨m2, hm2, rfl, k2⟩
      have M2 := hM.out.tr (MkT.of k2)
      have A2 := HA.out.mkT M2
      obtain ⟨⟨u1, x1⟩, y1⟩ := A2.at (i * 4 + 1) (by omega)
      obtain ⟨⟨u2, x2⟩, y2⟩ := A2.at (i * 4 + 2) (by omega)
      have HM2 := hideM M2
      have hb2 : k + (m : Int) + (m2 : Int) ≤ 1125899906842622 := by omega
      have W3 := (HKI.out i hlt).2
      obtain ⟨ka, kc, hks⟩ := WKD.shape _ _ _ _ W3
      have c3 := A2.cell i hlt 3 (by omega) (.inr rfl)
      rw [hks] at c3 W3
      have HW3 := hideM W3
      have HFI := hideM (HF.out i)
      generalize (kid i).2.2.2.1 = kn at c3 HW3 HFI ⊢
      generalize (kid i).2.2.2.2 = kk at HW3 HFI ⊢
      have HU : Hid (∀ u v, MkT lo hi w ((w2.setCell ⟨g, i * 4 + 1, none⟩ u).setCell ⟨g, i * 4 + 2, none⟩ v)) := fun u v => by
        obtain ⟨cur, hc, _⟩ := A2
        exact M2.tr ((mkT_set u hc HLO.out.1 HLO.out.2 (.inl (by omega))).tr (mkT_set v (set_block hc _ _) HLO.out.1 HLO.out.2 (.inr (by omega))))
      clear k2 M2 c0 A2 W3
      go_wp2_with fail
      generalize hUU : World.setCell (World.setCell w2 _ _) _ _ = U
      have MU : MkT lo hi w U := by rw [← hUU]; exact HU.out _ _
      have HMU := hideM MU
      have hfi := HFI.out
      have HKB : Hid (k + (m : Int) + (m2 : Int) + 1 + 1 + 1048578 * (ndK d kn kk : Int) ≤ 1125899906842624) := by show _ ≤ _; omega
      have hnn : 0 ≤ k + (m : Int) + (m2 : Int) + 1 + 1 := by omega
      clear hUU MU x1 y1 x2 y2 c3
      refine (HIH.out lo hi kn kk _ _ U (WKD.mkT HMU.out _ _ _ _ HW3.out) hnn HKB.out).mono ?_
      rintro e w4 ⟨m4, hm4, rfl, k4⟩
      have HM4 := hideM (HMU.out.tr k4)
      have HB4 : Hid (m + m2 + 2 + m4 ≤ 1048578 * sumN (i + 1) f) := by
        show _ ≤ _
        have h1 := HMB.out
        omega
      have hk4 : k + (m : Int) + (m2 : Int) + 1 + 1 + (m4 : Int) ≤ 1125899906842624 := by have := HKB.out; omega
      clear k4 hm4 hfi
      go_wp2
      go_roundw
      case rel => exact ⟨i + 1, m + m2 + 2 + m4, by omega, by go_num, congrArg (Value.int .i64) (by omega), HB4, HM4⟩
      case measure => simp [intOf]; omega
    · have hin : i = n := by omega
      subst hin
      go_wp2
      go_ret
      exact ⟨m, hm.out, rfl, hM.out⟩

theorem markTS_any : ∀ d, MarkTSays d
  | 0 => markTS_zero
  | d + 1 => markTS_step d (markTS_any d)

/-- The value v is a tree that may be marked, all of it in blocks from lo up to hi. -/
def WTD (w : World) (lo hi : Nat) : (d : Nat) → DTree d → Value → Prop
  | 0, _, _ => False
  | d + 1, (_, _, _, n, kid), v => ∃ ev b i kv, v = .agg #[ev, .bool b, .int .i64 i, kv] ∧ WB lo hi w ev ∧ WKD w lo hi d n kid kv ∧ ndK d n kid ≤ 1048576
abbrev WT (w : World) (lo hi : Nat) {d : Nat} (t : DTree d) (v : Value) : Prop := WTD w lo hi d t v
theorem WT.mkT {lo hi : Nat} {w w' : World} {d : Nat} {t : DTree d} {v : Value} (h : WT w lo hi t v) (m : MkT lo hi w w') : WT w' lo hi t v := by
  match d, t, h with
  | 0, _, h => exact h
  | d + 1, (e, b, x, n, kid), h =>
    obtain ⟨ev, b', i, kv, hv, h1, h2, h3⟩ := h
    exact ⟨ev, b', i, kv, hv, h1.mkT m, WKD.mkT m _ _ _ _ h2, h3⟩
theorem wt_of {d : Nat} {t : DTree d} {v : Value} {lo : Nat} {w : World} (h : OTree w 30 lo t v) (hsz : szT t ≤ 1048576) : WT w lo w.heap.size t v := by
  match d, t, h, hsz with
  | 0, _, h, _ => exact False.elim h
  | d + 1, (e, b, x, n, kid), h, hsz =>
    obtain ⟨ev, g, F, rfl, o1, hg, hm, hb, ho⟩ := h
    have hsz' : e.length + (n + sumN n (fun i => szTD d (kid i))) ≤ 1048576 := hsz
    exact ⟨ev, b, x, _, rfl, WB.of o1 (Nat.le_refl _) (by omega), wk_of d n kid g F hg (by omega) hb ho (fun i hi => by have := sumN_mem (fun i => szTD d (kid i)) hi; (try simp only at this); omega), by have := ndK_le d n kid; omega⟩

set_option maxHeartbeats 1000000 in
theorem markTreeW {d : Nat} (t : DTree d) (v : Value) (lo hi : Nat) (k : Int) (w : World) (h : WT w lo hi t v) (hhi : hi ≤ w.heap.size) (hk0 : 0 ≤ k) (hk : k ≤ 1048576) :
    Calls Try.prog 17 #[v, .int .i64 k] w fun e w' => ∃ m : Nat, m ≤ 1099514773504 ∧ e = .returned (.int .i64 (k + m)) ∧ MkT lo hi w w' := by
  have hE : ∀ w : World, ∀ o, Ext w (w.alloc o) := fun w o => World.grownBy_alloc _ _ _
  match d, t, h with
  | 0, _, h => exact False.elim h
  | d + 1, (e, b0, x0, n, kid), h =>
    obtain ⟨ev, b, x, kv, rfl, hwb, hwk, hnd⟩ := h
    have HWB : Hid (WB lo hi w ev) := hwb
    have HWK : Hid (WKD w lo hi d n kid kv) := hwk
    have HND : Hid (ndK d n kid ≤ 1048576) := hnd
    obtain ⟨ea, en, ec, rfl⟩ := hwb.shape
    obtain ⟨ka, kc, rfl⟩ := WKD.shape _ _ _ _ hwk
    clear hwb hwk hnd
    go_enter Try.func17, Try.ntmps17
    go_wp2_with fail
    generalize hW : w.alloc _ = W
    have P0 : W.heap[w.heap.size]? = some (.cells #[.slice ea en ec, .bool b, .int .i64 x, .slice ka n kc] 30 (0, 0)) := by rw [← hW]; exact heap_alloc_new w _
    have XW : Ext w W := by rw [← hW]; exact hE _ _
    have HXW := hideM XW
    clear hW
    refine (markW lo hi none _ k W (HWB.out.mkT (MkT.ext (lo := lo) (hi := hi) HXW.out)) hk0 (by omega)).mono ?_
    rintro e9 w1 ⟨m1, hm1, rfl, k1⟩
    have M1 := (MkT.ext (lo := lo) (hi := hi) HXW.out).tr (MkT.of k1)
    have HM1 := hideM M1
    have P1 : w1.heap[w.heap.size]? = some (.cells #[.slice ea en ec, .bool b, .int .i64 x, .slice ka n kc] 30 (0, 0)) := (k1.out _ (Array.getElem?_eq_some_iff.1 P0).1 (.inr hhi)).trans P0
    obtain ⟨p3, _⟩ := at_block P1 3 _ rfl
    have hkk : k + (m1 : Int) ≤ 2097152 := by omega
    clear P0 P1 XW k1 M1
    go_wp2_with fail
    refine (markTS_any d lo hi n kid _ (k + m1) w1 (WKD.mkT HM1.out _ _ _ _ HWK.out) (by omega) (by have := HND.out; omega)).mono ?_
    rintro e9 w2 ⟨m2, hm2, rfl, k2⟩
    have HM2 := hideM (HM1.out.tr k2)
    have hb2 : m1 + m2 ≤ 1099514773504 := by have := HND.out; omega
    have hb3 : k + (m1 : Int) + (m2 : Int) ≤ 1099516870656 := by omega
    clear k2
    go_wp2
    go_ret
    exact ⟨m1 + m2, hb2, by rw [Int.natCast_add, ← Int.add_assoc]; rfl, HM2.out⟩

theorem mkT_below {lo hi : Nat} {w0 w w' : World} (h : Below w0.heap.size w0 w) (m : MkT lo hi w w') (hb : w0.heap.size ≤ lo) : Below w0.heap.size w0 w' := ⟨m.os.trans h.os, m.tape.trans h.tape, m.output.trans h.output, Nat.le_trans h.size m.size, fun k hk => (m.out k (by have := h.size; omega) (.inl (by omega))).trans (h.block k hk)⟩
theorem mk_below {lo hi : Nat} {w0 w w' : World} (h : Below w0.heap.size w0 w) (m : Mk lo hi none w w') (hb : w0.heap.size ≤ lo) : Below w0.heap.size w0 w' := mkT_below h (MkT.of m) hb

end Go.Proofs.Ytdeogmkcomdbjaa
