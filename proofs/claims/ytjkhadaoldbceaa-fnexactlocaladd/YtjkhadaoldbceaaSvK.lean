
/- Lists of checks that a call owns. -/
import Derived.Test.YtjkhadaoldbceaaLsK
namespace Go.Proofs.Ytjkhadaoldbceaa
open Go.RowKit

/-- The slice owns these checks, their names too, from block base on. -/
def OKs (w : World) (base : Nat) (v : Value) (cs : List DChk) : Prop := ∃ b F, v = .slice (some ⟨b, 0, none⟩) cs.length cs.length ∧ base ≤ b ∧ Blk w b 43 6 cs.length cs.length F ∧ ∀ i s, cs[i]? = some s → Ow w base (F i 0) s.name ∧ F i 1 = .int .i64 s.ttl ∧ F i 2 = .int .i64 s.most ∧ F i 3 = .int .i64 s.st ∧ F i 4 = .int .i64 s.age ∧ F i 5 = .int .i64 s.fails
def rngKs (cs : List DChk) : Prop := ∀ (i : Nat) (s : DChk), cs[i]? = some s → ∀ x ∈ s.name, 0 ≤ x ∧ x ≤ 255
theorem rngKs_of {w : World} {v : Value} {cs : List DChk} (h : VChks w v cs) : rngKs cs := fun i s hs => by
  obtain ⟨C, _, hC⟩ := h
  exact rv_rngK (hC i s hs).1
theorem chks_shape {w : World} {v : Value} {cs : List DChk} (h : VChks w v cs) : ∃ a c, v = .slice a cs.length c := by
  obtain ⟨C, ⟨a, c, hv, _⟩, _⟩ := h
  exact ⟨a, c, hv⟩
theorem OKs.ext {w w' : World} {base : Nat} {v : Value} {cs : List DChk} (h : OKs w base v cs) (e : Ext w w') : OKs w' base v cs := by
  obtain ⟨b, F, hv, hb, hB, hF⟩ := h
  refine ⟨b, F, hv, hb, blk_kept hB (e.block b (blk_lt hB) (by simp)), fun i s hs => ?_⟩
  obtain ⟨e0, r⟩ := hF i s hs
  exact ⟨e0.ext e, r⟩
theorem OKs.row {w w' : World} {base g : Nat} {v : Value} {cs : List DChk} (h : OKs w base v cs) (e : w.grownBy w' (some g)) (hg : g < base) : OKs w' base v cs := by
  obtain ⟨b, F, hv, hb, hB, hF⟩ := h
  refine ⟨b, F, hv, hb, blk_kept hB (e.block b (blk_lt hB) (by simp; omega)), fun i s hs => ?_⟩
  obtain ⟨e0, r⟩ := hF i s hs
  exact ⟨ow_row e0 e hg, r⟩
theorem OKs.base {w : World} {base b' : Nat} {v : Value} {cs : List DChk} (h : OKs w base v cs) (hb' : b' ≤ base) : OKs w b' v cs := by
  obtain ⟨b, F, hv, hb, hB, hF⟩ := h
  refine ⟨b, F, hv, by omega, hB, fun i s hs => ?_⟩
  obtain ⟨e0, r⟩ := hF i s hs
  exact ⟨ow_base e0 hb', r⟩
theorem OKs.v {w : World} {base : Nat} {v : Value} {cs : List DChk} (h : OKs w base v cs) (hm : cs.length ≤ 1048576) (hr : rngKs cs) : VChks w v cs := by
  obtain ⟨b, F, rfl, hb, hB, hF⟩ := h
  refine ⟨F, blk_SL hB (by unfold maxLen; omega), fun i s hs => ?_⟩
  obtain ⟨e0, r⟩ := hF i s hs
  exact ⟨Ow.rv e0 (hr i s hs), r⟩
theorem OKs.shape {w : World} {base : Nat} {v : Value} {cs : List DChk} (h : OKs w base v cs) : ∃ b, v = .slice (some ⟨b, 0, none⟩) cs.length cs.length := by
  obtain ⟨b, F, hv, _⟩ := h
  exact ⟨b, hv⟩
theorem toS_KO (v : Value) (ss : List DChk) (w : World) (h : VChks w v ss) (hn : ss.length ≤ 1048576) (hlen : ∀ (i : Nat) (s : DChk), ss[i]? = some s → s.name.length ≤ 1048576) :
    Calls Try.prog 67 #[v] w fun e w' => ∃ b, e = .returned (.slice (some ⟨b, 0, none⟩) ss.length ss.length) ∧ OKs w' w.heap.size (.slice (some ⟨b, 0, none⟩) ss.length ss.length) ss ∧ Below w.heap.size w w' :=
  (toS_K v ss w h hn hlen).mono fun e w' ⟨F, h1, h2, h3, h4⟩ => ⟨_, h1, ⟨_, F, rfl, Nat.le_refl _, h2, fun i s hs => by
    obtain ⟨e0, r⟩ := h3 i s hs
    exact ⟨ow_base e0 (Nat.le_succ _), r⟩⟩, h4⟩

end Go.Proofs.Ytjkhadaoldbceaa
