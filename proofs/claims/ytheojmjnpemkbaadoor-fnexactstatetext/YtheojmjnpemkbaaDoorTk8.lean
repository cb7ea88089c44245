/- Tokens of a line, and the contract of their method put. -/
import Derived.Test.YtheojmjnpemkbaaDoorPv8
import Derived.Test.YtheojmjnpemkbaaDoorAi8
import Derived.Test.YtheojmjnpemkbaaDoorOp0
namespace Go.Proofs.YtheojmjnpemkbaaDoor
open Go.RowKit

/-- A token: a key, a value or a number. -/
structure DTok where
  kind : Nat
  pos : Int
  tv : Value
  text : List Int
  n : Nat

/-- A token as text. -/
def tokL (t : DTok) : List Int := if t.kind = 0 then t.text else if t.kind = 1 then quoteL t.text else decL t.n

/-- A token's value. -/
def DTok.val (t : DTok) : Value := .agg #[.int .i64 (t.kind : Int), .int .i64 t.pos, t.tv, .int .i64 (t.n : Int)]

/-- What is known of a token while a text is written from block B on. -/
structure TokOk (B : Nat) (w : World) (t : DTok) : Prop where
  kind : t.kind ≤ 2
  n : t.n ≤ 9223372036854775807
  len : t.text.length ≤ 1048576
  rd : ∀ w', Below B w w' → RV w' t.tv t.text

theorem TokOk.on {B : Nat} {w w' : World} {t : DTok} (h : TokOk B w t) (b : Below B w w') : TokOk B w' t := ⟨h.kind, h.n, h.len, fun _ k => h.rd _ (b.trans k)⟩

theorem tokL_rng {B : Nat} {w : World} {t : DTok} (h : TokOk B w t) : ∀ x ∈ tokL t, 0 ≤ x ∧ x ≤ 255 := by
  have hr : ∀ x ∈ t.text, 0 ≤ x ∧ x ≤ 255 := by
    obtain ⟨a, cap, _, hr, _⟩ := h.rd w (Below.refl _ _)
    exact hr.rng
  unfold tokL
  split
  · exact hr
  · split
    · exact quoteL_rng hr
    · exact decL_rng _
theorem tokL_len {B : Nat} {w : World} {t : DTok} (h : TokOk B w t) : (tokL t).length ≤ 3145730 := by
  have h1 := h.len
  have h2 := quoteL_len t.text
  have h3 := decL_len t.n h.n
  unfold tokL
  split
  · omega
  · split <;> omega

set_option maxHeartbeats 1000000 in
theorem putV (B : Nat) (v : Value) (xs : List Int) (t : DTok) (w : World) (h : Ow w B v xs) (hB : B ≤ w.heap.size) (hl : xs.length ≤ 1073741824) (ht : TokOk B w t) (hp : PowTab B w) :
    Calls Tryd.prog 68 #[.agg #[.int .i64 (t.kind : Int), .int .i64 t.pos, t.tv, .int .i64 (t.n : Int)], v] w fun e w' => ∃ v', e = .returned v' ∧ Ow w' B v' (xs ++ tokL t) ∧ Bk B w w' := by
  obtain ⟨kind, pos, tv, text, n⟩ := t
  obtain ⟨h1, h2, h3, h4⟩ := ht
  dsimp only at h1 h2 h3 h4 ⊢
  obtain ⟨a, cap, rfl, hr, hc, hm⟩ := h4 w (Below.refl _ _)
  clear hr
  have hE : ∀ W : World, ∀ o, Ext W (W.alloc o) := fun W o => World.grownBy_alloc _ _ _
  have HR : Hid (∀ w', Below B w w' → RV w' (.slice a text.length cap) text) := h4
  clear h4
  have HK : Hid (∀ k, k = kind → tokL ⟨kind, pos, .slice a text.length cap, text, n⟩ = if k = 0 then text else if k = 1 then quoteL text else decL n) := fun k e => by subst e; rfl
  obtain ⟨W, hW⟩ : ∃ W, W = w.alloc (.cells #[.int .i64 (kind : Int), .int .i64 pos, .slice a text.length cap, .int .i64 (n : Int)] 54) := ⟨_, rfl⟩
  have hk : kind = 0 ∨ kind = 1 ∨ kind = 2 := by omega
  rcases hk with rfl | rfl | rfl
  · have HT := HK.out 0 rfl
    rw [if_pos rfl] at HT
    have HT' : Hid (tokL ⟨0, pos, .slice a text.length cap, text, n⟩ = text) := HT
    clear HT HK h1
    have o1 : Ow W B v xs := by rw [hW]; exact h.ext (hE _ _)
    have b1 : Bk B w W := by rw [hW]; exact (Bk.refl B w).alloc hB _
    obtain ⟨a', cap', ea, r1, _, _⟩ := HR.out W b1.below
    simp only [Value.slice.injEq] at ea
    obtain ⟨rfl, _, rfl⟩ := ea
    rw [hW] at o1 b1 r1
    clear hW
    go_enter Tryd.func68, Tryd.ntmps68
    go_wp2_with (at_builtin; refine wpList_append_bytes _ rfl _ _ 29 rfl B info5 Tryd.underlying29 v xs rfl o1 a text.length cap text rfl r1 (by omega) (by simp; omega) ?_; intro v4 w4 o4 g4)
    go_ret
    exact ⟨v4, rfl, by rw [HT'.out]; exact o4, b1.grown o1 (by simp; omega) g4⟩
  · have HT := HK.out 1 rfl
    rw [if_neg (by decide), if_pos rfl] at HT
    have HT' : Hid (tokL ⟨1, pos, .slice a text.length cap, text, n⟩ = quoteL text) := HT
    clear HT HK h1
    have o1 : Ow W B v xs := by rw [hW]; exact h.ext (hE _ _)
    have b1 : Bk B w W := by rw [hW]; exact (Bk.refl B w).alloc hB _
    rw [hW] at o1 b1
    clear hW
    go_enter Tryd.func68, Tryd.ntmps68
    go_wp2_with (go_at_call 71; refine (putValueV B v (.slice a text.length cap) xs text _ o1 (by simp; omega) (fun w' b => HR.out w' (b1.below.trans b)) hl h3).mono ?_; rintro e w4 ⟨v4, rfl, o4, b4⟩)
    go_ret
    exact ⟨v4, rfl, by rw [HT'.out]; exact o4, b1.trans b4⟩
  · have HT := HK.out 2 rfl
    rw [if_neg (by decide), if_neg (by decide)] at HT
    have HT' : Hid (tokL ⟨2, pos, .slice a text.length cap, text, n⟩ = decL n) := HT
    clear HT HK h1
    have o1 : Ow W B v xs := by rw [hW]; exact h.ext (hE _ _)
    have b1 : Bk B w W := by rw [hW]; exact (Bk.refl B w).alloc hB _
    rw [hW] at o1 b1
    clear hW
    have h2' : (n : Int) ≤ 9223372036854775807 := by omega
    go_enter Tryd.func68, Tryd.ntmps68
    go_wp2_with (go_at_call 72; refine (appendIntV B n v xs _ h2 o1 (by simp; omega) (by omega) (hp.on b1.below)).mono ?_; rintro e w4 ⟨v4, rfl, o4, b4, k4⟩)
    go_ret
    exact ⟨v4, rfl, by rw [HT'.out]; exact o4, b1.trans ⟨b4, k4⟩⟩

end Go.Proofs.YtheojmjnpemkbaaDoor
