/- States as text: plain mathematics, and the contract of the program's putLine. -/
import Derived.Test.YtheojmjnpemkbaaDoorPw8
import Derived.Test.YtheojmjnpemkbaaDoorIState
namespace Go.Proofs.YtheojmjnpemkbaaDoor
open Go.RowKit

def sRow : ByteArray := ⟨#[114, 111, 119]⟩
def sGone : ByteArray := ⟨#[103, 111, 110, 101]⟩
def sAt : ByteArray := ⟨#[97, 116]⟩
def sSes (b : Bool) : ByteArray := if b then ⟨#[115, 101, 115, 115, 105, 111, 110, 32, 100, 101, 108, 101, 116, 101]⟩ else ⟨#[115, 101, 115, 115, 105, 111, 110]⟩
def sesL (b : Bool) : List Int := if b then [115, 101, 115, 115, 105, 111, 110, 32, 100, 101, 108, 101, 116, 101] else [115, 101, 115, 115, 105, 111, 110]

theorem sesL_str (b : Bool) : Lib.strCells (sSes b) = B8 (sesL b) := by cases b <;> rfl
theorem sesL_len (b : Bool) : (sesL b).length ≤ 14 := by cases b <;> decide
theorem sesL_rng (b : Bool) : ∀ x ∈ sesL b, 0 ≤ x ∧ x ≤ 255 := by cases b <;> decide

/-- The lines of a state. -/
def lineAt (i : Int) : List Int := [97, 116] ++ 32 :: decL i.toNat ++ [10]
def lineRow (r : DRow) : List Int := [114, 111, 119] ++ (32 :: r.key ++ (32 :: quoteL r.val ++ (32 :: decL r.turned.toNat ++ 32 :: decL r.holder.toNat))) ++ [10]
def lineTomb (t : DTomb) : List Int := [103, 111, 110, 101] ++ (32 :: t.key ++ 32 :: decL t.index.toNat) ++ [10]
def lineSess (s : DSess) : List Int := sesL s.del ++ 32 :: decL s.id.toNat ++ [10]
def linesL (S : DState) : List Int := lineAt S.index ++ S.rows.flatMap lineRow ++ S.tombs.flatMap lineTomb ++ S.sess.flatMap lineSess
/-- A state as text, nothing if it may not be. -/
def stTL (b : Bool) (S : DState) : List Int := if b = true then linesL S else []

/-- What may be said of rows, tombs and sessions that are to be written. -/
def RowN (r : DRow) : Prop := (r.key.length ≤ 20 ∧ r.val.length ≤ 20) ∧ (0 ≤ r.turned ∧ r.turned ≤ 1000000) ∧ 0 ≤ r.holder ∧ r.holder ≤ 1000000
def TombN (t : DTomb) : Prop := t.key.length ≤ 20 ∧ 0 ≤ t.index ∧ t.index ≤ 1000000
def SessN (s : DSess) : Prop := 0 ≤ s.id ∧ s.id ≤ 1000000
structure StN (S : DState) : Prop where
  index : 0 ≤ S.index ∧ S.index ≤ 1000000
  rl : S.rows.length ≤ 20
  tl : S.tombs.length ≤ 10
  sl : S.sess.length ≤ 8
  rows : ∀ (i : Nat) r, S.rows[i]? = some r → RowN r
  tombs : ∀ (i : Nat) t, S.tombs[i]? = some t → TombN t
  sess : ∀ (i : Nat) s, S.sess[i]? = some s → SessN s

theorem lineRow_len {r : DRow} (h : RowN r) : (lineRow r).length ≤ 200 := by
  have h1 := quoteL_len r.val
  have h2 := decL_len r.turned.toNat (by have := h.2.1; omega)
  have h3 := decL_len r.holder.toNat (by have := h.2.2; omega)
  have := h.1
  simp only [lineRow, List.length_append, List.length_cons, List.length_nil]
  omega
theorem lineTomb_len {t : DTomb} (h : TombN t) : (lineTomb t).length ≤ 60 := by
  have h2 := decL_len t.index.toNat (by have := h.2; omega)
  have := h.1
  simp only [lineTomb, List.length_append, List.length_cons, List.length_nil]
  omega
theorem lineSess_len {s : DSess} (h : SessN s) : (lineSess s).length ≤ 60 := by
  have h2 := decL_len s.id.toNat (by have := h.2; omega)
  have := sesL_len s.del
  simp only [lineSess, List.length_append, List.length_cons, List.length_nil]
  omega
theorem flat_len {α : Type} (f : α → List Int) (c : Nat) : ∀ (l : List α), (∀ (i : Nat) x, l[i]? = some x → (f x).length ≤ c) → (l.flatMap f).length ≤ c * l.length
  | [], _ => by simp
  | x :: l, h => by
    have h1 := h 0 x rfl
    have h2 := flat_len f c l fun i y hy => h (i + 1) y (by simpa using hy)
    simp only [List.flatMap_cons, List.length_append, List.length_cons]
    have : c * (l.length + 1) = c * l.length + c := by rw [Nat.mul_add, Nat.mul_one]
    omega
theorem take_flat {α : Type} (f : α → List Int) {l : List α} {k : Nat} {x : α} (h : l[k]? = some x) : (l.take (k + 1)).flatMap f = (l.take k).flatMap f ++ f x := by
  rw [List.take_add_one, h]
  simp
theorem take_get {α : Type} {l : List α} {k i : Nat} {x : α} (h : (l.take k)[i]? = some x) : l[i]? = some x := by
  rw [List.getElem?_take] at h
  split at h
  · exact h
  · cases h

theorem key_len {xs : List Int} (h : keyB xs = true) : 0 < xs.length ∧ xs.length ≤ 20 := by
  simp only [keyB, Bool.and_eq_true, decide_eq_true_eq] at h
  omega
theorem stn_of {S : DState} (h : StP S) : StN S := by
  obtain ⟨h1, _, ⟨s1, s2⟩, ⟨r1, r2⟩, ⟨t1, t2⟩, _⟩ := h
  have hs : ∀ (i : Nat) s, S.sess[i]? = some s → 1 ≤ s.id ∧ s.id ≤ S.index := fun i s hi => by
    obtain ⟨a, b, _⟩ := s2 i (List.getElem?_eq_some_iff.1 hi).1 s hi
    exact ⟨a, b⟩
  refine ⟨h1, r1, t1, s1, fun i r hi => ?_, fun i t hi => ?_, fun i s hi => ?_⟩
  · obtain ⟨a, b, c, d, e, _⟩ := r2 i (List.getElem?_eq_some_iff.1 hi).1 r hi
    refine ⟨⟨(key_len a).2, b⟩, ⟨by omega, by omega⟩, ?_⟩
    rcases e with e | ⟨j, s, hj, e⟩
    · omega
    · have := hs j s hj
      omega
  · obtain ⟨a, _, _, b, c, _⟩ := t2 i (List.getElem?_eq_some_iff.1 hi).1 t hi
    exact ⟨(key_len a).2, by omega, by omega⟩
  · have := hs i s hi
    exact ⟨by omega, by omega⟩

theorem toks9 (w : World) (ts : List DTok) (cs : Array Value) (t : TypeId) (n : Nat) (hn : ts.length = n) (ht : t ≠ 5) (h : ∀ (i : Nat) (k : DTok), ts[i]? = some k → cs[i * 4]? = some (.int .i64 (k.kind : Int)) ∧ cs[i * 4 + 1]? = some (.int .i64 k.pos) ∧ cs[i * 4 + 2]? = some k.tv ∧ cs[i * 4 + 3]? = some (.int .i64 (k.n : Int))) :
    VToks (w.alloc (.cells cs t)) (.slice (some ⟨w.heap.size, 0, none⟩) n n) ts := by
  subst hn
  exact .inr ⟨w.heap.size, ts.length, cs, t, (0, 0), rfl, heap_alloc_new w _, ht, h⟩
theorem rb9 {w : World} {v : Value} {xs : List Int} {B : Nat} (h : RV w v xs) (hB : w.heap.size ≤ B) : ∀ w', Below B w w' → RV w' v xs := fun _ b =>
  h.ext ⟨b.os, b.tape, b.output, b.size, fun k hk _ => b.block k (Nat.lt_of_lt_of_le hk hB)⟩
theorem tok9_key {w W : World} {v : Value} {xs : List Int} (h : RV w v xs) (b : Below w.heap.size w W) (hl : xs.length ≤ 20) : TokOk w.heap.size W ⟨0, 0, v, xs, 0⟩ :=
  ⟨Nat.zero_le _, Nat.zero_le _, by show xs.length ≤ _; omega, fun w' b' => rb9 h (Nat.le_refl _) w' (b.trans b')⟩
theorem tok9_val {w W : World} {v : Value} {xs : List Int} (h : RV w v xs) (b : Below w.heap.size w W) (hl : xs.length ≤ 20) : TokOk w.heap.size W ⟨1, 0, v, xs, 0⟩ :=
  ⟨Nat.le_succ _, Nat.zero_le _, by show xs.length ≤ _; omega, fun w' b' => rb9 h (Nat.le_refl _) w' (b.trans b')⟩
theorem tok9_num (B : Nat) (w : World) (n : Nat) (hn : n ≤ 1000000) : TokOk B w ⟨2, 0, .slice none 0 0, [], n⟩ :=
  ⟨Nat.le_refl 2, by show n ≤ _; omega, Nat.zero_le _, fun _ _ => ⟨none, 0, rfl, Rd.nil _ _, Nat.le_refl _, Nat.zero_le _⟩⟩

set_option maxHeartbeats 1000000 in
theorem num9 (n : Int) (w : World) : Calls Tryd.prog 25 #[.int .i64 n] w fun e w' => e = .returned (.agg #[.int .i64 2, .int .i64 0, .slice none 0 0, .int .i64 n]) ∧ Below w.heap.size w w' := by
  go_enter Tryd.func25, Tryd.ntmps25
  go_wp2
  exact bodyPost_ret (v := .agg #[.int .i64 2, .int .i64 0, .slice none 0 0, .int .i64 n]) (by simp [results, Tryd.results25, go_sem]) rfl ⟨rfl, (Below.refl _ w).alloc (Nat.le_refl _) _⟩
set_option maxHeartbeats 1000000 in
theorem key9 (a : Option Addr) (n c : Nat) (w : World) : Calls Tryd.prog 26 #[.slice a n c] w fun e w' => e = .returned (.agg #[.int .i64 0, .int .i64 0, .slice a n c, .int .i64 0]) ∧ Below w.heap.size w w' := by
  go_enter Tryd.func26, Tryd.ntmps26
  go_wp2
  exact bodyPost_ret (v := .agg #[.int .i64 0, .int .i64 0, .slice a n c, .int .i64 0]) (by simp [results, Tryd.results26, go_sem]) rfl ⟨rfl, (Below.refl _ w).alloc (Nat.le_refl _) _⟩
set_option maxHeartbeats 1000000 in
theorem val9 (a : Option Addr) (n c : Nat) (w : World) : Calls Tryd.prog 27 #[.slice a n c] w fun e w' => e = .returned (.agg #[.int .i64 1, .int .i64 0, .slice a n c, .int .i64 0]) ∧ Below w.heap.size w w' := by
  go_enter Tryd.func27, Tryd.ntmps27
  go_wp2
  exact bodyPost_ret (v := .agg #[.int .i64 1, .int .i64 0, .slice a n c, .int .i64 0]) (by simp [results, Tryd.results27, go_sem]) rfl ⟨rfl, (Below.refl _ w).alloc (Nat.le_refl _) _⟩

set_option maxHeartbeats 1000000 in
theorem putLineV (B : Nat) (v : Value) (xs : List Int) (s : ByteArray) (nm : List Int) (tv : Value) (ts : List DTok) (w : World) (h : Ow w B v xs) (hB : B ≤ w.heap.size) (hl : xs.length ≤ 100000000) (hs : Lib.strCells s = B8 nm) (hnm : nm.length ≤ 1000000)
    (hts : VToks w tv ts) (htl : ts.length ≤ 8) (hok : ∀ t ∈ ts, TokOk B w t) (hp : PowTab B w) :
    Calls Tryd.prog 24 #[v, .string s, tv] w fun e w' => ∃ v', e = .returned v' ∧ Ow w' B v' (xs ++ (nm ++ toksL ts ++ [10])) ∧ Bk B w w' := by
  have hE : ∀ W : World, ∀ o, Ext W (W.alloc o) := fun W o => World.grownBy_alloc _ _ _
  have hlen := toksL_len hok
  have HC := putWordsV B v xs s nm tv ts w h hB (by omega) hs hnm hts htl hok hp
  have HC' := Lib.hid HC
  clear HC hs hts hok hp
  go_enter Tryd.func24, Tryd.ntmps24
  go_wp2_with (first
    | (go_at_call 56; refine HC'.out.mono ?_; rintro e w1 ⟨v1, rfl, o1, b1⟩)
    | (at_builtin; refine wpList_append_bytes _ rfl _ _ 29 rfl B info5 Tryd.underlying29 v1 (xs ++ nm ++ toksL ts) rfl (o1.ext (hE _ _)) _ 1 1 [10] rfl (rd_one w1 10 (by omega) (by omega)) (by simp only [List.length_append]; omega) (by have := b1.size; simp; omega) ?_; intro v4 w4 o4 g4))
  go_ret
  exact ⟨v4, rfl, by simpa using o4, (b1.alloc (Nat.le_trans hB b1.size) _).grown (o1.ext (hE _ _)) (by have := b1.size; simp; omega) g4⟩

end Go.Proofs.YtheojmjnpemkbaaDoor
