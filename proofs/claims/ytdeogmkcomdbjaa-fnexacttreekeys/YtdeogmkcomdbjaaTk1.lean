/- The program's keysBehind: its iterator tells the keys. -/
import Derived.Test.YtdeogmkcomdbjaaTk0
import Derived.Test.YtdeogmkcomdbjaaConc
import Derived.Shelf.Abstract
import Derived.Shelf.RegionOpen
import Derived.WalkKit
import Derived.OwnWalkIn
import Derived.TacticsInMore
import Derived.LoopNIn
import Derived.LoopIn
namespace Go.Proofs.Ytdeogmkcomdbjaa
open Go.RowKit Go.Shelf
attribute [local go_sem] Oper.semAt_some

theorem round_in {P : Program} {n m l l' : Nat} {f : FuncId} {tmps : Array Value} {assign body : Code} {w : World} {R : Ending → World → Prop} (h : RoundIn Fence.wide n P l f tmps assign body w R) : RoundIn (Fence.wide.inRound l') m P l f tmps assign body w R := ⟨trivial, fun c cs _ => h.2 c cs (room_wide _)⟩
theorem hideK {p : Prop} (h : p) : Hid p := h
/-- Two of them. -/
def tw {α : Type} (a b : α) : Nat → α := fun j => if j = 0 then a else b
theorem cat_tw (x y : List Int) : cat (tw x y) 2 = x ++ y := by simp [cat, tw]
theorem ow_low {w : World} {b b' : Nat} {v : Value} {xs : List Int} (h : Ow w b v xs) (hb : b' ≤ b) : Ow w b' v xs := by
  refine ⟨h.1, ?_⟩
  rcases h.2 with h2 | ⟨g, cap, cur, hv, hbb, r⟩
  · exact .inl h2
  · exact .inr ⟨g, cap, cur, hv, Nat.le_trans hb hbb, r⟩

/-- The iterator over a tree's keys, wherever its two boxes lie. -/
def KeysSays {d : Nat} (t : DTree d) : Prop := ∀ (w0 W : World) (c0 c1 c2 c3 : Value) (Bt Ba B0 : Nat) (av : Value) (ah : List Int) (O : Nat → Prop),
  VTree w0 t (.agg #[c0, c1, c2, c3]) → w0.heap.size ≤ B0 → Ext w0 W → W.heap[Bt]? = some (.cells #[c0, c1, c2, c3] 30 (0, 0)) → ¬ O Bt → W.heap[Ba]? = some (.cells #[av] 22 (0, 0)) → RV W av ah → ah.length + szT t ≤ 2147483648 →
  Tells Try.prog 44 #[.pointer (some ⟨Ba, 0, none⟩), .pointer (some ⟨Bt, 0, none⟩)] (keysT t ah) B0 O W

set_option maxHeartbeats 1000000 in
theorem keysBehindW (w : World) (c0 c1 c2 c3 : Value) (ka : Option Addr) (kn kc : Nat) :
    Calls Try.prog 35 #[.agg #[c0, c1, c2, c3], .slice ka kn kc] w fun e w' => e = .returned (.func (.func 44) #[] #[.pointer (some ⟨w.heap.size + 1, 0, none⟩), .pointer (some ⟨w.heap.size, 0, none⟩)]) ∧ w' = (w.alloc (.cells #[c0, c1, c2, c3] 30 (0, 0))).alloc (.cells #[.slice ka kn kc] 22 (0, 0)) := by
  go_enter Try.func35, Try.ntmps35
  go_wp2
  go_ret
  exact ⟨by simp, rfl⟩

set_option maxHeartbeats 1000000 in
theorem keysBehindV (wr : World) (o : Obj) (c0 c1 c2 c3 : Value) (ka : Option Addr) (kn kc : Nat) :
    Calls Try.prog 35 #[.agg #[c0, c1, c2, c3], .slice ka kn kc] (wr.alloc o) fun e w' => e = .returned (.func (.func 44) #[] #[.pointer (some ⟨wr.heap.size + 2, 0, none⟩), .pointer (some ⟨wr.heap.size + 1, 0, none⟩)]) ∧ w' = ((wr.alloc o).alloc (.cells #[c0, c1, c2, c3] 30 (0, 0))).alloc (.cells #[.slice ka kn kc] 22 (0, 0)) := by
  go_enter Try.func35, Try.ntmps35
  go_wp2
  go_ret
  exact ⟨by simp, rfl⟩

set_option maxRecDepth 100000 in
set_option maxHeartbeats 1000000 in
theorem keys1_step {d : Nat} (e : List Int) (h : Bool) (x : Int) (n : Nat) (kid : Nat → DTree d) (ih : ∀ i, KeysSays (kid i)) : KeysSays (DTree.node e h x n kid) := by
  intro w0 W c0 c1 c2 c3 Bt Ba B0 av ah O hv hB0 hX0 hbt nbt hba hav hsz l X J S k0 hX hJ hS hOb hy h0
  have hE : ∀ w : World, ∀ o, Ext w (w.alloc o) := fun w o => World.grownBy_alloc _ _ _
  obtain ⟨ev, kv, hvv, hev, hkids⟩ := hv.open_
  simp only [Value.agg.injEq, Array.mk.injEq, List.cons.injEq, and_true] at hvv
  obtain ⟨rfl, rfl, rfl, rfl⟩ := hvv
  obtain ⟨ea, ec, rfl, her, _, _⟩ := hev
  obtain ⟨aa, ac, rfl, har, _, _⟩ := hav
  obtain ⟨ka, kc, rfl, hkn, hkc⟩ := hkids.slice
  have HZ : Hid (ah.length + (e.length + (n + sumN n (fun i => szT (kid i)))) ≤ 2147483648) := hsz
  have HKD : Hid (VKids w0 n kid (.slice ka n kc)) := hkids
  have HIH : Hid (∀ i, KeysSays (kid i)) := ih
  have HJ : Hid (∀ k O1 V V', J k O1 V → Cel W.heap.size V V' → J k O1 V') := hJ
  have HS : Hid (∀ V V', S V → Cel W.heap.size V V' → S V') := hS
  have HOB : Hid (∀ k O1 V, J k O1 V → ∀ b, O1 b → B0 ≤ b ∧ b < V.heap.size) := hOb
  have HY := hideK hy
  have HJ0 : Hid (J k0 O W) := h0
  have HX : Hid (∀ b, X b → b < W.heap.size) := hX
  have HX0 : Hid (Ext w0 W) := hX0
  have HBT : Hid (W.heap[Bt]? = some (.cells #[.slice ea e.length ec, .bool h, .int .i64 x, .slice ka n kc] 30 (0, 0))) := hbt
  have HBA : Hid (W.heap[Ba]? = some (.cells #[.slice aa ah.length ac] 22 (0, 0))) := hba
  have HER : Hid (Rd w0 ea e.length e) := her
  have HAR : Hid (Rd W aa ah.length ah) := har
  have HNB : Hid (¬ O Bt ∧ w0.heap.size ≤ B0) := ⟨nbt, hB0⟩
  clear ih hJ hS hOb hy h0 hX hX0 hbt nbt hba hsz her har hkids hB0
  generalize hRR : (fun (e_1 : Ending) (W' : World) => e_1 = Ending.returned (Value.tuple #[]) ∧ ((∃ O', J (k0 + (keysT (DTree.node e h x n kid) ah).length) O' W' ∧ Rnd O O' W W') ∨ (S W' ∧ ∃ O', Rnd (fun b => O b ∨ X b) O' W W'))) = R
  have HRD : Hid (∀ O' W', J (k0 + (keysT (DTree.node e h x n kid) ah).length) O' W' → Rnd O O' W W' → R (.returned (.tuple #[])) W') := fun O' W' h1 h2 => by rw [← hRR]; exact ⟨rfl, .inl ⟨O', h1, h2⟩⟩
  have HRS : Hid (∀ O' W', S W' → Rnd (fun b => O b ∨ X b) O' W W' → R (.returned (.tuple #[])) W') := fun O' W' h1 h2 => by rw [← hRR]; exact ⟨rfl, .inr ⟨h1, O', h2⟩⟩
  clear hRR
  refine callsIn_of_wp_marks Try.func44 rfl trivial ?_ rfl
  simp only [Try.ntmps44, List.size_toArray, List.length_cons, List.length_nil, Nat.reduceAdd, Nat.reduceSub, Array.replicate_succ, Array.replicate_zero, List.push_toArray, List.append_toArray, List.nil_append, List.cons_append]
  have XY : Ext W (W.alloc (.cells #[.func (.yield l) #[] #[]] 59)) := hE _ _
  obtain ⟨b0, _⟩ := at_block (ext_blk XY HBT.out) 0 _ rfl
  obtain ⟨b1, _⟩ := at_block (ext_blk XY HBT.out) 1 _ rfl
  obtain ⟨b3, _⟩ := at_block (ext_blk XY HBT.out) 3 _ rfl
  obtain ⟨a0, _⟩ := at_block (ext_blk XY HBA.out) 0 _ rfl
  clear XY
  generalize ah.length = an at *
  generalize e.length = en at *
  gi_wp2_with fail
  refine ⟨trivial, callsIn_wide.2 ?_⟩
  generalize hW2 : World.alloc (World.alloc W _) _ = W2
  have X2 : Ext W W2 := by rw [← hW2]; exact (hE _ _).tr (hE _ _)
  have Y2 : W2.heap[W.heap.size]? = some (.cells #[.func (.yield l) #[] #[]] 59 (0, 0)) := by rw [← hW2, Below.heap_alloc _ _ _ (by simp)]; exact heap_alloc_new W _
  have Z2 : W2.heap[W.heap.size + 1]? = some (.cells #[.slice aa an ac, .slice ea en ec] 22 (0, 0)) := by rw [← hW2]; simpa using heap_alloc_new (World.alloc W _) (.cells #[.slice aa an ac, .slice ea en ec] 22 (0, 0))
  clear hW2 b0 b1 b3 a0
  refine (conc (W.heap.size + 1) 2 2 (tw aa ea) (tw an en) (tw ac ec) (tw ah e) W2 (by decide) ?c1 ?c2 ?c3).mono ?_
  case c1 =>
    intro j hj
    match j, hj with
    | 0, _ => exact (at_block Z2 0 _ rfl).1
    | 1, _ => exact (at_block Z2 1 _ rfl).1
  case c2 =>
    intro j hj
    match j, hj with
    | 0, _ => exact HAR.out.grown X2
    | 1, _ => exact HER.out.grown (HX0.out.tr X2)
  case c3 =>
    rw [cat_tw, List.length_append, HAR.out.len, HER.out.len]
    have := HZ.out
    omega
  rintro e1 w3 ⟨kv, rfl, o3, b3⟩
  rw [cat_tw] at o3
  obtain ⟨kva, kvc, hkvs, _⟩ := Ow.rv o3 (fun y hy => (List.mem_append.1 hy).elim (HAR.out.rng y) (HER.out.rng y))
  generalize (ah ++ e).length = kn at hkvs
  subst hkvs
  have X3 : Ext W w3 := X2.tr (ext_below b3)
  have HX3 := hideK X3
  have HO3 := hideK (ow_low o3 X2.size)
  have HOO : Hid (∀ b, O b → b < W.heap.size) := fun b hb => (HOB.out k0 O W HJ0.out b hb).2
  have HK3 : Hid (KeyS w0 Bt W.heap.size #[.slice ea en ec, .bool h, .int .i64 x, .slice ka n kc] 30 59 (.func (.yield l) #[] #[]) (.slice kva kn kvc) (ah ++ e) W.heap.size [] O w3) := ⟨HX0.out.tr X3, ext_blk X3 HBT.out, HNB.out.1, ext_blk (ext_below b3) Y2, fun hh => by have := HOO.out _ hh; omega, HO3.out, fun r hr hh => by have h1 := (HO3.out.lt r hr).1; have h2 := HOO.out _ hh; omega, fun _ hD => (by cases hD), fun _ hD => (by cases hD)⟩
  clear o3 b3 X2 X3 Y2 Z2
  cases h
  case false =>
    obtain ⟨y1, _⟩ := at_block HK3.out.box 1 _ rfl
    have HJ1 : Hid (J (k0 + 0) O w3) := HJ.out _ _ _ _ HJ0.out (Cel.ext _ HX3.out)
    have HR1 : Hid (Rnd O O W w3) := (Rnd.refl O W).ext HX3.out
    obtain ⟨z3, _⟩ := at_block HK3.out.box 3 _ rfl
    have HLEN : Hid ((keysT (DTree.node e false x n kid) ah).length = 0 + (flatN n (fun i => keysT (kid i) (ah ++ e))).length) := by show (keysTD _ _ _).length = _; simp only [keysTD, List.length_append]; first | rfl | (simp; done) | (simp; exact Nat.add_comm _ _)
    have HAT : Hid (∀ i k y, i < n → (keysT (kid i) (ah ++ e))[k]? = some y → (keysT (DTree.node e false x n kid) ah)[0 + ((flatN i (fun i => keysT (kid i) (ah ++ e))).length + k)]? = some y) := fun i k y hi hk => by
      have := flatN_at (fun i => keysT (kid i) (ah ++ e)) hi hk
      show (keysTD _ _ _)[_]? = _
      simp only [keysTD]
      first
        | (rw [List.getElem?_append_right (by simp)]; simpa using this)
        | (simpa using this)
    generalize keysT (DTree.node e false x n kid) ah = AL at HLEN HAT HRD HY
    obtain ⟨F, hF⟩ : ∃ F, F = fun i => keysT (kid i) (ah ++ e) := ⟨_, rfl⟩
    rw [← hF] at HLEN
    have HAT2 : Hid (∀ i k y, i < n → (F i)[k]? = some y → AL[0 + ((flatN i F).length + k)]? = some y) := fun i k y hi hk => by rw [hF] at hk ⊢; exact HAT.out i k y hi hk
    have HF : Hid (∀ i, F i = keysT (kid i) (ah ++ e)) := fun i => by rw [hF]
    have HRG : Hid (∀ y ∈ ah ++ e, 0 ≤ y ∧ y ≤ 255) := fun y hy => (List.mem_append.1 hy).elim (HAR.out.rng y) (HER.out.rng y)
    clear hF HAT
    gi_wp2
    refine ⟨fun _ h => (by cases h), ?_⟩
    gi_wp2
    refine wpIn_loop (fun a' w' => ∃ (i : Nat) (u6 u25 u26 u27 u28 u29 u30 u36 : Value) (Ds : List Nat) (O2 : Nat → Prop), a' = ⟨#[.func (.yield l) #[] #[], .pointer (some ⟨Ba, 0, none⟩), .pointer (some ⟨Bt, 0, none⟩), .pointer (some ⟨W.heap.size, 0, none⟩), (.slice kva kn kvc), undef, u6, undef, .slice aa an ac, .pointer (some ⟨Bt, 0, none⟩), .slice ea en ec, .slice (some ⟨W.heap.size + 1, 0, none⟩) 2 2, (.slice kva kn kvc), .pointer (some ⟨Bt, 1, none⟩), .bool false, .bool false, undef, undef, undef, undef, .bool false, .pointer (some ⟨Bt, 3, none⟩), .slice ka n kc, .int .i64 n, .int .i64 i, u25, u26, u27, u28, u29, u30, undef, undef, undef, undef, undef, u36], marksD Ds⟩ ∧ i ≤ n ∧ Hid (J (k0 + (0 + (flatN i F).length)) O2 w') ∧ Hid (KeyS w0 Bt W.heap.size #[.slice ea en ec, .bool false, .int .i64 x, .slice ka n kc] 30 59 (.func (.yield l) #[] #[]) (.slice kva kn kvc) (ah ++ e) W.heap.size Ds O2 w') ∧ Hid (Rnd O O2 W w') ∧ Hid (Ds.Nodup ∧ ∀ D ∈ Ds, W.heap.size ≤ D)) (fun a' _ => n - (intOf (a'.tmps.getD 24 undef)).toNat) ?_ ?_
    · exact ⟨0, _, _, _, _, _, _, _, _, [], O, rfl, Nat.zero_le _, by simpa [flatN] using HJ1, HK3, HR1, List.nodup_nil, fun D hD => (by cases hD)⟩
    rintro a' wr ⟨i, u6, u25, u26, u27, u28, u29, u30, u36, Ds, O2, rfl, hi, hJi, hKi, hRi, hDi⟩
    clear z3
    by_cases hlt : i < n
    · have HT := HKD.out
      obtain ⟨C, ⟨ka', kc', hkv, _, _, hcell⟩, hC⟩ := HT
      simp only [Value.slice.injEq] at hkv
      obtain ⟨rfl, _, rfl⟩ := hkv
      obtain ⟨kb, ko, rfl, _, hcell⟩ := hcell (by omega)
      have hT := hC i hlt
      obtain ⟨e1, e2, e3, hv, xv, k1, k2, k3, hag⟩ := hT.agg
      simp only [Value.agg.injEq, Array.mk.injEq, List.cons.injEq, and_true] at hag
      obtain ⟨g0, g1, g2, g3⟩ := hag
      rw [g0, g1, g2, g3] at hT
      have q0 := World.grownBy.cell hKi.out.old (hcell i hlt 0 (by omega)) (by simp)
      have q1 := World.grownBy.cell hKi.out.old (hcell i hlt 1 (by omega)) (by simp)
      have q2 := World.grownBy.cell hKi.out.old (hcell i hlt 2 (by omega)) (by simp)
      have q3 := World.grownBy.cell hKi.out.old (hcell i hlt 3 (by omega)) (by simp)
      rw [Nat.add_zero] at q0
      rw [g0] at q0
      rw [g1] at q1
      rw [g2] at q2
      rw [g3] at q3
      have HTI := hideK hT
      have hlt' : (i : Int) < (n : Int) := by omega
      have hn1 : (n : Int) ≤ 2147483648 := by have := HZ.out; omega
      clear hcell hC hT g0 g1 g2 g3
      gi_wp2_with fail
      refine ⟨trivial, callsIn_wide.2 ?_⟩
      refine (keysBehindV wr _ (.slice e1 e2 e3) (.bool hv) (.int .i64 xv) (.slice k1 k2 k3) kva kn kvc).mono ?_
      rintro e9 V2 ⟨rfl, hV2⟩
      have XV : Ext wr V2 := by rw [hV2]; exact ((hE _ _).tr (hE _ _)).tr (hE _ _)
      have BT2 : V2.heap[wr.heap.size + 1]? = some (.cells #[.slice e1 e2 e3, .bool hv, .int .i64 xv, .slice k1 k2 k3] 30 (0, 0)) := by
        rw [hV2, Below.heap_alloc _ _ _ (by simp)]
        simpa using heap_alloc_new (wr.alloc _) (.cells #[.slice e1 e2 e3, .bool hv, .int .i64 xv, .slice k1 k2 k3] 30 (0, 0))
      have BA2 : V2.heap[wr.heap.size + 2]? = some (.cells #[(.slice kva kn kvc)] 22 (0, 0)) := by
        rw [hV2]
        simpa using heap_alloc_new ((wr.alloc _).alloc _) (.cells #[(.slice kva kn kvc)] 22 (0, 0))
      have HXV := hideK XV
      have HBT2 := hideK BT2
      have HBA2 := hideK BA2
      have HOW : Hid (∀ b, O2 b → b < wr.heap.size) := fun b hb => (HOB.out _ _ _ hJi.out b hb).2
      have HWS : Hid (W.heap.size ≤ V2.heap.size ∧ w0.heap.size ≤ V2.heap.size) := ⟨Nat.le_trans hRi.out.size XV.size, Nat.le_trans hKi.out.old.size XV.size⟩
      have HDL : Hid (∀ D ∈ Ds, D < wr.heap.size) := fun D hD => (Array.getElem?_eq_some_iff.1 (hKi.out.mrk D hD)).1
      clear XV BT2 BA2 hV2 q0 q1 q2 q3
      gi_wp2_with fail
      refine wpIn_range_tells (gf := 44) (lb := #[.pointer (some ⟨wr.heap.size + 2, 0, none⟩), .pointer (some ⟨wr.heap.size + 1, 0, none⟩)]) rfl (enters_of Try.func44 (by kernel_rfl) rfl) rfl (F i) B0 O2 X ?hX ?tell
        (fun j O3 V => J (k0 + (0 + ((flatN i F).length + j))) O3 V ∧ KeyS w0 Bt W.heap.size #[.slice ea en ec, .bool false, .int .i64 x, .slice (some ⟨kb, ko, none⟩) n kc] 30 59 (.func (.yield l) #[] #[]) (.slice kva kn kvc) (ah ++ e) W.heap.size Ds O3 V) (fun c V => c = .ret ∧ S V) ?hI ?hIx ?hO ?h0
        (fun kq => { tmps := #[.func (.yield l) #[] #[], .pointer (some ⟨Ba, 0, none⟩), .pointer (some ⟨Bt, 0, none⟩), .pointer (some ⟨W.heap.size, 0, none⟩), (.slice kva kn kvc), undef, .pointer (some ⟨wr.heap.size, 0, none⟩), kq, .slice aa an ac, .pointer (some ⟨Bt, 0, none⟩), .slice ea en ec, .slice (some ⟨W.heap.size + 1, 0, none⟩) 2 2, (.slice kva kn kvc), .pointer (some ⟨Bt, 1, none⟩), .bool false, .bool false, undef, undef, undef, undef, .bool false, .pointer (some ⟨Bt, 3, none⟩), .slice (some ⟨kb, ko, none⟩) n kc, .int .i64 n, .int .i64 i, .bool true, .pointer (some ⟨kb, ko + i * 4, none⟩), .agg #[.slice e1 e2 e3, .bool hv, .int .i64 xv, .slice k1 k2 k3], .agg #[.slice e1 e2 e3, .bool hv, .int .i64 xv, .slice k1 k2 k3], (.slice kva kn kvc), .func (.func 44) #[] #[.pointer (some ⟨wr.heap.size + 2, 0, none⟩), .pointer (some ⟨wr.heap.size + 1, 0, none⟩)], kq, undef, undef, undef, undef, u36], defers := [] }) ?asg ?body ?done ?stop
      case hX => exact fun b hb => Nat.lt_of_lt_of_le (HX.out b hb) HWS.out.1
      case tell =>
        intro W1 hX1
        rw [HF.out i]
        refine HIH.out i w0 W1 _ _ _ _ (wr.heap.size + 1) (wr.heap.size + 2) B0 (.slice kva kn kvc) (ah ++ e) O2 HTI.out HNB.out.2 (hKi.out.old.tr (HXV.out.tr hX1)) (ext_blk hX1 HBT2.out) (fun hh => by have := HOW.out _ hh; omega) (ext_blk hX1 HBA2.out) ((hKi.out.key.ext (HXV.out.tr hX1)).rv HRG.out) ?_
        have h1 := HZ.out
        have h2 := sumN_mem (fun i => szT (kid i)) hlt
        rw [List.length_append, HAR.out.len, HER.out.len]
        (try simp only at h2)
        omega
      case hI => exact fun k O3 V V' hh hc => ⟨HJ.out _ _ _ _ hh.1 (hc.mono HWS.out.1), hh.2.cel hc HWS.out.2 (fun D hD => Nat.lt_of_lt_of_le (HDL.out D hD) HXV.out.size)⟩
      case hIx => exact fun c V V' hh hc => ⟨hh.1, HS.out _ _ hh.2 (hc.mono HWS.out.1)⟩
      case hO => exact fun k O3 V hh => HOB.out _ _ _ hh.1
      case h0 => exact ⟨by simpa using HJ.out _ _ _ _ hJi.out (Cel.ext _ HXV.out), hKi.out.cel (Cel.ext V2.heap.size HXV.out) HWS.out.2 (fun D hD => Nat.lt_of_lt_of_le (HDL.out D hD) HXV.out.size)⟩
      case asg =>
        intro l' kq V K hK
        gi_wp2
        exact hK
      case body =>
        intro l' j xk O3 V0 V kq hl' hxk hI0 hR0 hc0 ho
        obtain ⟨hJ0, hK0⟩ := hI0
        have HKV := hideK (hK0.cel hc0 HWS.out.2 (fun D hD => Nat.lt_of_lt_of_le (HDL.out D hD) HXV.out.size))
        have HOV : Hid (∀ b, O3 b → w0.heap.size ≤ b) := fun b hb => Nat.le_trans HNB.out.2 (HOB.out _ _ _ hJ0 b hb).1
        obtain ⟨fn, tmps, assign, body, hyy, hRd⟩ := HY.out (0 + ((flatN i F).length + j)) xk O3 V0 V kq (HAT2.out i j xk hlt hxk) hJ0 ((hRi.out.ext HXV.out).trans hR0) (hc0.mono HWS.out.1) ho
        obtain ⟨y2, _⟩ := at_block HKV.out.yld 0 _ rfl
        clear hJ0 hK0 hxk ho hR0 hc0
        gi_wp2
        refine (round_in hRd).mono ?_
        rintro e9 V3 (⟨rfl, O4, hJ4, hR4⟩ | ⟨rfl, hS4, O4, hR4⟩)
        · have HF4 : Hid (∃ O5, (J (k0 + (0 + ((flatN i F).length + (j + 1)))) O5 V3 ∧ KeyS w0 Bt W.heap.size #[.slice ea en ec, .bool false, .int .i64 x, .slice (some ⟨kb, ko, none⟩) n kc] 30 59 (.func (.yield l) #[] #[]) (.slice kva kn kvc) (ah ++ e) W.heap.size Ds O5 V3) ∧ Rnd O3 O5 V V3) := ⟨O4, ⟨by have := hJ4; rw [show k0 + (0 + ((flatN i F).length + j)) + 1 = k0 + (0 + ((flatN i F).length + (j + 1))) by omega] at this; exact this, HKV.out.rnd hR4 HOV.out⟩, hR4⟩
          clear hJ4 hR4 hyy hRd y2
          gi_wp2
          exact HF4.out
        · have HF4 : Hid ((∃ O5, Rnd (fun b => O3 b ∨ X b) O5 V V3) ∧ S V3) := ⟨⟨O4, hR4⟩, hS4⟩
          clear hS4 hR4 hyy hRd y2
          gi_wp2
          exact ⟨HF4.out.1, rfl, HF4.out.2⟩
      case done =>
        intro D O3 V hD hI0 hR0 hDlt nD hdf
        have HI9 : Hid (J (k0 + (0 + (flatN (i + 1) F).length)) O3 V) := by
          have := hI0.1
          simp only [flatN, List.length_append]
          exact this
        have HK9 : Hid (KeyS w0 Bt W.heap.size #[.slice ea en ec, .bool false, .int .i64 x, .slice (some ⟨kb, ko, none⟩) n kc] 30 59 (.func (.yield l) #[] #[]) (.slice kva kn kvc) (ah ++ e) W.heap.size (D :: Ds) O3 V) := ⟨hI0.2.old, hI0.2.box, hI0.2.nbox, hI0.2.yld, hI0.2.nyld, hI0.2.key, hI0.2.nkey, fun E hE => (List.mem_cons.1 hE).elim (fun h => by rw [h]; exact hdf) (hI0.2.mrk E), fun E hE => (List.mem_cons.1 hE).elim (fun h => by rw [h]; exact nD) (hI0.2.nmrk E)⟩
        have HR9 : Hid (Rnd O O3 W V) := (hRi.out.ext HXV.out).trans hR0
        have HD9 : Hid ((D :: Ds).Nodup ∧ ∀ E ∈ D :: Ds, W.heap.size ≤ E) := ⟨List.nodup_cons.2 ⟨fun hm => by have h1 := HDL.out D hm; have h2 := HXV.out.size; omega, hDi.out.1⟩, fun E hE => (List.mem_cons.1 hE).elim (fun h => by rw [h]; exact Nat.le_trans HWS.out.1 hD) (hDi.out.2 E)⟩
        clear hI0 hR0 nD hdf hDlt hD
        gi_wp2
        refine ⟨⟨i + 1, _, _, _, _, _, _, _, _, D :: Ds, O3, by first | rfl | (go_num; rfl), by omega, HI9, HK9, HR9, HD9⟩, ?_⟩
        simp [intOf]
        omega
      case stop =>
        rintro D c O3 V hD ⟨rfl, hSV⟩ hR0 hdf
        have hRX : Rnd (fun b => O b ∨ X b) O3 W V := by
          have h1 := hRi.out.ext HXV.out
          refine ⟨hR0.os.trans h1.os, hR0.tape.trans h1.tape, hR0.output.trans h1.output, Nat.le_trans h1.size hR0.size, fun j hj hn => ?_, fun j hj => ?_⟩
          · refine (hR0.same j (Nat.lt_of_lt_of_le hj h1.size) (fun h => ?_)).trans (h1.same j hj (fun h => hn (.inl h)))
            rcases h with h | h
            · rcases h1.own j h with h2 | h2
              · exact hn (.inl h2)
              · omega
            · exact hn (.inr h)
          · rcases hR0.own j hj with (h | h) | h
            · exact (h1.own j h).imp .inl id
            · exact .inl (.inr h)
            · exact .inr (Nat.le_trans h1.size h)
        have HFD : Hid (∀ W', Cel W.heap.size V W' → R (.returned (.tuple #[])) W') := fun W' hc => HRS.out O3 W' (HS.out _ _ hSV hc) (hRX.cel hc)
        have HMK : Hid (∀ E ∈ D :: Ds, W.heap.size ≤ E ∧ V.heap[E]? = some (.deferred (some []))) := fun E hE => (List.mem_cons.1 hE).elim (fun h => by rw [h]; exact ⟨Nat.le_trans HWS.out.1 hD, hdf⟩) (fun h => ⟨hDi.out.2 E h, (hR0.same E (Nat.lt_of_lt_of_le (HDL.out E h) HXV.out.size) (fun hh => hh.elim (hKi.out.nmrk E h) (fun hx => by have h3 := HX.out E hx; have h4 := hDi.out.2 E h; omega))).trans (ext_blk HXV.out (hKi.out.mrk E h))⟩)
        have HND : Hid ((D :: Ds).Nodup) := List.nodup_cons.2 ⟨fun hm => by have h1 := HDL.out D hm; have h2 := HXV.out.size; omega, hDi.out.1⟩
        refine wpIn_ret ?_
        exact leaves_marks W.heap.size (D :: Ds) V HND.out HMK.out (fun W' hc => ⟨_, results_none rfl _ _ _, HFD.out W' hc⟩)
    · have hin : i = n := by omega
      subst hin
      have HFD : Hid (∀ W', Cel W.heap.size wr W' → R (.returned (.tuple #[])) W') := fun W' hc => HRD.out O2 W' (by rw [HLEN.out]; exact HJ.out _ _ _ _ hJi.out hc) (hRi.out.cel hc)
      have HMK : Hid (∀ D ∈ Ds, W.heap.size ≤ D ∧ wr.heap[D]? = some (.deferred (some []))) := fun D hD => ⟨hDi.out.2 D hD, hKi.out.mrk D hD⟩
      gi_wp2
      exact leaves_marks W.heap.size Ds wr hDi.out.1 HMK.out (fun W' hc => ⟨_, results_none rfl _ _ _, HFD.out W' hc⟩)
  case true =>
    obtain ⟨fn, tmps, assign, body, hyy, hRd⟩ := HY.out 0 (ah ++ e) O W w3 (.slice kva kn kvc) rfl HJ0.out (Rnd.refl _ _) (Cel.ext _ HX3.out) HO3.out
    obtain ⟨y1, _⟩ := at_block HK3.out.box 1 _ rfl
    obtain ⟨y2, _⟩ := at_block HK3.out.yld 0 _ rfl
    gi_wp2
    refine hRd.mono ?_
    rintro e1 V1 (⟨rfl, O1, hJ1, hR1⟩ | ⟨rfl, hS1, O2, hR2⟩)
    · have HK1 := hideK (HK3.out.rnd hR1 (fun b hb => Nat.le_trans HNB.out.2 (HOB.out k0 O W HJ0.out b hb).1))
      clear y1 y2 hyy hRd
      have HJ1 : Hid (J (k0 + 1) O1 V1) := hJ1
      have HR1 : Hid (Rnd O O1 W V1) := ((Rnd.refl O W).ext HX3.out).trans hR1
      obtain ⟨z3, _⟩ := at_block HK1.out.box 3 _ rfl
      have HLEN : Hid ((keysT (DTree.node e true x n kid) ah).length = 1 + (flatN n (fun i => keysT (kid i) (ah ++ e))).length) := by show (keysTD _ _ _).length = _; simp only [keysTD, List.length_append]; first | rfl | (simp; done) | (simp; exact Nat.add_comm _ _)
      have HAT : Hid (∀ i k y, i < n → (keysT (kid i) (ah ++ e))[k]? = some y → (keysT (DTree.node e true x n kid) ah)[1 + ((flatN i (fun i => keysT (kid i) (ah ++ e))).length + k)]? = some y) := fun i k y hi hk => by
        have := flatN_at (fun i => keysT (kid i) (ah ++ e)) hi hk
        show (keysTD _ _ _)[_]? = _
        simp only [keysTD]
        first
          | (rw [List.getElem?_append_right (by simp)]; simpa using this)
          | (simpa using this)
      generalize keysT (DTree.node e true x n kid) ah = AL at HLEN HAT HRD HY
      obtain ⟨F, hF⟩ : ∃ F, F = fun i => keysT (kid i) (ah ++ e) := ⟨_, rfl⟩
      rw [← hF] at HLEN
      have HAT2 : Hid (∀ i k y, i < n → (F i)[k]? = some y → AL[1 + ((flatN i F).length + k)]? = some y) := fun i k y hi hk => by rw [hF] at hk ⊢; exact HAT.out i k y hi hk
      have HF : Hid (∀ i, F i = keysT (kid i) (ah ++ e)) := fun i => by rw [hF]
      have HRG : Hid (∀ y ∈ ah ++ e, 0 ≤ y ∧ y ≤ 255) := fun y hy => (List.mem_append.1 hy).elim (HAR.out.rng y) (HER.out.rng y)
      clear hF HAT
      gi_wp2
      refine wpIn_loop (fun a' w' => ∃ (i : Nat) (u6 u25 u26 u27 u28 u29 u30 u36 : Value) (Ds : List Nat) (O2 : Nat → Prop), a' = ⟨#[.func (.yield l) #[] #[], .pointer (some ⟨Ba, 0, none⟩), .pointer (some ⟨Bt, 0, none⟩), .pointer (some ⟨W.heap.size, 0, none⟩), (.slice kva kn kvc), undef, u6, undef, .slice aa an ac, .pointer (some ⟨Bt, 0, none⟩), .slice ea en ec, .slice (some ⟨W.heap.size + 1, 0, none⟩) 2 2, (.slice kva kn kvc), .pointer (some ⟨Bt, 1, none⟩), .bool true, .bool true, .func (.yield l) #[] #[], (.slice kva kn kvc), .bool true, .bool false, .bool false, .pointer (some ⟨Bt, 3, none⟩), .slice ka n kc, .int .i64 n, .int .i64 i, u25, u26, u27, u28, u29, u30, undef, undef, undef, undef, undef, u36], marksD Ds⟩ ∧ i ≤ n ∧ Hid (J (k0 + (1 + (flatN i F).length)) O2 w') ∧ Hid (KeyS w0 Bt W.heap.size #[.slice ea en ec, .bool true, .int .i64 x, .slice ka n kc] 30 59 (.func (.yield l) #[] #[]) (.slice kva kn kvc) (ah ++ e) W.heap.size Ds O2 w') ∧ Hid (Rnd O O2 W w') ∧ Hid (Ds.Nodup ∧ ∀ D ∈ Ds, W.heap.size ≤ D)) (fun a' _ => n - (intOf (a'.tmps.getD 24 undef)).toNat) ?_ ?_
      · exact ⟨0, _, _, _, _, _, _, _, _, [], O1, rfl, Nat.zero_le _, by simpa [flatN] using HJ1, HK1, HR1, List.nodup_nil, fun D hD => (by cases hD)⟩
      rintro a' wr ⟨i, u6, u25, u26, u27, u28, u29, u30, u36, Ds, O2, rfl, hi, hJi, hKi, hRi, hDi⟩
      clear z3
      by_cases hlt : i < n
      · have HT := HKD.out
        obtain ⟨C, ⟨ka', kc', hkv, _, _, hcell⟩, hC⟩ := HT
        simp only [Value.slice.injEq] at hkv
        obtain ⟨rfl, _, rfl⟩ := hkv
        obtain ⟨kb, ko, rfl, _, hcell⟩ := hcell (by omega)
        have hT := hC i hlt
        obtain ⟨e1, e2, e3, hv, xv, k1, k2, k3, hag⟩ := hT.agg
        simp only [Value.agg.injEq, Array.mk.injEq, List.cons.injEq, and_true] at hag
        obtain ⟨g0, g1, g2, g3⟩ := hag
        rw [g0, g1, g2, g3] at hT
        have q0 := World.grownBy.cell hKi.out.old (hcell i hlt 0 (by omega)) (by simp)
        have q1 := World.grownBy.cell hKi.out.old (hcell i hlt 1 (by omega)) (by simp)
        have q2 := World.grownBy.cell hKi.out.old (hcell i hlt 2 (by omega)) (by simp)
        have q3 := World.grownBy.cell hKi.out.old (hcell i hlt 3 (by omega)) (by simp)
        rw [Nat.add_zero] at q0
        rw [g0] at q0
        rw [g1] at q1
        rw [g2] at q2
        rw [g3] at q3
        have HTI := hideK hT
        have hlt' : (i : Int) < (n : Int) := by omega
        have hn1 : (n : Int) ≤ 2147483648 := by have := HZ.out; omega
        clear hcell hC hT g0 g1 g2 g3
        gi_wp2_with fail
        refine ⟨trivial, callsIn_wide.2 ?_⟩
        refine (keysBehindV wr _ (.slice e1 e2 e3) (.bool hv) (.int .i64 xv) (.slice k1 k2 k3) kva kn kvc).mono ?_
        rintro e9 V2 ⟨rfl, hV2⟩
        have XV : Ext wr V2 := by rw [hV2]; exact ((hE _ _).tr (hE _ _)).tr (hE _ _)
        have BT2 : V2.heap[wr.heap.size + 1]? = some (.cells #[.slice e1 e2 e3, .bool hv, .int .i64 xv, .slice k1 k2 k3] 30 (0, 0)) := by
          rw [hV2, Below.heap_alloc _ _ _ (by simp)]
          simpa using heap_alloc_new (wr.alloc _) (.cells #[.slice e1 e2 e3, .bool hv, .int .i64 xv, .slice k1 k2 k3] 30 (0, 0))
        have BA2 : V2.heap[wr.heap.size + 2]? = some (.cells #[(.slice kva kn kvc)] 22 (0, 0)) := by
          rw [hV2]
          simpa using heap_alloc_new ((wr.alloc _).alloc _) (.cells #[(.slice kva kn kvc)] 22 (0, 0))
        have HXV := hideK XV
        have HBT2 := hideK BT2
        have HBA2 := hideK BA2
        have HOW : Hid (∀ b, O2 b → b < wr.heap.size) := fun b hb => (HOB.out _ _ _ hJi.out b hb).2
        have HWS : Hid (W.heap.size ≤ V2.heap.size ∧ w0.heap.size ≤ V2.heap.size) := ⟨Nat.le_trans hRi.out.size XV.size, Nat.le_trans hKi.out.old.size XV.size⟩
        have HDL : Hid (∀ D ∈ Ds, D < wr.heap.size) := fun D hD => (Array.getElem?_eq_some_iff.1 (hKi.out.mrk D hD)).1
        clear XV BT2 BA2 hV2 q0 q1 q2 q3
        gi_wp2_with fail
        refine wpIn_range_tells (gf := 44) (lb := #[.pointer (some ⟨wr.heap.size + 2, 0, none⟩), .pointer (some ⟨wr.heap.size + 1, 0, none⟩)]) rfl (enters_of Try.func44 (by kernel_rfl) rfl) rfl (F i) B0 O2 X ?hX ?tell
          (fun j O3 V => J (k0 + (1 + ((flatN i F).length + j))) O3 V ∧ KeyS w0 Bt W.heap.size #[.slice ea en ec, .bool true, .int .i64 x, .slice (some ⟨kb, ko, none⟩) n kc] 30 59 (.func (.yield l) #[] #[]) (.slice kva kn kvc) (ah ++ e) W.heap.size Ds O3 V) (fun c V => c = .ret ∧ S V) ?hI ?hIx ?hO ?h0
          (fun kq => { tmps := #[.func (.yield l) #[] #[], .pointer (some ⟨Ba, 0, none⟩), .pointer (some ⟨Bt, 0, none⟩), .pointer (some ⟨W.heap.size, 0, none⟩), (.slice kva kn kvc), undef, .pointer (some ⟨wr.heap.size, 0, none⟩), kq, .slice aa an ac, .pointer (some ⟨Bt, 0, none⟩), .slice ea en ec, .slice (some ⟨W.heap.size + 1, 0, none⟩) 2 2, (.slice kva kn kvc), .pointer (some ⟨Bt, 1, none⟩), .bool true, .bool true, .func (.yield l) #[] #[], (.slice kva kn kvc), .bool true, .bool false, .bool false, .pointer (some ⟨Bt, 3, none⟩), .slice (some ⟨kb, ko, none⟩) n kc, .int .i64 n, .int .i64 i, .bool true, .pointer (some ⟨kb, ko + i * 4, none⟩), .agg #[.slice e1 e2 e3, .bool hv, .int .i64 xv, .slice k1 k2 k3], .agg #[.slice e1 e2 e3, .bool hv, .int .i64 xv, .slice k1 k2 k3], (.slice kva kn kvc), .func (.func 44) #[] #[.pointer (some ⟨wr.heap.size + 2, 0, none⟩), .pointer (some ⟨wr.heap.size + 1, 0, none⟩)], kq, undef, undef, undef, undef, u36], defers := [] }) ?asg ?body ?done ?stop
        case hX => exact fun b hb => Nat.lt_of_lt_of_le (HX.out b hb) HWS.out.1
        case tell =>
          intro W1 hX1
          rw [HF.out i]
          refine HIH.out i w0 W1 _ _ _ _ (wr.heap.size + 1) (wr.heap.size + 2) B0 (.slice kva kn kvc) (ah ++ e) O2 HTI.out HNB.out.2 (hKi.out.old.tr (HXV.out.tr hX1)) (ext_blk hX1 HBT2.out) (fun hh => by have := HOW.out _ hh; omega) (ext_blk hX1 HBA2.out) ((hKi.out.key.ext (HXV.out.tr hX1)).rv HRG.out) ?_
          have h1 := HZ.out
          have h2 := sumN_mem (fun i => szT (kid i)) hlt
          rw [List.length_append, HAR.out.len, HER.out.len]
          (try simp only at h2)
          omega
        case hI => exact fun k O3 V V' hh hc => ⟨HJ.out _ _ _ _ hh.1 (hc.mono HWS.out.1), hh.2.cel hc HWS.out.2 (fun D hD => Nat.lt_of_lt_of_le (HDL.out D hD) HXV.out.size)⟩
        case hIx => exact fun c V V' hh hc => ⟨hh.1, HS.out _ _ hh.2 (hc.mono HWS.out.1)⟩
        case hO => exact fun k O3 V hh => HOB.out _ _ _ hh.1
        case h0 => exact ⟨by simpa using HJ.out _ _ _ _ hJi.out (Cel.ext _ HXV.out), hKi.out.cel (Cel.ext V2.heap.size HXV.out) HWS.out.2 (fun D hD => Nat.lt_of_lt_of_le (HDL.out D hD) HXV.out.size)⟩
        case asg =>
          intro l' kq V K hK
          gi_wp2
          exact hK
        case body =>
          intro l' j xk O3 V0 V kq hl' hxk hI0 hR0 hc0 ho
          obtain ⟨hJ0, hK0⟩ := hI0
          have HKV := hideK (hK0.cel hc0 HWS.out.2 (fun D hD => Nat.lt_of_lt_of_le (HDL.out D hD) HXV.out.size))
          have HOV : Hid (∀ b, O3 b → w0.heap.size ≤ b) := fun b hb => Nat.le_trans HNB.out.2 (HOB.out _ _ _ hJ0 b hb).1
          obtain ⟨fn, tmps, assign, body, hyy, hRd⟩ := HY.out (1 + ((flatN i F).length + j)) xk O3 V0 V kq (HAT2.out i j xk hlt hxk) hJ0 ((hRi.out.ext HXV.out).trans hR0) (hc0.mono HWS.out.1) ho
          obtain ⟨y2, _⟩ := at_block HKV.out.yld 0 _ rfl
          clear hJ0 hK0 hxk ho hR0 hc0
          gi_wp2
          refine (round_in hRd).mono ?_
          rintro e9 V3 (⟨rfl, O4, hJ4, hR4⟩ | ⟨rfl, hS4, O4, hR4⟩)
          · have HF4 : Hid (∃ O5, (J (k0 + (1 + ((flatN i F).length + (j + 1)))) O5 V3 ∧ KeyS w0 Bt W.heap.size #[.slice ea en ec, .bool true, .int .i64 x, .slice (some ⟨kb, ko, none⟩) n kc] 30 59 (.func (.yield l) #[] #[]) (.slice kva kn kvc) (ah ++ e) W.heap.size Ds O5 V3) ∧ Rnd O3 O5 V V3) := ⟨O4, ⟨by have := hJ4; rw [show k0 + (1 + ((flatN i F).length + j)) + 1 = k0 + (1 + ((flatN i F).length + (j + 1))) by omega] at this; exact this, HKV.out.rnd hR4 HOV.out⟩, hR4⟩
            clear hJ4 hR4 hyy hRd y2
            gi_wp2
            exact HF4.out
          · have HF4 : Hid ((∃ O5, Rnd (fun b => O3 b ∨ X b) O5 V V3) ∧ S V3) := ⟨⟨O4, hR4⟩, hS4⟩
            clear hS4 hR4 hyy hRd y2
            gi_wp2
            exact ⟨HF4.out.1, rfl, HF4.out.2⟩
        case done =>
          intro D O3 V hD hI0 hR0 hDlt nD hdf
          have HI9 : Hid (J (k0 + (1 + (flatN (i + 1) F).length)) O3 V) := by
            have := hI0.1
            simp only [flatN, List.length_append]
            exact this
          have HK9 : Hid (KeyS w0 Bt W.heap.size #[.slice ea en ec, .bool true, .int .i64 x, .slice (some ⟨kb, ko, none⟩) n kc] 30 59 (.func (.yield l) #[] #[]) (.slice kva kn kvc) (ah ++ e) W.heap.size (D :: Ds) O3 V) := ⟨hI0.2.old, hI0.2.box, hI0.2.nbox, hI0.2.yld, hI0.2.nyld, hI0.2.key, hI0.2.nkey, fun E hE => (List.mem_cons.1 hE).elim (fun h => by rw [h]; exact hdf) (hI0.2.mrk E), fun E hE => (List.mem_cons.1 hE).elim (fun h => by rw [h]; exact nD) (hI0.2.nmrk E)⟩
          have HR9 : Hid (Rnd O O3 W V) := (hRi.out.ext HXV.out).trans hR0
          have HD9 : Hid ((D :: Ds).Nodup ∧ ∀ E ∈ D :: Ds, W.heap.size ≤ E) := ⟨List.nodup_cons.2 ⟨fun hm => by have h1 := HDL.out D hm; have h2 := HXV.out.size; omega, hDi.out.1⟩, fun E hE => (List.mem_cons.1 hE).elim (fun h => by rw [h]; exact Nat.le_trans HWS.out.1 hD) (hDi.out.2 E)⟩
          clear hI0 hR0 nD hdf hDlt hD
          gi_wp2
          refine ⟨⟨i + 1, _, _, _, _, _, _, _, _, D :: Ds, O3, by first | rfl | (go_num; rfl), by omega, HI9, HK9, HR9, HD9⟩, ?_⟩
          simp [intOf]
          omega
        case stop =>
          rintro D c O3 V hD ⟨rfl, hSV⟩ hR0 hdf
          have hRX : Rnd (fun b => O b ∨ X b) O3 W V := by
            have h1 := hRi.out.ext HXV.out
            refine ⟨hR0.os.trans h1.os, hR0.tape.trans h1.tape, hR0.output.trans h1.output, Nat.le_trans h1.size hR0.size, fun j hj hn => ?_, fun j hj => ?_⟩
            · refine (hR0.same j (Nat.lt_of_lt_of_le hj h1.size) (fun h => ?_)).trans (h1.same j hj (fun h => hn (.inl h)))
              rcases h with h | h
              · rcases h1.own j h with h2 | h2
                · exact hn (.inl h2)
                · omega
              · exact hn (.inr h)
            · rcases hR0.own j hj with (h | h) | h
              · exact (h1.own j h).imp .inl id
              · exact .inl (.inr h)
              · exact .inr (Nat.le_trans h1.size h)
          have HFD : Hid (∀ W', Cel W.heap.size V W' → R (.returned (.tuple #[])) W') := fun W' hc => HRS.out O3 W' (HS.out _ _ hSV hc) (hRX.cel hc)
          have HMK : Hid (∀ E ∈ D :: Ds, W.heap.size ≤ E ∧ V.heap[E]? = some (.deferred (some []))) := fun E hE => (List.mem_cons.1 hE).elim (fun h => by rw [h]; exact ⟨Nat.le_trans HWS.out.1 hD, hdf⟩) (fun h => ⟨hDi.out.2 E h, (hR0.same E (Nat.lt_of_lt_of_le (HDL.out E h) HXV.out.size) (fun hh => hh.elim (hKi.out.nmrk E h) (fun hx => by have h3 := HX.out E hx; have h4 := hDi.out.2 E h; omega))).trans (ext_blk HXV.out (hKi.out.mrk E h))⟩)
          have HND : Hid ((D :: Ds).Nodup) := List.nodup_cons.2 ⟨fun hm => by have h1 := HDL.out D hm; have h2 := HXV.out.size; omega, hDi.out.1⟩
          refine wpIn_ret ?_
          exact leaves_marks W.heap.size (D :: Ds) V HND.out HMK.out (fun W' hc => ⟨_, results_none rfl _ _ _, HFD.out W' hc⟩)
      · have hin : i = n := by omega
        subst hin
        have HFD : Hid (∀ W', Cel W.heap.size wr W' → R (.returned (.tuple #[])) W') := fun W' hc => HRD.out O2 W' (by rw [HLEN.out]; exact HJ.out _ _ _ _ hJi.out hc) (hRi.out.cel hc)
        have HMK : Hid (∀ D ∈ Ds, W.heap.size ≤ D ∧ wr.heap[D]? = some (.deferred (some []))) := fun D hD => ⟨hDi.out.2 D hD, hKi.out.mrk D hD⟩
        gi_wp2
        exact leaves_marks W.heap.size Ds wr hDi.out.1 HMK.out (fun W' hc => ⟨_, results_none rfl _ _ _, HFD.out W' hc⟩)
    · have HFS : Hid (R (.returned (.tuple #[])) V1) := HRS.out O2 V1 hS1 (((Rnd.refl (fun b => O b ∨ X b) W).ext HX3.out).trans hR2)
      clear y1 y2 hyy hRd hS1 hR2
      gi_wp2
      exact ⟨_, results_none rfl _ _ _, HFS.out⟩

theorem keys1_any : ∀ (d : Nat) (t : DTree d), KeysSays t
  | 0, _ => fun _ _ _ _ _ _ _ _ _ _ _ _ hv => False.elim hv
  | d + 1, (e, h, x, n, kid) => keys1_step e h x n kid (fun i => keys1_any d (kid i))

end Go.Proofs.Ytdeogmkcomdbjaa
