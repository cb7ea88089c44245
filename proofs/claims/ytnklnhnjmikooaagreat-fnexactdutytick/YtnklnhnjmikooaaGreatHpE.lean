
/- The contracts of the library's Pop and Remove over the timers. -/
import Derived.Test.YtnklnhnjmikooaaGreatHpD
namespace Go.Proofs.YtnklnhnjmikooaaGreat
open Go.RowKit

/-- Memory grew; of what was only the box h and the row g may have turned. -/
structure Two (w w' : World) (h : Nat) (g : Option Nat) : Prop where
  os : w'.os = w.os
  tape : w'.tape = w.tape
  output : w'.output = w.output
  size : w.heap.size ≤ w'.heap.size
  block : ∀ k, k < w.heap.size → k ≠ h → some k ≠ g → w'.heap[k]? = w.heap[k]?
theorem Two.re (w : World) (h : Nat) (g : Option Nat) : Two w w h g := ⟨rfl, rfl, rfl, Nat.le_refl _, fun _ _ _ _ => rfl⟩
theorem Two.trans {a b c : World} {h : Nat} {g : Option Nat} (x : Two a b h g) (y : Two b c h g) : Two a c h g :=
  ⟨y.os.trans x.os, y.tape.trans x.tape, y.output.trans x.output, Nat.le_trans x.size y.size, fun k hk h1 h2 => (y.block k (Nat.lt_of_lt_of_le hk x.size) h1 h2).trans (x.block k hk h1 h2)⟩
theorem two_row {w w' : World} {g : Option Nat} (x : w.grownBy w' g) (h : Nat) : Two w w' h g := ⟨x.os, x.tape, x.output, x.size, fun k hk _ h2 => x.block k hk h2⟩
theorem two_box {w w' : World} {h : Nat} (x : w.grownBy w' (some h)) (g : Option Nat) : Two w w' h g := ⟨x.os, x.tape, x.output, x.size, fun k hk h1 _ => x.block k hk (by simpa using h1)⟩
theorem two_below {w w' : World} (b : Below w.heap.size w w') (h : Nat) (g : Option Nat) : Two w w' h g := ⟨b.os, b.tape, b.output, b.size, fun k hk _ _ => b.block k hk⟩
theorem Two.below {w w' : World} {h base : Nat} {g : Option Nat} (x : Two w w' h g) (hb : base ≤ w.heap.size) (hh : base ≤ h) (hg : ∀ k, g = some k → base ≤ k) : Below base w w' :=
  ⟨x.os, x.tape, x.output, x.size, fun k hk => x.block k (by omega) (by omega) (fun e => by have := hg k e.symm; omega)⟩

theorem OwT.take {w : World} {base cap n : Nat} {a : Option Addr} {ts : List DTim} (h : OwT w base (.slice a n cap) ts) (hn : n = ts.length) {k : Nat} (hk : k < n) : OwT w base (.slice a k cap) (ts.take k) := by
  subst hn
  obtain ⟨hl, hh⟩ := h
  have hkl : (ts.take k).length = k := by simp; omega
  rcases hh with ⟨_, h0⟩ | ⟨g, cap', cur, hv, hb, hg, hnc, hm, hs, ht⟩
  · omega
  · simp only [Value.slice.injEq, true_and] at hv
    obtain ⟨rfl, rfl⟩ := hv
    refine ⟨tc_len _, .inr ⟨g, cap, cur, by rw [hkl], hb, hg, by omega, hm, hs, ?_⟩⟩
    rw [hkl, ← tc_take, ← ht, List.take_take, Nat.min_eq_left (by omega)]

/-- A timer, as what anything may be. -/
abbrev ifT (t : DTim) : Value := .iface 114 (.agg #[.int .i64 t.id, .int .i64 t.due])

set_option maxHeartbeats 2000000 in
theorem popM (h g cap base k : Nat) (ts : List DTim) (t : DTim) (w : World) (p : HP w base h (some ⟨g, 0, none⟩) cap ts) (hm : ts.length ≤ 100) (hk : ts.length = k + 1) (ht : ts[k]? = some t) :
    Calls Tryz.prog 144 #[.pointer (some ⟨h, 0, none⟩)] w fun e w' => e = .returned (ifT t) ∧ HP w' base h (some ⟨g, 0, none⟩) cap (ts.take k) ∧ w.grownBy w' (some h) := by
  obtain ⟨c0, f0⟩ := p.cell
  obtain ⟨r0, r1, _, _⟩ := OwT.cells p.row rfl ht
  rw [hk] at c0
  have hcap : k + 1 ≤ cap := by
    obtain ⟨_, hh⟩ := p.row
    rcases hh with ⟨_, h0⟩ | ⟨g', cap', cur, hv, _, _, hnc, _⟩
    · omega
    · simp only [Value.slice.injEq, Option.some.injEq, true_and] at hv
      obtain ⟨_, rfl⟩ := hv
      omega
  have hne : g ≠ h := by simpa [Value.ownBlock] using p.ne
  have hhl : h < w.heap.size := (Array.getElem?_eq_some_iff.1 p.box).1
  have hgl : g < w.heap.size := World.block_lt_of_cell? w _ r0
  have HPP : Hid (HP w base h (some ⟨g, 0, none⟩) cap ts) := p
  have HK : Hid (ts.length = k + 1) := hk
  have hk1 : (k : Int) ≤ 100 := by omega
  have hkc : (k : Int) ≤ cap := by omega
  have hcm : cap ≤ 9223372036854775807 := by
    obtain ⟨_, hh⟩ := p.row
    rcases hh with ⟨_, h0⟩ | ⟨g', cap', cur, hv, _, _, _, hm', _⟩
    · omega
    · simp only [Value.slice.injEq, Option.some.injEq, true_and] at hv
      obtain ⟨_, rfl⟩ := hv
      unfold maxLen at hm'
      omega
  have e0 : ∀ o, (w.alloc o).cell? ⟨h, 0, none⟩ = some (.slice (some ⟨g, 0, none⟩) (k + 1) cap) := fun o => World.grownBy.cell (World.grownBy_alloc w o none) c0 (by simp)
  have e1 : ∀ o, (w.alloc o).frozen? ⟨h, 0, none⟩ = false := fun o => ((Below.refl _ w).alloc (Nat.le_refl _) o).frozen (p := ⟨h, 0, none⟩) hhl |>.trans f0
  have HF : Hid (∀ o, HP ((w.setCell ⟨h, 0, none⟩ (.slice (some ⟨g, 0, none⟩) k cap)).alloc o) base h (some ⟨g, 0, none⟩) cap (ts.take k) ∧ w.grownBy ((w.setCell ⟨h, 0, none⟩ (.slice (some ⟨g, 0, none⟩) k cap)).alloc o) (some h)) := fun o => by
    have hkl : (ts.take k).length = k := by simp; omega
    have hP : HP (w.setCell ⟨h, 0, none⟩ (.slice (some ⟨g, 0, none⟩) k cap)) base h (some ⟨g, 0, none⟩) cap (ts.take k) := by
      refine ⟨?_, ?_, ?_, p.low⟩
      · rw [hkl, set_block p.box 0 (.slice (some ⟨g, 0, none⟩) k cap)]
        simp
      · rw [hkl]
        have h2 := OwT.take p.row rfl (k := k) (by omega)
        exact h2.kept (set_grown _ _ _ _) (by simp [Value.ownBlock]; omega)
      · simpa [Value.ownBlock] using hne
    exact ⟨hP.below ((Below.refl _ _).alloc (Nat.le_refl _) _), (set_grown _ _ _ _).trans (World.grownBy_alloc _ o _)⟩
  clear p hk ht hm
  go_enter Tryz.func144, Tryz.ntmps144
  go_wp2
  go_ret
  exact ⟨rfl, (HF.out _).1, (HF.out _).2⟩

theorem kk_take {ts : List DTim} {m c : Nat} (h : c < m) : kk (ts.take m) c = kk ts c := by
  unfold kk
  rw [List.getElem?_take, if_pos h]

theorem take_last {ts : List DTim} {k : Nat} {t : DTim} (hk : ts.length = k + 1) (ht : ts[k]? = some t) : ts = ts.take k ++ [t] := by
  obtain ⟨hl, rfl⟩ := List.getElem?_eq_some_iff.1 ht
  have h1 := (List.take_append_drop k ts).symm
  rw [List.drop_eq_getElem_cons hl] at h1
  have h2 : List.drop (k + 1) ts = [] := List.drop_of_length_le (by omega)
  rw [h2] at h1
  exact h1

/-- What taking one out leaves. -/
structure Out (ts ts' : List DTim) (t : DTim) : Prop where
  perm : (t :: ts').Perm ts
  heap : HeapL ts'.length ts'
theorem out_of {ts ts2 : List DTim} {k : Nat} {t : DTim} (p : ts2.Perm ts) (hk : ts.length = k + 1) (ht : ts2[k]? = some t) (hh : HeapL k ts2) : Out ts (ts2.take k) t := by
  have hl : ts2.length = k + 1 := p.length_eq.trans hk
  have hkl : (ts2.take k).length = k := by simp; omega
  refine ⟨?_, fun c hc0 hc => ?_⟩
  · have h1 := take_last hl ht
    have h2 : (t :: ts2.take k).Perm (ts2.take k ++ [t]) := (List.perm_append_comm (l₁ := [t]) (l₂ := ts2.take k))
    rw [← h1] at h2
    exact h2.trans p
  · rw [hkl] at hc
    rw [kk_take (by omega), kk_take hc]
    exact hh c hc0 hc

set_option maxHeartbeats 4000000 in
theorem popV (h g cap base : Nat) (ts : List DTim) (t : DTim) (w : World) (p : HP w base h (some ⟨g, 0, none⟩) cap ts) (gd : GoodT ts) (hm : ts.length ≤ 100) (ht : ts[0]? = some t) (hh : HeapL ts.length ts) :
    Calls Tryz.prog 120 #[ifA h] w fun e w' => ∃ ts', e = .returned (ifT t) ∧ Out ts ts' t ∧ HP w' base h (some ⟨g, 0, none⟩) cap ts' ∧ Two w w' h (some g) := by
  have h0 := (List.getElem?_eq_some_iff.1 ht).1
  obtain ⟨k, hk⟩ : ∃ k, ts.length = k + 1 := ⟨ts.length - 1, by omega⟩
  obtain ⟨u, hu⟩ : ∃ u, ts[k]? = some u := ⟨_, List.getElem?_eq_getElem (by omega)⟩
  have hbx := p.cell.1
  rw [hk] at hbx
  have mN := mLen h _ (k + 1) cap w hbx
  have mS := mSwap h _ (k + 1) cap w hbx
  have hk1 : (k : Int) ≤ 99 := by omega
  have HK1 : Hid (k ≤ 99) := by show _ ≤ _; omega
  have HPP : Hid (HP w base h (some ⟨g, 0, none⟩) cap ts) := p
  have HK : Hid (ts.length = k + 1) := hk
  have GD : Hid (GoodT ts) := gd
  have HH : Hid (HeapL ts.length ts) := hh
  have HT : Hid (ts[0]? = some t) := ht
  have HU : Hid (ts[k]? = some u) := hu
  clear p gd hh hm h0 hk ht hu
  go_enter Tryz.func120, Tryz.ntmps120
  go_wp2_with fail
  refine (lenV _ (k + 1) cap _ (by omega)).mono ?_
  rintro e w1 ⟨rfl, rfl⟩
  go_wp2_with fail
  clear mN mS
  refine (swapI g (k + 1) cap 0 k _ _ ts t u base _ (rowOf HPP.out HK.out) HK.out.symm (by omega) HT.out HU.out rfl (by omega)).mono ?_
  rintro e w2 ⟨rfl, o2, g2⟩
  obtain ⟨ts1, hts1⟩ : ∃ ts1, ts1 = (ts.set 0 u).set k t := ⟨_, rfl⟩
  have hl1 : ts1.length = k + 1 := by rw [hts1]; simpa using HK.out
  have HP2 : Hid (HP w2 base h (some ⟨g, 0, none⟩) cap ts1) := HPP.out.grown (by rw [hl1, HK.out]) (by rw [hl1, hts1]; exact o2) g2
  have HPM : Hid (ts1.Perm ts) := by rw [hts1]; exact swap_perm HT.out HU.out
  have HLA : Hid (ts1[k]? = some t) := by rw [hts1]; exact List.getElem?_set_self (by simp [HK.out])
  have HD : Hid (DInv k 0 ts1 ts1 0) := by
    have hk' := fun c => swap_kk HT.out HU.out c
    rw [← hts1] at hk'
    refine ⟨List.Perm.refl _, fun _ _ => rfl, Nat.le_refl _, fun _ => rfl, fun c hc0 hcn hp _ => ?_, fun c _ _ _ h => absurd h (by omega)⟩
    rw [hk', hk', if_neg (by omega), if_neg hp, if_neg (by omega), if_neg (by omega)]
    exact HH.out c hc0 (by have := HK.out; omega)
  have HG2 : Hid (w1.grownBy w2 (some g)) := g2
  have HL1 : Hid (ts1.length = k + 1) := hl1
  clear o2 g2 hts1 hl1 hbx
  go_wp2_with fail
  refine (downV h g cap base k 0 ts1 w2 HP2.out (GD.out.perm HPM.out) (by rw [HL1.out]; have := HK1.out; omega) (by rw [HL1.out]; omega) (by omega) HD.out).mono ?_
  rintro e w3 ⟨i, ts2, rfl, he, hp3, g3⟩
  have hl2 : ts2.length = k + 1 := he.perm.length_eq.trans HL1.out
  have hla2 : ts2[k]? = some t := (he.tail k (Nat.le_refl _)).trans HLA.out
  have HOUT : Hid (Out ts (ts2.take k) t) := out_of (he.perm.trans HPM.out) HK.out hla2 (fun c hc0 hc => he.edge c hc0 hc (by omega))
  have hmp := mPop (.pointer (some ⟨h, 0, none⟩)) w3
  have HP3 : Hid (HP w3 base h (some ⟨g, 0, none⟩) cap ts2) := hp3
  have HG3 : Hid (w2.grownBy w3 (some g)) := g3
  have HL2 : Hid (ts2.length = k + 1 ∧ ts2[k]? = some t) := ⟨hl2, hla2⟩
  clear hp3 g3 hl2 hla2 he
  go_wp2_with fail
  refine (popM h g cap base k ts2 t w3 HP3.out (by rw [HL2.out.1]; have := HK1.out; omega) HL2.out.1 HL2.out.2).mono ?_
  rintro e w4 ⟨rfl, hp4, g4⟩
  go_wp2
  go_ret
  exact ⟨ts2.take k, rfl, HOUT.out, hp4, ((two_row HG2.out h).trans (two_row HG3.out h)).trans (two_box g4 _)⟩

end Go.Proofs.YtnklnhnjmikooaaGreat
