
/- The contracts of takeTill, wheel and stop. -/
import Derived.Test.YtnklnhnjmikooaaGreatHpF
namespace Go.Proofs.YtnklnhnjmikooaaGreat
open Go.RowKit

theorem OwT.two {w w' : World} {base h : Nat} {g : Option Nat} {v : Value} {ts : List DTim} (o : OwT w base v ts) (x : Two w w' h g) (h1 : v.ownBlock ≠ some h) (h2 : v.ownBlock = none ∨ v.ownBlock ≠ g) : OwT w' base v ts := by
  obtain ⟨hl, hh⟩ := o
  refine ⟨hl, ?_⟩
  rcases hh with hh | ⟨k, c, cur, hv, hb, hg, hr⟩
  · exact .inl hh
  · refine .inr ⟨k, c, cur, hv, hb, ?_, hr⟩
    rw [hv] at h1 h2
    simp only [Value.ownBlock] at h1 h2
    rw [x.block k (Array.getElem?_eq_some_iff.1 hg).1 (by simpa using h1) (by simpa using h2)]
    exact hg
theorem HP.kept {w w' : World} {base h cap : Nat} {a : Option Addr} {ts : List DTim} {row : Option Nat} (p : HP w base h a cap ts) (hg : w.grownBy w' row) (h1 : row ≠ some h) (h2 : (Value.slice a ts.length cap).ownBlock = none ∨ (Value.slice a ts.length cap).ownBlock ≠ row) : HP w' base h a cap ts :=
  ⟨(hg.block h (Array.getElem?_eq_some_iff.1 p.box).1 (fun e => h1 e.symm)).trans p.box, p.row.kept hg h2, p.ne, p.low⟩
theorem HP.blk {w : World} {base h cap : Nat} {a : Option Addr} {ts : List DTim} (p : HP w base h a cap ts) : h < w.heap.size ∧ ∀ k, (Value.slice a ts.length cap).ownBlock = some k → base ≤ k ∧ k < w.heap.size :=
  ⟨(Array.getElem?_eq_some_iff.1 p.box).1, fun k hk => World.ownsRow.lt p.row k hk⟩
theorem HP.pos {w : World} {base h cap : Nat} {a : Option Addr} {ts : List DTim} (p : HP w base h a cap ts) (hn : 0 < ts.length) : ∃ g, a = some ⟨g, 0, none⟩ := by
  obtain ⟨_, hh⟩ := p.row
  rcases hh with ⟨_, h0⟩ | ⟨g, c, cur, hv, _⟩
  · omega
  · simp only [Value.slice.injEq] at hv
    exact ⟨g, hv.1⟩

/-- How many timers the box at h tells. -/
def lenAt (w : World) (h : Nat) : Nat := match w.cell? ⟨h, 0, none⟩ with | some (.slice _ n _) => n | _ => 0
theorem HP.lenAt {w : World} {base h cap : Nat} {a : Option Addr} {ts : List DTim} (p : HP w base h a cap ts) : lenAt w h = ts.length := by
  unfold Go.Proofs.YtnklnhnjmikooaaGreat.lenAt
  rw [p.cell.1]

/-- What has been taken, and what is left. -/
structure Till (moment : Int) (ts tk cur : List DTim) : Prop where
  perm : (tk ++ cur).Perm ts
  sort : SortT tk
  ahead : ∀ x ∈ tk, ∀ y ∈ cur, kT x ≤ kT y
  heap : HeapL cur.length cur
  due : ∀ x ∈ tk, x.due ≤ moment
theorem Till.len {moment : Int} {ts tk cur : List DTim} (h : Till moment ts tk cur) : tk.length + cur.length = ts.length := by
  have := h.perm.length_eq
  simpa using this
theorem kk_root {ts : List DTim} {t : DTim} (h : HeapL ts.length ts) (ht : ts[0]? = some t) : ∀ y ∈ ts, kT t ≤ kT y := by
  intro y hy
  obtain ⟨i, hi⟩ := List.getElem?_of_mem hy
  have := h.root i (List.getElem?_eq_some_iff.1 hi).1
  rw [kk_eq ht, kk_eq hi] at this
  exact this
theorem Till.next {moment : Int} {ts tk cur cur' : List DTim} {t : DTim} (h : Till moment ts tk cur) (ht : cur[0]? = some t) (o : Out cur cur' t) (hd : t.due ≤ moment) : Till moment ts (tk ++ [t]) cur' := by
  have hr := kk_root h.heap ht
  refine ⟨?_, ?_, fun x hx y hy => ?_, o.heap, fun x hx => ?_⟩
  · rw [List.append_assoc]
    exact (List.Perm.append_left tk o.perm).trans h.perm
  · refine List.pairwise_append.2 ⟨h.sort, List.pairwise_singleton _ _, fun x hx y hy => ?_⟩
    have : y = t := by simpa using hy
    subst this
    exact h.ahead x hx y (List.mem_of_getElem? ht)
  · have hyc : y ∈ cur := o.perm.mem_iff.1 (by simp [hy])
    rcases List.mem_append.1 hx with hx | hx
    · exact h.ahead x hx y hyc
    · have : x = t := by simpa using hx
      subst this
      exact hr y hyc
  · rcases List.mem_append.1 hx with hx | hx
    · exact h.due x hx
    · have : x = t := by simpa using hx
      subst this
      exact hd

set_option maxHeartbeats 4000000 in
theorem takeV (h base cap : Nat) (a : Option Addr) (ts : List DTim) (moment : Int) (w : World) (p : HP w base h a cap ts) (gd : GoodT ts) (hm : ts.length ≤ 100) (hh : HeapL ts.length ts) :
    Calls Tryz.prog 113 #[.pointer (some ⟨h, 0, none⟩), .int .i64 moment] w fun e w' => ∃ v tk cur, e = .returned v ∧ OwT w' w.heap.size v tk ∧ Till moment ts tk cur ∧ (∀ y ∈ cur, moment < y.due) ∧ HP w' base h a cap cur ∧ Two w w' h (Value.slice a ts.length cap).ownBlock := by
  have HPP : Hid (HP w base h a cap ts) := p
  have GD : Hid (GoodT ts) := gd
  have HT0 : Hid (Till moment ts [] ts) := ⟨List.Perm.refl _, List.Pairwise.nil, fun x hx => by simp at hx, hh, fun x hx => by simp at hx⟩
  have HLN : Hid (ts.length ≤ 100) := hm
  obtain ⟨ob, hob⟩ : ∃ ob, ob = (Value.slice a ts.length cap).ownBlock := ⟨_, rfl⟩
  have HOB : Hid (∀ n, (Value.slice a n cap).ownBlock = ob) := fun n => by rw [hob]; cases a <;> rfl
  have hhw : h < w.heap.size := p.blk.1
  have HOW : Hid (∀ k, ob = some k → base ≤ k ∧ k < w.heap.size) := fun k hk => p.blk.2 k (by rw [← hob]; exact hk)
  have HNO : Hid (ob ≠ some h) := by rw [hob]; exact p.ne
  rw [← hob]
  clear p gd hm hh hob
  go_enter Tryz.func113, Tryz.ntmps113
  go_wp2
  go_loopw [5] (fun v wr => ∃ tk cur, Hid (OwT wr w.heap.size v tk) ∧ Hid (Till moment ts tk cur) ∧ Hid (HP wr base h a cap cur) ∧ Hid (Two w wr h ob)) (fun _ wr => lenAt wr h)
  case atStart => exact ⟨[], ts, World.ownsRow_nil _ _ _ _, HT0, HPP, Two.re _ _ _⟩
  case round =>
    obtain ⟨tk, cur, HO, HT, HPc, HTW⟩ := hrel
    obtain ⟨n, hn⟩ : ∃ n, n = cur.length := ⟨_, rfl⟩
    have HN : Hid (n = cur.length) := hn
    have hsh : ∃ va vc, u5 = .slice va tk.length vc := HO.out.v.shape
    obtain ⟨va, vc, rfl⟩ := hsh
    have hbx := HPc.out.cell.1
    rw [← hn] at hbx
    have hn1 : (n : Int) ≤ 100 := by have := HT.out.len; have := HLN.out; omega
    have HN1 : Hid (n ≤ 100) := by show _ ≤ _; omega
    clear hn
    by_cases h0 : n = 0
    · subst h0
      have hcur : cur = [] := List.eq_nil_of_length_eq_zero HN.out.symm
      go_wp2_with (go_at_call 119; refine (lenV _ 0 cap _ (by omega)).mono ?_; rintro e w1 ⟨rfl, rfl⟩)
      go_ret
      refine ⟨_, tk, cur, rfl, HO.out, HT.out, fun y hy => ?_, HPc.out, HTW.out⟩
      rw [hcur] at hy
      simp at hy
    · obtain ⟨g, ha⟩ := HPc.out.pos (by have := HN.out; omega)
      subst ha
      obtain ⟨t, ht⟩ : ∃ t, cur[0]? = some t := ⟨_, List.getElem?_eq_getElem (by have := HN.out; omega)⟩
      have hr1 := (OwT.cells HPc.out.row rfl ht).2.1
      simp only [Nat.zero_mul, Nat.zero_add] at hr1
      have HTT : Hid (cur[0]? = some t) := ht
      have hn0 : (0 : Int) < n := by omega
      have hn0' : decide ((0 : Int) < n) = true := by simpa using hn0
      have GC : Hid (GoodT cur) := fun x hx => GD.out x (HT.out.perm.mem_iff.1 (by simp [hx]))
      clear ht
      by_cases hd : t.due ≤ moment
      · have hd' : decide (t.due ≤ moment) = true := by simpa using hd
        have HD : Hid (t.due ≤ moment) := hd
        have hta := assertT t
        go_wp2_with (go_at_call 119; refine (lenV _ n cap _ (by omega)).mono ?_; rintro e w1 ⟨rfl, rfl⟩)
        clear hbx hr1
        refine (popV h g cap base cur t _ HPc.out GC.out (by have := HN.out; have := HN1.out; omega) HTT.out HT.out.heap).mono ?_
        rintro e w2 ⟨cur', rfl, o2, p2, t2⟩
        have HT2 : Hid (Till moment ts (tk ++ [t]) cur') := HT.out.next HTT.out o2 HD.out
        have hobg : ob = some g := (HOB.out 0).symm
        have HSZ : Hid (w.heap.size ≤ w2.heap.size) := Nat.le_trans HTW.out.size t2.size
        have HNV : Hid ((Value.slice va tk.length vc).ownBlock ≠ some h ∧ ((Value.slice va tk.length vc).ownBlock = none ∨ (Value.slice va tk.length vc).ownBlock ≠ some g)) := by
          cases hv : (Value.slice va tk.length vc).ownBlock with
          | none => exact ⟨by simp, .inl rfl⟩
          | some k =>
            have h1 := (World.ownsRow.lt HO.out k hv).1
            have h2 := (HOW.out g hobg).2
            refine ⟨?_, .inr ?_⟩ <;> (simp only [ne_eq, Option.some.injEq]; omega)
        have HO2 : Hid (OwT w2 w.heap.size (.slice va tk.length vc) tk) := HO.out.two t2 HNV.out.1 HNV.out.2
        have HTW2 : Hid (Two w w2 h ob) := HTW.out.trans (by rw [hobg]; exact t2)
        have HPC2 : Hid (HP w2 base h (some ⟨g, 0, none⟩) cap cur') := p2
        have HLC : Hid (cur'.length + 1 = cur.length) := by have := o2.perm.length_eq; show _ = _; simpa using this
        clear o2 p2 t2 hobg
        go_wp2_with (at_builtin; refine wpList_append_tm _ rfl (.tmp 21) (.tmp 26) 35 Tryz.underlying35 rfl w.heap.size _ tk rfl (HO2.out.alloc _) (some ⟨w2.heap.size, 0, none⟩) 1 1 [t] rfl (one_tims w2 t) (by have := HT.out.len; have := HLN.out; simp; omega) (by have := HSZ.out; simp; omega) ?_; intro v1 w1 hown1 hg1 hat1)
        have HG1 : Hid (w2.grownBy w1 (Value.slice va tk.length vc).ownBlock) := (World.grownBy_alloc w2 _ _).trans hg1
        have HPC1 : Hid (HP w1 base h (some ⟨g, 0, none⟩) cap cur') := HPC2.out.kept HG1.out HNV.out.1 (by
          right
          intro e
          rcases HNV.out.2 with h2 | h2
          · rw [h2] at e; cases e
          · exact h2 e.symm)
        have HTW1 : Hid (Two w w1 h ob) := by
          refine ⟨HG1.out.os.trans HTW2.out.os, HG1.out.tape.trans HTW2.out.tape, HG1.out.output.trans HTW2.out.output, Nat.le_trans HTW2.out.size HG1.out.size, fun k hk h1 h2 => ?_⟩
          rw [HG1.out.block k (by have := HTW2.out.size; omega) (fun e => ?_)]
          · exact HTW2.out.block k hk h1 h2
          · have := (World.ownsRow.lt HO2.out k e.symm).1
            omega
        go_roundw
        case rel => exact ⟨tk ++ [t], cur', hown1, HT2, HPC1, HTW1⟩
        case measure =>
          rw [HPC1.out.lenAt, HPc.out.lenAt]
          have := HLC.out
          omega
      · have hd' : decide (t.due ≤ moment) = false := by simpa using hd
        have HD : Hid (moment < t.due) := by show _ < _; omega
        go_wp2_with (go_at_call 119; refine (lenV _ n cap _ (by omega)).mono ?_; rintro e w1 ⟨rfl, rfl⟩)
        go_ret
        refine ⟨_, tk, cur, rfl, HO.out, HT.out, fun y hy => ?_, HPc.out, HTW.out⟩
        have h1 := kk_root HT.out.heap HTT.out y hy
        have h2 := kT_due (GC.out t (List.mem_of_getElem? HTT.out)) (GC.out y hy) h1
        have := HD.out
        omega

end Go.Proofs.YtnklnhnjmikooaaGreat
