
/- The contracts of the library's Remove and Push over the timers. -/
import Derived.Test.YtnklnhnjmikooaaGreatHpG
namespace Go.Proofs.YtnklnhnjmikooaaGreat
open Go.RowKit

theorem HeapL.less {m k : Nat} {ts : List DTim} (h : HeapL m ts) (hk : k ≤ m) : HeapL k ts := fun c hc0 hc => h c hc0 (by omega)

set_option maxHeartbeats 4000000 in
theorem removeV (h g cap base i : Nat) (ts : List DTim) (t : DTim) (w : World) (p : HP w base h (some ⟨g, 0, none⟩) cap ts) (gd : GoodT ts) (hm : ts.length ≤ 100) (ht : ts[i]? = some t) (hh : HeapL ts.length ts) :
    Calls Tryz.prog 122 #[ifA h, .int .i64 i] w fun e w' => ∃ ts', e = .returned (ifT t) ∧ Out ts ts' t ∧ HP w' base h (some ⟨g, 0, none⟩) cap ts' ∧ Two w w' h (some g) := by
  have hi := (List.getElem?_eq_some_iff.1 ht).1
  obtain ⟨k, hk⟩ : ∃ k, ts.length = k + 1 := ⟨ts.length - 1, by omega⟩
  obtain ⟨u, hu⟩ : ∃ u, ts[k]? = some u := ⟨_, List.getElem?_eq_getElem (by omega)⟩
  have hbx := p.cell.1
  rw [hk] at hbx
  have mN := mLen h _ (k + 1) cap w hbx
  have hk1 : (k : Int) ≤ 99 := by omega
  have HK1 : Hid (k ≤ 99) := by show _ ≤ _; omega
  have hik : i ≤ k := by omega
  have HPP : Hid (HP w base h (some ⟨g, 0, none⟩) cap ts) := p
  have HK : Hid (ts.length = k + 1) := hk
  have GD : Hid (GoodT ts) := gd
  have HH : Hid (HeapL ts.length ts) := hh
  have HT : Hid (ts[i]? = some t) := ht
  have HU : Hid (ts[k]? = some u) := hu
  clear p gd hh hm hi hk ht hu
  by_cases hl : i = k
  · have hne : ((k : Int) == (i : Int)) = true := by simp; omega
    have hne2 : ((k : Int) != (i : Int)) = false := by simp; omega
    have HL : Hid (i = k) := hl
    have hmp := mPop (.pointer (some ⟨h, 0, none⟩)) w
    subst hl
    go_enter Tryz.func122, Tryz.ntmps122
    go_wp2_with fail
    refine (lenV _ (i + 1) cap _ (by omega)).mono ?_
    rintro e w1 ⟨rfl, rfl⟩
    clear mN
    go_wp2_with fail
    refine (popM h g cap base i ts t _ HPP.out (by rw [HK.out]; have := HK1.out; omega) HK.out HT.out).mono ?_
    rintro e w4 ⟨rfl, hp4, g4⟩
    go_wp2
    go_ret
    exact ⟨ts.take i, rfl, out_of (List.Perm.refl _) HK.out HT.out (HH.out.less (by have := HK.out; omega)), hp4, two_box g4 _⟩
  · have hne : ((k : Int) == (i : Int)) = false := by simp; omega
    have hne2 : ((k : Int) != (i : Int)) = true := by simp; omega
    have hlt : i < k := by omega
    have mS := mSwap h _ (k + 1) cap w hbx
    go_enter Tryz.func122, Tryz.ntmps122
    go_wp2_with fail
    refine (lenV _ (k + 1) cap _ (by omega)).mono ?_
    rintro e w1 ⟨rfl, rfl⟩
    go_wp2_with fail
    clear mN mS
    refine (swapI g (k + 1) cap i k _ _ ts t u base _ (rowOf HPP.out HK.out) HK.out.symm (by omega) HT.out HU.out rfl (by omega)).mono ?_
    rintro e w2 ⟨rfl, o2, g2⟩
    obtain ⟨ts1, hts1⟩ : ∃ ts1, ts1 = (ts.set i u).set k t := ⟨_, rfl⟩
    have hl1 : ts1.length = k + 1 := by rw [hts1]; simpa using HK.out
    have HP2 : Hid (HP w2 base h (some ⟨g, 0, none⟩) cap ts1) := HPP.out.grown (by rw [hl1, HK.out]) (by rw [hl1, hts1]; exact o2) g2
    have HPM : Hid (ts1.Perm ts) := by rw [hts1]; exact swap_perm HT.out HU.out
    have HLA : Hid (ts1[k]? = some t) := by rw [hts1]; exact List.getElem?_set_self (by simp [HK.out])
    have HD : Hid (DInv k i ts1 ts1 i) := by
      have hk' := fun c => swap_kk HT.out HU.out c
      rw [← hts1] at hk'
      have HHc : ∀ c, 0 < c → c < k + 1 → kk ts ((c - 1) / 2) ≤ kk ts c := fun c hc0 hc => HH.out c hc0 (by have := HK.out; omega)
      refine ⟨List.Perm.refl _, fun _ _ => rfl, Nat.le_refl _, fun _ => rfl, fun c hc0 hcn hp hci => ?_, fun c hc0 hcn hcp hi0 => ?_⟩
      · rw [hk', hk', if_neg (by omega), if_neg hp, if_neg (by omega), if_neg (by omega)]
        exact HHc c hc0 (by omega)
      · rw [hk', hk', if_neg (by omega), if_neg (by omega), if_neg (by omega), if_neg (by omega)]
        have h1 := HHc i hi0 (by omega)
        have h2 := HHc c hc0 (by omega)
        rw [hcp] at h2
        omega
    have HG2 : Hid (w1.grownBy w2 (some g)) := g2
    have HL1 : Hid (ts1.length = k + 1) := hl1
    clear o2 g2 hts1 hl1 hbx
    go_wp2_with fail
    refine (downV h g cap base k i ts1 w2 HP2.out (GD.out.perm HPM.out) (by rw [HL1.out]; have := HK1.out; omega) (by rw [HL1.out]; omega) hik HD.out).mono ?_
    rintro e w3 ⟨i', ts2, rfl, he, hp3, g3⟩
    have HP3 : Hid (HP w3 base h (some ⟨g, 0, none⟩) cap ts2) := hp3
    have HG3 : Hid (w2.grownBy w3 (some g)) := g3
    have HL2 : Hid (ts2.length = k + 1) := he.perm.length_eq.trans HL1.out
    have HE : Hid (DEnd k i ts1 ts2 i') := he
    clear hp3 g3
    by_cases hmv : i < i'
    · have hd : decide (i < i') = true := by simpa using hmv
      have HOUT : Hid (Out ts (ts2.take k) t) := out_of (HE.out.perm.trans HPM.out) HK.out ((HE.out.tail k (Nat.le_refl _)).trans HLA.out) (fun c hc0 hc => HE.out.edge c hc0 hc (by omega))
      have HLT : Hid (ts2[k]? = some t) := (HE.out.tail k (Nat.le_refl _)).trans HLA.out
      have hmp := mPop (.pointer (some ⟨h, 0, none⟩)) w3
      rw [hd]
      clear he hd hmv
      go_wp2_with fail
      refine (popM h g cap base k ts2 t w3 HP3.out (by rw [HL2.out]; have := HK1.out; omega) HL2.out HLT.out).mono ?_
      rintro e w4 ⟨rfl, hp4, g4⟩
      go_wp2
      go_ret
      exact ⟨ts2.take k, rfl, HOUT.out, hp4, ((two_row HG2.out h).trans (two_row HG3.out h)).trans (two_box g4 _)⟩
    · have hd : decide (i < i') = false := by simpa using hmv
      have hii : i' = i := by have := he.le; omega
      subst hii
      have hsame := he.same rfl
      subst hsame
      have HUI : Hid (UInv k ts2 ts2 i') := ⟨List.Perm.refl _, fun _ _ => rfl, fun c hc0 hc hci => HE.out.edge c hc0 hc (.inl hci), HD.out.over⟩
      rw [hd]
      clear he hd hmv
      go_wp2_with fail
      refine (upV h g cap base k i' _ ts2 w3 HP3.out (GD.out.perm HPM.out) (by rw [HL2.out]; have := HK1.out; omega) (by rw [HL2.out]; omega) hlt HUI.out rfl).mono ?_
      rintro e w5 ⟨ts3, rfl, hpm3, htl3, hh3, hp5, g5⟩
      have HL3 : Hid (ts3.length = k + 1) := hpm3.length_eq.trans HL2.out
      have HOUT : Hid (Out ts (ts3.take k) t) := out_of (hpm3.trans HPM.out) HK.out ((htl3 k (Nat.le_refl _)).trans HLA.out) hh3
      have HLT : Hid (ts3[k]? = some t) := (htl3 k (Nat.le_refl _)).trans HLA.out
      have hmp := mPop (.pointer (some ⟨h, 0, none⟩)) w5
      have HP5 : Hid (HP w5 base h (some ⟨g, 0, none⟩) cap ts3) := hp5
      have HG5 : Hid (w3.grownBy w5 (some g)) := g5
      clear hpm3 htl3 hh3 hp5 g5
      go_wp2_with fail
      refine (popM h g cap base k ts3 t w5 HP5.out (by rw [HL3.out]; have := HK1.out; omega) HL3.out HLT.out).mono ?_
      rintro e w4 ⟨rfl, hp4, g4⟩
      go_wp2
      go_ret
      exact ⟨ts3.take k, rfl, HOUT.out, hp4, (((two_row HG2.out h).trans (two_row HG3.out h)).trans (two_row HG5.out h)).trans (two_box g4 _)⟩

set_option maxHeartbeats 4000000 in
theorem pushV (h base cap : Nat) (a : Option Addr) (ts : List DTim) (t : DTim) (w : World) (p : HP w base h a cap ts) (gd : GoodT (ts ++ [t])) (hm : ts.length ≤ 90) (hb : base ≤ w.heap.size) (hh : HeapL ts.length ts) :
    Calls Tryz.prog 121 #[ifA h, ifT t] w fun e w' => ∃ g cap' ts', e = .returned (.tuple #[]) ∧ ts'.Perm (ts ++ [t]) ∧ HeapL ts'.length ts' ∧ HP w' base h (some ⟨g, 0, none⟩) cap' ts' ∧ Below base w w' := by
  have hmu := mPush (.pointer (some ⟨h, 0, none⟩)) w
  obtain ⟨k, hk⟩ : ∃ k, k = ts.length := ⟨_, rfl⟩
  have HK : Hid (k = ts.length) := hk
  have hkm : (k : Int) ≤ 90 := by omega
  have HKM : Hid (k ≤ 90) := by show _ ≤ _; omega
  have HPP : Hid (HP w base h a cap ts) := p
  have GD : Hid (GoodT (ts ++ [t])) := gd
  have HH : Hid (HeapL ts.length ts) := hh
  have HB : Hid (base ≤ w.heap.size) := hb
  clear p gd hh hk hm hb
  go_enter Tryz.func121, Tryz.ntmps121
  go_wp2_with fail
  refine (pushM h base cap a ts t w HPP.out (by have := HK.out; have := HKM.out; omega) HB.out).mono ?_
  rintro e w1 ⟨g, cap', rfl, p1, t1, hg1⟩
  have hl1 : (ts ++ [t]).length = k + 1 := by rw [HK.out]; simp
  have hbx := p1.cell.1
  rw [hl1] at hbx
  have mN := mLen h _ (k + 1) cap' w1 hbx
  have HP1 : Hid (HP w1 base h (some ⟨g, 0, none⟩) cap' (ts ++ [t])) := p1
  have HL1 : Hid ((ts ++ [t]).length = k + 1) := hl1
  have HBG : Hid (base ≤ g) := (World.ownsRow.lt p1.row g rfl).1
  have HT1 : Hid (Below base w w1) := t1.below HB.out HPP.out.low (fun x hx => (World.ownsRow.lt HPP.out.row x hx).1)
  have HUI : Hid (UInv (k + 1) (ts ++ [t]) (ts ++ [t]) k) := by
    have hk' : ∀ c, c < k → kk (ts ++ [t]) c = kk ts c := fun c hc => by
      unfold kk
      rw [List.getElem?_append_left (by have := HK.out; omega)]
    refine ⟨List.Perm.refl _, fun _ _ => rfl, fun c hc0 hc hck => ?_, fun c hc0 hc hcp _ => by omega⟩
    rw [hk' _ (by omega), hk' _ (by omega)]
    exact HH.out c hc0 (by have := HK.out; omega)
  clear p1 t1 hg1 hl1 hbx
  go_wp2_with fail
  refine (lenV _ (k + 1) cap' _ (by have := HKM.out; omega)).mono ?_
  rintro e w2 ⟨rfl, rfl⟩
  clear mN
  go_wp2_with fail
  refine (upV h g cap' base (k + 1) k _ (ts ++ [t]) w2 HP1.out GD.out (by rw [HL1.out]; have := HKM.out; omega) (by rw [HL1.out]; omega) (by omega) HUI.out (by omega)).mono ?_
  rintro e w5 ⟨ts3, rfl, hpm3, htl3, hh3, hp5, g5⟩
  go_wp2_with fail
  go_end0
  refine ⟨g, cap', ts3, rfl, hpm3, ?_, hp5, HT1.out.trans ((two_row g5 h).below (Nat.le_trans HB.out HT1.out.size) HPP.out.low (fun x hx => by cases hx; exact HBG.out))⟩
  rw [hpm3.length_eq, HL1.out]
  exact hh3

end Go.Proofs.YtnklnhnjmikooaaGreat
