/- FnOrder: the walk of the law itself. -/
import Derived.Test.YtocloajmkeicjaaDr1
import Derived.Test.YtocloajmkeicjaaOb0
import Derived.Test.YtocloajmkeicjaaBytL
import Derived.Laws.StructEq
import Derived.OwnWalk
import Derived.Deep.CutRange
namespace Go.Proofs.Ytocloajmkeicjaa
open Go.RowKit

set_option maxRecDepth 20000 in
set_option maxHeartbeats 4000000 in
theorem law_FnOrder (a : Option Addr) (n cap : Nat) (xs : List Int) (w : World) (hr : Rd w a n xs) (hnc : n ≤ cap) (hm : cap ≤ maxLen) (hsz : n ≤ 140737488351232) :
    Calls Try.prog 3 #[.slice a n cap] w fun e w' => e = .returned (.bool true) ∧ Below w.heap.size w w' := by
  have hE : ∀ w : World, ∀ o, Ext w (w.alloc o) := fun w o => World.grownBy_alloc _ _ _
  have HR : Hid (Rd w a n xs) := hr
  have HMM : Hid (n ≤ maxLen) := Nat.le_trans hnc hm
  clear hr hnc hm
  go_enter Try.func3, Try.ntmps3
  go_wp2_with fail
  refine (drawB a n cap xs w HR.out HMM.out).mono ?_
  rintro e w1 ⟨⟨ai, aS, al⟩, ⟨bi, bS, bl⟩, rfl, _, _, b1⟩
  have X1 : Ext w w1 := ext_below b1
  clear b1
  go_wp2_with fail
  generalize hV : World.alloc (World.alloc w1 _) _ = V
  have XV : Ext w1 V := by rw [← hV]; exact (hE _ _).tr (hE _ _)
  have PA : V.heap[w1.heap.size]? = some (.cells #[.int .i64 ai, .int .i64 aS, .int .i64 al] 24 (0, 0)) := by rw [← hV, Below.heap_alloc _ _ _ (by simp)]; exact heap_alloc_new w1 _
  have PB : V.heap[w1.heap.size + 1]? = some (.cells #[.int .i64 bi, .int .i64 bS, .int .i64 bl] 24 (0, 0)) := by rw [← hV]; simpa using heap_alloc_new (World.alloc w1 (.cells #[.int .i64 ai, .int .i64 aS, .int .i64 al] 24 (0, 0))) (.cells #[.int .i64 bi, .int .i64 bS, .int .i64 bl] 24 (0, 0))
  clear hV
  have XWV : Ext w V := X1.tr XV
  refine (at0 a n cap xs V (HR.out.grown XWV) HMM.out).mono ?_
  rintro e V2 ⟨x, hx0, hx1, rfl, hVV⟩
  have hVV' := hVV.symm
  clear hVV
  subst hVV'
  have hxw : IntKind.u8.wrap x = x := by rw [IntKind.wrap_u8]; omega
  have HOW : Hid (Ow (V.alloc (.cells #[.int .u8 x, .int .u8 3] 5)) V.heap.size (.slice (some ⟨V.heap.size, 0, none⟩) 2 2) [x, 3]) := World.ownsRow_lit V #[.int .u8 x, .int .u8 3] 2 (Nat.le_refl _) (by unfold maxLen; decide) rfl
  have HRV : Hid (Rd (V.alloc (.cells #[.int .u8 x, .int .u8 3] 5)) a n xs) := HR.out.grown (XWV.tr (hE _ _))
  have HRNG : Hid (∀ y ∈ [x, 3] ++ xs, 0 ≤ y ∧ y ≤ 255) := fun y hy => by
    rcases List.mem_append.1 hy with h | h
    · simp only [List.mem_cons, List.not_mem_nil, or_false] at h; omega
    · exact HR.out.rng y h
  have HLEN : Hid (xs.length = n) := HR.out.len
  go_wp2_with (at_builtin; refine wpList_append_bytesL _ rfl (.tmp 16) (.tmp 17) 22 rfl V.heap.size info5 Try.underlying22 _ [x, 3] rfl HOW.out a n cap xs rfl HRV.out (by simp; omega) (by simp) ?_; intro v2 w2 o2 g2)
  have X2 : Ext V w2 := by
    refine ⟨g2.os, g2.tape, g2.output, Nat.le_trans (hE V _).size g2.size, fun k hk _ => ?_⟩
    have h1 : k < (V.alloc (.cells #[.int .u8 x, .int .u8 3] 5)).heap.size := Nat.lt_of_lt_of_le hk (hE V _).size
    have h2 : some k ≠ (Value.slice (some ⟨V.heap.size, 0, none⟩) 2 2).ownBlock := by
      intro e
      simp only [Value.ownBlock, Option.some.injEq] at e
      omega
    exact (g2.block k h1 h2).trans ((hE V _).block k hk (by simp))
  obtain ⟨a2, c2, rfl, hr2, hc2, hm2⟩ := Ow.rv o2 HRNG.out
  have hl2 : ([x, 3] ++ xs).length = n + 2 := by simp; have := HLEN.out; omega
  rw [hl2] at hr2 hc2 ⊢
  refine (drawB a2 (n + 2) c2 _ w2 hr2 (Nat.le_trans hc2 hm2)).mono ?_
  rintro e w3 ⟨⟨ci, cS, cl⟩, ⟨di, dS, dl⟩, rfl, _, _, b3⟩
  have X3 : Ext V w3 := X2.tr (ext_below b3)
  have PA3 := ext_blk X3 PA
  have PB3 := ext_blk X3 PB
  have s3 : w1.heap.size + 1 < w3.heap.size := (Array.getElem?_eq_some_iff.1 PB3).1
  have XW3 : Ext w w3 := XWV.tr X3
  clear hl2 o2 g2 hr2 hc2 hm2 b3 X2 X3 HOW HRV HRNG HLEN PA PB XV hxw
  obtain ⟨p0, _⟩ := at_block PB3 0 _ rfl
  have kp := fun o o' => World.grownBy.cell (World.grownBy_alloc (w3.alloc o) o' none) (World.grownBy.cell (World.grownBy_alloc w3 o none) p0 (by simp)) (by simp)
  have hn1 : w3.heap.size ≠ w1.heap.size + 1 := by omega
  have hn2 : w3.heap.size + 1 ≠ w1.heap.size + 1 := by omega
  go_upto_region 4 with fail
  generalize hU : World.alloc (World.alloc w3 _) _ = U
  have XU : Ext w3 U := by rw [← hU]; exact (hE _ _).tr (hE _ _)
  have PC : U.heap[w3.heap.size]? = some (.cells #[.int .i64 bi, .int .i64 cS, .int .i64 cl] 24 (0, 0)) := by rw [← hU, Below.heap_alloc _ _ _ (by simp)]; exact heap_alloc_new w3 _
  have HB : Hid (Below w.heap.size w U) := ext_bel (XW3.tr XU)
  have HK : Hid (∀ W, Ext U W → (W.cell? ⟨w1.heap.size, 0, none⟩ = some (.int .i64 ai) ∧ W.cell? ⟨w1.heap.size, 1, none⟩ = some (.int .i64 aS) ∧ W.cell? ⟨w1.heap.size, 2, none⟩ = some (.int .i64 al)) ∧ (W.cell? ⟨w1.heap.size + 1, 0, none⟩ = some (.int .i64 bi) ∧ W.cell? ⟨w1.heap.size + 1, 1, none⟩ = some (.int .i64 bS) ∧ W.cell? ⟨w1.heap.size + 1, 2, none⟩ = some (.int .i64 bl)) ∧ (W.cell? ⟨w3.heap.size, 0, none⟩ = some (.int .i64 bi) ∧ W.cell? ⟨w3.heap.size, 1, none⟩ = some (.int .i64 cS) ∧ W.cell? ⟨w3.heap.size, 2, none⟩ = some (.int .i64 cl))) := fun W e => by
    have qa := ext_blk (XU.tr e) PA3
    have qb := ext_blk (XU.tr e) PB3
    have qc := ext_blk e PC
    exact ⟨⟨(at_block qa 0 _ rfl).1, (at_block qa 1 _ rfl).1, (at_block qa 2 _ rfl).1⟩, ⟨(at_block qb 0 _ rfl).1, (at_block qb 1 _ rfl).1, (at_block qb 2 _ rfl).1⟩, ⟨(at_block qc 0 _ rfl).1, (at_block qc 1 _ rfl).1, (at_block qc 2 _ rfl).1⟩⟩
  clear hU PC XU PA3 PB3 XW3 p0 kp hn1 hn2 XWV X1
  generalize w1.heap.size = b1 at *
  generalize w3.heap.size = b3 at *
  have XB : Hid (Ext U U) := ext_drewN U 0
  obtain ⟨⟨q0, q1, q2⟩, ⟨q3, q4, q5⟩, ⟨q6, q7, q8⟩⟩ := HK.out U XB.out
  have haa : bt ai aS al ai aS al = false := bt_no (by omega)
  by_cases hi : ai = bi
  case neg =>
    have hi1 : (ai == bi) = false := by simpa using hi
    have hi2 : (ai != bi) = true := by simpa using hi
    have hab : bt ai aS al bi bS bl = false := bt_no (by omega)
    have hba : bt bi bS bl ai aS al = false := bt_no (by omega)
    clear hi
    go_wp2_with (go_at_call 6; refine (beatsIV _ _ _ _ _ _ _).mono ?_; rintro e wb ⟨he, bb⟩; (first | rw [haa] at he | rw [hab] at he | rw [hba] at he | rw [hbc] at he | rw [hac] at he); subst he; have XC : Hid (Ext U wb) := XB.out.tr (ext_below bb); clear bb XB; have XB : Hid (Ext U wb) := XC; clear XC; obtain ⟨⟨q0, q1, q2⟩, ⟨q3, q4, q5⟩, ⟨q6, q7, q8⟩⟩ := HK.out wb XB.out)
    go_ret
    exact ⟨rfl, HB.out.trans ((ext_bel XB.out).mono HB.out.size)⟩
  subst hi
  have hi2 : (ai != ai) = false := by simp
  by_cases hl : al = bl
  · subst hl
    by_cases hs : aS = bS
    · subst hs
      have hab : bt ai aS al ai aS al = false := haa
      go_wp2_with (go_at_call 6; refine (beatsIV _ _ _ _ _ _ _).mono ?_; rintro e wb ⟨he, bb⟩; (first | rw [haa] at he | rw [hab] at he | rw [hba] at he | rw [hbc] at he | rw [hac] at he); subst he; have XC : Hid (Ext U wb) := XB.out.tr (ext_below bb); clear bb XB; have XB : Hid (Ext U wb) := XC; clear XC; obtain ⟨⟨q0, q1, q2⟩, ⟨q3, q4, q5⟩, ⟨q6, q7, q8⟩⟩ := HK.out wb XB.out)
      go_ret
      exact ⟨rfl, HB.out.trans ((ext_bel XB.out).mono HB.out.size)⟩
    · have hs1 : (aS == bS) = false := by simpa using hs
      by_cases hg : bS < aS
      · have hab : bt ai aS al ai bS al = true := bt_iff.2 (by omega)
        have hba : bt ai bS al ai aS al = false := bt_no (by omega)
        cases hbc : bt ai bS al ai cS cl
        · clear hs hg
          go_wp2_with (go_at_call 6; refine (beatsIV _ _ _ _ _ _ _).mono ?_; rintro e wb ⟨he, bb⟩; (first | rw [haa] at he | rw [hab] at he | rw [hba] at he | rw [hbc] at he | rw [hac] at he); subst he; have XC : Hid (Ext U wb) := XB.out.tr (ext_below bb); clear bb XB; have XB : Hid (Ext U wb) := XC; clear XC; obtain ⟨⟨q0, q1, q2⟩, ⟨q3, q4, q5⟩, ⟨q6, q7, q8⟩⟩ := HK.out wb XB.out)
          go_ret
          exact ⟨rfl, HB.out.trans ((ext_bel XB.out).mono HB.out.size)⟩
        · have hac : bt ai aS al ai cS cl = true := bt_iff.2 (by have := bt_iff.1 hbc; omega)
          clear hs hg
          go_wp2_with (go_at_call 6; refine (beatsIV _ _ _ _ _ _ _).mono ?_; rintro e wb ⟨he, bb⟩; (first | rw [haa] at he | rw [hab] at he | rw [hba] at he | rw [hbc] at he | rw [hac] at he); subst he; have XC : Hid (Ext U wb) := XB.out.tr (ext_below bb); clear bb XB; have XB : Hid (Ext U wb) := XC; clear XC; obtain ⟨⟨q0, q1, q2⟩, ⟨q3, q4, q5⟩, ⟨q6, q7, q8⟩⟩ := HK.out wb XB.out)
          go_ret
          exact ⟨rfl, HB.out.trans ((ext_bel XB.out).mono HB.out.size)⟩
      · have hab : bt ai aS al ai bS al = false := bt_no (by omega)
        have hba : bt ai bS al ai aS al = true := bt_iff.2 (by omega)
        clear hs hg
        go_wp2_with (go_at_call 6; refine (beatsIV _ _ _ _ _ _ _).mono ?_; rintro e wb ⟨he, bb⟩; (first | rw [haa] at he | rw [hab] at he | rw [hba] at he | rw [hbc] at he | rw [hac] at he); subst he; have XC : Hid (Ext U wb) := XB.out.tr (ext_below bb); clear bb XB; have XB : Hid (Ext U wb) := XC; clear XC; obtain ⟨⟨q0, q1, q2⟩, ⟨q3, q4, q5⟩, ⟨q6, q7, q8⟩⟩ := HK.out wb XB.out)
        go_ret
        exact ⟨rfl, HB.out.trans ((ext_bel XB.out).mono HB.out.size)⟩
  · have hl1 : (al == bl) = false := by simpa using hl
    by_cases hs : aS = bS
    · subst hs
      by_cases hg : bl < al
      · have hab : bt ai aS al ai aS bl = true := bt_iff.2 (by omega)
        have hba : bt ai aS bl ai aS al = false := bt_no (by omega)
        cases hbc : bt ai aS bl ai cS cl
        · clear hl hg
          go_wp2_with (go_at_call 6; refine (beatsIV _ _ _ _ _ _ _).mono ?_; rintro e wb ⟨he, bb⟩; (first | rw [haa] at he | rw [hab] at he | rw [hba] at he | rw [hbc] at he | rw [hac] at he); subst he; have XC : Hid (Ext U wb) := XB.out.tr (ext_below bb); clear bb XB; have XB : Hid (Ext U wb) := XC; clear XC; obtain ⟨⟨q0, q1, q2⟩, ⟨q3, q4, q5⟩, ⟨q6, q7, q8⟩⟩ := HK.out wb XB.out)
          go_ret
          exact ⟨rfl, HB.out.trans ((ext_bel XB.out).mono HB.out.size)⟩
        · have hac : bt ai aS al ai cS cl = true := bt_iff.2 (by have := bt_iff.1 hbc; omega)
          clear hl hg
          go_wp2_with (go_at_call 6; refine (beatsIV _ _ _ _ _ _ _).mono ?_; rintro e wb ⟨he, bb⟩; (first | rw [haa] at he | rw [hab] at he | rw [hba] at he | rw [hbc] at he | rw [hac] at he); subst he; have XC : Hid (Ext U wb) := XB.out.tr (ext_below bb); clear bb XB; have XB : Hid (Ext U wb) := XC; clear XC; obtain ⟨⟨q0, q1, q2⟩, ⟨q3, q4, q5⟩, ⟨q6, q7, q8⟩⟩ := HK.out wb XB.out)
          go_ret
          exact ⟨rfl, HB.out.trans ((ext_bel XB.out).mono HB.out.size)⟩
      · have hab : bt ai aS al ai aS bl = false := bt_no (by omega)
        have hba : bt ai aS bl ai aS al = true := bt_iff.2 (by omega)
        clear hl hg
        go_wp2_with (go_at_call 6; refine (beatsIV _ _ _ _ _ _ _).mono ?_; rintro e wb ⟨he, bb⟩; (first | rw [haa] at he | rw [hab] at he | rw [hba] at he | rw [hbc] at he | rw [hac] at he); subst he; have XC : Hid (Ext U wb) := XB.out.tr (ext_below bb); clear bb XB; have XB : Hid (Ext U wb) := XC; clear XC; obtain ⟨⟨q0, q1, q2⟩, ⟨q3, q4, q5⟩, ⟨q6, q7, q8⟩⟩ := HK.out wb XB.out)
        go_ret
        exact ⟨rfl, HB.out.trans ((ext_bel XB.out).mono HB.out.size)⟩
    · have hs1 : (aS == bS) = false := by simpa using hs
      by_cases hg : bl < al
      · have hab : bt ai aS al ai bS bl = true := bt_iff.2 (by omega)
        have hba : bt ai bS bl ai aS al = false := bt_no (by omega)
        cases hbc : bt ai bS bl ai cS cl
        · clear hl hs hg
          go_wp2_with (go_at_call 6; refine (beatsIV _ _ _ _ _ _ _).mono ?_; rintro e wb ⟨he, bb⟩; (first | rw [haa] at he | rw [hab] at he | rw [hba] at he | rw [hbc] at he | rw [hac] at he); subst he; have XC : Hid (Ext U wb) := XB.out.tr (ext_below bb); clear bb XB; have XB : Hid (Ext U wb) := XC; clear XC; obtain ⟨⟨q0, q1, q2⟩, ⟨q3, q4, q5⟩, ⟨q6, q7, q8⟩⟩ := HK.out wb XB.out)
          go_ret
          exact ⟨rfl, HB.out.trans ((ext_bel XB.out).mono HB.out.size)⟩
        · have hac : bt ai aS al ai cS cl = true := bt_iff.2 (by have := bt_iff.1 hbc; omega)
          clear hl hs hg
          go_wp2_with (go_at_call 6; refine (beatsIV _ _ _ _ _ _ _).mono ?_; rintro e wb ⟨he, bb⟩; (first | rw [haa] at he | rw [hab] at he | rw [hba] at he | rw [hbc] at he | rw [hac] at he); subst he; have XC : Hid (Ext U wb) := XB.out.tr (ext_below bb); clear bb XB; have XB : Hid (Ext U wb) := XC; clear XC; obtain ⟨⟨q0, q1, q2⟩, ⟨q3, q4, q5⟩, ⟨q6, q7, q8⟩⟩ := HK.out wb XB.out)
          go_ret
          exact ⟨rfl, HB.out.trans ((ext_bel XB.out).mono HB.out.size)⟩
      · have hab : bt ai aS al ai bS bl = false := bt_no (by omega)
        have hba : bt ai bS bl ai aS al = true := bt_iff.2 (by omega)
        clear hl hs hg
        go_wp2_with (go_at_call 6; refine (beatsIV _ _ _ _ _ _ _).mono ?_; rintro e wb ⟨he, bb⟩; (first | rw [haa] at he | rw [hab] at he | rw [hba] at he | rw [hbc] at he | rw [hac] at he); subst he; have XC : Hid (Ext U wb) := XB.out.tr (ext_below bb); clear bb XB; have XB : Hid (Ext U wb) := XC; clear XC; obtain ⟨⟨q0, q1, q2⟩, ⟨q3, q4, q5⟩, ⟨q6, q7, q8⟩⟩ := HK.out wb XB.out)
        go_ret
        exact ⟨rfl, HB.out.trans ((ext_bel XB.out).mono HB.out.size)⟩

end Go.Proofs.Ytocloajmkeicjaa
