/- The specification's NodeOk: a head that may not be is refused. -/
import Derived.Test.YtdcbajejgphlgaaNdCa
import Derived.Test.YtdcbajejgphlgaaNdCb
import Derived.Test.YtdcbajejgphlgaaNdCc
import Derived.Test.YtdcbajejgphlgaaNdCd
namespace Go.Proofs.Ytdcbajejgphlgaa
open Go.RowKit

theorem sNodeHead (M : DNode) (s : Int) (v : Value) (w : World) (h : VNode w v M) (hbad : ¬ NHeadP M s) :
    Calls Try.prog 16 #[v, .int .i64 s] w fun e w' => e = .returned (.bool false) ∧ Below w.heap.size w w' := by
  cases f1 : (decide (1 ≤ s) && decide (s ≤ 5))
  case false => exact sNH1 M s v w h f1
  cases f2 : decide (M.id < 0)
  case true => exact sNH2 M s v w h f1 f2
  cases f3 : decide (s ≤ M.id)
  case true => exact sNH3 M s v w h f1 f2 f3
  cases f4 : (decide (0 ≤ M.term) && decide (M.term ≤ 100000))
  case false => exact sNH4 M s v w h f1 f2 f3 f4
  cases f5 : (decide (-1 ≤ M.vote) && decide (M.vote < s))
  case false => exact sNH5 M s v w h f1 f2 f3 f4 f5
  cases f6 : decide (400 < (M.log.length : Int))
  case true => exact sNH6 M s v w h f1 f2 f3 f4 f5 f6
  cases f7 : decide (M.commit < 0)
  case true => exact sNH7 M s v w h f1 f2 f3 f4 f5 f6 f7
  cases f8 : decide ((M.log.length : Int) < M.commit)
  case true => exact sNH8 M s v w h f1 f2 f3 f4 f5 f6 f7 f8
  cases f9 : decide (M.role < 0)
  case true => exact sNH9 M s v w h f1 f2 f3 f4 f5 f6 f7 f8 f9
  cases f10 : decide (2 < M.role)
  case true => exact sNH10 M s v w h f1 f2 f3 f4 f5 f6 f7 f8 f9 f10
  cases f11 : (decide (-1 ≤ M.lead) && decide (M.lead < s))
  case false => exact sNH11 M s v w h f1 f2 f3 f4 f5 f6 f7 f8 f9 f10 f11
  cases f12 : decide (M.wait < 0)
  case true => exact sNH12 M s v w h f1 f2 f3 f4 f5 f6 f7 f8 f9 f10 f11 f12
  cases f13 : decide (20 < M.wait)
  case true => exact sNH13 M s v w h f1 f2 f3 f4 f5 f6 f7 f8 f9 f10 f11 f12 f13
  cases f14 : ((M.votes.length : Int) != s)
  case true => exact sNH14 M s v w h f1 f2 f3 f4 f5 f6 f7 f8 f9 f10 f11 f12 f13 f14
  cases f15 : ((M.next.length : Int) != s)
  case true => exact sNH15 M s v w h f1 f2 f3 f4 f5 f6 f7 f8 f9 f10 f11 f12 f13 f14 f15
  cases f16 : ((M.mat.length : Int) != s)
  case true => exact sNH16 M s v w h f1 f2 f3 f4 f5 f6 f7 f8 f9 f10 f11 f12 f13 f14 f15 f16
  refine absurd ?_ hbad
  simp at f1 f2 f3 f4 f5 f6 f7 f8 f9 f10 f11 f12 f13 f14 f15 f16
  refine ⟨⟨by omega, by omega⟩, ⟨by omega, by omega⟩, ⟨by omega, by omega⟩, ⟨by omega, by omega⟩, by omega, ⟨by omega, by omega⟩, ⟨by omega, by omega⟩, ⟨by omega, by omega⟩, ⟨by omega, by omega⟩, by omega, by omega, by omega⟩

end Go.Proofs.Ytdcbajejgphlgaa
