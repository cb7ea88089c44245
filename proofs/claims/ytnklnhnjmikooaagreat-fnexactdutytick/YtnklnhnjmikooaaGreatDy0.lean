
/- Duties as data, how their values read in memory, and which may be. It holds over every program. -/
import Derived.Test.YtnklnhnjmikooaaGreatWh0
namespace Go.Proofs.YtnklnhnjmikooaaGreat
open Go.RowKit

structure DDuty where
  ttl : Int
  wh : DWheel

def VDuty (w : World) (v : Value) (D : DDuty) : Prop := ∃ tv, v = .agg #[.int .i64 D.ttl, .int .i64 D.wh.now, tv] ∧ VTims w tv D.wh.tms
theorem VDuty.ext {w w' : World} {v : Value} {D : DDuty} (h : VDuty w v D) (e : Ext w w') : VDuty w' v D := by
  obtain ⟨tv, hv, h1⟩ := h
  exact ⟨tv, hv, h1.ext e⟩
/-- All timers ring within ttl of now. -/
def NearT (ttl now : Int) (ts : List DTim) : Prop := ∀ (i : Nat) (t : DTim), ts[i]? = some t → t.due - now ≤ ttl
/-- It may be a duty. -/
def DutyP (D : DDuty) : Prop := (1 ≤ D.ttl ∧ D.ttl ≤ 1000) ∧ WheelP D.wh ∧ D.wh.tms.length ≤ 8 ∧ NearT D.ttl D.wh.now D.wh.tms

end Go.Proofs.YtnklnhnjmikooaaGreat
