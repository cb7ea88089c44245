
/- Probers as data: read, sized, copied, held against one another, marks. -/
import Derived.Test.YtmodliaieienfaaLiT
import Derived.Test.YtmodliaieienfaaLiA
import Derived.Test.YtmodliaieienfaaNbM
import Derived.Test.YtmodliaieienfaaElG
namespace Go.Proofs.Ytmodliaieienfaa
open Go.RowKit

structure DPro where
  order : List Int
  next : Int
  seed : Int
  state : Int
  who : Int
  wait : Int

/-- The five numbers of a prober, behind its order. -/
def proV (ov : Value) (P : DPro) : Value := .agg #[ov, .int .i64 P.next, .int .i64 P.seed, .int .i64 P.state, .int .i64 P.who, .int .i64 P.wait]
def VPro (w : World) (v : Value) (P : DPro) : Prop := ∃ ov, v = .agg #[ov, .int .i64 P.next, .int .i64 P.seed, .int .i64 P.state, .int .i64 P.who, .int .i64 P.wait] ∧ VL fI w ov P.order
theorem VPro.ext {w w' : World} {v : Value} {P : DPro} (h : VPro w v P) (e : Ext w w') : VPro w' v P := by
  obtain ⟨ov, hv, h1⟩ := h
  exact ⟨ov, hv, h1.ext e⟩

end Go.Proofs.Ytmodliaieienfaa
