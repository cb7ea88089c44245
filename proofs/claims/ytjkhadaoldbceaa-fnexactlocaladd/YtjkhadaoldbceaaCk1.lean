
/- CheckOk told of data. -/
import Derived.Test.YtjkhadaoldbceaaCk0
import Derived.Test.YtjkhadaoldbceaaOp2
namespace Go.Proofs.Ytjkhadaoldbceaa
open Go.RowKit

/-- It may be a check. -/
def chkB (C : DChk) : Bool := keyB C.name && decide (0 ≤ C.ttl) && decide (C.ttl ≤ 1000) && decide (1 ≤ C.most) && decide (C.most ≤ 5) && decide (0 ≤ C.st) && decide (C.st ≤ 2) && decide (0 ≤ C.age) && decide (C.age ≤ 1000) && decide (0 ≤ C.fails) && decide (C.fails ≤ C.most) && !(decide (0 < C.ttl) && decide (C.ttl ≤ C.age) && !decide (C.st = 2)) && (!decide (C.st = 0) || decide (C.fails = 0))

end Go.Proofs.Ytjkhadaoldbceaa
