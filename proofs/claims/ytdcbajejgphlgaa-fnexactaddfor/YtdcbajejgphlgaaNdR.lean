/- What the program asks of a server's role. -/
import Derived.Test.YtdcbajejgphlgaaNdI0
import Derived.Test.YtdcbajejgphlgaaNdI1
namespace Go.Proofs.Ytdcbajejgphlgaa

def selfB (M : DNode) : Bool := decide (1 ≤ M.term) && (M.vote == M.id)
def zeroB (xs : List Int) : Bool := xs.all fun x => inB x 0 0
def role0B (M : DNode) : Bool := (M.votes.all fun x => !x) && (zeroB M.next && zeroB M.mat)
def role1B (M : DNode) : Bool := selfB M && (zeroB M.next && zeroB M.mat)
def role2B (M : DNode) : Bool := selfB M && ((M.lead == M.id) && ((M.next.all fun x => inB x 1 (M.log.length + 1)) && (M.mat.all fun x => inB x 0 M.log.length)))
def sizeB (M : DNode) (s : Int) : Bool := ((M.votes.length : Int) == s) && (((M.next.length : Int) == s) && ((M.mat.length : Int) == s))
def roleB (M : DNode) (s : Int) : Bool := sizeB M s && (if M.role = 0 then role0B M else if M.role = 1 then role1B M else if M.role = 2 then role2B M else false)

end Go.Proofs.Ytdcbajejgphlgaa
