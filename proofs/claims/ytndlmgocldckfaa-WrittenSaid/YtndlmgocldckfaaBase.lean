import Derived.Test.YtndlmgocldckfaaRows
import Derived.WalkKit
import Derived.WalkSpells
import Derived.WalkLawsBesides
import Derived.WalkSmall
namespace Go.Proofs.Ytndlmgocldckfaa
open Go.RowKit

def inB (n lo hi : Int) : Bool := decide (lo ≤ n) && decide (n ≤ hi)

/-- May an instruction be, in a model of so many entities and kinds? -/
def mayF (ents : Int) (nk : Nat) (op a b c : Int) : Bool :=
  if op = 6 then (inB a 0 (nk - 1) && inB b 0 (ents - 1)) && inB c 0 3
  else if c ≠ 0 then false
  else if op = 1 then inB a 0 3 && inB b (-1000000000) 1000000000
  else if op = 2 ∨ op = 3 then inB a 0 3 && inB b 0 3
  else if op = 4 then inB a 0 3 && inB b 1 1000000000
  else if op = 5 then inB a 0 3 && inB b 1 16
  else if op = 7 ∨ op = 8 then decide (b = 0) && inB a 0 3
  else false

end Go.Proofs.Ytndlmgocldckfaa
