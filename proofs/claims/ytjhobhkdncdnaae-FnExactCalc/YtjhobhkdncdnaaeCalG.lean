/- The contract of the model's l1div. -/
import Derived.Test.YtjhobhkdncdnaaeCalF
import Derived.Test.YtjhobhkdncdnaaeCmpD
namespace Go.Proofs.Ytjhobhkdncdnaae
open Go.RowKit Go.Deep

/-- What the model's quotient comes to. -/
def divP (n : Int) (s : Nat) (n' : Int) (s' : Nat) : Int × Int :=
  if prodOk (absI n) (p10 (6 - s)) && prodOk (absI n') (p10 (6 - s')) && quotOk (prodV (absI n) (p10 (6 - s))) (prodV (absI n') (p10 (6 - s'))) then norm 6 (overV n n' (prodV (absI n) (p10 (6 - s))) (prodV (absI n') (p10 (6 - s')))) else (0, 7)
end Go.Proofs.Ytjhobhkdncdnaae
