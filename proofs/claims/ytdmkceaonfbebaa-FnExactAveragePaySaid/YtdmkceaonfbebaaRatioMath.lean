/- The quotient of two indexes of a series. -/
import Derived.Test.YtdmkceaonfbebaaPointMath
import Derived.Test.YtdmkceaonfbebaaKit
namespace Go.Proofs.Ytdmkceaonfbebaa.RatioMath
open TPoint PointMath FracMath
/-- The index at b divided by that at a. -/
def ratio (a b kn : Int) (l : List El) : Int × Int × Bool := if (idx a kn l).2 = true ∧ (idx b kn l).2 = true then newR (idx b kn l).1 (idx a kn l).1 else (0, 0, false)
end Go.Proofs.Ytdmkceaonfbebaa.RatioMath
