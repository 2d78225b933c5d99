/- Contracts of the program's small methods on fractions: sums, products, negatives, inverses and signs as they come out, in new memory. -/
import Derived.Test.YtiogpiopgcbdbaaGreatDoorRows
import Derived.Test.YtiogpiopgcbdbaaGreatDoorKit
import Derived.Test.YtiogpiopgcbdbaaGreatDoorFracGcd
import Derived.Test.YtiogpiopgcbdbaaGreatDoorFracValid
import Derived.WalkKit
import Derived.Below
import Derived.WalkSmall
import Derived.Lib.Hide
namespace Go.Proofs.YtiogpiopgcbdbaaGreatDoor.FracOps
open Go.RowKit FracMath FracGcd FracValid

def IsPair (x y : Int) (w : World) (e : Ending) (w' : World) : Prop := e = .returned (.agg #[.int .i64 x, .int .i64 y]) ∧ Below w.heap.size w w'
def IsInt (x : Int) (w : World) (e : Ending) (w' : World) : Prop := e = .returned (.int .i64 x) ∧ Below w.heap.size w w'


end Go.Proofs.YtiogpiopgcbdbaaGreatDoor.FracOps
