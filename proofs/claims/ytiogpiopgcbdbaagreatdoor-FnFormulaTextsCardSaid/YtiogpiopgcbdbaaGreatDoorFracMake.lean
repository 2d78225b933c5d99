/- Contracts of the two functions that bring a fraction to lowest terms: both answer red, in new memory. -/
import Derived.Test.YtiogpiopgcbdbaaGreatDoorRows
import Derived.Test.YtiogpiopgcbdbaaGreatDoorKit
import Derived.Test.YtiogpiopgcbdbaaGreatDoorFracGcd
import Derived.Test.YtiogpiopgcbdbaaGreatDoorFracValid
import Derived.WalkKit
import Derived.Below
import Derived.WalkSmall
import Derived.Lib.Hide
import Derived.BigQuiet
import Derived.RegionTactic
import Derived.BigRegion
namespace Go.Proofs.YtiogpiopgcbdbaaGreatDoor.FracMake
open Go.RowKit FracMath FracGcd FracValid

/-- A fraction and a bool, in new memory. -/
def IsFrac (r : Int × Int × Bool) (w : World) (e : Ending) (w' : World) : Prop :=
  e = .returned (.tuple #[.agg #[.int .i64 r.1, .int .i64 r.2.1], .bool r.2.2]) ∧ Below w.heap.size w w'

end Go.Proofs.YtiogpiopgcbdbaaGreatDoor.FracMake
