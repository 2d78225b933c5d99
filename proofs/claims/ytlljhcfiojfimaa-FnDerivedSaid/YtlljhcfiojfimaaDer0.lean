/- A region of a function's body, by its number. -/
import Derived.Test.YtlljhcfiojfimaaRows
import Derived.WalkKit
namespace Go.Proofs.Ytlljhcfiojfimaa.Der0
open Go.RowKit
def regionOf (id : Nat) : Code → Option Code
  | .region i ops b => if i = id then some (.region i ops b) else none
  | .seq a b => match regionOf id a with
    | some c => some c
    | none => regionOf id b
  | .block _ c => regionOf id c
  | .scope c => regionOf id c
  | .loop c => regionOf id c
  | .cond _ a b => match regionOf id a with
    | some c => some c
    | none => regionOf id b
  | _ => none
noncomputable def reg : Code := ((Try.f3.body.bind (regionOf 15)).getD .skip)
end Go.Proofs.Ytlljhcfiojfimaa.Der0
