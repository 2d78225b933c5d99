/-
  No cell of these rows narrows 'for every input' (looked for: loops, veiled, ifaces, maps, wideKeys, modest, calm, conditions, laid).
  DERIVED. THE GIVEN ROWS OF THIS SEAT. 4 by the template 'for every input the law returns true; each argument reads behind the call as it read before'; 0 by the template 'total and deterministic' (their statements: YtggnkjnpiagdpaaTotals.lean).
  GIVEN WITH THE SEED: the statements are not yours to turn. If you find one false, say at which input.
  Laid BY PROGRAM, IN A SANDBOX (cutbox-rows.mjs): the forced cells as the released guide's own fill.sh prints them over the translation edd0b1e3608ee4cf… (all of the seat's roots in one cut). By AI agents, Wed Nov 11 2026. No macro, syntax, notation, axiom, sorry.
-/
import Derived.Test.YtggnkjnpiagdpaaChecked
import GoSem.Claim
import GoSem.ClaimJoined
import GoSem.ClaimMapViews
import Derived.JoinedTies
import Derived.KernelRfl
namespace Go.Proofs.Ytggnkjnpiagdpaa
/- THE CELL 'sum', in the pinned program and in every row, IS THE sha256 OF THE DUMP (.gsa) THAT YtggnkjnpiagdpaaProg.lean LOADS. Nothing in Lean hashes anything: it is a label: what it is worth is what the hold of that sum in a sandbox is worth. -/
noncomputable def Try.pinned : Pinned := { name := "ytggnkjnpiagdpaa", sum := "edd0b1e3608ee4cf9f3d1301921d29513c08ada799b866ed42079ca66575b6bf", checked := Try.checked }
namespace Rows
def none {H : Type} : Left H := { results := [], args := [] }

/-- 'laws.FnExactTimelineOf': WHATEVER THE INPUT: true; the input reads as it did. -/
def fnExactTimelineOfSpec : ChangeSpec := { name := "fnExactTimelineOf", fn := fun _ => fun
  | [d1, d2, d3, d4, d5] => { results := [.lit (.bool true)], args := [d1, d2, d3, d4, d5] }
  | _ => none }
def fnExactTimelineOfRow : OpenClaim := { program := "ytggnkjnpiagdpaa", sum := "edd0b1e3608ee4cf9f3d1301921d29513c08ada799b866ed42079ca66575b6bf", func := "loop.example/g00980/laws.FnExactTimelineOf", spec := "fnExactTimelineOf", unfollowed := true, recurses := true, apart := false }
def FnExactTimelineOfSaid : Prop := fnExactTimelineOfRow.holds Try.pinned (OpenSpec.ofChange fnExactTimelineOfSpec)

/-- ITS FALSE NEIGHBOUR: 'it returns false'. Refute it at one input. -/
def fnExactTimelineOfWrong : ChangeSpec := { name := "fnExactTimelineOf", fn := fun _ => fun
  | [d1, d2, d3, d4, d5] => { results := [.lit (.bool false)], args := [d1, d2, d3, d4, d5] }
  | _ => none }
def FnExactTimelineOfWrongFalsely : Prop := fnExactTimelineOfRow.holds Try.pinned (OpenSpec.ofChange fnExactTimelineOfWrong)

/-- 'laws.FnExactTimelineOk': WHATEVER THE INPUT: true; the input reads as it did. -/
def fnExactTimelineOkSpec : ChangeSpec := { name := "fnExactTimelineOk", fn := fun _ => fun
  | [d] => { results := [.lit (.bool true)], args := [d] }
  | _ => none }
def fnExactTimelineOkRow : OpenClaim := { program := "ytggnkjnpiagdpaa", sum := "edd0b1e3608ee4cf9f3d1301921d29513c08ada799b866ed42079ca66575b6bf", func := "loop.example/g00980/laws.FnExactTimelineOk", spec := "fnExactTimelineOk", apart := false }
def FnExactTimelineOkSaid : Prop := fnExactTimelineOkRow.holds Try.pinned (OpenSpec.ofChange fnExactTimelineOkSpec)

/-- ITS FALSE NEIGHBOUR: 'it returns false'. Refute it at one input. -/
def fnExactTimelineOkWrong : ChangeSpec := { name := "fnExactTimelineOk", fn := fun _ => fun
  | [d] => { results := [.lit (.bool false)], args := [d] }
  | _ => none }
def FnExactTimelineOkWrongFalsely : Prop := fnExactTimelineOkRow.holds Try.pinned (OpenSpec.ofChange fnExactTimelineOkWrong)

/-- 'laws.FnExactSegmentAt': WHATEVER THE INPUT: true; the input reads as it did. -/
def fnExactSegmentAtSpec : ChangeSpec := { name := "fnExactSegmentAt", fn := fun _ => fun
  | [d1, d2] => { results := [.lit (.bool true)], args := [d1, d2] }
  | _ => none }
def fnExactSegmentAtRow : OpenClaim := { program := "ytggnkjnpiagdpaa", sum := "edd0b1e3608ee4cf9f3d1301921d29513c08ada799b866ed42079ca66575b6bf", func := "loop.example/g00980/laws.FnExactSegmentAt", spec := "fnExactSegmentAt", apart := false }
def FnExactSegmentAtSaid : Prop := fnExactSegmentAtRow.holds Try.pinned (OpenSpec.ofChange fnExactSegmentAtSpec)

/-- ITS FALSE NEIGHBOUR: 'it returns false'. Refute it at one input. -/
def fnExactSegmentAtWrong : ChangeSpec := { name := "fnExactSegmentAt", fn := fun _ => fun
  | [d1, d2] => { results := [.lit (.bool false)], args := [d1, d2] }
  | _ => none }
def FnExactSegmentAtWrongFalsely : Prop := fnExactSegmentAtRow.holds Try.pinned (OpenSpec.ofChange fnExactSegmentAtWrong)

/-- 'laws.FnExactSumOver': WHATEVER THE INPUT: true; the input reads as it did. -/
def fnExactSumOverSpec : ChangeSpec := { name := "fnExactSumOver", fn := fun _ => fun
  | [d1, d2, d3] => { results := [.lit (.bool true)], args := [d1, d2, d3] }
  | _ => none }
def fnExactSumOverRow : OpenClaim := { program := "ytggnkjnpiagdpaa", sum := "edd0b1e3608ee4cf9f3d1301921d29513c08ada799b866ed42079ca66575b6bf", func := "loop.example/g00980/laws.FnExactSumOver", spec := "fnExactSumOver", apart := false }
def FnExactSumOverSaid : Prop := fnExactSumOverRow.holds Try.pinned (OpenSpec.ofChange fnExactSumOverSpec)

/-- ITS FALSE NEIGHBOUR: 'it returns false'. Refute it at one input. -/
def fnExactSumOverWrong : ChangeSpec := { name := "fnExactSumOver", fn := fun _ => fun
  | [d1, d2, d3] => { results := [.lit (.bool false)], args := [d1, d2, d3] }
  | _ => none }
def FnExactSumOverWrongFalsely : Prop := fnExactSumOverRow.holds Try.pinned (OpenSpec.ofChange fnExactSumOverWrong)

/- THE SECOND FORM. 'bulk': how many values and letters a reading holds, each counted each time it is reached (what is shared counts as often as it is met; a slice's spare places count too). A statement '..UptoSaid' is the law's where the arguments, and the package variables that the reading takes, are together of bulk at most 1048576: NARROWER than '..Said'. Prove '..Said' where nothing that the law and all that it calls make is longer than what came in: it says more and counts as full. Else prove '..UptoSaid'. A law counts once. -/
mutual
def uptoBulk {H : Type} : DataW H → Nat
  | .lit (.string bytes) => bytes.length + 1
  | .lit _ => 1
  | .nil => 1
  | .ptr d => uptoBulk d + 1
  | .slice elems spare => uptoBulkAll elems + uptoBulkAll spare + 1
  | .agg parts => uptoBulkAll parts + 1
  | .iface _ d => uptoBulk d + 1
  | .map entries => uptoBulkEntries entries + 1
  | .held _ => 1
def uptoBulkAll {H : Type} : List (DataW H) → Nat
  | [] => 0
  | d :: r => uptoBulk d + uptoBulkAll r
def uptoBulkEntries {H : Type} : List (Lit × DataW H) → Nat
  | [] => 0
  | x :: r => uptoBulkEntry x + uptoBulkEntries r
def uptoBulkEntry {H : Type} : Lit × DataW H → Nat
  | (.string bytes, d) => bytes.length + uptoBulk d + 1
  | (_, d) => uptoBulk d + 1
 end
def uptoSmall : (H : Type) → List (DataW H) → Bool := fun _ ds => decide (uptoBulkAll ds ≤ 1048576)
def OpenSpec.upto (s : _root_.Go.ChangeSpec) : _root_.Go.OpenSpec := { _root_.Go.OpenSpec.ofChange s with cond := some uptoSmall }

/-- 'laws.FnExactTimelineOf', WHERE WHAT IT READS IS OF BULK AT MOST 1048576: true; the input reads as it did. -/
def fnExactTimelineOfUptoRow : OpenClaim := { program := "ytggnkjnpiagdpaa", sum := "edd0b1e3608ee4cf9f3d1301921d29513c08ada799b866ed42079ca66575b6bf", func := "loop.example/g00980/laws.FnExactTimelineOf", spec := "fnExactTimelineOf", unfollowed := true, recurses := true, apart := false, narrowed := true }
def FnExactTimelineOfUptoSaid : Prop := fnExactTimelineOfUptoRow.holds Try.pinned (OpenSpec.upto fnExactTimelineOfSpec)

/-- 'laws.FnExactTimelineOk', WHERE WHAT IT READS IS OF BULK AT MOST 1048576: true; the input reads as it did. -/
def fnExactTimelineOkUptoRow : OpenClaim := { program := "ytggnkjnpiagdpaa", sum := "edd0b1e3608ee4cf9f3d1301921d29513c08ada799b866ed42079ca66575b6bf", func := "loop.example/g00980/laws.FnExactTimelineOk", spec := "fnExactTimelineOk", apart := false, narrowed := true }
def FnExactTimelineOkUptoSaid : Prop := fnExactTimelineOkUptoRow.holds Try.pinned (OpenSpec.upto fnExactTimelineOkSpec)

/-- 'laws.FnExactSegmentAt', WHERE WHAT IT READS IS OF BULK AT MOST 1048576: true; the input reads as it did. -/
def fnExactSegmentAtUptoRow : OpenClaim := { program := "ytggnkjnpiagdpaa", sum := "edd0b1e3608ee4cf9f3d1301921d29513c08ada799b866ed42079ca66575b6bf", func := "loop.example/g00980/laws.FnExactSegmentAt", spec := "fnExactSegmentAt", apart := false, narrowed := true }
def FnExactSegmentAtUptoSaid : Prop := fnExactSegmentAtUptoRow.holds Try.pinned (OpenSpec.upto fnExactSegmentAtSpec)

/-- 'laws.FnExactSumOver', WHERE WHAT IT READS IS OF BULK AT MOST 1048576: true; the input reads as it did. -/
def fnExactSumOverUptoRow : OpenClaim := { program := "ytggnkjnpiagdpaa", sum := "edd0b1e3608ee4cf9f3d1301921d29513c08ada799b866ed42079ca66575b6bf", func := "loop.example/g00980/laws.FnExactSumOver", spec := "fnExactSumOver", apart := false, narrowed := true }
def FnExactSumOverUptoSaid : Prop := fnExactSumOverUptoRow.holds Try.pinned (OpenSpec.upto fnExactSumOverSpec)

end Rows
end Go.Proofs.Ytggnkjnpiagdpaa
