/-
  No cell of these rows narrows 'for every input' (looked for: loops, veiled, ifaces, maps, wideKeys, modest, calm, conditions, laid).
  DERIVED. THE GIVEN ROWS OF THIS SEAT. 6 by the template 'for every input the law returns true; each argument reads behind the call as it read before'; 0 by the template 'total and deterministic' (their statements: YtlbpopmgadomoaaTotals.lean).
  GIVEN WITH THE SEED: the statements are not yours to turn. If you find one false, say at which input.
  Laid BY PROGRAM, IN A SANDBOX (cutbox-rows.mjs): the forced cells as the released guide's own fill.sh prints them over the translation 3626c88f10ff027f… (all of the seat's roots in one cut). By AI agents, Wed Nov 11 2026. No macro, syntax, notation, axiom, sorry.
-/
import Derived.Test.YtlbpopmgadomoaaChecked
import GoSem.Claim
import GoSem.ClaimJoined
import GoSem.ClaimMapViews
import Derived.JoinedTies
import Derived.KernelRfl
namespace Go.Proofs.Ytlbpopmgadomoaa
/- THE CELL 'sum', in the pinned program and in every row, IS THE sha256 OF THE DUMP (.gsa) THAT YtlbpopmgadomoaaProg.lean LOADS. Nothing in Lean hashes anything: it is a label: what it is worth is what the hold of that sum in a sandbox is worth. -/
noncomputable def Try.pinned : Pinned := { name := "ytlbpopmgadomoaa", sum := "3626c88f10ff027f17b3ae26e3e153f706b9d4f3a9b53cb18524eefd36f79aa0", checked := Try.checked }
namespace Rows
def none {H : Type} : Left H := { results := [], args := [] }

/-- 'laws.FnAges': WHATEVER THE INPUT: true; the input reads as it did. -/
def fnAgesSpec : ChangeSpec := { name := "fnAges", fn := fun _ => fun
  | [d] => { results := [.lit (.bool true)], args := [d] }
  | _ => none }
def fnAgesRow : OpenClaim := { program := "ytlbpopmgadomoaa", sum := "3626c88f10ff027f17b3ae26e3e153f706b9d4f3a9b53cb18524eefd36f79aa0", func := "loop.example/g00980/laws.FnAges", spec := "fnAges", apart := false }
def FnAgesSaid : Prop := fnAgesRow.holds Try.pinned (OpenSpec.ofChange fnAgesSpec)

/-- ITS FALSE NEIGHBOUR: 'it returns false'. Refute it at one input. -/
def fnAgesWrong : ChangeSpec := { name := "fnAges", fn := fun _ => fun
  | [d] => { results := [.lit (.bool false)], args := [d] }
  | _ => none }
def FnAgesWrongFalsely : Prop := fnAgesRow.holds Try.pinned (OpenSpec.ofChange fnAgesWrong)

/-- 'laws.FnCommonMonths': WHATEVER THE INPUT: true; the input reads as it did. -/
def fnCommonMonthsSpec : ChangeSpec := { name := "fnCommonMonths", fn := fun _ => fun
  | [d] => { results := [.lit (.bool true)], args := [d] }
  | _ => none }
def fnCommonMonthsRow : OpenClaim := { program := "ytlbpopmgadomoaa", sum := "3626c88f10ff027f17b3ae26e3e153f706b9d4f3a9b53cb18524eefd36f79aa0", func := "loop.example/g00980/laws.FnCommonMonths", spec := "fnCommonMonths", apart := false }
def FnCommonMonthsSaid : Prop := fnCommonMonthsRow.holds Try.pinned (OpenSpec.ofChange fnCommonMonthsSpec)

/-- ITS FALSE NEIGHBOUR: 'it returns false'. Refute it at one input. -/
def fnCommonMonthsWrong : ChangeSpec := { name := "fnCommonMonths", fn := fun _ => fun
  | [d] => { results := [.lit (.bool false)], args := [d] }
  | _ => none }
def FnCommonMonthsWrongFalsely : Prop := fnCommonMonthsRow.holds Try.pinned (OpenSpec.ofChange fnCommonMonthsWrong)

/-- 'laws.FnExactMonthOk': WHATEVER THE INPUT: true; the input reads as it did. -/
def fnExactMonthOkSpec : ChangeSpec := { name := "fnExactMonthOk", fn := fun _ => fun
  | [d] => { results := [.lit (.bool true)], args := [d] }
  | _ => none }
def fnExactMonthOkRow : OpenClaim := { program := "ytlbpopmgadomoaa", sum := "3626c88f10ff027f17b3ae26e3e153f706b9d4f3a9b53cb18524eefd36f79aa0", func := "loop.example/g00980/laws.FnExactMonthOk", spec := "fnExactMonthOk", apart := false }
def FnExactMonthOkSaid : Prop := fnExactMonthOkRow.holds Try.pinned (OpenSpec.ofChange fnExactMonthOkSpec)

/-- ITS FALSE NEIGHBOUR: 'it returns false'. Refute it at one input. -/
def fnExactMonthOkWrong : ChangeSpec := { name := "fnExactMonthOk", fn := fun _ => fun
  | [d] => { results := [.lit (.bool false)], args := [d] }
  | _ => none }
def FnExactMonthOkWrongFalsely : Prop := fnExactMonthOkRow.holds Try.pinned (OpenSpec.ofChange fnExactMonthOkWrong)

/-- 'laws.FnExactMonthOf': WHATEVER THE INPUT: true; the input reads as it did. -/
def fnExactMonthOfSpec : ChangeSpec := { name := "fnExactMonthOf", fn := fun _ => fun
  | [d1, d2] => { results := [.lit (.bool true)], args := [d1, d2] }
  | _ => none }
def fnExactMonthOfRow : OpenClaim := { program := "ytlbpopmgadomoaa", sum := "3626c88f10ff027f17b3ae26e3e153f706b9d4f3a9b53cb18524eefd36f79aa0", func := "loop.example/g00980/laws.FnExactMonthOf", spec := "fnExactMonthOf", apart := false }
def FnExactMonthOfSaid : Prop := fnExactMonthOfRow.holds Try.pinned (OpenSpec.ofChange fnExactMonthOfSpec)

/-- ITS FALSE NEIGHBOUR: 'it returns false'. Refute it at one input. -/
def fnExactMonthOfWrong : ChangeSpec := { name := "fnExactMonthOf", fn := fun _ => fun
  | [d1, d2] => { results := [.lit (.bool false)], args := [d1, d2] }
  | _ => none }
def FnExactMonthOfWrongFalsely : Prop := fnExactMonthOfRow.holds Try.pinned (OpenSpec.ofChange fnExactMonthOfWrong)

/-- 'laws.FnExactAgeAt': WHATEVER THE INPUT: true; the input reads as it did. -/
def fnExactAgeAtSpec : ChangeSpec := { name := "fnExactAgeAt", fn := fun _ => fun
  | [d1, d2, d3] => { results := [.lit (.bool true)], args := [d1, d2, d3] }
  | _ => none }
def fnExactAgeAtRow : OpenClaim := { program := "ytlbpopmgadomoaa", sum := "3626c88f10ff027f17b3ae26e3e153f706b9d4f3a9b53cb18524eefd36f79aa0", func := "loop.example/g00980/laws.FnExactAgeAt", spec := "fnExactAgeAt", apart := false }
def FnExactAgeAtSaid : Prop := fnExactAgeAtRow.holds Try.pinned (OpenSpec.ofChange fnExactAgeAtSpec)

/-- ITS FALSE NEIGHBOUR: 'it returns false'. Refute it at one input. -/
def fnExactAgeAtWrong : ChangeSpec := { name := "fnExactAgeAt", fn := fun _ => fun
  | [d1, d2, d3] => { results := [.lit (.bool false)], args := [d1, d2, d3] }
  | _ => none }
def FnExactAgeAtWrongFalsely : Prop := fnExactAgeAtRow.holds Try.pinned (OpenSpec.ofChange fnExactAgeAtWrong)

/-- 'laws.FnExactMonthsIn': WHATEVER THE INPUT: true; the input reads as it did. -/
def fnExactMonthsInSpec : ChangeSpec := { name := "fnExactMonthsIn", fn := fun _ => fun
  | [d1, d2, d3, d4] => { results := [.lit (.bool true)], args := [d1, d2, d3, d4] }
  | _ => none }
def fnExactMonthsInRow : OpenClaim := { program := "ytlbpopmgadomoaa", sum := "3626c88f10ff027f17b3ae26e3e153f706b9d4f3a9b53cb18524eefd36f79aa0", func := "loop.example/g00980/laws.FnExactMonthsIn", spec := "fnExactMonthsIn", apart := false }
def FnExactMonthsInSaid : Prop := fnExactMonthsInRow.holds Try.pinned (OpenSpec.ofChange fnExactMonthsInSpec)

/-- ITS FALSE NEIGHBOUR: 'it returns false'. Refute it at one input. -/
def fnExactMonthsInWrong : ChangeSpec := { name := "fnExactMonthsIn", fn := fun _ => fun
  | [d1, d2, d3, d4] => { results := [.lit (.bool false)], args := [d1, d2, d3, d4] }
  | _ => none }
def FnExactMonthsInWrongFalsely : Prop := fnExactMonthsInRow.holds Try.pinned (OpenSpec.ofChange fnExactMonthsInWrong)

/- THE SECOND FORM. 'bulk': how many values and letters a reading holds, each counted each time it is reached (what is shared counts as often as it is met; a slice's spare places count too). A statement '..UptoSaid' is the law's where the arguments, and the package variables that the reading takes, are together of bulk at most 1048576: NARROWER than '..Said'. Prove '..Said' where nothing that the law and all that it calls make is longer than what came in: it says more and counts as full. Else prove '..UptoSaid'. A law counts once. -/
mutual
def uptoBulk {H : Type} : DataW H → Nat
  | .lit (.string bytes) => bytes.length + 1
  | .lit _ => 1
  | .nil => 1
  | .ptr d => uptoBulk d + 1
  | .slice elems spare => uptoBulkAll elems + uptoBulkAll spare + 1
  | .agg parts => uptoBulkAll parts + 1
  | .iface _ d => uptoBulk d + 1
  | .map entries => uptoBulkEntries entries + 1
  | .held _ => 1
def uptoBulkAll {H : Type} : List (DataW H) → Nat
  | [] => 0
  | d :: r => uptoBulk d + uptoBulkAll r
def uptoBulkEntries {H : Type} : List (Lit × DataW H) → Nat
  | [] => 0
  | x :: r => uptoBulkEntry x + uptoBulkEntries r
def uptoBulkEntry {H : Type} : Lit × DataW H → Nat
  | (.string bytes, d) => bytes.length + uptoBulk d + 1
  | (_, d) => uptoBulk d + 1
 end
def uptoSmall : (H : Type) → List (DataW H) → Bool := fun _ ds => decide (uptoBulkAll ds ≤ 1048576)
def OpenSpec.upto (s : _root_.Go.ChangeSpec) : _root_.Go.OpenSpec := { _root_.Go.OpenSpec.ofChange s with cond := some uptoSmall }

/-- 'laws.FnAges', WHERE WHAT IT READS IS OF BULK AT MOST 1048576: true; the input reads as it did. -/
def fnAgesUptoRow : OpenClaim := { program := "ytlbpopmgadomoaa", sum := "3626c88f10ff027f17b3ae26e3e153f706b9d4f3a9b53cb18524eefd36f79aa0", func := "loop.example/g00980/laws.FnAges", spec := "fnAges", apart := false, narrowed := true }
def FnAgesUptoSaid : Prop := fnAgesUptoRow.holds Try.pinned (OpenSpec.upto fnAgesSpec)

/-- 'laws.FnCommonMonths', WHERE WHAT IT READS IS OF BULK AT MOST 1048576: true; the input reads as it did. -/
def fnCommonMonthsUptoRow : OpenClaim := { program := "ytlbpopmgadomoaa", sum := "3626c88f10ff027f17b3ae26e3e153f706b9d4f3a9b53cb18524eefd36f79aa0", func := "loop.example/g00980/laws.FnCommonMonths", spec := "fnCommonMonths", apart := false, narrowed := true }
def FnCommonMonthsUptoSaid : Prop := fnCommonMonthsUptoRow.holds Try.pinned (OpenSpec.upto fnCommonMonthsSpec)

/-- 'laws.FnExactMonthOk', WHERE WHAT IT READS IS OF BULK AT MOST 1048576: true; the input reads as it did. -/
def fnExactMonthOkUptoRow : OpenClaim := { program := "ytlbpopmgadomoaa", sum := "3626c88f10ff027f17b3ae26e3e153f706b9d4f3a9b53cb18524eefd36f79aa0", func := "loop.example/g00980/laws.FnExactMonthOk", spec := "fnExactMonthOk", apart := false, narrowed := true }
def FnExactMonthOkUptoSaid : Prop := fnExactMonthOkUptoRow.holds Try.pinned (OpenSpec.upto fnExactMonthOkSpec)

/-- 'laws.FnExactMonthOf', WHERE WHAT IT READS IS OF BULK AT MOST 1048576: true; the input reads as it did. -/
def fnExactMonthOfUptoRow : OpenClaim := { program := "ytlbpopmgadomoaa", sum := "3626c88f10ff027f17b3ae26e3e153f706b9d4f3a9b53cb18524eefd36f79aa0", func := "loop.example/g00980/laws.FnExactMonthOf", spec := "fnExactMonthOf", apart := false, narrowed := true }
def FnExactMonthOfUptoSaid : Prop := fnExactMonthOfUptoRow.holds Try.pinned (OpenSpec.upto fnExactMonthOfSpec)

/-- 'laws.FnExactAgeAt', WHERE WHAT IT READS IS OF BULK AT MOST 1048576: true; the input reads as it did. -/
def fnExactAgeAtUptoRow : OpenClaim := { program := "ytlbpopmgadomoaa", sum := "3626c88f10ff027f17b3ae26e3e153f706b9d4f3a9b53cb18524eefd36f79aa0", func := "loop.example/g00980/laws.FnExactAgeAt", spec := "fnExactAgeAt", apart := false, narrowed := true }
def FnExactAgeAtUptoSaid : Prop := fnExactAgeAtUptoRow.holds Try.pinned (OpenSpec.upto fnExactAgeAtSpec)

/-- 'laws.FnExactMonthsIn', WHERE WHAT IT READS IS OF BULK AT MOST 1048576: true; the input reads as it did. -/
def fnExactMonthsInUptoRow : OpenClaim := { program := "ytlbpopmgadomoaa", sum := "3626c88f10ff027f17b3ae26e3e153f706b9d4f3a9b53cb18524eefd36f79aa0", func := "loop.example/g00980/laws.FnExactMonthsIn", spec := "fnExactMonthsIn", apart := false, narrowed := true }
def FnExactMonthsInUptoSaid : Prop := fnExactMonthsInUptoRow.holds Try.pinned (OpenSpec.upto fnExactMonthsInSpec)

end Rows
end Go.Proofs.Ytlbpopmgadomoaa
