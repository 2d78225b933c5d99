/-
  No cell of these rows narrows 'for every input' (looked for: loops, veiled, ifaces, maps, wideKeys, modest, calm, conditions, laid).
  DERIVED. THE GIVEN ROWS OF THIS SEAT. 9 by the template 'for every input the law returns true; each argument reads behind the call as it read before'; 0 by the template 'total and deterministic' (their statements: YthilfkcebbnoiaaTotals.lean).
  GIVEN WITH THE SEED: the statements are not yours to turn. If you find one false, say at which input.
  Laid BY PROGRAM, IN A SANDBOX (cutbox-rows.mjs): the forced cells as the released guide's own fill.sh prints them over the translation 85b24b43b4287fcc… (all of the seat's roots in one cut). By AI agents, Wed Nov 11 2026. No macro, syntax, notation, axiom, sorry.
-/
import Derived.Test.YthilfkcebbnoiaaChecked
import GoSem.Claim
import GoSem.ClaimJoined
import GoSem.ClaimMapViews
import Derived.JoinedTies
import Derived.KernelRfl
namespace Go.Proofs.Ythilfkcebbnoiaa
/- THE CELL 'sum', in the pinned program and in every row, IS THE sha256 OF THE DUMP (.gsa) THAT YthilfkcebbnoiaaProg.lean LOADS. Nothing in Lean hashes anything: it is a label: what it is worth is what the hold of that sum in a sandbox is worth. -/
noncomputable def Try.pinned : Pinned := { name := "ythilfkcebbnoiaa", sum := "85b24b43b4287fcc8f062970aa439c9c958ecefaddacc668b7d342dd0bd0b854", checked := Try.checked }
namespace Rows
def none {H : Type} : Left H := { results := [], args := [] }

/-- 'laws.FnKnownThen': WHATEVER THE INPUT: true; the input reads as it did. -/
def fnKnownThenSpec : ChangeSpec := { name := "fnKnownThen", fn := fun _ => fun
  | [d] => { results := [.lit (.bool true)], args := [d] }
  | _ => none }
def fnKnownThenRow : OpenClaim := { program := "ythilfkcebbnoiaa", sum := "85b24b43b4287fcc8f062970aa439c9c958ecefaddacc668b7d342dd0bd0b854", func := "loop.example/g00980/laws.FnKnownThen", spec := "fnKnownThen", apart := false }
def FnKnownThenSaid : Prop := fnKnownThenRow.holds Try.pinned (OpenSpec.ofChange fnKnownThenSpec)

/-- ITS FALSE NEIGHBOUR: 'it returns false'. Refute it at one input. -/
def fnKnownThenWrong : ChangeSpec := { name := "fnKnownThen", fn := fun _ => fun
  | [d] => { results := [.lit (.bool false)], args := [d] }
  | _ => none }
def FnKnownThenWrongFalsely : Prop := fnKnownThenRow.holds Try.pinned (OpenSpec.ofChange fnKnownThenWrong)

/-- 'laws.FnLastFact': WHATEVER THE INPUT: true; the input reads as it did. -/
def fnLastFactSpec : ChangeSpec := { name := "fnLastFact", fn := fun _ => fun
  | [d] => { results := [.lit (.bool true)], args := [d] }
  | _ => none }
def fnLastFactRow : OpenClaim := { program := "ythilfkcebbnoiaa", sum := "85b24b43b4287fcc8f062970aa439c9c958ecefaddacc668b7d342dd0bd0b854", func := "loop.example/g00980/laws.FnLastFact", spec := "fnLastFact", apart := false }
def FnLastFactSaid : Prop := fnLastFactRow.holds Try.pinned (OpenSpec.ofChange fnLastFactSpec)

/-- ITS FALSE NEIGHBOUR: 'it returns false'. Refute it at one input. -/
def fnLastFactWrong : ChangeSpec := { name := "fnLastFact", fn := fun _ => fun
  | [d] => { results := [.lit (.bool false)], args := [d] }
  | _ => none }
def FnLastFactWrongFalsely : Prop := fnLastFactRow.holds Try.pinned (OpenSpec.ofChange fnLastFactWrong)

/-- 'laws.FnChangedMonths': WHATEVER THE INPUT: true; the input reads as it did. -/
def fnChangedMonthsSpec : ChangeSpec := { name := "fnChangedMonths", fn := fun _ => fun
  | [d] => { results := [.lit (.bool true)], args := [d] }
  | _ => none }
def fnChangedMonthsRow : OpenClaim := { program := "ythilfkcebbnoiaa", sum := "85b24b43b4287fcc8f062970aa439c9c958ecefaddacc668b7d342dd0bd0b854", func := "loop.example/g00980/laws.FnChangedMonths", spec := "fnChangedMonths", apart := false }
def FnChangedMonthsSaid : Prop := fnChangedMonthsRow.holds Try.pinned (OpenSpec.ofChange fnChangedMonthsSpec)

/-- ITS FALSE NEIGHBOUR: 'it returns false'. Refute it at one input. -/
def fnChangedMonthsWrong : ChangeSpec := { name := "fnChangedMonths", fn := fun _ => fun
  | [d] => { results := [.lit (.bool false)], args := [d] }
  | _ => none }
def FnChangedMonthsWrongFalsely : Prop := fnChangedMonthsRow.holds Try.pinned (OpenSpec.ofChange fnChangedMonthsWrong)

/-- 'laws.FnExactFactOk': WHATEVER THE INPUT: true; the input reads as it did. -/
def fnExactFactOkSpec : ChangeSpec := { name := "fnExactFactOk", fn := fun _ => fun
  | [d] => { results := [.lit (.bool true)], args := [d] }
  | _ => none }
def fnExactFactOkRow : OpenClaim := { program := "ythilfkcebbnoiaa", sum := "85b24b43b4287fcc8f062970aa439c9c958ecefaddacc668b7d342dd0bd0b854", func := "loop.example/g00980/laws.FnExactFactOk", spec := "fnExactFactOk", apart := false }
def FnExactFactOkSaid : Prop := fnExactFactOkRow.holds Try.pinned (OpenSpec.ofChange fnExactFactOkSpec)

/-- ITS FALSE NEIGHBOUR: 'it returns false'. Refute it at one input. -/
def fnExactFactOkWrong : ChangeSpec := { name := "fnExactFactOk", fn := fun _ => fun
  | [d] => { results := [.lit (.bool false)], args := [d] }
  | _ => none }
def FnExactFactOkWrongFalsely : Prop := fnExactFactOkRow.holds Try.pinned (OpenSpec.ofChange fnExactFactOkWrong)

/-- 'laws.FnExactStoreOk': WHATEVER THE INPUT: true; the input reads as it did. -/
def fnExactStoreOkSpec : ChangeSpec := { name := "fnExactStoreOk", fn := fun _ => fun
  | [d] => { results := [.lit (.bool true)], args := [d] }
  | _ => none }
def fnExactStoreOkRow : OpenClaim := { program := "ythilfkcebbnoiaa", sum := "85b24b43b4287fcc8f062970aa439c9c958ecefaddacc668b7d342dd0bd0b854", func := "loop.example/g00980/laws.FnExactStoreOk", spec := "fnExactStoreOk", apart := false }
def FnExactStoreOkSaid : Prop := fnExactStoreOkRow.holds Try.pinned (OpenSpec.ofChange fnExactStoreOkSpec)

/-- ITS FALSE NEIGHBOUR: 'it returns false'. Refute it at one input. -/
def fnExactStoreOkWrong : ChangeSpec := { name := "fnExactStoreOk", fn := fun _ => fun
  | [d] => { results := [.lit (.bool false)], args := [d] }
  | _ => none }
def FnExactStoreOkWrongFalsely : Prop := fnExactStoreOkRow.holds Try.pinned (OpenSpec.ofChange fnExactStoreOkWrong)

/-- 'laws.FnExactAddFact': WHATEVER THE INPUT: true; the input reads as it did. -/
def fnExactAddFactSpec : ChangeSpec := { name := "fnExactAddFact", fn := fun _ => fun
  | [d1, d2] => { results := [.lit (.bool true)], args := [d1, d2] }
  | _ => none }
def fnExactAddFactRow : OpenClaim := { program := "ythilfkcebbnoiaa", sum := "85b24b43b4287fcc8f062970aa439c9c958ecefaddacc668b7d342dd0bd0b854", func := "loop.example/g00980/laws.FnExactAddFact", spec := "fnExactAddFact", apart := false }
def FnExactAddFactSaid : Prop := fnExactAddFactRow.holds Try.pinned (OpenSpec.ofChange fnExactAddFactSpec)

/-- ITS FALSE NEIGHBOUR: 'it returns false'. Refute it at one input. -/
def fnExactAddFactWrong : ChangeSpec := { name := "fnExactAddFact", fn := fun _ => fun
  | [d1, d2] => { results := [.lit (.bool false)], args := [d1, d2] }
  | _ => none }
def FnExactAddFactWrongFalsely : Prop := fnExactAddFactRow.holds Try.pinned (OpenSpec.ofChange fnExactAddFactWrong)

/-- 'laws.FnExactValueAt': WHATEVER THE INPUT: true; the input reads as it did. -/
def fnExactValueAtSpec : ChangeSpec := { name := "fnExactValueAt", fn := fun _ => fun
  | [d1, d2, d3, d4] => { results := [.lit (.bool true)], args := [d1, d2, d3, d4] }
  | _ => none }
def fnExactValueAtRow : OpenClaim := { program := "ythilfkcebbnoiaa", sum := "85b24b43b4287fcc8f062970aa439c9c958ecefaddacc668b7d342dd0bd0b854", func := "loop.example/g00980/laws.FnExactValueAt", spec := "fnExactValueAt", apart := false }
def FnExactValueAtSaid : Prop := fnExactValueAtRow.holds Try.pinned (OpenSpec.ofChange fnExactValueAtSpec)

/-- ITS FALSE NEIGHBOUR: 'it returns false'. Refute it at one input. -/
def fnExactValueAtWrong : ChangeSpec := { name := "fnExactValueAt", fn := fun _ => fun
  | [d1, d2, d3, d4] => { results := [.lit (.bool false)], args := [d1, d2, d3, d4] }
  | _ => none }
def FnExactValueAtWrongFalsely : Prop := fnExactValueAtRow.holds Try.pinned (OpenSpec.ofChange fnExactValueAtWrong)

/-- 'laws.FnExactStoreAsOf': WHATEVER THE INPUT: true; the input reads as it did. -/
def fnExactStoreAsOfSpec : ChangeSpec := { name := "fnExactStoreAsOf", fn := fun _ => fun
  | [d1, d2] => { results := [.lit (.bool true)], args := [d1, d2] }
  | _ => none }
def fnExactStoreAsOfRow : OpenClaim := { program := "ythilfkcebbnoiaa", sum := "85b24b43b4287fcc8f062970aa439c9c958ecefaddacc668b7d342dd0bd0b854", func := "loop.example/g00980/laws.FnExactStoreAsOf", spec := "fnExactStoreAsOf", apart := false }
def FnExactStoreAsOfSaid : Prop := fnExactStoreAsOfRow.holds Try.pinned (OpenSpec.ofChange fnExactStoreAsOfSpec)

/-- ITS FALSE NEIGHBOUR: 'it returns false'. Refute it at one input. -/
def fnExactStoreAsOfWrong : ChangeSpec := { name := "fnExactStoreAsOf", fn := fun _ => fun
  | [d1, d2] => { results := [.lit (.bool false)], args := [d1, d2] }
  | _ => none }
def FnExactStoreAsOfWrongFalsely : Prop := fnExactStoreAsOfRow.holds Try.pinned (OpenSpec.ofChange fnExactStoreAsOfWrong)

/-- 'laws.FnExactChangedMonths': WHATEVER THE INPUT: true; the input reads as it did. -/
def fnExactChangedMonthsSpec : ChangeSpec := { name := "fnExactChangedMonths", fn := fun _ => fun
  | [d1, d2, d3, d4] => { results := [.lit (.bool true)], args := [d1, d2, d3, d4] }
  | _ => none }
def fnExactChangedMonthsRow : OpenClaim := { program := "ythilfkcebbnoiaa", sum := "85b24b43b4287fcc8f062970aa439c9c958ecefaddacc668b7d342dd0bd0b854", func := "loop.example/g00980/laws.FnExactChangedMonths", spec := "fnExactChangedMonths", apart := false }
def FnExactChangedMonthsSaid : Prop := fnExactChangedMonthsRow.holds Try.pinned (OpenSpec.ofChange fnExactChangedMonthsSpec)

/-- ITS FALSE NEIGHBOUR: 'it returns false'. Refute it at one input. -/
def fnExactChangedMonthsWrong : ChangeSpec := { name := "fnExactChangedMonths", fn := fun _ => fun
  | [d1, d2, d3, d4] => { results := [.lit (.bool false)], args := [d1, d2, d3, d4] }
  | _ => none }
def FnExactChangedMonthsWrongFalsely : Prop := fnExactChangedMonthsRow.holds Try.pinned (OpenSpec.ofChange fnExactChangedMonthsWrong)

/- THE SECOND FORM. 'bulk': how many values and letters a reading holds, each counted each time it is reached (what is shared counts as often as it is met; a slice's spare places count too). A statement '..UptoSaid' is the law's where the arguments, and the package variables that the reading takes, are together of bulk at most 1048576: NARROWER than '..Said'. Prove '..Said' where nothing that the law and all that it calls make is longer than what came in: it says more and counts as full. Else prove '..UptoSaid'. A law counts once. -/
mutual
def uptoBulk {H : Type} : DataW H → Nat
  | .lit (.string bytes) => bytes.length + 1
  | .lit _ => 1
  | .nil => 1
  | .ptr d => uptoBulk d + 1
  | .slice elems spare => uptoBulkAll elems + uptoBulkAll spare + 1
  | .agg parts => uptoBulkAll parts + 1
  | .iface _ d => uptoBulk d + 1
  | .map entries => uptoBulkEntries entries + 1
  | .held _ => 1
def uptoBulkAll {H : Type} : List (DataW H) → Nat
  | [] => 0
  | d :: r => uptoBulk d + uptoBulkAll r
def uptoBulkEntries {H : Type} : List (Lit × DataW H) → Nat
  | [] => 0
  | x :: r => uptoBulkEntry x + uptoBulkEntries r
def uptoBulkEntry {H : Type} : Lit × DataW H → Nat
  | (.string bytes, d) => bytes.length + uptoBulk d + 1
  | (_, d) => uptoBulk d + 1
 end
def uptoSmall : (H : Type) → List (DataW H) → Bool := fun _ ds => decide (uptoBulkAll ds ≤ 1048576)
def OpenSpec.upto (s : _root_.Go.ChangeSpec) : _root_.Go.OpenSpec := { _root_.Go.OpenSpec.ofChange s with cond := some uptoSmall }

/-- 'laws.FnKnownThen', WHERE WHAT IT READS IS OF BULK AT MOST 1048576: true; the input reads as it did. -/
def fnKnownThenUptoRow : OpenClaim := { program := "ythilfkcebbnoiaa", sum := "85b24b43b4287fcc8f062970aa439c9c958ecefaddacc668b7d342dd0bd0b854", func := "loop.example/g00980/laws.FnKnownThen", spec := "fnKnownThen", apart := false, narrowed := true }
def FnKnownThenUptoSaid : Prop := fnKnownThenUptoRow.holds Try.pinned (OpenSpec.upto fnKnownThenSpec)

/-- 'laws.FnLastFact', WHERE WHAT IT READS IS OF BULK AT MOST 1048576: true; the input reads as it did. -/
def fnLastFactUptoRow : OpenClaim := { program := "ythilfkcebbnoiaa", sum := "85b24b43b4287fcc8f062970aa439c9c958ecefaddacc668b7d342dd0bd0b854", func := "loop.example/g00980/laws.FnLastFact", spec := "fnLastFact", apart := false, narrowed := true }
def FnLastFactUptoSaid : Prop := fnLastFactUptoRow.holds Try.pinned (OpenSpec.upto fnLastFactSpec)

/-- 'laws.FnChangedMonths', WHERE WHAT IT READS IS OF BULK AT MOST 1048576: true; the input reads as it did. -/
def fnChangedMonthsUptoRow : OpenClaim := { program := "ythilfkcebbnoiaa", sum := "85b24b43b4287fcc8f062970aa439c9c958ecefaddacc668b7d342dd0bd0b854", func := "loop.example/g00980/laws.FnChangedMonths", spec := "fnChangedMonths", apart := false, narrowed := true }
def FnChangedMonthsUptoSaid : Prop := fnChangedMonthsUptoRow.holds Try.pinned (OpenSpec.upto fnChangedMonthsSpec)

/-- 'laws.FnExactFactOk', WHERE WHAT IT READS IS OF BULK AT MOST 1048576: true; the input reads as it did. -/
def fnExactFactOkUptoRow : OpenClaim := { program := "ythilfkcebbnoiaa", sum := "85b24b43b4287fcc8f062970aa439c9c958ecefaddacc668b7d342dd0bd0b854", func := "loop.example/g00980/laws.FnExactFactOk", spec := "fnExactFactOk", apart := false, narrowed := true }
def FnExactFactOkUptoSaid : Prop := fnExactFactOkUptoRow.holds Try.pinned (OpenSpec.upto fnExactFactOkSpec)

/-- 'laws.FnExactStoreOk', WHERE WHAT IT READS IS OF BULK AT MOST 1048576: true; the input reads as it did. -/
def fnExactStoreOkUptoRow : OpenClaim := { program := "ythilfkcebbnoiaa", sum := "85b24b43b4287fcc8f062970aa439c9c958ecefaddacc668b7d342dd0bd0b854", func := "loop.example/g00980/laws.FnExactStoreOk", spec := "fnExactStoreOk", apart := false, narrowed := true }
def FnExactStoreOkUptoSaid : Prop := fnExactStoreOkUptoRow.holds Try.pinned (OpenSpec.upto fnExactStoreOkSpec)

/-- 'laws.FnExactAddFact', WHERE WHAT IT READS IS OF BULK AT MOST 1048576: true; the input reads as it did. -/
def fnExactAddFactUptoRow : OpenClaim := { program := "ythilfkcebbnoiaa", sum := "85b24b43b4287fcc8f062970aa439c9c958ecefaddacc668b7d342dd0bd0b854", func := "loop.example/g00980/laws.FnExactAddFact", spec := "fnExactAddFact", apart := false, narrowed := true }
def FnExactAddFactUptoSaid : Prop := fnExactAddFactUptoRow.holds Try.pinned (OpenSpec.upto fnExactAddFactSpec)

/-- 'laws.FnExactValueAt', WHERE WHAT IT READS IS OF BULK AT MOST 1048576: true; the input reads as it did. -/
def fnExactValueAtUptoRow : OpenClaim := { program := "ythilfkcebbnoiaa", sum := "85b24b43b4287fcc8f062970aa439c9c958ecefaddacc668b7d342dd0bd0b854", func := "loop.example/g00980/laws.FnExactValueAt", spec := "fnExactValueAt", apart := false, narrowed := true }
def FnExactValueAtUptoSaid : Prop := fnExactValueAtUptoRow.holds Try.pinned (OpenSpec.upto fnExactValueAtSpec)

/-- 'laws.FnExactStoreAsOf', WHERE WHAT IT READS IS OF BULK AT MOST 1048576: true; the input reads as it did. -/
def fnExactStoreAsOfUptoRow : OpenClaim := { program := "ythilfkcebbnoiaa", sum := "85b24b43b4287fcc8f062970aa439c9c958ecefaddacc668b7d342dd0bd0b854", func := "loop.example/g00980/laws.FnExactStoreAsOf", spec := "fnExactStoreAsOf", apart := false, narrowed := true }
def FnExactStoreAsOfUptoSaid : Prop := fnExactStoreAsOfUptoRow.holds Try.pinned (OpenSpec.upto fnExactStoreAsOfSpec)

/-- 'laws.FnExactChangedMonths', WHERE WHAT IT READS IS OF BULK AT MOST 1048576: true; the input reads as it did. -/
def fnExactChangedMonthsUptoRow : OpenClaim := { program := "ythilfkcebbnoiaa", sum := "85b24b43b4287fcc8f062970aa439c9c958ecefaddacc668b7d342dd0bd0b854", func := "loop.example/g00980/laws.FnExactChangedMonths", spec := "fnExactChangedMonths", apart := false, narrowed := true }
def FnExactChangedMonthsUptoSaid : Prop := fnExactChangedMonthsUptoRow.holds Try.pinned (OpenSpec.upto fnExactChangedMonthsSpec)

end Rows
end Go.Proofs.Ythilfkcebbnoiaa
