/-
  No cell of these rows narrows 'for every input' (looked for: loops, veiled, ifaces, maps, wideKeys, modest, calm, conditions, laid).
  DERIVED. THE GIVEN ROWS OF THIS SEAT. 7 by the template 'for every input the law returns true; each argument reads behind the call as it read before'; 0 by the template 'total and deterministic' (their statements: YtdmnagpnhphifaaTotals.lean).
  GIVEN WITH THE SEED: the statements are not yours to turn. If you find one false, say at which input.
  Laid BY PROGRAM, IN A SANDBOX (cutbox-rows.mjs): the forced cells as the released guide's own fill.sh prints them over the translation 77b1a51a248cb06f… (all of the seat's roots in one cut). By AI agents, Wed Nov 11 2026. No macro, syntax, notation, axiom, sorry.
-/
import Derived.Test.YtdmnagpnhphifaaChecked
import GoSem.Claim
import GoSem.ClaimJoined
import GoSem.ClaimMapViews
import Derived.JoinedTies
import Derived.KernelRfl
namespace Go.Proofs.Ytdmnagpnhphifaa
/- THE CELL 'sum', in the pinned program and in every row, IS THE sha256 OF THE DUMP (.gsa) THAT YtdmnagpnhphifaaProg.lean LOADS. Nothing in Lean hashes anything: it is a label: what it is worth is what the hold of that sum in a sandbox is worth. -/
noncomputable def Try.pinned : Pinned := { name := "ytdmnagpnhphifaa", sum := "77b1a51a248cb06f8b5a4f5bc9122410ae7ddac1e66650e2b9ca90bbea5dd69d", checked := Try.checked }
namespace Rows
def none {H : Type} : Left H := { results := [], args := [] }

/-- 'laws.FnRounded': WHATEVER THE INPUT: true; the input reads as it did. -/
def fnRoundedSpec : ChangeSpec := { name := "fnRounded", fn := fun _ => fun
  | [d] => { results := [.lit (.bool true)], args := [d] }
  | _ => none }
def fnRoundedRow : OpenClaim := { program := "ytdmnagpnhphifaa", sum := "77b1a51a248cb06f8b5a4f5bc9122410ae7ddac1e66650e2b9ca90bbea5dd69d", func := "loop.example/g00980/laws.FnRounded", spec := "fnRounded", apart := false }
def FnRoundedSaid : Prop := fnRoundedRow.holds Try.pinned (OpenSpec.ofChange fnRoundedSpec)

/-- ITS FALSE NEIGHBOUR: 'it returns false'. Refute it at one input. -/
def fnRoundedWrong : ChangeSpec := { name := "fnRounded", fn := fun _ => fun
  | [d] => { results := [.lit (.bool false)], args := [d] }
  | _ => none }
def FnRoundedWrongFalsely : Prop := fnRoundedRow.holds Try.pinned (OpenSpec.ofChange fnRoundedWrong)

/-- 'laws.FnAllocated': WHATEVER THE INPUT: true; the input reads as it did. -/
def fnAllocatedSpec : ChangeSpec := { name := "fnAllocated", fn := fun _ => fun
  | [d] => { results := [.lit (.bool true)], args := [d] }
  | _ => none }
def fnAllocatedRow : OpenClaim := { program := "ytdmnagpnhphifaa", sum := "77b1a51a248cb06f8b5a4f5bc9122410ae7ddac1e66650e2b9ca90bbea5dd69d", func := "loop.example/g00980/laws.FnAllocated", spec := "fnAllocated", unfollowed := true, recurses := true, apart := false }
def FnAllocatedSaid : Prop := fnAllocatedRow.holds Try.pinned (OpenSpec.ofChange fnAllocatedSpec)

/-- ITS FALSE NEIGHBOUR: 'it returns false'. Refute it at one input. -/
def fnAllocatedWrong : ChangeSpec := { name := "fnAllocated", fn := fun _ => fun
  | [d] => { results := [.lit (.bool false)], args := [d] }
  | _ => none }
def FnAllocatedWrongFalsely : Prop := fnAllocatedRow.holds Try.pinned (OpenSpec.ofChange fnAllocatedWrong)

/-- 'laws.FnSpread': WHATEVER THE INPUT: true; the input reads as it did. -/
def fnSpreadSpec : ChangeSpec := { name := "fnSpread", fn := fun _ => fun
  | [d] => { results := [.lit (.bool true)], args := [d] }
  | _ => none }
def fnSpreadRow : OpenClaim := { program := "ytdmnagpnhphifaa", sum := "77b1a51a248cb06f8b5a4f5bc9122410ae7ddac1e66650e2b9ca90bbea5dd69d", func := "loop.example/g00980/laws.FnSpread", spec := "fnSpread", apart := false }
def FnSpreadSaid : Prop := fnSpreadRow.holds Try.pinned (OpenSpec.ofChange fnSpreadSpec)

/-- ITS FALSE NEIGHBOUR: 'it returns false'. Refute it at one input. -/
def fnSpreadWrong : ChangeSpec := { name := "fnSpread", fn := fun _ => fun
  | [d] => { results := [.lit (.bool false)], args := [d] }
  | _ => none }
def FnSpreadWrongFalsely : Prop := fnSpreadRow.holds Try.pinned (OpenSpec.ofChange fnSpreadWrong)

/-- 'laws.FnExactRoundFrac': WHATEVER THE INPUT: true; the input reads as it did. -/
def fnExactRoundFracSpec : ChangeSpec := { name := "fnExactRoundFrac", fn := fun _ => fun
  | [d1, d2] => { results := [.lit (.bool true)], args := [d1, d2] }
  | _ => none }
def fnExactRoundFracRow : OpenClaim := { program := "ytdmnagpnhphifaa", sum := "77b1a51a248cb06f8b5a4f5bc9122410ae7ddac1e66650e2b9ca90bbea5dd69d", func := "loop.example/g00980/laws.FnExactRoundFrac", spec := "fnExactRoundFrac", apart := false }
def FnExactRoundFracSaid : Prop := fnExactRoundFracRow.holds Try.pinned (OpenSpec.ofChange fnExactRoundFracSpec)

/-- ITS FALSE NEIGHBOUR: 'it returns false'. Refute it at one input. -/
def fnExactRoundFracWrong : ChangeSpec := { name := "fnExactRoundFrac", fn := fun _ => fun
  | [d1, d2] => { results := [.lit (.bool false)], args := [d1, d2] }
  | _ => none }
def FnExactRoundFracWrongFalsely : Prop := fnExactRoundFracRow.holds Try.pinned (OpenSpec.ofChange fnExactRoundFracWrong)

/-- 'laws.FnExactFloorFrac': WHATEVER THE INPUT: true; the input reads as it did. -/
def fnExactFloorFracSpec : ChangeSpec := { name := "fnExactFloorFrac", fn := fun _ => fun
  | [d] => { results := [.lit (.bool true)], args := [d] }
  | _ => none }
def fnExactFloorFracRow : OpenClaim := { program := "ytdmnagpnhphifaa", sum := "77b1a51a248cb06f8b5a4f5bc9122410ae7ddac1e66650e2b9ca90bbea5dd69d", func := "loop.example/g00980/laws.FnExactFloorFrac", spec := "fnExactFloorFrac", apart := false }
def FnExactFloorFracSaid : Prop := fnExactFloorFracRow.holds Try.pinned (OpenSpec.ofChange fnExactFloorFracSpec)

/-- ITS FALSE NEIGHBOUR: 'it returns false'. Refute it at one input. -/
def fnExactFloorFracWrong : ChangeSpec := { name := "fnExactFloorFrac", fn := fun _ => fun
  | [d] => { results := [.lit (.bool false)], args := [d] }
  | _ => none }
def FnExactFloorFracWrongFalsely : Prop := fnExactFloorFracRow.holds Try.pinned (OpenSpec.ofChange fnExactFloorFracWrong)

/-- 'laws.FnExactAllocate': WHATEVER THE INPUT: true; the input reads as it did. -/
def fnExactAllocateSpec : ChangeSpec := { name := "fnExactAllocate", fn := fun _ => fun
  | [d1, d2] => { results := [.lit (.bool true)], args := [d1, d2] }
  | _ => none }
def fnExactAllocateRow : OpenClaim := { program := "ytdmnagpnhphifaa", sum := "77b1a51a248cb06f8b5a4f5bc9122410ae7ddac1e66650e2b9ca90bbea5dd69d", func := "loop.example/g00980/laws.FnExactAllocate", spec := "fnExactAllocate", unfollowed := true, recurses := true, apart := false }
def FnExactAllocateSaid : Prop := fnExactAllocateRow.holds Try.pinned (OpenSpec.ofChange fnExactAllocateSpec)

/-- ITS FALSE NEIGHBOUR: 'it returns false'. Refute it at one input. -/
def fnExactAllocateWrong : ChangeSpec := { name := "fnExactAllocate", fn := fun _ => fun
  | [d1, d2] => { results := [.lit (.bool false)], args := [d1, d2] }
  | _ => none }
def FnExactAllocateWrongFalsely : Prop := fnExactAllocateRow.holds Try.pinned (OpenSpec.ofChange fnExactAllocateWrong)

/-- 'laws.FnExactSpreadYear': WHATEVER THE INPUT: true; the input reads as it did. -/
def fnExactSpreadYearSpec : ChangeSpec := { name := "fnExactSpreadYear", fn := fun _ => fun
  | [d1, d2] => { results := [.lit (.bool true)], args := [d1, d2] }
  | _ => none }
def fnExactSpreadYearRow : OpenClaim := { program := "ytdmnagpnhphifaa", sum := "77b1a51a248cb06f8b5a4f5bc9122410ae7ddac1e66650e2b9ca90bbea5dd69d", func := "loop.example/g00980/laws.FnExactSpreadYear", spec := "fnExactSpreadYear", apart := false }
def FnExactSpreadYearSaid : Prop := fnExactSpreadYearRow.holds Try.pinned (OpenSpec.ofChange fnExactSpreadYearSpec)

/-- ITS FALSE NEIGHBOUR: 'it returns false'. Refute it at one input. -/
def fnExactSpreadYearWrong : ChangeSpec := { name := "fnExactSpreadYear", fn := fun _ => fun
  | [d1, d2] => { results := [.lit (.bool false)], args := [d1, d2] }
  | _ => none }
def FnExactSpreadYearWrongFalsely : Prop := fnExactSpreadYearRow.holds Try.pinned (OpenSpec.ofChange fnExactSpreadYearWrong)

/- THE SECOND FORM. 'bulk': how many values and letters a reading holds, each counted each time it is reached (what is shared counts as often as it is met; a slice's spare places count too). A statement '..UptoSaid' is the law's where the arguments, and the package variables that the reading takes, are together of bulk at most 1048576: NARROWER than '..Said'. Prove '..Said' where nothing that the law and all that it calls make is longer than what came in: it says more and counts as full. Else prove '..UptoSaid'. A law counts once. -/
mutual
def uptoBulk {H : Type} : DataW H → Nat
  | .lit (.string bytes) => bytes.length + 1
  | .lit _ => 1
  | .nil => 1
  | .ptr d => uptoBulk d + 1
  | .slice elems spare => uptoBulkAll elems + uptoBulkAll spare + 1
  | .agg parts => uptoBulkAll parts + 1
  | .iface _ d => uptoBulk d + 1
  | .map entries => uptoBulkEntries entries + 1
  | .held _ => 1
def uptoBulkAll {H : Type} : List (DataW H) → Nat
  | [] => 0
  | d :: r => uptoBulk d + uptoBulkAll r
def uptoBulkEntries {H : Type} : List (Lit × DataW H) → Nat
  | [] => 0
  | x :: r => uptoBulkEntry x + uptoBulkEntries r
def uptoBulkEntry {H : Type} : Lit × DataW H → Nat
  | (.string bytes, d) => bytes.length + uptoBulk d + 1
  | (_, d) => uptoBulk d + 1
 end
def uptoSmall : (H : Type) → List (DataW H) → Bool := fun _ ds => decide (uptoBulkAll ds ≤ 1048576)
def OpenSpec.upto (s : _root_.Go.ChangeSpec) : _root_.Go.OpenSpec := { _root_.Go.OpenSpec.ofChange s with cond := some uptoSmall }

/-- 'laws.FnRounded', WHERE WHAT IT READS IS OF BULK AT MOST 1048576: true; the input reads as it did. -/
def fnRoundedUptoRow : OpenClaim := { program := "ytdmnagpnhphifaa", sum := "77b1a51a248cb06f8b5a4f5bc9122410ae7ddac1e66650e2b9ca90bbea5dd69d", func := "loop.example/g00980/laws.FnRounded", spec := "fnRounded", apart := false, narrowed := true }
def FnRoundedUptoSaid : Prop := fnRoundedUptoRow.holds Try.pinned (OpenSpec.upto fnRoundedSpec)

/-- 'laws.FnAllocated', WHERE WHAT IT READS IS OF BULK AT MOST 1048576: true; the input reads as it did. -/
def fnAllocatedUptoRow : OpenClaim := { program := "ytdmnagpnhphifaa", sum := "77b1a51a248cb06f8b5a4f5bc9122410ae7ddac1e66650e2b9ca90bbea5dd69d", func := "loop.example/g00980/laws.FnAllocated", spec := "fnAllocated", unfollowed := true, recurses := true, apart := false, narrowed := true }
def FnAllocatedUptoSaid : Prop := fnAllocatedUptoRow.holds Try.pinned (OpenSpec.upto fnAllocatedSpec)

/-- 'laws.FnSpread', WHERE WHAT IT READS IS OF BULK AT MOST 1048576: true; the input reads as it did. -/
def fnSpreadUptoRow : OpenClaim := { program := "ytdmnagpnhphifaa", sum := "77b1a51a248cb06f8b5a4f5bc9122410ae7ddac1e66650e2b9ca90bbea5dd69d", func := "loop.example/g00980/laws.FnSpread", spec := "fnSpread", apart := false, narrowed := true }
def FnSpreadUptoSaid : Prop := fnSpreadUptoRow.holds Try.pinned (OpenSpec.upto fnSpreadSpec)

/-- 'laws.FnExactRoundFrac', WHERE WHAT IT READS IS OF BULK AT MOST 1048576: true; the input reads as it did. -/
def fnExactRoundFracUptoRow : OpenClaim := { program := "ytdmnagpnhphifaa", sum := "77b1a51a248cb06f8b5a4f5bc9122410ae7ddac1e66650e2b9ca90bbea5dd69d", func := "loop.example/g00980/laws.FnExactRoundFrac", spec := "fnExactRoundFrac", apart := false, narrowed := true }
def FnExactRoundFracUptoSaid : Prop := fnExactRoundFracUptoRow.holds Try.pinned (OpenSpec.upto fnExactRoundFracSpec)

/-- 'laws.FnExactFloorFrac', WHERE WHAT IT READS IS OF BULK AT MOST 1048576: true; the input reads as it did. -/
def fnExactFloorFracUptoRow : OpenClaim := { program := "ytdmnagpnhphifaa", sum := "77b1a51a248cb06f8b5a4f5bc9122410ae7ddac1e66650e2b9ca90bbea5dd69d", func := "loop.example/g00980/laws.FnExactFloorFrac", spec := "fnExactFloorFrac", apart := false, narrowed := true }
def FnExactFloorFracUptoSaid : Prop := fnExactFloorFracUptoRow.holds Try.pinned (OpenSpec.upto fnExactFloorFracSpec)

/-- 'laws.FnExactAllocate', WHERE WHAT IT READS IS OF BULK AT MOST 1048576: true; the input reads as it did. -/
def fnExactAllocateUptoRow : OpenClaim := { program := "ytdmnagpnhphifaa", sum := "77b1a51a248cb06f8b5a4f5bc9122410ae7ddac1e66650e2b9ca90bbea5dd69d", func := "loop.example/g00980/laws.FnExactAllocate", spec := "fnExactAllocate", unfollowed := true, recurses := true, apart := false, narrowed := true }
def FnExactAllocateUptoSaid : Prop := fnExactAllocateUptoRow.holds Try.pinned (OpenSpec.upto fnExactAllocateSpec)

/-- 'laws.FnExactSpreadYear', WHERE WHAT IT READS IS OF BULK AT MOST 1048576: true; the input reads as it did. -/
def fnExactSpreadYearUptoRow : OpenClaim := { program := "ytdmnagpnhphifaa", sum := "77b1a51a248cb06f8b5a4f5bc9122410ae7ddac1e66650e2b9ca90bbea5dd69d", func := "loop.example/g00980/laws.FnExactSpreadYear", spec := "fnExactSpreadYear", apart := false, narrowed := true }
def FnExactSpreadYearUptoSaid : Prop := fnExactSpreadYearUptoRow.holds Try.pinned (OpenSpec.upto fnExactSpreadYearSpec)

end Rows
end Go.Proofs.Ytdmnagpnhphifaa
