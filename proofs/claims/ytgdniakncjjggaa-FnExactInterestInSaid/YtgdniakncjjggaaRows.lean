/-
  No cell of these rows narrows 'for every input' (looked for: loops, veiled, ifaces, maps, wideKeys, modest, calm, conditions, laid).
  DERIVED. THE GIVEN ROWS OF THIS SEAT. 7 by the template 'for every input the law returns true; each argument reads behind the call as it read before'; 0 by the template 'total and deterministic' (their statements: YtgdniakncjjggaaTotals.lean).
  GIVEN WITH THE SEED: the statements are not yours to turn. If you find one false, say at which input.
  Laid BY PROGRAM, IN A SANDBOX (cutbox-rows.mjs): the forced cells as the released guide's own fill.sh prints them over the translation 485812a59003c8d7… (all of the seat's roots in one cut). By AI agents, Wed Nov 11 2026. No macro, syntax, notation, axiom, sorry.
-/
import Derived.Test.YtgdniakncjjggaaChecked
import GoSem.Claim
import GoSem.ClaimJoined
import GoSem.ClaimMapViews
import Derived.JoinedTies
import Derived.KernelRfl
namespace Go.Proofs.Ytgdniakncjjggaa
/- THE CELL 'sum', in the pinned program and in every row, IS THE sha256 OF THE DUMP (.gsa) THAT YtgdniakncjjggaaProg.lean LOADS. Nothing in Lean hashes anything: it is a label: what it is worth is what the hold of that sum in a sandbox is worth. -/
noncomputable def Try.pinned : Pinned := { name := "ytgdniakncjjggaa", sum := "485812a59003c8d76a61255bcff3fb3647bc2acb853ad59f92b7b19c905f581c", checked := Try.checked }
namespace Rows
def none {H : Type} : Left H := { results := [], args := [] }

/-- 'laws.FnAccounts': WHATEVER THE INPUT: true; the input reads as it did. -/
def fnAccountsSpec : ChangeSpec := { name := "fnAccounts", fn := fun _ => fun
  | [d] => { results := [.lit (.bool true)], args := [d] }
  | _ => none }
def fnAccountsRow : OpenClaim := { program := "ytgdniakncjjggaa", sum := "485812a59003c8d76a61255bcff3fb3647bc2acb853ad59f92b7b19c905f581c", func := "loop.example/g00980/laws.FnAccounts", spec := "fnAccounts", unfollowed := true, recurses := true, apart := false }
def FnAccountsSaid : Prop := fnAccountsRow.holds Try.pinned (OpenSpec.ofChange fnAccountsSpec)

/-- ITS FALSE NEIGHBOUR: 'it returns false'. Refute it at one input. -/
def fnAccountsWrong : ChangeSpec := { name := "fnAccounts", fn := fun _ => fun
  | [d] => { results := [.lit (.bool false)], args := [d] }
  | _ => none }
def FnAccountsWrongFalsely : Prop := fnAccountsRow.holds Try.pinned (OpenSpec.ofChange fnAccountsWrong)

/-- 'laws.FnSettled': WHATEVER THE INPUT: true; the input reads as it did. -/
def fnSettledSpec : ChangeSpec := { name := "fnSettled", fn := fun _ => fun
  | [d] => { results := [.lit (.bool true)], args := [d] }
  | _ => none }
def fnSettledRow : OpenClaim := { program := "ytgdniakncjjggaa", sum := "485812a59003c8d76a61255bcff3fb3647bc2acb853ad59f92b7b19c905f581c", func := "loop.example/g00980/laws.FnSettled", spec := "fnSettled", unfollowed := true, recurses := true, apart := false }
def FnSettledSaid : Prop := fnSettledRow.holds Try.pinned (OpenSpec.ofChange fnSettledSpec)

/-- ITS FALSE NEIGHBOUR: 'it returns false'. Refute it at one input. -/
def fnSettledWrong : ChangeSpec := { name := "fnSettled", fn := fun _ => fun
  | [d] => { results := [.lit (.bool false)], args := [d] }
  | _ => none }
def FnSettledWrongFalsely : Prop := fnSettledRow.holds Try.pinned (OpenSpec.ofChange fnSettledWrong)

/-- 'laws.FnExactDueFor': WHATEVER THE INPUT: true; the input reads as it did. -/
def fnExactDueForSpec : ChangeSpec := { name := "fnExactDueFor", fn := fun _ => fun
  | [d1, d2] => { results := [.lit (.bool true)], args := [d1, d2] }
  | _ => none }
def fnExactDueForRow : OpenClaim := { program := "ytgdniakncjjggaa", sum := "485812a59003c8d76a61255bcff3fb3647bc2acb853ad59f92b7b19c905f581c", func := "loop.example/g00980/laws.FnExactDueFor", spec := "fnExactDueFor", apart := false }
def FnExactDueForSaid : Prop := fnExactDueForRow.holds Try.pinned (OpenSpec.ofChange fnExactDueForSpec)

/-- ITS FALSE NEIGHBOUR: 'it returns false'. Refute it at one input. -/
def fnExactDueForWrong : ChangeSpec := { name := "fnExactDueFor", fn := fun _ => fun
  | [d1, d2] => { results := [.lit (.bool false)], args := [d1, d2] }
  | _ => none }
def FnExactDueForWrongFalsely : Prop := fnExactDueForRow.holds Try.pinned (OpenSpec.ofChange fnExactDueForWrong)

/-- 'laws.FnExactRunAccount': WHATEVER THE INPUT: true; the input reads as it did. -/
def fnExactRunAccountSpec : ChangeSpec := { name := "fnExactRunAccount", fn := fun _ => fun
  | [d1, d2, d3] => { results := [.lit (.bool true)], args := [d1, d2, d3] }
  | _ => none }
def fnExactRunAccountRow : OpenClaim := { program := "ytgdniakncjjggaa", sum := "485812a59003c8d76a61255bcff3fb3647bc2acb853ad59f92b7b19c905f581c", func := "loop.example/g00980/laws.FnExactRunAccount", spec := "fnExactRunAccount", unfollowed := true, recurses := true, apart := false }
def FnExactRunAccountSaid : Prop := fnExactRunAccountRow.holds Try.pinned (OpenSpec.ofChange fnExactRunAccountSpec)

/-- ITS FALSE NEIGHBOUR: 'it returns false'. Refute it at one input. -/
def fnExactRunAccountWrong : ChangeSpec := { name := "fnExactRunAccount", fn := fun _ => fun
  | [d1, d2, d3] => { results := [.lit (.bool false)], args := [d1, d2, d3] }
  | _ => none }
def FnExactRunAccountWrongFalsely : Prop := fnExactRunAccountRow.holds Try.pinned (OpenSpec.ofChange fnExactRunAccountWrong)

/-- 'laws.FnExactInterestIn': WHATEVER THE INPUT: true; the input reads as it did. -/
def fnExactInterestInSpec : ChangeSpec := { name := "fnExactInterestIn", fn := fun _ => fun
  | [d1, d2, d3] => { results := [.lit (.bool true)], args := [d1, d2, d3] }
  | _ => none }
def fnExactInterestInRow : OpenClaim := { program := "ytgdniakncjjggaa", sum := "485812a59003c8d76a61255bcff3fb3647bc2acb853ad59f92b7b19c905f581c", func := "loop.example/g00980/laws.FnExactInterestIn", spec := "fnExactInterestIn", unfollowed := true, recurses := true, apart := false }
def FnExactInterestInSaid : Prop := fnExactInterestInRow.holds Try.pinned (OpenSpec.ofChange fnExactInterestInSpec)

/-- ITS FALSE NEIGHBOUR: 'it returns false'. Refute it at one input. -/
def fnExactInterestInWrong : ChangeSpec := { name := "fnExactInterestIn", fn := fun _ => fun
  | [d1, d2, d3] => { results := [.lit (.bool false)], args := [d1, d2, d3] }
  | _ => none }
def FnExactInterestInWrongFalsely : Prop := fnExactInterestInRow.holds Try.pinned (OpenSpec.ofChange fnExactInterestInWrong)

/-- 'laws.FnExactFirstArrears': WHATEVER THE INPUT: true; the input reads as it did. -/
def fnExactFirstArrearsSpec : ChangeSpec := { name := "fnExactFirstArrears", fn := fun _ => fun
  | [d1, d2, d3] => { results := [.lit (.bool true)], args := [d1, d2, d3] }
  | _ => none }
def fnExactFirstArrearsRow : OpenClaim := { program := "ytgdniakncjjggaa", sum := "485812a59003c8d76a61255bcff3fb3647bc2acb853ad59f92b7b19c905f581c", func := "loop.example/g00980/laws.FnExactFirstArrears", spec := "fnExactFirstArrears", unfollowed := true, recurses := true, apart := false }
def FnExactFirstArrearsSaid : Prop := fnExactFirstArrearsRow.holds Try.pinned (OpenSpec.ofChange fnExactFirstArrearsSpec)

/-- ITS FALSE NEIGHBOUR: 'it returns false'. Refute it at one input. -/
def fnExactFirstArrearsWrong : ChangeSpec := { name := "fnExactFirstArrears", fn := fun _ => fun
  | [d1, d2, d3] => { results := [.lit (.bool false)], args := [d1, d2, d3] }
  | _ => none }
def FnExactFirstArrearsWrongFalsely : Prop := fnExactFirstArrearsRow.holds Try.pinned (OpenSpec.ofChange fnExactFirstArrearsWrong)

/-- 'laws.FnExactSettleBy': WHATEVER THE INPUT: true; the input reads as it did. -/
def fnExactSettleBySpec : ChangeSpec := { name := "fnExactSettleBy", fn := fun _ => fun
  | [d1, d2, d3] => { results := [.lit (.bool true)], args := [d1, d2, d3] }
  | _ => none }
def fnExactSettleByRow : OpenClaim := { program := "ytgdniakncjjggaa", sum := "485812a59003c8d76a61255bcff3fb3647bc2acb853ad59f92b7b19c905f581c", func := "loop.example/g00980/laws.FnExactSettleBy", spec := "fnExactSettleBy", unfollowed := true, recurses := true, apart := false }
def FnExactSettleBySaid : Prop := fnExactSettleByRow.holds Try.pinned (OpenSpec.ofChange fnExactSettleBySpec)

/-- ITS FALSE NEIGHBOUR: 'it returns false'. Refute it at one input. -/
def fnExactSettleByWrong : ChangeSpec := { name := "fnExactSettleBy", fn := fun _ => fun
  | [d1, d2, d3] => { results := [.lit (.bool false)], args := [d1, d2, d3] }
  | _ => none }
def FnExactSettleByWrongFalsely : Prop := fnExactSettleByRow.holds Try.pinned (OpenSpec.ofChange fnExactSettleByWrong)

/- THE SECOND FORM. 'bulk': how many values and letters a reading holds, each counted each time it is reached (what is shared counts as often as it is met; a slice's spare places count too). A statement '..UptoSaid' is the law's where the arguments, and the package variables that the reading takes, are together of bulk at most 1048576: NARROWER than '..Said'. Prove '..Said' where nothing that the law and all that it calls make is longer than what came in: it says more and counts as full. Else prove '..UptoSaid'. A law counts once. -/
mutual
def uptoBulk {H : Type} : DataW H → Nat
  | .lit (.string bytes) => bytes.length + 1
  | .lit _ => 1
  | .nil => 1
  | .ptr d => uptoBulk d + 1
  | .slice elems spare => uptoBulkAll elems + uptoBulkAll spare + 1
  | .agg parts => uptoBulkAll parts + 1
  | .iface _ d => uptoBulk d + 1
  | .map entries => uptoBulkEntries entries + 1
  | .held _ => 1
def uptoBulkAll {H : Type} : List (DataW H) → Nat
  | [] => 0
  | d :: r => uptoBulk d + uptoBulkAll r
def uptoBulkEntries {H : Type} : List (Lit × DataW H) → Nat
  | [] => 0
  | x :: r => uptoBulkEntry x + uptoBulkEntries r
def uptoBulkEntry {H : Type} : Lit × DataW H → Nat
  | (.string bytes, d) => bytes.length + uptoBulk d + 1
  | (_, d) => uptoBulk d + 1
 end
def uptoSmall : (H : Type) → List (DataW H) → Bool := fun _ ds => decide (uptoBulkAll ds ≤ 1048576)
def OpenSpec.upto (s : _root_.Go.ChangeSpec) : _root_.Go.OpenSpec := { _root_.Go.OpenSpec.ofChange s with cond := some uptoSmall }

/-- 'laws.FnAccounts', WHERE WHAT IT READS IS OF BULK AT MOST 1048576: true; the input reads as it did. -/
def fnAccountsUptoRow : OpenClaim := { program := "ytgdniakncjjggaa", sum := "485812a59003c8d76a61255bcff3fb3647bc2acb853ad59f92b7b19c905f581c", func := "loop.example/g00980/laws.FnAccounts", spec := "fnAccounts", unfollowed := true, recurses := true, apart := false, narrowed := true }
def FnAccountsUptoSaid : Prop := fnAccountsUptoRow.holds Try.pinned (OpenSpec.upto fnAccountsSpec)

/-- 'laws.FnSettled', WHERE WHAT IT READS IS OF BULK AT MOST 1048576: true; the input reads as it did. -/
def fnSettledUptoRow : OpenClaim := { program := "ytgdniakncjjggaa", sum := "485812a59003c8d76a61255bcff3fb3647bc2acb853ad59f92b7b19c905f581c", func := "loop.example/g00980/laws.FnSettled", spec := "fnSettled", unfollowed := true, recurses := true, apart := false, narrowed := true }
def FnSettledUptoSaid : Prop := fnSettledUptoRow.holds Try.pinned (OpenSpec.upto fnSettledSpec)

/-- 'laws.FnExactDueFor', WHERE WHAT IT READS IS OF BULK AT MOST 1048576: true; the input reads as it did. -/
def fnExactDueForUptoRow : OpenClaim := { program := "ytgdniakncjjggaa", sum := "485812a59003c8d76a61255bcff3fb3647bc2acb853ad59f92b7b19c905f581c", func := "loop.example/g00980/laws.FnExactDueFor", spec := "fnExactDueFor", apart := false, narrowed := true }
def FnExactDueForUptoSaid : Prop := fnExactDueForUptoRow.holds Try.pinned (OpenSpec.upto fnExactDueForSpec)

/-- 'laws.FnExactRunAccount', WHERE WHAT IT READS IS OF BULK AT MOST 1048576: true; the input reads as it did. -/
def fnExactRunAccountUptoRow : OpenClaim := { program := "ytgdniakncjjggaa", sum := "485812a59003c8d76a61255bcff3fb3647bc2acb853ad59f92b7b19c905f581c", func := "loop.example/g00980/laws.FnExactRunAccount", spec := "fnExactRunAccount", unfollowed := true, recurses := true, apart := false, narrowed := true }
def FnExactRunAccountUptoSaid : Prop := fnExactRunAccountUptoRow.holds Try.pinned (OpenSpec.upto fnExactRunAccountSpec)

/-- 'laws.FnExactInterestIn', WHERE WHAT IT READS IS OF BULK AT MOST 1048576: true; the input reads as it did. -/
def fnExactInterestInUptoRow : OpenClaim := { program := "ytgdniakncjjggaa", sum := "485812a59003c8d76a61255bcff3fb3647bc2acb853ad59f92b7b19c905f581c", func := "loop.example/g00980/laws.FnExactInterestIn", spec := "fnExactInterestIn", unfollowed := true, recurses := true, apart := false, narrowed := true }
def FnExactInterestInUptoSaid : Prop := fnExactInterestInUptoRow.holds Try.pinned (OpenSpec.upto fnExactInterestInSpec)

/-- 'laws.FnExactFirstArrears', WHERE WHAT IT READS IS OF BULK AT MOST 1048576: true; the input reads as it did. -/
def fnExactFirstArrearsUptoRow : OpenClaim := { program := "ytgdniakncjjggaa", sum := "485812a59003c8d76a61255bcff3fb3647bc2acb853ad59f92b7b19c905f581c", func := "loop.example/g00980/laws.FnExactFirstArrears", spec := "fnExactFirstArrears", unfollowed := true, recurses := true, apart := false, narrowed := true }
def FnExactFirstArrearsUptoSaid : Prop := fnExactFirstArrearsUptoRow.holds Try.pinned (OpenSpec.upto fnExactFirstArrearsSpec)

/-- 'laws.FnExactSettleBy', WHERE WHAT IT READS IS OF BULK AT MOST 1048576: true; the input reads as it did. -/
def fnExactSettleByUptoRow : OpenClaim := { program := "ytgdniakncjjggaa", sum := "485812a59003c8d76a61255bcff3fb3647bc2acb853ad59f92b7b19c905f581c", func := "loop.example/g00980/laws.FnExactSettleBy", spec := "fnExactSettleBy", unfollowed := true, recurses := true, apart := false, narrowed := true }
def FnExactSettleByUptoSaid : Prop := fnExactSettleByUptoRow.holds Try.pinned (OpenSpec.upto fnExactSettleBySpec)

end Rows
end Go.Proofs.Ytgdniakncjjggaa
