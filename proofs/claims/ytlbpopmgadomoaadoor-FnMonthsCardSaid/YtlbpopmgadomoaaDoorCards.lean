/-
  DERIVED. GIVEN WITH THE SEED: THE CARDS: each row of YtlbpopmgadomoaaDoorRows.lean that lists a variable, with what it lists TIED to the program's text (the seventh form; the later family's looks); each row that meets fmt, with fmt's text TOLD by the authors' own Lean function (tested against real Go, not proved from fmt's source: count such statements apart). THE CARD IS WHAT COUNTS. Prove the row's statement (the work); the ties are given (YtlbpopmgadomoaaDoorTie.lean); close each card by the builder's one call (the guide's Derived/Test/ToyasCard.lean, 'card_holds'). Laid BY PROGRAM, IN A SANDBOX (cutbox-door.mjs). By AI agents, Wed Nov 11 2026. No macro, syntax, notation, axiom, sorry.
-/
import Derived.Test.YtlbpopmgadomoaaDoorRows
import GoSem.ClaimSeven
namespace Go.Proofs.YtlbpopmgadomoaaDoor
namespace Rows

/-- THE TIED CARD OF 'laws.FnMonths'. -/
def fnMonthsCard : Claim7 := { stood := { row := fnMonthsRow, standIns := [], harness := (true, "a7219c72d878860b9abf9208a74da7d40515aee927cf7b3e33641c897d96786e"), looks := false }, kinds := [], alts := [], laidByText := true, laidKinds := [.data, .data, .data, .data], laidTests := true, laidLooks := .later }
def FnMonthsCardSaid : Prop := Claim7.holds Tryd.pinned (.plain (OpenSpec.ofChange fnMonthsSpec)) fnMonthsCard

/-- THE TIED CARD OF 'laws.FnExactMonthText'. -/
def fnExactMonthTextCard : Claim7 := { stood := { row := fnExactMonthTextRow, standIns := [], harness := (true, "a7219c72d878860b9abf9208a74da7d40515aee927cf7b3e33641c897d96786e"), looks := false }, kinds := [], alts := [], laidByText := true, laidKinds := [.data, .data, .data, .data], laidTests := true, laidLooks := .later }
def FnExactMonthTextCardSaid : Prop := Claim7.holds Tryd.pinned (.plain (OpenSpec.ofChange fnExactMonthTextSpec)) fnExactMonthTextCard

/-- THE TIED CARD OF 'laws.FnExactParseMonth'. -/
def fnExactParseMonthCard : Claim7 := { stood := { row := fnExactParseMonthRow, standIns := [], harness := (true, "a7219c72d878860b9abf9208a74da7d40515aee927cf7b3e33641c897d96786e"), looks := false }, kinds := [], alts := [], laidByText := true, laidKinds := [.data], laidTests := true, laidLooks := .later }
def FnExactParseMonthCardSaid : Prop := Claim7.holds Tryd.pinned (.plain (OpenSpec.ofChange fnExactParseMonthSpec)) fnExactParseMonthCard

/-- THE SECOND FORM's CARD OF 'laws.FnMonths'. -/
def fnMonthsUptoCard : Claim7 := { stood := { row := fnMonthsUptoRow, standIns := [], harness := (true, "a7219c72d878860b9abf9208a74da7d40515aee927cf7b3e33641c897d96786e"), looks := false }, kinds := [], alts := [], laidByText := true, laidKinds := [.data, .data, .data, .data], laidTests := true, laidLooks := .later }
def FnMonthsUptoCardSaid : Prop := Claim7.holds Tryd.pinned (.plain (OpenSpec.upto fnMonthsSpec)) fnMonthsUptoCard

/-- THE SECOND FORM's CARD OF 'laws.FnExactMonthText'. -/
def fnExactMonthTextUptoCard : Claim7 := { stood := { row := fnExactMonthTextUptoRow, standIns := [], harness := (true, "a7219c72d878860b9abf9208a74da7d40515aee927cf7b3e33641c897d96786e"), looks := false }, kinds := [], alts := [], laidByText := true, laidKinds := [.data, .data, .data, .data], laidTests := true, laidLooks := .later }
def FnExactMonthTextUptoCardSaid : Prop := Claim7.holds Tryd.pinned (.plain (OpenSpec.upto fnExactMonthTextSpec)) fnExactMonthTextUptoCard

/-- THE SECOND FORM's CARD OF 'laws.FnExactParseMonth'. -/
def fnExactParseMonthUptoCard : Claim7 := { stood := { row := fnExactParseMonthUptoRow, standIns := [], harness := (true, "a7219c72d878860b9abf9208a74da7d40515aee927cf7b3e33641c897d96786e"), looks := false }, kinds := [], alts := [], laidByText := true, laidKinds := [.data], laidTests := true, laidLooks := .later }
def FnExactParseMonthUptoCardSaid : Prop := Claim7.holds Tryd.pinned (.plain (OpenSpec.upto fnExactParseMonthSpec)) fnExactParseMonthUptoCard
end Rows
end Go.Proofs.YtlbpopmgadomoaaDoor
