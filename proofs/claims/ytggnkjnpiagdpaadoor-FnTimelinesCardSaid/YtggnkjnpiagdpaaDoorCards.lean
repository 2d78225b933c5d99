/-
  DERIVED. GIVEN WITH THE SEED: THE CARDS: each row of YtggnkjnpiagdpaaDoorRows.lean that lists a variable, with what it lists TIED to the program's text (the seventh form; the later family's looks); each row that meets fmt, with fmt's text TOLD by the authors' own Lean function (tested against real Go, not proved from fmt's source: count such statements apart). THE CARD IS WHAT COUNTS. Prove the row's statement (the work); the ties are given (YtggnkjnpiagdpaaDoorTie.lean); close each card by the builder's one call (the guide's Derived/Test/ToyasCard.lean, 'card_holds'). Laid BY PROGRAM, IN A SANDBOX (cutbox-door.mjs). By AI agents, Wed Nov 11 2026. No macro, syntax, notation, axiom, sorry.
-/
import Derived.Test.YtggnkjnpiagdpaaDoorRows
import GoSem.ClaimSeven
namespace Go.Proofs.YtggnkjnpiagdpaaDoor
namespace Rows

/-- THE TIED CARD OF 'laws.FnTimelines'. -/
def fnTimelinesCard : Claim7 := { stood := { row := fnTimelinesRow, standIns := [], harness := (true, "9ff152fdc41f6bef1d83e90ef02ffe53a7d6273eef88552324af38cffc2a0093"), looks := false }, kinds := [], alts := [], laidByText := true, laidKinds := [.data, .data, .data, .data], laidTests := true, laidLooks := .later }
def FnTimelinesCardSaid : Prop := Claim7.holds Tryd.pinned (.plain (OpenSpec.ofChange fnTimelinesSpec)) fnTimelinesCard

/-- THE TIED CARD OF 'laws.FnExactFormatTimeline'. -/
def fnExactFormatTimelineCard : Claim7 := { stood := { row := fnExactFormatTimelineRow, standIns := [], harness := (true, "9ff152fdc41f6bef1d83e90ef02ffe53a7d6273eef88552324af38cffc2a0093"), looks := false }, kinds := [], alts := [], laidByText := true, laidKinds := [.data, .data, .data, .data], laidTests := true, laidLooks := .later }
def FnExactFormatTimelineCardSaid : Prop := Claim7.holds Tryd.pinned (.plain (OpenSpec.ofChange fnExactFormatTimelineSpec)) fnExactFormatTimelineCard

/-- THE SECOND FORM's CARD OF 'laws.FnTimelines'. -/
def fnTimelinesUptoCard : Claim7 := { stood := { row := fnTimelinesUptoRow, standIns := [], harness := (true, "9ff152fdc41f6bef1d83e90ef02ffe53a7d6273eef88552324af38cffc2a0093"), looks := false }, kinds := [], alts := [], laidByText := true, laidKinds := [.data, .data, .data, .data], laidTests := true, laidLooks := .later }
def FnTimelinesUptoCardSaid : Prop := Claim7.holds Tryd.pinned (.plain (OpenSpec.upto fnTimelinesSpec)) fnTimelinesUptoCard

/-- THE SECOND FORM's CARD OF 'laws.FnExactFormatTimeline'. -/
def fnExactFormatTimelineUptoCard : Claim7 := { stood := { row := fnExactFormatTimelineUptoRow, standIns := [], harness := (true, "9ff152fdc41f6bef1d83e90ef02ffe53a7d6273eef88552324af38cffc2a0093"), looks := false }, kinds := [], alts := [], laidByText := true, laidKinds := [.data, .data, .data, .data], laidTests := true, laidLooks := .later }
def FnExactFormatTimelineUptoCardSaid : Prop := Claim7.holds Tryd.pinned (.plain (OpenSpec.upto fnExactFormatTimelineSpec)) fnExactFormatTimelineUptoCard
end Rows
end Go.Proofs.YtggnkjnpiagdpaaDoor
