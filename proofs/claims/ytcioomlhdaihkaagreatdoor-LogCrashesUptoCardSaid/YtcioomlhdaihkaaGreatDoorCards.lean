/-
  DERIVED. GIVEN WITH THE SEED: THE CARDS: each row of YtcioomlhdaihkaaGreatDoorRows.lean that lists a variable, with what it lists TIED to the program's text (the seventh form; the later family's looks); each row that meets fmt, with fmt's text TOLD by the authors' own Lean function (tested against real Go, not proved from fmt's source: count such statements apart). THE CARD IS WHAT COUNTS. Prove the row's statement (the work); the ties are given (YtcioomlhdaihkaaGreatDoorTie.lean); close each card by the builder's one call (the guide's Derived/Test/ToyasCard.lean, 'card_holds'). Laid BY PROGRAM, IN A SANDBOX (cutbox-door.mjs). By AI agents, Wed Nov 11 2026. No macro, syntax, notation, axiom, sorry.
-/
import Derived.Test.YtcioomlhdaihkaaGreatDoorRows
import GoSem.ClaimSeven
namespace Go.Proofs.YtcioomlhdaihkaaGreatDoor
namespace Rows

/-- THE TIED CARD OF 'tranterlaw09.LogCrashes'. -/
def logCrashesCard : Claim7 := { stood := { row := logCrashesRow, standIns := [], harness := (true, "a7cbc994d5338d721ccf844701a1962c9a2a77aacff0a1a3ab47fc1f1384df08"), looks := true }, kinds := [], alts := [], laidByText := true, laidKinds := [.data, .data, .data, .data, .sentinel, .sentinel, .pinned], laidTests := true, laidLooks := .later }
def LogCrashesCardSaid : Prop := Claim7.holds Tryz.pinned (.plain (OpenSpec.ofChange logCrashesSpec)) logCrashesCard

/-- THE TIED CARD OF 'tranterlaw09.LogLimits'. -/
def logLimitsCard : Claim7 := { stood := { row := logLimitsRow, standIns := [], harness := (true, "a7cbc994d5338d721ccf844701a1962c9a2a77aacff0a1a3ab47fc1f1384df08"), looks := true }, kinds := [], alts := [], laidByText := true, laidKinds := [.data, .data, .data, .data, .sentinel, .sentinel, .pinned], laidTests := true, laidLooks := .later }
def LogLimitsCardSaid : Prop := Claim7.holds Tryz.pinned (.plain (OpenSpec.ofChange logLimitsSpec)) logLimitsCard

/-- THE TIED CARD OF 'tranterlaw09.LogNone'. -/
def logNoneCard : Claim7 := { stood := { row := logNoneRow, standIns := [], harness := (true, "a7cbc994d5338d721ccf844701a1962c9a2a77aacff0a1a3ab47fc1f1384df08"), looks := true }, kinds := [], alts := [], laidByText := true, laidKinds := [.data, .data, .data, .data, .sentinel, .sentinel, .pinned], laidTests := true, laidLooks := .later }
def LogNoneCardSaid : Prop := Claim7.holds Tryz.pinned (.plain (OpenSpec.ofChange logNoneSpec)) logNoneCard

/-- THE TIED CARD OF 'tranterlaw09.LogSnaps'. -/
def logSnapsCard : Claim7 := { stood := { row := logSnapsRow, standIns := [], harness := (true, "a7cbc994d5338d721ccf844701a1962c9a2a77aacff0a1a3ab47fc1f1384df08"), looks := true }, kinds := [], alts := [], laidByText := true, laidKinds := [.data, .data, .data, .data, .sentinel, .sentinel, .pinned], laidTests := true, laidLooks := .later }
def LogSnapsCardSaid : Prop := Claim7.holds Tryz.pinned (.plain (OpenSpec.ofChange logSnapsSpec)) logSnapsCard

/-- THE SECOND FORM's CARD OF 'tranterlaw09.LogCrashes'. -/
def logCrashesUptoCard : Claim7 := { stood := { row := logCrashesUptoRow, standIns := [], harness := (true, "a7cbc994d5338d721ccf844701a1962c9a2a77aacff0a1a3ab47fc1f1384df08"), looks := true }, kinds := [], alts := [], laidByText := true, laidKinds := [.data, .data, .data, .data, .sentinel, .sentinel, .pinned], laidTests := true, laidLooks := .later }
def LogCrashesUptoCardSaid : Prop := Claim7.holds Tryz.pinned (.plain (OpenSpec.upto logCrashesSpec)) logCrashesUptoCard

/-- THE SECOND FORM's CARD OF 'tranterlaw09.LogLimits'. -/
def logLimitsUptoCard : Claim7 := { stood := { row := logLimitsUptoRow, standIns := [], harness := (true, "a7cbc994d5338d721ccf844701a1962c9a2a77aacff0a1a3ab47fc1f1384df08"), looks := true }, kinds := [], alts := [], laidByText := true, laidKinds := [.data, .data, .data, .data, .sentinel, .sentinel, .pinned], laidTests := true, laidLooks := .later }
def LogLimitsUptoCardSaid : Prop := Claim7.holds Tryz.pinned (.plain (OpenSpec.upto logLimitsSpec)) logLimitsUptoCard

/-- THE SECOND FORM's CARD OF 'tranterlaw09.LogNone'. -/
def logNoneUptoCard : Claim7 := { stood := { row := logNoneUptoRow, standIns := [], harness := (true, "a7cbc994d5338d721ccf844701a1962c9a2a77aacff0a1a3ab47fc1f1384df08"), looks := true }, kinds := [], alts := [], laidByText := true, laidKinds := [.data, .data, .data, .data, .sentinel, .sentinel, .pinned], laidTests := true, laidLooks := .later }
def LogNoneUptoCardSaid : Prop := Claim7.holds Tryz.pinned (.plain (OpenSpec.upto logNoneSpec)) logNoneUptoCard

/-- THE SECOND FORM's CARD OF 'tranterlaw09.LogSnaps'. -/
def logSnapsUptoCard : Claim7 := { stood := { row := logSnapsUptoRow, standIns := [], harness := (true, "a7cbc994d5338d721ccf844701a1962c9a2a77aacff0a1a3ab47fc1f1384df08"), looks := true }, kinds := [], alts := [], laidByText := true, laidKinds := [.data, .data, .data, .data, .sentinel, .sentinel, .pinned], laidTests := true, laidLooks := .later }
def LogSnapsUptoCardSaid : Prop := Claim7.holds Tryz.pinned (.plain (OpenSpec.upto logSnapsSpec)) logSnapsUptoCard
end Rows
end Go.Proofs.YtcioomlhdaihkaaGreatDoor
