/-
  DERIVED. GIVEN WITH THE SEED: THE CARDS: each row of YtlonjkpnhdfjiaaDoorRows.lean that lists a variable, with what it lists TIED to the program's text (the seventh form; the later family's looks); each row that meets fmt, with fmt's text TOLD by the authors' own Lean function (tested against real Go, not proved from fmt's source: count such statements apart). THE CARD IS WHAT COUNTS. Prove the row's statement (the work); the ties are given (YtlonjkpnhdfjiaaDoorTie.lean); close each card by the builder's one call (the guide's Derived/Test/ToyasCard.lean, 'card_holds'). Laid BY PROGRAM, IN A SANDBOX (cutbox-door.mjs). By AI agents, Wed Nov 11 2026. No macro, syntax, notation, axiom, sorry.
-/
import Derived.Test.YtlonjkpnhdfjiaaDoorRows
import GoSem.ClaimSeven
namespace Go.Proofs.YtlonjkpnhdfjiaaDoor
namespace Rows

/-- THE TIED CARD OF 'flacpairlaw.Refused'. -/
def refusedCard : Claim7 := { stood := { row := refusedRow, standIns := [], harness := (true, "36297bbbc0042aae0d54ac5fa3cf2d40e0f080a9da441a462e61d2f9d8f699d8"), looks := true }, kinds := [], alts := [], laidByText := true, laidKinds := [.handle, .data, .data], laidTests := true, laidLooks := .later }
def RefusedCardSaid : Prop := Claim7.holds Tryd.pinned (.plain (OpenSpec.ofChange refusedSpec)) refusedCard

/-- THE TIED CARD OF 'flacpairlaw.Sums'. -/
def sumsCard : Claim7 := { stood := { row := sumsRow, standIns := [], harness := (true, "36297bbbc0042aae0d54ac5fa3cf2d40e0f080a9da441a462e61d2f9d8f699d8"), looks := true }, kinds := [], alts := [], laidByText := true, laidKinds := [.handle, .data, .data], laidTests := true, laidLooks := .later }
def SumsCardSaid : Prop := Claim7.holds Tryd.pinned (.plain (OpenSpec.ofChange sumsSpec)) sumsCard

/-- THE TIED CARD OF 'flacpairlaw.Bits'. -/
def bitsCard : Claim7 := { stood := { row := bitsRow, standIns := [], harness := (true, "36297bbbc0042aae0d54ac5fa3cf2d40e0f080a9da441a462e61d2f9d8f699d8"), looks := true }, kinds := [], alts := [], laidByText := true, laidKinds := [.handle], laidTests := true, laidLooks := .later }
def BitsCardSaid : Prop := Claim7.holds Tryd.pinned (.plain (OpenSpec.ofChange bitsSpec)) bitsCard

/-- THE SECOND FORM's CARD OF 'flacpairlaw.Refused'. -/
def refusedUptoCard : Claim7 := { stood := { row := refusedUptoRow, standIns := [], harness := (true, "36297bbbc0042aae0d54ac5fa3cf2d40e0f080a9da441a462e61d2f9d8f699d8"), looks := true }, kinds := [], alts := [], laidByText := true, laidKinds := [.handle, .data, .data], laidTests := true, laidLooks := .later }
def RefusedUptoCardSaid : Prop := Claim7.holds Tryd.pinned (.plain (OpenSpec.upto refusedSpec)) refusedUptoCard

/-- THE SECOND FORM's CARD OF 'flacpairlaw.Sums'. -/
def sumsUptoCard : Claim7 := { stood := { row := sumsUptoRow, standIns := [], harness := (true, "36297bbbc0042aae0d54ac5fa3cf2d40e0f080a9da441a462e61d2f9d8f699d8"), looks := true }, kinds := [], alts := [], laidByText := true, laidKinds := [.handle, .data, .data], laidTests := true, laidLooks := .later }
def SumsUptoCardSaid : Prop := Claim7.holds Tryd.pinned (.plain (OpenSpec.upto sumsSpec)) sumsUptoCard

/-- THE SECOND FORM's CARD OF 'flacpairlaw.Bits'. -/
def bitsUptoCard : Claim7 := { stood := { row := bitsUptoRow, standIns := [], harness := (true, "36297bbbc0042aae0d54ac5fa3cf2d40e0f080a9da441a462e61d2f9d8f699d8"), looks := true }, kinds := [], alts := [], laidByText := true, laidKinds := [.handle], laidTests := true, laidLooks := .later }
def BitsUptoCardSaid : Prop := Claim7.holds Tryd.pinned (.plain (OpenSpec.upto bitsSpec)) bitsUptoCard
end Rows
end Go.Proofs.YtlonjkpnhdfjiaaDoor
