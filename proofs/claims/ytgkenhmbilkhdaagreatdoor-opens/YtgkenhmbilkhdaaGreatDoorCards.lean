/-
  DERIVED. GIVEN WITH THE SEED: THE CARDS: each row of YtgkenhmbilkhdaaGreatDoorRows.lean that lists a variable, with what it lists TIED to the program's text (the seventh form; the later family's looks); each row that meets fmt, with fmt's text TOLD by the authors' own Lean function (tested against real Go, not proved from fmt's source: count such statements apart). THE CARD IS WHAT COUNTS. Prove the row's statement (the work); the ties are given (YtgkenhmbilkhdaaGreatDoorTie.lean); close each card by the builder's one call (the guide's Derived/Test/ToyasCard.lean, 'card_holds'). Laid BY PROGRAM, IN A SANDBOX (cutbox-door.mjs). By AI agents, Wed Nov 11 2026. No macro, syntax, notation, axiom, sorry.
-/
import Derived.Test.YtgkenhmbilkhdaaGreatDoorRows
import GoSem.ClaimSeven
namespace Go.Proofs.YtgkenhmbilkhdaaGreatDoor
namespace Rows

/-- THE TIED CARD OF 'flacpairlaw.Refused'. -/
def refusedCard : Claim7 := { stood := { row := refusedRow, standIns := [], harness := (true, "933b7f868797b051fbf7a32726df3b8c23fdb69837141914d5060e3a98a2084f"), looks := true }, kinds := [], alts := [], laidByText := true, laidKinds := [.handle, .data, .data], laidTests := true, laidLooks := .later }
def RefusedCardSaid : Prop := Claim7.holds Tryz.pinned (.plain (OpenSpec.ofChange refusedSpec)) refusedCard

/-- THE TIED CARD OF 'flacpairlaw.Bits'. -/
def bitsCard : Claim7 := { stood := { row := bitsRow, standIns := [], harness := (true, "933b7f868797b051fbf7a32726df3b8c23fdb69837141914d5060e3a98a2084f"), looks := true }, kinds := [], alts := [], laidByText := true, laidKinds := [.handle], laidTests := true, laidLooks := .later }
def BitsCardSaid : Prop := Claim7.holds Tryz.pinned (.plain (OpenSpec.ofChange bitsSpec)) bitsCard

/-- THE TIED CARD OF 'flacpairlaw.Opens'. -/
def opensCard : Claim7 := { stood := { row := opensRow, standIns := [], harness := (true, "933b7f868797b051fbf7a32726df3b8c23fdb69837141914d5060e3a98a2084f"), looks := true }, kinds := [], alts := [], laidByText := true, laidKinds := [.handle], laidTests := true, laidLooks := .later }
def OpensCardSaid : Prop := Claim7.holds Tryz.pinned (.plain (OpenSpec.ofChange opensSpec)) opensCard

/-- THE TIED CARD OF 'flacpairlaw.Slow'. -/
def slowCard : Claim7 := { stood := { row := slowRow, standIns := [], harness := (true, "933b7f868797b051fbf7a32726df3b8c23fdb69837141914d5060e3a98a2084f"), looks := true }, kinds := [], alts := [], laidByText := true, laidKinds := [.handle], laidTests := true, laidLooks := .later }
def SlowCardSaid : Prop := Claim7.holds Tryz.pinned (.plain (OpenSpec.ofChange slowSpec)) slowCard

/-- THE TIED CARD OF 'flacpairlaw.Fast'. -/
def fastCard : Claim7 := { stood := { row := fastRow, standIns := [], harness := (true, "933b7f868797b051fbf7a32726df3b8c23fdb69837141914d5060e3a98a2084f"), looks := true }, kinds := [], alts := [], laidByText := true, laidKinds := [.handle], laidTests := true, laidLooks := .later }
def FastCardSaid : Prop := Claim7.holds Tryz.pinned (.plain (OpenSpec.ofChange fastSpec)) fastCard

/-- THE TIED CARD OF 'flacpairlaw.All'. -/
def allCard : Claim7 := { stood := { row := allRow, standIns := [], harness := (true, "933b7f868797b051fbf7a32726df3b8c23fdb69837141914d5060e3a98a2084f"), looks := true }, kinds := [], alts := [], laidByText := true, laidKinds := [.handle], laidTests := true, laidLooks := .later }
def AllCardSaid : Prop := Claim7.holds Tryz.pinned (.plain (OpenSpec.ofChange allSpec)) allCard

/-- THE TIED CARD OF 'flacpairkeep.Known'. -/
def knownCard : Claim7 := { stood := { row := knownRow, standIns := [], harness := (true, "933b7f868797b051fbf7a32726df3b8c23fdb69837141914d5060e3a98a2084f"), looks := true }, kinds := [], alts := [], laidByText := true, laidKinds := [.handle, .data, .data], laidTests := true, laidLooks := .later }
def KnownCardSaid : Prop := Claim7.holds Tryz.pinned (.plain (OpenSpec.ofChange knownSpec)) knownCard

/-- THE TIED CARD OF 'flacpairkeep.Same'. -/
def sameCard : Claim7 := { stood := { row := sameRow, standIns := [], harness := (true, "933b7f868797b051fbf7a32726df3b8c23fdb69837141914d5060e3a98a2084f"), looks := true }, kinds := [], alts := [], laidByText := true, laidKinds := [.handle], laidTests := true, laidLooks := .later }
def SameCardSaid : Prop := Claim7.holds Tryz.pinned (.plain (OpenSpec.ofChange sameSpec)) sameCard

/-- THE TIED CARD OF 'flacpairkeep.Pieces'. -/
def piecesCard : Claim7 := { stood := { row := piecesRow, standIns := [], harness := (true, "933b7f868797b051fbf7a32726df3b8c23fdb69837141914d5060e3a98a2084f"), looks := true }, kinds := [], alts := [], laidByText := true, laidKinds := [.handle], laidTests := true, laidLooks := .later }
def PiecesCardSaid : Prop := Claim7.holds Tryz.pinned (.plain (OpenSpec.ofChange piecesSpec)) piecesCard

/-- THE TIED CARD OF 'flacpairkeep.Back'. -/
def backCard : Claim7 := { stood := { row := backRow, standIns := [], harness := (true, "933b7f868797b051fbf7a32726df3b8c23fdb69837141914d5060e3a98a2084f"), looks := true }, kinds := [], alts := [], laidByText := true, laidKinds := [.handle], laidTests := true, laidLooks := .later }
def BackCardSaid : Prop := Claim7.holds Tryz.pinned (.plain (OpenSpec.ofChange backSpec)) backCard

/-- THE TIED CARD OF 'flacpairkeep.Cut'. -/
def cutCard : Claim7 := { stood := { row := cutRow, standIns := [], harness := (true, "933b7f868797b051fbf7a32726df3b8c23fdb69837141914d5060e3a98a2084f"), looks := true }, kinds := [], alts := [], laidByText := true, laidKinds := [.handle], laidTests := true, laidLooks := .later }
def CutCardSaid : Prop := Claim7.holds Tryz.pinned (.plain (OpenSpec.ofChange cutSpec)) cutCard

/-- THE SECOND FORM's CARD OF 'flacpairlaw.Refused'. -/
def refusedUptoCard : Claim7 := { stood := { row := refusedUptoRow, standIns := [], harness := (true, "933b7f868797b051fbf7a32726df3b8c23fdb69837141914d5060e3a98a2084f"), looks := true }, kinds := [], alts := [], laidByText := true, laidKinds := [.handle, .data, .data], laidTests := true, laidLooks := .later }
def RefusedUptoCardSaid : Prop := Claim7.holds Tryz.pinned (.plain (OpenSpec.upto refusedSpec)) refusedUptoCard

/-- THE SECOND FORM's CARD OF 'flacpairlaw.Bits'. -/
def bitsUptoCard : Claim7 := { stood := { row := bitsUptoRow, standIns := [], harness := (true, "933b7f868797b051fbf7a32726df3b8c23fdb69837141914d5060e3a98a2084f"), looks := true }, kinds := [], alts := [], laidByText := true, laidKinds := [.handle], laidTests := true, laidLooks := .later }
def BitsUptoCardSaid : Prop := Claim7.holds Tryz.pinned (.plain (OpenSpec.upto bitsSpec)) bitsUptoCard

/-- THE SECOND FORM's CARD OF 'flacpairlaw.Opens'. -/
def opensUptoCard : Claim7 := { stood := { row := opensUptoRow, standIns := [], harness := (true, "933b7f868797b051fbf7a32726df3b8c23fdb69837141914d5060e3a98a2084f"), looks := true }, kinds := [], alts := [], laidByText := true, laidKinds := [.handle], laidTests := true, laidLooks := .later }
def OpensUptoCardSaid : Prop := Claim7.holds Tryz.pinned (.plain (OpenSpec.upto opensSpec)) opensUptoCard

/-- THE SECOND FORM's CARD OF 'flacpairlaw.Slow'. -/
def slowUptoCard : Claim7 := { stood := { row := slowUptoRow, standIns := [], harness := (true, "933b7f868797b051fbf7a32726df3b8c23fdb69837141914d5060e3a98a2084f"), looks := true }, kinds := [], alts := [], laidByText := true, laidKinds := [.handle], laidTests := true, laidLooks := .later }
def SlowUptoCardSaid : Prop := Claim7.holds Tryz.pinned (.plain (OpenSpec.upto slowSpec)) slowUptoCard

/-- THE SECOND FORM's CARD OF 'flacpairlaw.Fast'. -/
def fastUptoCard : Claim7 := { stood := { row := fastUptoRow, standIns := [], harness := (true, "933b7f868797b051fbf7a32726df3b8c23fdb69837141914d5060e3a98a2084f"), looks := true }, kinds := [], alts := [], laidByText := true, laidKinds := [.handle], laidTests := true, laidLooks := .later }
def FastUptoCardSaid : Prop := Claim7.holds Tryz.pinned (.plain (OpenSpec.upto fastSpec)) fastUptoCard

/-- THE SECOND FORM's CARD OF 'flacpairlaw.All'. -/
def allUptoCard : Claim7 := { stood := { row := allUptoRow, standIns := [], harness := (true, "933b7f868797b051fbf7a32726df3b8c23fdb69837141914d5060e3a98a2084f"), looks := true }, kinds := [], alts := [], laidByText := true, laidKinds := [.handle], laidTests := true, laidLooks := .later }
def AllUptoCardSaid : Prop := Claim7.holds Tryz.pinned (.plain (OpenSpec.upto allSpec)) allUptoCard

/-- THE SECOND FORM's CARD OF 'flacpairkeep.Known'. -/
def knownUptoCard : Claim7 := { stood := { row := knownUptoRow, standIns := [], harness := (true, "933b7f868797b051fbf7a32726df3b8c23fdb69837141914d5060e3a98a2084f"), looks := true }, kinds := [], alts := [], laidByText := true, laidKinds := [.handle, .data, .data], laidTests := true, laidLooks := .later }
def KnownUptoCardSaid : Prop := Claim7.holds Tryz.pinned (.plain (OpenSpec.upto knownSpec)) knownUptoCard

/-- THE SECOND FORM's CARD OF 'flacpairkeep.Same'. -/
def sameUptoCard : Claim7 := { stood := { row := sameUptoRow, standIns := [], harness := (true, "933b7f868797b051fbf7a32726df3b8c23fdb69837141914d5060e3a98a2084f"), looks := true }, kinds := [], alts := [], laidByText := true, laidKinds := [.handle], laidTests := true, laidLooks := .later }
def SameUptoCardSaid : Prop := Claim7.holds Tryz.pinned (.plain (OpenSpec.upto sameSpec)) sameUptoCard

/-- THE SECOND FORM's CARD OF 'flacpairkeep.Pieces'. -/
def piecesUptoCard : Claim7 := { stood := { row := piecesUptoRow, standIns := [], harness := (true, "933b7f868797b051fbf7a32726df3b8c23fdb69837141914d5060e3a98a2084f"), looks := true }, kinds := [], alts := [], laidByText := true, laidKinds := [.handle], laidTests := true, laidLooks := .later }
def PiecesUptoCardSaid : Prop := Claim7.holds Tryz.pinned (.plain (OpenSpec.upto piecesSpec)) piecesUptoCard

/-- THE SECOND FORM's CARD OF 'flacpairkeep.Back'. -/
def backUptoCard : Claim7 := { stood := { row := backUptoRow, standIns := [], harness := (true, "933b7f868797b051fbf7a32726df3b8c23fdb69837141914d5060e3a98a2084f"), looks := true }, kinds := [], alts := [], laidByText := true, laidKinds := [.handle], laidTests := true, laidLooks := .later }
def BackUptoCardSaid : Prop := Claim7.holds Tryz.pinned (.plain (OpenSpec.upto backSpec)) backUptoCard

/-- THE SECOND FORM's CARD OF 'flacpairkeep.Cut'. -/
def cutUptoCard : Claim7 := { stood := { row := cutUptoRow, standIns := [], harness := (true, "933b7f868797b051fbf7a32726df3b8c23fdb69837141914d5060e3a98a2084f"), looks := true }, kinds := [], alts := [], laidByText := true, laidKinds := [.handle], laidTests := true, laidLooks := .later }
def CutUptoCardSaid : Prop := Claim7.holds Tryz.pinned (.plain (OpenSpec.upto cutSpec)) cutUptoCard
end Rows
end Go.Proofs.YtgkenhmbilkhdaaGreatDoor
