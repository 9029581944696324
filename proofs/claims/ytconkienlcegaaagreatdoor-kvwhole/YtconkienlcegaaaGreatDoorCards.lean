/-
  DERIVED. GIVEN WITH THE SEED: THE CARDS: each row of YtconkienlcegaaaGreatDoorRows.lean that lists a variable, with what it lists TIED to the program's text (the seventh form; the later family's looks); each row that meets fmt, with fmt's text TOLD by the authors' own Lean function (tested against real Go, not proved from fmt's source: count such statements apart). THE CARD IS WHAT COUNTS. Prove the row's statement (the work); the ties are given (YtconkienlcegaaaGreatDoorTie.lean); close each card by the builder's one call (the guide's Derived/Test/ToyasCard.lean, 'card_holds'). Laid BY PROGRAM, IN A SANDBOX (cutbox-door.mjs). By AI agents, Wed Nov 11 2026. No macro, syntax, notation, axiom, sorry.
-/
import Derived.Test.YtconkienlcegaaaGreatDoorRows
import GoSem.ClaimSeven
namespace Go.Proofs.YtconkienlcegaaaGreatDoor
namespace Rows

/-- THE TIED CARD OF 'conclavelaw09.KvPlays'. -/
def kvPlaysCard : Claim7 := { stood := { row := kvPlaysRow, standIns := [], harness := (true, "49c410f3f719463e06950b49ec01d3e402b37ef36cbc7a99a8577af2c44d58c4"), looks := true }, kinds := [], alts := [], laidByText := true, laidKinds := [.data, .data, .data, .sentinel, .sentinel, .data], laidTests := true, laidLooks := .later }
def KvPlaysCardSaid : Prop := Claim7.holds Tryz.pinned (.plain (OpenSpec.ofChange kvPlaysSpec)) kvPlaysCard

/-- THE TIED CARD OF 'conclavelaw09.KvBatches'. -/
def kvBatchesCard : Claim7 := { stood := { row := kvBatchesRow, standIns := [], harness := (true, "49c410f3f719463e06950b49ec01d3e402b37ef36cbc7a99a8577af2c44d58c4"), looks := true }, kinds := [], alts := [], laidByText := true, laidKinds := [.data, .data, .data, .sentinel, .sentinel, .data], laidTests := true, laidLooks := .later }
def KvBatchesCardSaid : Prop := Claim7.holds Tryz.pinned (.plain (OpenSpec.ofChange kvBatchesSpec)) kvBatchesCard

/-- THE TIED CARD OF 'conclavelaw09.KvOpens'. -/
def kvOpensCard : Claim7 := { stood := { row := kvOpensRow, standIns := [], harness := (true, "49c410f3f719463e06950b49ec01d3e402b37ef36cbc7a99a8577af2c44d58c4"), looks := true }, kinds := [], alts := [], laidByText := true, laidKinds := [.data, .data, .data, .sentinel, .sentinel, .data], laidTests := true, laidLooks := .later }
def KvOpensCardSaid : Prop := Claim7.holds Tryz.pinned (.plain (OpenSpec.ofChange kvOpensSpec)) kvOpensCard

/-- THE TIED CARD OF 'conclavelaw09.KvWhole'. -/
def kvWholeCard : Claim7 := { stood := { row := kvWholeRow, standIns := [], harness := (true, "49c410f3f719463e06950b49ec01d3e402b37ef36cbc7a99a8577af2c44d58c4"), looks := true }, kinds := [], alts := [], laidByText := true, laidKinds := [.data, .data, .data, .sentinel, .sentinel, .data], laidTests := true, laidLooks := .later }
def KvWholeCardSaid : Prop := Claim7.holds Tryz.pinned (.plain (OpenSpec.ofChange kvWholeSpec)) kvWholeCard

/-- THE TIED CARD OF 'conclavelaw09.KvBack'. -/
def kvBackCard : Claim7 := { stood := { row := kvBackRow, standIns := [], harness := (true, "49c410f3f719463e06950b49ec01d3e402b37ef36cbc7a99a8577af2c44d58c4"), looks := true }, kinds := [], alts := [], laidByText := true, laidKinds := [.data, .data, .data, .sentinel, .sentinel, .data], laidTests := true, laidLooks := .later }
def KvBackCardSaid : Prop := Claim7.holds Tryz.pinned (.plain (OpenSpec.ofChange kvBackSpec)) kvBackCard

/-- THE SECOND FORM's CARD OF 'conclavelaw09.KvPlays'. -/
def kvPlaysUptoCard : Claim7 := { stood := { row := kvPlaysUptoRow, standIns := [], harness := (true, "49c410f3f719463e06950b49ec01d3e402b37ef36cbc7a99a8577af2c44d58c4"), looks := true }, kinds := [], alts := [], laidByText := true, laidKinds := [.data, .data, .data, .sentinel, .sentinel, .data], laidTests := true, laidLooks := .later }
def KvPlaysUptoCardSaid : Prop := Claim7.holds Tryz.pinned (.plain (OpenSpec.upto kvPlaysSpec)) kvPlaysUptoCard

/-- THE SECOND FORM's CARD OF 'conclavelaw09.KvBatches'. -/
def kvBatchesUptoCard : Claim7 := { stood := { row := kvBatchesUptoRow, standIns := [], harness := (true, "49c410f3f719463e06950b49ec01d3e402b37ef36cbc7a99a8577af2c44d58c4"), looks := true }, kinds := [], alts := [], laidByText := true, laidKinds := [.data, .data, .data, .sentinel, .sentinel, .data], laidTests := true, laidLooks := .later }
def KvBatchesUptoCardSaid : Prop := Claim7.holds Tryz.pinned (.plain (OpenSpec.upto kvBatchesSpec)) kvBatchesUptoCard

/-- THE SECOND FORM's CARD OF 'conclavelaw09.KvOpens'. -/
def kvOpensUptoCard : Claim7 := { stood := { row := kvOpensUptoRow, standIns := [], harness := (true, "49c410f3f719463e06950b49ec01d3e402b37ef36cbc7a99a8577af2c44d58c4"), looks := true }, kinds := [], alts := [], laidByText := true, laidKinds := [.data, .data, .data, .sentinel, .sentinel, .data], laidTests := true, laidLooks := .later }
def KvOpensUptoCardSaid : Prop := Claim7.holds Tryz.pinned (.plain (OpenSpec.upto kvOpensSpec)) kvOpensUptoCard

/-- THE SECOND FORM's CARD OF 'conclavelaw09.KvWhole'. -/
def kvWholeUptoCard : Claim7 := { stood := { row := kvWholeUptoRow, standIns := [], harness := (true, "49c410f3f719463e06950b49ec01d3e402b37ef36cbc7a99a8577af2c44d58c4"), looks := true }, kinds := [], alts := [], laidByText := true, laidKinds := [.data, .data, .data, .sentinel, .sentinel, .data], laidTests := true, laidLooks := .later }
def KvWholeUptoCardSaid : Prop := Claim7.holds Tryz.pinned (.plain (OpenSpec.upto kvWholeSpec)) kvWholeUptoCard

/-- THE SECOND FORM's CARD OF 'conclavelaw09.KvBack'. -/
def kvBackUptoCard : Claim7 := { stood := { row := kvBackUptoRow, standIns := [], harness := (true, "49c410f3f719463e06950b49ec01d3e402b37ef36cbc7a99a8577af2c44d58c4"), looks := true }, kinds := [], alts := [], laidByText := true, laidKinds := [.data, .data, .data, .sentinel, .sentinel, .data], laidTests := true, laidLooks := .later }
def KvBackUptoCardSaid : Prop := Claim7.holds Tryz.pinned (.plain (OpenSpec.upto kvBackSpec)) kvBackUptoCard
end Rows
end Go.Proofs.YtconkienlcegaaaGreatDoor
