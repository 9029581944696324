/-
  DERIVED. GIVEN WITH THE SEED: THE CARDS: each row of YtboeokmaepchgaaGreatDoorRows.lean that lists a variable, with what it lists TIED to the program's text (the seventh form; the later family's looks); each row that meets fmt, with fmt's text TOLD by the authors' own Lean function (tested against real Go, not proved from fmt's source: count such statements apart). THE CARD IS WHAT COUNTS. Prove the row's statement (the work); the ties are given (YtboeokmaepchgaaGreatDoorTie.lean); close each card by the builder's one call (the guide's Derived/Test/ToyasCard.lean, 'card_holds'). Laid BY PROGRAM, IN A SANDBOX (cutbox-door.mjs). By AI agents, Wed Nov 11 2026. No macro, syntax, notation, axiom, sorry.
-/
import Derived.Test.YtboeokmaepchgaaGreatDoorRows
import GoSem.ClaimSeven
namespace Go.Proofs.YtboeokmaepchgaaGreatDoor
namespace Rows

/-- THE TIED CARD OF 'conclavelaw10.TrieCompact'. -/
def trieCompactCard : Claim7 := { stood := { row := trieCompactRow, standIns := [], harness := (true, "9347d8c77b3176e60e4521d545de92e86fe0057d0de7de553f1a7759b7b8b7a7"), looks := true }, kinds := [], alts := [], laidByText := true, laidKinds := [.data], laidTests := true, laidLooks := .later }
def TrieCompactCardSaid : Prop := Claim7.holds Tryz.pinned (.plain (OpenSpec.ofChange trieCompactSpec)) trieCompactCard

/-- THE TIED CARD OF 'conclavelaw11.StateNils'. -/
def stateNilsCard : Claim7 := { stood := { row := stateNilsRow, standIns := [], harness := (true, "9347d8c77b3176e60e4521d545de92e86fe0057d0de7de553f1a7759b7b8b7a7"), looks := true }, kinds := [], alts := [], laidByText := true, laidKinds := [.data], laidTests := true, laidLooks := .later }
def StateNilsCardSaid : Prop := Claim7.holds Tryz.pinned (.plain (OpenSpec.ofChange stateNilsSpec)) stateNilsCard

/-- THE SECOND FORM's CARD OF 'conclavelaw10.TrieCompact'. -/
def trieCompactUptoCard : Claim7 := { stood := { row := trieCompactUptoRow, standIns := [], harness := (true, "9347d8c77b3176e60e4521d545de92e86fe0057d0de7de553f1a7759b7b8b7a7"), looks := true }, kinds := [], alts := [], laidByText := true, laidKinds := [.data], laidTests := true, laidLooks := .later }
def TrieCompactUptoCardSaid : Prop := Claim7.holds Tryz.pinned (.plain (OpenSpec.upto trieCompactSpec)) trieCompactUptoCard

/-- THE SECOND FORM's CARD OF 'conclavelaw11.StateNils'. -/
def stateNilsUptoCard : Claim7 := { stood := { row := stateNilsUptoRow, standIns := [], harness := (true, "9347d8c77b3176e60e4521d545de92e86fe0057d0de7de553f1a7759b7b8b7a7"), looks := true }, kinds := [], alts := [], laidByText := true, laidKinds := [.data], laidTests := true, laidLooks := .later }
def StateNilsUptoCardSaid : Prop := Claim7.holds Tryz.pinned (.plain (OpenSpec.upto stateNilsSpec)) stateNilsUptoCard
end Rows
end Go.Proofs.YtboeokmaepchgaaGreatDoor
