/-
  NARROWER THAN 'FOR EVERY INPUT', by the rows' own cells (each row's printed sentence says how): KeccakPermutes: laid · KeccakUndoes: laid · KeccakSums: laid · KeccakParts: laid.
  DERIVED. THE GIVEN ROWS OF THIS SEAT. 4 by the template 'for every input the law returns true; each argument reads behind the call as it read before'; 0 by the template 'total and deterministic' (their statements: YtmhfgchckebnpaaDoorTotals.lean).
  GIVEN WITH THE SEED: the statements are not yours to turn. If you find one false, say at which input.
  Laid BY PROGRAM, IN A SANDBOX (cutbox-rows.mjs): the forced cells as the released guide's own fill.sh prints them over the translation 8c4c2f4b9c8017e4… (all of the seat's roots in one cut). By AI agents, Wed Nov 11 2026. No macro, syntax, notation, axiom, sorry.
-/
import Derived.Test.YtmhfgchckebnpaaDoorChecked
import GoSem.Claim
import GoSem.ClaimJoined
import GoSem.ClaimMapViews
import Derived.JoinedTies
import Derived.KernelRfl
namespace Go.Proofs.YtmhfgchckebnpaaDoor
/- THE CELL 'sum', in the pinned program and in every row, IS THE sha256 OF THE DUMP (.gsa) THAT YtmhfgchckebnpaaDoorProg.lean LOADS. Nothing in Lean hashes anything: it is a label: what it is worth is what the hold of that sum in a sandbox is worth. -/
noncomputable def Tryd.pinned : Pinned := { name := "ytmhfgchckebnpaadoor", sum := "8c4c2f4b9c8017e4c229420036b8769ecbf14c95e15804d52f809ada1d6cf4f4", checked := Tryd.checked }
namespace Rows
def none {H : Type} : Left H := { results := [], args := [] }

/- WHAT THE LISTED PACKAGE-LEVEL VARIABLES READ AS WHEN THE CALL BEGINS. Each datum BY PROGRAM (the guide's laid-datum.mjs) off the statement by which the dump's own 'gosem.cut.vars' lays the variable. In a bare row this is a premise. The card (YtmhfgchckebnpaaDoorCards.lean) ties it to the program's text. -/
def laid_conclave_keccak_path {H : Type} : DataW H := .agg [.lit (.int .u8 1), .lit (.int .u8 10), .lit (.int .u8 7), .lit (.int .u8 11), .lit (.int .u8 17), .lit (.int .u8 18), .lit (.int .u8 3), .lit (.int .u8 5), .lit (.int .u8 16), .lit (.int .u8 8), .lit (.int .u8 21), .lit (.int .u8 24), .lit (.int .u8 4), .lit (.int .u8 15), .lit (.int .u8 23), .lit (.int .u8 19), .lit (.int .u8 13), .lit (.int .u8 12), .lit (.int .u8 2), .lit (.int .u8 20), .lit (.int .u8 14), .lit (.int .u8 22), .lit (.int .u8 9), .lit (.int .u8 6), .lit (.int .u8 1)]

/-- 'conclavelaw02.KeccakPermutes': WHATEVER THE INPUT: true; the input reads as it did. -/
def keccakPermutesSpec : ChangeSpec := { name := "keccakPermutes", fn := fun _ => fun
  | [d] => { results := [.lit (.bool true)], args := [d] }
  | _ => none }
def keccakPermutesRow : OpenClaim := { program := "ytmhfgchckebnpaadoor", sum := "8c4c2f4b9c8017e4c229420036b8769ecbf14c95e15804d52f809ada1d6cf4f4", func := "conclave/conclavelaw02.KeccakPermutes", spec := "keccakPermutes", unfollowed := true, recurses := true, named := ["conclave/keccak.path"], apart := false, laid := [("conclave/keccak.path", laid_conclave_keccak_path)] }
def KeccakPermutesSaid : Prop := keccakPermutesRow.holds Tryd.pinned (OpenSpec.ofChange keccakPermutesSpec)

/-- ITS FALSE NEIGHBOUR: 'it returns false'. Refute it at one input. -/
def keccakPermutesWrong : ChangeSpec := { name := "keccakPermutes", fn := fun _ => fun
  | [d] => { results := [.lit (.bool false)], args := [d] }
  | _ => none }
def KeccakPermutesWrongFalsely : Prop := keccakPermutesRow.holds Tryd.pinned (OpenSpec.ofChange keccakPermutesWrong)

/-- 'conclavelaw02.KeccakUndoes': WHATEVER THE INPUT: true; the input reads as it did. -/
def keccakUndoesSpec : ChangeSpec := { name := "keccakUndoes", fn := fun _ => fun
  | [d] => { results := [.lit (.bool true)], args := [d] }
  | _ => none }
def keccakUndoesRow : OpenClaim := { program := "ytmhfgchckebnpaadoor", sum := "8c4c2f4b9c8017e4c229420036b8769ecbf14c95e15804d52f809ada1d6cf4f4", func := "conclave/conclavelaw02.KeccakUndoes", spec := "keccakUndoes", unfollowed := true, recurses := true, named := ["conclave/keccak.path"], apart := false, laid := [("conclave/keccak.path", laid_conclave_keccak_path)] }
def KeccakUndoesSaid : Prop := keccakUndoesRow.holds Tryd.pinned (OpenSpec.ofChange keccakUndoesSpec)

/-- ITS FALSE NEIGHBOUR: 'it returns false'. Refute it at one input. -/
def keccakUndoesWrong : ChangeSpec := { name := "keccakUndoes", fn := fun _ => fun
  | [d] => { results := [.lit (.bool false)], args := [d] }
  | _ => none }
def KeccakUndoesWrongFalsely : Prop := keccakUndoesRow.holds Tryd.pinned (OpenSpec.ofChange keccakUndoesWrong)

/-- 'conclavelaw02.KeccakSums': WHATEVER THE INPUT: true; the input reads as it did. -/
def keccakSumsSpec : ChangeSpec := { name := "keccakSums", fn := fun _ => fun
  | [d] => { results := [.lit (.bool true)], args := [d] }
  | _ => none }
def keccakSumsRow : OpenClaim := { program := "ytmhfgchckebnpaadoor", sum := "8c4c2f4b9c8017e4c229420036b8769ecbf14c95e15804d52f809ada1d6cf4f4", func := "conclave/conclavelaw02.KeccakSums", spec := "keccakSums", unfollowed := true, recurses := true, named := ["conclave/keccak.path"], apart := false, laid := [("conclave/keccak.path", laid_conclave_keccak_path)] }
def KeccakSumsSaid : Prop := keccakSumsRow.holds Tryd.pinned (OpenSpec.ofChange keccakSumsSpec)

/-- ITS FALSE NEIGHBOUR: 'it returns false'. Refute it at one input. -/
def keccakSumsWrong : ChangeSpec := { name := "keccakSums", fn := fun _ => fun
  | [d] => { results := [.lit (.bool false)], args := [d] }
  | _ => none }
def KeccakSumsWrongFalsely : Prop := keccakSumsRow.holds Tryd.pinned (OpenSpec.ofChange keccakSumsWrong)

/-- 'conclavelaw02.KeccakParts': WHATEVER THE INPUT: true; the input reads as it did. -/
def keccakPartsSpec : ChangeSpec := { name := "keccakParts", fn := fun _ => fun
  | [d] => { results := [.lit (.bool true)], args := [d] }
  | _ => none }
def keccakPartsRow : OpenClaim := { program := "ytmhfgchckebnpaadoor", sum := "8c4c2f4b9c8017e4c229420036b8769ecbf14c95e15804d52f809ada1d6cf4f4", func := "conclave/conclavelaw02.KeccakParts", spec := "keccakParts", unfollowed := true, recurses := true, named := ["conclave/keccak.path"], apart := false, laid := [("conclave/keccak.path", laid_conclave_keccak_path)] }
def KeccakPartsSaid : Prop := keccakPartsRow.holds Tryd.pinned (OpenSpec.ofChange keccakPartsSpec)

/-- ITS FALSE NEIGHBOUR: 'it returns false'. Refute it at one input. -/
def keccakPartsWrong : ChangeSpec := { name := "keccakParts", fn := fun _ => fun
  | [d] => { results := [.lit (.bool false)], args := [d] }
  | _ => none }
def KeccakPartsWrongFalsely : Prop := keccakPartsRow.holds Tryd.pinned (OpenSpec.ofChange keccakPartsWrong)

/- THE SECOND FORM. 'bulk': how many values and letters a reading holds, each counted each time it is reached (what is shared counts as often as it is met; a slice's spare places count too). A statement '..UptoSaid' is the law's where the arguments, and the package variables that the reading takes, are together of bulk at most 1048576: NARROWER than '..Said'. Prove '..Said' where nothing that the law and all that it calls make is longer than what came in: it says more and counts as full. Else prove '..UptoSaid'. A law counts once. -/
mutual
def uptoBulk {H : Type} : DataW H → Nat
  | .lit (.string bytes) => bytes.length + 1
  | .lit _ => 1
  | .nil => 1
  | .ptr d => uptoBulk d + 1
  | .slice elems spare => uptoBulkAll elems + uptoBulkAll spare + 1
  | .agg parts => uptoBulkAll parts + 1
  | .iface _ d => uptoBulk d + 1
  | .map entries => uptoBulkEntries entries + 1
  | .held _ => 1
def uptoBulkAll {H : Type} : List (DataW H) → Nat
  | [] => 0
  | d :: r => uptoBulk d + uptoBulkAll r
def uptoBulkEntries {H : Type} : List (Lit × DataW H) → Nat
  | [] => 0
  | x :: r => uptoBulkEntry x + uptoBulkEntries r
def uptoBulkEntry {H : Type} : Lit × DataW H → Nat
  | (.string bytes, d) => bytes.length + uptoBulk d + 1
  | (_, d) => uptoBulk d + 1
 end
def uptoSmall : (H : Type) → List (DataW H) → Bool := fun _ ds => decide (uptoBulkAll ds ≤ 1048576)
def OpenSpec.upto (s : _root_.Go.ChangeSpec) : _root_.Go.OpenSpec := { _root_.Go.OpenSpec.ofChange s with cond := some uptoSmall }

/-- 'conclavelaw02.KeccakPermutes', WHERE WHAT IT READS IS OF BULK AT MOST 1048576: true; the input reads as it did. -/
def keccakPermutesUptoRow : OpenClaim := { program := "ytmhfgchckebnpaadoor", sum := "8c4c2f4b9c8017e4c229420036b8769ecbf14c95e15804d52f809ada1d6cf4f4", func := "conclave/conclavelaw02.KeccakPermutes", spec := "keccakPermutes", unfollowed := true, recurses := true, named := ["conclave/keccak.path"], apart := false, laid := [("conclave/keccak.path", laid_conclave_keccak_path)], narrowed := true }
def KeccakPermutesUptoSaid : Prop := keccakPermutesUptoRow.holds Tryd.pinned (OpenSpec.upto keccakPermutesSpec)

/-- 'conclavelaw02.KeccakUndoes', WHERE WHAT IT READS IS OF BULK AT MOST 1048576: true; the input reads as it did. -/
def keccakUndoesUptoRow : OpenClaim := { program := "ytmhfgchckebnpaadoor", sum := "8c4c2f4b9c8017e4c229420036b8769ecbf14c95e15804d52f809ada1d6cf4f4", func := "conclave/conclavelaw02.KeccakUndoes", spec := "keccakUndoes", unfollowed := true, recurses := true, named := ["conclave/keccak.path"], apart := false, laid := [("conclave/keccak.path", laid_conclave_keccak_path)], narrowed := true }
def KeccakUndoesUptoSaid : Prop := keccakUndoesUptoRow.holds Tryd.pinned (OpenSpec.upto keccakUndoesSpec)

/-- 'conclavelaw02.KeccakSums', WHERE WHAT IT READS IS OF BULK AT MOST 1048576: true; the input reads as it did. -/
def keccakSumsUptoRow : OpenClaim := { program := "ytmhfgchckebnpaadoor", sum := "8c4c2f4b9c8017e4c229420036b8769ecbf14c95e15804d52f809ada1d6cf4f4", func := "conclave/conclavelaw02.KeccakSums", spec := "keccakSums", unfollowed := true, recurses := true, named := ["conclave/keccak.path"], apart := false, laid := [("conclave/keccak.path", laid_conclave_keccak_path)], narrowed := true }
def KeccakSumsUptoSaid : Prop := keccakSumsUptoRow.holds Tryd.pinned (OpenSpec.upto keccakSumsSpec)

/-- 'conclavelaw02.KeccakParts', WHERE WHAT IT READS IS OF BULK AT MOST 1048576: true; the input reads as it did. -/
def keccakPartsUptoRow : OpenClaim := { program := "ytmhfgchckebnpaadoor", sum := "8c4c2f4b9c8017e4c229420036b8769ecbf14c95e15804d52f809ada1d6cf4f4", func := "conclave/conclavelaw02.KeccakParts", spec := "keccakParts", unfollowed := true, recurses := true, named := ["conclave/keccak.path"], apart := false, laid := [("conclave/keccak.path", laid_conclave_keccak_path)], narrowed := true }
def KeccakPartsUptoSaid : Prop := keccakPartsUptoRow.holds Tryd.pinned (OpenSpec.upto keccakPartsSpec)

end Rows
end Go.Proofs.YtmhfgchckebnpaaDoor
