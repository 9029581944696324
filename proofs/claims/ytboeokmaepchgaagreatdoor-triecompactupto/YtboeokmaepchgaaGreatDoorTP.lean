/- trie: what the laid variable gives, the door; the argument []byte. -/
import Derived.Test.YtboeokmaepchgaaGreatDoorRows
import Derived.Test.YtboeokmaepchgaaGreatDoorTO
import Derived.Test.YtboeokmaepchgaaGreatDoorKcKQ
import Derived.ProofKit
import Derived.LaidMore
import Derived.OpenShut
import Derived.Stop.Joined
import Derived.Carry
import Derived.Lib.LaidTab
import Derived.ChangeSlices
import Derived.SizedLaws
import Derived.Deep.Slices
import Derived.Deep.Fields
namespace Go.Proofs.YtboeokmaepchgaaGreatDoor
open Go.Deep Go.ChangeShapes Go.WideShapes Go.ChangeAt Go.WideElems Go.RowKit
set_option linter.unusedVariables false
theorem own : ownKnob Tryz.prog.godebug = none := by kernel_rfl
theorem laidOut : laidOutB Tryz.prog = true := by kernel_rfl
theorem door_met (os : Os) (args : Array Value) : laidMetH Tryz.prog Kc.laidP ((World.doorLaid Tryz.prog 400 os).forCall (fun _ _ => 0) ⟨#[], args, []⟩).memory :=
  laidMetH_of_parts3 (fuel := 8) (laidMet_of_run' 8 (by kernel_rfl) (by kernel_rfl)) (by kernel_rfl) (by kernel_rfl)
theorem cells5 : Tryz.prog.cellsOf 5 = 1 := by kernel_rfl
theorem wf8 {x : Int} (h : (Lit.int .u8 x).wf = true) : 0 ≤ x ∧ x < 256 := by
  simp [Lit.wf, IntKind.min, IntKind.max, IntKind.signed, IntKind.bits] at h
  exact ⟨by omega, by omega⟩
theorem bulk_app {H : Type} (a b : List (DataW H)) : Rows.uptoBulkAll (a ++ b) = Rows.uptoBulkAll a + Rows.uptoBulkAll b := by
  induction a with
  | nil => simp [Rows.uptoBulkAll]
  | cons x r ih => simp only [List.cons_append, Rows.uptoBulkAll, ih]; omega
theorem bulk_lits {H : Type} (zs : List Int) : Rows.uptoBulkAll (lits (H := H) .u8 zs) = zs.length := by
  induction zs with
  | nil => rfl
  | cons x r ih =>
    show Rows.uptoBulk (DataW.lit (.int .u8 x)) + Rows.uptoBulkAll (lits (H := H) .u8 r) = _
    rw [ih]
    show 1 + r.length = _
    simp; omega
/-- Bytes. -/
theorem open_bs {H : Type} {enc : TypeId × Value → H} {W : World} {fuel : Nat} {cs : List Value} {x : DataW H × List MemPlace} (h : DataW.trod enc Tryz.prog W 0 (fun _ => true) true fuel 22 cs = some x) (hb : Rows.uptoBulk x.1 ≤ 1048576) :
    ∃ va vc bs, cs = [.slice va bs.length vc] ∧ BytesV W (.slice va bs.length vc) bs ∧ Byt bs ∧ bs.length ≤ vc ∧ vc ≤ 9223372036854775807 ∧ bs.length ≤ 1048576 := by
  rcases open_ints Tryz.underlying22 Tryz.underlying5 cells5 h with ⟨rfl, rfl⟩ | ⟨a, len, cap, zs, rfl, _, hl, hm, hz, rfl, hcell, hwz⟩
  · exact ⟨none, 0, [], rfl, Or.inl ⟨rfl, rfl⟩, (fun c (hc : c ∈ ([] : List Int)) => by cases hc), Nat.le_refl _, Nat.zero_le _, Nat.zero_le _⟩
  · simp only [if_true] at hz
    have hlen : (zs.take len).length = len := by rw [List.length_take]; omega
    unfold maxLen at hm
    refine ⟨some a, cap, zs.take len, by rw [hlen], Or.inr ⟨a, cap, rfl, fun j u hu => ?_⟩, fun c hc => wf8 (hwz c (List.mem_of_mem_take hc)), by omega, by omega, ?_⟩
    · have hj : j < (zs.take len).length := by
        have := (List.getElem?_eq_some_iff.1 hu).1
        rwa [vB_length] at this
      have h1 := hcell j (by omega)
      rw [h1]
      have h2 : (zs.take len)[j]? = some (zs.getD j 0) := by
        rw [List.getElem?_take, if_pos (by omega), List.getElem?_eq_getElem (by omega)]
        simp [List.getD, List.getElem?_eq_getElem (show j < zs.length by omega)]
      have h3 : (vB (zs.take len))[j]? = some (.int .u8 (zs.getD j 0)) := by unfold vB; rw [List.getElem?_map, h2]; rfl
      rw [h3] at hu
      exact congrArg some (Option.some.inj hu)
    · simp only [Rows.uptoBulk, bulk_lits] at hb
      omega
end Go.Proofs.YtboeokmaepchgaaGreatDoor
