/- The argument of 25 lanes and the laid path, as the rows read them. -/
import Derived.Test.YtboeokmaepchgaaGreatDoorRows
import Derived.Test.YtboeokmaepchgaaGreatDoorKcK9
import Derived.ProofKit
import Derived.LaidMore
import Derived.OpenShut
import Derived.Stop.Joined
import Derived.Carry
import Derived.Lib.LaidTab
namespace Go.Proofs.YtboeokmaepchgaaGreatDoor.Kc
open Go.ChangeShapes Go.WideShapes Go.ChangeAt Go.WideElems Go.RowKit

abbrev laidP : List (String × DataW Unit) := [("conclave/keccak.path", Rows.laid_conclave_keccak_path)]
/-- What the condition on the variable gives the walks. -/
theorem path_of_laid {W : World} (h : laidMetH Tryz.prog laidP W) : PathIn W := by
  rw [MakeChecks.laidMetH_plain _ _ _ (by kernel_rfl)] at h
  have ht := Lib.tabIs_of_head (k := .u8) (zs := [1, 10, 7, 11, 17, 18, 3, 5, 16, 8, 21, 24, 4, 15, 23, 19, 13, 12, 2, 20, 14, 22, 9, 6, 1]) (g := 1) (t := 288) (e := 5) (n := 25) (by kernel_rfl) (by kernel_rfl) Tryz.underlying288 Tryz.underlying5 (by kernel_rfl) (by kernel_rfl) h
  intro t hlt
  rw [World.var?_cell (P := Tryz.prog) (n := "conclave/keccak.path") (by kernel_rfl) ht t]
  have : ∀ t : Fin 25, (([1, 10, 7, 11, 17, 18, 3, 5, 16, 8, 21, 24, 4, 15, 23, 19, 13, 12, 2, 20, 14, 22, 9, 6, 1] : List Int).map fun z => Value.int .u8 z).toArray[t.val]? = some (.int .u8 ((path t.val : Nat) : Int)) := by
    intro t
    rw [List.getElem?_toArray, List.getElem?_map]
    have h2 : ∀ t : Fin 25, ([1, 10, 7, 11, 17, 18, 3, 5, 16, 8, 21, 24, 4, 15, 23, 19, 13, 12, 2, 20, 14, 22, 9, 6, 1] : List Int)[t.val]? = some ((path t.val : Nat) : Int) := by decide
    rw [h2 t]; rfl
  exact this ⟨t, hlt⟩
end Go.Proofs.YtboeokmaepchgaaGreatDoor.Kc
