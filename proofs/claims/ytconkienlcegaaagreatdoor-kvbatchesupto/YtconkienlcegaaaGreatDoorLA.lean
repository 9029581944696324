/- kv: what the laid variables give; the door. -/
import Derived.Test.YtconkienlcegaaaGreatDoorRows
import Derived.Test.YtconkienlcegaaaGreatDoorKZ
import Derived.ProofKit
import Derived.LaidMore
import Derived.OpenShut
import Derived.Stop.Joined
import Derived.Stop.LaidErr
import Derived.Carry
import Derived.Lib.LaidTab
namespace Go.Proofs.YtconkienlcegaaaGreatDoor
open Go.ChangeShapes Go.WideShapes Go.ChangeAt Go.WideElems Go.RowKit
theorem own : ownKnob Tryz.prog.godebug = none := by kernel_rfl
theorem laidOut : laidOutB Tryz.prog = true := by kernel_rfl
abbrev laidP : List (String × DataW Unit) := [("math/bits.deBruijn32tab", Rows.laid_math_bits_deBruijn32tab), ("math/bits.deBruijn64tab", Rows.laid_math_bits_deBruijn64tab), ("internal/strconv.uint64pow10", Rows.laid_internal_strconv_uint64pow10), ("strconv.ErrRange", Rows.laid_strconv_ErrRange), ("strconv.ErrSyntax", Rows.laid_strconv_ErrSyntax), ("conclave/wal.halfSums", Rows.laid_conclave_wal_halfSums)]
set_option maxRecDepth 100000 in
theorem door_met (os : Os) (args : Array Value) : laidMetH Tryz.prog laidP ((World.doorLaid Tryz.prog 400 os).forCall (fun _ _ => 0) ⟨#[], args, []⟩).memory :=
  laidMetH_of_parts3 (fuel := 8) (laidMet_of_run' 8 (by kernel_rfl) (by kernel_rfl)) (by kernel_rfl) (by kernel_rfl)
theorem star : "*" ++ "errors.errorString" = "*errors.errorString" := by decide
theorem row236 (u : TypeId) (h : Tryz.prog.typeName? 3 u = some "*errors.errorString") : u = 236 :=
  typeName_ptr_named (nm := "errors.errorString") (by rw [star]; kernel_rfl) (by kernel_rfl) (by decide) u (by rw [star]; exact h)
/-- What the condition on the variables gives the walks. -/
theorem vars_of_laid {W : World} (h : laidMetH Tryz.prog laidP W) : Vars W := by
  rw [MakeChecks.laidMetH_plain _ _ _ (by kernel_rfl)] at h
  have h2 := h.tail.tail
  have ht := Lib.tabIs_of_head (k := .u64) (zs := Lib.pow10Tab) (g := 4) (t := 245) (e := 132) (n := 20) (by kernel_rfl) (by kernel_rfl) Tryz.underlying245 Tryz.underlying132 (by kernel_rfl) (by kernel_rfl) h2
  obtain ⟨a0, sa, hva, _, _, _⟩ := laid_sentinel h2.tail gRan (by kernel_rfl) (ti := 170) Tryz.underlying170 row236 Tryz.underlying236 Tryz.underlying238 rfl rfl Tryz.underlying9 (by kernel_rfl) (by kernel_rfl)
  obtain ⟨b0, sb, hvb, _, _, _⟩ := laid_sentinel h2.tail.tail gSyn (by kernel_rfl) (ti := 170) Tryz.underlying170 row236 Tryz.underlying236 Tryz.underlying238 rfl rfl Tryz.underlying9 (by kernel_rfl) (by kernel_rfl)
  have hh := Lib.tabIs_of_head (k := .u32) (zs := (List.range 16).map fun i => J (tab i)) (g := 1) (t := 208) (e := 127) (n := 16) (by kernel_rfl) (by kernel_rfl) Tryz.underlying208 Tryz.underlying127 (by kernel_rfl) (by kernel_rfl) h2.tail.tail.tail
  refine ⟨fun i hi => ?_, ht, ⟨_, _, hvb⟩, ⟨_, _, hva⟩⟩
  rw [World.var?_cell (P := Tryz.prog) (n := "conclave/wal.halfSums") (by kernel_rfl) hh i]
  rw [List.getElem?_toArray, List.getElem?_map, List.getElem?_map, List.getElem?_range hi]
  rfl
end Go.Proofs.YtconkienlcegaaaGreatDoor
