/- The argument of 25 lanes and the laid path, as the rows read them. -/
import Derived.Test.YtmhfgchckebnpaaDoorRows
import Derived.Test.YtmhfgchckebnpaaDoorK9
import Derived.ProofKit
import Derived.LaidMore
import Derived.OpenShut
import Derived.Stop.Joined
import Derived.Carry
import Derived.Lib.LaidTab
namespace Go.Proofs.YtmhfgchckebnpaaDoor
open Go.ChangeShapes Go.WideShapes Go.ChangeAt Go.WideElems Go.RowKit

theorem own : ownKnob Tryd.prog.godebug = none := by kernel_rfl
theorem laidOut : laidOutB Tryd.prog = true := by kernel_rfl
abbrev laidP : List (String × DataW Unit) := [("conclave/keccak.path", Rows.laid_conclave_keccak_path)]
theorem door_met (os : Os) (args : Array Value) : laidMetH Tryd.prog laidP ((World.doorLaid Tryd.prog 400 os).forCall (fun _ _ => 0) ⟨#[], args, []⟩).memory :=
  laidMetH_of_parts3 (fuel := 8) (laidMet_of_run' 8 (by kernel_rfl) (by kernel_rfl)) (by kernel_rfl) (by kernel_rfl)
/-- What the condition on the variable gives the walks. -/
theorem path_of_laid {W : World} (h : laidMetH Tryd.prog laidP W) : PathIn W := by
  rw [MakeChecks.laidMetH_plain _ _ _ (by kernel_rfl)] at h
  have ht := Lib.tabIs_of_head (k := .u8) (zs := [1, 10, 7, 11, 17, 18, 3, 5, 16, 8, 21, 24, 4, 15, 23, 19, 13, 12, 2, 20, 14, 22, 9, 6, 1]) (g := 0) (t := 64) (e := 5) (n := 25) (by kernel_rfl) (by kernel_rfl) Tryd.underlying64 Tryd.underlying5 (by kernel_rfl) (by kernel_rfl) h
  intro t hlt
  rw [World.var?_cell (P := Tryd.prog) (n := "conclave/keccak.path") (by kernel_rfl) ht t]
  have : ∀ t : Fin 25, (([1, 10, 7, 11, 17, 18, 3, 5, 16, 8, 21, 24, 4, 15, 23, 19, 13, 12, 2, 20, 14, 22, 9, 6, 1] : List Int).map fun z => Value.int .u8 z).toArray[t.val]? = some (.int .u8 ((path t.val : Nat) : Int)) := by
    intro t
    rw [List.getElem?_toArray, List.getElem?_map]
    have h2 : ∀ t : Fin 25, ([1, 10, 7, 11, 17, 18, 3, 5, 16, 8, 21, 24, 4, 15, 23, 19, 13, 12, 2, 20, 14, 22, 9, 6, 1] : List Int)[t.val]? = some ((path t.val : Nat) : Int) := by decide
    rw [h2 t]; rfl
  exact this ⟨t, hlt⟩
theorem wf64 {x : Int} (h : (Lit.int .u64 x).wf = true) : ∃ b : BitVec 64, x = I b := by
  have hx : 0 ≤ x ∧ x < 18446744073709551616 := by
    simp [Lit.wf, IntKind.min, IntKind.max, IntKind.signed, IntKind.bits] at h
    exact ⟨by omega, by omega⟩
  refine ⟨BitVec.ofNat 64 x.toNat, ?_⟩
  unfold I
  rw [BitVec.toNat_ofNat, Nat.mod_eq_of_lt (by omega)]
  omega
/-- An argument [25]uint64 is 25 lanes, and takes no memory. -/
theorem open23 {H : Type} {enc : TypeId × Value → H} {W : World} {base : Nat} {sp : Nat → Bool} {held : Bool} {v : Value} {d : DataW H} {p : List MemPlace} (hv : Value.okWide Tryd.prog W .any base 23 v) (h : DataW.Trod enc Tryd.prog W 0 sp held 23 v d p) :
    ∃ S : Nat → BitVec 64, v = .agg (vec 25 (lan S)) ∧ p = [] := by
  have c23 : Tryd.prog.cellsOf 23 = 25 := by kernel_rfl
  have c22 : Tryd.prog.cellsOf 22 = 1 := by kernel_rfl
  obtain ⟨cs, rfl, hsz, _⟩ : ∃ cs, v = .agg cs ∧ cs.size = Tryd.prog.cellsOf 23 ∧ Row.okWide Tryd.prog W .any base 23 cs := by
    simpa [Value.okWide, Tryd.underlying23] using hv
  obtain ⟨fuel, hf⟩ := h
  obtain ⟨xs, m, rfl, hx, hlen, hn, hel⟩ := DataW.trod_array Tryd.underlying23 hf
  rw [c23] at hsz
  have hcell : ∀ i, i < 25 → ∃ b : BitVec 64, cs[i]? = some (.int .u64 (I b)) ∧ ∀ y, xs[i]? = some y → y.2 = [] := by
    intro i hi
    have h1 := hel i hi
    have hxi : xs[i]? = some xs[i] := List.getElem?_eq_getElem (by omega)
    rw [hxi] at h1
    obtain ⟨k, e1, e2, w1⟩ := DataW.trod_int Tryd.underlying22 h1
    obtain ⟨b, rfl⟩ := wf64 w1
    rw [c22, Nat.mul_one] at e1
    refine ⟨b, ?_, fun y hy => ?_⟩
    · have hd : ((Value.agg cs).cells.toList.drop i).take 1 = [cs[i]'(by omega)] := by
        rw [List.take_one]
        simp [Value.cells, List.head?_drop]
      rw [hd] at e1
      rw [Array.getElem?_eq_getElem (by omega)]
      simpa using e1
    · rw [hxi] at hy
      cases hy
      rw [e2]
  obtain ⟨S, hS⟩ : ∃ S : Nat → BitVec 64, ∀ i, i < 25 → cs[i]? = some (.int .u64 (I (S i))) :=
    ⟨fun i => if h : i < 25 then (hcell i h).choose else 0, fun i hi => by simp only [dif_pos hi]; exact (hcell i hi).choose_spec.1⟩
  refine ⟨S, by rw [vec_eq hsz hS], ?_⟩
  simp only [Prod.mk.injEq] at hx
  rw [hx.2, List.flatMap_eq_nil_iff]
  intro y hy
  obtain ⟨i, hi, rfl⟩ := List.mem_iff_getElem.1 hy
  exact (hcell i (by omega)).choose_spec.2 _ (List.getElem?_eq_getElem hi)
end Go.Proofs.YtmhfgchckebnpaaDoor
