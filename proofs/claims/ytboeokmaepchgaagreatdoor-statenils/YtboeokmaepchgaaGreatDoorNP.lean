/- What the laid variable gives, the door; the arguments: an address, a word. -/
import Derived.Test.YtboeokmaepchgaaGreatDoorRows
import Derived.Test.YtboeokmaepchgaaGreatDoorVZ
import Derived.Test.YtboeokmaepchgaaGreatDoorKcKQ
import Derived.ProofKit
import Derived.LaidMore
import Derived.OpenShut
import Derived.Stop.Joined
import Derived.Carry
import Derived.Lib.LaidTab
import Derived.Laws.IdiomArrays
namespace Go.Proofs.YtboeokmaepchgaaGreatDoor
open Go.ChangeShapes Go.WideShapes Go.ChangeAt Go.WideElems Go.RowKit
set_option linter.unusedVariables false
theorem own : ownKnob Tryz.prog.godebug = none := by kernel_rfl
theorem laidOut : laidOutB Tryz.prog = true := by kernel_rfl
theorem door_met (os : Os) (args : Array Value) : laidMetH Tryz.prog Kc.laidP ((World.doorLaid Tryz.prog 400 os).forCall (fun _ _ => 0) ⟨#[], args, []⟩).memory :=
  laidMetH_of_parts3 (fuel := 8) (laidMet_of_run' 8 (by kernel_rfl) (by kernel_rfl)) (by kernel_rfl) (by kernel_rfl)
theorem wf8b {x : Int} (h : (Lit.int .u8 x).wf = true) : ∃ b : BitVec 8, x = Kc.I8 b := by
  have hx : 0 ≤ x ∧ x < 256 := by
    simp [Lit.wf, IntKind.min, IntKind.max, IntKind.signed, IntKind.bits] at h
    exact ⟨by omega, by omega⟩
  refine ⟨BitVec.ofNat 8 x.toNat, ?_⟩
  unfold Kc.I8
  rw [BitVec.toNat_ofNat, Nat.mod_eq_of_lt (by omega)]
  omega
theorem vec_eq20 {cs : Array Value} {f : Nat → Value} (h : cs.size = 20) (hc : ∀ i, i < 20 → cs[i]? = some (f i)) : cs = Kc.vec 20 f := by
  apply Array.ext (by rw [Kc.size_vec]; exact h)
  intro i h1 h2
  have e1 := hc i (by omega)
  have e2 := Kc.get_vec 20 f i (by omega)
  rw [Array.getElem?_eq_getElem h1] at e1
  rw [Array.getElem?_eq_getElem h2] at e2
  rw [Option.some.inj e1, Option.some.inj e2]
set_option maxRecDepth 100000 in
/-- An argument of type Addr is 20 bytes, and takes no memory. -/
theorem open43 {H : Type} {enc : TypeId × Value → H} {W : World} {base : Nat} {sp : Nat → Bool} {held : Bool} {v : Value} {d : DataW H} {p : List MemPlace} (hv : Value.okWide Tryz.prog W .any base 43 v) (h : DataW.Trod enc Tryz.prog W 0 sp held 43 v d p) :
    ∃ A : Nat → BitVec 8, v = .agg (adV A) := by
  have c43 : Tryz.prog.cellsOf 43 = 20 := by kernel_rfl
  have c5 : Tryz.prog.cellsOf 5 = 1 := by kernel_rfl
  obtain ⟨cs, rfl, hsz, _⟩ : ∃ cs, v = .agg cs ∧ cs.size = Tryz.prog.cellsOf 43 ∧ Row.okWide Tryz.prog W .any base 43 cs := by
    simpa [Value.okWide, Tryz.underlying43] using hv
  obtain ⟨fuel, hf⟩ := h
  obtain ⟨xs, m, rfl, hx, hlen, hn, hel⟩ := DataW.trod_array Tryz.underlying43 hf
  rw [c43] at hsz
  have hcell : ∀ i, i < 20 → ∃ b : BitVec 8, cs[i]? = some (.int .u8 (Kc.I8 b)) := by
    intro i hi
    have h1 := hel i hi
    have hxi : xs[i]? = some xs[i] := List.getElem?_eq_getElem (by omega)
    rw [hxi] at h1
    obtain ⟨k, e1, e2, w1⟩ := DataW.trod_int Tryz.underlying5 h1
    obtain ⟨b, rfl⟩ := wf8b w1
    rw [c5, Nat.mul_one] at e1
    refine ⟨b, ?_⟩
    have hd : ((Value.agg cs).cells.toList.drop i).take 1 = [cs[i]'(by omega)] := by
      rw [List.take_one]
      simp [Value.cells, List.head?_drop]
    rw [hd] at e1
    rw [Array.getElem?_eq_getElem (by omega)]
    simpa using e1
  obtain ⟨A, hA⟩ : ∃ A : Nat → BitVec 8, ∀ i, i < 20 → cs[i]? = some (.int .u8 (Kc.I8 (A i))) :=
    ⟨fun i => if h : i < 20 then (hcell i h).choose else 0, fun i hi => by simp only [dif_pos hi]; exact (hcell i hi).choose_spec⟩
  exact ⟨A, by rw [vec_eq20 hsz (f := Kc.byt A) hA]⟩
theorem list4 {α : Type} (l : List α) (h : (⟨l⟩ : Array α).size = 4) : ∃ a b c d, l = [a, b, c, d] := by
  match l, h with
  | [a, b, c, d], _ => exact ⟨a, b, c, d, rfl⟩
set_option maxRecDepth 100000 in
theorem open46 {H : Type} {enc : TypeId × Value → H} {W : World} {base : Nat} {sp : Nat → Bool} {held : Bool} {v : Value} {d : DataW H} {p : List MemPlace} (hv : Value.okWide Tryz.prog W .any base 46 v) (h : DataW.Trod enc Tryz.prog W 0 sp held 46 v d p) :
    ∃ x0 x1 x2 x3 : Int, v = .agg (W4a x0 x1 x2 x3) := by
  have c46 : Tryz.prog.cellsOf 46 = 4 := by kernel_rfl
  have c44 : Tryz.prog.cellsOf 44 = 1 := by kernel_rfl
  obtain ⟨cs, rfl, hsz, _⟩ : ∃ cs, v = .agg cs ∧ cs.size = Tryz.prog.cellsOf 46 ∧ Row.okWide Tryz.prog W .any base 46 cs := by
    simpa [Value.okWide, Tryz.underlying46] using hv
  rw [c46] at hsz
  obtain ⟨l⟩ := cs
  obtain ⟨c0, c1, c2, c3, rfl⟩ := list4 l hsz
  obtain ⟨fuel, hf⟩ := h
  obtain ⟨y0, y1, y2, y3, m, hx, hy0, hy1, hy2, hy3⟩ := trod_array4 Tryz.underlying46 c44 hf
  obtain ⟨x0, e0, rfl, w0⟩ := DataW.trod_int Tryz.underlying44 hy0
  obtain ⟨x1, e1, rfl, w1⟩ := DataW.trod_int Tryz.underlying44 hy1
  obtain ⟨x2, e2, rfl, w2⟩ := DataW.trod_int Tryz.underlying44 hy2
  obtain ⟨x3, e3, rfl, w3⟩ := DataW.trod_int Tryz.underlying44 hy3
  simp at e0 e1 e2 e3
  subst e0 e1 e2 e3
  exact ⟨x0, x1, x2, x3, rfl⟩
end Go.Proofs.YtboeokmaepchgaaGreatDoor
