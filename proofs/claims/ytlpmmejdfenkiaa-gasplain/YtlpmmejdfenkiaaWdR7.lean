/- Walks over the document's own numbers: products. -/
import Derived.Test.YtlpmmejdfenkiaaWdR4
namespace Go.Proofs.Ytlpmmejdfenkiaa.Wd
open Go.RowKit
set_option linter.unusedSimpArgs false
set_option linter.unusedVariables false
theorem getD_set (d : List Int) (j : Nat) (x : Int) (i : Nat) (hj : j < d.length) : (d.set j x).getD i 0 = if i = j then x else d.getD i 0 := by
  simp only [List.getD]
  rw [List.getElem?_set]
  by_cases h : j = i
  · subst h; simp [hj]
  · rw [if_neg h, if_neg (fun e => h e.symm)]
theorem Byt.set {d : List Int} (h : Byt d) {j : Nat} {x : Int} (hj : j < d.length) (h0 : 0 ≤ x) (h1 : x < 256) : Byt (d.set j x) := fun k => by
  rw [getD_set d j x k hj]
  split
  · exact ⟨h0, h1⟩
  · exact h k
/-- A block that holds a list of digits. -/
def RowD (w : World) (b : Nat) (d : List Int) : Prop := w.rowIs b 3 d.length (fun j => .int .i64 (d.getD j 0))
theorem RowD.cell {w : World} {b : Nat} {d : List Int} (h : RowD w b d) {j : Nat} (hj : j < d.length) : w.cell? ⟨b, j, none⟩ = some (.int .i64 (d.getD j 0)) := World.rowIs.cell h hj
theorem RowD.set {w : World} {b : Nat} {d : List Int} (h : RowD w b d) {j : Nat} (hj : j < d.length) (x : Int) : RowD (w.setCell ⟨b, j, none⟩ (.int .i64 x)) b (d.set j x) := by
  have h1 := World.rowIs.set h j (.int .i64 x)
  unfold RowD
  rw [List.length_set]
  refine World.rowIs.congr h1 (fun i hi => ?_)
  rw [getD_set d j x i hj]
  by_cases e : i = j
  · rw [if_pos e, if_pos e]
  · rw [if_neg e, if_neg e]
theorem RowD.drew {w : World} {b : Nat} {d : List Int} (h : RowD w b d) (n : Nat) : RowD (w.drewN n) b d := h
end Go.Proofs.Ytlpmmejdfenkiaa.Wd
