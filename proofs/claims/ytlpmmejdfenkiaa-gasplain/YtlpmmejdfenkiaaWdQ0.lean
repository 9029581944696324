/- The document's quotients, bit by bit: plain arithmetic. -/
import Derived.Test.YtlpmmejdfenkiaaWdR7
import Derived.Test.YtlpmmejdfenkiaaWdR1
namespace Go.Proofs.Ytlpmmejdfenkiaa.Wd
open Go.RowKit
set_option linter.unusedSimpArgs false
set_option linter.unusedVariables false
theorem drop_step : ∀ (d : List Int) (m : Nat), valB (d.drop m) = d.getD m 0 + 256 * valB (d.drop (m + 1))
  | [], m => by simp [valB]
  | x :: r, 0 => by simp [valB]
  | x :: r, m + 1 => by rw [List.drop_succ_cons, List.drop_succ_cons, getD_cons_succ']; exact drop_step r m
theorem pow256 (m : Nat) : (256 : Int) ^ m = 2 ^ (8 * m) := by rw [Int.pow_mul]; rfl
theorem RowD.far {w : World} {b : Nat} {d : List Int} (h : RowD w b d) {c : Nat} (e : b ≠ c) (j : Nat) (v : Value) : RowD (w.setCell ⟨c, j, none⟩ v) b d := World.rowIs.setOther h (a := ⟨c, j, none⟩) e v
end Go.Proofs.Ytlpmmejdfenkiaa.Wd
