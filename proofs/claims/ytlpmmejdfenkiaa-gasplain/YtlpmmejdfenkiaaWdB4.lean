/- The document's shifts and signs: plain arithmetic. -/
import Derived.Test.YtlpmmejdfenkiaaWdB3
import Derived.Test.YtlpmmejdfenkiaaWdQ0
import Derived.Test.YtlpmmejdfenkiaaWdR8
import Derived.Test.YtlpmmejdfenkiaaWdX5
import Derived.Test.YtlpmmejdfenkiaaWdE2
namespace Go.Proofs.Ytlpmmejdfenkiaa.Wd
open Go.RowKit
set_option linter.unusedVariables false
theorem turned (x P R : Int) (hP : 0 < P) (h : P * R = T256) : T256 - 1 - (T256 - 1 - x) / P = x / P + (T256 - R) := by
  have h1 := Int.mul_ediv_add_emod x P
  have h2 := Int.emod_nonneg x (Int.ne_of_gt hP)
  have h3 := Int.emod_lt_of_pos x hP
  generalize x / P = q at *
  generalize x % P = r at *
  have e : T256 - 1 - x = (P - 1 - r) + P * (R - q - 1) := by rw [Int.mul_sub, Int.mul_sub, h, Int.mul_one, ← h1]; omega
  rw [e, Int.add_mul_ediv_left _ _ (Int.ne_of_gt hP), Int.ediv_eq_zero_of_lt (by omega) (by omega)]
  omega
end Go.Proofs.Ytlpmmejdfenkiaa.Wd
