/- Walks over package word: the small functions. -/
import Derived.Test.YtlpmmejdfenkiaaWdBase
import Derived.Laws.StructEq
namespace Go.Proofs.Ytlpmmejdfenkiaa.Wd
open Go.RowKit
set_option linter.unusedSimpArgs false

theorem size22 (w : World) : (sizeOf 22).run Try.prog w = .ok 1 w := by kernel_rfl
set_option maxHeartbeats 1000000 in
/-- Two words are compared limb by limb. -/
theorem eq24 (a0 a1 a2 a3 b0 b1 b2 b3 : Int) (w : World) :
    (Op.equalIn 10000 30 (W4 a0 a1 a2 a3) (W4 b0 b1 b2 b3)).run Try.prog w = .ok (a0 == b0 && (a1 == b1 && (a2 == b2 && a3 == b3))) w := by
  unfold W4
  rw [Op.equalIn]
  simp only [Sem.run_bind, run_underlying Try.underlying30, Result.andThen_ok, size22]
  simp [Std.Legacy.Range.forIn_eq_forIn_range', List.range', go_sem]
  by_cases h0 : a0 = b0 <;> by_cases h1 : a1 = b1 <;> by_cases h2 : a2 = b2 <;> by_cases h3 : a3 = b3 <;> simp [h0, h1, h2, h3]
end Go.Proofs.Ytlpmmejdfenkiaa.Wd
