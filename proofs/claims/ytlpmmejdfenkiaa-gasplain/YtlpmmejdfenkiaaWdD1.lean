/- Walks over math/bits.Div64, where the divisor's highest bit is set. -/
import Derived.Test.YtlpmmejdfenkiaaWdW2
import Derived.Test.YtlpmmejdfenkiaaWdShelf
import Derived.Lib.BitFns
import Derived.Lib.ItoaNum
namespace Go.Proofs.Ytlpmmejdfenkiaa.Wd
open Go.RowKit
set_option linter.unusedSimpArgs false
set_option linter.unusedVariables false
theorem dl_mul (q y1 y0 : Int) : q * (4294967296 * y1 + y0) = 4294967296 * (q * y1) + q * y0 := by
  rw [Int.mul_add, Int.mul_left_comm]
/-- What one step of the guess knows. -/
structure Dl (h u y y1 y0 Q R : Int) : Prop where
  ey : y = 4294967296 * y1 + y0
  y0a : 0 ≤ y0
  y0b : y0 < 4294967296
  y1a : 2147483648 ≤ y1
  y1b : y1 < 4294967296
  ha : 0 ≤ h
  hb : h < y
  ua : 0 ≤ u
  ub : u < 4294967296
  e : h * 4294967296 + u = Q * y + R
  Ra : 0 ≤ R
  Rb : R < y
  Qa : 0 ≤ Q
  Qb : Q < 4294967296
theorem Dl.first {h u y y1 y0 Q R : Int} (D : Dl h u y y1 y0 Q R) : Q ≤ h / y1 ∧ h / y1 ≤ 4294967297 ∧ 0 ≤ h / y1 ∧ 0 ≤ h % y1 ∧ h % y1 < y1 ∧ h % y1 = h - h / y1 * y1 := by
  have hy1 : 0 < y1 := by have := D.y1a; omega
  have hm := Int.mul_ediv_add_emod h y1
  rw [Int.mul_comm] at hm
  have h0 := Int.emod_nonneg h (by omega : y1 ≠ 0)
  have h1 := Int.emod_lt_of_pos h hy1
  refine ⟨?_, ?_, Int.ediv_nonneg D.ha (by omega), h0, h1, by omega⟩
  · have a : Q * y1 ≤ h := by
      have e := D.e
      have m := dl_mul Q y1 y0
      rw [← D.ey] at m
      have := D.Ra; have := D.ub
      have : 0 ≤ Q * y0 := Int.mul_nonneg D.Qa D.y0a
      omega
    exact (Int.le_ediv_iff_mul_le hy1).2 a
  · apply Int.le_of_lt_add_one
    apply Int.ediv_lt_of_lt_mul hy1
    have := D.hb; have := D.ey; have := D.y0b; have := D.y1a
    omega


end Go.Proofs.Ytlpmmejdfenkiaa.Wd
