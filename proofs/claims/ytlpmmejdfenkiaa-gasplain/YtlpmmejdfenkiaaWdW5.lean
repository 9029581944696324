/- Walks over package word: signed shifts, bytes, signs drawn out. -/
import Derived.Test.YtlpmmejdfenkiaaWdW3
namespace Go.Proofs.Ytlpmmejdfenkiaa.Wd
open Go.RowKit
set_option linter.unusedSimpArgs false
set_option linter.unusedVariables false

/-- The byte number i of x, from the lowest on. -/
def lowN (x i : Int) : Int := x / 2 ^ (8 * i).toNat % 256
theorem low_pow (i k r : Int) (h0 : 0 ≤ r) (hk : 0 ≤ k) (hi : i = 8 * k + r) : (2 : Int) ^ (8 * i).toNat = 2 ^ (64 * k).toNat * 2 ^ (8 * r).toNat := by
  rw [← Int.pow_add]; congr 1; omega
theorem low_num0 {x0 x1 x2 x3 i : Int} (h0 : 0 ≤ i) (h1 : i < 8) (hx : L4 x0 x1 x2 x3) : x0 / 2 ^ (8 * (i % 8)).toNat % 256 = lowN (num x0 x1 x2 x3) i := by
  unfold lowN
  have hpk : (2 : Int) ^ (64 * (0 : Int)).toNat = 1 := by decide
  have hP := pow_pos' (8 * (i % 8)).toNat
  rw [low_pow i 0 (i % 8) (by omega) (by decide) (by omega), hpk, ← Int.ediv_ediv_of_nonneg (by decide)]
  obtain ⟨⟨_, _⟩, ⟨_, _⟩, ⟨_, _⟩, ⟨_, _⟩⟩ := hx
  have e : num x0 x1 x2 x3 / 1 = x0 + 18446744073709551616 * (0 + 1 * x1 + 18446744073709551616 * x2 + 340282366920938463463374607431768211456 * x3) := by unfold num; omega
  rw [e]
  have hp : (2 : Int) ^ (8 * (i % 8)).toNat * (256 * 2 ^ (56 - 8 * (i % 8)).toNat) = 18446744073709551616 := by
    rw [show (256 : Int) = 2 ^ 8 from rfl, ← Int.pow_add, ← Int.pow_add, show (8 * (i % 8)).toNat + (8 + (56 - 8 * (i % 8)).toNat) = 64 from by omega]
    decide
  rw [← hp, Int.mul_assoc, Int.add_mul_ediv_left _ _ (by omega), Int.mul_assoc, Int.add_mul_emod_self_left]
theorem low_num1 {x0 x1 x2 x3 i : Int} (h0 : 8 ≤ i) (h1 : i < 16) (hx : L4 x0 x1 x2 x3) : x1 / 2 ^ (8 * (i % 8)).toNat % 256 = lowN (num x0 x1 x2 x3) i := by
  unfold lowN
  have hpk : (2 : Int) ^ (64 * (1 : Int)).toNat = 18446744073709551616 := by decide
  have hP := pow_pos' (8 * (i % 8)).toNat
  rw [low_pow i 1 (i % 8) (by omega) (by decide) (by omega), hpk, ← Int.ediv_ediv_of_nonneg (by decide)]
  obtain ⟨⟨_, _⟩, ⟨_, _⟩, ⟨_, _⟩, ⟨_, _⟩⟩ := hx
  have e : num x0 x1 x2 x3 / 18446744073709551616 = x1 + 18446744073709551616 * (0 + 1 * x2 + 18446744073709551616 * x3) := by unfold num; omega
  rw [e]
  have hp : (2 : Int) ^ (8 * (i % 8)).toNat * (256 * 2 ^ (56 - 8 * (i % 8)).toNat) = 18446744073709551616 := by
    rw [show (256 : Int) = 2 ^ 8 from rfl, ← Int.pow_add, ← Int.pow_add, show (8 * (i % 8)).toNat + (8 + (56 - 8 * (i % 8)).toNat) = 64 from by omega]
    decide
  rw [← hp, Int.mul_assoc, Int.add_mul_ediv_left _ _ (by omega), Int.mul_assoc, Int.add_mul_emod_self_left]
theorem low_num2 {x0 x1 x2 x3 i : Int} (h0 : 16 ≤ i) (h1 : i < 24) (hx : L4 x0 x1 x2 x3) : x2 / 2 ^ (8 * (i % 8)).toNat % 256 = lowN (num x0 x1 x2 x3) i := by
  unfold lowN
  have hpk : (2 : Int) ^ (64 * (2 : Int)).toNat = 340282366920938463463374607431768211456 := by decide
  have hP := pow_pos' (8 * (i % 8)).toNat
  rw [low_pow i 2 (i % 8) (by omega) (by decide) (by omega), hpk, ← Int.ediv_ediv_of_nonneg (by decide)]
  obtain ⟨⟨_, _⟩, ⟨_, _⟩, ⟨_, _⟩, ⟨_, _⟩⟩ := hx
  have e : num x0 x1 x2 x3 / 340282366920938463463374607431768211456 = x2 + 18446744073709551616 * (0 + 1 * x3) := by unfold num; omega
  rw [e]
  have hp : (2 : Int) ^ (8 * (i % 8)).toNat * (256 * 2 ^ (56 - 8 * (i % 8)).toNat) = 18446744073709551616 := by
    rw [show (256 : Int) = 2 ^ 8 from rfl, ← Int.pow_add, ← Int.pow_add, show (8 * (i % 8)).toNat + (8 + (56 - 8 * (i % 8)).toNat) = 64 from by omega]
    decide
  rw [← hp, Int.mul_assoc, Int.add_mul_ediv_left _ _ (by omega), Int.mul_assoc, Int.add_mul_emod_self_left]
theorem low_num3 {x0 x1 x2 x3 i : Int} (h0 : 24 ≤ i) (h1 : i < 32) (hx : L4 x0 x1 x2 x3) : x3 / 2 ^ (8 * (i % 8)).toNat % 256 = lowN (num x0 x1 x2 x3) i := by
  unfold lowN
  have hpk : (2 : Int) ^ (64 * (3 : Int)).toNat = 6277101735386680763835789423207666416102355444464034512896 := by decide
  have hP := pow_pos' (8 * (i % 8)).toNat
  rw [low_pow i 3 (i % 8) (by omega) (by decide) (by omega), hpk, ← Int.ediv_ediv_of_nonneg (by decide)]
  obtain ⟨⟨_, _⟩, ⟨_, _⟩, ⟨_, _⟩, ⟨_, _⟩⟩ := hx
  have e : num x0 x1 x2 x3 / 6277101735386680763835789423207666416102355444464034512896 = x3 + 18446744073709551616 * (0) := by unfold num; omega
  rw [e]
  have hp : (2 : Int) ^ (8 * (i % 8)).toNat * (256 * 2 ^ (56 - 8 * (i % 8)).toNat) = 18446744073709551616 := by
    rw [show (256 : Int) = 2 ^ 8 from rfl, ← Int.pow_add, ← Int.pow_add, show (8 * (i % 8)).toNat + (8 + (56 - 8 * (i % 8)).toNat) = 64 from by omega]
    decide
  rw [← hp, Int.mul_assoc, Int.add_mul_ediv_left _ _ (by omega), Int.mul_assoc, Int.add_mul_emod_self_left]
end Go.Proofs.Ytlpmmejdfenkiaa.Wd
