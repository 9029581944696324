/- Inverses and roots modulo the first prime: mathematics. -/
import Derived.Test.YtmflilgppllebaaFU
import Derived.Test.YtmflilgppllebaaFX
namespace Go.Proofs.Ytmflilgppllebaa
open Go.RowKit
set_option linter.unusedSimpArgs false
set_option linter.unusedVariables false

theorem PP_nat : PP = (PN : Int) := by decide
theorem ipow_mod (a m : Int) (n : Nat) : (a % m) ^ n % m = a ^ n % m := by
  induction n with
  | zero => rw [Int.pow_zero, Int.pow_zero]
  | succ n ih => rw [Int.pow_succ, Int.pow_succ, Int.mul_emod, ih, Int.emod_emod, ← Int.mul_emod]
theorem imul_l (a b m : Int) : (a % m) * b % m = a * b % m := by
  rw [Int.mul_emod, Int.emod_emod, ← Int.mul_emod]
theorem imul_r (a b m : Int) : a * (b % m) % m = a * b % m := by
  rw [Int.mul_emod, Int.emod_emod, ← Int.mul_emod]
theorem fermatI (a : Int) (h : a % PP ≠ 0) : a ^ (E2 + 1) % PP = 1 := by
  have hb := mod_PP a
  obtain ⟨k, hk⟩ := Int.eq_ofNat_of_zero_le hb.1
  have hk2 : k % PN = k := Nat.mod_eq_of_lt (by have := hb.2; rw [PP_nat] at this; rw [hk] at hb; have := hb.2; rw [PP_nat] at this; omega)
  have f := PN_fermat k (by rw [hk2]; rintro rfl; exact h (by rw [hk]; rfl))
  rw [← ipow_mod, hk, PP_nat]
  have e : PN - 1 = E2 + 1 := by decide
  rw [e] at f
  have : ((k ^ (E2 + 1) % PN : Nat) : Int) = ((1 : Nat) : Int) := by rw [f]
  rw [Int.natCast_emod, Int.natCast_pow] at this
  exact this
theorem inv_one (a : Int) (h : a % PP ≠ 0) : a * (a ^ E2 % PP) % PP = 1 := by
  rw [imul_r, Int.mul_comm, ← Int.pow_succ]; exact fermatI a h
theorem inv_nil (a : Int) (h : a % PP = 0) : a * (a ^ E2 % PP) % PP = 0 := by
  rw [Int.mul_emod, h, Int.zero_mul, Int.zero_emod]
theorem priI (a b : Int) (h : a * b % PP = 0) : a % PP = 0 ∨ b % PP = 0 := by
  have ha := mod_PP a
  have hb := mod_PP b
  obtain ⟨x, hx⟩ := Int.eq_ofNat_of_zero_le ha.1
  obtain ⟨y, hy⟩ := Int.eq_ofNat_of_zero_le hb.1
  rw [Int.mul_emod, hx, hy, PP_nat] at h
  have hd : PN ∣ x * y := by
    apply Nat.dvd_of_mod_eq_zero
    have : ((x * y % PN : Nat) : Int) = ((0 : Nat) : Int) := by
      rw [Int.natCast_emod, Int.natCast_mul]; exact h
    exact Int.ofNat.inj this
  rw [hx] at ha
  rw [hy] at hb
  rw [PP_nat] at ha hb
  rcases PN_pri.dvd_mul hd with h1 | h1
  · left; rw [hx]
    have : x = 0 := Nat.eq_zero_of_dvd_of_lt h1 (by have := ha.2; omega)
    rw [this]; rfl
  · right; rw [hy]
    have : y = 0 := Nat.eq_zero_of_dvd_of_lt h1 (by have := hb.2; omega)
    rw [this]; rfl
theorem sq_one (y : Int) (h : y * y % PP = 1) : y % PP = 1 ∨ y % PP = PP - 1 := by
  have e : (y - 1) * (y + 1) % PP = 0 := by
    have : (y - 1) * (y + 1) = y * y - 1 := by grind
    rw [this, Int.sub_emod, h]
    decide
  have hb := mod_PP y
  rcases priI _ _ e with h1 | h1
  · left
    have : y = (y - 1) + 1 := by omega
    rw [this, Int.add_emod, h1]
    decide
  · right
    have : y = (y + 1) + (-1) := by omega
    rw [this, Int.add_emod, h1]
    decide
theorem mroot_sq : (2 : Int) ^ E4 % PP * ((2 : Int) ^ E4 % PP) % PP = PP - 1 := by rw [cm_val]; decide +kernel
theorem E8_E4 : E8 + E8 = E4 + 1 := by decide +kernel
theorem E4_E2 : E4 + E4 + (E4 + E4) = E2 + 1 := by decide +kernel
theorem ipow_add (a : Int) (m n : Nat) : a ^ (m + n) = a ^ m * a ^ n := Int.pow_add a m n
theorem ipow_zero (n : Nat) (h : 0 < n) : (0 : Int) ^ n = 0 := by
  cases n with
  | zero => omega
  | succ n => rw [Int.pow_succ, Int.mul_zero]
theorem rt1_sq (s : Int) : rt1 s * rt1 s % PP = s * s ^ E4 % PP := by
  unfold rt1
  rw [ipow_mod, imul_l, imul_r, ← ipow_add, E8_E4, ipow_add]
  rw [Int.mul_comm]
  have : s ^ 1 = s := by rw [show (1 : Nat) = 0 + 1 from rfl, Int.pow_succ]; simp
  rw [this]
theorem imul_pow (a b : Int) (n : Nat) : (a * b) ^ n = a ^ n * b ^ n := by
  induction n with
  | zero => rw [Int.pow_zero, Int.pow_zero, Int.pow_zero, Int.mul_one]
  | succ n ih => rw [Int.pow_succ, Int.pow_succ, Int.pow_succ, ih]; grind
theorem sqrt_sq (a : Int) : sqrtB (a * a % PP) = true ∧ (rt1 (a * a % PP) * rt1 (a * a % PP) % PP = a * a % PP ∨ rt2 (a * a % PP) * rt2 (a * a % PP) % PP = a * a % PP) := by
  have key : rt1 (a * a % PP) * rt1 (a * a % PP) % PP = a * a % PP ∨ rt2 (a * a % PP) * rt2 (a * a % PP) % PP = a * a % PP := by
    by_cases h0 : a % PP = 0
    · left
      have : a * a % PP = 0 := by rw [Int.mul_emod, h0]; decide
      rw [this, rt1_sq, Int.zero_mul, Int.zero_emod]
    · have e1 := rt1_sq (a * a % PP)
      have hq : (a * a) ^ E4 % PP * ((a * a) ^ E4 % PP) % PP = 1 := by
        rw [imul_l, imul_r, imul_pow, ← ipow_add, ← ipow_add, E4_E2]; exact fermatI a h0
      have e2 : (a * a % PP) * (a * a % PP) ^ E4 % PP = a * a * ((a * a) ^ E4 % PP) % PP := by
        rw [imul_l, ← imul_r, ipow_mod]
      rw [e2] at e1
      have hm := mod_PP ((a * a) ^ E4)
      generalize (a * a) ^ E4 % PP = y at e1 hq hm
      have hy : y % PP = y := Int.emod_eq_of_lt hm.1 hm.2
      rcases sq_one y hq with h1 | h1
      · left; rw [e1, show y = 1 by omega, Int.mul_one]
      · right
        unfold rt2
        rw [imul_l, imul_r]
        generalize rt1 (a * a % PP) = r at e1
        have hr := mroot_sq
        generalize (2 : Int) ^ E4 % PP = i at hr
        have : r * i * (r * i) = (r * r) * (i * i) := by grind
        rw [this, ← imul_l, e1, ← imul_r, hr, imul_l, hy.symm.trans h1]
        have : a * a * (PP - 1) * (PP - 1) = a * a + PP * (a * a * (PP - 2)) := by grind
        rw [this, Int.add_mul_emod_self_left]
  refine ⟨?_, key⟩
  unfold sqrtB
  rw [Int.emod_emod]
  rcases key with h | h
  · rw [decide_eq_true h]; rfl
  · rw [decide_eq_true h, Bool.or_true]
theorem evenR_sq (r : Int) : evenR r * evenR r % PP = r * r % PP := by
  unfold evenR
  split
  · have : (PP - r) * (PP - r) = r * r + PP * (PP - 2 * r) := by grind
    rw [this, Int.add_mul_emod_self_left]
  · rfl
theorem PP_odd : PP % 2 = 1 := by decide
theorem evenR_even2 (r : Int) : evenR r % 2 = 0 := by
  unfold evenR
  have := PP_odd
  split <;> omega
theorem sqrtR_sq (a : Int) : sqrtR (a * a % PP) * sqrtR (a * a % PP) % PP = a * a % PP ∧ sqrtR (a * a % PP) % 2 = 0 := by
  have key := (sqrt_sq a).2
  unfold sqrtR
  rw [Int.emod_emod]
  split
  · rename_i h; exact ⟨(evenR_sq _).trans h, evenR_even2 _⟩
  · rename_i h
    rcases key with h1 | h1
    · exact absurd h1 h
    · rw [if_pos h1]; exact ⟨(evenR_sq _).trans h1, evenR_even2 _⟩
end Go.Proofs.Ytmflilgppllebaa
