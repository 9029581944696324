/- Quotient and what is left make the number: plain arithmetic. -/
import Derived.Test.YtjbdfmepeniglabX6
import Derived.Test.YtjbdfmepeniglabZ1
import Derived.Test.YtjbdfmepeniglabO1
namespace Go.Proofs.Ytjbdfmepeniglab
open Go.RowKit
set_option linter.unusedVariables false
theorem emul (x y : Int) : ((x % T256) * y) % T256 = (x * y) % T256 := by
  rw [Int.mul_emod, Int.emod_emod_of_dvd _ (Int.dvd_refl _), ← Int.mul_emod]
theorem emod_of {x a : Int} (m : Int) (ha : 0 ≤ a ∧ a < T256) (h : x = a + T256 * m) : x % T256 = a := by
  rw [h, Int.add_mul_emod_self_left]; exact Int.emod_eq_of_lt ha.1 ha.2
/-- Quotient and what is left, plain. -/
theorem whole {a b : Int} (ha : 0 ≤ a ∧ a < T256) (hb : 0 < b) : ((quoN a b * b) % T256 + remN a b) % T256 = a := by
  unfold quoN remN
  rw [if_neg (by omega), Int.emod_add_emod]
  refine emod_of 0 ha ?_
  have := Int.mul_ediv_add_emod a b
  rw [Int.mul_comm (a / b)]; omega
theorem size_of {x : Int} (hx : 0 ≤ x ∧ x < T256) : (neg x = true ∧ sizeN x = T256 - x) ∨ (neg x = false ∧ sizeN x = x) := by
  by_cases h : neg x = true
  · left
    refine ⟨h, ?_⟩
    unfold sizeN minusN
    rw [if_pos h]
    have h0 : 0 < x := by
      unfold neg at h; simp at h; omega
    exact emod_of (-1) ⟨by omega, by omega⟩ (by omega)
  · right
    have h' : neg x = false := by simpa using h
    exact ⟨h', by unfold sizeN; rw [if_neg h]⟩
theorem size_pos' {x : Int} (hx : 0 ≤ x ∧ x < T256) (h : 0 < x) : 0 < sizeN x := by
  rcases size_of hx with ⟨_, e⟩ | ⟨_, e⟩ <;> omega
/-- Quotient and what is left, signed. -/
theorem swhole {a b : Int} (ha : 0 ≤ a ∧ a < T256) (hb : 0 ≤ b ∧ b < T256) (h0 : 0 < b) : ((sdivN a b * b) % T256 + smodN a b) % T256 = a := by
  have hp := size_pos' hb h0
  have hq := Int.mul_ediv_add_emod (sizeN a) (sizeN b)
  unfold sdivN smodN quoN remN minusN
  rw [if_neg (show ¬ sizeN b = 0 by omega)]
  generalize sizeN a / sizeN b = q at *
  generalize sizeN a % sizeN b = r at *
  have d1 : ∀ y : Int, (0 - q) * y = - (q * y) := fun y => by rw [Int.zero_sub, Int.neg_mul]
  have d2 : q * (T256 - b) = q * T256 - q * b := Int.mul_sub _ _ _
  have d3 : (T256 - b) * q = q * (T256 - b) := Int.mul_comm _ _
  have d4 : b * q = q * b := Int.mul_comm _ _
  have d5 : T256 * q = q * T256 := Int.mul_comm _ _
  rcases size_of ha with ⟨na, sa⟩ | ⟨na, sa⟩ <;> rcases size_of hb with ⟨nb, sb⟩ | ⟨nb, sb⟩ <;> rw [na, nb] <;> rw [sa, sb] at hq
  · simp only [Bool.xor_self, Bool.false_eq_true, if_false, if_true]
    rw [Int.emod_add_emod, Int.add_emod_emod]
    refine emod_of (q - 1) ha ?_
    rw [Int.mul_sub, Int.mul_one]; omega
  · simp only [Bool.xor_false, if_true]
    rw [emul, Int.emod_add_emod, Int.add_emod_emod, d1]
    exact emod_of (-1) ha (by omega)
  · simp only [Bool.false_xor, Bool.false_eq_true, if_true, if_false]
    rw [emul, Int.emod_add_emod, d1]
    refine emod_of (-q) ha ?_
    rw [Int.mul_neg]; omega
  · simp only [Bool.xor_self, Bool.false_eq_true, if_false]
    rw [Int.emod_add_emod]
    exact emod_of 0 ha (by omega)
theorem two_lt (n : Nat) (h : n < 256) : (2 : Int) ^ n % T256 = 2 ^ n ∧ (0 : Int) < 2 ^ n := by
  have hp : (0 : Int) < 2 ^ n := Int.pow_pos (by decide)
  have h1 : (2 : Int) ^ n * 1 < 2 ^ n * 2 ^ (256 - n) := Int.mul_lt_mul_of_pos_left (by
    have : (1 : Int) < 2 ^ (256 - n) := by
      have e : (2 : Int) ^ (256 - n) = 2 ^ (255 - n) * 2 := by rw [← Int.pow_succ]; congr 1; omega
      have : (0 : Int) < 2 ^ (255 - n) := Int.pow_pos (by decide)
      omega
    exact this) hp
  rw [← Int.pow_add, show n + (256 - n) = 256 from by omega] at h1
  have e : (2 : Int) ^ 256 = T256 := by decide
  exact ⟨Int.emod_eq_of_lt (Int.le_of_lt hp) (by omega), hp⟩
theorem shl_two (n : Nat) (h : n < 256) (a : Int) : (a * (2 ^ n % T256)) % T256 = shlN n a := by
  rw [(two_lt n h).1]; unfold shlN; rw [if_pos (by omega)]; rfl
theorem shr_two (n : Nat) (h : n < 256) (a : Int) : quoN a (2 ^ n % T256) = shrN n a := by
  rw [(two_lt n h).1]; unfold shrN quoN; rw [if_pos (by omega)]; rfl
/-- The digits of a number. -/
def digs (X : Int) (l : Nat) : List Int := (List.range l).map fun k => X / 256 ^ k % 256
theorem digs_len (X : Int) (l : Nat) : (digs X l).length = l := by simp [digs]
theorem digs_getD (X : Int) (l k : Nat) (h : k < l) : (digs X l).getD k 0 = X / 256 ^ k % 256 := by simp [digs, List.getD, h]
theorem digs_byt (X : Int) (l : Nat) : Byt (digs X l) := fun k => by
  rcases Nat.lt_or_ge k l with h | h
  · rw [digs_getD X l k h]; omega
  · have : (digs X l).getD k 0 = 0 := by simp only [List.getD]; rw [List.getElem?_eq_none (by rw [digs_len]; exact h)]; rfl
    rw [this]; exact ⟨by decide, by decide⟩
theorem modmul (n P : Int) (hP : 0 < P) : n % P + P * (n / P % 256) = n % (P * 256) := by
  have h1 := Int.mul_ediv_add_emod n P
  have h2 := Int.emod_nonneg n (Int.ne_of_gt hP)
  have h3 := Int.emod_lt_of_pos n hP
  generalize n / P = q at *
  generalize n % P = r at *
  have h5 : 0 ≤ q % 256 := by omega
  have h6 : q % 256 ≤ 255 := by omega
  have h7 : n = (r + P * (q % 256)) + P * 256 * (q / 256) := by
    rw [← h1, Int.mul_assoc]
    have : P * q = P * (256 * (q / 256) + q % 256) := by congr 1; omega
    rw [Int.mul_add] at this
    omega
  have h8 : P * (q % 256) ≤ P * 255 := Int.mul_le_mul_of_nonneg_left h6 (by omega)
  have h9 : 0 ≤ P * (q % 256) := Int.mul_nonneg (by omega) h5
  rw [h7, Int.add_mul_emod_self_left]
  exact (Int.emod_eq_of_lt (by omega) (by omega)).symm
theorem digs_take (X : Int) (l : Nat) : ∀ k, k ≤ l → valB ((digs X l).take k) = X % 256 ^ k
  | 0, _ => by simp [valB, Int.emod_one]
  | k + 1, h => by
    rw [valB_take_succ, digs_take X l k (by omega), digs_getD X l k (by omega), Int.pow_succ]
    exact modmul X _ (Int.pow_pos (by decide))
theorem digs_val {X : Int} {l : Nat} (h0 : 0 ≤ X) (h : X < 256 ^ l) : valB (digs X l) = X := by
  have := digs_take X l l (Nat.le_refl _)
  rw [valB_take_all _ _ (by rw [digs_len]; exact Nat.le_refl _)] at this
  rw [this, Int.emod_eq_of_lt h0 h]
end Go.Proofs.Ytjbdfmepeniglab
