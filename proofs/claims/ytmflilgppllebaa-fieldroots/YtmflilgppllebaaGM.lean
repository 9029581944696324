/- The document's field: what its steps do to the number that digits stand for. -/
import Derived.Test.YtmflilgppllebaaGT
import Derived.Test.YtmflilgppllebaaGD
namespace Go.Proofs.Ytmflilgppllebaa
open Go.RowKit
set_option linter.unusedSimpArgs false
set_option linter.unusedVariables false
/-- The number of n digits. -/
def S (h : Nat → Int) : Nat → Int
  | 0 => 0
  | n + 1 => S h n + h n * 65536 ^ n
theorem S_congr {h g : Nat → Int} : ∀ {n : Nat}, (∀ j, j < n → h j = g j) → S h n = S g n
  | 0, _ => rfl
  | n + 1, e => by unfold S; rw [S_congr (fun j hj => e j (by omega)), e n (by omega)]
theorem S_add (h g : Nat → Int) : ∀ n : Nat, S (fun j => h j + g j) n = S h n + S g n
  | 0 => rfl
  | n + 1 => by unfold S; rw [S_add h g n, Int.add_mul]; omega
theorem S_mul (a : Int) (h : Nat → Int) : ∀ n : Nat, S (fun j => a * h j) n = a * S h n
  | 0 => by simp [S]
  | n + 1 => by unfold S; rw [S_mul a h n, Int.mul_add, Int.mul_assoc]
theorem S_zero : ∀ n : Nat, S (fun _ => 0) n = 0
  | 0 => rfl
  | n + 1 => by unfold S; rw [S_zero n]; simp
def Cn (h : Nat → Int) : Prop := ∀ j, j < 16 → 0 ≤ h j ∧ h j < 65536
theorem S_bd {h : Nat → Int} : ∀ {n : Nat}, (∀ j, j < n → 0 ≤ h j ∧ h j < 65536) → 0 ≤ S h n ∧ S h n < 65536 ^ n
  | 0, _ => by simp [S]
  | n + 1, e => by
    have ih := S_bd (n := n) (fun j hj => e j (by omega))
    have hn := e n (by omega)
    have hp : (0 : Int) < 65536 ^ n := Int.pow_pos (by decide)
    unfold S
    rw [Int.pow_succ]
    have h1 : 0 ≤ h n * 65536 ^ n := Int.mul_nonneg hn.1 (by omega)
    have h2 : h n * 65536 ^ n ≤ 65535 * 65536 ^ n := Int.mul_le_mul_of_nonneg_right (by omega) (by omega)
    omega
theorem S_dig (x : Int) : ∀ n : Nat, S (dig x) n = x % 65536 ^ n
  | 0 => by unfold S; rw [Int.pow_zero, Int.emod_one]
  | n + 1 => by
    unfold S
    rw [S_dig x n, Int.pow_succ]
    have hp : (0 : Int) < 65536 ^ n := Int.pow_pos (by decide)
    unfold dig
    generalize (65536 : Int) ^ n = p at *
    have e1 := Int.mul_ediv_add_emod x p
    have e2 := Int.mul_ediv_add_emod (x / p) 65536
    have hr := Int.emod_nonneg x (show p ≠ 0 by omega)
    have hr2 := Int.emod_lt_of_pos x hp
    have hq : 0 ≤ x / p % 65536 ∧ x / p % 65536 < 65536 := by omega
    generalize x % p = r at *
    generalize x / p = q at *
    generalize q % 65536 = s at *
    generalize q / 65536 = t at *
    have e : x = (r + s * p) + p * 65536 * t := by rw [← e1, ← e2]; grind
    have b1 : 0 ≤ s * p := Int.mul_nonneg hq.1 (by omega)
    have b2 : s * p ≤ 65535 * p := Int.mul_le_mul_of_nonneg_right (by omega) (by omega)
    rw [e, Int.add_mul_emod_self_left, Int.emod_eq_of_lt (by omega) (by omega)]
theorem dig_cn (x : Int) : Cn (dig x) := fun j _ => by unfold dig; omega
/-- Carry: c goes out of the last digit. -/
theorem S_tt (f : Nat → Int) : ∀ n : Nat, S (fun j => tt f j % 65536) (n + 1) + cc f n * 65536 ^ (n + 1) = S f (n + 1)
  | 0 => by simp [S, cc, tt]; omega
  | n + 1 => by
    have ih := S_tt f n
    have e1 : S (fun j => tt f j % 65536) (n + 1 + 1) = S (fun j => tt f j % 65536) (n + 1) + tt f (n + 1) % 65536 * 65536 ^ (n + 1) := rfl
    have e2 : S f (n + 1 + 1) = S f (n + 1) + f (n + 1) * 65536 ^ (n + 1) := rfl
    have e3 : tt f (n + 1) = f (n + 1) + cc f n := rfl
    have e4 : tt f (n + 1) % 65536 = tt f (n + 1) - 65536 * cc f (n + 1) := by unfold cc; omega
    rw [e1, e2, ← ih, e4, e3, Int.pow_succ (n := n + 1)]
    grind
theorem S_first (h : Nat → Int) (x : Int) : ∀ n : Nat, S (fun j => if j = 0 then h 0 + x else h j) (n + 1) = S h (n + 1) + x
  | 0 => by simp [S]
  | n + 1 => by
    have ih := S_first h x n
    have e1 : S (fun j => if j = 0 then h 0 + x else h j) (n + 1 + 1) = S (fun j => if j = 0 then h 0 + x else h j) (n + 1) + h (n + 1) * 65536 ^ (n + 1) := rfl
    have e2 : S h (n + 1 + 1) = S h (n + 1) + h (n + 1) * 65536 ^ (n + 1) := rfl
    rw [e1, ih, e2]; omega
def M2 : Int := 115792089237316195423570985008687907853269984665640564039457584007913129639898
theorem pow16 : (65536 : Int) ^ 16 = 115792089237316195423570985008687907853269984665640564039457584007913129639936 := by decide
theorem S_caF (f : Nat → Int) : S (caF f) 16 = S f 16 - M2 * cc f 15 := by
  have h : S (fun j => tt f j % 65536) 16 + cc f 15 * 65536 ^ 16 = S f 16 := S_tt f 15
  have e : S (caF f) 16 = S (fun j => tt f j % 65536) 16 + 38 * cc f 15 := by
    rw [← S_first (fun j => tt f j % 65536) (38 * cc f 15) 15]
    exact S_congr (fun j _ => by unfold caF; rfl)
  rw [pow16] at h
  rw [e, ← h]
  unfold M2
  omega
/-- What goes out is the quotient. -/
theorem cc_quo (f : Nat → Int) : cc f 15 = S f 16 / 65536 ^ 16 := by
  have h : S (fun j => tt f j % 65536) 16 + cc f 15 * 65536 ^ 16 = S f 16 := S_tt f 15
  have hb := S_bd (h := fun j => tt f j % 65536) (n := 16) (fun j _ => by omega)
  rw [pow16] at *
  omega
theorem caF_rest (f : Nat → Int) (j : Nat) (h : 0 < j) : 0 ≤ caF f j ∧ caF f j < 65536 := by
  unfold caF; rw [if_neg (by omega)]; omega
theorem caF_first (f : Nat → Int) : 38 * cc f 15 ≤ caF f 0 ∧ caF f 0 < 65536 + 38 * cc f 15 := by
  unfold caF; rw [if_pos rfl]; omega
/-- The product. -/
theorem S_shift (a : Int) (g : Nat → Int) (i : Nat) : ∀ m : Nat, m ≤ 16 → S (fun j => if i ≤ j ∧ j < i + 16 then a * g (j - i) else 0) (i + m) = a * 65536 ^ i * S g m
  | 0, _ => by
    rw [S_congr (g := fun _ => 0) (fun j hj => by rw [if_neg (by omega)]), S_zero]; simp [S]
  | m + 1, hm => by
    have ih := S_shift a g i m (by omega)
    have e1 : S (fun j => if i ≤ j ∧ j < i + 16 then a * g (j - i) else 0) (i + (m + 1)) = S (fun j => if i ≤ j ∧ j < i + 16 then a * g (j - i) else 0) (i + m) + (if i ≤ i + m ∧ i + m < i + 16 then a * g (i + m - i) else 0) * 65536 ^ (i + m) := rfl
    have e2 : S g (m + 1) = S g m + g m * 65536 ^ m := rfl
    rw [e1, ih, e2, if_pos (by omega), show i + m - i = m from by omega, Int.pow_add]
    grind
theorem S_shift_on (a : Int) (g : Nat → Int) (i : Nat) : ∀ m : Nat, S (fun j => if i ≤ j ∧ j < i + 16 then a * g (j - i) else 0) (i + 16 + m) = a * 65536 ^ i * S g 16
  | 0 => S_shift a g i 16 (by omega)
  | m + 1 => by
    have ih := S_shift_on a g i m
    have e1 : S (fun j => if i ≤ j ∧ j < i + 16 then a * g (j - i) else 0) (i + 16 + (m + 1)) = S (fun j => if i ≤ j ∧ j < i + 16 then a * g (j - i) else 0) (i + 16 + m) + (if i ≤ i + 16 + m ∧ i + 16 + m < i + 16 then a * g (i + 16 + m - i) else 0) * 65536 ^ (i + 16 + m) := rfl
    rw [e1, ih, if_neg (by omega)]; omega
theorem S_acc (f g : Nat → Int) : ∀ i : Nat, i ≤ 15 + 1 → S (acc f g i) 31 = S f i * S g 16
  | 0, _ => by
    have : S (acc f g 0) 31 = S (fun _ => 0) 31 := S_congr (fun j _ => rfl)
    rw [this, S_zero]; simp [S]
  | i + 1, hi => by
    have ih := S_acc f g i (by omega)
    have e1 : S (acc f g (i + 1)) 31 = S (fun j => acc f g i j + (if i ≤ j ∧ j < i + 16 then f i * g (j - i) else 0)) 31 := S_congr (fun j _ => rfl)
    have e2 := S_shift_on (f i) g i (15 - i)
    rw [show i + 16 + (15 - i) = 31 from by omega] at e2
    rw [e1, S_add, ih, e2]
    have e3 : S f (i + 1) = S f i + f i * 65536 ^ i := rfl
    rw [e3]; grind
theorem S_split (h : Nat → Int) (n : Nat) : ∀ m : Nat, S h (n + m) = S h n + 65536 ^ n * S (fun j => h (j + n)) m
  | 0 => by simp [S]
  | m + 1 => by
    have ih := S_split h n m
    have e1 : S h (n + (m + 1)) = S h (n + m) + h (n + m) * 65536 ^ (n + m) := rfl
    have e2 : S (fun j => h (j + n)) (m + 1) = S (fun j => h (j + n)) m + h (m + n) * 65536 ^ m := rfl
    rw [e1, ih, e2, Int.pow_add, Nat.add_comm m n]; grind
theorem S_foF (f g : Nat → Int) : ∃ q : Int, S (foF f g) 16 = S f 16 * S g 16 + M2 * q := by
  have h := S_acc f g 16 (by omega)
  have hs := S_split (acc f g 16) 16 15
  rw [show (16 : Nat) + 15 = 31 from rfl, h] at hs
  have e1 : S (foF f g) 16 = S (acc f g 16) 16 + S (fun j => if j < 15 then 38 * acc f g 16 (j + 16) else 0) 16 := by
    rw [← S_add]; exact S_congr (fun j _ => rfl)
  have e2 : S (fun j => if j < 15 then 38 * acc f g 16 (j + 16) else 0) 16 = S (fun j => if j < 15 then 38 * acc f g 16 (j + 16) else 0) 15 := by
    have : S (fun j => if j < 15 then 38 * acc f g 16 (j + 16) else 0) 16 = S (fun j => if j < 15 then 38 * acc f g 16 (j + 16) else 0) 15 + (if 15 < 15 then 38 * acc f g 16 (15 + 16) else 0) * 65536 ^ 15 := rfl
    rw [this, if_neg (by omega)]; omega
  have e3 : S (fun j => if j < 15 then 38 * acc f g 16 (j + 16) else 0) 15 = 38 * S (fun j => acc f g 16 (j + 16)) 15 := by
    rw [← S_mul]; exact S_congr (fun j hj => by rw [if_pos hj])
  refine ⟨-(S (fun j => acc f g 16 (j + 16)) 15), ?_⟩
  rw [e1, e2, e3]
  rw [pow16] at hs
  unfold M2
  generalize S (fun j => acc f g 16 (j + 16)) 15 = y at *
  generalize S (acc f g 16) 16 = x at *
  generalize S f 16 * S g 16 = z at *
  omega
end Go.Proofs.Ytmflilgppllebaa
