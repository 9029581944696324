/- field.bit. -/
import Derived.Test.YtmflilgppllebaaFD
namespace Go.Proofs.Ytmflilgppllebaa
open Go.RowKit
set_option linter.unusedSimpArgs false
set_option linter.unusedVariables false

theorem fand_1 (x : Int) (h0 : 0 ≤ x) (h1 : x < 18446744073709551616) : bits .and .u64 x 1 = x % 2 := by
  rw [u64_and x 1 h0 h1 (by decide) (by decide), show (1 : Int).toNat = 2 ^ 1 - 1 from by decide, Nat.and_two_pow_sub_one_eq_mod]
  omega
theorem fpow_pos (r : Nat) : (0 : Int) < 2 ^ r := Int.pow_pos (by decide)
theorem fdiv_limb {x : Int} (h : Limb x) (r : Nat) : 0 ≤ x / 2 ^ r ∧ x / 2 ^ r < 18446744073709551616 := by
  have hp := fpow_pos r
  refine ⟨Int.ediv_nonneg h.1 (by omega), ?_⟩
  have : x / 2 ^ r ≤ x := Int.ediv_le_self _ h.1
  have := h.2
  omega
/-- A bit of x + 2^64 y is that of x. -/
theorem flow_bit (x y : Int) (r : Nat) (hr : r < 64) : ((x + 18446744073709551616 * y) / 2 ^ r) % 2 = (x / 2 ^ r) % 2 := by
  have e : (18446744073709551616 : Int) = 2 ^ r * (2 * 2 ^ (63 - r)) := by
    have h : (2 : Int) ^ r * (2 * 2 ^ (63 - r)) = 2 ^ (r + 1 + (63 - r)) := by rw [Int.pow_add, Int.pow_add, Int.pow_one, Int.mul_assoc]
    rw [h, show r + 1 + (63 - r) = 64 from by omega]
    decide
  rw [e, Int.mul_assoc, Int.mul_assoc, Int.add_mul_ediv_left _ _ (by have := fpow_pos r; omega)]
  omega
theorem fshift_down (x y : Int) (h : Limb x) (j : Nat) : (x + 18446744073709551616 * y) / 2 ^ (64 + j) = y / 2 ^ j := by
  have e : (2 : Int) ^ (64 + j) = 18446744073709551616 * 2 ^ j := by rw [Int.pow_add]; congr 1
  rw [e, ← Int.ediv_ediv_of_nonneg (by decide)]
  congr 1
  have := h.1; have := h.2
  omega
/-- The bits of a word, limb by limb. -/
def limbOf (a0 a1 a2 a3 : Int) (q : Nat) : Int := if q = 0 then a0 else if q = 1 then a1 else if q = 2 then a2 else a3
theorem fbit_num (a0 a1 a2 a3 : Int) (ha : L4 a0 a1 a2 a3) (j : Nat) (hj : j < 256) : (num a0 a1 a2 a3 / 2 ^ j) % 2 = (limbOf a0 a1 a2 a3 (j / 64) / 2 ^ (j % 64)) % 2 := by
  have n0 : num a0 a1 a2 a3 = a0 + 18446744073709551616 * (a1 + 18446744073709551616 * (a2 + 18446744073709551616 * a3)) := by unfold num; omega
  rw [n0]
  obtain ⟨h0, h1, h2, h3⟩ := ha
  have hr : j % 64 < 64 := by omega
  by_cases q0 : j / 64 = 0
  · rw [q0]
    have e : j = j % 64 := by omega
    rw [show limbOf a0 a1 a2 a3 0 = a0 from rfl, ← flow_bit a0 _ (j % 64) hr, ← e]
  · by_cases q1 : j / 64 = 1
    · rw [q1]
      have e : j = 64 + j % 64 := by omega
      rw [show limbOf a0 a1 a2 a3 1 = a1 from rfl, ← flow_bit a1 _ (j % 64) hr]
      conv => lhs; rw [e]
      rw [fshift_down _ _ h0]
    · by_cases q2 : j / 64 = 2
      · rw [q2]
        have e : j = 64 + (64 + j % 64) := by omega
        rw [show limbOf a0 a1 a2 a3 2 = a2 from rfl, ← flow_bit a2 _ (j % 64) hr]
        conv => lhs; rw [e]
        rw [fshift_down _ _ h0, fshift_down _ _ h1]
      · have q3 : j / 64 = 3 := by omega
        rw [q3]
        have e : j = 64 + (64 + (64 + j % 64)) := by omega
        rw [show limbOf a0 a1 a2 a3 3 = a3 from rfl]
        conv => lhs; rw [e]
        rw [fshift_down _ _ h0, fshift_down _ _ h1, fshift_down _ _ h2]
theorem fcell4 (w : World) (a0 a1 a2 a3 : Int) (q : Nat) (hq : q < 4) : (w.alloc (.cells #[.int .u64 a0, .int .u64 a1, .int .u64 a2, .int .u64 a3] 24)).cell? ⟨w.heap.size, q, none⟩ = some (.int .u64 (limbOf a0 a1 a2 a3 q)) := by
  rw [cell_of_row _ w.heap.size q _ 24 (0, 0) (heap_alloc_new _ _)]
  match q, hq with
  | 0, _ => rfl
  | 1, _ => rfl
  | 2, _ => rfl
  | 3, _ => rfl
theorem limbOf_limb {a0 a1 a2 a3 : Int} (ha : L4 a0 a1 a2 a3) (q : Nat) : Limb (limbOf a0 a1 a2 a3 q) := by
  unfold limbOf
  split
  · exact ha.1
  · split
    · exact ha.2.1
    · split
      · exact ha.2.2.1
      · exact ha.2.2.2
set_option maxHeartbeats 1000000 in
/-- field.bit -/
theorem bit_any (a0 a1 a2 a3 : Int) (ha : L4 a0 a1 a2 a3) (j : Nat) (hj : j < 256) (w : World) :
    Calls Try.prog 46 #[W4 a0 a1 a2 a3, .int .i64 (j : Int)] w fun e w' => e = .returned (.bool (decide ((num a0 a1 a2 a3 / 2 ^ j) % 2 = 1))) ∧ Below w.heap.size w w' := by
  have hc := fcell4 w a0 a1 a2 a3 (j / 64) (by omega)
  have hL := limbOf_limb ha (j / 64)
  have hd := fdiv_limb hL (j % 64)
  have hand := fand_1 _ hd.1 hd.2
  rw [← fbit_num a0 a1 a2 a3 ha j hj] at hand
  generalize (num a0 a1 a2 a3 / 2 ^ j) % 2 = B at hand ⊢
  generalize limbOf a0 a1 a2 a3 (j / 64) = x at *
  unfold W4
  clear ha hL hd
  go_enter Try.func46, Try.ntmps46
  go_wp2
  go_ret
  refine ⟨?_, by go_grown⟩
  congr 2
end Go.Proofs.Ytmflilgppllebaa
