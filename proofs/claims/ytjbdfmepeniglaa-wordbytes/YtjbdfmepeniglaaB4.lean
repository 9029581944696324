/- The document's shifts and signs: plain arithmetic. -/
import Derived.Test.YtjbdfmepeniglaaB3
import Derived.Test.YtjbdfmepeniglaaQ2
namespace Go.Proofs.Ytjbdfmepeniglaa
open Go.RowKit
set_option linter.unusedVariables false
theorem small_le (x : Int) (m : Nat) : smallN x m ≤ m := by
  unfold smallN; split <;> omega
theorem small_lt {x : Int} {m K : Nat} (h0 : 0 ≤ x) (h : smallN x m = K) (hK : K ≠ m) : x = K ∧ x < m := by
  unfold smallN at h; split at h <;> omega
theorem small_eq {x : Int} {m : Nat} (h0 : 0 ≤ x) (h : smallN x m = m) : (m : Int) ≤ x := by
  unfold smallN at h; split at h <;> omega
theorem shl_val {n x : Int} {K : Nat} (h : n = K) (h1 : n < 256) : (x * 2 ^ K) % T256 = shlN n x := by
  unfold shlN; rw [if_pos h1, show n.toNat = K from by omega]
theorem shl_zero {n x : Int} (h : 256 ≤ n) : 0 = shlN n x := by
  unfold shlN; rw [if_neg (by omega)]
theorem two_le {j k : Nat} (h : j ≤ k) : (2 : Int) ^ j ≤ 2 ^ k := by
  have := Nat.pow_le_pow_right (n := 2) (by decide) h
  have e : ∀ k : Nat, (2 : Int) ^ k = ((2 ^ k : Nat) : Int) := fun k => by simp
  rw [e, e]; omega
theorem shr_K {n y : Int} {K : Nat} (h0 : 0 ≤ n) (hy : 0 ≤ y ∧ y < T256) (h : smallN n 256 = K) : y / 2 ^ K = shrN n y := by
  unfold shrN
  unfold smallN at h
  split at h
  · rw [if_pos (by omega), h]
  · rw [if_neg (by omega), ← h, two256, Int.ediv_eq_zero_of_lt hy.1 hy.2]
theorem shr_bd {n y : Int} (h0 : 0 ≤ n) (hy : 0 ≤ y ∧ y < T256) : 0 ≤ shrN n y ∧ shrN n y < T256 := by
  rw [← shr_K h0 hy rfl]
  have hP := pow_pos' (smallN n 256)
  have h1 := Int.ediv_le_self (2 ^ (smallN n 256)) hy.1
  exact ⟨Int.ediv_nonneg hy.1 (Int.le_of_lt hP), by omega⟩
theorem shr_val {n y : Int} {K : Nat} (h0 : 0 ≤ n) (hy : 0 ≤ y ∧ y < T256) (h : smallN n 256 = K) : (y / 2 ^ K) % T256 = shrN n y := by
  have := shr_bd h0 hy
  rw [shr_K h0 hy h, Int.emod_eq_of_lt this.1 this.2]
theorem turned (x P R : Int) (hP : 0 < P) (h : P * R = T256) : T256 - 1 - (T256 - 1 - x) / P = x / P + (T256 - R) := by
  have h1 := Int.mul_ediv_add_emod x P
  have h2 := Int.emod_nonneg x (Int.ne_of_gt hP)
  have h3 := Int.emod_lt_of_pos x hP
  generalize x / P = q at *
  generalize x % P = r at *
  have e : T256 - 1 - x = (P - 1 - r) + P * (R - q - 1) := by rw [Int.mul_sub, Int.mul_sub, h, Int.mul_one, ← h1]; omega
  rw [e, Int.add_mul_ediv_left _ _ (Int.ne_of_gt hP), Int.ediv_eq_zero_of_lt (by omega) (by omega)]
  omega
theorem pow_parts {K : Nat} (h : K ≤ 256) : (2 : Int) ^ K * 2 ^ (256 - K) = T256 := by
  rw [← Int.pow_add, show K + (256 - K) = 256 from by omega, two256]
theorem sar_minus_val {n x r : Int} {K : Nat} (h0 : 0 ≤ n) (hx : 0 ≤ x ∧ x < T256) (hneg : neg x = true) (h : smallN n 256 = K) (hr : r = (shrN n x + (2 ^ 256 - 2 ^ (256 - K))) % T256) : r = sarN n x := by
  have hK : K ≤ 256 := by rw [← h]; exact small_le _ _
  have hP := pow_pos' K
  have e := turned x (2 ^ K) (2 ^ (256 - K)) hP (pow_parts hK)
  have e1 := shr_K h0 hx h
  have e2 := shr_K h0 (y := T256 - 1 - x) ⟨by omega, by omega⟩ h
  have e3 := shr_bd (n := n) h0 (y := T256 - 1 - x) ⟨by omega, by omega⟩
  unfold sarN
  rw [if_pos hneg, hr, two256, ← e1, ← e, e2]
  exact Int.emod_eq_of_lt (by omega) (by omega)
theorem sar_plus_val {n x r : Int} (hneg : neg x = false) (hr : r = shrN n x) : r = sarN n x := by
  unfold sarN; rw [hneg]; simp [hr]
theorem sar_ok {K : Nat} (h : K ≤ 256) : (0 : Int) < 2 ^ 256 ∧ (2 : Int) ^ (256 - K) ≤ 2 ^ 256 := ⟨by decide, two_le (by omega)⟩
/-- x as a signed number of k + 1 bytes. -/
def seN (k x : Int) : Int := if 31 ≤ k then x else sarN (8 * (31 - k)) (shlN (8 * (31 - k)) x)
theorem half_bit (x H : Int) (hH : 0 < H) : (x / H % 2 = 1 → H ≤ x % (2 * H)) ∧ (x / H % 2 = 0 → x % (2 * H) < H) := by
  have h1 := Int.mul_ediv_add_emod x H
  have h2 := Int.emod_nonneg x (Int.ne_of_gt hH)
  have h3 := Int.emod_lt_of_pos x hH
  generalize x / H = q at *
  generalize x % H = r at *
  have key : x = (r + H * (q % 2)) + 2 * H * (q / 2) := by
    have : H * q = H * (2 * (q / 2) + q % 2) := by congr 1; omega
    rw [Int.mul_add] at this
    have e : H * (2 * (q / 2)) = 2 * H * (q / 2) := by rw [← Int.mul_assoc, Int.mul_comm H 2]
    omega
  refine ⟨fun h => ?_, fun h => ?_⟩
  · rw [key, Int.add_mul_emod_self_left, h, Int.emod_eq_of_lt (by omega) (by omega)]; omega
  · rw [key, Int.add_mul_emod_self_left, h, Int.emod_eq_of_lt (by omega) (by omega)]; omega
theorem se_parts (k : Nat) (h : k < 31) (x : Int) : shlN (8 * (31 - (k : Int))) x = (x % 2 ^ (8 * k + 8)) * 2 ^ (8 * (31 - k)) ∧ (2 : Int) ^ (8 * (31 - k)) * 2 ^ (8 * k + 8) = T256 := by
  have hp : (2 : Int) ^ (8 * (31 - k)) * 2 ^ (8 * k + 8) = T256 := by rw [← Int.pow_add, show 8 * (31 - k) + (8 * k + 8) = 256 from by omega, two256]
  refine ⟨?_, hp⟩
  unfold shlN
  rw [if_pos (by omega), show (8 * (31 - (k : Int))).toNat = 8 * (31 - k) from by omega, ← hp, Int.mul_comm x, Int.mul_emod_mul_of_pos _ _ (pow_pos' _), Int.mul_comm]
theorem se_val (k : Nat) (h : k < 31) (x : Int) : (x / 2 ^ (8 * k + 7) % 2 = 1 → seN k x = x % 2 ^ (8 * k + 8) + (T256 - 2 ^ (8 * k + 8))) ∧ (x / 2 ^ (8 * k + 7) % 2 = 0 → seN k x = x % 2 ^ (8 * k + 8)) := by
  obtain ⟨e1, hp⟩ := se_parts k h x
  have hH := pow_pos' (8 * k + 7)
  have hP := pow_pos' (8 * (31 - k))
  have hQ := pow_pos' (8 * k + 8)
  obtain ⟨g1, g0⟩ := half_bit x (2 ^ (8 * k + 7)) hH
  have eQ : (2 : Int) ^ (8 * k + 8) = 2 * 2 ^ (8 * k + 7) := by rw [show 8 * k + 8 = (8 * k + 7) + 1 from rfl, Int.pow_succ, Int.mul_comm]
  rw [← eQ] at g1 g0
  have l0 := Int.emod_nonneg x (Int.ne_of_gt hQ)
  have l1 := Int.emod_lt_of_pos x hQ
  have e7 : (2 : Int) ^ (8 * (31 - k)) * 2 ^ (8 * k + 7) = 57896044618658097711785492504343953926634992332820282019728792003956564819968 := by
    rw [← Int.pow_add, show 8 * (31 - k) + (8 * k + 7) = 255 from by omega]; decide
  unfold seN
  rw [if_neg (by omega), e1]
  generalize x % 2 ^ (8 * k + 8) = low at *
  have hy : 0 ≤ low * 2 ^ (8 * (31 - k)) ∧ low * 2 ^ (8 * (31 - k)) < T256 := by
    refine ⟨Int.mul_nonneg l0 (Int.le_of_lt hP), ?_⟩
    rw [← hp, Int.mul_comm]
    exact Int.mul_lt_mul_of_pos_left l1 hP
  have hs : smallN (8 * (31 - (k : Int))) 256 = 8 * (31 - k) := by unfold smallN; rw [if_pos (by omega)]; omega
  have hd : low * 2 ^ (8 * (31 - k)) / 2 ^ (8 * (31 - k)) = low := Int.mul_ediv_cancel _ (Int.ne_of_gt hP)
  refine ⟨fun hb => ?_, fun hb => ?_⟩
  · have hn : neg (low * 2 ^ (8 * (31 - k))) = true := by
      have : (2 : Int) ^ (8 * (31 - k)) * 2 ^ (8 * k + 7) ≤ 2 ^ (8 * (31 - k)) * low := Int.mul_le_mul_of_nonneg_left (g1 hb) (Int.le_of_lt hP)
      unfold neg; simp; rw [Int.mul_comm low]; omega
    have e := turned (low * 2 ^ (8 * (31 - k))) _ _ hP hp
    unfold sarN
    rw [if_pos hn, ← shr_K (by omega) (y := T256 - 1 - low * 2 ^ (8 * (31 - k))) ⟨by omega, by omega⟩ hs, e, hd]
  · have hn : neg (low * 2 ^ (8 * (31 - k))) = false := by
      have : (2 : Int) ^ (8 * (31 - k)) * low < 2 ^ (8 * (31 - k)) * 2 ^ (8 * k + 7) := Int.mul_lt_mul_of_pos_left (g0 hb) hP
      unfold neg; simp; rw [Int.mul_comm low]; omega
    unfold sarN
    rw [hn]
    simp only [Bool.false_eq_true, if_false]
    rw [← shr_K (by omega) hy hs, hd]
theorem se_low {k : Nat} (h : k < 31) (x : Int) : 0 ≤ x % 2 ^ (8 * k + 8) ∧ x % 2 ^ (8 * k + 8) < 2 ^ (8 * k + 8) ∧ (2 : Int) ^ (8 * k + 8) ≤ 2 ^ 256 := ⟨Int.emod_nonneg x (Int.ne_of_gt (pow_pos' _)), Int.emod_lt_of_pos x (pow_pos' _), two_le (by omega)⟩
theorem se_one {k : Nat} {x r : Int} (h : k < 31) (hb : x / 2 ^ (8 * k + 7) % 2 = 1) (hr : r = (x % 2 ^ (8 * k + 8) + (2 ^ 256 - 2 ^ (8 * k + 8))) % T256) : r = seN k x := by
  obtain ⟨l0, l1, l2⟩ := se_low h x
  rw [two256] at *
  rw [(se_val k h x).1 hb, hr]
  exact Int.emod_eq_of_lt (by omega) (by omega)
theorem se_nil {k : Nat} {x r : Int} (h : k < 31) (hb : x / 2 ^ (8 * k + 7) % 2 = 0) (hr : r = (x % 2 ^ (8 * k + 8)) % T256) : r = seN k x := by
  obtain ⟨l0, l1, l2⟩ := se_low h x
  rw [two256] at *
  rw [(se_val k h x).2 hb, hr]
  exact Int.emod_eq_of_lt (by omega) (by omega)
/-- The byte number k of x, from the highest on. -/
def byN (k x : Int) : Int := if k < 32 then x / 256 ^ (31 - k).toNat % 256 else 0
end Go.Proofs.Ytjbdfmepeniglaa
