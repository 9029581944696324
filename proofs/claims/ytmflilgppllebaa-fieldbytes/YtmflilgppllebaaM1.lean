/- Plain arithmetic of limbs that are shifted: no Go in sight. -/
import Derived.Test.YtmflilgppllebaaBase
namespace Go.Proofs.Ytmflilgppllebaa
open Go.RowKit

theorem pow_split (r : Int) (h0 : 0 ≤ r) (h1 : r < 64) : (2 : Int) ^ r.toNat * 2 ^ (64 - r).toNat = 18446744073709551616 := by
  rw [← Int.pow_add, show r.toNat + (64 - r).toNat = 64 from by omega]
  decide
theorem pow_pos' (n : Nat) : 0 < (2 : Int) ^ n := Int.pow_pos (by decide)
/-- What stays of a limb that is shifted up, and what goes beyond. -/
theorem up_parts (x r : Int) (h0 : 0 ≤ r) (h1 : r < 64) : x * 2 ^ r.toNat = IntKind.u64.wrap (x * 2 ^ r.toNat) + 18446744073709551616 * (x / 2 ^ (64 - r).toNat) := by
  have hp := pow_split r h0 h1
  have h3 : x / 2 ^ (64 - r).toNat = x * 2 ^ r.toNat / 18446744073709551616 := by
    rw [← hp, Int.mul_comm x, Int.mul_ediv_mul_of_pos _ _ (pow_pos' _)]
  rw [h3, IntKind.wrap_u64]
  omega
theorem up_bd (x r : Int) (h0 : 0 ≤ r) (h1 : r < 64) (hx : Limb x) : 0 ≤ x / 2 ^ (64 - r).toNat ∧ x / 2 ^ (64 - r).toNat < 2 ^ r.toNat := by
  have hp := pow_split r h0 h1
  have hq := pow_pos' (64 - r).toNat
  refine ⟨Int.ediv_nonneg hx.1 (Int.le_of_lt hq), ?_⟩
  apply Int.ediv_lt_of_lt_mul hq
  rw [hp]; exact hx.2
/-- The two parts of a limb shifted up meet nowhere. -/
theorem up_or (x y r : Int) (h0 : 0 ≤ r) (h1 : r < 64) (hx : Limb x) (hy : Limb y) :
    bits .or .u64 (IntKind.u64.wrap (x * 2 ^ r.toNat)) (y / 2 ^ (64 - r).toNat) = IntKind.u64.wrap (x * 2 ^ r.toNat) + y / 2 ^ (64 - r).toNat := by
  obtain ⟨hy0, hy1⟩ := up_bd y r h0 h1 hy
  have hp := pow_split r h0 h1
  obtain ⟨x, rfl⟩ := Int.eq_ofNat_of_zero_le hx.1
  obtain ⟨h, hh⟩ := Int.eq_ofNat_of_zero_le hy0
  rw [hh] at hy1 ⊢
  have hr : r.toNat ≤ 64 := by omega
  generalize r.toNat = k at *
  have hk : (2 : Int) ^ k = ((2 ^ k : Nat) : Int) := by simp
  rw [hk] at hy1 ⊢
  have e1 : IntKind.u64.wrap ((x : Int) * ((2 ^ k : Nat) : Int)) = (((x % 2 ^ (64 - k)) * 2 ^ k : Nat) : Int) := by
    rw [IntKind.wrap_u64, ← Nat.mul_mod_mul_right, ← Nat.pow_add, show 64 - k + k = 64 from by omega]
    simp
  have hlt : h < 2 ^ k := Int.ofNat_lt.1 hy1
  have hle : 2 ^ k ≤ 2 ^ 64 := Nat.pow_le_pow_right (by decide) hr
  have e2 : (x % 2 ^ (64 - k)) * 2 ^ k < 18446744073709551616 := by
    have : (x % 2 ^ (64 - k)) * 2 ^ k < 2 ^ (64 - k) * 2 ^ k := Nat.mul_lt_mul_of_pos_right (Nat.mod_lt _ (Nat.pow_pos (by decide))) (Nat.pow_pos (by decide))
    rw [← Nat.pow_add, show 64 - k + k = 64 from by omega] at this
    exact this
  rw [e1]
  rw [bits_or_u64_nat _ h e2 (by omega), ← Nat.shiftLeft_eq, ← Nat.shiftLeft_add_eq_or_of_lt hlt]
  simp
/-- What stays of a limb that is shifted down, and what comes in from above. -/
theorem down_or (x y r : Int) (h0 : 0 ≤ r) (h1 : r < 64) (hx : Limb x) (hy : Limb y) :
    bits .or .u64 (x / 2 ^ r.toNat) (IntKind.u64.wrap (y * 2 ^ (64 - r).toNat)) = x / 2 ^ r.toNat + (y % 2 ^ r.toNat) * 2 ^ (64 - r).toNat := by
  have hp := pow_split r h0 h1
  obtain ⟨x, rfl⟩ := Int.eq_ofNat_of_zero_le hx.1
  obtain ⟨y, rfl⟩ := Int.eq_ofNat_of_zero_le hy.1
  have hr : r.toNat ≤ 64 := by omega
  have hr2 : (64 - r).toNat = 64 - r.toNat := by omega
  rw [hr2] at *
  generalize r.toNat = k at *
  have hk : ∀ k : Nat, (2 : Int) ^ k = ((2 ^ k : Nat) : Int) := fun k => by simp
  rw [hk k, hk (64 - k)] at *
  have e1 : IntKind.u64.wrap ((y : Int) * ((2 ^ (64 - k) : Nat) : Int)) = (((y % 2 ^ k) * 2 ^ (64 - k) : Nat) : Int) := by
    rw [IntKind.wrap_u64, ← Nat.mul_mod_mul_right, ← Nat.pow_add, show k + (64 - k) = 64 from by omega]
    simp
  have e3 : (x : Int) / ((2 ^ k : Nat) : Int) = ((x / 2 ^ k : Nat) : Int) := by simp
  have hx1 : x < 18446744073709551616 := by have := hx.2; omega
  have hlt : x / 2 ^ k < 2 ^ (64 - k) := by
    apply Nat.div_lt_of_lt_mul
    rw [← Nat.pow_add, show k + (64 - k) = 64 from by omega]
    exact hx1
  have e2 : (y % 2 ^ k) * 2 ^ (64 - k) < 18446744073709551616 := by
    have : (y % 2 ^ k) * 2 ^ (64 - k) < 2 ^ k * 2 ^ (64 - k) := Nat.mul_lt_mul_of_pos_right (Nat.mod_lt _ (Nat.pow_pos (by decide))) (Nat.pow_pos (by decide))
    rw [← Nat.pow_add, show k + (64 - k) = 64 from by omega] at this
    exact this
  have e4 : x / 2 ^ k < 18446744073709551616 := Nat.lt_of_le_of_lt (Nat.div_le_self _ _) hx1
  rw [e1, e3]
  rw [bits_or_u64_nat _ _ e4 e2, Nat.or_comm, ← Nat.shiftLeft_eq, ← Nat.shiftLeft_add_eq_or_of_lt hlt]
  simp [Nat.shiftLeft_eq, Int.add_comm]
end Go.Proofs.Ytmflilgppllebaa
