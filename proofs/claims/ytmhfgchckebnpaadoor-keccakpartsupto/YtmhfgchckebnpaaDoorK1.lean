/- Walks over package keccak: turning, theta's parts, chi. -/
import Derived.Test.YtmhfgchckebnpaaDoorK0
namespace Go.Proofs.YtmhfgchckebnpaaDoor
open Go.RowKit
set_option linter.unusedSimpArgs false
set_option linter.unusedVariables false

set_option maxHeartbeats 400000 in
/-- math/bits.RotateLeft64 -/
theorem rotl_any (x : BitVec 64) (k : Int) (w : World) :
    Calls Tryd.prog 32 #[.int .u64 (I x), .int .i64 k] w fun e w' => e = .returned (.int .u64 (I (x.rotateLeft (k % 64).toNat))) ∧ w' = w := by
  obtain ⟨r, hr⟩ : ∃ r, r = k % 64 := ⟨_, rfl⟩
  have h0 : 0 ≤ r := by omega
  have h1 : r < 64 := by omega
  have hl := low6 k
  rw [← hr] at hl ⊢
  have HR := I_rot x r h0 h1
  have H : Hid _ := HR
  clear HR hr
  go_enter Tryd.func32, Tryd.ntmps32
  go_wp2
  go_ret
  rw [H.out]
  exact ⟨rfl, rfl⟩
set_option maxHeartbeats 400000 in
/-- keccak.turn -/
theorem turn_any (t : Nat) (ht : t ≤ 1000) (w : World) :
    Calls Tryd.prog 33 #[.int .i64 (t : Int)] w fun e w' => e = .returned (.int .i64 ((turn t : Nat) : Int)) ∧ w' = w := by
  have hm : (t + 1) * (t + 2) ≤ 1001 * 1002 := Nat.mul_le_mul (by omega) (by omega)
  have hb : 0 ≤ ((t : Int) + 1) * ((t : Int) + 2) ∧ ((t : Int) + 1) * ((t : Int) + 2) ≤ 1003002 := by
    have : ((t : Int) + 1) * ((t : Int) + 2) = (((t + 1) * (t + 2) : Nat) : Int) := by simp
    rw [this]; omega
  have he : (((turn t : Nat) : Int)) = ((t : Int) + 1) * ((t : Int) + 2) / 2 := by
    unfold turn
    have : ((t : Int) + 1) * ((t : Int) + 2) = (((t + 1) * (t + 2) : Nat) : Int) := by simp
    rw [this]; omega
  have HE : Hid _ := he
  clear he
  obtain ⟨hb0, hb1⟩ := hb
  go_enter Tryd.func33, Tryd.ntmps33
  go_wp2
  go_ret
  rw [HE.out]
  exact ⟨rfl, rfl⟩
set_option maxHeartbeats 400000 in
/-- keccak.between -/
theorem between_any (l r : BitVec 64) (w : World) :
    Calls Tryd.prog 31 #[.int .u64 (I l), .int .u64 (I r)] w fun e w' => e = .returned (.int .u64 (I (l ^^^ r.rotateLeft 1))) ∧ w' = w := by
  go_enter Tryd.func31, Tryd.ntmps31
  go_wp2_with (go_at_call 32; refine (rotl_any _ _ _).mono ?_; rintro e w' ⟨rfl, rfl⟩)
  go_ret
  rw [bx]
  exact ⟨rfl, rfl⟩
end Go.Proofs.YtmhfgchckebnpaaDoor
