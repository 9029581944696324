/- Walks over package sha: turning, the sigmas, choose, majority; the document's right. -/
import Derived.Test.YtkenaccagcdofaaK0
namespace Go.Proofs.Ytkenaccagcdofaa
open Go.RowKit
set_option linter.unusedSimpArgs false
set_option linter.unusedVariables false

set_option maxHeartbeats 400000 in
/-- math/bits.RotateLeft64 -/
theorem rotl_any (x : BitVec 64) (k : Int) (w : World) :
    Calls Try.prog 41 #[.int .u64 (I x), .int .i64 k] w fun e w' => e = .returned (.int .u64 (I (x.rotateLeft (k % 64).toNat))) ∧ w' = w := by
  obtain ⟨r, hr⟩ : ∃ r, r = k % 64 := ⟨_, rfl⟩
  have h0 : 0 ≤ r := by omega
  have h1 : r < 64 := by omega
  have hl := low6 k
  rw [← hr] at hl ⊢
  have HR := I_rot x r h0 h1
  have H : Hid _ := HR
  clear HR hr
  go_enter Try.func41, Try.ntmps41
  go_wp2
  go_ret
  rw [H.out]
  exact ⟨rfl, rfl⟩
set_option maxHeartbeats 400000 in
/-- sha.turn -/
theorem turn_any (x : BitVec 64) (n : Nat) (h0 : 0 < n) (h : n < 64) (w : World) :
    Calls Try.prog 40 #[.int .u64 (I x), .int .i64 (n : Int)] w fun e w' => e = .returned (.int .u64 (I (rr x n))) ∧ w' = w := by
  have he : x.rotateLeft ((-(n : Int)) % 64).toNat = rr x n := by
    rw [show ((-(n : Int)) % 64).toNat = 64 - n from by omega, rr_left x n h0 h]
  have HE : Hid _ := he
  clear he
  go_enter Try.func40, Try.ntmps40
  go_wp2_with (go_at_call 41; refine (rotl_any _ _ _).mono ?_; rintro e w' ⟨rfl, rfl⟩)
  go_ret
  rw [HE.out]
  exact ⟨rfl, rfl⟩
set_option maxHeartbeats 800000 in
theorem sg0_any (x : BitVec 64) (w : World) :
    Calls Try.prog 39 #[.int .u64 (I x)] w fun e w' => e = .returned (.int .u64 (I (sg0 x))) ∧ w' = w := by
  have e1 := bx (rr x 1) (rr x 8)
  have e3 : I x / (128 : Int) = I (x >>> 7) := by rw [← I_shr]; rfl
  have e2 := bx (rr x 1 ^^^ rr x 8) (x >>> 7)
  go_enter Try.func39, Try.ntmps39
  go_wp2_with fail
  refine (turn_any x 1 (by decide) (by decide) _).mono ?_
  rintro e w' ⟨rfl, hw⟩
  obtain rfl := hw.symm
  go_wp2_with fail
  refine (turn_any x 8 (by decide) (by decide) _).mono ?_
  rintro e w' ⟨rfl, hw⟩
  obtain rfl := hw.symm
  go_wp2
  go_ret
  exact ⟨rfl, rfl⟩
set_option maxHeartbeats 800000 in
theorem sg1_any (x : BitVec 64) (w : World) :
    Calls Try.prog 38 #[.int .u64 (I x)] w fun e w' => e = .returned (.int .u64 (I (sg1 x))) ∧ w' = w := by
  have e1 := bx (rr x 19) (rr x 61)
  have e3 : I x / (64 : Int) = I (x >>> 6) := by rw [← I_shr]; rfl
  have e2 := bx (rr x 19 ^^^ rr x 61) (x >>> 6)
  go_enter Try.func38, Try.ntmps38
  go_wp2_with fail
  refine (turn_any x 19 (by decide) (by decide) _).mono ?_
  rintro e w' ⟨rfl, hw⟩
  obtain rfl := hw.symm
  go_wp2_with fail
  refine (turn_any x 61 (by decide) (by decide) _).mono ?_
  rintro e w' ⟨rfl, hw⟩
  obtain rfl := hw.symm
  go_wp2
  go_ret
  exact ⟨rfl, rfl⟩
set_option maxHeartbeats 800000 in
theorem bg0_any (x : BitVec 64) (w : World) :
    Calls Try.prog 35 #[.int .u64 (I x)] w fun e w' => e = .returned (.int .u64 (I (bg0 x))) ∧ w' = w := by
  have e1 := bx (rr x 28) (rr x 34)
  have e2 := bx (rr x 28 ^^^ rr x 34) (rr x 39)
  go_enter Try.func35, Try.ntmps35
  go_wp2_with fail
  refine (turn_any x 28 (by decide) (by decide) _).mono ?_
  rintro e w' ⟨rfl, hw⟩
  obtain rfl := hw.symm
  go_wp2_with fail
  refine (turn_any x 34 (by decide) (by decide) _).mono ?_
  rintro e w' ⟨rfl, hw⟩
  obtain rfl := hw.symm
  go_wp2_with fail
  refine (turn_any x 39 (by decide) (by decide) _).mono ?_
  rintro e w' ⟨rfl, hw⟩
  obtain rfl := hw.symm
  go_wp2
  go_ret
  exact ⟨rfl, rfl⟩
set_option maxHeartbeats 800000 in
theorem bg1_any (x : BitVec 64) (w : World) :
    Calls Try.prog 33 #[.int .u64 (I x)] w fun e w' => e = .returned (.int .u64 (I (bg1 x))) ∧ w' = w := by
  have e1 := bx (rr x 14) (rr x 18)
  have e2 := bx (rr x 14 ^^^ rr x 18) (rr x 41)
  go_enter Try.func33, Try.ntmps33
  go_wp2_with fail
  refine (turn_any x 14 (by decide) (by decide) _).mono ?_
  rintro e w' ⟨rfl, hw⟩
  obtain rfl := hw.symm
  go_wp2_with fail
  refine (turn_any x 18 (by decide) (by decide) _).mono ?_
  rintro e w' ⟨rfl, hw⟩
  obtain rfl := hw.symm
  go_wp2_with fail
  refine (turn_any x 41 (by decide) (by decide) _).mono ?_
  rintro e w' ⟨rfl, hw⟩
  obtain rfl := hw.symm
  go_wp2
  go_ret
  exact ⟨rfl, rfl⟩
set_option maxHeartbeats 400000 in
/-- sha.choose -/
theorem choose_any (x y z : BitVec 64) (w : World) :
    Calls Try.prog 34 #[.int .u64 (I x), .int .u64 (I y), .int .u64 (I z)] w fun e w' => e = .returned (.int .u64 (I ((x &&& y) ^^^ (~~~ x &&& z)))) ∧ w' = w := by
  go_enter Try.func34, Try.ntmps34
  go_wp2
  go_ret
  rw [ba, bn, bo, choose_eq]
  exact ⟨rfl, rfl⟩
set_option maxHeartbeats 400000 in
/-- sha.majority -/
theorem majority_any (x y z : BitVec 64) (w : World) :
    Calls Try.prog 36 #[.int .u64 (I x), .int .u64 (I y), .int .u64 (I z)] w fun e w' => e = .returned (.int .u64 (I ((x &&& y) ^^^ (x &&& z) ^^^ (y &&& z)))) ∧ w' = w := by
  go_enter Try.func36, Try.ntmps36
  go_wp2
  go_ret
  rw [ba, ba, ba, bo, bo, majority_eq]
  exact ⟨rfl, rfl⟩
set_option maxHeartbeats 400000 in
/-- conclaveref03.right -/
theorem right_any (x : BitVec 64) (n : Nat) (h0 : 0 < n) (h : n < 64) (w : World) :
    Calls Try.prog 30 #[.int .u64 (I x), .int .i64 (n : Int)] w fun e w' => e = .returned (.int .u64 (I (rr x n))) ∧ w' = w := by
  go_enter Try.func30, Try.ntmps30
  go_wp2
  go_ret
  refine ⟨?_, rfl⟩
  rw [I_shr, I_shl, bo]
  rfl
end Go.Proofs.Ytkenaccagcdofaa
