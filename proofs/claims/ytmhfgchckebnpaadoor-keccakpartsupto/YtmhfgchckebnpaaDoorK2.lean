/- Walks over package keccak: the sums of the columns, what theta spreads, chi. -/
import Derived.Test.YtmhfgchckebnpaaDoorK1
namespace Go.Proofs.YtmhfgchckebnpaaDoor
open Go.RowKit
set_option linter.unusedSimpArgs false
set_option linter.unusedVariables false

/-- The sum of the first k lanes of a column. -/
def acc (S : Nat → BitVec 64) (x : Nat) : Nat → BitVec 64
  | 0 => 0
  | k + 1 => acc S x k ^^^ S (5 * k + x)
theorem acc5 (S : Nat → BitVec 64) (x : Nat) : acc S x 5 = sums S x := by
  simp only [acc, sums, Nat.mul_zero, Nat.zero_add, Nat.mul_one, Nat.reduceMul]
  rw [Nat.add_comm 5 x, Nat.add_comm 10 x, Nat.add_comm 15 x, Nat.add_comm 20 x, show (0 : BitVec 64) ^^^ S x = S x from BitVec.zero_xor]
set_option maxHeartbeats 400000 in
theorem sums_any (S : Nat → BitVec 64) (b : Nat) (w : World) (hr : w.rowIs b 38 25 (lan S)) :
    Calls Tryd.prog 18 #[.pointer (some ⟨b, 0, none⟩)] w fun e w' => e = .returned (.tuple #[.int .u64 (I (sums S 0)), .int .u64 (I (sums S 1)), .int .u64 (I (sums S 2)), .int .u64 (I (sums S 3)), .int .u64 (I (sums S 4))]) ∧ w' = w := by
  have HR : Hid (w.rowIs b 38 25 (lan S)) := hr
  clear hr
  go_enter Tryd.func18, Tryd.ntmps18
  go_wp2
  go_loop [2, 3, 4, 5, 6, 7] (fun a b c d e y => ∃ k : Nat, k ≤ 5 ∧ y = .int .i64 (5 * (k : Int)) ∧ a = .int .u64 (I (acc S 0 k)) ∧ b = .int .u64 (I (acc S 1 k)) ∧ c = .int .u64 (I (acc S 2 k)) ∧ d = .int .u64 (I (acc S 3 k)) ∧ e = .int .u64 (I (acc S 4 k))) (fun _ _ _ _ _ y => 25 - (intOf y).toNat)
  case atStart => exact ⟨0, by omega, rfl, rfl, rfl, rfl, rfl, rfl⟩
  case round =>
    obtain ⟨k, hk, rfl, rfl, rfl, rfl, rfl, rfl⟩ := hrel
    by_cases hlt : k < 5
    · have c0 := HR.out.cell (i := 5 * k) (by omega)
      have c1 := HR.out.cell (i := 5 * k + 1) (by omega)
      have c2 := HR.out.cell (i := 5 * k + 2) (by omega)
      have c3 := HR.out.cell (i := 5 * k + 3) (by omega)
      have c4 := HR.out.cell (i := 5 * k + 4) (by omega)
      go_wp2
      go_round
      case rel => exact ⟨k + 1, by omega, by go_num, by rw [bx]; rfl, by rw [bx]; rfl, by rw [bx]; rfl, by rw [bx]; rfl, by rw [bx]; rfl⟩
      case measure => simp [intOf]; omega
    · have : k = 5 := by omega
      subst this
      go_wp2
      simp only [acc5]
      exact bodyPost_ret (v := .tuple #[.int .u64 (I (sums S 0)), .int .u64 (I (sums S 1)), .int .u64 (I (sums S 2)), .int .u64 (I (sums S 3)), .int .u64 (I (sums S 4))]) (by simp [results, Tryd.results18, go_sem]) rfl ⟨rfl, rfl⟩
end Go.Proofs.YtmhfgchckebnpaaDoor
