/- Walks over package field: mulAdd, row. -/
import Derived.Test.YtmflilgppllebaaBase
namespace Go.Proofs.Ytmflilgppllebaa
open Go.RowKit
set_option linter.unusedSimpArgs false
set_option linter.unusedVariables false

set_option maxHeartbeats 1000000 in
/-- field.mulAdd -/
theorem fmulAdd_any (a b c d : Int) (ha : Limb a) (hb : Limb b) (hc : Limb c) (hd : Limb d) (w : World) :
    Calls Try.prog 72 #[.int .u64 a, .int .u64 b, .int .u64 c, .int .u64 d] w fun e w' =>
      ∃ l h : Int, e = .returned (.tuple #[.int .u64 l, .int .u64 h]) ∧ Limb l ∧ Limb h ∧ Hid (a * b + c + d = l + 18446744073709551616 * h) ∧ w' = w := by
  go_enter Try.func72, Try.ntmps72
  go_wp2_with fail
  refine (mul64_any a b ha hb _).mono ?_
  rintro e w' ⟨h, l, rfl, hl, ⟨hh0, hh1⟩, hE, rfl⟩
  obtain ⟨s, m, r1, ls, p1, q1, e1⟩ := add64_ex l c 0 hl hc (by decide) (by decide)
  obtain ⟨t, n, r2, lt, p2, q2, e2⟩ := add64_ex s d 0 ls hd (by decide) (by decide)
  have hab : a * b ≤ 18446744073709551615 * 18446744073709551615 := Int.mul_le_mul (by have := ha.2; omega) (by have := hb.2; omega) hb.1 (by decide)
  have hE2 : Hid (a * b + c + d = t + 18446744073709551616 * (h + m + n)) := by
    unfold Hid at *; omega
  have hbd : h + m + n ≤ 18446744073709551615 := by
    have := hc.2; have := hd.2; have := lt.1; unfold Hid at *; omega
  clear hab e1 e2 hE
  go_wp2
  go_ret2
  exact ⟨t, h + m + n, rfl, lt, ⟨by omega, by omega⟩, hE2, rfl⟩
theorem fmulAdd_ex (a b c d : Int) (ha : Limb a) (hb : Limb b) (hc : Limb c) (hd : Limb d) : ∃ l h : Int,
    (∀ w, Calls Try.prog 72 #[.int .u64 a, .int .u64 b, .int .u64 c, .int .u64 d] w fun e w' => e = .returned (.tuple #[.int .u64 l, .int .u64 h]) ∧ w' = w) ∧ Limb l ∧ Limb h ∧ Hid (a * b + c + d = l + 18446744073709551616 * h) := by
  have hab : a * b ≤ 18446744073709551615 * 18446744073709551615 := Int.mul_le_mul (by have := ha.2; omega) (by have := hb.2; omega) hb.1 (by decide)
  have hab0 : 0 ≤ a * b := Int.mul_nonneg ha.1 hb.1
  refine ⟨(a * b + c + d) % 18446744073709551616, (a * b + c + d) / 18446744073709551616, fun w => ?_, ⟨by omega, by omega⟩, ⟨by have := hc.1; have := hd.1; omega, by have := hc.2; have := hd.2; omega⟩, by show a * b + c + d = _; omega⟩
  refine (fmulAdd_any a b c d ha hb hc hd w).mono ?_
  rintro e w' ⟨l, h, rfl, ⟨hl0, hl1⟩, ⟨hh0, hh1⟩, hE, rfl⟩
  have hE' : a * b + c + d = l + 18446744073709551616 * h := hE
  rw [hE']
  have e1 : (l + 18446744073709551616 * h) % 18446744073709551616 = l := by omega
  have e2 : (l + 18446744073709551616 * h) / 18446744073709551616 = h := by omega
  rw [e1, e2]
  exact ⟨rfl, rfl⟩
theorem fmul_num (x b0 b1 b2 b3 : Int) : x * num b0 b1 b2 b3 = x * b0 + 18446744073709551616 * (x * b1) + 340282366920938463463374607431768211456 * (x * b2) + 6277101735386680763835789423207666416102355444464034512896 * (x * b3) := by
  unfold num
  rw [Int.mul_add, Int.mul_add, Int.mul_add, Int.mul_left_comm x _ b1, Int.mul_left_comm x _ b2, Int.mul_left_comm x _ b3]
set_option maxHeartbeats 1000000 in
/-- field.row -/
theorem frow_any (x b0 b1 b2 b3 c0 c1 c2 c3 : Int) (hx : Limb x) (hb : L4 b0 b1 b2 b3) (hc : L4 c0 c1 c2 c3) : ∃ l0 l1 l2 l3 h : Int,
    (∀ w, Calls Try.prog 44 #[.int .u64 x, .int .u64 b0, .int .u64 b1, .int .u64 b2, .int .u64 b3, .int .u64 c0, .int .u64 c1, .int .u64 c2, .int .u64 c3] w fun e w' => e = .returned (.tuple #[.int .u64 l0, .int .u64 l1, .int .u64 l2, .int .u64 l3, .int .u64 h]) ∧ w' = w) ∧
    L4 l0 l1 l2 l3 ∧ Limb h ∧ Hid (x * num b0 b1 b2 b3 + num c0 c1 c2 c3 = num l0 l1 l2 l3 + T256 * h) := by
  obtain ⟨l0, h0, r0, p0, q0, e0⟩ := fmulAdd_ex x b0 c0 0 hx hb.1 hc.1 ⟨by decide, by decide⟩
  obtain ⟨l1, h1, r1, p1, q1, e1⟩ := fmulAdd_ex x b1 c1 h0 hx hb.2.1 hc.2.1 q0
  obtain ⟨l2, h2, r2, p2, q2, e2⟩ := fmulAdd_ex x b2 c2 h1 hx hb.2.2.1 hc.2.2.1 q1
  obtain ⟨l3, h3, r3, p3, q3, e3⟩ := fmulAdd_ex x b3 c3 h2 hx hb.2.2.2 hc.2.2.2 q2
  refine ⟨l0, l1, l2, l3, h3, fun w => ?_, ⟨p0, p1, p2, p3⟩, q3, ?_⟩
  · have R0 : Hid _ := r0
    have R1 : Hid _ := r1
    have R2 : Hid _ := r2
    have R3 : Hid _ := r3
    clear r0 r1 r2 r3 e0 e1 e2 e3 p0 p1 p2 p3 q0 q1 q2 q3 hx hb hc
    go_enter Try.func44, Try.ntmps44
    go_wp2_with fail
    refine Calls.mono (R0.out _) ?_
    rintro e w' ⟨rfl, hs⟩
    obtain rfl := hs.symm
    go_wp2_with fail
    refine Calls.mono (R1.out _) ?_
    rintro e w' ⟨rfl, hs⟩
    obtain rfl := hs.symm
    go_wp2_with fail
    refine Calls.mono (R2.out _) ?_
    rintro e w' ⟨rfl, hs⟩
    obtain rfl := hs.symm
    go_wp2_with fail
    refine Calls.mono (R3.out _) ?_
    rintro e w' ⟨rfl, hs⟩
    obtain rfl := hs.symm
    go_wp2
    go_returns
    exact ⟨rfl, rfl⟩
  · rw [fmul_num]
    unfold Hid at *
    unfold num T256
    omega
end Go.Proofs.Ytmflilgppllebaa
