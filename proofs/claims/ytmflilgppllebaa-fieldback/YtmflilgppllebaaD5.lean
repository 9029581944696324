/- Walks over package word: how many limbs there are, and a wide number that is shifted. -/
import Derived.Test.YtmflilgppllebaaW4
import Derived.Test.YtmflilgppllebaaD4
namespace Go.Proofs.Ytmflilgppllebaa
open Go.RowKit
set_option linter.unusedSimpArgs false
set_option linter.unusedVariables false

/-- How many limbs there are without the noughts at the high end. -/
def usedN (a0 a1 a2 a3 : Int) : Int := if a3 ≠ 0 then 4 else if a2 ≠ 0 then 3 else if a1 ≠ 0 then 2 else if a0 ≠ 0 then 1 else 0
set_option maxHeartbeats 4000000 in
/-- word.used -/
theorem used_any (a0 a1 a2 a3 : Int) (w : World) :
    Calls Try.prog 85 #[W4 a0 a1 a2 a3] w fun e w' => e = .returned (.int .i64 (usedN a0 a1 a2 a3)) ∧ ∃ c, w' = w.alloc (.cells c 24) := by
  unfold W4
  by_cases h3 : a3 = 0 <;> by_cases h2 : a2 = 0 <;> by_cases h1 : a1 = 0 <;> by_cases h0 : a0 = 0
  all_goals
    have g : ∀ x : Int, ¬ x = 0 → (x != 0) = true := fun x h => by simpa using h
    simp only [usedN, h0, h1, h2, h3, ne_eq, not_true_eq_false, not_false_eq_true, if_true, if_false]
    try have k0 := g a0 h0
    try have k1 := g a1 h1
    try have k2 := g a2 h2
    try have k3 := g a3 h3
    clear g
    go_enter Try.func85, Try.ntmps85
    go_wp2
    refine wp_loop_rounds 5 ?_
    iterate 5
      rw [rounds_succ]
      go_wp2
    go_ret
    exact ⟨rfl, _, rfl⟩
/-- A wide number that is shifted, as a value. -/
abbrev W9 (x0 x1 x2 x3 x4 x5 x6 x7 x8 : Int) : Value := .agg #[.int .u64 x0, .int .u64 x1, .int .u64 x2, .int .u64 x3, .int .u64 x4, .int .u64 x5, .int .u64 x6, .int .u64 x7, .int .u64 x8]
theorem up_or2 (x y r : Int) (h0 : 0 ≤ r) (h1 : r < 64) (hx : Limb x) (hy : Limb y) :
    bits .or .u64 (y / 2 ^ (64 - r).toNat) (IntKind.u64.wrap (x * 2 ^ r.toNat)) = IntKind.u64.wrap (x * 2 ^ r.toNat) + y / 2 ^ (64 - r).toNat := by
  rw [← up_or x y r h0 h1 hx hy]
  obtain ⟨a0, a1⟩ := div_limb y (64 - r).toNat hy
  obtain ⟨b0, b1⟩ := limb_wrap (x * 2 ^ r.toNat)
  obtain ⟨a, ha⟩ := Int.eq_ofNat_of_zero_le a0
  obtain ⟨b, hb⟩ := Int.eq_ofNat_of_zero_le b0
  rw [ha] at a0 a1 ⊢
  rw [hb] at b0 b1 ⊢
  rw [bits_or_u64_nat a b (by omega) (by omega), bits_or_u64_nat b a (by omega) (by omega), Nat.or_comm]
theorem or0' (x : Int) (h : Limb x) : bits .or .u64 0 x = x := by
  obtain ⟨x, rfl⟩ := Int.eq_ofNat_of_zero_le h.1
  have := bits_or_u64_nat 0 x (by decide) (by have := h.2; omega)
  simpa using this
set_option maxHeartbeats 4000000 in
theorem shifted_walk (u0 u1 u2 u3 u4 u5 u6 u7 s : Int) (hs0 : 0 ≤ s) (hs1 : s < 64) (w : World) :
    Calls Try.prog 88 #[W8 u0 u1 u2 u3 u4 u5 u6 u7, .int .u64 s] w fun e w' => e = .returned (W9 (bits .or .u64 0 (IntKind.u64.wrap (u0 * 2 ^ s.toNat))) (bits .or .u64 (u0 / 2 ^ (64 - s).toNat) (IntKind.u64.wrap (u1 * 2 ^ s.toNat))) (bits .or .u64 (u1 / 2 ^ (64 - s).toNat) (IntKind.u64.wrap (u2 * 2 ^ s.toNat))) (bits .or .u64 (u2 / 2 ^ (64 - s).toNat) (IntKind.u64.wrap (u3 * 2 ^ s.toNat))) (bits .or .u64 (u3 / 2 ^ (64 - s).toNat) (IntKind.u64.wrap (u4 * 2 ^ s.toNat))) (bits .or .u64 (u4 / 2 ^ (64 - s).toNat) (IntKind.u64.wrap (u5 * 2 ^ s.toNat))) (bits .or .u64 (u5 / 2 ^ (64 - s).toNat) (IntKind.u64.wrap (u6 * 2 ^ s.toNat))) (bits .or .u64 (u6 / 2 ^ (64 - s).toNat) (IntKind.u64.wrap (u7 * 2 ^ s.toNat))) (u7 / 2 ^ (64 - s).toNat)) ∧ Below w.heap.size w w' := by
  unfold W8
  go_enter Try.func88, Try.ntmps88
  go_wp2
  refine wp_loop_rounds 9 ?_
  iterate 8
    rw [rounds_succ]
    go_wp2
    go_region
    go_wp2
  rw [rounds_succ]
  go_wp2
  go_returns
  exact ⟨rfl, by go_grown⟩
/-- The number of nine limbs. -/
def num9 (x0 x1 x2 x3 x4 x5 x6 x7 x8 : Int) : Int := x0 + 18446744073709551616 * x1 + 340282366920938463463374607431768211456 * x2 + 6277101735386680763835789423207666416102355444464034512896 * x3 + 115792089237316195423570985008687907853269984665640564039457584007913129639936 * x4 + 2135987035920910082395021706169552114602704522356652769947041607822219725780640550022962086936576 * x5 + 39402006196394479212279040100143613805079739270465446667948293404245721771497210611414266254884915640806627990306816 * x6 + 726838724295606890549323807888004534353641360687318060281490199180639288113397923326191050713763565560762521606266177933534601628614656 * x7 + 13407807929942597099574024998205846127479365820592393377723561443721764030073546976801874298166903427690031858186486050853753882811946569946433649006084096 * x8
theorem shifted_num {u0 u1 u2 u3 u4 u5 u6 u7 s : Int} (h0 : 0 ≤ s) (h1 : s < 64) (hu : L4 u0 u1 u2 u3 ∧ L4 u4 u5 u6 u7) :
    num9 (bits .or .u64 0 (IntKind.u64.wrap (u0 * 2 ^ s.toNat))) (bits .or .u64 (u0 / 2 ^ (64 - s).toNat) (IntKind.u64.wrap (u1 * 2 ^ s.toNat))) (bits .or .u64 (u1 / 2 ^ (64 - s).toNat) (IntKind.u64.wrap (u2 * 2 ^ s.toNat))) (bits .or .u64 (u2 / 2 ^ (64 - s).toNat) (IntKind.u64.wrap (u3 * 2 ^ s.toNat))) (bits .or .u64 (u3 / 2 ^ (64 - s).toNat) (IntKind.u64.wrap (u4 * 2 ^ s.toNat))) (bits .or .u64 (u4 / 2 ^ (64 - s).toNat) (IntKind.u64.wrap (u5 * 2 ^ s.toNat))) (bits .or .u64 (u5 / 2 ^ (64 - s).toNat) (IntKind.u64.wrap (u6 * 2 ^ s.toNat))) (bits .or .u64 (u6 / 2 ^ (64 - s).toNat) (IntKind.u64.wrap (u7 * 2 ^ s.toNat))) (u7 / 2 ^ (64 - s).toNat) = (num u0 u1 u2 u3 + T256 * num u4 u5 u6 u7) * 2 ^ s.toNat := by
  rw [or0' _ (limb_wrap _), up_or2 u1 u0 s h0 h1 hu.1.2.1 hu.1.1, up_or2 u2 u1 s h0 h1 hu.1.2.2.1 hu.1.2.1, up_or2 u3 u2 s h0 h1 hu.1.2.2.2 hu.1.2.2.1, up_or2 u4 u3 s h0 h1 hu.2.1 hu.1.2.2.2, up_or2 u5 u4 s h0 h1 hu.2.2.1 hu.2.1, up_or2 u6 u5 s h0 h1 hu.2.2.2.1 hu.2.2.1, up_or2 u7 u6 s h0 h1 hu.2.2.2.2 hu.2.2.2.1]
  have e0 := up_parts u0 s h0 h1
  have e1 := up_parts u1 s h0 h1
  have e2 := up_parts u2 s h0 h1
  have e3 := up_parts u3 s h0 h1
  have e4 := up_parts u4 s h0 h1
  have e5 := up_parts u5 s h0 h1
  have e6 := up_parts u6 s h0 h1
  have e7 := up_parts u7 s h0 h1
  rw [Int.add_mul, Int.mul_assoc, num_mul, num_mul]
  generalize IntKind.u64.wrap (u0 * 2 ^ s.toNat) = m0 at *
  generalize IntKind.u64.wrap (u1 * 2 ^ s.toNat) = m1 at *
  generalize IntKind.u64.wrap (u2 * 2 ^ s.toNat) = m2 at *
  generalize IntKind.u64.wrap (u3 * 2 ^ s.toNat) = m3 at *
  generalize IntKind.u64.wrap (u4 * 2 ^ s.toNat) = m4 at *
  generalize IntKind.u64.wrap (u5 * 2 ^ s.toNat) = m5 at *
  generalize IntKind.u64.wrap (u6 * 2 ^ s.toNat) = m6 at *
  generalize IntKind.u64.wrap (u7 * 2 ^ s.toNat) = m7 at *
  generalize u0 / 2 ^ (64 - s).toNat = g0 at *
  generalize u1 / 2 ^ (64 - s).toNat = g1 at *
  generalize u2 / 2 ^ (64 - s).toNat = g2 at *
  generalize u3 / 2 ^ (64 - s).toNat = g3 at *
  generalize u4 / 2 ^ (64 - s).toNat = g4 at *
  generalize u5 / 2 ^ (64 - s).toNat = g5 at *
  generalize u6 / 2 ^ (64 - s).toNat = g6 at *
  generalize u7 / 2 ^ (64 - s).toNat = g7 at *
  rw [e0, e1, e2, e3, e4, e5, e6, e7]
  clear e0 e1 e2 e3 e4 e5 e6 e7
  unfold num9 T256
  omega
/-- word.shifted -/
theorem shifted_any (u0 u1 u2 u3 u4 u5 u6 u7 s : Int) (hu : L4 u0 u1 u2 u3 ∧ L4 u4 u5 u6 u7) (hs0 : 0 ≤ s) (hs1 : s < 64) (w : World) :
    Calls Try.prog 88 #[W8 u0 u1 u2 u3 u4 u5 u6 u7, .int .u64 s] w fun e w' => ∃ x0 x1 x2 x3 x4 x5 x6 x7 x8 : Int, e = .returned (W9 x0 x1 x2 x3 x4 x5 x6 x7 x8) ∧ (L4 x0 x1 x2 x3 ∧ L4 x4 x5 x6 x7 ∧ Limb x8) ∧ Hid (num9 x0 x1 x2 x3 x4 x5 x6 x7 x8 = (num u0 u1 u2 u3 + T256 * num u4 u5 u6 u7) * 2 ^ s.toNat) ∧ Below w.heap.size w w' := by
  refine (shifted_walk u0 u1 u2 u3 u4 u5 u6 u7 s hs0 hs1 w).mono ?_
  rintro e w' ⟨rfl, hw⟩
  exact ⟨_, _, _, _, _, _, _, _, _, rfl, ⟨⟨limb_bits _ _ _, limb_bits _ _ _, limb_bits _ _ _, limb_bits _ _ _⟩, ⟨limb_bits _ _ _, limb_bits _ _ _, limb_bits _ _ _, limb_bits _ _ _⟩, div_limb _ _ hu.2.2.2.2⟩, shifted_num hs0 hs1 hu, hw⟩
end Go.Proofs.Ytmflilgppllebaa
