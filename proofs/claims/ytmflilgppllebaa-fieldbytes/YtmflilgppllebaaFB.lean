/- Walks over package field: settle, sums, differences, products modulo P. -/
import Derived.Test.YtmflilgppllebaaFA
namespace Go.Proofs.Ytmflilgppllebaa
open Go.RowKit
set_option linter.unusedSimpArgs false
set_option linter.unusedVariables false

/-- 2^255 - 19. -/
def PP : Int := 57896044618658097711785492504343953926634992332820282019728792003956564819949
/-- What word.Mod gives. -/
def ModC : Prop := ∀ (a0 a1 a2 a3 b0 b1 b2 b3 : Int), L4 a0 a1 a2 a3 → L4 b0 b1 b2 b3 → 0 < num b0 b1 b2 b3 → ∀ w : World,
    Calls Try.prog 68 #[W4 a0 a1 a2 a3, W4 b0 b1 b2 b3] w fun e w' =>
      ∃ s0 s1 s2 s3 : Int, e = .returned (W4 s0 s1 s2 s3) ∧ L4 s0 s1 s2 s3 ∧ Hid (num s0 s1 s2 s3 = num a0 a1 a2 a3 % num b0 b1 b2 b3) ∧ Below w.heap.size w w'
theorem two63 : (2 : Int) ^ 63 = 9223372036854775808 := by decide
theorem f_or_bit (x y : Int) (hx0 : 0 ≤ x) (hx : x < 1152921504606846976) (hy0 : 0 ≤ y) (hy : y < 2) : bits .or .u64 (x * 2) y = x * 2 + y := by
  refine bits_join .u64 63 (by decide) (fun n h0 h1 => ?_) 1 (x * 2) y (by omega) (by omega) ?_ hy0 (by omega) ?_
  · rw [IntKind.wrap_u64]; rw [two63] at h1; omega
  · rw [two63]; omega
  · rw [two63]; omega
theorem and_63 (x : Int) (h : Limb x) : bits .and .u64 x 9223372036854775807 = x % 9223372036854775808 := by
  rw [u64_and x _ h.1 h.2 (by decide) (by decide), show (9223372036854775807 : Int).toNat = 2 ^ 63 - 1 from by decide, Nat.and_two_pow_sub_one_eq_mod]
  have : (2 : Nat) ^ 63 = 9223372036854775808 := by decide
  rw [this]
  have := h.1
  omega
theorem p_any (w : World) : Calls Try.prog 50 #[] w fun e w' => e = .returned (W4 18446744073709551597 18446744073709551615 18446744073709551615 9223372036854775807) ∧ Below w.heap.size w w' := by
  go_enter Try.func50, Try.ntmps50
  go_wp2
  go_returns
  exact ⟨rfl, by go_grown⟩
theorem p_num : num 18446744073709551597 18446744073709551615 18446744073709551615 9223372036854775807 = PP := by decide
theorem p_L4 : L4 18446744073709551597 18446744073709551615 18446744073709551615 9223372036854775807 := ⟨⟨by decide, by decide⟩, ⟨by decide, by decide⟩, ⟨by decide, by decide⟩, ⟨by decide, by decide⟩⟩
theorem settle_num {a0 a1 a2 a3 u s0 s1 s2 c0 c1 c2 q : Int} (hq : q = u * 2 + a3 / 9223372036854775808) (e0 : Hid (a0 + 19 * q + 0 = s0 + 18446744073709551616 * c0)) (e1 : Hid (a1 + 0 + c0 = s1 + 18446744073709551616 * c1)) (e2 : Hid (a2 + 0 + c1 = s2 + 18446744073709551616 * c2)) :
    num a0 a1 a2 a3 + T256 * u = num s0 s1 s2 (a3 % 9223372036854775808 + c2) + PP * q := by
  unfold Hid at *
  unfold num T256 PP
  omega
set_option maxHeartbeats 1000000 in
/-- field.settle -/
theorem settle_any (hmod : ModC) (a0 a1 a2 a3 u : Int) (ha : L4 a0 a1 a2 a3) (hu0 : 0 ≤ u) (hu : u < 1000000) (w : World) :
    Calls Try.prog 36 #[.int .u64 a0, .int .u64 a1, .int .u64 a2, .int .u64 a3, .int .u64 u] w fun e w' =>
      ∃ s0 s1 s2 s3 : Int, e = .returned (W4 s0 s1 s2 s3) ∧ L4 s0 s1 s2 s3 ∧ Hid (num s0 s1 s2 s3 = (num a0 a1 a2 a3 + T256 * u) % PP) ∧ Below w.heap.size w w' := by
  have HM : Hid ModC := hmod
  clear hmod
  obtain ⟨t, ht⟩ : ∃ t, t = a3 / 9223372036854775808 := ⟨_, rfl⟩
  have ht0 : 0 ≤ t ∧ t < 2 := by rw [ht]; have := ha.2.2.2.1; have := ha.2.2.2.2; omega
  obtain ⟨r, hr⟩ : ∃ r, r = a3 % 9223372036854775808 := ⟨_, rfl⟩
  have hr0 : 0 ≤ r ∧ r < 9223372036854775808 := by rw [hr]; omega
  have hor := f_or_bit u t hu0 (by omega) ht0.1 ht0.2
  have hand := and_63 a3 ha.2.2.2
  rw [← hr] at hand
  obtain ⟨q, hq⟩ : ∃ q, q = u * 2 + t := ⟨_, rfl⟩
  rw [← hq] at hor
  obtain ⟨ht1, ht2⟩ := ht0
  obtain ⟨hr1, hr2⟩ := hr0
  obtain ⟨s0, c0, r0, l0, p0, q0, e0⟩ := add64_ex a0 (19 * q) 0 ha.1 ⟨by omega, by omega⟩ (by decide) (by decide)
  obtain ⟨s1, c1, r1, l1, p1, q1, e1⟩ := add64_ex a1 0 c0 ha.2.1 ⟨by decide, by decide⟩ p0 q0
  obtain ⟨s2, c2, r2, l2, p2, q2, e2⟩ := add64_ex a2 0 c1 ha.2.2.1 ⟨by decide, by decide⟩ p1 q1
  have E := settle_num (u := u) (a3 := a3) (by rw [← ht]; exact hq) e0 e1 e2
  rw [← hr] at E
  have HE : Hid _ := E
  have L : L4 s0 s1 s2 (r + c2) := ⟨l0, l1, l2, ⟨by omega, by omega⟩⟩
  have hq0 : 0 ≤ q := by omega
  have hq1 : q < 4000000 := by omega
  have H3 : Hid (a3 = a3) := rfl
  have htt : a3 / 9223372036854775808 = t := ht.symm
  clear E e0 e1 e2 hq hr ht
  go_enter Try.func36, Try.ntmps36
  by_cases hlt : r + c2 < 9223372036854775807
  · go_wp2
    go_returns
    refine ⟨s0, s1, s2, r + c2, rfl, L, ?_, by go_grown⟩
    show _ = _
    rw [HE.out]
    have := num_bd L
    have hlP : num s0 s1 s2 (r + c2) < PP := by
      obtain ⟨⟨_, _⟩, ⟨_, _⟩, ⟨_, _⟩, ⟨_, _⟩⟩ := L
      unfold num PP; omega
    rw [Int.add_mul_emod_self_left, Int.emod_eq_of_lt this.1 hlP]
  · go_wp2_with (first | (go_at_call 50; refine (p_any _).mono ?_; rintro e w1 ⟨rfl, hb1⟩))
    refine (HM.out s0 s1 s2 (r + c2) _ _ _ _ L p_L4 (by rw [p_num]; decide) _).mono ?_
    rintro e w2 ⟨x0, x1, x2, x3, rfl, hL, hN, hb2⟩
    have hA : w.heap.size < (w.alloc (.cells #[.int .u64 0, .int .u64 0, .int .u64 0, .int .u64 0] 24)).heap.size := by simp
    have hB : Below (w.alloc (.cells #[.int .u64 0, .int .u64 0, .int .u64 0, .int .u64 0] 24)).heap.size (w.alloc (.cells #[.int .u64 0, .int .u64 0, .int .u64 0, .int .u64 0] 24)) w2 := hb1.trans (hb2.mono hb1.size)
    have hN2 : Hid (num x0 x1 x2 x3 = (num a0 a1 a2 a3 + T256 * u) % PP) := by
      show _ = _
      rw [HE.out, hN.out, p_num, Int.add_mul_emod_self_left]
    obtain ⟨hc, hf⟩ := bcell hB
    have hz : w.heap.size < w2.heap.size := by have := hB.size; simp at this; omega
    clear hb1 hb2 hN HE
    unfold W4
    go_wp2
    refine bodyPost_ret (v := W4 x0 x1 x2 x3) (by simp [results, Try.results36, go_sem, hc, hz]) rfl ?_
    have hBB : Below w.heap.size w w2 := Below.trans (by go_grown) (hB.mono (by simp))
    clear hB hc hf
    exact ⟨x0, x1, x2, x3, rfl, hL, hN2, by go_grown⟩
end Go.Proofs.Ytmflilgppllebaa
