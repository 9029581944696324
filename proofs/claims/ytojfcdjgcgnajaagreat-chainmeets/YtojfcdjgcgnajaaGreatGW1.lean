/- CA, FA, FB, W1 -/
import Derived.Test.YtojfcdjgcgnajaaGreatGCM
namespace Go.Proofs.YtojfcdjgcgnajaaGreat
open Go.RowKit
set_option linter.unusedSimpArgs false
set_option linter.unusedVariables false
def I64 (n : Int) : Prop := -9223372036854775808 ≤ n ∧ n ≤ 9223372036854775807
def one1 (n : Int) : Int := if n < 1 then 1 else n
def quN (n : Int) : Int := one1 n - (one1 n - 1) / 3
def soN (n : Int) : Int := one1 n / 3 + 1
theorem ret_i {k : IntKind} {x y : Int} (h : x = y) : Ending.returned (Value.int k x) = Ending.returned (Value.int k y) := by rw [h]
theorem quorum_any (n : Int) (hn : I64 n) (w : World) : Calls Tryz.prog 5 #[.int .i64 n] w fun e w' => e = .returned (.int .i64 (quN n)) ∧ w' = w := by
 obtain ⟨h0, h1⟩ := hn; unfold quN one1; by_cases h : n < 1
 · rw [if_pos h]
   go_enter Tryz.func5, Tryz.ntmps5
   go_wp2; go_returns
   exact ⟨ret_i (by omega), rfl⟩
 · rw [if_neg h]
   go_enter Tryz.func5, Tryz.ntmps5
   go_wp2; go_returns
   exact ⟨ret_i (by omega), rfl⟩
theorem some_any (n : Int) (hn : I64 n) (w : World) : Calls Tryz.prog 7 #[.int .i64 n] w fun e w' => e = .returned (.int .i64 (soN n)) ∧ w' = w := by
 obtain ⟨h0, h1⟩ := hn; unfold soN one1; by_cases h : n < 1
 · rw [if_pos h]
   go_enter Tryz.func7, Tryz.ntmps7
   go_wp2; go_returns
   exact ⟨ret_i (by omega), rfl⟩
 · rw [if_neg h]
   go_enter Tryz.func7, Tryz.ntmps7
   go_wp2; go_returns
   exact ⟨ret_i (by omega), rfl⟩
theorem atLeastOne_any (n : Int) (hn : I64 n) (w : World) : Calls Tryz.prog 12 #[.int .i64 n] w fun e w' => e = .returned (.int .i64 (one1 n)) ∧ w' = w := by
 obtain ⟨h0, h1⟩ := hn; unfold one1; by_cases h : n < 1
 · rw [if_pos h]
   go_enter Tryz.func12, Tryz.ntmps12
   go_wp2; go_returns
   exact ⟨ret_i (by omega), rfl⟩
 · rw [if_neg h]
   go_enter Tryz.func12, Tryz.ntmps12
   go_wp2; go_returns
   exact ⟨ret_i (by omega), rfl⟩
theorem rquorum_any (n : Int) (hn : I64 n) (w : World) : Calls Tryz.prog 6 #[.int .i64 n] w fun e w' => e = .returned (.int .i64 (quN n)) ∧ w' = w := by
 have H : Hid (∀ w, _) := atLeastOne_any n hn; have hm : 1 ≤ one1 n ∧ one1 n ≤ 9223372036854775807 := by
  obtain ⟨h0, h1⟩ := hn; unfold one1; split <;> omega
 unfold quN; generalize one1 n = m at *; obtain ⟨m0, m1⟩ := hm; clear hn; go_enter Tryz.func6, Tryz.ntmps6; go_wp2_with fail; refine (H.out _).mono ?_; rintro e w' ⟨rfl, hw⟩; obtain rfl := hw.symm; go_wp2; go_returns; exact ⟨ret_i (by omega), rfl⟩
theorem rsome_any (n : Int) (hn : I64 n) (w : World) : Calls Tryz.prog 8 #[.int .i64 n] w fun e w' => e = .returned (.int .i64 (soN n)) ∧ w' = w := by
 have H : Hid (∀ w, _) := atLeastOne_any n hn; have hm : 1 ≤ one1 n ∧ one1 n ≤ 9223372036854775807 := by
  obtain ⟨h0, h1⟩ := hn; unfold one1; split <;> omega
 unfold soN; generalize one1 n = m at *; obtain ⟨m0, m1⟩ := hm; clear hn; go_enter Tryz.func8, Tryz.ntmps8; go_wp2_with fail; refine (H.out _).mono ?_; rintro e w' ⟨rfl, hw⟩; obtain rfl := hw.symm; go_wp2; go_returns; exact ⟨ret_i (by omega), rfl⟩
def U64 (x : Int) : Prop := 0 ≤ x ∧ x < 18446744073709551616
def nn (r : Int) : Int := if r < 0 then 0 else r
def prN (h r n : Int) : Int := (h % one1 n + nn r) % one1 n
theorem max1 (n : Int) : max n 1 = one1 n := by unfold one1; omega
theorem max0 (n : Int) : max n 0 = nn n := by unfold nn; omega
theorem one1_bd {n : Int} (h : I64 n) : 1 ≤ one1 n ∧ one1 n ≤ 9223372036854775807 := by
 obtain ⟨h0, h1⟩ := h; unfold one1; split <;> omega
theorem nn_bd {n : Int} (h : I64 n) : 0 ≤ nn n ∧ nn n ≤ 9223372036854775807 := by
 obtain ⟨h0, h1⟩ := h; unfold nn; split <;> omega
theorem pr_eq {h r m : Int} (h0 : 0 ≤ h) (r0 : 0 ≤ r) (r1 : r ≤ 9223372036854775807) (m0 : 1 ≤ m) (m1 : m ≤ 9223372036854775807) : wrap64 ((IntKind.u64.wrap (h % m + r)).tmod m) = (h % m + r) % m := by
 have a0 := Int.emod_nonneg h (show m ≠ 0 by omega); have a1 := Int.emod_lt_of_pos h (show 0 < m by omega); have e1 : IntKind.u64.wrap (h % m + r) = h % m + r := by
  simp [IntKind.wrap, IntKind.signed, IntKind.bits]
  omega
 rw [e1, Int.tmod_eq_emod_of_nonneg (by omega)]; have b0 := Int.emod_nonneg (h % m + r) (show m ≠ 0 by omega); have b1 := Int.emod_lt_of_pos (h % m + r) (show 0 < m by omega); generalize (h % m + r) % m = q at *; unfold wrap64; omega
theorem proposer_any (h r n : Int) (hh : U64 h) (hr : I64 r) (hn : I64 n) (w : World) : Calls Tryz.prog 9 #[.int .u64 h, .int .i64 r, .int .i64 n] w fun e w' => e = .returned (.int .i64 (prN h r n)) ∧ w' = w := by
 have hm := one1_bd hn; have hq := nn_bd hr; have E := pr_eq hh.1 hq.1 hq.2 hm.1 hm.2; have E2 : (h % one1 n + nn r) % one1 n = prN h r n := rfl; rw [E2] at E; generalize prN h r n = p at *; obtain ⟨h0, h1⟩ := hh; obtain ⟨r0, r1⟩ := hr; obtain ⟨n0, n1⟩ := hn; rw [← max1, ← max0] at *; have HE : Hid _ := E; clear E E2; by_cases c1 : n < 1 <;> by_cases c2 : r < 0
 all_goals
  go_enter Tryz.func9, Tryz.ntmps9
  go_wp2; go_returns
  exact ⟨ret_i HE.out, rfl⟩
theorem rp_eq {h r m : Int} (h0 : 0 ≤ h) (r0 : 0 ≤ r) (r1 : r ≤ 9223372036854775807) (m0 : 1 ≤ m) (m1 : m ≤ 9223372036854775807) : wrap64 ((IntKind.u64.wrap (h % m + r % m)).tmod m) = (h % m + r) % m := by
 have a0 := Int.emod_nonneg r (show m ≠ 0 by omega); have a1 := Int.emod_lt_of_pos r (show 0 < m by omega); have b0 := Int.emod_nonneg h (show m ≠ 0 by omega); have b1 := Int.emod_lt_of_pos h (show 0 < m by omega); rw [← Int.emod_emod_of_dvd h (Int.dvd_refl m), pr_eq b0 a0 (by omega) m0 m1]; simp [Int.add_emod]
end Go.Proofs.YtojfcdjgcgnajaaGreat
namespace Go.Proofs.YtojfcdjgcgnajaaGreat
open Go.RowKit
set_option linter.unusedSimpArgs false
set_option linter.unusedVariables false
set_option maxHeartbeats 1000000 in
theorem fmulAdd_any (a b c d : Int) (ha : Limb a) (hb : Limb b) (hc : Limb c) (hd : Limb d) (w : World) :
 Calls Tryz.prog 146 #[.int .u64 a, .int .u64 b, .int .u64 c, .int .u64 d] w fun e w' =>
  ∃ l h : Int, e = .returned (.tuple #[.int .u64 l, .int .u64 h]) ∧ Limb l ∧ Limb h ∧ Hid (a * b + c + d = l + 18446744073709551616 * h) ∧ w' = w := by
 go_enter Tryz.func146, Tryz.ntmps146
 go_wp2_with fail
 refine (mul64_any a b ha hb _).mono ?_; rintro e w' ⟨h, l, rfl, hl, ⟨hh0, hh1⟩, hE, rfl⟩; obtain ⟨s, m, r1, ls, p1, q1, e1⟩ := add64_ex l c 0 hl hc (by decide) (by decide); obtain ⟨t, n, r2, lt, p2, q2, e2⟩ := add64_ex s d 0 ls hd (by decide) (by decide); have hab : a * b ≤ 18446744073709551615 * 18446744073709551615 := Int.mul_le_mul (by have := ha.2; omega) (by have := hb.2; omega) hb.1 (by decide); have hE2 : Hid (a * b + c + d = t + 18446744073709551616 * (h + m + n)) := by
  unfold Hid at *; omega
 have hbd : h + m + n ≤ 18446744073709551615 := by
  have := hc.2; have := hd.2; have := lt.1; unfold Hid at *; omega
 clear hab e1 e2 hE; go_wp2; go_ret2; exact ⟨t, h + m + n, rfl, lt, ⟨by omega, by omega⟩, hE2, rfl⟩
theorem fmulAdd_ex (a b c d : Int) (ha : Limb a) (hb : Limb b) (hc : Limb c) (hd : Limb d) : ∃ l h : Int,
 (∀ w, Calls Tryz.prog 146 #[.int .u64 a, .int .u64 b, .int .u64 c, .int .u64 d] w fun e w' => e = .returned (.tuple #[.int .u64 l, .int .u64 h]) ∧ w' = w) ∧ Limb l ∧ Limb h ∧ Hid (a * b + c + d = l + 18446744073709551616 * h) := by
 have hab : a * b ≤ 18446744073709551615 * 18446744073709551615 := Int.mul_le_mul (by have := ha.2; omega) (by have := hb.2; omega) hb.1 (by decide); have hab0 : 0 ≤ a * b := Int.mul_nonneg ha.1 hb.1; refine ⟨(a * b + c + d) % 18446744073709551616, (a * b + c + d) / 18446744073709551616, fun w => ?_, ⟨by omega, by omega⟩, ⟨by have := hc.1; have := hd.1; omega, by have := hc.2; have := hd.2; omega⟩, by show a * b + c + d = _; omega⟩; refine (fmulAdd_any a b c d ha hb hc hd w).mono ?_; rintro e w' ⟨l, h, rfl, ⟨hl0, hl1⟩, ⟨hh0, hh1⟩, hE, rfl⟩; have hE' : a * b + c + d = l + 18446744073709551616 * h := hE; rw [hE']; have e1 : (l + 18446744073709551616 * h) % 18446744073709551616 = l := by omega
 have e2 : (l + 18446744073709551616 * h) / 18446744073709551616 = h := by omega
 rw [e1, e2]; exact ⟨rfl, rfl⟩
theorem fmul_num (x b0 b1 b2 b3 : Int) : x * num b0 b1 b2 b3 = x * b0 + 18446744073709551616 * (x * b1) + 340282366920938463463374607431768211456 * (x * b2) + 6277101735386680763835789423207666416102355444464034512896 * (x * b3) := by
 unfold num; rw [Int.mul_add, Int.mul_add, Int.mul_add, Int.mul_left_comm x _ b1, Int.mul_left_comm x _ b2, Int.mul_left_comm x _ b3]
set_option maxHeartbeats 1000000 in
theorem frow_any (x b0 b1 b2 b3 c0 c1 c2 c3 : Int) (hx : Limb x) (hb : L4 b0 b1 b2 b3) (hc : L4 c0 c1 c2 c3) : ∃ l0 l1 l2 l3 h : Int,
 (∀ w, Calls Tryz.prog 122 #[.int .u64 x, .int .u64 b0, .int .u64 b1, .int .u64 b2, .int .u64 b3, .int .u64 c0, .int .u64 c1, .int .u64 c2, .int .u64 c3] w fun e w' => e = .returned (.tuple #[.int .u64 l0, .int .u64 l1, .int .u64 l2, .int .u64 l3, .int .u64 h]) ∧ w' = w) ∧
 L4 l0 l1 l2 l3 ∧ Limb h ∧ Hid (x * num b0 b1 b2 b3 + num c0 c1 c2 c3 = num l0 l1 l2 l3 + T256 * h) := by
 obtain ⟨l0, h0, r0, p0, q0, e0⟩ := fmulAdd_ex x b0 c0 0 hx hb.1 hc.1 ⟨by decide, by decide⟩; obtain ⟨l1, h1, r1, p1, q1, e1⟩ := fmulAdd_ex x b1 c1 h0 hx hb.2.1 hc.2.1 q0; obtain ⟨l2, h2, r2, p2, q2, e2⟩ := fmulAdd_ex x b2 c2 h1 hx hb.2.2.1 hc.2.2.1 q1; obtain ⟨l3, h3, r3, p3, q3, e3⟩ := fmulAdd_ex x b3 c3 h2 hx hb.2.2.2 hc.2.2.2 q2; refine ⟨l0, l1, l2, l3, h3, fun w => ?_, ⟨p0, p1, p2, p3⟩, q3, ?_⟩
 · have R0 : Hid _ := r0
   have R1 : Hid _ := r1; have R2 : Hid _ := r2; have R3 : Hid _ := r3; clear r0 r1 r2 r3 e0 e1 e2 e3 p0 p1 p2 p3 q0 q1 q2 q3 hx hb hc; go_enter Tryz.func122, Tryz.ntmps122; go_wp2_with fail; refine Calls.mono (R0.out _) ?_; rintro e w' ⟨rfl, hs⟩; obtain rfl := hs.symm; go_wp2_with fail; refine Calls.mono (R1.out _) ?_; rintro e w' ⟨rfl, hs⟩; obtain rfl := hs.symm; go_wp2_with fail; refine Calls.mono (R2.out _) ?_; rintro e w' ⟨rfl, hs⟩; obtain rfl := hs.symm; go_wp2_with fail; refine Calls.mono (R3.out _) ?_; rintro e w' ⟨rfl, hs⟩; obtain rfl := hs.symm; go_wp2; go_returns; exact ⟨rfl, rfl⟩
 · rw [fmul_num]
   unfold Hid at *; unfold num T256; omega
end Go.Proofs.YtojfcdjgcgnajaaGreat
namespace Go.Proofs.YtojfcdjgcgnajaaGreat
open Go.RowKit
set_option linter.unusedSimpArgs false
set_option linter.unusedVariables false
def PP : Int := 57896044618658097711785492504343953926634992332820282019728792003956564819949
def ModC : Prop := ∀ (a0 a1 a2 a3 b0 b1 b2 b3 : Int), L4 a0 a1 a2 a3 → L4 b0 b1 b2 b3 → 0 < b3 → ∀ w : World,
    Calls Tryz.prog 96 #[W4 a0 a1 a2 a3, W4 b0 b1 b2 b3] w fun e w' =>
     ∃ s0 s1 s2 s3 : Int, e = .returned (W4 s0 s1 s2 s3) ∧ L4 s0 s1 s2 s3 ∧ Hid (num s0 s1 s2 s3 = num a0 a1 a2 a3 % num b0 b1 b2 b3) ∧ Below w.heap.size w w'
theorem two63 : (2 : Int) ^ 63 = 9223372036854775808 := by decide
theorem f_or_bit (x y : Int) (hx0 : 0 ≤ x) (hx : x < 1152921504606846976) (hy0 : 0 ≤ y) (hy : y < 2) : bits .or .u64 (x * 2) y = x * 2 + y := by
 refine bits_join .u64 63 (by decide) (fun n h0 h1 => ?_) 1 (x * 2) y (by omega) (by omega) ?_ hy0 (by omega) ?_
 · rw [IntKind.wrap_u64]; rw [two63] at h1; omega
 · rw [two63]; omega
 · rw [two63]; omega
theorem and_63 (x : Int) (h : Limb x) : bits .and .u64 x 9223372036854775807 = x % 9223372036854775808 := by
 rw [u64_and x _ h.1 h.2 (by decide) (by decide), show (9223372036854775807 : Int).toNat = 2 ^ 63 - 1 from by decide, Nat.and_two_pow_sub_one_eq_mod]; have : (2 : Nat) ^ 63 = 9223372036854775808 := by decide
 rw [this]; have := h.1; omega
theorem p_any (w : World) : Calls Tryz.prog 83 #[] w fun e w' => e = .returned (W4 18446744073709551597 18446744073709551615 18446744073709551615 9223372036854775807) ∧ Below w.heap.size w w' := by
 go_enter Tryz.func83, Tryz.ntmps83
 go_wp2; go_returns
 exact ⟨rfl, by go_grown⟩
theorem p_num : num 18446744073709551597 18446744073709551615 18446744073709551615 9223372036854775807 = PP := by decide
theorem p_L4 : L4 18446744073709551597 18446744073709551615 18446744073709551615 9223372036854775807 := ⟨⟨by decide, by decide⟩, ⟨by decide, by decide⟩, ⟨by decide, by decide⟩, ⟨by decide, by decide⟩⟩
theorem settle_num {a0 a1 a2 a3 u s0 s1 s2 c0 c1 c2 q : Int} (hq : q = u * 2 + a3 / 9223372036854775808) (e0 : Hid (a0 + 19 * q + 0 = s0 + 18446744073709551616 * c0)) (e1 : Hid (a1 + 0 + c0 = s1 + 18446744073709551616 * c1)) (e2 : Hid (a2 + 0 + c1 = s2 + 18446744073709551616 * c2)) :
 num a0 a1 a2 a3 + T256 * u = num s0 s1 s2 (a3 % 9223372036854775808 + c2) + PP * q := by
 unfold Hid at *; unfold num T256 PP; omega
set_option maxHeartbeats 1000000 in
theorem settle_any (hmod : ModC) (a0 a1 a2 a3 u : Int) (ha : L4 a0 a1 a2 a3) (hu0 : 0 ≤ u) (hu : u < 1000000) (w : World) :
 Calls Tryz.prog 62 #[.int .u64 a0, .int .u64 a1, .int .u64 a2, .int .u64 a3, .int .u64 u] w fun e w' =>
  ∃ s0 s1 s2 s3 : Int, e = .returned (W4 s0 s1 s2 s3) ∧ L4 s0 s1 s2 s3 ∧ Hid (num s0 s1 s2 s3 = (num a0 a1 a2 a3 + T256 * u) % PP) ∧ Below w.heap.size w w' := by
 have HM : Hid ModC := hmod; clear hmod; obtain ⟨t, ht⟩ : ∃ t, t = a3 / 9223372036854775808 := ⟨_, rfl⟩
 have ht0 : 0 ≤ t ∧ t < 2 := by rw [ht]; have := ha.2.2.2.1; have := ha.2.2.2.2; omega
 obtain ⟨r, hr⟩ : ∃ r, r = a3 % 9223372036854775808 := ⟨_, rfl⟩
 have hr0 : 0 ≤ r ∧ r < 9223372036854775808 := by rw [hr]; omega
 have hor := f_or_bit u t hu0 (by omega) ht0.1 ht0.2; have hand := and_63 a3 ha.2.2.2; rw [← hr] at hand; obtain ⟨q, hq⟩ : ∃ q, q = u * 2 + t := ⟨_, rfl⟩
 rw [← hq] at hor; obtain ⟨ht1, ht2⟩ := ht0; obtain ⟨hr1, hr2⟩ := hr0; obtain ⟨s0, c0, r0, l0, p0, q0, e0⟩ := add64_ex a0 (19 * q) 0 ha.1 ⟨by omega, by omega⟩ (by decide) (by decide); obtain ⟨s1, c1, r1, l1, p1, q1, e1⟩ := add64_ex a1 0 c0 ha.2.1 ⟨by decide, by decide⟩ p0 q0; obtain ⟨s2, c2, r2, l2, p2, q2, e2⟩ := add64_ex a2 0 c1 ha.2.2.1 ⟨by decide, by decide⟩ p1 q1; have E := settle_num (u := u) (a3 := a3) (by rw [← ht]; exact hq) e0 e1 e2; rw [← hr] at E; have HE : Hid _ := E; have L : L4 s0 s1 s2 (r + c2) := ⟨l0, l1, l2, ⟨by omega, by omega⟩⟩
 have hq0 : 0 ≤ q := by omega
 have hq1 : q < 4000000 := by omega
 have H3 : Hid (a3 = a3) := rfl; have htt : a3 / 9223372036854775808 = t := ht.symm; clear E e0 e1 e2 hq hr ht; go_enter Tryz.func62, Tryz.ntmps62; by_cases hlt : r + c2 < 9223372036854775807
 · go_wp2
   go_returns
   refine ⟨s0, s1, s2, r + c2, rfl, L, ?_, by go_grown⟩; show _ = _; rw [HE.out]; have := num_bd L; have hlP : num s0 s1 s2 (r + c2) < PP := by
    obtain ⟨⟨_, _⟩, ⟨_, _⟩, ⟨_, _⟩, ⟨_, _⟩⟩ := L; unfold num PP; omega
   rw [Int.add_mul_emod_self_left, Int.emod_eq_of_lt this.1 hlP]
 · go_wp2_with (first | (go_at_call 83; refine (p_any _).mono ?_; rintro e w1 ⟨rfl, hb1⟩))
   refine (HM.out s0 s1 s2 (r + c2) _ _ _ _ L p_L4 (by decide) _).mono ?_; rintro e w2 ⟨x0, x1, x2, x3, rfl, hL, hN, hb2⟩; have hA : w.heap.size < (w.alloc (.cells #[.int .u64 0, .int .u64 0, .int .u64 0, .int .u64 0] 51)).heap.size := by simp
   have hB : Below (w.alloc (.cells #[.int .u64 0, .int .u64 0, .int .u64 0, .int .u64 0] 51)).heap.size (w.alloc (.cells #[.int .u64 0, .int .u64 0, .int .u64 0, .int .u64 0] 51)) w2 := hb1.trans (hb2.mono hb1.size); have hN2 : Hid (num x0 x1 x2 x3 = (num a0 a1 a2 a3 + T256 * u) % PP) := by
    show _ = _; rw [HE.out, hN.out, p_num, Int.add_mul_emod_self_left]
   obtain ⟨hc, hf⟩ := bcell hB; have hz : w.heap.size < w2.heap.size := by have := hB.size; simp at this; omega
   clear hb1 hb2 hN HE; unfold W4; go_wp2; refine bodyPost_ret (v := W4 x0 x1 x2 x3) (by simp [results, Tryz.results62, go_sem, hc, hz]) rfl ?_; have hBB : Below w.heap.size w w2 := Below.trans (by go_grown) (hB.mono (by simp)); clear hB hc hf; exact ⟨x0, x1, x2, x3, rfl, hL, hN2, by go_grown⟩
end Go.Proofs.YtojfcdjgcgnajaaGreat
namespace Go.Proofs.YtojfcdjgcgnajaaGreat
open Go.RowKit
set_option linter.unusedSimpArgs false
theorem sum_num {a0 a1 a2 a3 b0 b1 b2 b3 s0 s1 s2 s3 c0 c1 c2 c3 : Int} (h0 : Hid (a0 + b0 + 0 = s0 + 18446744073709551616 * c0)) (h1 : Hid (a1 + b1 + c0 = s1 + 18446744073709551616 * c1)) (h2 : Hid (a2 + b2 + c1 = s2 + 18446744073709551616 * c2)) (h3 : Hid (a3 + b3 + c2 = s3 + 18446744073709551616 * c3)) :
 num a0 a1 a2 a3 + num b0 b1 b2 b3 = num s0 s1 s2 s3 + T256 * c3 := by
 unfold Hid at *; unfold num T256; omega
theorem dif_num {a0 a1 a2 a3 b0 b1 b2 b3 s0 s1 s2 s3 c0 c1 c2 c3 : Int} (h0 : Hid (a0 - b0 - 0 = s0 - 18446744073709551616 * c0)) (h1 : Hid (a1 - b1 - c0 = s1 - 18446744073709551616 * c1)) (h2 : Hid (a2 - b2 - c1 = s2 - 18446744073709551616 * c2)) (h3 : Hid (a3 - b3 - c2 = s3 - 18446744073709551616 * c3)) :
 num a0 a1 a2 a3 - num b0 b1 b2 b3 = num s0 s1 s2 s3 - T256 * c3 := by
 unfold Hid at *; unfold num T256; omega
set_option maxHeartbeats 1000000 in
theorem sum_any (a0 a1 a2 a3 b0 b1 b2 b3 : Int) (ha : L4 a0 a1 a2 a3) (hb : L4 b0 b1 b2 b3) (w : World) :
 Calls Tryz.prog 65 #[W4 a0 a1 a2 a3, W4 b0 b1 b2 b3] w fun e w' =>
  ∃ s0 s1 s2 s3 c : Int, e = .returned (.tuple #[W4 s0 s1 s2 s3, .int .u64 c]) ∧ L4 s0 s1 s2 s3 ∧ (0 ≤ c ∧ c ≤ 1) ∧ Hid (num a0 a1 a2 a3 + num b0 b1 b2 b3 = num s0 s1 s2 s3 + T256 * c) ∧ Below w.heap.size w w' := by
 unfold W4; obtain ⟨s0, c0, r0, l0, p0, q0, e0⟩ := add64_ex a0 b0 0 ha.1 hb.1 (by decide) (by decide); obtain ⟨s1, c1, r1, l1, p1, q1, e1⟩ := add64_ex a1 b1 c0 ha.2.1 hb.2.1 p0 q0; obtain ⟨s2, c2, r2, l2, p2, q2, e2⟩ := add64_ex a2 b2 c1 ha.2.2.1 hb.2.2.1 p1 q1; obtain ⟨s3, c3, r3, l3, p3, q3, e3⟩ := add64_ex a3 b3 c2 ha.2.2.2 hb.2.2.2 p2 q2; have E := sum_num e0 e1 e2 e3; have hE : Hid _ := E; clear E e0 e1 e2 e3; have L : L4 s0 s1 s2 s3 := ⟨l0, l1, l2, l3⟩
 clear l0 l1 l2 l3 p0 p1 p2 q0 q1 q2 ha hb; go_enter Tryz.func65, Tryz.ntmps65; go_wp2; refine wp_loop_rounds 5 ?_; iterate 4
  rw [rounds_succ]; go_wp2; go_region; go_wp2
 rw [rounds_succ]; go_wp2; go_returns; exact ⟨s0, s1, s2, s3, c3, rfl, L, ⟨p3, q3⟩, hE, by go_grown⟩
set_option maxHeartbeats 1000000 in
theorem add_any (a0 a1 a2 a3 b0 b1 b2 b3 : Int) (ha : L4 a0 a1 a2 a3) (hb : L4 b0 b1 b2 b3) (w : World) :
 Calls Tryz.prog 139 #[W4 a0 a1 a2 a3, W4 b0 b1 b2 b3] w fun e w' =>
  ∃ s0 s1 s2 s3 : Int, e = .returned (W4 s0 s1 s2 s3) ∧ L4 s0 s1 s2 s3 ∧ Hid (num s0 s1 s2 s3 = (num a0 a1 a2 a3 + num b0 b1 b2 b3) % T256) ∧ Below w.heap.size w w' := by
 unfold W4; go_enter Tryz.func139, Tryz.ntmps139; go_wp2_with fail; refine (sum_any a0 a1 a2 a3 b0 b1 b2 b3 ha hb _).mono ?_; rintro e w1 ⟨s0, s1, s2, s3, c, rfl, L, ⟨hc0, hc1⟩, hE, hw⟩; have hEE : Hid (num s0 s1 s2 s3 = (num a0 a1 a2 a3 + num b0 b1 b2 b3) % T256) := by
  have := num_bd L; unfold Hid at *; rw [hE]; unfold T256 at *; omega
 obtain ⟨hc, hf⟩ := bcell hw; have hz : w.heap.size + 1 + 1 < w1.heap.size := by have := hw.size; simp at this; omega
 unfold W4; go_wp2; refine bodyPost_ret (v := W4 s0 s1 s2 s3) (by simp [results, Tryz.results139, go_sem, hc, hz]) rfl ?_; have hB : Below w.heap.size w w1 := Below.trans (by go_grown) (hw.mono (by simp; omega)); clear hw hc hf; exact ⟨s0, s1, s2, s3, rfl, L, hEE, by go_grown⟩
set_option maxHeartbeats 1000000 in
theorem sub_any (a0 a1 a2 a3 b0 b1 b2 b3 : Int) (ha : L4 a0 a1 a2 a3) (hb : L4 b0 b1 b2 b3) (w : World) :
 Calls Tryz.prog 142 #[W4 a0 a1 a2 a3, W4 b0 b1 b2 b3] w fun e w' =>
  ∃ s0 s1 s2 s3 : Int, e = .returned (W4 s0 s1 s2 s3) ∧ L4 s0 s1 s2 s3 ∧ Hid (num s0 s1 s2 s3 = (num a0 a1 a2 a3 - num b0 b1 b2 b3) % T256) ∧ Below w.heap.size w w' := by
 unfold W4; obtain ⟨s0, c0, r0, l0, p0, q0, e0⟩ := sub64_ex a0 b0 0 ha.1 hb.1 (by decide) (by decide); obtain ⟨s1, c1, r1, l1, p1, q1, e1⟩ := sub64_ex a1 b1 c0 ha.2.1 hb.2.1 p0 q0; obtain ⟨s2, c2, r2, l2, p2, q2, e2⟩ := sub64_ex a2 b2 c1 ha.2.2.1 hb.2.2.1 p1 q1; obtain ⟨s3, c3, r3, l3, p3, q3, e3⟩ := sub64_ex a3 b3 c2 ha.2.2.2 hb.2.2.2 p2 q2; have E := dif_num e0 e1 e2 e3; have L : L4 s0 s1 s2 s3 := ⟨l0, l1, l2, l3⟩
 have hE : Hid (num s0 s1 s2 s3 = (num a0 a1 a2 a3 - num b0 b1 b2 b3) % T256) := by
  have := num_bd L; unfold Hid; rw [E]; unfold T256 at *; omega
 clear E e0 e1 e2 e3; clear l0 l1 l2 l3 p0 p1 p2 q0 q1 q2 ha hb; go_enter Tryz.func142, Tryz.ntmps142; go_wp2; refine wp_loop_rounds 5 ?_; iterate 4
  rw [rounds_succ]; go_wp2; go_region; go_wp2
 rw [rounds_succ]; go_wp2; go_returns; exact ⟨s0, s1, s2, s3, rfl, L, hE, by go_grown⟩
end Go.Proofs.YtojfcdjgcgnajaaGreat
