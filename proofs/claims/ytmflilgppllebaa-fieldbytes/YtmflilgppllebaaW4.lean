/- Walks over package word: shifts towards the low end. -/
import Derived.Test.YtmflilgppllebaaW3
namespace Go.Proofs.Ytmflilgppllebaa
open Go.RowKit
set_option linter.unusedSimpArgs false
set_option linter.unusedVariables false

/-- A limb shifted down, with what comes in from above, times what it was divided by. -/
theorem down_parts (x y r : Int) (h0 : 0 ≤ r) (h1 : r < 64) : (x / 2 ^ r.toNat + (y % 2 ^ r.toNat) * 2 ^ (64 - r).toNat) * 2 ^ r.toNat = x - x % 2 ^ r.toNat + 18446744073709551616 * (y % 2 ^ r.toNat) := by
  have hp := pow_split r h0 h1
  rw [Int.add_mul, Int.mul_assoc, Int.mul_comm (2 ^ (64 - r).toNat), hp]
  have := Int.mul_ediv_add_emod x (2 ^ r.toNat)
  rw [Int.mul_comm] at this
  omega
theorem top_parts (x r : Int) : x / 2 ^ r.toNat * 2 ^ r.toNat = x - x % 2 ^ r.toNat := by
  have := Int.mul_ediv_add_emod x (2 ^ r.toNat)
  rw [Int.mul_comm] at this
  omega
theorem div_limb (x : Int) (n : Nat) (h : Limb x) : Limb (x / 2 ^ n) := by
  have hp := pow_pos' n
  refine ⟨Int.ediv_nonneg h.1 (Int.le_of_lt hp), ?_⟩
  have : x / 2 ^ n ≤ x := Int.ediv_le_self _ h.1
  have := h.2
  omega
/-- The quotient, by what is left. -/
theorem ediv_of (x q d r : Int) (h : x = q * d + r) (h0 : 0 ≤ r) (h1 : r < d) : x / d = q := by
  rw [h, Int.add_comm, Int.add_mul_ediv_right _ _ (by omega), Int.ediv_eq_zero_of_lt h0 h1]; omega
theorem shr_num0 {x0 x1 x2 x3 r : Int} (h0 : 0 ≤ r) (h1 : r < 64) (hx : L4 x0 x1 x2 x3) (n : Int) (hn : n = 0 + r) :
    num (bits .or .u64 (x0 / 2 ^ r.toNat) (IntKind.u64.wrap (x1 * 2 ^ (64 - r).toNat))) (bits .or .u64 (x1 / 2 ^ r.toNat) (IntKind.u64.wrap (x2 * 2 ^ (64 - r).toNat))) (bits .or .u64 (x2 / 2 ^ r.toNat) (IntKind.u64.wrap (x3 * 2 ^ (64 - r).toNat))) (x3 / 2 ^ r.toNat) = num x0 x1 x2 x3 / 2 ^ n.toNat := by
  obtain ⟨hx0, hx1, hx2, hx3⟩ := hx
  rw [down_or x0 x1 r h0 h1 hx0 hx1, down_or x1 x2 r h0 h1 hx1 hx2, down_or x2 x3 r h0 h1 hx2 hx3]
  have d0 := down_parts x0 x1 r h0 h1
  have d1 := down_parts x1 x2 r h0 h1
  have d2 := down_parts x2 x3 r h0 h1
  have d3 := top_parts x3 r
  have hP := pow_pos' r.toNat
  have hpk : (2 : Int) ^ (64 * (0 : Int)).toNat = 1 := by decide
  rw [shl_pow n 0 r h0 (by decide) (by omega), hpk]
  obtain ⟨_, _⟩ := hx0
  obtain ⟨_, _⟩ := hx1
  obtain ⟨_, _⟩ := hx2
  obtain ⟨_, _⟩ := hx3
  have t := Int.emod_nonneg x0 (Int.ne_of_gt hP)
  have t' := Int.emod_lt_of_pos x0 hP
  symm
  refine ediv_of _ _ _ ((x0 % 2 ^ r.toNat) * 1 + (0)) ?_ (by omega) (by omega)
  rw [← Int.mul_assoc, num_mul]
  generalize hz : (0 : Int) * 2 ^ r.toNat = z
  have hz0 : z = 0 := by rw [← hz, Int.zero_mul]
  rw [d0, d1, d2, d3]
  clear d0 d1 d2 d3 t t'
  generalize x0 % 2 ^ r.toNat = t0 at *
  generalize x1 % 2 ^ r.toNat = t1 at *
  generalize x2 % 2 ^ r.toNat = t2 at *
  generalize x3 % 2 ^ r.toNat = t3 at *
  unfold num
  omega
set_option maxHeartbeats 1000000 in
theorem shr_walk0 (n0 r x0 x1 x2 x3 : Int) (hn0 : 0 ≤ n0) (hn1 : n0 < 64) (hm : n0 % 64 = r) (hr0 : 0 ≤ r) (hr1 : r < 64) (w : World) :
    Calls Try.prog 55 #[W4 n0 0 0 0, W4 x0 x1 x2 x3] w fun e w' => e = .returned (W4 (bits .or .u64 (x0 / 2 ^ r.toNat) (IntKind.u64.wrap (x1 * 2 ^ (64 - r).toNat))) (bits .or .u64 (x1 / 2 ^ r.toNat) (IntKind.u64.wrap (x2 * 2 ^ (64 - r).toNat))) (bits .or .u64 (x2 / 2 ^ r.toNat) (IntKind.u64.wrap (x3 * 2 ^ (64 - r).toNat))) (x3 / 2 ^ r.toNat)) ∧ Below w.heap.size w w' := by
  have hq : n0 / 64 = 0 := by omega
  have hb := below_yes n0 256 (by omega) (by omega) (by decide)
  have HB : Hid _ := hb
  clear hb
  unfold W4 at *
  go_enter Try.func55, Try.ntmps55
  go_wp2_with fail
  refine (HB.out _).mono ?_
  rintro e w1 ⟨rfl, c1, c2, c3, rfl⟩
  clear HB
  go_wp2
  refine wp_loop_rounds 5 ?_
  rw [rounds_succ]
  go_wp2
  go_region
  go_wp2
  rw [rounds_succ]
  go_wp2
  go_region
  go_wp2
  rw [rounds_succ]
  go_wp2
  go_region
  go_wp2
  rw [rounds_succ]
  go_wp2
  rw [rounds_succ]
  go_wp2
  go_returns
  exact ⟨rfl, by go_grown⟩
theorem shr_in0 (n0 x0 x1 x2 x3 : Int) (hn0 : 0 ≤ n0) (hn1 : n0 < 64) (hx : L4 x0 x1 x2 x3) (w : World) :
    Calls Try.prog 55 #[W4 n0 0 0 0, W4 x0 x1 x2 x3] w fun e w' => ∃ s0 s1 s2 s3 : Int, e = .returned (W4 s0 s1 s2 s3) ∧ L4 s0 s1 s2 s3 ∧ Hid (num s0 s1 s2 s3 = num x0 x1 x2 x3 / 2 ^ n0.toNat) ∧ Below w.heap.size w w' := by
  refine (shr_walk0 n0 (n0 % 64) x0 x1 x2 x3 hn0 hn1 rfl (by omega) (by omega) w).mono ?_
  rintro e w' ⟨rfl, hw⟩
  exact ⟨_, _, _, _, rfl, ⟨limb_bits _ _ _, limb_bits _ _ _, limb_bits _ _ _, div_limb _ _ hx.2.2.2⟩, shr_num0 (by omega) (by omega) hx n0 (by omega), hw⟩
theorem shr_num1 {x0 x1 x2 x3 r : Int} (h0 : 0 ≤ r) (h1 : r < 64) (hx : L4 x0 x1 x2 x3) (n : Int) (hn : n = 64 + r) :
    num (bits .or .u64 (x1 / 2 ^ r.toNat) (IntKind.u64.wrap (x2 * 2 ^ (64 - r).toNat))) (bits .or .u64 (x2 / 2 ^ r.toNat) (IntKind.u64.wrap (x3 * 2 ^ (64 - r).toNat))) (x3 / 2 ^ r.toNat) 0 = num x0 x1 x2 x3 / 2 ^ n.toNat := by
  obtain ⟨hx0, hx1, hx2, hx3⟩ := hx
  rw [down_or x1 x2 r h0 h1 hx1 hx2, down_or x2 x3 r h0 h1 hx2 hx3]
  have d0 := down_parts x0 x1 r h0 h1
  have d1 := down_parts x1 x2 r h0 h1
  have d2 := down_parts x2 x3 r h0 h1
  have d3 := top_parts x3 r
  have hP := pow_pos' r.toNat
  have hpk : (2 : Int) ^ (64 * (1 : Int)).toNat = 18446744073709551616 := by decide
  rw [shl_pow n 1 r h0 (by decide) (by omega), hpk]
  obtain ⟨_, _⟩ := hx0
  obtain ⟨_, _⟩ := hx1
  obtain ⟨_, _⟩ := hx2
  obtain ⟨_, _⟩ := hx3
  have t := Int.emod_nonneg x1 (Int.ne_of_gt hP)
  have t' := Int.emod_lt_of_pos x1 hP
  symm
  refine ediv_of _ _ _ ((x1 % 2 ^ r.toNat) * 18446744073709551616 + (0 + 1 * x0)) ?_ (by omega) (by omega)
  rw [← Int.mul_assoc, num_mul]
  generalize hz : (0 : Int) * 2 ^ r.toNat = z
  have hz0 : z = 0 := by rw [← hz, Int.zero_mul]
  rw [d1, d2, d3]
  clear d0 d1 d2 d3 t t'
  generalize x0 % 2 ^ r.toNat = t0 at *
  generalize x1 % 2 ^ r.toNat = t1 at *
  generalize x2 % 2 ^ r.toNat = t2 at *
  generalize x3 % 2 ^ r.toNat = t3 at *
  unfold num
  omega
set_option maxHeartbeats 1000000 in
theorem shr_walk1 (n0 r x0 x1 x2 x3 : Int) (hn0 : 64 ≤ n0) (hn1 : n0 < 128) (hm : n0 % 64 = r) (hr0 : 0 ≤ r) (hr1 : r < 64) (w : World) :
    Calls Try.prog 55 #[W4 n0 0 0 0, W4 x0 x1 x2 x3] w fun e w' => e = .returned (W4 (bits .or .u64 (x1 / 2 ^ r.toNat) (IntKind.u64.wrap (x2 * 2 ^ (64 - r).toNat))) (bits .or .u64 (x2 / 2 ^ r.toNat) (IntKind.u64.wrap (x3 * 2 ^ (64 - r).toNat))) (x3 / 2 ^ r.toNat) 0) ∧ Below w.heap.size w w' := by
  have hq : n0 / 64 = 1 := by omega
  have hb := below_yes n0 256 (by omega) (by omega) (by decide)
  have HB : Hid _ := hb
  clear hb
  unfold W4 at *
  go_enter Try.func55, Try.ntmps55
  go_wp2_with fail
  refine (HB.out _).mono ?_
  rintro e w1 ⟨rfl, c1, c2, c3, rfl⟩
  clear HB
  go_wp2
  refine wp_loop_rounds 5 ?_
  rw [rounds_succ]
  go_wp2
  go_region
  go_wp2
  rw [rounds_succ]
  go_wp2
  go_region
  go_wp2
  rw [rounds_succ]
  go_wp2
  rw [rounds_succ]
  go_wp2
  go_returns
  exact ⟨rfl, by go_grown⟩
theorem shr_in1 (n0 x0 x1 x2 x3 : Int) (hn0 : 64 ≤ n0) (hn1 : n0 < 128) (hx : L4 x0 x1 x2 x3) (w : World) :
    Calls Try.prog 55 #[W4 n0 0 0 0, W4 x0 x1 x2 x3] w fun e w' => ∃ s0 s1 s2 s3 : Int, e = .returned (W4 s0 s1 s2 s3) ∧ L4 s0 s1 s2 s3 ∧ Hid (num s0 s1 s2 s3 = num x0 x1 x2 x3 / 2 ^ n0.toNat) ∧ Below w.heap.size w w' := by
  refine (shr_walk1 n0 (n0 % 64) x0 x1 x2 x3 hn0 hn1 rfl (by omega) (by omega) w).mono ?_
  rintro e w' ⟨rfl, hw⟩
  exact ⟨_, _, _, _, rfl, ⟨limb_bits _ _ _, limb_bits _ _ _, div_limb _ _ hx.2.2.2, limb0⟩, shr_num1 (by omega) (by omega) hx n0 (by omega), hw⟩
theorem shr_num2 {x0 x1 x2 x3 r : Int} (h0 : 0 ≤ r) (h1 : r < 64) (hx : L4 x0 x1 x2 x3) (n : Int) (hn : n = 128 + r) :
    num (bits .or .u64 (x2 / 2 ^ r.toNat) (IntKind.u64.wrap (x3 * 2 ^ (64 - r).toNat))) (x3 / 2 ^ r.toNat) 0 0 = num x0 x1 x2 x3 / 2 ^ n.toNat := by
  obtain ⟨hx0, hx1, hx2, hx3⟩ := hx
  rw [down_or x2 x3 r h0 h1 hx2 hx3]
  have d0 := down_parts x0 x1 r h0 h1
  have d1 := down_parts x1 x2 r h0 h1
  have d2 := down_parts x2 x3 r h0 h1
  have d3 := top_parts x3 r
  have hP := pow_pos' r.toNat
  have hpk : (2 : Int) ^ (64 * (2 : Int)).toNat = 340282366920938463463374607431768211456 := by decide
  rw [shl_pow n 2 r h0 (by decide) (by omega), hpk]
  obtain ⟨_, _⟩ := hx0
  obtain ⟨_, _⟩ := hx1
  obtain ⟨_, _⟩ := hx2
  obtain ⟨_, _⟩ := hx3
  have t := Int.emod_nonneg x2 (Int.ne_of_gt hP)
  have t' := Int.emod_lt_of_pos x2 hP
  symm
  refine ediv_of _ _ _ ((x2 % 2 ^ r.toNat) * 340282366920938463463374607431768211456 + (0 + 1 * x0 + 18446744073709551616 * x1)) ?_ (by omega) (by omega)
  rw [← Int.mul_assoc, num_mul]
  generalize hz : (0 : Int) * 2 ^ r.toNat = z
  have hz0 : z = 0 := by rw [← hz, Int.zero_mul]
  rw [d2, d3]
  clear d0 d1 d2 d3 t t'
  generalize x0 % 2 ^ r.toNat = t0 at *
  generalize x1 % 2 ^ r.toNat = t1 at *
  generalize x2 % 2 ^ r.toNat = t2 at *
  generalize x3 % 2 ^ r.toNat = t3 at *
  unfold num
  omega
set_option maxHeartbeats 1000000 in
theorem shr_walk2 (n0 r x0 x1 x2 x3 : Int) (hn0 : 128 ≤ n0) (hn1 : n0 < 192) (hm : n0 % 64 = r) (hr0 : 0 ≤ r) (hr1 : r < 64) (w : World) :
    Calls Try.prog 55 #[W4 n0 0 0 0, W4 x0 x1 x2 x3] w fun e w' => e = .returned (W4 (bits .or .u64 (x2 / 2 ^ r.toNat) (IntKind.u64.wrap (x3 * 2 ^ (64 - r).toNat))) (x3 / 2 ^ r.toNat) 0 0) ∧ Below w.heap.size w w' := by
  have hq : n0 / 64 = 2 := by omega
  have hb := below_yes n0 256 (by omega) (by omega) (by decide)
  have HB : Hid _ := hb
  clear hb
  unfold W4 at *
  go_enter Try.func55, Try.ntmps55
  go_wp2_with fail
  refine (HB.out _).mono ?_
  rintro e w1 ⟨rfl, c1, c2, c3, rfl⟩
  clear HB
  go_wp2
  refine wp_loop_rounds 5 ?_
  rw [rounds_succ]
  go_wp2
  go_region
  go_wp2
  rw [rounds_succ]
  go_wp2
  rw [rounds_succ]
  go_wp2
  go_returns
  exact ⟨rfl, by go_grown⟩
theorem shr_in2 (n0 x0 x1 x2 x3 : Int) (hn0 : 128 ≤ n0) (hn1 : n0 < 192) (hx : L4 x0 x1 x2 x3) (w : World) :
    Calls Try.prog 55 #[W4 n0 0 0 0, W4 x0 x1 x2 x3] w fun e w' => ∃ s0 s1 s2 s3 : Int, e = .returned (W4 s0 s1 s2 s3) ∧ L4 s0 s1 s2 s3 ∧ Hid (num s0 s1 s2 s3 = num x0 x1 x2 x3 / 2 ^ n0.toNat) ∧ Below w.heap.size w w' := by
  refine (shr_walk2 n0 (n0 % 64) x0 x1 x2 x3 hn0 hn1 rfl (by omega) (by omega) w).mono ?_
  rintro e w' ⟨rfl, hw⟩
  exact ⟨_, _, _, _, rfl, ⟨limb_bits _ _ _, div_limb _ _ hx.2.2.2, limb0, limb0⟩, shr_num2 (by omega) (by omega) hx n0 (by omega), hw⟩
theorem shr_num3 {x0 x1 x2 x3 r : Int} (h0 : 0 ≤ r) (h1 : r < 64) (hx : L4 x0 x1 x2 x3) (n : Int) (hn : n = 192 + r) :
    num (x3 / 2 ^ r.toNat) 0 0 0 = num x0 x1 x2 x3 / 2 ^ n.toNat := by
  obtain ⟨hx0, hx1, hx2, hx3⟩ := hx
  skip
  have d0 := down_parts x0 x1 r h0 h1
  have d1 := down_parts x1 x2 r h0 h1
  have d2 := down_parts x2 x3 r h0 h1
  have d3 := top_parts x3 r
  have hP := pow_pos' r.toNat
  have hpk : (2 : Int) ^ (64 * (3 : Int)).toNat = 6277101735386680763835789423207666416102355444464034512896 := by decide
  rw [shl_pow n 3 r h0 (by decide) (by omega), hpk]
  obtain ⟨_, _⟩ := hx0
  obtain ⟨_, _⟩ := hx1
  obtain ⟨_, _⟩ := hx2
  obtain ⟨_, _⟩ := hx3
  have t := Int.emod_nonneg x3 (Int.ne_of_gt hP)
  have t' := Int.emod_lt_of_pos x3 hP
  symm
  refine ediv_of _ _ _ ((x3 % 2 ^ r.toNat) * 6277101735386680763835789423207666416102355444464034512896 + (0 + 1 * x0 + 18446744073709551616 * x1 + 340282366920938463463374607431768211456 * x2)) ?_ (by omega) (by omega)
  rw [← Int.mul_assoc, num_mul]
  generalize hz : (0 : Int) * 2 ^ r.toNat = z
  have hz0 : z = 0 := by rw [← hz, Int.zero_mul]
  rw [d3]
  clear d0 d1 d2 d3 t t'
  generalize x0 % 2 ^ r.toNat = t0 at *
  generalize x1 % 2 ^ r.toNat = t1 at *
  generalize x2 % 2 ^ r.toNat = t2 at *
  generalize x3 % 2 ^ r.toNat = t3 at *
  unfold num
  omega
set_option maxHeartbeats 1000000 in
theorem shr_walk3 (n0 r x0 x1 x2 x3 : Int) (hn0 : 192 ≤ n0) (hn1 : n0 < 256) (hm : n0 % 64 = r) (hr0 : 0 ≤ r) (hr1 : r < 64) (w : World) :
    Calls Try.prog 55 #[W4 n0 0 0 0, W4 x0 x1 x2 x3] w fun e w' => e = .returned (W4 (x3 / 2 ^ r.toNat) 0 0 0) ∧ Below w.heap.size w w' := by
  have hq : n0 / 64 = 3 := by omega
  have hb := below_yes n0 256 (by omega) (by omega) (by decide)
  have HB : Hid _ := hb
  clear hb
  unfold W4 at *
  go_enter Try.func55, Try.ntmps55
  go_wp2_with fail
  refine (HB.out _).mono ?_
  rintro e w1 ⟨rfl, c1, c2, c3, rfl⟩
  clear HB
  go_wp2
  refine wp_loop_rounds 5 ?_
  rw [rounds_succ]
  go_wp2
  rw [rounds_succ]
  go_wp2
  go_returns
  exact ⟨rfl, by go_grown⟩
theorem shr_in3 (n0 x0 x1 x2 x3 : Int) (hn0 : 192 ≤ n0) (hn1 : n0 < 256) (hx : L4 x0 x1 x2 x3) (w : World) :
    Calls Try.prog 55 #[W4 n0 0 0 0, W4 x0 x1 x2 x3] w fun e w' => ∃ s0 s1 s2 s3 : Int, e = .returned (W4 s0 s1 s2 s3) ∧ L4 s0 s1 s2 s3 ∧ Hid (num s0 s1 s2 s3 = num x0 x1 x2 x3 / 2 ^ n0.toNat) ∧ Below w.heap.size w w' := by
  refine (shr_walk3 n0 (n0 % 64) x0 x1 x2 x3 hn0 hn1 rfl (by omega) (by omega) w).mono ?_
  rintro e w' ⟨rfl, hw⟩
  exact ⟨_, _, _, _, rfl, ⟨div_limb _ _ hx.2.2.2, limb0, limb0, limb0⟩, shr_num3 (by omega) (by omega) hx n0 (by omega), hw⟩
set_option maxHeartbeats 1000000 in
theorem shr_out (n0 n1 n2 n3 x0 x1 x2 x3 : Int) (hn : L4 n0 n1 n2 n3) (h : 256 ≤ num n0 n1 n2 n3) (w : World) :
    Calls Try.prog 55 #[W4 n0 n1 n2 n3, W4 x0 x1 x2 x3] w fun e w' => e = .returned (W4 0 0 0 0) ∧ Below w.heap.size w w' := by
  have hb := below_no n0 n1 n2 n3 256 hn h
  have HB : Hid _ := hb
  clear hb hn h
  unfold W4 at *
  go_enter Try.func55, Try.ntmps55
  go_wp2_with fail
  refine (HB.out _).mono ?_
  rintro e w1 ⟨rfl, c1, c2, c3, rfl⟩
  clear HB
  go_wp2
  go_returns
  exact ⟨rfl, by go_grown⟩
/-- x by n bits towards the low end. -/
def shrN (n x : Int) : Int := if n < 256 then x / 2 ^ n.toNat else 0
/-- word.Shr -/
theorem shr_any (n0 n1 n2 n3 x0 x1 x2 x3 : Int) (hn : L4 n0 n1 n2 n3) (hx : L4 x0 x1 x2 x3) (w : World) :
    Calls Try.prog 55 #[W4 n0 n1 n2 n3, W4 x0 x1 x2 x3] w fun e w' => ∃ s0 s1 s2 s3 : Int, e = .returned (W4 s0 s1 s2 s3) ∧ L4 s0 s1 s2 s3 ∧ Hid (num s0 s1 s2 s3 = shrN (num n0 n1 n2 n3) (num x0 x1 x2 x3)) ∧ Below w.heap.size w w' := by
  by_cases h : num n0 n1 n2 n3 < 256
  · obtain ⟨rfl, rfl, rfl, he⟩ := num_small hn (by omega)
    have h0 := hn.1.1
    have e : shrN (num n0 0 0 0) (num x0 x1 x2 x3) = num x0 x1 x2 x3 / 2 ^ n0.toNat := by unfold shrN; rw [if_pos h, he]
    rw [e]
    rw [he] at h
    rcases (by omega : n0 < 64 ∨ (64 ≤ n0 ∧ n0 < 128) ∨ (128 ≤ n0 ∧ n0 < 192) ∨ (192 ≤ n0 ∧ n0 < 256)) with g | ⟨g, g'⟩ | ⟨g, g'⟩ | ⟨g, g'⟩
    · exact shr_in0 n0 x0 x1 x2 x3 h0 g hx w
    · exact shr_in1 n0 x0 x1 x2 x3 g g' hx w
    · exact shr_in2 n0 x0 x1 x2 x3 g g' hx w
    · exact shr_in3 n0 x0 x1 x2 x3 g g' hx w
  · have e : shrN (num n0 n1 n2 n3) (num x0 x1 x2 x3) = 0 := by unfold shrN; rw [if_neg h]
    rw [e]
    refine (shr_out n0 n1 n2 n3 x0 x1 x2 x3 hn (by omega) w).mono ?_
    rintro e w' ⟨rfl, hw⟩
    exact ⟨0, 0, 0, 0, rfl, of_L4 limb0, of_num 0, hw⟩
end Go.Proofs.Ytmflilgppllebaa
