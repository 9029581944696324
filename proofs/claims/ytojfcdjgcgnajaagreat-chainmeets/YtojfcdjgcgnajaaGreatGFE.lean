/- FC, FD, FE -/
import Derived.Test.YtojfcdjgcgnajaaGreatGW1
namespace Go.Proofs.YtojfcdjgcgnajaaGreat
open Go.RowKit
set_option linter.unusedSimpArgs false
set_option linter.unusedVariables false
set_option maxHeartbeats 1000000 in
theorem fadd_any (hmod : ModC) (a0 a1 a2 a3 b0 b1 b2 b3 : Int) (ha : L4 a0 a1 a2 a3) (hb : L4 b0 b1 b2 b3) (w : World) :
 Calls Tryz.prog 86 #[W4 a0 a1 a2 a3, W4 b0 b1 b2 b3] w fun e w' =>
  ∃ s0 s1 s2 s3 : Int, e = .returned (W4 s0 s1 s2 s3) ∧ L4 s0 s1 s2 s3 ∧ Hid (num s0 s1 s2 s3 = (num a0 a1 a2 a3 + num b0 b1 b2 b3) % PP) ∧ Below w.heap.size w w' := by
 have HM : Hid ModC := hmod; clear hmod; unfold W4; obtain ⟨s0, c0, r0, l0, p0, q0, e0⟩ := add64_ex a0 b0 0 ha.1 hb.1 (by decide) (by decide); obtain ⟨s1, c1, r1, l1, p1, q1, e1⟩ := add64_ex a1 b1 c0 ha.2.1 hb.2.1 p0 q0; obtain ⟨s2, c2, r2, l2, p2, q2, e2⟩ := add64_ex a2 b2 c1 ha.2.2.1 hb.2.2.1 p1 q1; obtain ⟨s3, c3, r3, l3, p3, q3, e3⟩ := add64_ex a3 b3 c2 ha.2.2.2 hb.2.2.2 p2 q2; have E := sum_num e0 e1 e2 e3; have hE : Hid _ := E; clear E e0 e1 e2 e3; have L : L4 s0 s1 s2 s3 := ⟨l0, l1, l2, l3⟩
 clear l0 l1 l2 l3 p0 p1 p2 q0 q1 q2 ha hb; go_enter Tryz.func86, Tryz.ntmps86; go_wp2_with fail; refine (settle_any HM.out s0 s1 s2 s3 c3 L p3 (by omega) _).mono ?_; rintro e w1 ⟨x0, x1, x2, x3, rfl, hL, hN, hw⟩; have hEE : Hid (num x0 x1 x2 x3 = (num a0 a1 a2 a3 + num b0 b1 b2 b3) % PP) := by show _ = _; rw [hN.out, hE.out]
 obtain ⟨hc, hf⟩ := bcell hw; have hz : w.heap.size + 1 + 1 < w1.heap.size := by have := hw.size; simp at this; omega
 unfold W4; go_wp2; refine bodyPost_ret (v := W4 x0 x1 x2 x3) (by simp [results, Tryz.results86, go_sem, hc, hz]) rfl ?_; have hB : Below w.heap.size w w1 := Below.trans (by go_grown) (hw.mono (by simp; omega)); clear hw hc hf; exact ⟨x0, x1, x2, x3, rfl, hL, hEE, by go_grown⟩
theorem dif4_num {d0 d1 d2 d3 f0 f1 f2 f3 g0 g1 g2 g3 b m : Int} (hm : m = 76 * b) (h0 : Hid (d0 - m - 0 = f0 - 18446744073709551616 * g0)) (h1 : Hid (d1 - 0 - g0 = f1 - 18446744073709551616 * g1)) (h2 : Hid (d2 - 0 - g1 = f2 - 18446744073709551616 * g2)) (h3 : Hid (d3 - 0 - g2 = f3 - 18446744073709551616 * g3)) :
 num d0 d1 d2 d3 - 76 * b = num f0 f1 f2 f3 - T256 * g3 := by
 unfold Hid at *; unfold num T256; omega
set_option maxHeartbeats 1000000 in
theorem fsub_any (hmod : ModC) (a0 a1 a2 a3 b0 b1 b2 b3 : Int) (ha : L4 a0 a1 a2 a3) (hb : L4 b0 b1 b2 b3) (w : World) :
 Calls Tryz.prog 85 #[W4 a0 a1 a2 a3, W4 b0 b1 b2 b3] w fun e w' =>
  ∃ s0 s1 s2 s3 : Int, e = .returned (W4 s0 s1 s2 s3) ∧ L4 s0 s1 s2 s3 ∧ Hid (num s0 s1 s2 s3 = (num a0 a1 a2 a3 - num b0 b1 b2 b3) % PP) ∧ Below w.heap.size w w' := by
 have HM : Hid ModC := hmod; clear hmod; have hna := num_bd ha; have hnb := num_bd hb; unfold W4; obtain ⟨s0, c0, r0, l0, p0, q0, e0⟩ := sub64_ex a0 b0 0 ha.1 hb.1 (by decide) (by decide); obtain ⟨s1, c1, r1, l1, p1, q1, e1⟩ := sub64_ex a1 b1 c0 ha.2.1 hb.2.1 p0 q0; obtain ⟨s2, c2, r2, l2, p2, q2, e2⟩ := sub64_ex a2 b2 c1 ha.2.2.1 hb.2.2.1 p1 q1; obtain ⟨s3, c3, r3, l3, p3, q3, e3⟩ := sub64_ex a3 b3 c2 ha.2.2.2 hb.2.2.2 p2 q2; have E := dif_num e0 e1 e2 e3; obtain ⟨t0, g0, u0, m0, v0, z0, f0⟩ := sub64_ex s0 (76 * c3) 0 l0 ⟨by omega, by omega⟩ (by decide) (by decide); obtain ⟨t1, g1, u1, m1, v1, z1, f1⟩ := sub64_ex s1 0 g0 l1 ⟨by decide, by decide⟩ v0 z0; obtain ⟨t2, g2, u2, m2, v2, z2, f2⟩ := sub64_ex s2 0 g1 l2 ⟨by decide, by decide⟩ v1 z1; obtain ⟨t3, g3, u3, m3, v3, z3, f3⟩ := sub64_ex s3 0 g2 l3 ⟨by decide, by decide⟩ v2 z2; have F := dif4_num (b := c3) rfl f0 f1 f2 f3; have hns := num_bd (show L4 s0 s1 s2 s3 from ⟨l0, l1, l2, l3⟩); have L : L4 t0 t1 t2 t3 := ⟨m0, m1, m2, m3⟩
 have hnt := num_bd L; have hle : g3 ≤ c3 := by
  unfold T256 at *; omega
 have hE : Hid (num t0 t1 t2 t3 + T256 * (c3 - g3) = (num a0 a1 a2 a3 - num b0 b1 b2 b3) + PP * (4 * c3)) := by
  show _ = _; unfold T256 PP at *; omega
 have hcg : 0 ≤ c3 - g3 := by omega
 have hcg1 : c3 - g3 < 1000000 := by omega
 clear E F e0 e1 e2 e3 f0 f1 f2 f3 hna hnb hns hnt; clear l0 l1 l2 l3 m0 m1 m2 m3 ha hb p0 p1 p2 q0 q1 q2 v0 v1 v2 z0 z1 z2; go_enter Tryz.func85, Tryz.ntmps85; go_wp2_with fail; refine (settle_any HM.out t0 t1 t2 t3 (c3 - g3) L hcg hcg1 _).mono ?_; rintro e w1 ⟨x0, x1, x2, x3, rfl, hL, hN, hw⟩; have hEE : Hid (num x0 x1 x2 x3 = (num a0 a1 a2 a3 - num b0 b1 b2 b3) % PP) := by show _ = _; rw [hN.out, hE.out, Int.add_mul_emod_self_left]
 obtain ⟨hc, hf⟩ := bcell hw; have hz : w.heap.size + 1 + 1 < w1.heap.size := by have := hw.size; simp at this; omega
 unfold W4; go_wp2; refine bodyPost_ret (v := W4 x0 x1 x2 x3) (by simp [results, Tryz.results85, go_sem, hc, hz]) rfl ?_; have hB : Below w.heap.size w w1 := Below.trans (by go_grown) (hw.mono (by simp; omega)); clear hw hc hf; exact ⟨x0, x1, x2, x3, rfl, hL, hEE, by go_grown⟩
set_option maxHeartbeats 1000000 in
theorem fbelow_any (hmod : ModC) (a0 a1 a2 a3 : Int) (ha : L4 a0 a1 a2 a3) (w : World) :
 Calls Tryz.prog 36 #[W4 a0 a1 a2 a3] w fun e w' =>
  ∃ s0 s1 s2 s3 : Int, e = .returned (W4 s0 s1 s2 s3) ∧ L4 s0 s1 s2 s3 ∧ Hid (num s0 s1 s2 s3 = num a0 a1 a2 a3 % PP) ∧ Below w.heap.size w w' := by
 have HM : Hid ModC := hmod; have HL : Hid _ := ha; clear hmod ha; unfold W4; go_enter Tryz.func36, Tryz.ntmps36; go_wp2_with fail; refine (settle_any HM.out a0 a1 a2 a3 0 HL.out (by decide) (by decide) _).mono ?_; rintro e w1 ⟨x0, x1, x2, x3, rfl, hL, hN, hw⟩; have hEE : Hid (num x0 x1 x2 x3 = num a0 a1 a2 a3 % PP) := by show _ = _; rw [hN.out, Int.mul_zero, Int.add_zero]
 obtain ⟨hc, hf⟩ := bcell hw; have hz : w.heap.size + 1 < w1.heap.size := by have := hw.size; simp at this; omega
 unfold W4; go_wp2; refine bodyPost_ret (v := W4 x0 x1 x2 x3) (by simp [results, Tryz.results36, go_sem, hc, hz]) rfl ?_; have hB : Below w.heap.size w w1 := Below.trans (by go_grown) (hw.mono (by simp; omega)); clear hw hc hf; exact ⟨x0, x1, x2, x3, rfl, hL, hEE, by go_grown⟩
end Go.Proofs.YtojfcdjgcgnajaaGreat
namespace Go.Proofs.YtojfcdjgcgnajaaGreat
open Go.RowKit
set_option linter.unusedSimpArgs false
set_option linter.unusedVariables false
theorem below_dn {B n : Nat} {u v : World} (h : Below B u v) : Below B u (v.drewN n) := ⟨h.os, h.tape, h.output, h.size, h.block⟩
theorem fnum_mul (a0 a1 a2 a3 x : Int) : num a0 a1 a2 a3 * x = a0 * x + 18446744073709551616 * (a1 * x) + 340282366920938463463374607431768211456 * (a2 * x) + 6277101735386680763835789423207666416102355444464034512896 * (a3 * x) := by
 rw [Int.mul_comm, fmul_num, Int.mul_comm x a0, Int.mul_comm x a1, Int.mul_comm x a2, Int.mul_comm x a3]
theorem frows_num {x0 x1 x2 x3 p0 p1 p2 p3 p4 q1 q2 q3 q4 q5 r2 r3 r4 r5 r6 s3 s4 s5 s6 s7 : Int}
 (e0 : x0 + num 0 0 0 0 = num p0 p1 p2 p3 + T256 * p4) (e1 : x1 + num p1 p2 p3 p4 = num q1 q2 q3 q4 + T256 * q5) (e2 : x2 + num q2 q3 q4 q5 = num r2 r3 r4 r5 + T256 * r6) (e3 : x3 + num r3 r4 r5 r6 = num s3 s4 s5 s6 + T256 * s7) :
 x0 + 18446744073709551616 * x1 + 340282366920938463463374607431768211456 * x2 + 6277101735386680763835789423207666416102355444464034512896 * x3 = num p0 q1 r2 s3 + T256 * num s4 s5 s6 s7 := by
 unfold num T256 at *; omega
theorem ffold_num {X lo hi l h : Int} (e : X = lo + T256 * hi) (f : 38 * hi + lo = l + T256 * h) : l + T256 * h = X + PP * (-(2 * hi)) := by
 unfold T256 PP at *; omega
theorem fsmall_h {hi lo l h : Int} (f : 38 * hi + lo = l + T256 * h) (h1 : hi < T256) (h2 : lo < T256) (h3 : 0 ≤ l) : h < 1000000 := by
 unfold T256 at *; omega
set_option maxHeartbeats 2000000 in
theorem fmul_any (hmod : ModC) (a0 a1 a2 a3 b0 b1 b2 b3 : Int) (ha : L4 a0 a1 a2 a3) (hb : L4 b0 b1 b2 b3) (w : World) :
 Calls Tryz.prog 84 #[W4 a0 a1 a2 a3, W4 b0 b1 b2 b3] w fun e w' =>
  ∃ s0 s1 s2 s3 : Int, e = .returned (W4 s0 s1 s2 s3) ∧ L4 s0 s1 s2 s3 ∧ Hid (num s0 s1 s2 s3 = (num a0 a1 a2 a3 * num b0 b1 b2 b3) % PP) ∧ Below w.heap.size w w' := by
 have HM : Hid ModC := hmod; clear hmod; have z4 : L4 0 0 0 0 := ⟨⟨by decide, by decide⟩, ⟨by decide, by decide⟩, ⟨by decide, by decide⟩, ⟨by decide, by decide⟩⟩
 obtain ⟨p0, p1, p2, p3, p4, R0, lp, lp4, e0⟩ := frow_any a0 b0 b1 b2 b3 0 0 0 0 ha.1 hb z4; obtain ⟨q1, q2, q3, q4, q5, R1, lq, lq5, e1⟩ := frow_any a1 b0 b1 b2 b3 p1 p2 p3 p4 ha.2.1 hb ⟨lp.2.1, lp.2.2.1, lp.2.2.2, lp4⟩; obtain ⟨r2, r3, r4, r5, r6, R2, lr, lr6, e2⟩ := frow_any a2 b0 b1 b2 b3 q2 q3 q4 q5 ha.2.2.1 hb ⟨lq.2.1, lq.2.2.1, lq.2.2.2, lq5⟩; obtain ⟨s3, s4, s5, s6, s7, R3, ls, ls7, e3⟩ := frow_any a3 b0 b1 b2 b3 r3 r4 r5 r6 ha.2.2.2 hb ⟨lr.2.1, lr.2.2.1, lr.2.2.2, lr6⟩; have hlo : L4 p0 q1 r2 s3 := ⟨lp.1, lq.1, lr.1, ls.1⟩
 have hhi : L4 s4 s5 s6 s7 := ⟨ls.2.1, ls.2.2.1, ls.2.2.2, ls7⟩
 obtain ⟨l0, l1, l2, l3, h, R4, ll, lh, e4⟩ := frow_any 38 s4 s5 s6 s7 p0 q1 r2 s3 ⟨by decide, by decide⟩ hhi hlo; have E := frows_num e0.out e1.out e2.out e3.out; rw [← fnum_mul] at E; have E2 := ffold_num E e4.out; have hsm := fsmall_h e4.out (num_bd hhi).2 (num_bd hlo).2 (num_bd ll).1; have HE : Hid _ := E2; have h0 : 0 ≤ h := lh.1; have H0 : Hid _ := R0; have H1 : Hid _ := R1; have H2 : Hid _ := R2; have H3 : Hid _ := R3; have H4 : Hid _ := R4; clear E E2 e0 e1 e2 e3 e4 R0 R1 R2 R3 R4 lp lp4 lq lq5 lr lr6 ls ls7 hlo hhi lh z4 ha hb; unfold W4; go_enter Tryz.func84, Tryz.ntmps84; go_wp2; go_quiet (fail); go_wp2_with fail; refine Calls.mono (H0.out _) ?_; rintro e w' ⟨rfl, hs⟩; obtain rfl := hs.symm; go_wp2_with fail; refine Calls.mono (H1.out _) ?_; rintro e w' ⟨rfl, hs⟩; obtain rfl := hs.symm; go_wp2_with fail; refine Calls.mono (H2.out _) ?_; rintro e w' ⟨rfl, hs⟩; obtain rfl := hs.symm; go_wp2_with fail; refine Calls.mono (H3.out _) ?_; rintro e w' ⟨rfl, hs⟩; obtain rfl := hs.symm; go_wp2_with fail; refine Calls.mono (H4.out _) ?_; rintro e w' ⟨rfl, hs⟩; obtain rfl := hs.symm; go_wp2_with fail; refine (settle_any HM.out l0 l1 l2 l3 h ll h0 hsm _).mono ?_; rintro e w1 ⟨x0, x1, x2, x3, rfl, hL, hN, hw⟩; have hEE : Hid (num x0 x1 x2 x3 = (num a0 a1 a2 a3 * num b0 b1 b2 b3) % PP) := by show _ = _; rw [hN.out, HE.out, Int.add_mul_emod_self_left]
 obtain ⟨hc, hf⟩ := bcell hw; have hz : w.heap.size + 1 + 1 < w1.heap.size := by have := hw.size; simp at this; omega
 clear H0 H1 H2 H3 H4 HE hN; unfold W4; go_wp2; refine bodyPost_ret (v := W4 x0 x1 x2 x3) (by simp [results, Tryz.results84, go_sem, hc, hz]) rfl ?_; have hB : Below w.heap.size w w1 := Below.trans (below_dn (by go_grown)) (hw.mono (by simp; omega)); clear hw hc hf; exact ⟨x0, x1, x2, x3, rfl, hL, hEE, by go_grown⟩
end Go.Proofs.YtojfcdjgcgnajaaGreat
namespace Go.Proofs.YtojfcdjgcgnajaaGreat
open Go.RowKit
set_option linter.unusedSimpArgs false
set_option linter.unusedVariables false
theorem fand_1 (x : Int) (h0 : 0 ≤ x) (h1 : x < 18446744073709551616) : bits .and .u64 x 1 = x % 2 := by
 rw [u64_and x 1 h0 h1 (by decide) (by decide), show (1 : Int).toNat = 2 ^ 1 - 1 from by decide, Nat.and_two_pow_sub_one_eq_mod]; omega
theorem fpow_pos (r : Nat) : (0 : Int) < 2 ^ r := Int.pow_pos (by decide)
theorem fdiv_limb {x : Int} (h : Limb x) (r : Nat) : 0 ≤ x / 2 ^ r ∧ x / 2 ^ r < 18446744073709551616 := by
 have hp := fpow_pos r; refine ⟨Int.ediv_nonneg h.1 (by omega), ?_⟩; have : x / 2 ^ r ≤ x := Int.ediv_le_self _ h.1; have := h.2; omega
theorem flow_bit (x y : Int) (r : Nat) (hr : r < 64) : ((x + 18446744073709551616 * y) / 2 ^ r) % 2 = (x / 2 ^ r) % 2 := by
 have e : (18446744073709551616 : Int) = 2 ^ r * (2 * 2 ^ (63 - r)) := by
  have h : (2 : Int) ^ r * (2 * 2 ^ (63 - r)) = 2 ^ (r + 1 + (63 - r)) := by rw [Int.pow_add, Int.pow_add, Int.pow_one, Int.mul_assoc]
  rw [h, show r + 1 + (63 - r) = 64 from by omega]; decide
 rw [e, Int.mul_assoc, Int.mul_assoc, Int.add_mul_ediv_left _ _ (by have := fpow_pos r; omega)]; omega
theorem fshift_down (x y : Int) (h : Limb x) (j : Nat) : (x + 18446744073709551616 * y) / 2 ^ (64 + j) = y / 2 ^ j := by
 have e : (2 : Int) ^ (64 + j) = 18446744073709551616 * 2 ^ j := by rw [Int.pow_add]; congr 1
 rw [e, ← Int.ediv_ediv_of_nonneg (by decide)]; congr 1; have := h.1; have := h.2; omega
def limbOf (a0 a1 a2 a3 : Int) (q : Nat) : Int := if q = 0 then a0 else if q = 1 then a1 else if q = 2 then a2 else a3
theorem fbit_num (a0 a1 a2 a3 : Int) (ha : L4 a0 a1 a2 a3) (j : Nat) (hj : j < 256) : (num a0 a1 a2 a3 / 2 ^ j) % 2 = (limbOf a0 a1 a2 a3 (j / 64) / 2 ^ (j % 64)) % 2 := by
 have n0 : num a0 a1 a2 a3 = a0 + 18446744073709551616 * (a1 + 18446744073709551616 * (a2 + 18446744073709551616 * a3)) := by unfold num; omega
 rw [n0]; obtain ⟨h0, h1, h2, h3⟩ := ha; have hr : j % 64 < 64 := by omega
 by_cases q0 : j / 64 = 0
 · rw [q0]
   have e : j = j % 64 := by omega
   rw [show limbOf a0 a1 a2 a3 0 = a0 from rfl, ← flow_bit a0 _ (j % 64) hr, ← e]
 · by_cases q1 : j / 64 = 1
   · rw [q1]
     have e : j = 64 + j % 64 := by omega
     rw [show limbOf a0 a1 a2 a3 1 = a1 from rfl, ← flow_bit a1 _ (j % 64) hr]; conv => lhs; rw [e]
     rw [fshift_down _ _ h0]
   · by_cases q2 : j / 64 = 2
     · rw [q2]
       have e : j = 64 + (64 + j % 64) := by omega
       rw [show limbOf a0 a1 a2 a3 2 = a2 from rfl, ← flow_bit a2 _ (j % 64) hr]; conv => lhs; rw [e]
       rw [fshift_down _ _ h0, fshift_down _ _ h1]
     · have q3 : j / 64 = 3 := by omega
       rw [q3]; have e : j = 64 + (64 + (64 + j % 64)) := by omega
       rw [show limbOf a0 a1 a2 a3 3 = a3 from rfl]; conv => lhs; rw [e]
       rw [fshift_down _ _ h0, fshift_down _ _ h1, fshift_down _ _ h2]
theorem fcell4 (w : World) (a0 a1 a2 a3 : Int) (q : Nat) (hq : q < 4) : (w.alloc (.cells #[.int .u64 a0, .int .u64 a1, .int .u64 a2, .int .u64 a3] 51)).cell? ⟨w.heap.size, q, none⟩ = some (.int .u64 (limbOf a0 a1 a2 a3 q)) := by
 rw [cell_of_row _ w.heap.size q _ 51 (0, 0) (heap_alloc_new _ _)]
 match q, hq with
 | 0, _ => rfl
 | 1, _ => rfl
 | 2, _ => rfl
 | 3, _ => rfl
theorem limbOf_limb {a0 a1 a2 a3 : Int} (ha : L4 a0 a1 a2 a3) (q : Nat) : Limb (limbOf a0 a1 a2 a3 q) := by
 unfold limbOf; split
 · exact ha.1
 · split
   · exact ha.2.1
   · split
     · exact ha.2.2.1
     · exact ha.2.2.2
set_option maxHeartbeats 1000000 in
theorem bit_any (a0 a1 a2 a3 : Int) (ha : L4 a0 a1 a2 a3) (j : Nat) (hj : j < 256) (w : World) :
 Calls Tryz.prog 141 #[W4 a0 a1 a2 a3, .int .i64 (j : Int)] w fun e w' => e = .returned (.bool (decide ((num a0 a1 a2 a3 / 2 ^ j) % 2 = 1))) ∧ Below w.heap.size w w' := by
 have hc := fcell4 w a0 a1 a2 a3 (j / 64) (by omega); have hL := limbOf_limb ha (j / 64); have hd := fdiv_limb hL (j % 64); have hand := fand_1 _ hd.1 hd.2; rw [← fbit_num a0 a1 a2 a3 ha j hj] at hand; generalize (num a0 a1 a2 a3 / 2 ^ j) % 2 = B at hand ⊢; generalize limbOf a0 a1 a2 a3 (j / 64) = x at *; unfold W4; clear ha hL hd; go_enter Tryz.func141, Tryz.ntmps141; go_wp2; go_ret; refine ⟨?_, by go_grown⟩; congr 2
end Go.Proofs.YtojfcdjgcgnajaaGreat
