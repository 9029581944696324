/- Walks over math/bits.Div64, where the divisor's highest bit is set. -/
import Derived.Test.YtojfcdjgcgnajaaGreatGW3
import Derived.Test.YtojfcdjgcgnajaaGreatGCM
import Derived.Lib.BitFns
import Derived.Lib.ItoaNum
namespace Go.Proofs.YtojfcdjgcgnajaaGreat
open Go.RowKit
set_option linter.unusedSimpArgs false
set_option linter.unusedVariables false
theorem lz0 (y : Int) (h0 : 9223372036854775808 ≤ y) (h1 : y < 18446744073709551616) (w : World) :
 Calls Tryz.prog 98 #[.int .u64 y] w fun e w' => e = .returned (.int .i64 0) ∧ w' = w := by
 refine (Tryz.bits_LeadingZeros64 y w (by omega) (by omega)).mono ?_; rintro e w' ⟨rfl, rfl⟩; have h : 1 ≤ Lib.bitLen y.toNat ∧ 2 ^ (Lib.bitLen y.toNat - 1) ≤ y.toNat ∧ y.toNat < 2 ^ Lib.bitLen y.toNat := Lib.bitLenAux_bounds 64 y.toNat (by omega) (by omega); have hb : Lib.bitLen y.toNat = 64 := by
  have a1 : 64 ≤ Lib.bitLen y.toNat := by
   apply Nat.le_of_not_lt
   intro hlt; have : 2 ^ Lib.bitLen y.toNat ≤ 2 ^ 63 := Nat.pow_le_pow_right (by decide) (by omega); omega
  have a2 : Lib.bitLen y.toNat ≤ 64 := by
   apply Nat.le_of_not_lt
   intro hlt; have : 2 ^ 64 ≤ 2 ^ (Lib.bitLen y.toNat - 1) := Nat.pow_le_pow_right (by decide) (by omega); omega
  omega
 rw [hb]; exact ⟨rfl, rfl⟩
theorem dl_mul (q y1 y0 : Int) : q * (4294967296 * y1 + y0) = 4294967296 * (q * y1) + q * y0 := by
 rw [Int.mul_add, Int.mul_left_comm]
structure Dl (h u y y1 y0 Q R : Int) : Prop where
 ey : y = 4294967296 * y1 + y0
 y0a : 0 ≤ y0
 y0b : y0 < 4294967296
 y1a : 2147483648 ≤ y1
 y1b : y1 < 4294967296
 ha : 0 ≤ h
 hb : h < y
 ua : 0 ≤ u
 ub : u < 4294967296
 e : h * 4294967296 + u = Q * y + R
 Ra : 0 ≤ R
 Rb : R < y
 Qa : 0 ≤ Q
 Qb : Q < 4294967296
theorem Dl.mk' (h u y y1 y0 : Int) (e : y = 4294967296 * y1 + y0) (y0a : 0 ≤ y0) (y0b : y0 < 4294967296) (y1a : 2147483648 ≤ y1) (y1b : y1 < 4294967296) (ha : 0 ≤ h) (hb : h < y) (ua : 0 ≤ u) (ub : u < 4294967296) :
 Dl h u y y1 y0 ((h * 4294967296 + u) / y) ((h * 4294967296 + u) % y) := by
 have hy : 0 < y := by omega
 refine ⟨e, y0a, y0b, y1a, y1b, ha, hb, ua, ub, ?_, Int.emod_nonneg _ (by omega), Int.emod_lt_of_pos _ hy, Int.ediv_nonneg (by omega) (by omega), ?_⟩
 · have := Int.mul_ediv_add_emod (h * 4294967296 + u) y
   rw [Int.mul_comm] at this; omega
 · apply Int.ediv_lt_of_lt_mul hy
   omega
theorem Dl.dec1 {h u y y1 y0 Q R q : Int} (D : Dl h u y y1 y0 Q R) (c : 4294967296 ≤ q) : Q ≤ q - 1 := by have := D.Qb; omega
theorem Dl.dec2 {h u y y1 y0 Q R q r : Int} (D : Dl h u y y1 y0 Q R) (hr : r = h - q * y1) (c : 4294967296 * r + u < q * y0) : Q ≤ q - 1 := by
 have hy : 0 < y := by have := D.ha; have := D.hb; omega
 have e := D.e; have m := dl_mul q y1 y0; rw [← D.ey] at m; have : Q * y < q * y := by have := D.Ra; omega
 have := Int.lt_of_mul_lt_mul_right this (by omega); omega
theorem Dl.end1 {h u y y1 y0 Q R q r : Int} (D : Dl h u y y1 y0 Q R) (hr : r = h - q * y1) (hq : Q ≤ q) (c : q * y0 ≤ 4294967296 * r + u) : q = Q := by
 have hy : 0 < y := by have := D.ha; have := D.hb; omega
 have e := D.e; have m := dl_mul q y1 y0; rw [← D.ey] at m; have e2 : (Q + 1) * y = Q * y + y := by rw [Int.add_mul]; omega
 have : q * y < (Q + 1) * y := by have := D.Rb; omega
 have := Int.lt_of_mul_lt_mul_right this (by omega); omega
theorem Dl.end2 {h u y y1 y0 Q R q r : Int} (D : Dl h u y y1 y0 Q R) (hr : r = h - q * y1) (hq : Q ≤ q) (hq2 : q ≤ 4294967296) (c : 4294967296 ≤ r) : q = Q := by
 refine D.end1 hr hq ?_; have h1 : q * y0 ≤ 4294967296 * y0 := Int.mul_le_mul_of_nonneg_right hq2 D.y0a; have := D.y0b; have := D.ua; omega
theorem Dl.first {h u y y1 y0 Q R : Int} (D : Dl h u y y1 y0 Q R) : Q ≤ h / y1 ∧ h / y1 ≤ 4294967297 ∧ 0 ≤ h / y1 ∧ 0 ≤ h % y1 ∧ h % y1 < y1 ∧ h % y1 = h - h / y1 * y1 := by
 have hy1 : 0 < y1 := by have := D.y1a; omega
 have hm := Int.mul_ediv_add_emod h y1; rw [Int.mul_comm] at hm; have h0 := Int.emod_nonneg h (by omega : y1 ≠ 0); have h1 := Int.emod_lt_of_pos h hy1; refine ⟨?_, ?_, Int.ediv_nonneg D.ha (by omega), h0, h1, by omega⟩
 · have a : Q * y1 ≤ h := by
    have e := D.e; have m := dl_mul Q y1 y0; rw [← D.ey] at m; have := D.Ra; have := D.ub; have : 0 ≤ Q * y0 := Int.mul_nonneg D.Qa D.y0a; omega
   exact (Int.le_ediv_iff_mul_le hy1).2 a
 · apply Int.le_of_lt_add_one
   apply Int.ediv_lt_of_lt_mul hy1
   have := D.hb; have := D.ey; have := D.y0b; have := D.y1a; omega
theorem rest_wrap (h d : Int) (h0 : 0 ≤ h) (h1 : h < 18446744073709551616) (hd : 0 < d) : IntKind.u64.wrap (h - IntKind.u64.wrap (h / d * d)) = h % d := by
 have hm := Int.mul_ediv_add_emod h d; rw [Int.mul_comm] at hm; have a := Int.emod_nonneg h (by omega : d ≠ 0); have b : 0 ≤ h / d * d := Int.mul_nonneg (Int.ediv_nonneg h0 (by omega)) (by omega); rw [IntKind.wrap_u64, IntKind.wrap_u64]; generalize h / d * d = m at *; generalize h % d = k at *; omega
set_option maxHeartbeats 2000000 in
theorem div64_core (hi lo y y1 y0 u1 u0 Q1 R1 Q0 R0 : Int) (D1 : Dl hi u1 y y1 y0 Q1 R1) (D0 : Dl R1 u0 y y1 y0 Q0 R0) (hy0 : 9223372036854775808 ≤ y) (hy1 : y < 18446744073709551616)
 (hh : 0 ≤ hi) (hhy : hi < y) (hl0 : 0 ≤ lo) (hl1 : lo < 18446744073709551616) (hz : (hi == 0) = false)
 (ry1 : y / 4294967296 = y1) (ry0 : bits .and .u64 y 4294967295 = y0) (rl1 : lo / 4294967296 = u1) (rl0 : bits .and .u64 lo 4294967295 = u0) (rh : bits .or .u64 hi (lo / 18446744073709551616) = hi)
 (ru : IntKind.u64.wrap (IntKind.u64.wrap (IntKind.u64.wrap (hi * 4294967296) + u1) - IntKind.u64.wrap (Q1 * y)) = R1)
 (w : World) :
  Calls Tryz.prog 148 #[.int .u64 hi, .int .u64 lo, .int .u64 y] w fun e w' => e = .returned (.tuple #[.int .u64 (Q1 * 4294967296 + Q0), .int .u64 (IntKind.u64.wrap (IntKind.u64.wrap (IntKind.u64.wrap (R1 * 4294967296) + u0) - IntKind.u64.wrap (Q0 * y)))]) ∧ w' = w := by
 have a1 := D1.y0a; have a2 := D1.y0b; have a3 := D1.y1a; have a4 := D1.y1b; have a5 := D1.ua; have a6 := D1.ub; have a7 := D0.ua; have a8 := D0.ub; have b1 := D1.Qa; have b2 := D1.Qb; have b3 := D0.Qa; have b4 := D0.Qb; have b5 := D1.Ra; have b6 := D1.Rb; obtain ⟨t5, t6, t7, t3, t4', t2'⟩ := D1.first
 have t : Hid _ := rest_wrap hi y1 hh (by omega) (by omega); have t4 : hi % y1 < 4294967296 := by omega
 have t2 : Hid _ := t2'; obtain ⟨s5, s6, s7, s3, s4', s2'⟩ := D0.first
 have s : Hid _ := rest_wrap R1 y1 b5 (by omega) (by omega); have s4 : R1 % y1 < 4294967296 := by omega
 have s2 : Hid _ := s2'; clear t2' s2' t4' s4'; go_enter Tryz.func148, Tryz.ntmps148; go_wp2_with (first | (go_at_call 98; refine (lz0 y hy0 hy1 _).mono ?_; rintro e w' ⟨rfl, rfl⟩)); go_loop [15, 16] (fun s t => ∃ q r : Int, s = .int .u64 q ∧ t = .int .u64 r ∧ Hid (r = hi - q * y1) ∧ 0 ≤ r ∧ r < 4294967296 ∧ Q1 ≤ q ∧ q ≤ 4294967297 ∧ 0 ≤ q) (fun _ t => (4294967296 - intOf t).toNat)
 case atStart =>
  refine ⟨hi / y1, hi % y1, rfl, by rw [t.out], t2, t3, t4, t5, t6, t7⟩
 case round =>
  obtain ⟨q, r, rfl, rfl, hr, hr0, hr1, hq1, hq2, hq0⟩ := hrel; by_cases c1 : 4294967296 ≤ q
  · have hd := D1.dec1 c1
    by_cases c2 : 4294967296 ≤ r + y1
    · have e : q - 1 = Q1 := D1.end2 (r := r + y1) (by have := hr.out; rw [Int.sub_mul]; omega) hd (by omega) c2
      clear hq1 hq2 hd hr; go_wp2; go_loop [18, 16] (fun s t => ∃ q r : Int, s = .int .u64 q ∧ t = .int .u64 r ∧ Hid (r = R1 - q * y1) ∧ 0 ≤ r ∧ r < 4294967296 ∧ Q0 ≤ q ∧ q ≤ 4294967297 ∧ 0 ≤ q) (fun _ t => (4294967296 - intOf t).toNat)
      case atStart =>
       refine ⟨R1 / y1, R1 % y1, rfl, by rw [s.out], s2, s3, s4, s5, s6, s7⟩
      case round =>
       obtain ⟨q, r, rfl, rfl, hr, hr0, hr1, hq1, hq2, hq0⟩ := hrel; by_cases c1 : 4294967296 ≤ q
       · have hd := D0.dec1 c1
         by_cases c2 : 4294967296 ≤ r + y1
         · have e : q - 1 = Q0 := D0.end2 (r := r + y1) (by have := hr.out; rw [Int.sub_mul]; omega) hd (by omega) c2
           clear hq1 hq2 hd hr; go_wp2; go_wp2; go_ret2; exact ⟨rfl, rfl⟩
         · go_wp2
           go_round
           case rel => exact ⟨q - 1, r + y1, rfl, rfl, by have := hr.out; show _ = _; rw [Int.sub_mul]; omega, by omega, by omega, hd, by omega, by omega⟩
           case measure => simp [intOf]; omega
       · have hqy : IntKind.u64.wrap (q * y0) = q * y0 := by
          have h1 : q * y0 ≤ 4294967295 * y0 := Int.mul_le_mul_of_nonneg_right (by omega) a1; have h2 : 0 ≤ q * y0 := Int.mul_nonneg hq0 a1; rw [IntKind.wrap_u64]; omega
         by_cases c3 : 4294967296 * r + u0 < q * y0
         · have hd := D0.dec2 hr.out c3
           by_cases c2 : 4294967296 ≤ r + y1
           · have e : q - 1 = Q0 := D0.end2 (r := r + y1) (by have := hr.out; rw [Int.sub_mul]; omega) hd (by omega) c2
             have hqq : 1 ≤ q := by have := D0.Qa; omega
             clear hq1 hq2 hd hr; go_wp2; go_wp2; go_ret2; exact ⟨rfl, rfl⟩
           · have hqq : 1 ≤ q := by have := D0.Qa; omega
             go_wp2; go_round
             case rel => exact ⟨q - 1, r + y1, rfl, rfl, by have := hr.out; show _ = _; rw [Int.sub_mul]; omega, by omega, by omega, hd, by omega, by omega⟩
             case measure => simp [intOf]; omega
         · have e := D0.end1 hr.out hq1 (by omega)
           subst e; clear hr hq1 hq2; go_wp2; go_wp2; go_ret2; exact ⟨rfl, rfl⟩
    · go_wp2
      go_round
      case rel => exact ⟨q - 1, r + y1, rfl, rfl, by have := hr.out; show _ = _; rw [Int.sub_mul]; omega, by omega, by omega, hd, by omega, by omega⟩
      case measure => simp [intOf]; omega
  · have hqy : IntKind.u64.wrap (q * y0) = q * y0 := by
     have h1 : q * y0 ≤ 4294967295 * y0 := Int.mul_le_mul_of_nonneg_right (by omega) a1; have h2 : 0 ≤ q * y0 := Int.mul_nonneg hq0 a1; rw [IntKind.wrap_u64]; omega
    by_cases c3 : 4294967296 * r + u1 < q * y0
    · have hd := D1.dec2 hr.out c3
      by_cases c2 : 4294967296 ≤ r + y1
      · have e : q - 1 = Q1 := D1.end2 (r := r + y1) (by have := hr.out; rw [Int.sub_mul]; omega) hd (by omega) c2
        have hqq : 1 ≤ q := by have := D1.Qa; omega
        clear hq1 hq2 hd hr; go_wp2; go_loop [18, 16] (fun s t => ∃ q r : Int, s = .int .u64 q ∧ t = .int .u64 r ∧ Hid (r = R1 - q * y1) ∧ 0 ≤ r ∧ r < 4294967296 ∧ Q0 ≤ q ∧ q ≤ 4294967297 ∧ 0 ≤ q) (fun _ t => (4294967296 - intOf t).toNat)
        case atStart =>
         refine ⟨R1 / y1, R1 % y1, rfl, by rw [s.out], s2, s3, s4, s5, s6, s7⟩
        case round =>
         obtain ⟨q, r, rfl, rfl, hr, hr0, hr1, hq1, hq2, hq0⟩ := hrel; by_cases c1 : 4294967296 ≤ q
         · have hd := D0.dec1 c1
           by_cases c2 : 4294967296 ≤ r + y1
           · have e : q - 1 = Q0 := D0.end2 (r := r + y1) (by have := hr.out; rw [Int.sub_mul]; omega) hd (by omega) c2
             clear hq1 hq2 hd hr; go_wp2; go_wp2; go_ret2; exact ⟨rfl, rfl⟩
           · go_wp2
             go_round
             case rel => exact ⟨q - 1, r + y1, rfl, rfl, by have := hr.out; show _ = _; rw [Int.sub_mul]; omega, by omega, by omega, hd, by omega, by omega⟩
             case measure => simp [intOf]; omega
         · have hqy : IntKind.u64.wrap (q * y0) = q * y0 := by
            have h1 : q * y0 ≤ 4294967295 * y0 := Int.mul_le_mul_of_nonneg_right (by omega) a1; have h2 : 0 ≤ q * y0 := Int.mul_nonneg hq0 a1; rw [IntKind.wrap_u64]; omega
           by_cases c3 : 4294967296 * r + u0 < q * y0
           · have hd := D0.dec2 hr.out c3
             by_cases c2 : 4294967296 ≤ r + y1
             · have e : q - 1 = Q0 := D0.end2 (r := r + y1) (by have := hr.out; rw [Int.sub_mul]; omega) hd (by omega) c2
               have hqq : 1 ≤ q := by have := D0.Qa; omega
               clear hq1 hq2 hd hr; go_wp2; go_wp2; go_ret2; exact ⟨rfl, rfl⟩
             · have hqq : 1 ≤ q := by have := D0.Qa; omega
               go_wp2; go_round
               case rel => exact ⟨q - 1, r + y1, rfl, rfl, by have := hr.out; show _ = _; rw [Int.sub_mul]; omega, by omega, by omega, hd, by omega, by omega⟩
               case measure => simp [intOf]; omega
           · have e := D0.end1 hr.out hq1 (by omega)
             subst e; clear hr hq1 hq2; go_wp2; go_wp2; go_ret2; exact ⟨rfl, rfl⟩
      · have hqq : 1 ≤ q := by have := D1.Qa; omega
        go_wp2; go_round
        case rel => exact ⟨q - 1, r + y1, rfl, rfl, by have := hr.out; show _ = _; rw [Int.sub_mul]; omega, by omega, by omega, hd, by omega, by omega⟩
        case measure => simp [intOf]; omega
    · have e := D1.end1 hr.out hq1 (by omega)
      subst e; clear hr hq1 hq2; go_wp2; go_loop [18, 16] (fun s t => ∃ q r : Int, s = .int .u64 q ∧ t = .int .u64 r ∧ Hid (r = R1 - q * y1) ∧ 0 ≤ r ∧ r < 4294967296 ∧ Q0 ≤ q ∧ q ≤ 4294967297 ∧ 0 ≤ q) (fun _ t => (4294967296 - intOf t).toNat)
      case atStart =>
       refine ⟨R1 / y1, R1 % y1, rfl, by rw [s.out], s2, s3, s4, s5, s6, s7⟩
      case round =>
       obtain ⟨q, r, rfl, rfl, hr, hr0, hr1, hq1, hq2, hq0⟩ := hrel; by_cases c1 : 4294967296 ≤ q
       · have hd := D0.dec1 c1
         by_cases c2 : 4294967296 ≤ r + y1
         · have e : q - 1 = Q0 := D0.end2 (r := r + y1) (by have := hr.out; rw [Int.sub_mul]; omega) hd (by omega) c2
           clear hq1 hq2 hd hr; go_wp2; go_wp2; go_ret2; exact ⟨rfl, rfl⟩
         · go_wp2
           go_round
           case rel => exact ⟨q - 1, r + y1, rfl, rfl, by have := hr.out; show _ = _; rw [Int.sub_mul]; omega, by omega, by omega, hd, by omega, by omega⟩
           case measure => simp [intOf]; omega
       · have hqy : IntKind.u64.wrap (q * y0) = q * y0 := by
          have h1 : q * y0 ≤ 4294967295 * y0 := Int.mul_le_mul_of_nonneg_right (by omega) a1; have h2 : 0 ≤ q * y0 := Int.mul_nonneg hq0 a1; rw [IntKind.wrap_u64]; omega
         by_cases c3 : 4294967296 * r + u0 < q * y0
         · have hd := D0.dec2 hr.out c3
           by_cases c2 : 4294967296 ≤ r + y1
           · have e : q - 1 = Q0 := D0.end2 (r := r + y1) (by have := hr.out; rw [Int.sub_mul]; omega) hd (by omega) c2
             have hqq : 1 ≤ q := by have := D0.Qa; omega
             clear hq1 hq2 hd hr; go_wp2; go_wp2; go_ret2; exact ⟨rfl, rfl⟩
           · have hqq : 1 ≤ q := by have := D0.Qa; omega
             go_wp2; go_round
             case rel => exact ⟨q - 1, r + y1, rfl, rfl, by have := hr.out; show _ = _; rw [Int.sub_mul]; omega, by omega, by omega, hd, by omega, by omega⟩
             case measure => simp [intOf]; omega
         · have e := D0.end1 hr.out hq1 (by omega)
           subst e; clear hr hq1 hq2; go_wp2; go_wp2; go_ret2; exact ⟨rfl, rfl⟩
set_option maxHeartbeats 1000000 in
theorem div64_zero (lo y : Int) (hy0 : 9223372036854775808 ≤ y) (hy1 : y < 18446744073709551616) (hl0 : 0 ≤ lo) (hl1 : lo < 18446744073709551616) (w : World) :
 Calls Tryz.prog 148 #[.int .u64 0, .int .u64 lo, .int .u64 y] w fun e w' => e = .returned (.tuple #[.int .u64 (lo / y), .int .u64 (lo % y)]) ∧ ∃ n, w' = w.drewN n := by
 go_enter Tryz.func148, Tryz.ntmps148
 go_wp2; go_quiet (fail)
 go_wp2; go_ret2
 exact ⟨rfl, _, rfl⟩
theorem ediv_by (x q d r : Int) (h : x = q * d + r) (h0 : 0 ≤ r) (h1 : r < d) : x / d = q := by
 rw [h, Int.add_comm, Int.add_mul_ediv_right _ _ (by omega), Int.ediv_eq_zero_of_lt h0 h1]; omega
theorem or0 (x : Int) (h : Limb x) : bits .or .u64 x 0 = x := by
 obtain ⟨x, rfl⟩ := Int.eq_ofNat_of_zero_le h.1; have := bits_or_u64_nat x 0 (by have := h.2; omega) (by decide)
 simpa using this
theorem and32 (x : Int) (h : Limb x) : bits .and .u64 x 4294967295 = x % 4294967296 := by
 obtain ⟨x, rfl⟩ := Int.eq_ofNat_of_zero_le h.1; have := Mul64.maskN x (by have := h.2; omega); rw [this]; omega
theorem div64_ex (hi lo y : Int) (hy0 : 9223372036854775808 ≤ y) (hy1 : y < 18446744073709551616) (hh : 0 ≤ hi) (hhy : hi < y) (hl : Limb lo) : ∃ v, ∀ w,
 Calls Tryz.prog 148 #[.int .u64 hi, .int .u64 lo, .int .u64 y] w fun e w' => e = .returned (.tuple #[.int .u64 ((hi * 18446744073709551616 + lo) / y), v]) ∧ ∃ n, w' = w.drewN n := by
 by_cases hz : hi = 0
 · subst hz
   rw [show (0 * 18446744073709551616 + lo) = lo from by omega]; exact ⟨_, fun w => div64_zero lo y hy0 hy1 hl.1 hl.2 w⟩
 · have D1 := Dl.mk' hi (lo / 4294967296) y (y / 4294967296) (y % 4294967296) (by omega) (by omega) (by omega) (by omega) (by omega) hh hhy (by have := hl.1; omega) (by have := hl.2; omega)
   generalize hQ1 : (hi * 4294967296 + lo / 4294967296) / y = Q1 at D1; generalize hR1 : (hi * 4294967296 + lo / 4294967296) % y = R1 at D1; have D0 := Dl.mk' R1 (lo % 4294967296) y (y / 4294967296) (y % 4294967296) (by omega) (by omega) (by omega) (by omega) (by omega) D1.Ra D1.Rb (by omega) (by omega); generalize (R1 * 4294967296 + lo % 4294967296) / y = Q0 at D0; generalize (R1 * 4294967296 + lo % 4294967296) % y = R0 at D0; have hlo : lo / 18446744073709551616 = 0 := by have := hl.1; have := hl.2; omega
   have e1 := D1.e; have e0 := D0.e; have hq : (hi * 18446744073709551616 + lo) / y = Q1 * 4294967296 + Q0 := by
    refine ediv_by _ _ _ R0 ?_ D0.Ra D0.Rb; rw [Int.add_mul, Int.mul_right_comm Q1]; omega
   rw [hq]; have ru : IntKind.u64.wrap (IntKind.u64.wrap (IntKind.u64.wrap (hi * 4294967296) + lo / 4294967296) - IntKind.u64.wrap (Q1 * y)) = R1 := by
    have := D1.Ra; have := D1.Rb; rw [IntKind.wrap_u64, IntKind.wrap_u64, IntKind.wrap_u64, IntKind.wrap_u64]; generalize Q1 * y = m at *; omega
   refine ⟨_, fun w => (div64_core hi lo y _ _ _ _ Q1 R1 Q0 R0 D1 D0 hy0 hy1 hh hhy hl.1 hl.2 (by simpa using hz) rfl (and32 y ⟨by omega, hy1⟩) rfl (and32 lo hl) (by rw [hlo]; exact or0 hi ⟨hh, by omega⟩) ru w).mono (fun e w' h => ⟨h.1, 0, h.2⟩)⟩
end Go.Proofs.YtojfcdjgcgnajaaGreat
