/- D1, D2, D3, D4, D5, laid into one text. -/
import Derived.Test.YtmflilgppllebaaW2
import Derived.Test.YtmflilgppllebaaShelf
import Derived.Lib.BitFns
import Derived.Lib.ItoaNum
import Derived.Test.YtmflilgppllebaaW4
/- Walks over math/bits.Div64, where the divisor's highest bit is set. -/
namespace Go.Proofs.Ytmflilgppllebaa
open Go.RowKit
set_option linter.unusedSimpArgs false
set_option linter.unusedVariables false
theorem lz0 (y : Int) (h0 : 9223372036854775808 ≤ y) (h1 : y < 18446744073709551616) (w : World) :
    Calls Try.prog 86 #[.int .u64 y] w fun e w' => e = .returned (.int .i64 0) ∧ w' = w := by
  refine (Try.bits_LeadingZeros64 y w (by omega) (by omega)).mono ?_
  rintro e w' ⟨rfl, rfl⟩
  have h : 1 ≤ Lib.bitLen y.toNat ∧ 2 ^ (Lib.bitLen y.toNat - 1) ≤ y.toNat ∧ y.toNat < 2 ^ Lib.bitLen y.toNat := Lib.bitLenAux_bounds 64 y.toNat (by omega) (by omega)
  have hb : Lib.bitLen y.toNat = 64 := by
    have a1 : 64 ≤ Lib.bitLen y.toNat := by
      apply Nat.le_of_not_lt
      intro hlt
      have : 2 ^ Lib.bitLen y.toNat ≤ 2 ^ 63 := Nat.pow_le_pow_right (by decide) (by omega)
      omega
    have a2 : Lib.bitLen y.toNat ≤ 64 := by
      apply Nat.le_of_not_lt
      intro hlt
      have : 2 ^ 64 ≤ 2 ^ (Lib.bitLen y.toNat - 1) := Nat.pow_le_pow_right (by decide) (by omega)
      omega
    omega
  rw [hb]
  exact ⟨rfl, rfl⟩
theorem dl_mul (q y1 y0 : Int) : q * (4294967296 * y1 + y0) = 4294967296 * (q * y1) + q * y0 := by
  rw [Int.mul_add, Int.mul_left_comm]
/-- What one step of the guess knows. -/
structure Dl (h u y y1 y0 Q R : Int) : Prop where
  ey : y = 4294967296 * y1 + y0
  y0a : 0 ≤ y0
  y0b : y0 < 4294967296
  y1a : 2147483648 ≤ y1
  y1b : y1 < 4294967296
  ha : 0 ≤ h
  hb : h < y
  ua : 0 ≤ u
  ub : u < 4294967296
  e : h * 4294967296 + u = Q * y + R
  Ra : 0 ≤ R
  Rb : R < y
  Qa : 0 ≤ Q
  Qb : Q < 4294967296
theorem Dl.mk' (h u y y1 y0 : Int) (e : y = 4294967296 * y1 + y0) (y0a : 0 ≤ y0) (y0b : y0 < 4294967296) (y1a : 2147483648 ≤ y1) (y1b : y1 < 4294967296) (ha : 0 ≤ h) (hb : h < y) (ua : 0 ≤ u) (ub : u < 4294967296) :
    Dl h u y y1 y0 ((h * 4294967296 + u) / y) ((h * 4294967296 + u) % y) := by
  have hy : 0 < y := by omega
  refine ⟨e, y0a, y0b, y1a, y1b, ha, hb, ua, ub, ?_, Int.emod_nonneg _ (by omega), Int.emod_lt_of_pos _ hy, Int.ediv_nonneg (by omega) (by omega), ?_⟩
  · have := Int.mul_ediv_add_emod (h * 4294967296 + u) y
    rw [Int.mul_comm] at this; omega
  · apply Int.ediv_lt_of_lt_mul hy
    omega
theorem Dl.dec1 {h u y y1 y0 Q R q : Int} (D : Dl h u y y1 y0 Q R) (c : 4294967296 ≤ q) : Q ≤ q - 1 := by have := D.Qb; omega
theorem Dl.dec2 {h u y y1 y0 Q R q r : Int} (D : Dl h u y y1 y0 Q R) (hr : r = h - q * y1) (c : 4294967296 * r + u < q * y0) : Q ≤ q - 1 := by
  have hy : 0 < y := by have := D.ha; have := D.hb; omega
  have e := D.e
  have m := dl_mul q y1 y0
  rw [← D.ey] at m
  have : Q * y < q * y := by have := D.Ra; omega
  have := Int.lt_of_mul_lt_mul_right this (by omega)
  omega
theorem Dl.end1 {h u y y1 y0 Q R q r : Int} (D : Dl h u y y1 y0 Q R) (hr : r = h - q * y1) (hq : Q ≤ q) (c : q * y0 ≤ 4294967296 * r + u) : q = Q := by
  have hy : 0 < y := by have := D.ha; have := D.hb; omega
  have e := D.e
  have m := dl_mul q y1 y0
  rw [← D.ey] at m
  have e2 : (Q + 1) * y = Q * y + y := by rw [Int.add_mul]; omega
  have : q * y < (Q + 1) * y := by have := D.Rb; omega
  have := Int.lt_of_mul_lt_mul_right this (by omega)
  omega
theorem Dl.end2 {h u y y1 y0 Q R q r : Int} (D : Dl h u y y1 y0 Q R) (hr : r = h - q * y1) (hq : Q ≤ q) (hq2 : q ≤ 4294967296) (c : 4294967296 ≤ r) : q = Q := by
  refine D.end1 hr hq ?_
  have h1 : q * y0 ≤ 4294967296 * y0 := Int.mul_le_mul_of_nonneg_right hq2 D.y0a
  have := D.y0b; have := D.ua
  omega
theorem Dl.first {h u y y1 y0 Q R : Int} (D : Dl h u y y1 y0 Q R) : Q ≤ h / y1 ∧ h / y1 ≤ 4294967297 ∧ 0 ≤ h / y1 ∧ 0 ≤ h % y1 ∧ h % y1 < y1 ∧ h % y1 = h - h / y1 * y1 := by
  have hy1 : 0 < y1 := by have := D.y1a; omega
  have hm := Int.mul_ediv_add_emod h y1
  rw [Int.mul_comm] at hm
  have h0 := Int.emod_nonneg h (by omega : y1 ≠ 0)
  have h1 := Int.emod_lt_of_pos h hy1
  refine ⟨?_, ?_, Int.ediv_nonneg D.ha (by omega), h0, h1, by omega⟩
  · have a : Q * y1 ≤ h := by
      have e := D.e
      have m := dl_mul Q y1 y0
      rw [← D.ey] at m
      have := D.Ra; have := D.ub
      have : 0 ≤ Q * y0 := Int.mul_nonneg D.Qa D.y0a
      omega
    exact (Int.le_ediv_iff_mul_le hy1).2 a
  · apply Int.le_of_lt_add_one
    apply Int.ediv_lt_of_lt_mul hy1
    have := D.hb; have := D.ey; have := D.y0b; have := D.y1a
    omega


theorem rest_wrap (h d : Int) (h0 : 0 ≤ h) (h1 : h < 18446744073709551616) (hd : 0 < d) : IntKind.u64.wrap (h - IntKind.u64.wrap (h / d * d)) = h % d := by
  have hm := Int.mul_ediv_add_emod h d
  rw [Int.mul_comm] at hm
  have a := Int.emod_nonneg h (by omega : d ≠ 0)
  have b : 0 ≤ h / d * d := Int.mul_nonneg (Int.ediv_nonneg h0 (by omega)) (by omega)
  rw [IntKind.wrap_u64, IntKind.wrap_u64]
  generalize h / d * d = m at *
  generalize h % d = k at *
  omega
set_option maxHeartbeats 2000000 in
theorem div64_core (hi lo y y1 y0 u1 u0 Q1 R1 Q0 R0 : Int) (D1 : Dl hi u1 y y1 y0 Q1 R1) (D0 : Dl R1 u0 y y1 y0 Q0 R0) (hy0 : 9223372036854775808 ≤ y) (hy1 : y < 18446744073709551616)
   (hh : 0 ≤ hi) (hhy : hi < y) (hl0 : 0 ≤ lo) (hl1 : lo < 18446744073709551616) (hz : (hi == 0) = false)
   (ry1 : y / 4294967296 = y1) (ry0 : bits .and .u64 y 4294967295 = y0) (rl1 : lo / 4294967296 = u1) (rl0 : bits .and .u64 lo 4294967295 = u0) (rh : bits .or .u64 hi (lo / 18446744073709551616) = hi)
   (ru : IntKind.u64.wrap (IntKind.u64.wrap (IntKind.u64.wrap (hi * 4294967296) + u1) - IntKind.u64.wrap (Q1 * y)) = R1)
   (w : World) :
    Calls Try.prog 95 #[.int .u64 hi, .int .u64 lo, .int .u64 y] w fun e w' => e = .returned (.tuple #[.int .u64 (Q1 * 4294967296 + Q0), .int .u64 (IntKind.u64.wrap (IntKind.u64.wrap (IntKind.u64.wrap (R1 * 4294967296) + u0) - IntKind.u64.wrap (Q0 * y)))]) ∧ w' = w := by
  have a1 := D1.y0a; have a2 := D1.y0b; have a3 := D1.y1a; have a4 := D1.y1b; have a5 := D1.ua; have a6 := D1.ub; have a7 := D0.ua; have a8 := D0.ub
  have b1 := D1.Qa; have b2 := D1.Qb; have b3 := D0.Qa; have b4 := D0.Qb; have b5 := D1.Ra; have b6 := D1.Rb
  obtain ⟨t5, t6, t7, t3, t4', t2'⟩ := D1.first
  have t : Hid _ := rest_wrap hi y1 hh (by omega) (by omega)
  have t4 : hi % y1 < 4294967296 := by omega
  have t2 : Hid _ := t2'
  obtain ⟨s5, s6, s7, s3, s4', s2'⟩ := D0.first
  have s : Hid _ := rest_wrap R1 y1 b5 (by omega) (by omega)
  have s4 : R1 % y1 < 4294967296 := by omega
  have s2 : Hid _ := s2'
  clear t2' s2' t4' s4'
  go_enter Try.func95, Try.ntmps95
  go_wp2_with (first | (go_at_call 86; refine (lz0 y hy0 hy1 _).mono ?_; rintro e w' ⟨rfl, rfl⟩))
  go_loop [15, 16] (fun s t => ∃ q r : Int, s = .int .u64 q ∧ t = .int .u64 r ∧ Hid (r = hi - q * y1) ∧ 0 ≤ r ∧ r < 4294967296 ∧ Q1 ≤ q ∧ q ≤ 4294967297 ∧ 0 ≤ q) (fun _ t => (4294967296 - intOf t).toNat)
  case atStart =>
    refine ⟨hi / y1, hi % y1, rfl, by rw [t.out], t2, t3, t4, t5, t6, t7⟩
  case round =>
    obtain ⟨q, r, rfl, rfl, hr, hr0, hr1, hq1, hq2, hq0⟩ := hrel
    by_cases c1 : 4294967296 ≤ q
    · have hd := D1.dec1 c1
      by_cases c2 : 4294967296 ≤ r + y1
      · have e : q - 1 = Q1 := D1.end2 (r := r + y1) (by have := hr.out; rw [Int.sub_mul]; omega) hd (by omega) c2
        clear hq1 hq2 hd hr
        go_wp2
        go_loop [18, 16] (fun s t => ∃ q r : Int, s = .int .u64 q ∧ t = .int .u64 r ∧ Hid (r = R1 - q * y1) ∧ 0 ≤ r ∧ r < 4294967296 ∧ Q0 ≤ q ∧ q ≤ 4294967297 ∧ 0 ≤ q) (fun _ t => (4294967296 - intOf t).toNat)
        case atStart =>
          refine ⟨R1 / y1, R1 % y1, rfl, by rw [s.out], s2, s3, s4, s5, s6, s7⟩
        case round =>
          obtain ⟨q, r, rfl, rfl, hr, hr0, hr1, hq1, hq2, hq0⟩ := hrel
          by_cases c1 : 4294967296 ≤ q
          · have hd := D0.dec1 c1
            by_cases c2 : 4294967296 ≤ r + y1
            · have e : q - 1 = Q0 := D0.end2 (r := r + y1) (by have := hr.out; rw [Int.sub_mul]; omega) hd (by omega) c2
              clear hq1 hq2 hd hr
              go_wp2
              go_wp2
              go_ret2
              exact ⟨rfl, rfl⟩
            · go_wp2
              go_round
              case rel => exact ⟨q - 1, r + y1, rfl, rfl, by have := hr.out; show _ = _; rw [Int.sub_mul]; omega, by omega, by omega, hd, by omega, by omega⟩
              case measure => simp [intOf]; omega
          · have hqy : IntKind.u64.wrap (q * y0) = q * y0 := by
              have h1 : q * y0 ≤ 4294967295 * y0 := Int.mul_le_mul_of_nonneg_right (by omega) a1
              have h2 : 0 ≤ q * y0 := Int.mul_nonneg hq0 a1
              rw [IntKind.wrap_u64]; omega
            by_cases c3 : 4294967296 * r + u0 < q * y0
            · have hd := D0.dec2 hr.out c3
              by_cases c2 : 4294967296 ≤ r + y1
              · have e : q - 1 = Q0 := D0.end2 (r := r + y1) (by have := hr.out; rw [Int.sub_mul]; omega) hd (by omega) c2
                have hqq : 1 ≤ q := by have := D0.Qa; omega
                clear hq1 hq2 hd hr
                go_wp2
                go_wp2
                go_ret2
                exact ⟨rfl, rfl⟩
              · have hqq : 1 ≤ q := by have := D0.Qa; omega
                go_wp2
                go_round
                case rel => exact ⟨q - 1, r + y1, rfl, rfl, by have := hr.out; show _ = _; rw [Int.sub_mul]; omega, by omega, by omega, hd, by omega, by omega⟩
                case measure => simp [intOf]; omega
            · have e := D0.end1 hr.out hq1 (by omega)
              subst e
              clear hr hq1 hq2
              go_wp2
              go_wp2
              go_ret2
              exact ⟨rfl, rfl⟩
      · go_wp2
        go_round
        case rel => exact ⟨q - 1, r + y1, rfl, rfl, by have := hr.out; show _ = _; rw [Int.sub_mul]; omega, by omega, by omega, hd, by omega, by omega⟩
        case measure => simp [intOf]; omega
    · have hqy : IntKind.u64.wrap (q * y0) = q * y0 := by
        have h1 : q * y0 ≤ 4294967295 * y0 := Int.mul_le_mul_of_nonneg_right (by omega) a1
        have h2 : 0 ≤ q * y0 := Int.mul_nonneg hq0 a1
        rw [IntKind.wrap_u64]; omega
      by_cases c3 : 4294967296 * r + u1 < q * y0
      · have hd := D1.dec2 hr.out c3
        by_cases c2 : 4294967296 ≤ r + y1
        · have e : q - 1 = Q1 := D1.end2 (r := r + y1) (by have := hr.out; rw [Int.sub_mul]; omega) hd (by omega) c2
          have hqq : 1 ≤ q := by have := D1.Qa; omega
          clear hq1 hq2 hd hr
          go_wp2
          go_loop [18, 16] (fun s t => ∃ q r : Int, s = .int .u64 q ∧ t = .int .u64 r ∧ Hid (r = R1 - q * y1) ∧ 0 ≤ r ∧ r < 4294967296 ∧ Q0 ≤ q ∧ q ≤ 4294967297 ∧ 0 ≤ q) (fun _ t => (4294967296 - intOf t).toNat)
          case atStart =>
            refine ⟨R1 / y1, R1 % y1, rfl, by rw [s.out], s2, s3, s4, s5, s6, s7⟩
          case round =>
            obtain ⟨q, r, rfl, rfl, hr, hr0, hr1, hq1, hq2, hq0⟩ := hrel
            by_cases c1 : 4294967296 ≤ q
            · have hd := D0.dec1 c1
              by_cases c2 : 4294967296 ≤ r + y1
              · have e : q - 1 = Q0 := D0.end2 (r := r + y1) (by have := hr.out; rw [Int.sub_mul]; omega) hd (by omega) c2
                clear hq1 hq2 hd hr
                go_wp2
                go_wp2
                go_ret2
                exact ⟨rfl, rfl⟩
              · go_wp2
                go_round
                case rel => exact ⟨q - 1, r + y1, rfl, rfl, by have := hr.out; show _ = _; rw [Int.sub_mul]; omega, by omega, by omega, hd, by omega, by omega⟩
                case measure => simp [intOf]; omega
            · have hqy : IntKind.u64.wrap (q * y0) = q * y0 := by
                have h1 : q * y0 ≤ 4294967295 * y0 := Int.mul_le_mul_of_nonneg_right (by omega) a1
                have h2 : 0 ≤ q * y0 := Int.mul_nonneg hq0 a1
                rw [IntKind.wrap_u64]; omega
              by_cases c3 : 4294967296 * r + u0 < q * y0
              · have hd := D0.dec2 hr.out c3
                by_cases c2 : 4294967296 ≤ r + y1
                · have e : q - 1 = Q0 := D0.end2 (r := r + y1) (by have := hr.out; rw [Int.sub_mul]; omega) hd (by omega) c2
                  have hqq : 1 ≤ q := by have := D0.Qa; omega
                  clear hq1 hq2 hd hr
                  go_wp2
                  go_wp2
                  go_ret2
                  exact ⟨rfl, rfl⟩
                · have hqq : 1 ≤ q := by have := D0.Qa; omega
                  go_wp2
                  go_round
                  case rel => exact ⟨q - 1, r + y1, rfl, rfl, by have := hr.out; show _ = _; rw [Int.sub_mul]; omega, by omega, by omega, hd, by omega, by omega⟩
                  case measure => simp [intOf]; omega
              · have e := D0.end1 hr.out hq1 (by omega)
                subst e
                clear hr hq1 hq2
                go_wp2
                go_wp2
                go_ret2
                exact ⟨rfl, rfl⟩
        · have hqq : 1 ≤ q := by have := D1.Qa; omega
          go_wp2
          go_round
          case rel => exact ⟨q - 1, r + y1, rfl, rfl, by have := hr.out; show _ = _; rw [Int.sub_mul]; omega, by omega, by omega, hd, by omega, by omega⟩
          case measure => simp [intOf]; omega
      · have e := D1.end1 hr.out hq1 (by omega)
        subst e
        clear hr hq1 hq2
        go_wp2
        go_loop [18, 16] (fun s t => ∃ q r : Int, s = .int .u64 q ∧ t = .int .u64 r ∧ Hid (r = R1 - q * y1) ∧ 0 ≤ r ∧ r < 4294967296 ∧ Q0 ≤ q ∧ q ≤ 4294967297 ∧ 0 ≤ q) (fun _ t => (4294967296 - intOf t).toNat)
        case atStart =>
          refine ⟨R1 / y1, R1 % y1, rfl, by rw [s.out], s2, s3, s4, s5, s6, s7⟩
        case round =>
          obtain ⟨q, r, rfl, rfl, hr, hr0, hr1, hq1, hq2, hq0⟩ := hrel
          by_cases c1 : 4294967296 ≤ q
          · have hd := D0.dec1 c1
            by_cases c2 : 4294967296 ≤ r + y1
            · have e : q - 1 = Q0 := D0.end2 (r := r + y1) (by have := hr.out; rw [Int.sub_mul]; omega) hd (by omega) c2
              clear hq1 hq2 hd hr
              go_wp2
              go_wp2
              go_ret2
              exact ⟨rfl, rfl⟩
            · go_wp2
              go_round
              case rel => exact ⟨q - 1, r + y1, rfl, rfl, by have := hr.out; show _ = _; rw [Int.sub_mul]; omega, by omega, by omega, hd, by omega, by omega⟩
              case measure => simp [intOf]; omega
          · have hqy : IntKind.u64.wrap (q * y0) = q * y0 := by
              have h1 : q * y0 ≤ 4294967295 * y0 := Int.mul_le_mul_of_nonneg_right (by omega) a1
              have h2 : 0 ≤ q * y0 := Int.mul_nonneg hq0 a1
              rw [IntKind.wrap_u64]; omega
            by_cases c3 : 4294967296 * r + u0 < q * y0
            · have hd := D0.dec2 hr.out c3
              by_cases c2 : 4294967296 ≤ r + y1
              · have e : q - 1 = Q0 := D0.end2 (r := r + y1) (by have := hr.out; rw [Int.sub_mul]; omega) hd (by omega) c2
                have hqq : 1 ≤ q := by have := D0.Qa; omega
                clear hq1 hq2 hd hr
                go_wp2
                go_wp2
                go_ret2
                exact ⟨rfl, rfl⟩
              · have hqq : 1 ≤ q := by have := D0.Qa; omega
                go_wp2
                go_round
                case rel => exact ⟨q - 1, r + y1, rfl, rfl, by have := hr.out; show _ = _; rw [Int.sub_mul]; omega, by omega, by omega, hd, by omega, by omega⟩
                case measure => simp [intOf]; omega
            · have e := D0.end1 hr.out hq1 (by omega)
              subst e
              clear hr hq1 hq2
              go_wp2
              go_wp2
              go_ret2
              exact ⟨rfl, rfl⟩

set_option maxHeartbeats 1000000 in
theorem div64_zero (lo y : Int) (hy0 : 9223372036854775808 ≤ y) (hy1 : y < 18446744073709551616) (hl0 : 0 ≤ lo) (hl1 : lo < 18446744073709551616) (w : World) :
    Calls Try.prog 95 #[.int .u64 0, .int .u64 lo, .int .u64 y] w fun e w' => e = .returned (.tuple #[.int .u64 (lo / y), .int .u64 (lo % y)]) ∧ ∃ n, w' = w.drewN n := by
  go_enter Try.func95, Try.ntmps95
  go_wp2
  go_quiet (fail)
  go_wp2
  go_ret2
  exact ⟨rfl, _, rfl⟩
/-- The quotient, by what is left. -/
theorem ediv_by (x q d r : Int) (h : x = q * d + r) (h0 : 0 ≤ r) (h1 : r < d) : x / d = q := by
  rw [h, Int.add_comm, Int.add_mul_ediv_right _ _ (by omega), Int.ediv_eq_zero_of_lt h0 h1]; omega
theorem or0 (x : Int) (h : Limb x) : bits .or .u64 x 0 = x := by
  obtain ⟨x, rfl⟩ := Int.eq_ofNat_of_zero_le h.1
  have := bits_or_u64_nat x 0 (by have := h.2; omega) (by decide)
  simpa using this
theorem and32 (x : Int) (h : Limb x) : bits .and .u64 x 4294967295 = x % 4294967296 := by
  obtain ⟨x, rfl⟩ := Int.eq_ofNat_of_zero_le h.1
  have := Mul64.maskN x (by have := h.2; omega)
  rw [this]; omega
/-- math/bits.Div64, where the divisor's highest bit is set: the quotient. -/
theorem div64_ex (hi lo y : Int) (hy0 : 9223372036854775808 ≤ y) (hy1 : y < 18446744073709551616) (hh : 0 ≤ hi) (hhy : hi < y) (hl : Limb lo) : ∃ v, ∀ w,
    Calls Try.prog 95 #[.int .u64 hi, .int .u64 lo, .int .u64 y] w fun e w' => e = .returned (.tuple #[.int .u64 ((hi * 18446744073709551616 + lo) / y), v]) ∧ ∃ n, w' = w.drewN n := by
  by_cases hz : hi = 0
  · subst hz
    rw [show (0 * 18446744073709551616 + lo) = lo from by omega]
    exact ⟨_, fun w => div64_zero lo y hy0 hy1 hl.1 hl.2 w⟩
  · have D1 := Dl.mk' hi (lo / 4294967296) y (y / 4294967296) (y % 4294967296) (by omega) (by omega) (by omega) (by omega) (by omega) hh hhy (by have := hl.1; omega) (by have := hl.2; omega)
    generalize hQ1 : (hi * 4294967296 + lo / 4294967296) / y = Q1 at D1
    generalize hR1 : (hi * 4294967296 + lo / 4294967296) % y = R1 at D1
    have D0 := Dl.mk' R1 (lo % 4294967296) y (y / 4294967296) (y % 4294967296) (by omega) (by omega) (by omega) (by omega) (by omega) D1.Ra D1.Rb (by omega) (by omega)
    generalize (R1 * 4294967296 + lo % 4294967296) / y = Q0 at D0
    generalize (R1 * 4294967296 + lo % 4294967296) % y = R0 at D0
    have hlo : lo / 18446744073709551616 = 0 := by have := hl.1; have := hl.2; omega
    have e1 := D1.e
    have e0 := D0.e
    have hq : (hi * 18446744073709551616 + lo) / y = Q1 * 4294967296 + Q0 := by
      refine ediv_by _ _ _ R0 ?_ D0.Ra D0.Rb
      rw [Int.add_mul, Int.mul_right_comm Q1]
      omega
    rw [hq]
    have ru : IntKind.u64.wrap (IntKind.u64.wrap (IntKind.u64.wrap (hi * 4294967296) + lo / 4294967296) - IntKind.u64.wrap (Q1 * y)) = R1 := by
      have := D1.Ra; have := D1.Rb
      rw [IntKind.wrap_u64, IntKind.wrap_u64, IntKind.wrap_u64, IntKind.wrap_u64]
      generalize Q1 * y = m at *
      omega
    refine ⟨_, fun w => (div64_core hi lo y _ _ _ _ Q1 R1 Q0 R0 D1 D0 hy0 hy1 hh hhy hl.1 hl.2 (by simpa using hz) rfl (and32 y ⟨by omega, hy1⟩) rfl (and32 lo hl) (by rw [hlo]; exact or0 hi ⟨hh, by omega⟩) ru w).mono (fun e w' h => ⟨h.1, 0, h.2⟩)⟩
end Go.Proofs.Ytmflilgppllebaa
/- Walks over package word: the inner steps of long division. -/
namespace Go.Proofs.Ytmflilgppllebaa
open Go.RowKit
set_option linter.unusedSimpArgs false
set_option linter.unusedVariables false

/-- Only the cells of block b from lo on and below hi have turned. -/
structure Wr (b lo hi : Nat) (w w' : World) : Prop where
  os : w'.os = w.os
  tape : w'.tape = w.tape
  output : w'.output = w.output
  size : w'.heap.size = w.heap.size
  block : ∀ k, k ≠ b → w'.heap[k]? = w.heap[k]?
  cell : ∀ o, o < lo ∨ hi ≤ o → w'.cell? ⟨b, o, none⟩ = w.cell? ⟨b, o, none⟩
  frozen : ∀ a, w'.frozen? a = w.frozen? a
theorem Wr.refl (b lo hi : Nat) (w : World) : Wr b lo hi w w := ⟨rfl, rfl, rfl, rfl, fun _ _ => rfl, fun _ _ => rfl, fun _ => rfl⟩
theorem Wr.trans {b lo hi : Nat} {u v w : World} (h : Wr b lo hi u v) (k : Wr b lo hi v w) : Wr b lo hi u w :=
  ⟨k.os.trans h.os, k.tape.trans h.tape, k.output.trans h.output, k.size.trans h.size, fun i hi => (k.block i hi).trans (h.block i hi), fun o ho => (k.cell o ho).trans (h.cell o ho), fun a => (k.frozen a).trans (h.frozen a)⟩
theorem Wr.setCell {b lo hi : Nat} {u w : World} (h : Wr b lo hi u w) (o : Nat) (h1 : lo ≤ o) (h2 : o < hi) (v : Value) : Wr b lo hi u (w.setCell ⟨b, o, none⟩ v) :=
  h.trans ⟨rfl, rfl, rfl, by simp [World.setCell], fun k hk => Below.heap_setCell _ _ _ _ hk, fun p hp => World.cell?_setCell_other _ _ _ _ (by intro e; simp at e <;> omega), fun a => World.frozen?_setCell _ _ _ _⟩
theorem Wr.drew {b lo hi : Nat} {u w : World} (h : Wr b lo hi u w) : Wr b lo hi u w.drew := h.trans ⟨rfl, rfl, rfl, rfl, fun _ _ => rfl, fun _ _ => rfl, fun _ => rfl⟩
theorem Wr.drewN {b lo hi : Nat} {u w : World} (h : Wr b lo hi u w) (n : Nat) : Wr b lo hi u (w.drewN n) := h.trans ⟨rfl, rfl, rfl, rfl, fun _ _ => rfl, fun _ _ => rfl, fun _ => rfl⟩
theorem Wr.other {b lo hi : Nat} {u w : World} (h : Wr b lo hi u w) {c o : Nat} (hc : c ≠ b) : w.cell? ⟨c, o, none⟩ = u.cell? ⟨c, o, none⟩ := World.cell?_of_block (w := u) (h.block c hc)

/-- The number of the first k limbs. -/
def val (X : Nat → Int) : Nat → Int
  | 0 => 0
  | k + 1 => val X k + 18446744073709551616 ^ k * X k
theorem val_congr {X Y : Nat → Int} : ∀ {k : Nat}, (∀ i, i < k → X i = Y i) → val X k = val Y k
  | 0, _ => rfl
  | k + 1, h => by rw [val, val, val_congr (fun i hi => h i (by omega)), h k (by omega)]
/-- One limb is another one. -/
def put (X : Nat → Int) (k : Nat) (x : Int) : Nat → Int := fun i => if i = k then x else X i
theorem put_same (X : Nat → Int) (k : Nat) (x : Int) : put X k x k = x := by simp [put]
theorem put_other (X : Nat → Int) (k : Nat) (x : Int) {i : Nat} (h : i ≠ k) : put X k x i = X i := by simp [put, h]
theorem val_put (X : Nat → Int) (k : Nat) (x : Int) : val (put X k x) k = val X k := val_congr (fun i hi => put_other _ _ _ (by omega))
theorem pow_succ' (k : Nat) : (18446744073709551616 : Int) ^ (k + 1) = 18446744073709551616 * 18446744073709551616 ^ k := by rw [Int.pow_succ, Int.mul_comm]

theorem take_step {q vx pv pw P xk vk c b s c' b' part B : Int} (h : Hid (vx - q * pv = pw - P * (c + b))) (e1 : Hid (q * vk + c + 0 = part + B * c')) (e2 : Hid (xk - part - b = s - B * b')) :
    Hid ((vx + P * xk) - q * (pv + P * vk) = (pw + P * s) - (B * P) * (c' + b')) := by
  unfold Hid at *
  have e3 : xk - q * vk - c - b = s - B * c' - B * b' := by omega
  have e4 : P * (xk - q * vk - c - b) = P * (s - B * c' - B * b') := by rw [e3]
  rw [Int.mul_sub, Int.mul_sub, Int.mul_sub, Int.mul_sub, Int.mul_sub] at e4
  rw [Int.mul_add] at h
  rw [Int.mul_add q, Int.mul_left_comm q P vk, Int.mul_assoc B P, Int.mul_add P c' b', Int.mul_add B, Int.mul_left_comm B P c', Int.mul_left_comm B P b']
  omega
theorem take_last {q vx pv pw P xk c b s b' B : Int} (h : Hid (vx - q * pv = pw - P * (c + b))) (e2 : Hid (xk - c - b = s - B * b')) :
    Hid ((vx + P * xk) - q * pv = (pw + P * s) - (B * P) * b') := by
  unfold Hid at *
  have e4 : P * (xk - c - b) = P * (s - B * b') := by rw [e2]
  rw [Int.mul_sub, Int.mul_sub, Int.mul_sub] at e4
  rw [Int.mul_add] at h
  rw [Int.mul_assoc B P, Int.mul_left_comm B P b']
  omega

set_option maxHeartbeats 1000000 in
/-- word.takeTimes -/
theorem takeTimes_any (n bx ox cx bv ov cv : Nat) (X V : Nat → Int) (q : Int) (hn : n ≤ 4) (hne : bv ≠ bx) (hq : Limb q) (hX : ∀ i, Limb (X i)) (hV : ∀ i, Limb (V i)) (w : World)
    (cX : ∀ i, i ≤ n → w.cell? ⟨bx, ox + i, none⟩ = some (.int .u64 (X i))) (cV : ∀ i, i < n → w.cell? ⟨bv, ov + i, none⟩ = some (.int .u64 (V i))) (fX : ∀ i, i ≤ n → w.frozen? ⟨bx, ox + i, none⟩ = false) :
    Calls Try.prog 93 #[.slice (some ⟨bx, ox, none⟩) (n + 1) cx, .slice (some ⟨bv, ov, none⟩) n cv, .int .u64 q] w fun e w' =>
      ∃ (Y : Nat → Int) (b : Int), e = .returned (.int .u64 b) ∧ (0 ≤ b ∧ b ≤ 1) ∧ (∀ i, Limb (Y i)) ∧ Hid (val X (n + 1) - q * val V n = val Y (n + 1) - 18446744073709551616 ^ (n + 1) * b) ∧
        (∀ i, i ≤ n → w'.cell? ⟨bx, ox + i, none⟩ = some (.int .u64 (Y i))) ∧ Wr bx ox (ox + n + 1) w w' := by
  have HX : Hid _ := cX
  have HV : Hid _ := cV
  have HF : Hid _ := fX
  have HLX : Hid _ := hX
  have HLV : Hid _ := hV
  clear cX cV fX hX hV
  go_enter Try.func93, Try.ntmps93
  go_wp2
  go_loopw [8, 9, 15] (fun sc sb si wr => ∃ (k : Nat) (c b : Int) (Y : Nat → Int), k ≤ n ∧ si = .int .i64 k ∧ sc = .int .u64 c ∧ sb = .int .u64 b ∧ Limb c ∧ 0 ≤ b ∧ b ≤ 1 ∧ Hid (∀ i, Limb (Y i)) ∧ Hid (∀ i, k ≤ i → Y i = X i) ∧
      Hid (val X k - q * val V k = val Y k - 18446744073709551616 ^ k * (c + b)) ∧ Hid (∀ i, i ≤ n → wr.cell? ⟨bx, ox + i, none⟩ = some (.int .u64 (Y i))) ∧ Wr bx ox (ox + n + 1) w wr) (fun _ _ si _ => n - (intOf si).toNat)
  case atStart => exact ⟨0, 0, 0, X, Nat.zero_le _, rfl, rfl, rfl, limb0, by decide, by decide, HLX, fun _ _ => rfl, by show _ = _; simp [val], HX, Wr.refl _ _ _ _⟩
  case round =>
    obtain ⟨k, c, b, Y, hk, rfl, rfl, rfl, hc, hb0, hb1, hLY, hYX, hE, hcY, hW⟩ := hrel
    by_cases hlt : k < n
    · have hvk := (hW.other hne).trans (HV.out k hlt)
      have hxk := hcY.out k (by omega)
      have hfk := (hW.frozen _).trans (HF.out k (by omega))
      obtain ⟨part, c', r1, l1, l2, e1⟩ := mulAdd_ex q (V k) c 0 hq (HLV.out k) hc limb0
      obtain ⟨s, b', r2, l3, p3, q3, e2⟩ := sub64_ex (Y k) part b (hLY.out k) l1 hb0 hb1
      have R1 : Hid _ := r1
      clear r1
      go_wp2_with (first | (go_at_call 90; refine (R1.out _).mono ?_; rintro e w' ⟨rfl, rfl⟩))
      refine ⟨⟨k + 1, c', b', put Y k s, by omega, by go_num, rfl, rfl, l2, p3, q3, ?_, ?_, ?_, ?_, ?_⟩, by simp [intOf]; omega⟩
      · intro i
        by_cases h : i = k
        · subst h; rw [put_same]; exact l3
        · rw [put_other _ _ _ h]; exact hLY.out i
      · intro i hi
        rw [put_other _ _ _ (by omega)]; exact hYX.out i (by omega)
      · have hk' : Y k = X k := hYX.out k (Nat.le_refl _)
        rw [hk'] at e2
        have := take_step hE e1 e2
        rw [pow_succ']
        show Hid (val X k + _ - q * (val V k + _) = (val (put Y k s) k + _ * put Y k s k) - _)
        rw [val_put, put_same]
        exact this
      · intro i hi
        by_cases h : i = k
        · subst h; rw [put_same]; exact World.cell?_setCell_same _ _ _ hxk
        · rw [put_other _ _ _ h, World.cell?_setCell_other _ _ _ _ (by intro e; simp at e <;> omega)]; exact hcY.out i hi
      · exact hW.setCell _ (by omega) (by omega) _
    · have hkn : k = n := by omega
      subst hkn
      have hxk := hcY.out k (Nat.le_refl _)
      have hfk := (hW.frozen _).trans (HF.out k (Nat.le_refl _))
      obtain ⟨s, b', r2, l3, p3, q3, e2⟩ := sub64_ex (Y k) c b (hLY.out k) hc hb0 hb1
      go_wp2
      go_ret
      refine ⟨put Y k s, b', rfl, ⟨p3, q3⟩, ?_, ?_, ?_, ?_⟩
      · intro i
        by_cases h : i = k
        · subst h; rw [put_same]; exact l3
        · rw [put_other _ _ _ h]; exact hLY.out i
      · have hk' : Y k = X k := hYX.out k (Nat.le_refl _)
        rw [hk'] at e2
        have := take_last hE e2
        rw [pow_succ']
        show Hid (val X k + _ - q * val V k = (val (put Y k s) k + _ * put Y k s k) - _)
        rw [val_put, put_same]
        exact this
      · intro i hi
        by_cases h : i = k
        · subst h; rw [put_same]; exact World.cell?_setCell_same _ _ _ hxk
        · rw [put_other _ _ _ h, World.cell?_setCell_other _ _ _ _ (by intro e; simp at e <;> omega)]; exact hcY.out i hi
      · exact hW.setCell _ (by omega) (by omega) _
end Go.Proofs.Ytmflilgppllebaa
/- Walks over package word: one digit of long division. -/
namespace Go.Proofs.Ytmflilgppllebaa
open Go.RowKit
set_option linter.unusedSimpArgs false
set_option linter.unusedVariables false

theorem back_step {vx pv pw P xk vk b s b' B : Int} (h : Hid (vx + pv = pw + P * b)) (e2 : Hid (xk + vk + b = s + B * b')) :
    Hid ((vx + P * xk) + (pv + P * vk) = (pw + P * s) + (B * P) * b') := by
  unfold Hid at *
  have e4 : P * (xk + vk + b) = P * (s + B * b') := by rw [e2]
  rw [Int.mul_add, Int.mul_add, Int.mul_add] at e4
  rw [Int.mul_assoc B P, Int.mul_left_comm B P b']
  omega
theorem back_last {vx pv pw P xk b s b' B : Int} (h : Hid (vx + pv = pw + P * b)) (e2 : Hid (xk + 0 + b = s + B * b')) :
    Hid ((vx + P * xk) + pv = (pw + P * s) + (B * P) * b') := by
  unfold Hid at *
  have e3 : xk + b = s + B * b' := by omega
  have e4 : P * (xk + b) = P * (s + B * b') := by rw [e3]
  rw [Int.mul_add, Int.mul_add] at e4
  rw [Int.mul_assoc B P, Int.mul_left_comm B P b']
  omega
set_option maxHeartbeats 1000000 in
/-- word.putBack -/
theorem putBack_any (n bx ox cx bv ov cv : Nat) (X V : Nat → Int) (hn : n ≤ 4) (hne : bv ≠ bx) (hX : ∀ i, Limb (X i)) (hV : ∀ i, Limb (V i)) (w : World)
    (cX : ∀ i, i ≤ n → w.cell? ⟨bx, ox + i, none⟩ = some (.int .u64 (X i))) (cV : ∀ i, i < n → w.cell? ⟨bv, ov + i, none⟩ = some (.int .u64 (V i))) (fX : ∀ i, i ≤ n → w.frozen? ⟨bx, ox + i, none⟩ = false) :
    Calls Try.prog 94 #[.slice (some ⟨bx, ox, none⟩) (n + 1) cx, .slice (some ⟨bv, ov, none⟩) n cv] w fun e w' =>
      ∃ (Y : Nat → Int) (b : Int), e = .returned (.int .u64 b) ∧ (0 ≤ b ∧ b ≤ 1) ∧ (∀ i, Limb (Y i)) ∧ Hid (val X (n + 1) + val V n = val Y (n + 1) + 18446744073709551616 ^ (n + 1) * b) ∧
        (∀ i, i ≤ n → w'.cell? ⟨bx, ox + i, none⟩ = some (.int .u64 (Y i))) ∧ Wr bx ox (ox + n + 1) w w' := by
  have HX : Hid _ := cX
  have HV : Hid _ := cV
  have HF : Hid _ := fX
  have HLX : Hid _ := hX
  have HLV : Hid _ := hV
  clear cX cV fX hX hV
  go_enter Try.func94, Try.ntmps94
  go_wp2
  go_loopw [5, 11] (fun sb si wr => ∃ (k : Nat) (b : Int) (Y : Nat → Int), k ≤ n ∧ si = .int .i64 k ∧ sb = .int .u64 b ∧ 0 ≤ b ∧ b ≤ 1 ∧ Hid (∀ i, Limb (Y i)) ∧ Hid (∀ i, k ≤ i → Y i = X i) ∧
      Hid (val X k + val V k = val Y k + 18446744073709551616 ^ k * b) ∧ Hid (∀ i, i ≤ n → wr.cell? ⟨bx, ox + i, none⟩ = some (.int .u64 (Y i))) ∧ Wr bx ox (ox + n + 1) w wr) (fun _ si _ => n - (intOf si).toNat)
  case atStart => exact ⟨0, 0, X, Nat.zero_le _, rfl, rfl, by decide, by decide, HLX, fun _ _ => rfl, by show _ = _; simp [val], HX, Wr.refl _ _ _ _⟩
  case round =>
    obtain ⟨k, b, Y, hk, rfl, rfl, hb0, hb1, hLY, hYX, hE, hcY, hW⟩ := hrel
    by_cases hlt : k < n
    · have hvk := (hW.other hne).trans (HV.out k hlt)
      have hxk := hcY.out k (by omega)
      have hfk := (hW.frozen _).trans (HF.out k (by omega))
      obtain ⟨s, b', r2, l3, p3, q3, e2⟩ := add64_ex (Y k) (V k) b (hLY.out k) (HLV.out k) hb0 hb1
      go_wp2
      go_region
      go_wp2
      refine ⟨⟨k + 1, b', put Y k s, by omega, by go_num, rfl, p3, q3, ?_, ?_, ?_, ?_, ?_⟩, by simp [intOf]; omega⟩
      · intro i
        by_cases h : i = k
        · subst h; rw [put_same]; exact l3
        · rw [put_other _ _ _ h]; exact hLY.out i
      · intro i hi
        rw [put_other _ _ _ (by omega)]; exact hYX.out i (by omega)
      · have hk' : Y k = X k := hYX.out k (Nat.le_refl _)
        rw [hk'] at e2
        have := back_step hE e2
        rw [pow_succ']
        show Hid (val X k + _ + (val V k + _) = (val (put Y k s) k + _ * put Y k s k) + _)
        rw [val_put, put_same]
        exact this
      · intro i hi
        by_cases h : i = k
        · subst h; rw [put_same]; exact World.cell?_setCell_same _ _ _ hxk
        · rw [put_other _ _ _ h]; exact (World.cell?_setCell_other _ _ _ _ (by intro e; simp at e <;> omega)).trans (hcY.out i hi)
      · exact (hW.setCell _ (by omega) (by omega) _).drew
    · have hkn : k = n := by omega
      subst hkn
      have hxk := hcY.out k (Nat.le_refl _)
      have hfk := (hW.frozen _).trans (HF.out k (Nat.le_refl _))
      obtain ⟨s, b', r2, l3, p3, q3, e2⟩ := add64_ex (Y k) 0 b (hLY.out k) limb0 hb0 hb1
      go_wp2
      go_ret
      refine ⟨put Y k s, b', rfl, ⟨p3, q3⟩, ?_, ?_, ?_, ?_⟩
      · intro i
        by_cases h : i = k
        · subst h; rw [put_same]; exact l3
        · rw [put_other _ _ _ h]; exact hLY.out i
      · have hk' : Y k = X k := hYX.out k (Nat.le_refl _)
        rw [hk'] at e2
        have := back_last hE e2
        rw [pow_succ']
        show Hid (val X k + _ + val V k = (val (put Y k s) k + _ * put Y k s k) + _)
        rw [val_put, put_same]
        exact this
      · intro i hi
        by_cases h : i = k
        · subst h; rw [put_same]; exact World.cell?_setCell_same _ _ _ hxk
        · rw [put_other _ _ _ h, World.cell?_setCell_other _ _ _ _ (by intro e; simp at e <;> omega)]; exact hcY.out i hi
      · exact hW.setCell _ (by omega) (by omega) _

theorem pow64_pos (k : Nat) : 0 < (18446744073709551616 : Int) ^ k := Int.pow_pos (by decide)
theorem val_bd {X : Nat → Int} (h : ∀ i, Limb (X i)) : ∀ k, 0 ≤ val X k ∧ val X k < 18446744073709551616 ^ k
  | 0 => ⟨Int.le_refl _, by simp [val]⟩
  | k + 1 => by
    obtain ⟨h0, h1⟩ := val_bd h k
    obtain ⟨g0, g1⟩ := h k
    have hp := pow64_pos k
    rw [val, pow_succ']
    have a : 0 ≤ 18446744073709551616 ^ k * X k := Int.mul_nonneg (by omega) g0
    have b : 18446744073709551616 ^ k * X k ≤ 18446744073709551616 ^ k * 18446744073709551615 := Int.mul_le_mul_of_nonneg_left (by omega) (by omega)
    exact ⟨by omega, by omega⟩
/-- The guess by the highest limbs is never too little. -/
theorem guess_le {X V : Nat → Int} {m : Nat} (hX : ∀ i, Limb (X i)) (hV : ∀ i, Limb (V i)) (hv : 0 < V m) :
    val X (m + 2) / val V (m + 1) ≤ (X (m + 1) * 18446744073709551616 + X m) / V m := by
  obtain ⟨a0, a1⟩ := val_bd hX m
  obtain ⟨b0, b1⟩ := val_bd hV m
  have hp := pow64_pos m
  have eV : val V (m + 1) = val V m + 18446744073709551616 ^ m * V m := rfl
  have eX : val X (m + 2) = val X m + 18446744073709551616 ^ m * (X (m + 1) * 18446744073709551616 + X m) := by
    show val X m + 18446744073709551616 ^ m * X m + 18446744073709551616 ^ (m + 1) * X (m + 1) = _
    rw [pow_succ', Int.mul_add, Int.mul_assoc, Int.mul_left_comm, Int.mul_comm 18446744073709551616 (X (m + 1))]
    omega
  have hVp : 0 < val V (m + 1) := by
    have : 0 < 18446744073709551616 ^ m * V m := Int.mul_pos hp hv
    omega
  generalize hQ : val X (m + 2) / val V (m + 1) = Q
  have hQ0 : 0 ≤ Q := by rw [← hQ]; exact Int.ediv_nonneg (val_bd hX _).1 (by omega)
  have h1 : Q * val V (m + 1) ≤ val X (m + 2) := by rw [← hQ]; exact Int.ediv_mul_le _ (by omega)
  rw [Int.le_ediv_iff_mul_le hv]
  generalize X (m + 1) * 18446744073709551616 + X m = T at *
  rw [eX, eV, Int.mul_add] at h1
  have h2 : 0 ≤ Q * val V m := Int.mul_nonneg hQ0 b0
  have h3 : 18446744073709551616 ^ m * (Q * V m) < 18446744073709551616 ^ m * (T + 1) := by
    rw [Int.mul_left_comm Q] at h1
    rw [Int.mul_add _ T]
    omega
  have := Int.lt_of_mul_lt_mul_left h3 (by omega)
  omega
end Go.Proofs.Ytmflilgppllebaa
/- Walks over package word: one digit of long division, whole. -/
namespace Go.Proofs.Ytmflilgppllebaa
open Go.RowKit
set_option linter.unusedSimpArgs false
set_option linter.unusedVariables false

theorem calls_quiet {f : FuncId} {args : Array Value} {W : World} {n : Nat} {v : Value} (h : ∀ w, Calls Try.prog f args w fun e w' => e = .returned v ∧ ∃ k, w' = w.drewN k) : Calls Try.prog f args (W.drewN n) fun e w'' => e = .returned v ∧ ∃ m, w'' = W.drewN m :=
  (h _).mono fun e w' ⟨he, k, hk⟩ => ⟨he, n + k, by rw [hk]; simp [World.drewN, Nat.add_assoc]⟩
theorem calls_quiet2 {f : FuncId} {args : Array Value} {W : World} {q n : Nat} {v : Value} (h : ∀ w, Calls Try.prog f args w fun e w' => e = .returned v ∧ ∃ k, w' = w.drewN k) : Calls Try.prog f args (W.drewN (q + n)) fun e w'' => e = .returned v ∧ ∃ m, w'' = W.drewN (q + m) :=
  (h _).mono fun e w' ⟨he, k, hk⟩ => ⟨he, n + k, by rw [hk]; simp [World.drewN, Nat.add_assoc]⟩
theorem top_lt {x y v : Int} (h : x < v) (hy : y < 18446744073709551616) (hv : 0 < v) : (x * 18446744073709551616 + y) / v < 18446744073709551616 := by
  apply Int.ediv_lt_of_lt_mul hv
  omega
set_option maxHeartbeats 1000000 in
/-- word.guess: never too little. -/
theorem guess_any (m bx ox cx bv ov cv : Nat) (X V : Nat → Int) (hm : m ≤ 3) (hX : ∀ i, Limb (X i)) (hV : ∀ i, Limb (V i)) (hv : 9223372036854775808 ≤ V m) (hlt : val X (m + 2) < 18446744073709551616 * val V (m + 1)) (w : World)
    (cX : ∀ i, i ≤ m + 1 → w.cell? ⟨bx, ox + i, none⟩ = some (.int .u64 (X i))) (cV : ∀ i, i < m + 1 → w.cell? ⟨bv, ov + i, none⟩ = some (.int .u64 (V i))) :
    Calls Try.prog 92 #[.slice (some ⟨bx, ox, none⟩) (m + 2) cx, .slice (some ⟨bv, ov, none⟩) (m + 1) cv] w fun e w' =>
      ∃ q : Int, e = .returned (.int .u64 q) ∧ Limb q ∧ val X (m + 2) / val V (m + 1) ≤ q ∧ ∃ n, w' = w.drewN n := by
  have c1 := cX (m + 1) (Nat.le_refl _)
  have c2 := cX m (by omega)
  have c3 := cV m (by omega)
  have hVp : 0 < val V (m + 1) := by
    have h1 := (val_bd hV m).1
    have h2 : 0 < 18446744073709551616 ^ m * V m := Int.mul_pos (pow64_pos m) (by omega)
    show 0 < val V m + _
    omega
  have hQ : val X (m + 2) / val V (m + 1) < 18446744073709551616 := Int.ediv_lt_of_lt_mul hVp hlt
  have hg := guess_le hX hV (m := m) (by omega)
  have g1 := hX (m + 1); have g2 := hX m; have g3 := hV m
  clear cX cV hX hV hlt hVp
  generalize val X (m + 2) / val V (m + 1) = Q at *
  generalize X (m + 1) = x1 at *
  generalize X m = x0 at *
  generalize V m = v at *
  obtain ⟨g10, g11⟩ := g1
  obtain ⟨g20, g21⟩ := g2
  obtain ⟨g30, g31⟩ := g3
  by_cases h : v ≤ x1
  · clear hg
    have HQ : Hid _ := hQ
    clear hQ
    go_enter Try.func92, Try.ntmps92
    go_wp2
    go_quiet (fail)
    go_wp2
    go_ret
    exact ⟨_, rfl, ⟨by decide, by decide⟩, by have := HQ.out; omega, _, rfl⟩
  · obtain ⟨u, hd⟩ := div64_ex x1 x0 v hv g31 g10 (by omega) ⟨g20, g21⟩
    have hq1 := top_lt (x := x1) (y := x0) (v := v) (by omega) g21 (by omega)
    have hq0 : 0 ≤ (x1 * 18446744073709551616 + x0) / v := Int.ediv_nonneg (by omega) (by omega)
    generalize (x1 * 18446744073709551616 + x0) / v = q at *
    have HD : Hid _ := hd
    have HQ : Hid _ := hg
    clear hd hg hQ
    go_enter Try.func92, Try.ntmps92
    go_wp2
    go_quiet (fail)
    go_wp2
    go_quiet ((go_at_call 95; exact calls_quiet2 HD.out))
    go_wp2
    go_ret
    exact ⟨_, rfl, ⟨hq0, hq1⟩, HQ.out, _, World.drewN_drewN _ _ _⟩

theorem quo_lt {x v q : Int} (hv : 0 < v) (h : x - q * v < 0) : x / v < q := Int.ediv_lt_of_lt_mul hv (by omega)
theorem quo_eq {x v q : Int} (hv : 0 < v) (h0 : 0 ≤ x - q * v) (hq : x / v ≤ q) : x - q * v < v := by
  have h1 : q ≤ x / v := (Int.le_ediv_iff_mul_le hv).2 (by omega)
  have h2 : x / v = q := by omega
  have := Int.lt_ediv_add_one_mul_self x hv
  rw [h2, Int.add_mul] at this
  omega
theorem val_top {Y : Nat → Int} {n : Nat} (hY : ∀ i, Limb (Y i)) (h : val Y (n + 1) < 18446744073709551616 ^ n) : Y n = 0 ∧ val Y (n + 1) = val Y n := by
  obtain ⟨h0, h1⟩ := val_bd hY n
  have hp := pow64_pos n
  have e : val Y (n + 1) = val Y n + 18446744073709551616 ^ n * Y n := rfl
  have hz : Y n = 0 := by
    rcases Int.lt_or_le 0 (Y n) with g | g
    · have : 18446744073709551616 ^ n * 1 ≤ 18446744073709551616 ^ n * Y n := Int.mul_le_mul_of_nonneg_left (by omega) (by omega)
      omega
    · have := (hY n).1; omega
  refine ⟨hz, ?_⟩
  rw [e, hz]; omega
theorem sub_step {x v y z P q b c : Int} (h : Hid (x - q * v = y - P * b)) (hb : b = 1) (k : Hid (y + v = z + P * c)) : Hid (x - (q - 1) * v = z - P * (b - c)) := by
  unfold Hid at *
  subst hb
  rw [Int.sub_mul, Int.mul_sub]
  omega
set_option maxHeartbeats 1000000 in
/-- word.digit -/
theorem digit_any (m bx ox cx bv ov cv : Nat) (X V : Nat → Int) (hm : m ≤ 3) (hne : bv ≠ bx) (hX : ∀ i, Limb (X i)) (hV : ∀ i, Limb (V i)) (hv : 9223372036854775808 ≤ V m) (hlt : val X (m + 2) < 18446744073709551616 * val V (m + 1)) (w : World)
    (cX : ∀ i, i ≤ m + 1 → w.cell? ⟨bx, ox + i, none⟩ = some (.int .u64 (X i))) (cV : ∀ i, i < m + 1 → w.cell? ⟨bv, ov + i, none⟩ = some (.int .u64 (V i))) (fX : ∀ i, i ≤ m + 1 → w.frozen? ⟨bx, ox + i, none⟩ = false) :
    Calls Try.prog 89 #[.slice (some ⟨bx, ox, none⟩) (m + 2) cx, .slice (some ⟨bv, ov, none⟩) (m + 1) cv] w fun e w' =>
      ∃ (Y : Nat → Int) (q : Int), e = .returned (.int .u64 q) ∧ Limb q ∧ (∀ i, Limb (Y i)) ∧ Hid (val X (m + 2) = q * val V (m + 1) + val Y (m + 1)) ∧ Hid (val Y (m + 1) < val V (m + 1)) ∧ Hid (Y (m + 1) = 0) ∧
        (∀ i, i ≤ m + 1 → w'.cell? ⟨bx, ox + i, none⟩ = some (.int .u64 (Y i))) ∧ Wr bx ox (ox + m + 2) w w' := by
  have hVp : 0 < val V (m + 1) := by
    have h1 := (val_bd hV m).1
    have h2 : 0 < 18446744073709551616 ^ m * V m := Int.mul_pos (pow64_pos m) (by omega)
    show 0 < val V m + _
    omega
  have HG : Hid _ := guess_any m bx ox cx bv ov cv X V hm hX hV hv hlt w cX cV
  have HX : Hid _ := cX
  have HV : Hid _ := cV
  have HF : Hid _ := fX
  have HLX : Hid _ := hX
  have HLV : Hid _ := hV
  have HP : Hid _ := hVp
  have hQ0 : 0 ≤ val X (m + 2) / val V (m + 1) := Int.ediv_nonneg (val_bd hX _).1 (by omega)
  clear cX cV fX hX hV hVp hlt
  generalize hVV : val V (m + 1) = VV at *
  generalize hXX : val X (m + 2) = XX at *
  have HVV : Hid _ := hVV
  have HXX : Hid _ := hXX
  clear hVV hXX
  generalize hQ : XX / VV = Q at *
  have HQ : Hid _ := hQ
  clear hQ
  go_enter Try.func89, Try.ntmps89
  go_wp2_with fail
  refine Calls.mono HG.out ?_
  rintro e w1 ⟨q, rfl, hq, hQq, n1, rfl⟩
  go_wp2_with fail
  refine (takeTimes_any (m + 1) bx ox cx bv ov cv X V q (by omega) hne hq HLX.out HLV.out (w.drewN n1) (fun i hi => HX.out i hi) (fun i hi => HV.out i hi) (fun i hi => HF.out i hi)).mono ?_
  rintro e w2 ⟨Y, b, rfl, ⟨hb0, hb1⟩, hLY, hE, hcY, hW⟩
  rw [HXX.out, HVV.out] at hE
  have hW : Wr bx ox (ox + m + 2) w w2 := ((Wr.refl _ _ _ _).drewN _).trans hW
  have hLY : Hid _ := hLY
  have hcY : Hid _ := hcY
  clear HG
  go_wp2
  go_loopw [5, 6] (fun sq sb wr => ∃ (q b : Int) (Y : Nat → Int), sq = .int .u64 q ∧ sb = .int .u64 b ∧ Limb q ∧ 0 ≤ b ∧ b ≤ 1 ∧ Q ≤ q ∧ Hid (∀ i, Limb (Y i)) ∧
      Hid (XX - q * VV = val Y (m + 2) - 18446744073709551616 ^ (m + 2) * b) ∧ Hid (∀ i, i ≤ m + 1 → wr.cell? ⟨bx, ox + i, none⟩ = some (.int .u64 (Y i))) ∧ Wr bx ox (ox + m + 2) w wr) (fun sq _ _ => (intOf sq).toNat)
  case atStart => exact ⟨q, b, Y, rfl, rfl, hq, hb0, hb1, hQq, hLY, hE, hcY, hW⟩
  case round =>
    clear hq hQq hb0 hb1 hLY hE hcY hW
    obtain ⟨q, b, Y, rfl, rfl, hq, hb0, hb1, hQq, hLY, hE, hcY, hW⟩ := hrel
    obtain ⟨hq0, hq1⟩ := hq
    by_cases hb : b = 0
    · subst hb
      go_wp2
      go_ret
      have hE' : XX - q * VV = val Y (m + 2) := by have := hE.out; rw [Int.mul_zero] at this; omega
      have h0 := (val_bd hLY.out (m + 2)).1
      have hr := quo_eq HP.out (by omega : 0 ≤ XX - q * VV) (by have := HQ.out; omega)
      have hVb := (val_bd HLV.out (m + 1)).2
      rw [HVV.out] at hVb
      obtain ⟨hz, ht⟩ := val_top (n := m + 1) hLY.out (by show val Y (m + 2) < _; omega)
      have ht : val Y (m + 2) = val Y (m + 1) := ht
      refine ⟨Y, q, rfl, ⟨hq0, hq1⟩, hLY.out, ?_, ?_, hz, hcY.out, hW⟩
      · show _ = _; omega
      · show _ < _; omega
    · have hb1' : b = 1 := by omega
      have hlt := quo_lt HP.out (by
        have := hE.out; rw [hb1', Int.mul_one] at this
        have := (val_bd hLY.out (m + 2)).2
        omega : XX - q * VV < 0)
      rw [HQ.out] at hlt
      subst hb1'
      go_wp2_with fail
      refine (putBack_any (m + 1) bx ox cx bv ov cv Y V (by omega) hne hLY.out HLV.out _ hcY.out (fun i hi => (hW.other hne).trans (HV.out i hi)) (fun i hi => (hW.frozen _).trans (HF.out i hi))).mono ?_
      rintro e w2 ⟨Z, c, rfl, ⟨hc0, hc1⟩, hLZ, hEZ, hcZ, hWZ⟩
      rw [HVV.out] at hEZ
      have hLZ : Hid _ := hLZ
      have hcZ : Hid _ := hcZ
      have hE2 := sub_step hE rfl hEZ
      clear hb hb1 hb0
      go_wp2
      exact ⟨⟨q - 1, 1 - c, Z, rfl, rfl, ⟨by omega, by omega⟩, by omega, by omega, by omega, hLZ, hE2, hcZ, hW.trans hWZ⟩, by simp [intOf]; omega⟩
end Go.Proofs.Ytmflilgppllebaa
/- Walks over package word: how many limbs there are, and a wide number that is shifted. -/
namespace Go.Proofs.Ytmflilgppllebaa
open Go.RowKit
set_option linter.unusedSimpArgs false
set_option linter.unusedVariables false

/-- How many limbs there are without the noughts at the high end. -/
def usedN (a0 a1 a2 a3 : Int) : Int := if a3 ≠ 0 then 4 else if a2 ≠ 0 then 3 else if a1 ≠ 0 then 2 else if a0 ≠ 0 then 1 else 0
set_option maxHeartbeats 4000000 in
/-- word.used -/
theorem used_any (a0 a1 a2 a3 : Int) (w : World) :
    Calls Try.prog 85 #[W4 a0 a1 a2 a3] w fun e w' => e = .returned (.int .i64 (usedN a0 a1 a2 a3)) ∧ ∃ c, w' = w.alloc (.cells c 24) := by
  unfold W4
  by_cases h3 : a3 = 0 <;> by_cases h2 : a2 = 0 <;> by_cases h1 : a1 = 0 <;> by_cases h0 : a0 = 0
  all_goals
    have g : ∀ x : Int, ¬ x = 0 → (x != 0) = true := fun x h => by simpa using h
    simp only [usedN, h0, h1, h2, h3, ne_eq, not_true_eq_false, not_false_eq_true, if_true, if_false]
    try have k0 := g a0 h0
    try have k1 := g a1 h1
    try have k2 := g a2 h2
    try have k3 := g a3 h3
    clear g
    go_enter Try.func85, Try.ntmps85
    go_wp2
    refine wp_loop_rounds 5 ?_
    iterate 5
      rw [rounds_succ]
      go_wp2
    go_ret
    exact ⟨rfl, _, rfl⟩
/-- A wide number that is shifted, as a value. -/
abbrev W9 (x0 x1 x2 x3 x4 x5 x6 x7 x8 : Int) : Value := .agg #[.int .u64 x0, .int .u64 x1, .int .u64 x2, .int .u64 x3, .int .u64 x4, .int .u64 x5, .int .u64 x6, .int .u64 x7, .int .u64 x8]
theorem up_or2 (x y r : Int) (h0 : 0 ≤ r) (h1 : r < 64) (hx : Limb x) (hy : Limb y) :
    bits .or .u64 (y / 2 ^ (64 - r).toNat) (IntKind.u64.wrap (x * 2 ^ r.toNat)) = IntKind.u64.wrap (x * 2 ^ r.toNat) + y / 2 ^ (64 - r).toNat := by
  rw [← up_or x y r h0 h1 hx hy]
  obtain ⟨a0, a1⟩ := div_limb y (64 - r).toNat hy
  obtain ⟨b0, b1⟩ := limb_wrap (x * 2 ^ r.toNat)
  obtain ⟨a, ha⟩ := Int.eq_ofNat_of_zero_le a0
  obtain ⟨b, hb⟩ := Int.eq_ofNat_of_zero_le b0
  rw [ha] at a0 a1 ⊢
  rw [hb] at b0 b1 ⊢
  rw [bits_or_u64_nat a b (by omega) (by omega), bits_or_u64_nat b a (by omega) (by omega), Nat.or_comm]
theorem or0' (x : Int) (h : Limb x) : bits .or .u64 0 x = x := by
  obtain ⟨x, rfl⟩ := Int.eq_ofNat_of_zero_le h.1
  have := bits_or_u64_nat 0 x (by decide) (by have := h.2; omega)
  simpa using this
set_option maxHeartbeats 4000000 in
theorem shifted_walk (u0 u1 u2 u3 u4 u5 u6 u7 s : Int) (hs0 : 0 ≤ s) (hs1 : s < 64) (w : World) :
    Calls Try.prog 88 #[W8 u0 u1 u2 u3 u4 u5 u6 u7, .int .u64 s] w fun e w' => e = .returned (W9 (bits .or .u64 0 (IntKind.u64.wrap (u0 * 2 ^ s.toNat))) (bits .or .u64 (u0 / 2 ^ (64 - s).toNat) (IntKind.u64.wrap (u1 * 2 ^ s.toNat))) (bits .or .u64 (u1 / 2 ^ (64 - s).toNat) (IntKind.u64.wrap (u2 * 2 ^ s.toNat))) (bits .or .u64 (u2 / 2 ^ (64 - s).toNat) (IntKind.u64.wrap (u3 * 2 ^ s.toNat))) (bits .or .u64 (u3 / 2 ^ (64 - s).toNat) (IntKind.u64.wrap (u4 * 2 ^ s.toNat))) (bits .or .u64 (u4 / 2 ^ (64 - s).toNat) (IntKind.u64.wrap (u5 * 2 ^ s.toNat))) (bits .or .u64 (u5 / 2 ^ (64 - s).toNat) (IntKind.u64.wrap (u6 * 2 ^ s.toNat))) (bits .or .u64 (u6 / 2 ^ (64 - s).toNat) (IntKind.u64.wrap (u7 * 2 ^ s.toNat))) (u7 / 2 ^ (64 - s).toNat)) ∧ Below w.heap.size w w' := by
  unfold W8
  go_enter Try.func88, Try.ntmps88
  go_wp2
  refine wp_loop_rounds 9 ?_
  iterate 8
    rw [rounds_succ]
    go_wp2
    go_region
    go_wp2
  rw [rounds_succ]
  go_wp2
  go_returns
  exact ⟨rfl, by go_grown⟩
/-- The number of nine limbs. -/
def num9 (x0 x1 x2 x3 x4 x5 x6 x7 x8 : Int) : Int := x0 + 18446744073709551616 * x1 + 340282366920938463463374607431768211456 * x2 + 6277101735386680763835789423207666416102355444464034512896 * x3 + 115792089237316195423570985008687907853269984665640564039457584007913129639936 * x4 + 2135987035920910082395021706169552114602704522356652769947041607822219725780640550022962086936576 * x5 + 39402006196394479212279040100143613805079739270465446667948293404245721771497210611414266254884915640806627990306816 * x6 + 726838724295606890549323807888004534353641360687318060281490199180639288113397923326191050713763565560762521606266177933534601628614656 * x7 + 13407807929942597099574024998205846127479365820592393377723561443721764030073546976801874298166903427690031858186486050853753882811946569946433649006084096 * x8
theorem shifted_num {u0 u1 u2 u3 u4 u5 u6 u7 s : Int} (h0 : 0 ≤ s) (h1 : s < 64) (hu : L4 u0 u1 u2 u3 ∧ L4 u4 u5 u6 u7) :
    num9 (bits .or .u64 0 (IntKind.u64.wrap (u0 * 2 ^ s.toNat))) (bits .or .u64 (u0 / 2 ^ (64 - s).toNat) (IntKind.u64.wrap (u1 * 2 ^ s.toNat))) (bits .or .u64 (u1 / 2 ^ (64 - s).toNat) (IntKind.u64.wrap (u2 * 2 ^ s.toNat))) (bits .or .u64 (u2 / 2 ^ (64 - s).toNat) (IntKind.u64.wrap (u3 * 2 ^ s.toNat))) (bits .or .u64 (u3 / 2 ^ (64 - s).toNat) (IntKind.u64.wrap (u4 * 2 ^ s.toNat))) (bits .or .u64 (u4 / 2 ^ (64 - s).toNat) (IntKind.u64.wrap (u5 * 2 ^ s.toNat))) (bits .or .u64 (u5 / 2 ^ (64 - s).toNat) (IntKind.u64.wrap (u6 * 2 ^ s.toNat))) (bits .or .u64 (u6 / 2 ^ (64 - s).toNat) (IntKind.u64.wrap (u7 * 2 ^ s.toNat))) (u7 / 2 ^ (64 - s).toNat) = (num u0 u1 u2 u3 + T256 * num u4 u5 u6 u7) * 2 ^ s.toNat := by
  rw [or0' _ (limb_wrap _), up_or2 u1 u0 s h0 h1 hu.1.2.1 hu.1.1, up_or2 u2 u1 s h0 h1 hu.1.2.2.1 hu.1.2.1, up_or2 u3 u2 s h0 h1 hu.1.2.2.2 hu.1.2.2.1, up_or2 u4 u3 s h0 h1 hu.2.1 hu.1.2.2.2, up_or2 u5 u4 s h0 h1 hu.2.2.1 hu.2.1, up_or2 u6 u5 s h0 h1 hu.2.2.2.1 hu.2.2.1, up_or2 u7 u6 s h0 h1 hu.2.2.2.2 hu.2.2.2.1]
  have e0 := up_parts u0 s h0 h1
  have e1 := up_parts u1 s h0 h1
  have e2 := up_parts u2 s h0 h1
  have e3 := up_parts u3 s h0 h1
  have e4 := up_parts u4 s h0 h1
  have e5 := up_parts u5 s h0 h1
  have e6 := up_parts u6 s h0 h1
  have e7 := up_parts u7 s h0 h1
  rw [Int.add_mul, Int.mul_assoc, num_mul, num_mul]
  generalize IntKind.u64.wrap (u0 * 2 ^ s.toNat) = m0 at *
  generalize IntKind.u64.wrap (u1 * 2 ^ s.toNat) = m1 at *
  generalize IntKind.u64.wrap (u2 * 2 ^ s.toNat) = m2 at *
  generalize IntKind.u64.wrap (u3 * 2 ^ s.toNat) = m3 at *
  generalize IntKind.u64.wrap (u4 * 2 ^ s.toNat) = m4 at *
  generalize IntKind.u64.wrap (u5 * 2 ^ s.toNat) = m5 at *
  generalize IntKind.u64.wrap (u6 * 2 ^ s.toNat) = m6 at *
  generalize IntKind.u64.wrap (u7 * 2 ^ s.toNat) = m7 at *
  generalize u0 / 2 ^ (64 - s).toNat = g0 at *
  generalize u1 / 2 ^ (64 - s).toNat = g1 at *
  generalize u2 / 2 ^ (64 - s).toNat = g2 at *
  generalize u3 / 2 ^ (64 - s).toNat = g3 at *
  generalize u4 / 2 ^ (64 - s).toNat = g4 at *
  generalize u5 / 2 ^ (64 - s).toNat = g5 at *
  generalize u6 / 2 ^ (64 - s).toNat = g6 at *
  generalize u7 / 2 ^ (64 - s).toNat = g7 at *
  rw [e0, e1, e2, e3, e4, e5, e6, e7]
  clear e0 e1 e2 e3 e4 e5 e6 e7
  unfold num9 T256
  omega
/-- word.shifted -/
theorem shifted_any (u0 u1 u2 u3 u4 u5 u6 u7 s : Int) (hu : L4 u0 u1 u2 u3 ∧ L4 u4 u5 u6 u7) (hs0 : 0 ≤ s) (hs1 : s < 64) (w : World) :
    Calls Try.prog 88 #[W8 u0 u1 u2 u3 u4 u5 u6 u7, .int .u64 s] w fun e w' => ∃ x0 x1 x2 x3 x4 x5 x6 x7 x8 : Int, e = .returned (W9 x0 x1 x2 x3 x4 x5 x6 x7 x8) ∧ (L4 x0 x1 x2 x3 ∧ L4 x4 x5 x6 x7 ∧ Limb x8) ∧ Hid (num9 x0 x1 x2 x3 x4 x5 x6 x7 x8 = (num u0 u1 u2 u3 + T256 * num u4 u5 u6 u7) * 2 ^ s.toNat) ∧ Below w.heap.size w w' := by
  refine (shifted_walk u0 u1 u2 u3 u4 u5 u6 u7 s hs0 hs1 w).mono ?_
  rintro e w' ⟨rfl, hw⟩
  exact ⟨_, _, _, _, _, _, _, _, _, rfl, ⟨⟨limb_bits _ _ _, limb_bits _ _ _, limb_bits _ _ _, limb_bits _ _ _⟩, ⟨limb_bits _ _ _, limb_bits _ _ _, limb_bits _ _ _, limb_bits _ _ _⟩, div_limb _ _ hu.2.2.2.2⟩, shifted_num hs0 hs1 hu, hw⟩
end Go.Proofs.Ytmflilgppllebaa
