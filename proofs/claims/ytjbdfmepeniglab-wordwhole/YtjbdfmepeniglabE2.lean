/- Walks over package word: powers. -/
import Derived.Test.YtjbdfmepeniglabE1
import Derived.Test.YtjbdfmepeniglabB2
namespace Go.Proofs.Ytjbdfmepeniglab
open Go.RowKit
set_option linter.unusedSimpArgs false
set_option linter.unusedVariables false
theorem u64_and1 (n : Int) : bits .and .u64 n 1 = n % 2 := by
  have h1 : (BitVec.ofInt 64 1).toNat = 2 ^ 1 - 1 := by decide
  have key : (BitVec.ofInt 64 n &&& BitVec.ofInt 64 1).toNat = (n % ((2 ^ 64 : Nat) : Int)).toNat % 2 ^ 1 := by
    rw [BitVec.toNat_and, BitVec.toNat_ofInt, h1, Nat.and_two_pow_sub_one_eq_mod]
  show IntKind.u64.wrap ((BitVec.ofInt 64 n &&& BitVec.ofInt 64 1).toNat : Nat) = n % 2
  rw [key, IntKind.wrap_u64]
  omega
theorem bit_num0 {x0 x1 x2 x3 : Int} {r : Nat} (hr : r < 64) (hx : L4 x0 x1 x2 x3) : x0 / 2 ^ r % 2 = num x0 x1 x2 x3 / 2 ^ (0 + r) % 2 := by
  have hP := pow_pos' r
  have hpk : (2 : Int) ^ (0 + r) = 1 * 2 ^ r := by rw [Int.pow_add]; rfl
  rw [hpk, ← Int.ediv_ediv_of_nonneg (by decide)]
  obtain ⟨⟨_, _⟩, ⟨_, _⟩, ⟨_, _⟩, ⟨_, _⟩⟩ := hx
  have e : num x0 x1 x2 x3 / 1 = x0 + 18446744073709551616 * (0 + 1 * x1 + 18446744073709551616 * x2 + 340282366920938463463374607431768211456 * x3) := by unfold num; omega
  rw [e]
  have hp : (2 : Int) ^ r * (2 * 2 ^ (63 - r)) = 18446744073709551616 := by
    rw [← Int.pow_succ', ← Int.pow_add, show r + (63 - r + 1) = 64 from by omega]
    decide
  rw [← hp, Int.mul_assoc, Int.add_mul_ediv_left _ _ (by omega), Int.mul_assoc, Int.add_mul_emod_self_left]
theorem bit_num1 {x0 x1 x2 x3 : Int} {r : Nat} (hr : r < 64) (hx : L4 x0 x1 x2 x3) : x1 / 2 ^ r % 2 = num x0 x1 x2 x3 / 2 ^ (64 + r) % 2 := by
  have hP := pow_pos' r
  have hpk : (2 : Int) ^ (64 + r) = 18446744073709551616 * 2 ^ r := by rw [Int.pow_add]; rfl
  rw [hpk, ← Int.ediv_ediv_of_nonneg (by decide)]
  obtain ⟨⟨_, _⟩, ⟨_, _⟩, ⟨_, _⟩, ⟨_, _⟩⟩ := hx
  have e : num x0 x1 x2 x3 / 18446744073709551616 = x1 + 18446744073709551616 * (0 + 1 * x2 + 18446744073709551616 * x3) := by unfold num; omega
  rw [e]
  have hp : (2 : Int) ^ r * (2 * 2 ^ (63 - r)) = 18446744073709551616 := by
    rw [← Int.pow_succ', ← Int.pow_add, show r + (63 - r + 1) = 64 from by omega]
    decide
  rw [← hp, Int.mul_assoc, Int.add_mul_ediv_left _ _ (by omega), Int.mul_assoc, Int.add_mul_emod_self_left]
theorem bit_num2 {x0 x1 x2 x3 : Int} {r : Nat} (hr : r < 64) (hx : L4 x0 x1 x2 x3) : x2 / 2 ^ r % 2 = num x0 x1 x2 x3 / 2 ^ (128 + r) % 2 := by
  have hP := pow_pos' r
  have hpk : (2 : Int) ^ (128 + r) = 340282366920938463463374607431768211456 * 2 ^ r := by rw [Int.pow_add]; rfl
  rw [hpk, ← Int.ediv_ediv_of_nonneg (by decide)]
  obtain ⟨⟨_, _⟩, ⟨_, _⟩, ⟨_, _⟩, ⟨_, _⟩⟩ := hx
  have e : num x0 x1 x2 x3 / 340282366920938463463374607431768211456 = x2 + 18446744073709551616 * (0 + 1 * x3) := by unfold num; omega
  rw [e]
  have hp : (2 : Int) ^ r * (2 * 2 ^ (63 - r)) = 18446744073709551616 := by
    rw [← Int.pow_succ', ← Int.pow_add, show r + (63 - r + 1) = 64 from by omega]
    decide
  rw [← hp, Int.mul_assoc, Int.add_mul_ediv_left _ _ (by omega), Int.mul_assoc, Int.add_mul_emod_self_left]
theorem bit_num3 {x0 x1 x2 x3 : Int} {r : Nat} (hr : r < 64) (hx : L4 x0 x1 x2 x3) : x3 / 2 ^ r % 2 = num x0 x1 x2 x3 / 2 ^ (192 + r) % 2 := by
  have hP := pow_pos' r
  have hpk : (2 : Int) ^ (192 + r) = 6277101735386680763835789423207666416102355444464034512896 * 2 ^ r := by rw [Int.pow_add]; rfl
  rw [hpk, ← Int.ediv_ediv_of_nonneg (by decide)]
  obtain ⟨⟨_, _⟩, ⟨_, _⟩, ⟨_, _⟩, ⟨_, _⟩⟩ := hx
  have e : num x0 x1 x2 x3 / 6277101735386680763835789423207666416102355444464034512896 = x3 + 18446744073709551616 * (0) := by unfold num; omega
  rw [e]
  have hp : (2 : Int) ^ r * (2 * 2 ^ (63 - r)) = 18446744073709551616 := by
    rw [← Int.pow_succ', ← Int.pow_add, show r + (63 - r + 1) = 64 from by omega]
    decide
  rw [← hp, Int.mul_assoc, Int.add_mul_ediv_left _ _ (by omega), Int.mul_assoc, Int.add_mul_emod_self_left]
theorem mod_step (m k : Nat) : m % 2 ^ (k + 1) = m % 2 ^ k + 2 ^ k * (m / 2 ^ k % 2) := Nat.mod_pow_succ
theorem exp_two {na A q : Int} {k : Nat} (h : A = na ^ (2 ^ k) % T256) (hq : q = A * A % T256) : q = na ^ (2 ^ (k + 1)) % T256 := by
  rw [hq, h, ← Int.mul_emod, ← Int.pow_add]; congr 2; rw [Nat.pow_succ]; omega
theorem exp_one {na A P q : Int} {k m : Nat} (hb : (m : Int) / 2 ^ k % 2 = 1) (hP : P = na ^ (m % 2 ^ k) % T256) (h : A = na ^ (2 ^ k) % T256) (hq : q = P * A % T256) : q = na ^ (m % 2 ^ (k + 1)) % T256 := by
  have e : m / 2 ^ k % 2 = 1 := by
    have : (((m / 2 ^ k % 2 : Nat)) : Int) = 1 := by rw [← hb]; simp
    omega
  rw [hq, h, hP, ← Int.mul_emod, ← Int.pow_add, mod_step, e, Nat.mul_one]
theorem exp_nil {na P : Int} {k m : Nat} (hb : (m : Int) / 2 ^ k % 2 = 0) (hP : P = na ^ (m % 2 ^ k) % T256) : P = na ^ (m % 2 ^ (k + 1)) % T256 := by
  have e : m / 2 ^ k % 2 = 0 := by
    have : (((m / 2 ^ k % 2 : Nat)) : Int) = 0 := by rw [← hb]; simp
    omega
  rw [hP, mod_step, e, Nat.mul_zero, Nat.add_zero]
/-- A block of four limbs that may be written. -/
def Blk (w : World) (b : Nat) (x0 x1 x2 x3 : Int) : Prop := b < w.heap.size ∧ w.cell? ⟨b, 0, none⟩ = some (.int .u64 x0) ∧ w.cell? ⟨b, 1, none⟩ = some (.int .u64 x1) ∧ w.cell? ⟨b, 2, none⟩ = some (.int .u64 x2) ∧ w.cell? ⟨b, 3, none⟩ = some (.int .u64 x3) ∧ ∀ k, w.frozen? ⟨b, k, none⟩ = false
theorem Blk.below {w w1 : World} {b : Nat} {x0 x1 x2 x3 : Int} (h : Blk w b x0 x1 x2 x3) (hb : Below w.heap.size w w1) : Blk w1 b x0 x1 x2 x3 := by
  obtain ⟨hz, c0, c1, c2, c3, f⟩ := h
  exact ⟨Nat.lt_of_lt_of_le hz hb.size, (hb.cell (p := ⟨b, 0, none⟩) hz).trans c0, (hb.cell (p := ⟨b, 1, none⟩) hz).trans c1, (hb.cell (p := ⟨b, 2, none⟩) hz).trans c2, (hb.cell (p := ⟨b, 3, none⟩) hz).trans c3, fun k => (hb.frozen (p := ⟨b, k, none⟩) hz).trans (f k)⟩
theorem frozen_set {w : World} {a b : Addr} {v : Value} (h : w.frozen? b = false) : (w.setCell a v).frozen? b = false := by
  simpa [go_sem] using h
theorem size_set {w : World} {a : Addr} {v : Value} : (w.setCell a v).heap.size = w.heap.size := by simp [World.setCell]
theorem Blk.put_far {w : World} {b c : Nat} {x0 x1 x2 x3 q0 q1 q2 q3 : Int} (h : Blk w b x0 x1 x2 x3) (e : c ≠ b) : Blk ((((w.setCell ⟨c, 0, none⟩ (.int .u64 q0)).setCell ⟨c, 1, none⟩ (.int .u64 q1)).setCell ⟨c, 2, none⟩ (.int .u64 q2)).setCell ⟨c, 3, none⟩ (.int .u64 q3)) b x0 x1 x2 x3 := by
  obtain ⟨hz, c0, c1, c2, c3, f⟩ := h
  refine ⟨by rw [size_set, size_set, size_set, size_set]; exact hz, ?_, ?_, ?_, ?_, fun k => frozen_set (frozen_set (frozen_set (frozen_set (f k))))⟩
  all_goals (rw [World.cell?_setCell_far _ _ _ _ (by simpa using e), World.cell?_setCell_far _ _ _ _ (by simpa using e), World.cell?_setCell_far _ _ _ _ (by simpa using e), World.cell?_setCell_far _ _ _ _ (by simpa using e)]; assumption)
theorem Blk.put_same {w : World} {c : Nat} {x0 x1 x2 x3 q0 q1 q2 q3 : Int} (h : Blk w c x0 x1 x2 x3) : Blk ((((w.setCell ⟨c, 0, none⟩ (.int .u64 q0)).setCell ⟨c, 1, none⟩ (.int .u64 q1)).setCell ⟨c, 2, none⟩ (.int .u64 q2)).setCell ⟨c, 3, none⟩ (.int .u64 q3)) c q0 q1 q2 q3 := by
  obtain ⟨hz, c0, c1, c2, c3, f⟩ := h
  refine ⟨by rw [size_set, size_set, size_set, size_set]; exact hz, ?_, ?_, ?_, ?_, fun k => frozen_set (frozen_set (frozen_set (frozen_set (f k))))⟩ <;> simp [go_sem, *]
theorem below_put4 {B c : Nat} {w0 w : World} (h : Below B w0 w) (hc : B ≤ c) (q0 q1 q2 q3 : Int) : Below B w0 ((((w.setCell ⟨c, 0, none⟩ (.int .u64 q0)).setCell ⟨c, 1, none⟩ (.int .u64 q1)).setCell ⟨c, 2, none⟩ (.int .u64 q2)).setCell ⟨c, 3, none⟩ (.int .u64 q3)) := by
  go_grown
theorem exp_start1 {a0 a1 a2 a3 na : Int} (ha : L4 a0 a1 a2 a3) (h : num a0 a1 a2 a3 = na) : num a0 a1 a2 a3 = na ^ (2 ^ 0) % T256 := by
  have := num_bd ha
  rw [← h, Nat.pow_zero, Int.pow_one, Int.emod_eq_of_lt this.1 this.2]
theorem exp_start2 (na : Int) (m : Nat) : num 1 0 0 0 = na ^ (m % 2 ^ 0) % T256 := by
  rw [Nat.pow_zero, Nat.mod_one, Int.pow_zero]; decide
set_option maxHeartbeats 8000000 in
theorem exp_any (a0 a1 a2 a3 b0 b1 b2 b3 : Int) (ha : L4 a0 a1 a2 a3) (hb : L4 b0 b1 b2 b3) (w : World) :
    Calls Try.prog 12 #[W4 a0 a1 a2 a3, W4 b0 b1 b2 b3] w fun e w' => ∃ r0 r1 r2 r3, e = .returned (W4 r0 r1 r2 r3) ∧ L4 r0 r1 r2 r3 ∧ Hid (num r0 r1 r2 r3 = (num a0 a1 a2 a3 ^ (num b0 b1 b2 b3).toNat) % T256) ∧ Below w.heap.size w w' := by
  have HA : Hid _ := ha
  have HB : Hid _ := hb
  clear ha hb
  obtain ⟨m, hm⟩ : ∃ m : Nat, (m : Int) = num b0 b1 b2 b3 := ⟨(num b0 b1 b2 b3).toNat, by have := num_bd HB.out; omega⟩
  have hm' : (num b0 b1 b2 b3).toNat = m := by omega
  have HM : Hid _ := hm
  rw [hm']
  obtain ⟨na, hna⟩ : ∃ na, num a0 a1 a2 a3 = na := ⟨_, rfl⟩
  have HNA : Hid _ := hna
  rw [hna]
  clear hm hm' hna
  unfold W4
  go_enter Try.func12, Try.ntmps12
  go_wp2_with fail
  refine (of_exact 1 _).mono ?_
  rintro e w1 ⟨rfl, c1, rfl⟩
  unfold W4
  go_wp2_with fail
  have KA_ : Hid (Blk (((((w.alloc (.cells #[.int .u64 a0, .int .u64 a1, .int .u64 a2, .int .u64 a3] 24)).alloc (.cells #[.int .u64 b0, .int .u64 b1, .int .u64 b2, .int .u64 b3] 24)).alloc (.cells #[.int .u64 0, .int .u64 0, .int .u64 0, .int .u64 0] 24)).alloc (.cells c1 24)).alloc (.cells #[.int .u64 1, .int .u64 0, .int .u64 0, .int .u64 0] 24)) (w.heap.size) a0 a1 a2 a3) := by refine ⟨by simp; omega, ?_, ?_, ?_, ?_, fun k => ?_⟩ <;> simp [go_sem, World.cell?_alloc_past, World.frozen?_alloc_past]
  have KB_ : Hid (Blk (((((w.alloc (.cells #[.int .u64 a0, .int .u64 a1, .int .u64 a2, .int .u64 a3] 24)).alloc (.cells #[.int .u64 b0, .int .u64 b1, .int .u64 b2, .int .u64 b3] 24)).alloc (.cells #[.int .u64 0, .int .u64 0, .int .u64 0, .int .u64 0] 24)).alloc (.cells c1 24)).alloc (.cells #[.int .u64 1, .int .u64 0, .int .u64 0, .int .u64 0] 24)) (w.heap.size + 1) b0 b1 b2 b3) := by refine ⟨by simp, ?_, ?_, ?_, ?_, fun k => ?_⟩ <;> simp [go_sem, World.cell?_alloc_past, World.frozen?_alloc_past]
  have KR_ : Hid (Blk (((((w.alloc (.cells #[.int .u64 a0, .int .u64 a1, .int .u64 a2, .int .u64 a3] 24)).alloc (.cells #[.int .u64 b0, .int .u64 b1, .int .u64 b2, .int .u64 b3] 24)).alloc (.cells #[.int .u64 0, .int .u64 0, .int .u64 0, .int .u64 0] 24)).alloc (.cells c1 24)).alloc (.cells #[.int .u64 1, .int .u64 0, .int .u64 0, .int .u64 0] 24)) (w.heap.size + 1 + 1) 0 0 0 0) := by refine ⟨by simp, ?_, ?_, ?_, ?_, fun k => ?_⟩ <;> simp [go_sem, World.cell?_alloc_past, World.frozen?_alloc_past]
  have KP_ : Hid (Blk (((((w.alloc (.cells #[.int .u64 a0, .int .u64 a1, .int .u64 a2, .int .u64 a3] 24)).alloc (.cells #[.int .u64 b0, .int .u64 b1, .int .u64 b2, .int .u64 b3] 24)).alloc (.cells #[.int .u64 0, .int .u64 0, .int .u64 0, .int .u64 0] 24)).alloc (.cells c1 24)).alloc (.cells #[.int .u64 1, .int .u64 0, .int .u64 0, .int .u64 0] 24)) (w.heap.size + 1 + 1 + 1 + 1) 1 0 0 0) := by refine ⟨by simp, ?_, ?_, ?_, ?_, fun k => ?_⟩ <;> simp [go_sem, World.cell?_alloc_past, World.frozen?_alloc_past]
  have hB : Below w.heap.size w (((((w.alloc (.cells #[.int .u64 a0, .int .u64 a1, .int .u64 a2, .int .u64 a3] 24)).alloc (.cells #[.int .u64 b0, .int .u64 b1, .int .u64 b2, .int .u64 b3] 24)).alloc (.cells #[.int .u64 0, .int .u64 0, .int .u64 0, .int .u64 0] 24)).alloc (.cells c1 24)).alloc (.cells #[.int .u64 1, .int .u64 0, .int .u64 0, .int .u64 0] 24)) := by go_grown
  generalize (((((w.alloc (.cells #[.int .u64 a0, .int .u64 a1, .int .u64 a2, .int .u64 a3] 24)).alloc (.cells #[.int .u64 b0, .int .u64 b1, .int .u64 b2, .int .u64 b3] 24)).alloc (.cells #[.int .u64 0, .int .u64 0, .int .u64 0, .int .u64 0] 24)).alloc (.cells c1 24)).alloc (.cells #[.int .u64 1, .int .u64 0, .int .u64 0, .int .u64 0] 24)) = w0 at *
  refine (bitLen_any b0 b1 b2 b3 HB.out _).mono ?_
  rintro e w2 ⟨n, rfl, hn, HN, hw2⟩
  have KA_ : Hid _ := Blk.below KA_.out hw2
  have KB_ : Hid _ := Blk.below KB_.out hw2
  have KR_ : Hid _ := Blk.below KR_.out hw2
  have KP_ : Hid _ := Blk.below KP_.out hw2
  have hB : Below w.heap.size w w2 := hB.trans (hw2.mono hB.size)
  clear hw2
  go_wp2_with fail
  go_loopw [10] (fun i wr => ∃ (k : Nat) (x0 x1 x2 x3 p0 p1 p2 p3 : Int), k ≤ n ∧ i = .int .i64 k ∧ Hid (L4 x0 x1 x2 x3) ∧ Hid (L4 p0 p1 p2 p3) ∧ Hid (num x0 x1 x2 x3 = na ^ (2 ^ k) % T256) ∧ Hid (num p0 p1 p2 p3 = na ^ (m % 2 ^ k) % T256) ∧ Hid (Blk wr (w.heap.size) x0 x1 x2 x3) ∧ Hid (Blk wr (w.heap.size + 1) b0 b1 b2 b3) ∧ Hid (Blk wr (w.heap.size + 1 + 1) 0 0 0 0) ∧ Hid (Blk wr (w.heap.size + 1 + 1 + 1 + 1) p0 p1 p2 p3) ∧ Below w.heap.size w wr) (fun i _ => 256 - (intOf i).toNat)
  case atStart => exact ⟨0, a0, a1, a2, a3, 1, 0, 0, 0, by omega, rfl, HA, of_L4 ⟨by decide, by decide⟩, exp_start1 HA.out HNA.out, exp_start2 na m, KA_, KB_, KR_, KP_, hB⟩
  case round =>
    clear KA_ KB_ KR_ KP_ hB
    obtain ⟨k, x0, x1, x2, x3, p0, p1, p2, p3, hk, rfl, hLA, hLP, hNA, hNP, KA_, KB_, KR_, KP_, hB⟩ := hrel
    have hsz := hB.size
    by_cases hlt : k < n
    · rcases (by omega : k < 64 ∨ (64 ≤ k ∧ k < 128) ∨ (128 ≤ k ∧ k < 192) ∨ (192 ≤ k ∧ k < 256)) with h8 | ⟨h8, h8'⟩ | ⟨h8, h8'⟩ | ⟨h8, h8'⟩
      all_goals (rcases (by omega : num b0 b1 b2 b3 / 2 ^ k % 2 = 0 ∨ num b0 b1 b2 b3 / 2 ^ k % 2 = 1) with hbit | hbit <;> rw [← HM.out] at hbit)
      · obtain ⟨r, hr, rfl⟩ : ∃ r, r < 64 ∧ k = 0 + r := ⟨k - 0, by omega, by omega⟩
        have e1 : ((0 + r : Nat) : Int) / 64 = 0 := by omega
        have e2 : ((0 + r : Nat) : Int) % 64 = r := by omega
        have hbits : bits .and .u64 (b0 / 2 ^ r) 1 = 0 := by
          rw [u64_and1, bit_num0 hr HB.out, ← HM.out]; exact hbit
        have hd := div_limb b0 r HB.out.1
        obtain ⟨hd0, hd1⟩ := hd
        have HP2 : Hid (num p0 p1 p2 p3 = na ^ (m % 2 ^ (0 + r + 1)) % T256) := exp_nil hbit hNP.out
        have HA2 : Hid (∀ q : Int, q = num x0 x1 x2 x3 * num x0 x1 x2 x3 % T256 → q = na ^ (2 ^ (0 + r + 1)) % T256) := fun q hq => exp_two hNA.out hq
        clear hbit hNA hNP
        generalize hK : ((0 + r : Nat) : Int) = K at *
        obtain ⟨zA, A0_, A1_, A2_, A3_, fA⟩ := KA_.out; obtain ⟨zB, B0_, B1_, B2_, B3_, fB⟩ := KB_.out; obtain ⟨zP, P0_, P1_, P2_, P3_, fP⟩ := KP_.out
        go_wp2_with fail
        clear A0_ A1_ A2_ A3_ fA B0_ B1_ B2_ B3_ fB P0_ P1_ P2_ P3_ fP
        have HQ : Hid _ := HP2
        have hsz4 := hB.size
        refine (mul_any x0 x1 x2 x3 x0 x1 x2 x3 hLA.out hLA.out _).mono ?_
        rintro e w5 ⟨y0, y1, y2, y3, rfl, LY, EY, hw5⟩
        have KA_ : Hid _ := Blk.below KA_.out hw5
        have KB_ : Hid _ := Blk.below KB_.out hw5
        have KR_ : Hid _ := Blk.below KR_.out hw5
        have KP_ : Hid _ := Blk.below KP_.out hw5
        have hB : Below w.heap.size w w5 := hB.trans (hw5.mono hsz4)
        have HY : Hid (num y0 y1 y2 y3 = na ^ (2 ^ (0 + r + 1)) % T256) := HA2.out _ EY.out
        clear EY hw5 HA2
        obtain ⟨zA, A0_, A1_, A2_, A3_, fA⟩ := KA_.out
        unfold W4
        go_wp2
        exact ⟨⟨0 + r + 1, y0, y1, y2, y3, p0, p1, p2, p3, by omega, by go_num, LY, hLP, HY, HQ, Blk.put_same KA_.out, Blk.put_far KB_.out (by omega), Blk.put_far KR_.out (by omega), Blk.put_far KP_.out (by omega), below_put4 hB (by omega) _ _ _ _⟩, by simp [intOf]; omega⟩
      · obtain ⟨r, hr, rfl⟩ : ∃ r, r < 64 ∧ k = 0 + r := ⟨k - 0, by omega, by omega⟩
        have e1 : ((0 + r : Nat) : Int) / 64 = 0 := by omega
        have e2 : ((0 + r : Nat) : Int) % 64 = r := by omega
        have hbits : bits .and .u64 (b0 / 2 ^ r) 1 = 1 := by
          rw [u64_and1, bit_num0 hr HB.out, ← HM.out]; exact hbit
        have hd := div_limb b0 r HB.out.1
        obtain ⟨hd0, hd1⟩ := hd
        have HP2 : Hid (∀ q : Int, q = num p0 p1 p2 p3 * num x0 x1 x2 x3 % T256 → q = na ^ (m % 2 ^ (0 + r + 1)) % T256) := fun q hq => exp_one hbit hNP.out hNA.out hq
        have HA2 : Hid (∀ q : Int, q = num x0 x1 x2 x3 * num x0 x1 x2 x3 % T256 → q = na ^ (2 ^ (0 + r + 1)) % T256) := fun q hq => exp_two hNA.out hq
        clear hbit hNA hNP
        generalize hK : ((0 + r : Nat) : Int) = K at *
        obtain ⟨zA, A0_, A1_, A2_, A3_, fA⟩ := KA_.out; obtain ⟨zB, B0_, B1_, B2_, B3_, fB⟩ := KB_.out; obtain ⟨zP, P0_, P1_, P2_, P3_, fP⟩ := KP_.out
        go_wp2_with fail
        refine (mul_any p0 p1 p2 p3 x0 x1 x2 x3 hLP.out hLA.out _).mono ?_
        rintro e w3 ⟨q0, q1, q2, q3, rfl, LQ, EQ, hw3⟩
        have KA_ : Hid _ := Blk.below KA_.out hw3
        have KB_ : Hid _ := Blk.below KB_.out hw3
        have KR_ : Hid _ := Blk.below KR_.out hw3
        have KP_ : Hid _ := Blk.below KP_.out hw3
        have hB : Below w.heap.size w w3 := hB.trans (hw3.mono (by omega))
        have HQ : Hid (num q0 q1 q2 q3 = na ^ (m % 2 ^ (0 + r + 1)) % T256) := HP2.out _ EQ.out
        have hLP : Hid _ := LQ
        clear LQ EQ hw3 HP2 A0_ A1_ A2_ A3_ fA B0_ B1_ B2_ B3_ fB P0_ P1_ P2_ P3_ fP
        obtain ⟨zA, A0_, A1_, A2_, A3_, fA⟩ := KA_.out; obtain ⟨zB, B0_, B1_, B2_, B3_, fB⟩ := KB_.out; obtain ⟨zP, P0_, P1_, P2_, P3_, fP⟩ := KP_.out
        unfold W4
        go_wp2_with fail
        have KA_ : Hid (Blk ((((w3.setCell ⟨w.heap.size + 1 + 1 + 1 + 1, 0, none⟩ (.int .u64 q0)).setCell ⟨w.heap.size + 1 + 1 + 1 + 1, 1, none⟩ (.int .u64 q1)).setCell ⟨w.heap.size + 1 + 1 + 1 + 1, 2, none⟩ (.int .u64 q2)).setCell ⟨w.heap.size + 1 + 1 + 1 + 1, 3, none⟩ (.int .u64 q3)) (w.heap.size) x0 x1 x2 x3) := Blk.put_far KA_.out (by omega)
        have KB_ : Hid (Blk ((((w3.setCell ⟨w.heap.size + 1 + 1 + 1 + 1, 0, none⟩ (.int .u64 q0)).setCell ⟨w.heap.size + 1 + 1 + 1 + 1, 1, none⟩ (.int .u64 q1)).setCell ⟨w.heap.size + 1 + 1 + 1 + 1, 2, none⟩ (.int .u64 q2)).setCell ⟨w.heap.size + 1 + 1 + 1 + 1, 3, none⟩ (.int .u64 q3)) (w.heap.size + 1) b0 b1 b2 b3) := Blk.put_far KB_.out (by omega)
        have KR_ : Hid (Blk ((((w3.setCell ⟨w.heap.size + 1 + 1 + 1 + 1, 0, none⟩ (.int .u64 q0)).setCell ⟨w.heap.size + 1 + 1 + 1 + 1, 1, none⟩ (.int .u64 q1)).setCell ⟨w.heap.size + 1 + 1 + 1 + 1, 2, none⟩ (.int .u64 q2)).setCell ⟨w.heap.size + 1 + 1 + 1 + 1, 3, none⟩ (.int .u64 q3)) (w.heap.size + 1 + 1) 0 0 0 0) := Blk.put_far KR_.out (by omega)
        have KP_ : Hid (Blk ((((w3.setCell ⟨w.heap.size + 1 + 1 + 1 + 1, 0, none⟩ (.int .u64 q0)).setCell ⟨w.heap.size + 1 + 1 + 1 + 1, 1, none⟩ (.int .u64 q1)).setCell ⟨w.heap.size + 1 + 1 + 1 + 1, 2, none⟩ (.int .u64 q2)).setCell ⟨w.heap.size + 1 + 1 + 1 + 1, 3, none⟩ (.int .u64 q3)) (w.heap.size + 1 + 1 + 1 + 1) q0 q1 q2 q3) := Blk.put_same KP_.out
        have hB : Below w.heap.size w ((((w3.setCell ⟨w.heap.size + 1 + 1 + 1 + 1, 0, none⟩ (.int .u64 q0)).setCell ⟨w.heap.size + 1 + 1 + 1 + 1, 1, none⟩ (.int .u64 q1)).setCell ⟨w.heap.size + 1 + 1 + 1 + 1, 2, none⟩ (.int .u64 q2)).setCell ⟨w.heap.size + 1 + 1 + 1 + 1, 3, none⟩ (.int .u64 q3)) := below_put4 hB (by omega) _ _ _ _
        clear A0_ A1_ A2_ A3_ fA B0_ B1_ B2_ B3_ fB P0_ P1_ P2_ P3_ fP
        generalize ((((w3.setCell ⟨w.heap.size + 1 + 1 + 1 + 1, 0, none⟩ (.int .u64 q0)).setCell ⟨w.heap.size + 1 + 1 + 1 + 1, 1, none⟩ (.int .u64 q1)).setCell ⟨w.heap.size + 1 + 1 + 1 + 1, 2, none⟩ (.int .u64 q2)).setCell ⟨w.heap.size + 1 + 1 + 1 + 1, 3, none⟩ (.int .u64 q3)) = w4 at *
        have hsz4 := hB.size
        refine (mul_any x0 x1 x2 x3 x0 x1 x2 x3 hLA.out hLA.out _).mono ?_
        rintro e w5 ⟨y0, y1, y2, y3, rfl, LY, EY, hw5⟩
        have KA_ : Hid _ := Blk.below KA_.out hw5
        have KB_ : Hid _ := Blk.below KB_.out hw5
        have KR_ : Hid _ := Blk.below KR_.out hw5
        have KP_ : Hid _ := Blk.below KP_.out hw5
        have hB : Below w.heap.size w w5 := hB.trans (hw5.mono hsz4)
        have HY : Hid (num y0 y1 y2 y3 = na ^ (2 ^ (0 + r + 1)) % T256) := HA2.out _ EY.out
        clear EY hw5 HA2
        obtain ⟨zA, A0_, A1_, A2_, A3_, fA⟩ := KA_.out
        unfold W4
        go_wp2
        exact ⟨⟨0 + r + 1, y0, y1, y2, y3, q0, q1, q2, q3, by omega, by go_num, LY, hLP, HY, HQ, Blk.put_same KA_.out, Blk.put_far KB_.out (by omega), Blk.put_far KR_.out (by omega), Blk.put_far KP_.out (by omega), below_put4 hB (by omega) _ _ _ _⟩, by simp [intOf]; omega⟩
      · obtain ⟨r, hr, rfl⟩ : ∃ r, r < 64 ∧ k = 64 + r := ⟨k - 64, by omega, by omega⟩
        have e1 : ((64 + r : Nat) : Int) / 64 = 1 := by omega
        have e2 : ((64 + r : Nat) : Int) % 64 = r := by omega
        have hbits : bits .and .u64 (b1 / 2 ^ r) 1 = 0 := by
          rw [u64_and1, bit_num1 hr HB.out, ← HM.out]; exact hbit
        have hd := div_limb b1 r HB.out.2.1
        obtain ⟨hd0, hd1⟩ := hd
        have HP2 : Hid (num p0 p1 p2 p3 = na ^ (m % 2 ^ (64 + r + 1)) % T256) := exp_nil hbit hNP.out
        have HA2 : Hid (∀ q : Int, q = num x0 x1 x2 x3 * num x0 x1 x2 x3 % T256 → q = na ^ (2 ^ (64 + r + 1)) % T256) := fun q hq => exp_two hNA.out hq
        clear hbit hNA hNP
        generalize hK : ((64 + r : Nat) : Int) = K at *
        obtain ⟨zA, A0_, A1_, A2_, A3_, fA⟩ := KA_.out; obtain ⟨zB, B0_, B1_, B2_, B3_, fB⟩ := KB_.out; obtain ⟨zP, P0_, P1_, P2_, P3_, fP⟩ := KP_.out
        go_wp2_with fail
        clear A0_ A1_ A2_ A3_ fA B0_ B1_ B2_ B3_ fB P0_ P1_ P2_ P3_ fP
        have HQ : Hid _ := HP2
        have hsz4 := hB.size
        refine (mul_any x0 x1 x2 x3 x0 x1 x2 x3 hLA.out hLA.out _).mono ?_
        rintro e w5 ⟨y0, y1, y2, y3, rfl, LY, EY, hw5⟩
        have KA_ : Hid _ := Blk.below KA_.out hw5
        have KB_ : Hid _ := Blk.below KB_.out hw5
        have KR_ : Hid _ := Blk.below KR_.out hw5
        have KP_ : Hid _ := Blk.below KP_.out hw5
        have hB : Below w.heap.size w w5 := hB.trans (hw5.mono hsz4)
        have HY : Hid (num y0 y1 y2 y3 = na ^ (2 ^ (64 + r + 1)) % T256) := HA2.out _ EY.out
        clear EY hw5 HA2
        obtain ⟨zA, A0_, A1_, A2_, A3_, fA⟩ := KA_.out
        unfold W4
        go_wp2
        exact ⟨⟨64 + r + 1, y0, y1, y2, y3, p0, p1, p2, p3, by omega, by go_num, LY, hLP, HY, HQ, Blk.put_same KA_.out, Blk.put_far KB_.out (by omega), Blk.put_far KR_.out (by omega), Blk.put_far KP_.out (by omega), below_put4 hB (by omega) _ _ _ _⟩, by simp [intOf]; omega⟩
      · obtain ⟨r, hr, rfl⟩ : ∃ r, r < 64 ∧ k = 64 + r := ⟨k - 64, by omega, by omega⟩
        have e1 : ((64 + r : Nat) : Int) / 64 = 1 := by omega
        have e2 : ((64 + r : Nat) : Int) % 64 = r := by omega
        have hbits : bits .and .u64 (b1 / 2 ^ r) 1 = 1 := by
          rw [u64_and1, bit_num1 hr HB.out, ← HM.out]; exact hbit
        have hd := div_limb b1 r HB.out.2.1
        obtain ⟨hd0, hd1⟩ := hd
        have HP2 : Hid (∀ q : Int, q = num p0 p1 p2 p3 * num x0 x1 x2 x3 % T256 → q = na ^ (m % 2 ^ (64 + r + 1)) % T256) := fun q hq => exp_one hbit hNP.out hNA.out hq
        have HA2 : Hid (∀ q : Int, q = num x0 x1 x2 x3 * num x0 x1 x2 x3 % T256 → q = na ^ (2 ^ (64 + r + 1)) % T256) := fun q hq => exp_two hNA.out hq
        clear hbit hNA hNP
        generalize hK : ((64 + r : Nat) : Int) = K at *
        obtain ⟨zA, A0_, A1_, A2_, A3_, fA⟩ := KA_.out; obtain ⟨zB, B0_, B1_, B2_, B3_, fB⟩ := KB_.out; obtain ⟨zP, P0_, P1_, P2_, P3_, fP⟩ := KP_.out
        go_wp2_with fail
        refine (mul_any p0 p1 p2 p3 x0 x1 x2 x3 hLP.out hLA.out _).mono ?_
        rintro e w3 ⟨q0, q1, q2, q3, rfl, LQ, EQ, hw3⟩
        have KA_ : Hid _ := Blk.below KA_.out hw3
        have KB_ : Hid _ := Blk.below KB_.out hw3
        have KR_ : Hid _ := Blk.below KR_.out hw3
        have KP_ : Hid _ := Blk.below KP_.out hw3
        have hB : Below w.heap.size w w3 := hB.trans (hw3.mono (by omega))
        have HQ : Hid (num q0 q1 q2 q3 = na ^ (m % 2 ^ (64 + r + 1)) % T256) := HP2.out _ EQ.out
        have hLP : Hid _ := LQ
        clear LQ EQ hw3 HP2 A0_ A1_ A2_ A3_ fA B0_ B1_ B2_ B3_ fB P0_ P1_ P2_ P3_ fP
        obtain ⟨zA, A0_, A1_, A2_, A3_, fA⟩ := KA_.out; obtain ⟨zB, B0_, B1_, B2_, B3_, fB⟩ := KB_.out; obtain ⟨zP, P0_, P1_, P2_, P3_, fP⟩ := KP_.out
        unfold W4
        go_wp2_with fail
        have KA_ : Hid (Blk ((((w3.setCell ⟨w.heap.size + 1 + 1 + 1 + 1, 0, none⟩ (.int .u64 q0)).setCell ⟨w.heap.size + 1 + 1 + 1 + 1, 1, none⟩ (.int .u64 q1)).setCell ⟨w.heap.size + 1 + 1 + 1 + 1, 2, none⟩ (.int .u64 q2)).setCell ⟨w.heap.size + 1 + 1 + 1 + 1, 3, none⟩ (.int .u64 q3)) (w.heap.size) x0 x1 x2 x3) := Blk.put_far KA_.out (by omega)
        have KB_ : Hid (Blk ((((w3.setCell ⟨w.heap.size + 1 + 1 + 1 + 1, 0, none⟩ (.int .u64 q0)).setCell ⟨w.heap.size + 1 + 1 + 1 + 1, 1, none⟩ (.int .u64 q1)).setCell ⟨w.heap.size + 1 + 1 + 1 + 1, 2, none⟩ (.int .u64 q2)).setCell ⟨w.heap.size + 1 + 1 + 1 + 1, 3, none⟩ (.int .u64 q3)) (w.heap.size + 1) b0 b1 b2 b3) := Blk.put_far KB_.out (by omega)
        have KR_ : Hid (Blk ((((w3.setCell ⟨w.heap.size + 1 + 1 + 1 + 1, 0, none⟩ (.int .u64 q0)).setCell ⟨w.heap.size + 1 + 1 + 1 + 1, 1, none⟩ (.int .u64 q1)).setCell ⟨w.heap.size + 1 + 1 + 1 + 1, 2, none⟩ (.int .u64 q2)).setCell ⟨w.heap.size + 1 + 1 + 1 + 1, 3, none⟩ (.int .u64 q3)) (w.heap.size + 1 + 1) 0 0 0 0) := Blk.put_far KR_.out (by omega)
        have KP_ : Hid (Blk ((((w3.setCell ⟨w.heap.size + 1 + 1 + 1 + 1, 0, none⟩ (.int .u64 q0)).setCell ⟨w.heap.size + 1 + 1 + 1 + 1, 1, none⟩ (.int .u64 q1)).setCell ⟨w.heap.size + 1 + 1 + 1 + 1, 2, none⟩ (.int .u64 q2)).setCell ⟨w.heap.size + 1 + 1 + 1 + 1, 3, none⟩ (.int .u64 q3)) (w.heap.size + 1 + 1 + 1 + 1) q0 q1 q2 q3) := Blk.put_same KP_.out
        have hB : Below w.heap.size w ((((w3.setCell ⟨w.heap.size + 1 + 1 + 1 + 1, 0, none⟩ (.int .u64 q0)).setCell ⟨w.heap.size + 1 + 1 + 1 + 1, 1, none⟩ (.int .u64 q1)).setCell ⟨w.heap.size + 1 + 1 + 1 + 1, 2, none⟩ (.int .u64 q2)).setCell ⟨w.heap.size + 1 + 1 + 1 + 1, 3, none⟩ (.int .u64 q3)) := below_put4 hB (by omega) _ _ _ _
        clear A0_ A1_ A2_ A3_ fA B0_ B1_ B2_ B3_ fB P0_ P1_ P2_ P3_ fP
        generalize ((((w3.setCell ⟨w.heap.size + 1 + 1 + 1 + 1, 0, none⟩ (.int .u64 q0)).setCell ⟨w.heap.size + 1 + 1 + 1 + 1, 1, none⟩ (.int .u64 q1)).setCell ⟨w.heap.size + 1 + 1 + 1 + 1, 2, none⟩ (.int .u64 q2)).setCell ⟨w.heap.size + 1 + 1 + 1 + 1, 3, none⟩ (.int .u64 q3)) = w4 at *
        have hsz4 := hB.size
        refine (mul_any x0 x1 x2 x3 x0 x1 x2 x3 hLA.out hLA.out _).mono ?_
        rintro e w5 ⟨y0, y1, y2, y3, rfl, LY, EY, hw5⟩
        have KA_ : Hid _ := Blk.below KA_.out hw5
        have KB_ : Hid _ := Blk.below KB_.out hw5
        have KR_ : Hid _ := Blk.below KR_.out hw5
        have KP_ : Hid _ := Blk.below KP_.out hw5
        have hB : Below w.heap.size w w5 := hB.trans (hw5.mono hsz4)
        have HY : Hid (num y0 y1 y2 y3 = na ^ (2 ^ (64 + r + 1)) % T256) := HA2.out _ EY.out
        clear EY hw5 HA2
        obtain ⟨zA, A0_, A1_, A2_, A3_, fA⟩ := KA_.out
        unfold W4
        go_wp2
        exact ⟨⟨64 + r + 1, y0, y1, y2, y3, q0, q1, q2, q3, by omega, by go_num, LY, hLP, HY, HQ, Blk.put_same KA_.out, Blk.put_far KB_.out (by omega), Blk.put_far KR_.out (by omega), Blk.put_far KP_.out (by omega), below_put4 hB (by omega) _ _ _ _⟩, by simp [intOf]; omega⟩
      · obtain ⟨r, hr, rfl⟩ : ∃ r, r < 64 ∧ k = 128 + r := ⟨k - 128, by omega, by omega⟩
        have e1 : ((128 + r : Nat) : Int) / 64 = 2 := by omega
        have e2 : ((128 + r : Nat) : Int) % 64 = r := by omega
        have hbits : bits .and .u64 (b2 / 2 ^ r) 1 = 0 := by
          rw [u64_and1, bit_num2 hr HB.out, ← HM.out]; exact hbit
        have hd := div_limb b2 r HB.out.2.2.1
        obtain ⟨hd0, hd1⟩ := hd
        have HP2 : Hid (num p0 p1 p2 p3 = na ^ (m % 2 ^ (128 + r + 1)) % T256) := exp_nil hbit hNP.out
        have HA2 : Hid (∀ q : Int, q = num x0 x1 x2 x3 * num x0 x1 x2 x3 % T256 → q = na ^ (2 ^ (128 + r + 1)) % T256) := fun q hq => exp_two hNA.out hq
        clear hbit hNA hNP
        generalize hK : ((128 + r : Nat) : Int) = K at *
        obtain ⟨zA, A0_, A1_, A2_, A3_, fA⟩ := KA_.out; obtain ⟨zB, B0_, B1_, B2_, B3_, fB⟩ := KB_.out; obtain ⟨zP, P0_, P1_, P2_, P3_, fP⟩ := KP_.out
        go_wp2_with fail
        clear A0_ A1_ A2_ A3_ fA B0_ B1_ B2_ B3_ fB P0_ P1_ P2_ P3_ fP
        have HQ : Hid _ := HP2
        have hsz4 := hB.size
        refine (mul_any x0 x1 x2 x3 x0 x1 x2 x3 hLA.out hLA.out _).mono ?_
        rintro e w5 ⟨y0, y1, y2, y3, rfl, LY, EY, hw5⟩
        have KA_ : Hid _ := Blk.below KA_.out hw5
        have KB_ : Hid _ := Blk.below KB_.out hw5
        have KR_ : Hid _ := Blk.below KR_.out hw5
        have KP_ : Hid _ := Blk.below KP_.out hw5
        have hB : Below w.heap.size w w5 := hB.trans (hw5.mono hsz4)
        have HY : Hid (num y0 y1 y2 y3 = na ^ (2 ^ (128 + r + 1)) % T256) := HA2.out _ EY.out
        clear EY hw5 HA2
        obtain ⟨zA, A0_, A1_, A2_, A3_, fA⟩ := KA_.out
        unfold W4
        go_wp2
        exact ⟨⟨128 + r + 1, y0, y1, y2, y3, p0, p1, p2, p3, by omega, by go_num, LY, hLP, HY, HQ, Blk.put_same KA_.out, Blk.put_far KB_.out (by omega), Blk.put_far KR_.out (by omega), Blk.put_far KP_.out (by omega), below_put4 hB (by omega) _ _ _ _⟩, by simp [intOf]; omega⟩
      · obtain ⟨r, hr, rfl⟩ : ∃ r, r < 64 ∧ k = 128 + r := ⟨k - 128, by omega, by omega⟩
        have e1 : ((128 + r : Nat) : Int) / 64 = 2 := by omega
        have e2 : ((128 + r : Nat) : Int) % 64 = r := by omega
        have hbits : bits .and .u64 (b2 / 2 ^ r) 1 = 1 := by
          rw [u64_and1, bit_num2 hr HB.out, ← HM.out]; exact hbit
        have hd := div_limb b2 r HB.out.2.2.1
        obtain ⟨hd0, hd1⟩ := hd
        have HP2 : Hid (∀ q : Int, q = num p0 p1 p2 p3 * num x0 x1 x2 x3 % T256 → q = na ^ (m % 2 ^ (128 + r + 1)) % T256) := fun q hq => exp_one hbit hNP.out hNA.out hq
        have HA2 : Hid (∀ q : Int, q = num x0 x1 x2 x3 * num x0 x1 x2 x3 % T256 → q = na ^ (2 ^ (128 + r + 1)) % T256) := fun q hq => exp_two hNA.out hq
        clear hbit hNA hNP
        generalize hK : ((128 + r : Nat) : Int) = K at *
        obtain ⟨zA, A0_, A1_, A2_, A3_, fA⟩ := KA_.out; obtain ⟨zB, B0_, B1_, B2_, B3_, fB⟩ := KB_.out; obtain ⟨zP, P0_, P1_, P2_, P3_, fP⟩ := KP_.out
        go_wp2_with fail
        refine (mul_any p0 p1 p2 p3 x0 x1 x2 x3 hLP.out hLA.out _).mono ?_
        rintro e w3 ⟨q0, q1, q2, q3, rfl, LQ, EQ, hw3⟩
        have KA_ : Hid _ := Blk.below KA_.out hw3
        have KB_ : Hid _ := Blk.below KB_.out hw3
        have KR_ : Hid _ := Blk.below KR_.out hw3
        have KP_ : Hid _ := Blk.below KP_.out hw3
        have hB : Below w.heap.size w w3 := hB.trans (hw3.mono (by omega))
        have HQ : Hid (num q0 q1 q2 q3 = na ^ (m % 2 ^ (128 + r + 1)) % T256) := HP2.out _ EQ.out
        have hLP : Hid _ := LQ
        clear LQ EQ hw3 HP2 A0_ A1_ A2_ A3_ fA B0_ B1_ B2_ B3_ fB P0_ P1_ P2_ P3_ fP
        obtain ⟨zA, A0_, A1_, A2_, A3_, fA⟩ := KA_.out; obtain ⟨zB, B0_, B1_, B2_, B3_, fB⟩ := KB_.out; obtain ⟨zP, P0_, P1_, P2_, P3_, fP⟩ := KP_.out
        unfold W4
        go_wp2_with fail
        have KA_ : Hid (Blk ((((w3.setCell ⟨w.heap.size + 1 + 1 + 1 + 1, 0, none⟩ (.int .u64 q0)).setCell ⟨w.heap.size + 1 + 1 + 1 + 1, 1, none⟩ (.int .u64 q1)).setCell ⟨w.heap.size + 1 + 1 + 1 + 1, 2, none⟩ (.int .u64 q2)).setCell ⟨w.heap.size + 1 + 1 + 1 + 1, 3, none⟩ (.int .u64 q3)) (w.heap.size) x0 x1 x2 x3) := Blk.put_far KA_.out (by omega)
        have KB_ : Hid (Blk ((((w3.setCell ⟨w.heap.size + 1 + 1 + 1 + 1, 0, none⟩ (.int .u64 q0)).setCell ⟨w.heap.size + 1 + 1 + 1 + 1, 1, none⟩ (.int .u64 q1)).setCell ⟨w.heap.size + 1 + 1 + 1 + 1, 2, none⟩ (.int .u64 q2)).setCell ⟨w.heap.size + 1 + 1 + 1 + 1, 3, none⟩ (.int .u64 q3)) (w.heap.size + 1) b0 b1 b2 b3) := Blk.put_far KB_.out (by omega)
        have KR_ : Hid (Blk ((((w3.setCell ⟨w.heap.size + 1 + 1 + 1 + 1, 0, none⟩ (.int .u64 q0)).setCell ⟨w.heap.size + 1 + 1 + 1 + 1, 1, none⟩ (.int .u64 q1)).setCell ⟨w.heap.size + 1 + 1 + 1 + 1, 2, none⟩ (.int .u64 q2)).setCell ⟨w.heap.size + 1 + 1 + 1 + 1, 3, none⟩ (.int .u64 q3)) (w.heap.size + 1 + 1) 0 0 0 0) := Blk.put_far KR_.out (by omega)
        have KP_ : Hid (Blk ((((w3.setCell ⟨w.heap.size + 1 + 1 + 1 + 1, 0, none⟩ (.int .u64 q0)).setCell ⟨w.heap.size + 1 + 1 + 1 + 1, 1, none⟩ (.int .u64 q1)).setCell ⟨w.heap.size + 1 + 1 + 1 + 1, 2, none⟩ (.int .u64 q2)).setCell ⟨w.heap.size + 1 + 1 + 1 + 1, 3, none⟩ (.int .u64 q3)) (w.heap.size + 1 + 1 + 1 + 1) q0 q1 q2 q3) := Blk.put_same KP_.out
        have hB : Below w.heap.size w ((((w3.setCell ⟨w.heap.size + 1 + 1 + 1 + 1, 0, none⟩ (.int .u64 q0)).setCell ⟨w.heap.size + 1 + 1 + 1 + 1, 1, none⟩ (.int .u64 q1)).setCell ⟨w.heap.size + 1 + 1 + 1 + 1, 2, none⟩ (.int .u64 q2)).setCell ⟨w.heap.size + 1 + 1 + 1 + 1, 3, none⟩ (.int .u64 q3)) := below_put4 hB (by omega) _ _ _ _
        clear A0_ A1_ A2_ A3_ fA B0_ B1_ B2_ B3_ fB P0_ P1_ P2_ P3_ fP
        generalize ((((w3.setCell ⟨w.heap.size + 1 + 1 + 1 + 1, 0, none⟩ (.int .u64 q0)).setCell ⟨w.heap.size + 1 + 1 + 1 + 1, 1, none⟩ (.int .u64 q1)).setCell ⟨w.heap.size + 1 + 1 + 1 + 1, 2, none⟩ (.int .u64 q2)).setCell ⟨w.heap.size + 1 + 1 + 1 + 1, 3, none⟩ (.int .u64 q3)) = w4 at *
        have hsz4 := hB.size
        refine (mul_any x0 x1 x2 x3 x0 x1 x2 x3 hLA.out hLA.out _).mono ?_
        rintro e w5 ⟨y0, y1, y2, y3, rfl, LY, EY, hw5⟩
        have KA_ : Hid _ := Blk.below KA_.out hw5
        have KB_ : Hid _ := Blk.below KB_.out hw5
        have KR_ : Hid _ := Blk.below KR_.out hw5
        have KP_ : Hid _ := Blk.below KP_.out hw5
        have hB : Below w.heap.size w w5 := hB.trans (hw5.mono hsz4)
        have HY : Hid (num y0 y1 y2 y3 = na ^ (2 ^ (128 + r + 1)) % T256) := HA2.out _ EY.out
        clear EY hw5 HA2
        obtain ⟨zA, A0_, A1_, A2_, A3_, fA⟩ := KA_.out
        unfold W4
        go_wp2
        exact ⟨⟨128 + r + 1, y0, y1, y2, y3, q0, q1, q2, q3, by omega, by go_num, LY, hLP, HY, HQ, Blk.put_same KA_.out, Blk.put_far KB_.out (by omega), Blk.put_far KR_.out (by omega), Blk.put_far KP_.out (by omega), below_put4 hB (by omega) _ _ _ _⟩, by simp [intOf]; omega⟩
      · obtain ⟨r, hr, rfl⟩ : ∃ r, r < 64 ∧ k = 192 + r := ⟨k - 192, by omega, by omega⟩
        have e1 : ((192 + r : Nat) : Int) / 64 = 3 := by omega
        have e2 : ((192 + r : Nat) : Int) % 64 = r := by omega
        have hbits : bits .and .u64 (b3 / 2 ^ r) 1 = 0 := by
          rw [u64_and1, bit_num3 hr HB.out, ← HM.out]; exact hbit
        have hd := div_limb b3 r HB.out.2.2.2
        obtain ⟨hd0, hd1⟩ := hd
        have HP2 : Hid (num p0 p1 p2 p3 = na ^ (m % 2 ^ (192 + r + 1)) % T256) := exp_nil hbit hNP.out
        have HA2 : Hid (∀ q : Int, q = num x0 x1 x2 x3 * num x0 x1 x2 x3 % T256 → q = na ^ (2 ^ (192 + r + 1)) % T256) := fun q hq => exp_two hNA.out hq
        clear hbit hNA hNP
        generalize hK : ((192 + r : Nat) : Int) = K at *
        obtain ⟨zA, A0_, A1_, A2_, A3_, fA⟩ := KA_.out; obtain ⟨zB, B0_, B1_, B2_, B3_, fB⟩ := KB_.out; obtain ⟨zP, P0_, P1_, P2_, P3_, fP⟩ := KP_.out
        go_wp2_with fail
        clear A0_ A1_ A2_ A3_ fA B0_ B1_ B2_ B3_ fB P0_ P1_ P2_ P3_ fP
        have HQ : Hid _ := HP2
        have hsz4 := hB.size
        refine (mul_any x0 x1 x2 x3 x0 x1 x2 x3 hLA.out hLA.out _).mono ?_
        rintro e w5 ⟨y0, y1, y2, y3, rfl, LY, EY, hw5⟩
        have KA_ : Hid _ := Blk.below KA_.out hw5
        have KB_ : Hid _ := Blk.below KB_.out hw5
        have KR_ : Hid _ := Blk.below KR_.out hw5
        have KP_ : Hid _ := Blk.below KP_.out hw5
        have hB : Below w.heap.size w w5 := hB.trans (hw5.mono hsz4)
        have HY : Hid (num y0 y1 y2 y3 = na ^ (2 ^ (192 + r + 1)) % T256) := HA2.out _ EY.out
        clear EY hw5 HA2
        obtain ⟨zA, A0_, A1_, A2_, A3_, fA⟩ := KA_.out
        unfold W4
        go_wp2
        exact ⟨⟨192 + r + 1, y0, y1, y2, y3, p0, p1, p2, p3, by omega, by go_num, LY, hLP, HY, HQ, Blk.put_same KA_.out, Blk.put_far KB_.out (by omega), Blk.put_far KR_.out (by omega), Blk.put_far KP_.out (by omega), below_put4 hB (by omega) _ _ _ _⟩, by simp [intOf]; omega⟩
      · obtain ⟨r, hr, rfl⟩ : ∃ r, r < 64 ∧ k = 192 + r := ⟨k - 192, by omega, by omega⟩
        have e1 : ((192 + r : Nat) : Int) / 64 = 3 := by omega
        have e2 : ((192 + r : Nat) : Int) % 64 = r := by omega
        have hbits : bits .and .u64 (b3 / 2 ^ r) 1 = 1 := by
          rw [u64_and1, bit_num3 hr HB.out, ← HM.out]; exact hbit
        have hd := div_limb b3 r HB.out.2.2.2
        obtain ⟨hd0, hd1⟩ := hd
        have HP2 : Hid (∀ q : Int, q = num p0 p1 p2 p3 * num x0 x1 x2 x3 % T256 → q = na ^ (m % 2 ^ (192 + r + 1)) % T256) := fun q hq => exp_one hbit hNP.out hNA.out hq
        have HA2 : Hid (∀ q : Int, q = num x0 x1 x2 x3 * num x0 x1 x2 x3 % T256 → q = na ^ (2 ^ (192 + r + 1)) % T256) := fun q hq => exp_two hNA.out hq
        clear hbit hNA hNP
        generalize hK : ((192 + r : Nat) : Int) = K at *
        obtain ⟨zA, A0_, A1_, A2_, A3_, fA⟩ := KA_.out; obtain ⟨zB, B0_, B1_, B2_, B3_, fB⟩ := KB_.out; obtain ⟨zP, P0_, P1_, P2_, P3_, fP⟩ := KP_.out
        go_wp2_with fail
        refine (mul_any p0 p1 p2 p3 x0 x1 x2 x3 hLP.out hLA.out _).mono ?_
        rintro e w3 ⟨q0, q1, q2, q3, rfl, LQ, EQ, hw3⟩
        have KA_ : Hid _ := Blk.below KA_.out hw3
        have KB_ : Hid _ := Blk.below KB_.out hw3
        have KR_ : Hid _ := Blk.below KR_.out hw3
        have KP_ : Hid _ := Blk.below KP_.out hw3
        have hB : Below w.heap.size w w3 := hB.trans (hw3.mono (by omega))
        have HQ : Hid (num q0 q1 q2 q3 = na ^ (m % 2 ^ (192 + r + 1)) % T256) := HP2.out _ EQ.out
        have hLP : Hid _ := LQ
        clear LQ EQ hw3 HP2 A0_ A1_ A2_ A3_ fA B0_ B1_ B2_ B3_ fB P0_ P1_ P2_ P3_ fP
        obtain ⟨zA, A0_, A1_, A2_, A3_, fA⟩ := KA_.out; obtain ⟨zB, B0_, B1_, B2_, B3_, fB⟩ := KB_.out; obtain ⟨zP, P0_, P1_, P2_, P3_, fP⟩ := KP_.out
        unfold W4
        go_wp2_with fail
        have KA_ : Hid (Blk ((((w3.setCell ⟨w.heap.size + 1 + 1 + 1 + 1, 0, none⟩ (.int .u64 q0)).setCell ⟨w.heap.size + 1 + 1 + 1 + 1, 1, none⟩ (.int .u64 q1)).setCell ⟨w.heap.size + 1 + 1 + 1 + 1, 2, none⟩ (.int .u64 q2)).setCell ⟨w.heap.size + 1 + 1 + 1 + 1, 3, none⟩ (.int .u64 q3)) (w.heap.size) x0 x1 x2 x3) := Blk.put_far KA_.out (by omega)
        have KB_ : Hid (Blk ((((w3.setCell ⟨w.heap.size + 1 + 1 + 1 + 1, 0, none⟩ (.int .u64 q0)).setCell ⟨w.heap.size + 1 + 1 + 1 + 1, 1, none⟩ (.int .u64 q1)).setCell ⟨w.heap.size + 1 + 1 + 1 + 1, 2, none⟩ (.int .u64 q2)).setCell ⟨w.heap.size + 1 + 1 + 1 + 1, 3, none⟩ (.int .u64 q3)) (w.heap.size + 1) b0 b1 b2 b3) := Blk.put_far KB_.out (by omega)
        have KR_ : Hid (Blk ((((w3.setCell ⟨w.heap.size + 1 + 1 + 1 + 1, 0, none⟩ (.int .u64 q0)).setCell ⟨w.heap.size + 1 + 1 + 1 + 1, 1, none⟩ (.int .u64 q1)).setCell ⟨w.heap.size + 1 + 1 + 1 + 1, 2, none⟩ (.int .u64 q2)).setCell ⟨w.heap.size + 1 + 1 + 1 + 1, 3, none⟩ (.int .u64 q3)) (w.heap.size + 1 + 1) 0 0 0 0) := Blk.put_far KR_.out (by omega)
        have KP_ : Hid (Blk ((((w3.setCell ⟨w.heap.size + 1 + 1 + 1 + 1, 0, none⟩ (.int .u64 q0)).setCell ⟨w.heap.size + 1 + 1 + 1 + 1, 1, none⟩ (.int .u64 q1)).setCell ⟨w.heap.size + 1 + 1 + 1 + 1, 2, none⟩ (.int .u64 q2)).setCell ⟨w.heap.size + 1 + 1 + 1 + 1, 3, none⟩ (.int .u64 q3)) (w.heap.size + 1 + 1 + 1 + 1) q0 q1 q2 q3) := Blk.put_same KP_.out
        have hB : Below w.heap.size w ((((w3.setCell ⟨w.heap.size + 1 + 1 + 1 + 1, 0, none⟩ (.int .u64 q0)).setCell ⟨w.heap.size + 1 + 1 + 1 + 1, 1, none⟩ (.int .u64 q1)).setCell ⟨w.heap.size + 1 + 1 + 1 + 1, 2, none⟩ (.int .u64 q2)).setCell ⟨w.heap.size + 1 + 1 + 1 + 1, 3, none⟩ (.int .u64 q3)) := below_put4 hB (by omega) _ _ _ _
        clear A0_ A1_ A2_ A3_ fA B0_ B1_ B2_ B3_ fB P0_ P1_ P2_ P3_ fP
        generalize ((((w3.setCell ⟨w.heap.size + 1 + 1 + 1 + 1, 0, none⟩ (.int .u64 q0)).setCell ⟨w.heap.size + 1 + 1 + 1 + 1, 1, none⟩ (.int .u64 q1)).setCell ⟨w.heap.size + 1 + 1 + 1 + 1, 2, none⟩ (.int .u64 q2)).setCell ⟨w.heap.size + 1 + 1 + 1 + 1, 3, none⟩ (.int .u64 q3)) = w4 at *
        have hsz4 := hB.size
        refine (mul_any x0 x1 x2 x3 x0 x1 x2 x3 hLA.out hLA.out _).mono ?_
        rintro e w5 ⟨y0, y1, y2, y3, rfl, LY, EY, hw5⟩
        have KA_ : Hid _ := Blk.below KA_.out hw5
        have KB_ : Hid _ := Blk.below KB_.out hw5
        have KR_ : Hid _ := Blk.below KR_.out hw5
        have KP_ : Hid _ := Blk.below KP_.out hw5
        have hB : Below w.heap.size w w5 := hB.trans (hw5.mono hsz4)
        have HY : Hid (num y0 y1 y2 y3 = na ^ (2 ^ (192 + r + 1)) % T256) := HA2.out _ EY.out
        clear EY hw5 HA2
        obtain ⟨zA, A0_, A1_, A2_, A3_, fA⟩ := KA_.out
        unfold W4
        go_wp2
        exact ⟨⟨192 + r + 1, y0, y1, y2, y3, q0, q1, q2, q3, by omega, by go_num, LY, hLP, HY, HQ, Blk.put_same KA_.out, Blk.put_far KB_.out (by omega), Blk.put_far KR_.out (by omega), Blk.put_far KP_.out (by omega), below_put4 hB (by omega) _ _ _ _⟩, by simp [intOf]; omega⟩
    · have hkn : k = n := by omega
      subst hkn
      have HE : Hid (num p0 p1 p2 p3 = na ^ m % T256) := by
        show _ = _
        have h1 := HN.out.1
        rw [← HM.out] at h1
        have h2 : m < 2 ^ k := by
          have e : (2 : Int) ^ k = ((2 ^ k : Nat) : Int) := by simp
          rw [e] at h1; omega
        rw [hNP.out, Nat.mod_eq_of_lt h2]
      obtain ⟨zP, P0_, P1_, P2_, P3_, fP⟩ := KP_.out
      obtain ⟨zR, R0_, R1_, R2_, R3_, fR⟩ := KR_.out
      clear hNA hNP HN KA_ KB_
      go_wp2
      refine bodyPost_ret (v := W4 p0 p1 p2 p3) (by simp [results, Try.results12, go_sem, R0_, R1_, R2_, R3_, zR]) rfl ?_
      exact ⟨p0, p1, p2, p3, rfl, hLP.out, HE, by go_grown⟩
end Go.Proofs.Ytjbdfmepeniglab
