/- Walks over package word: signed shifts, bytes, signs drawn out. -/
import Derived.Test.YtjbdfmepeniglabB2
namespace Go.Proofs.Ytjbdfmepeniglab
open Go.RowKit
set_option linter.unusedSimpArgs false
set_option linter.unusedVariables false

/-- As shrN, but copies of the highest bit come in. -/
def sarN (n x : Int) : Int := if neg x = true then T256 - 1 - shrN n (T256 - 1 - x) else shrN n x
set_option maxHeartbeats 2000000 in
theorem sar_plus (n0 n1 n2 n3 x0 x1 x2 x3 : Int) (hn : L4 n0 n1 n2 n3) (hx : L4 x0 x1 x2 x3) (hneg : neg (num x0 x1 x2 x3) = false) (w : World) :
    Calls Try.prog 36 #[W4 n0 n1 n2 n3, W4 x0 x1 x2 x3] w fun e w' => ∃ s0 s1 s2 s3 : Int, e = .returned (W4 s0 s1 s2 s3) ∧ L4 s0 s1 s2 s3 ∧ Hid (num s0 s1 s2 s3 = shrN (num n0 n1 n2 n3) (num x0 x1 x2 x3)) ∧ Below w.heap.size w w' := by
  have HN : Hid _ := hn
  have HX : Hid _ := hx
  clear hn hx
  unfold W4
  go_enter Try.func36, Try.ntmps36
  go_wp2_with fail
  refine (negative_any x0 x1 x2 x3 HX.out _).mono ?_
  rintro e w1 ⟨rfl, hw⟩
  rw [hneg]
  obtain ⟨hc1, hf1, hl1⟩ := belt hw
  go_wp2_with fail
  refine (shr_any n0 n1 n2 n3 x0 x1 x2 x3 HN.out HX.out _).mono ?_
  rintro e w2 ⟨s0, s1, s2, s3, rfl, L, E, hw2⟩
  have hw := belowMore hw hw2
  clear hw2 hc1 hf1 hl1
  obtain ⟨hc, hf⟩ := bcell hw
  have hz : w.heap.size + 1 + 1 < w2.heap.size := by have := hw.size; simp at this; omega
  unfold W4
  go_wp2
  refine bodyPost_ret (v := W4 s0 s1 s2 s3) (by simp [results, Try.results36, go_sem, hc, hz]) rfl ?_
  have hB : Below w.heap.size w w2 := Below.trans (by go_grown) (hw.mono (by simp; omega))
  clear hw hc hf
  exact ⟨s0, s1, s2, s3, rfl, L, E, by go_grown⟩
set_option maxHeartbeats 4000000 in
theorem sar_minus (n0 n1 n2 n3 x0 x1 x2 x3 : Int) (hn : L4 n0 n1 n2 n3) (hx : L4 x0 x1 x2 x3) (hneg : neg (num x0 x1 x2 x3) = true) (w : World) :
    Calls Try.prog 36 #[W4 n0 n1 n2 n3, W4 x0 x1 x2 x3] w fun e w' => ∃ s0 s1 s2 s3 : Int, e = .returned (W4 s0 s1 s2 s3) ∧ L4 s0 s1 s2 s3 ∧ Hid (num s0 s1 s2 s3 = T256 - 1 - shrN (num n0 n1 n2 n3) (T256 - 1 - num x0 x1 x2 x3)) ∧ Below w.heap.size w w' := by
  have HN : Hid _ := hn
  have HX : Hid _ := hx
  clear hn hx
  unfold W4
  go_enter Try.func36, Try.ntmps36
  go_wp2_with fail
  refine (negative_any x0 x1 x2 x3 HX.out _).mono ?_
  rintro e w1 ⟨rfl, hw⟩
  rw [hneg]
  obtain ⟨hc1, hf1, hl1⟩ := belt hw
  have hz1 : w.heap.size + 1 + 1 < w1.heap.size := hl1 _ (by simp)
  have r : ∀ k, k < 4 → w1.cell? ⟨w.heap.size + 1 + 1, k, none⟩ = some (.int .u64 0) := fun k hk => by
    rw [hc1 _ _ (by simp)]
    rcases (by omega : k = 0 ∨ k = 1 ∨ k = 2 ∨ k = 3) with rfl | rfl | rfl | rfl <;> simp [go_sem]
  have fz : ∀ k, w1.frozen? ⟨w.heap.size + 1 + 1, k, none⟩ = false := fun k => by
    rw [hf1 _ _ (by simp)]; simp [go_sem]
  have hB : Below w.heap.size w w1 := Below.trans (by go_grown) (hw.mono (by simp; omega))
  have s : Hid (w.heap.size + 1 + 1 < w1.heap.size ∧ w1.cell? ⟨w.heap.size, 0, none⟩ = some (.int .u64 n0) ∧ w1.cell? ⟨w.heap.size, 1, none⟩ = some (.int .u64 n1) ∧ w1.cell? ⟨w.heap.size, 2, none⟩ = some (.int .u64 n2) ∧ w1.cell? ⟨w.heap.size, 3, none⟩ = some (.int .u64 n3) ∧ w1.cell? ⟨w.heap.size + 1, 0, none⟩ = some (.int .u64 x0) ∧ w1.cell? ⟨w.heap.size + 1, 1, none⟩ = some (.int .u64 x1) ∧ w1.cell? ⟨w.heap.size + 1, 2, none⟩ = some (.int .u64 x2) ∧ w1.cell? ⟨w.heap.size + 1, 3, none⟩ = some (.int .u64 x3)) := by
    refine ⟨hz1, ?_, ?_, ?_, ?_, ?_, ?_, ?_, ?_⟩ <;> (rw [hc1 _ _ (by simp <;> omega)]; simp [go_sem, World.cell?_alloc_past])
  clear hc1 hf1 hl1
  go_wp2_with fail
  go_region_held3 (fun w' => w.heap.size + 1 + 1 < w'.heap.size ∧ w'.cell? ⟨w.heap.size, 0, none⟩ = some (.int .u64 n0) ∧ w'.cell? ⟨w.heap.size, 1, none⟩ = some (.int .u64 n1) ∧ w'.cell? ⟨w.heap.size, 2, none⟩ = some (.int .u64 n2) ∧ w'.cell? ⟨w.heap.size, 3, none⟩ = some (.int .u64 n3) ∧ w'.cell? ⟨w.heap.size + 1, 0, none⟩ = some (.int .u64 x0) ∧ w'.cell? ⟨w.heap.size + 1, 1, none⟩ = some (.int .u64 x1) ∧ w'.cell? ⟨w.heap.size + 1, 2, none⟩ = some (.int .u64 x2) ∧ w'.cell? ⟨w.heap.size + 1, 3, none⟩ = some (.int .u64 x3)) ((refine keep2 s.out ?_; go_grown; done))
    (first
      | (go_at_call 32; go_must (refine (not_any _ _ _ _ _).mono ?_; rintro e w2 ⟨rfl, hw2⟩; have r := stepR hw2 s.out.1 r; have fz := stepF hw2 s.out.1 fz; have hB : Below w.heap.size w w2 := Below.trans (by go_grown) (hw2.mono (by have := s.out.1; go_size)); have s : Hid _ := keep2s s.out (by go_grown) hw2; have hz1 := s.out.1))
      | (go_at_call 16; refine (shr_any n0 n1 n2 n3 _ _ _ _ HN.out (not_L4 HX.out) _).mono ?_; rintro e w3 ⟨s0, s1, s2, s3, rfl, L, E, hw3⟩; have r := stepR hw3 s.out.1 r; have fz := stepF hw3 s.out.1 fz; have hB : Below w.heap.size w w3 := Below.trans (by go_grown) (hw3.mono (by have := s.out.1; go_size)); have s : Hid _ := keep2s s.out (by go_grown) hw3; have hz1 := s.out.1))
  go_wp2
  refine bodyPost_ret (v := W4 (bits .xor .u64 IntKind.u64.max s0) (bits .xor .u64 IntKind.u64.max s1) (bits .xor .u64 IntKind.u64.max s2) (bits .xor .u64 IntKind.u64.max s3)) (by simp [results, Try.results36, go_sem, r, hz1]) rfl ?_
  have hEE : num (bits .xor .u64 IntKind.u64.max s0) (bits .xor .u64 IntKind.u64.max s1) (bits .xor .u64 IntKind.u64.max s2) (bits .xor .u64 IntKind.u64.max s3) = T256 - 1 - shrN (num n0 n1 n2 n3) (T256 - 1 - num x0 x1 x2 x3) := by
    rw [not_num L, E.out, not_num HX.out]
  have hs0 : w.heap.size ≤ w2.heap.size := hB.size
  exact ⟨_, _, _, _, rfl, not_L4 L, hEE, by go_grown⟩
/-- word.Sar -/
theorem sar_any (n0 n1 n2 n3 x0 x1 x2 x3 : Int) (hn : L4 n0 n1 n2 n3) (hx : L4 x0 x1 x2 x3) (w : World) :
    Calls Try.prog 36 #[W4 n0 n1 n2 n3, W4 x0 x1 x2 x3] w fun e w' => ∃ s0 s1 s2 s3 : Int, e = .returned (W4 s0 s1 s2 s3) ∧ L4 s0 s1 s2 s3 ∧ Hid (num s0 s1 s2 s3 = sarN (num n0 n1 n2 n3) (num x0 x1 x2 x3)) ∧ Below w.heap.size w w' := by
  unfold sarN
  by_cases h : neg (num x0 x1 x2 x3) = true
  · rw [if_pos h]; exact sar_minus n0 n1 n2 n3 x0 x1 x2 x3 hn hx h w
  · rw [if_neg h]; exact sar_plus n0 n1 n2 n3 x0 x1 x2 x3 hn hx (by simpa using h) w
/-- The byte number i of x, from the lowest on. -/
def lowN (x i : Int) : Int := x / 2 ^ (8 * i).toNat % 256
set_option maxHeartbeats 1000000 in
theorem lowByte_walk0 (x0 x1 x2 x3 i r : Int) (h0 : 0 ≤ i) (h1 : i < 8) (hm : i % 8 = r) (hx : L4 x0 x1 x2 x3) (w : World) :
    Calls Try.prog 29 #[W4 x0 x1 x2 x3, .int .i64 i] w fun e w' => e = .returned (.int .u8 (x0 / 2 ^ (8 * r).toNat % 256)) ∧ ∃ c, w' = w.alloc (.cells c 24) := by
  have hq : i / 8 = 0 := by omega
  have hr0 : 0 ≤ r := by omega
  have hr1 : r < 8 := by omega
  have hd := div_limb x0 (8 * r).toNat hx.1
  obtain ⟨hd0, hd1⟩ := hd
  clear hx
  unfold W4
  go_enter Try.func29, Try.ntmps29
  go_wp2
  go_ret
  exact ⟨rfl, _, rfl⟩
set_option maxHeartbeats 1000000 in
theorem lowByte_walk1 (x0 x1 x2 x3 i r : Int) (h0 : 8 ≤ i) (h1 : i < 16) (hm : i % 8 = r) (hx : L4 x0 x1 x2 x3) (w : World) :
    Calls Try.prog 29 #[W4 x0 x1 x2 x3, .int .i64 i] w fun e w' => e = .returned (.int .u8 (x1 / 2 ^ (8 * r).toNat % 256)) ∧ ∃ c, w' = w.alloc (.cells c 24) := by
  have hq : i / 8 = 1 := by omega
  have hr0 : 0 ≤ r := by omega
  have hr1 : r < 8 := by omega
  have hd := div_limb x1 (8 * r).toNat hx.2.1
  obtain ⟨hd0, hd1⟩ := hd
  clear hx
  unfold W4
  go_enter Try.func29, Try.ntmps29
  go_wp2
  go_ret
  exact ⟨rfl, _, rfl⟩
set_option maxHeartbeats 1000000 in
theorem lowByte_walk2 (x0 x1 x2 x3 i r : Int) (h0 : 16 ≤ i) (h1 : i < 24) (hm : i % 8 = r) (hx : L4 x0 x1 x2 x3) (w : World) :
    Calls Try.prog 29 #[W4 x0 x1 x2 x3, .int .i64 i] w fun e w' => e = .returned (.int .u8 (x2 / 2 ^ (8 * r).toNat % 256)) ∧ ∃ c, w' = w.alloc (.cells c 24) := by
  have hq : i / 8 = 2 := by omega
  have hr0 : 0 ≤ r := by omega
  have hr1 : r < 8 := by omega
  have hd := div_limb x2 (8 * r).toNat hx.2.2.1
  obtain ⟨hd0, hd1⟩ := hd
  clear hx
  unfold W4
  go_enter Try.func29, Try.ntmps29
  go_wp2
  go_ret
  exact ⟨rfl, _, rfl⟩
set_option maxHeartbeats 1000000 in
theorem lowByte_walk3 (x0 x1 x2 x3 i r : Int) (h0 : 24 ≤ i) (h1 : i < 32) (hm : i % 8 = r) (hx : L4 x0 x1 x2 x3) (w : World) :
    Calls Try.prog 29 #[W4 x0 x1 x2 x3, .int .i64 i] w fun e w' => e = .returned (.int .u8 (x3 / 2 ^ (8 * r).toNat % 256)) ∧ ∃ c, w' = w.alloc (.cells c 24) := by
  have hq : i / 8 = 3 := by omega
  have hr0 : 0 ≤ r := by omega
  have hr1 : r < 8 := by omega
  have hd := div_limb x3 (8 * r).toNat hx.2.2.2
  obtain ⟨hd0, hd1⟩ := hd
  clear hx
  unfold W4
  go_enter Try.func29, Try.ntmps29
  go_wp2
  go_ret
  exact ⟨rfl, _, rfl⟩
theorem low_pow (i k r : Int) (h0 : 0 ≤ r) (hk : 0 ≤ k) (hi : i = 8 * k + r) : (2 : Int) ^ (8 * i).toNat = 2 ^ (64 * k).toNat * 2 ^ (8 * r).toNat := by
  rw [← Int.pow_add]; congr 1; omega
theorem low_num0 {x0 x1 x2 x3 i : Int} (h0 : 0 ≤ i) (h1 : i < 8) (hx : L4 x0 x1 x2 x3) : x0 / 2 ^ (8 * (i % 8)).toNat % 256 = lowN (num x0 x1 x2 x3) i := by
  unfold lowN
  have hpk : (2 : Int) ^ (64 * (0 : Int)).toNat = 1 := by decide
  have hP := pow_pos' (8 * (i % 8)).toNat
  rw [low_pow i 0 (i % 8) (by omega) (by decide) (by omega), hpk, ← Int.ediv_ediv_of_nonneg (by decide)]
  obtain ⟨⟨_, _⟩, ⟨_, _⟩, ⟨_, _⟩, ⟨_, _⟩⟩ := hx
  have e : num x0 x1 x2 x3 / 1 = x0 + 18446744073709551616 * (0 + 1 * x1 + 18446744073709551616 * x2 + 340282366920938463463374607431768211456 * x3) := by unfold num; omega
  rw [e]
  have hp : (2 : Int) ^ (8 * (i % 8)).toNat * (256 * 2 ^ (56 - 8 * (i % 8)).toNat) = 18446744073709551616 := by
    rw [show (256 : Int) = 2 ^ 8 from rfl, ← Int.pow_add, ← Int.pow_add, show (8 * (i % 8)).toNat + (8 + (56 - 8 * (i % 8)).toNat) = 64 from by omega]
    decide
  rw [← hp, Int.mul_assoc, Int.add_mul_ediv_left _ _ (by omega), Int.mul_assoc, Int.add_mul_emod_self_left]
theorem low_num1 {x0 x1 x2 x3 i : Int} (h0 : 8 ≤ i) (h1 : i < 16) (hx : L4 x0 x1 x2 x3) : x1 / 2 ^ (8 * (i % 8)).toNat % 256 = lowN (num x0 x1 x2 x3) i := by
  unfold lowN
  have hpk : (2 : Int) ^ (64 * (1 : Int)).toNat = 18446744073709551616 := by decide
  have hP := pow_pos' (8 * (i % 8)).toNat
  rw [low_pow i 1 (i % 8) (by omega) (by decide) (by omega), hpk, ← Int.ediv_ediv_of_nonneg (by decide)]
  obtain ⟨⟨_, _⟩, ⟨_, _⟩, ⟨_, _⟩, ⟨_, _⟩⟩ := hx
  have e : num x0 x1 x2 x3 / 18446744073709551616 = x1 + 18446744073709551616 * (0 + 1 * x2 + 18446744073709551616 * x3) := by unfold num; omega
  rw [e]
  have hp : (2 : Int) ^ (8 * (i % 8)).toNat * (256 * 2 ^ (56 - 8 * (i % 8)).toNat) = 18446744073709551616 := by
    rw [show (256 : Int) = 2 ^ 8 from rfl, ← Int.pow_add, ← Int.pow_add, show (8 * (i % 8)).toNat + (8 + (56 - 8 * (i % 8)).toNat) = 64 from by omega]
    decide
  rw [← hp, Int.mul_assoc, Int.add_mul_ediv_left _ _ (by omega), Int.mul_assoc, Int.add_mul_emod_self_left]
theorem low_num2 {x0 x1 x2 x3 i : Int} (h0 : 16 ≤ i) (h1 : i < 24) (hx : L4 x0 x1 x2 x3) : x2 / 2 ^ (8 * (i % 8)).toNat % 256 = lowN (num x0 x1 x2 x3) i := by
  unfold lowN
  have hpk : (2 : Int) ^ (64 * (2 : Int)).toNat = 340282366920938463463374607431768211456 := by decide
  have hP := pow_pos' (8 * (i % 8)).toNat
  rw [low_pow i 2 (i % 8) (by omega) (by decide) (by omega), hpk, ← Int.ediv_ediv_of_nonneg (by decide)]
  obtain ⟨⟨_, _⟩, ⟨_, _⟩, ⟨_, _⟩, ⟨_, _⟩⟩ := hx
  have e : num x0 x1 x2 x3 / 340282366920938463463374607431768211456 = x2 + 18446744073709551616 * (0 + 1 * x3) := by unfold num; omega
  rw [e]
  have hp : (2 : Int) ^ (8 * (i % 8)).toNat * (256 * 2 ^ (56 - 8 * (i % 8)).toNat) = 18446744073709551616 := by
    rw [show (256 : Int) = 2 ^ 8 from rfl, ← Int.pow_add, ← Int.pow_add, show (8 * (i % 8)).toNat + (8 + (56 - 8 * (i % 8)).toNat) = 64 from by omega]
    decide
  rw [← hp, Int.mul_assoc, Int.add_mul_ediv_left _ _ (by omega), Int.mul_assoc, Int.add_mul_emod_self_left]
theorem low_num3 {x0 x1 x2 x3 i : Int} (h0 : 24 ≤ i) (h1 : i < 32) (hx : L4 x0 x1 x2 x3) : x3 / 2 ^ (8 * (i % 8)).toNat % 256 = lowN (num x0 x1 x2 x3) i := by
  unfold lowN
  have hpk : (2 : Int) ^ (64 * (3 : Int)).toNat = 6277101735386680763835789423207666416102355444464034512896 := by decide
  have hP := pow_pos' (8 * (i % 8)).toNat
  rw [low_pow i 3 (i % 8) (by omega) (by decide) (by omega), hpk, ← Int.ediv_ediv_of_nonneg (by decide)]
  obtain ⟨⟨_, _⟩, ⟨_, _⟩, ⟨_, _⟩, ⟨_, _⟩⟩ := hx
  have e : num x0 x1 x2 x3 / 6277101735386680763835789423207666416102355444464034512896 = x3 + 18446744073709551616 * (0) := by unfold num; omega
  rw [e]
  have hp : (2 : Int) ^ (8 * (i % 8)).toNat * (256 * 2 ^ (56 - 8 * (i % 8)).toNat) = 18446744073709551616 := by
    rw [show (256 : Int) = 2 ^ 8 from rfl, ← Int.pow_add, ← Int.pow_add, show (8 * (i % 8)).toNat + (8 + (56 - 8 * (i % 8)).toNat) = 64 from by omega]
    decide
  rw [← hp, Int.mul_assoc, Int.add_mul_ediv_left _ _ (by omega), Int.mul_assoc, Int.add_mul_emod_self_left]
/-- word.lowByte -/
theorem lowByte_any (x0 x1 x2 x3 i : Int) (hx : L4 x0 x1 x2 x3) (h0 : 0 ≤ i) (h1 : i < 32) (w : World) :
    Calls Try.prog 29 #[W4 x0 x1 x2 x3, .int .i64 i] w fun e w' => e = .returned (.int .u8 (lowN (num x0 x1 x2 x3) i)) ∧ ∃ c, w' = w.alloc (.cells c 24) := by
  rcases (by omega : i < 8 ∨ (8 ≤ i ∧ i < 16) ∨ (16 ≤ i ∧ i < 24) ∨ (24 ≤ i ∧ i < 32)) with g | ⟨g, g'⟩ | ⟨g, g'⟩ | ⟨g, g'⟩
  · rw [← low_num0 h0 g hx]; exact lowByte_walk0 x0 x1 x2 x3 i _ h0 g rfl hx w
  · rw [← low_num1 g g' hx]; exact lowByte_walk1 x0 x1 x2 x3 i _ g g' rfl hx w
  · rw [← low_num2 g g' hx]; exact lowByte_walk2 x0 x1 x2 x3 i _ g g' rfl hx w
  · rw [← low_num3 g g' hx]; exact lowByte_walk3 x0 x1 x2 x3 i _ g g' rfl hx w

set_option maxHeartbeats 1000000 in
theorem byte_in (i0 x0 x1 x2 x3 : Int) (h0 : 0 ≤ i0) (h1 : i0 < 32) (hx : L4 x0 x1 x2 x3) (w : World) :
    Calls Try.prog 34 #[W4 i0 0 0 0, W4 x0 x1 x2 x3] w fun e w' => e = .returned (W4 (lowN (num x0 x1 x2 x3) (31 - i0)) 0 0 0) ∧ Below w.heap.size w w' := by
  have HX : Hid _ := hx
  clear hx
  have hb := below_yes i0 32 h0 h1 (by decide)
  have HB : Hid _ := hb
  clear hb
  have hl := lowByte_any x0 x1 x2 x3 (31 - i0) HX.out (by omega) (by omega)
  have HL : Hid _ := hl
  have hbd : 0 ≤ lowN (num x0 x1 x2 x3) (31 - i0) ∧ lowN (num x0 x1 x2 x3) (31 - i0) < 256 := by unfold lowN; omega
  clear hl
  generalize lowN (num x0 x1 x2 x3) (31 - i0) = y at *
  obtain ⟨hy0, hy1⟩ := hbd
  unfold W4 at *
  go_enter Try.func34, Try.ntmps34
  go_wp2_with fail
  refine (HB.out _).mono ?_
  rintro e w1 ⟨rfl, c1, c2, c3, rfl⟩
  clear HB
  go_wp2_with fail
  refine (HL.out _).mono ?_
  rintro e w1 ⟨rfl, c4, rfl⟩
  go_wp2_with fail
  refine (of_exact y _).mono ?_
  rintro e w1 ⟨rfl, c5, rfl⟩
  unfold W4
  go_wp2
  go_returns
  exact ⟨rfl, by go_grown⟩
set_option maxHeartbeats 1000000 in
theorem byte_out (i0 i1 i2 i3 x0 x1 x2 x3 : Int) (hi : L4 i0 i1 i2 i3) (h : 32 ≤ num i0 i1 i2 i3) (w : World) :
    Calls Try.prog 34 #[W4 i0 i1 i2 i3, W4 x0 x1 x2 x3] w fun e w' => e = .returned (W4 0 0 0 0) ∧ Below w.heap.size w w' := by
  have hb := below_no i0 i1 i2 i3 32 hi h
  have HB : Hid _ := hb
  clear hb hi h
  unfold W4 at *
  go_enter Try.func34, Try.ntmps34
  go_wp2_with fail
  refine (HB.out _).mono ?_
  rintro e w1 ⟨rfl, c1, c2, c3, rfl⟩
  clear HB
  go_wp2
  go_returns
  exact ⟨rfl, by go_grown⟩
end Go.Proofs.Ytjbdfmepeniglab
