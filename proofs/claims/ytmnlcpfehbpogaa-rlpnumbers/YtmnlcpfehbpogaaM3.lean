/- WdW5, WdR1, WdQ0, WdR8, WdD1, WdD2, WdD5, laid into one text. -/
import Derived.Test.YtmnlcpfehbpogaaM2
import Derived.Test.YtmnlcpfehbpogaaM1
import Derived.Lib.BitFns
import Derived.Lib.ItoaNum
/- Walks over package word: signed shifts, bytes, signs drawn out. -/
namespace Go.Proofs.Ytmnlcpfehbpogaa.Wd
open Go.RowKit
set_option linter.unusedSimpArgs false
set_option linter.unusedVariables false

/-- The byte number i of x, from the lowest on. -/
def lowN (x i : Int) : Int := x / 2 ^ (8 * i).toNat % 256
set_option maxHeartbeats 1000000 in
theorem lowByte_walk0 (x0 x1 x2 x3 i r : Int) (h0 : 0 ≤ i) (h1 : i < 8) (hm : i % 8 = r) (hx : L4 x0 x1 x2 x3) (w : World) :
    Calls Try.prog 61 #[W4 x0 x1 x2 x3, .int .i64 i] w fun e w' => e = .returned (.int .u8 (x0 / 2 ^ (8 * r).toNat % 256)) ∧ ∃ c, w' = w.alloc (.cells c 50) := by
  have hq : i / 8 = 0 := by omega
  have hr0 : 0 ≤ r := by omega
  have hr1 : r < 8 := by omega
  have hd := div_limb x0 (8 * r).toNat hx.1
  obtain ⟨hd0, hd1⟩ := hd
  clear hx
  unfold W4
  go_enter Try.func61, Try.ntmps61
  go_wp2
  go_ret
  exact ⟨rfl, _, rfl⟩
set_option maxHeartbeats 1000000 in
theorem lowByte_walk1 (x0 x1 x2 x3 i r : Int) (h0 : 8 ≤ i) (h1 : i < 16) (hm : i % 8 = r) (hx : L4 x0 x1 x2 x3) (w : World) :
    Calls Try.prog 61 #[W4 x0 x1 x2 x3, .int .i64 i] w fun e w' => e = .returned (.int .u8 (x1 / 2 ^ (8 * r).toNat % 256)) ∧ ∃ c, w' = w.alloc (.cells c 50) := by
  have hq : i / 8 = 1 := by omega
  have hr0 : 0 ≤ r := by omega
  have hr1 : r < 8 := by omega
  have hd := div_limb x1 (8 * r).toNat hx.2.1
  obtain ⟨hd0, hd1⟩ := hd
  clear hx
  unfold W4
  go_enter Try.func61, Try.ntmps61
  go_wp2
  go_ret
  exact ⟨rfl, _, rfl⟩
set_option maxHeartbeats 1000000 in
theorem lowByte_walk2 (x0 x1 x2 x3 i r : Int) (h0 : 16 ≤ i) (h1 : i < 24) (hm : i % 8 = r) (hx : L4 x0 x1 x2 x3) (w : World) :
    Calls Try.prog 61 #[W4 x0 x1 x2 x3, .int .i64 i] w fun e w' => e = .returned (.int .u8 (x2 / 2 ^ (8 * r).toNat % 256)) ∧ ∃ c, w' = w.alloc (.cells c 50) := by
  have hq : i / 8 = 2 := by omega
  have hr0 : 0 ≤ r := by omega
  have hr1 : r < 8 := by omega
  have hd := div_limb x2 (8 * r).toNat hx.2.2.1
  obtain ⟨hd0, hd1⟩ := hd
  clear hx
  unfold W4
  go_enter Try.func61, Try.ntmps61
  go_wp2
  go_ret
  exact ⟨rfl, _, rfl⟩
set_option maxHeartbeats 1000000 in
theorem lowByte_walk3 (x0 x1 x2 x3 i r : Int) (h0 : 24 ≤ i) (h1 : i < 32) (hm : i % 8 = r) (hx : L4 x0 x1 x2 x3) (w : World) :
    Calls Try.prog 61 #[W4 x0 x1 x2 x3, .int .i64 i] w fun e w' => e = .returned (.int .u8 (x3 / 2 ^ (8 * r).toNat % 256)) ∧ ∃ c, w' = w.alloc (.cells c 50) := by
  have hq : i / 8 = 3 := by omega
  have hr0 : 0 ≤ r := by omega
  have hr1 : r < 8 := by omega
  have hd := div_limb x3 (8 * r).toNat hx.2.2.2
  obtain ⟨hd0, hd1⟩ := hd
  clear hx
  unfold W4
  go_enter Try.func61, Try.ntmps61
  go_wp2
  go_ret
  exact ⟨rfl, _, rfl⟩
theorem low_pow (i k r : Int) (h0 : 0 ≤ r) (hk : 0 ≤ k) (hi : i = 8 * k + r) : (2 : Int) ^ (8 * i).toNat = 2 ^ (64 * k).toNat * 2 ^ (8 * r).toNat := by
  rw [← Int.pow_add]; congr 1; omega
theorem low_num0 {x0 x1 x2 x3 i : Int} (h0 : 0 ≤ i) (h1 : i < 8) (hx : L4 x0 x1 x2 x3) : x0 / 2 ^ (8 * (i % 8)).toNat % 256 = lowN (num x0 x1 x2 x3) i := by
  unfold lowN
  have hpk : (2 : Int) ^ (64 * (0 : Int)).toNat = 1 := by decide
  have hP := pow_pos' (8 * (i % 8)).toNat
  rw [low_pow i 0 (i % 8) (by omega) (by decide) (by omega), hpk, ← Int.ediv_ediv_of_nonneg (by decide)]
  obtain ⟨⟨_, _⟩, ⟨_, _⟩, ⟨_, _⟩, ⟨_, _⟩⟩ := hx
  have e : num x0 x1 x2 x3 / 1 = x0 + 18446744073709551616 * (0 + 1 * x1 + 18446744073709551616 * x2 + 340282366920938463463374607431768211456 * x3) := by unfold num; omega
  rw [e]
  have hp : (2 : Int) ^ (8 * (i % 8)).toNat * (256 * 2 ^ (56 - 8 * (i % 8)).toNat) = 18446744073709551616 := by
    rw [show (256 : Int) = 2 ^ 8 from rfl, ← Int.pow_add, ← Int.pow_add, show (8 * (i % 8)).toNat + (8 + (56 - 8 * (i % 8)).toNat) = 64 from by omega]
    decide
  rw [← hp, Int.mul_assoc, Int.add_mul_ediv_left _ _ (by omega), Int.mul_assoc, Int.add_mul_emod_self_left]
theorem low_num1 {x0 x1 x2 x3 i : Int} (h0 : 8 ≤ i) (h1 : i < 16) (hx : L4 x0 x1 x2 x3) : x1 / 2 ^ (8 * (i % 8)).toNat % 256 = lowN (num x0 x1 x2 x3) i := by
  unfold lowN
  have hpk : (2 : Int) ^ (64 * (1 : Int)).toNat = 18446744073709551616 := by decide
  have hP := pow_pos' (8 * (i % 8)).toNat
  rw [low_pow i 1 (i % 8) (by omega) (by decide) (by omega), hpk, ← Int.ediv_ediv_of_nonneg (by decide)]
  obtain ⟨⟨_, _⟩, ⟨_, _⟩, ⟨_, _⟩, ⟨_, _⟩⟩ := hx
  have e : num x0 x1 x2 x3 / 18446744073709551616 = x1 + 18446744073709551616 * (0 + 1 * x2 + 18446744073709551616 * x3) := by unfold num; omega
  rw [e]
  have hp : (2 : Int) ^ (8 * (i % 8)).toNat * (256 * 2 ^ (56 - 8 * (i % 8)).toNat) = 18446744073709551616 := by
    rw [show (256 : Int) = 2 ^ 8 from rfl, ← Int.pow_add, ← Int.pow_add, show (8 * (i % 8)).toNat + (8 + (56 - 8 * (i % 8)).toNat) = 64 from by omega]
    decide
  rw [← hp, Int.mul_assoc, Int.add_mul_ediv_left _ _ (by omega), Int.mul_assoc, Int.add_mul_emod_self_left]
theorem low_num2 {x0 x1 x2 x3 i : Int} (h0 : 16 ≤ i) (h1 : i < 24) (hx : L4 x0 x1 x2 x3) : x2 / 2 ^ (8 * (i % 8)).toNat % 256 = lowN (num x0 x1 x2 x3) i := by
  unfold lowN
  have hpk : (2 : Int) ^ (64 * (2 : Int)).toNat = 340282366920938463463374607431768211456 := by decide
  have hP := pow_pos' (8 * (i % 8)).toNat
  rw [low_pow i 2 (i % 8) (by omega) (by decide) (by omega), hpk, ← Int.ediv_ediv_of_nonneg (by decide)]
  obtain ⟨⟨_, _⟩, ⟨_, _⟩, ⟨_, _⟩, ⟨_, _⟩⟩ := hx
  have e : num x0 x1 x2 x3 / 340282366920938463463374607431768211456 = x2 + 18446744073709551616 * (0 + 1 * x3) := by unfold num; omega
  rw [e]
  have hp : (2 : Int) ^ (8 * (i % 8)).toNat * (256 * 2 ^ (56 - 8 * (i % 8)).toNat) = 18446744073709551616 := by
    rw [show (256 : Int) = 2 ^ 8 from rfl, ← Int.pow_add, ← Int.pow_add, show (8 * (i % 8)).toNat + (8 + (56 - 8 * (i % 8)).toNat) = 64 from by omega]
    decide
  rw [← hp, Int.mul_assoc, Int.add_mul_ediv_left _ _ (by omega), Int.mul_assoc, Int.add_mul_emod_self_left]
theorem low_num3 {x0 x1 x2 x3 i : Int} (h0 : 24 ≤ i) (h1 : i < 32) (hx : L4 x0 x1 x2 x3) : x3 / 2 ^ (8 * (i % 8)).toNat % 256 = lowN (num x0 x1 x2 x3) i := by
  unfold lowN
  have hpk : (2 : Int) ^ (64 * (3 : Int)).toNat = 6277101735386680763835789423207666416102355444464034512896 := by decide
  have hP := pow_pos' (8 * (i % 8)).toNat
  rw [low_pow i 3 (i % 8) (by omega) (by decide) (by omega), hpk, ← Int.ediv_ediv_of_nonneg (by decide)]
  obtain ⟨⟨_, _⟩, ⟨_, _⟩, ⟨_, _⟩, ⟨_, _⟩⟩ := hx
  have e : num x0 x1 x2 x3 / 6277101735386680763835789423207666416102355444464034512896 = x3 + 18446744073709551616 * (0) := by unfold num; omega
  rw [e]
  have hp : (2 : Int) ^ (8 * (i % 8)).toNat * (256 * 2 ^ (56 - 8 * (i % 8)).toNat) = 18446744073709551616 := by
    rw [show (256 : Int) = 2 ^ 8 from rfl, ← Int.pow_add, ← Int.pow_add, show (8 * (i % 8)).toNat + (8 + (56 - 8 * (i % 8)).toNat) = 64 from by omega]
    decide
  rw [← hp, Int.mul_assoc, Int.add_mul_ediv_left _ _ (by omega), Int.mul_assoc, Int.add_mul_emod_self_left]
/-- word.lowByte -/
theorem lowByte_any (x0 x1 x2 x3 i : Int) (hx : L4 x0 x1 x2 x3) (h0 : 0 ≤ i) (h1 : i < 32) (w : World) :
    Calls Try.prog 61 #[W4 x0 x1 x2 x3, .int .i64 i] w fun e w' => e = .returned (.int .u8 (lowN (num x0 x1 x2 x3) i)) ∧ ∃ c, w' = w.alloc (.cells c 50) := by
  rcases (by omega : i < 8 ∨ (8 ≤ i ∧ i < 16) ∨ (16 ≤ i ∧ i < 24) ∨ (24 ≤ i ∧ i < 32)) with g | ⟨g, g'⟩ | ⟨g, g'⟩ | ⟨g, g'⟩
  · rw [← low_num0 h0 g hx]; exact lowByte_walk0 x0 x1 x2 x3 i _ h0 g rfl hx w
  · rw [← low_num1 g g' hx]; exact lowByte_walk1 x0 x1 x2 x3 i _ g g' rfl hx w
  · rw [← low_num2 g g' hx]; exact lowByte_walk2 x0 x1 x2 x3 i _ g g' rfl hx w
  · rw [← low_num3 g g' hx]; exact lowByte_walk3 x0 x1 x2 x3 i _ g g' rfl hx w

end Go.Proofs.Ytmnlcpfehbpogaa.Wd
/- Walks over the document's own numbers: a word's number. -/
namespace Go.Proofs.Ytmnlcpfehbpogaa.Wd
open Go.RowKit
set_option linter.unusedSimpArgs false
set_option linter.unusedVariables false
theorem i64_and255 (n : Int) : bits .and .i64 n 255 = n % 256 := by
  have h255 : (BitVec.ofInt 64 255).toNat = 2 ^ 8 - 1 := by decide
  have key : (BitVec.ofInt 64 n &&& BitVec.ofInt 64 255).toNat = (n % ((2 ^ 64 : Nat) : Int)).toNat % 2 ^ 8 := by
    rw [BitVec.toNat_and, BitVec.toNat_ofInt, h255, Nat.and_two_pow_sub_one_eq_mod]
  show IntKind.i64.wrap ((BitVec.ofInt 64 n &&& BitVec.ofInt 64 255).toNat : Nat) = n % 256
  rw [key, IntKind.wrap_i64]
  omega
theorem byte_of (a : Int) (s : Nat) : bits .and .i64 (wrap64 (a / 2 ^ s)) 255 = a / 2 ^ s % 256 := by
  rw [i64_and255]
  generalize a / 2 ^ s = z
  unfold wrap64
  omega
theorem mod_mul (n P : Int) (hP : 0 < P) : n % P + P * (n / P % 256) = n % (P * 256) := by
  have h1 := Int.mul_ediv_add_emod n P
  have h2 := Int.emod_nonneg n (Int.ne_of_gt hP)
  have h3 := Int.emod_lt_of_pos n hP
  generalize n / P = q at *
  generalize n % P = r at *
  have h4 : q = 256 * (q / 256) + q % 256 := by omega
  have h5 : 0 ≤ q % 256 := by omega
  have h6 : q % 256 ≤ 255 := by omega
  have h7 : n = (r + P * (q % 256)) + P * 256 * (q / 256) := by
    rw [← h1, Int.mul_assoc, ← Int.add_comm]
    have : P * q = P * (256 * (q / 256) + q % 256) := by rw [← h4]
    rw [Int.mul_add] at this
    omega
  have h8 : P * (q % 256) ≤ P * 255 := Int.mul_le_mul_of_nonneg_left h6 (by omega)
  have h9 : 0 ≤ P * (q % 256) := Int.mul_nonneg (by omega) h5
  rw [h7, Int.add_mul_emod_self_left]
  exact (Int.emod_eq_of_lt (by omega) (by omega)).symm
theorem low_step (n : Int) (k : Nat) : n % 256 ^ k + 256 ^ k * lowN n k = n % 256 ^ (k + 1) := by
  unfold lowN
  have e : (2 : Int) ^ (8 * (k : Int)).toNat = 256 ^ k := by
    rw [show (8 * (k : Int)).toNat = 8 * k from by omega, Int.pow_mul]; rfl
  rw [e, Int.pow_succ]
  exact mod_mul n _ (Int.pow_pos (by decide))
set_option maxRecDepth 100000 in
set_option maxHeartbeats 4000000 in
theorem of_ref (a0 a1 a2 a3 : Int) (ha : L4 a0 a1 a2 a3) (w : World) :
    Calls Try.prog 62 #[W4 a0 a1 a2 a3] w fun e w' => ∃ (v : Value) (d : List Int), e = .returned v ∧ IsN w' v d ∧ Byt d ∧ d.length ≤ 32 ∧ Hid (valB d = num a0 a1 a2 a3) ∧ Below w.heap.size w w' := by
  have HA : Hid _ := ha
  clear ha
  obtain ⟨i0, hi, hz0, hz1, hz2⟩ := info_parts Try.info3
  have HI : Hid _ := hi
  clear hi
  unfold W4
  go_enter Try.func62, Try.ntmps62
  go_wp2
  go_loopw [3, 4] (fun s i wr => ∃ (k : Nat) (d : List Int), k ≤ 32 ∧ i = .int .i64 k ∧ d.length = k ∧ wr.ownsRow (w.heap.size + 1) 3 1 s k (d.map (Value.int .i64)) ∧ Hid (Byt d) ∧ Hid (valB d = num a0 a1 a2 a3 % 256 ^ k) ∧ Below (w.heap.size + 1) (w.alloc (.cells #[.int .u64 a0, .int .u64 a1, .int .u64 a2, .int .u64 a3] 50)) wr) (fun _ i _ => 32 - (intOf i).toNat)
  case atStart => exact ⟨0, [], by omega, rfl, rfl, World.ownsRow_nil _ _ _ _, fun k => ⟨by simp, by simp⟩, by show _ = _; simp [valB, Int.emod_one], Below.refl _ _⟩
  case round =>
    obtain ⟨k, d, hk, rfl, hl, hown, hB, hE, hbw⟩ := hrel
    have c0 : wr.cell? ⟨w.heap.size, 0, none⟩ = some (.int .u64 a0) := (hbw.cell (p := ⟨w.heap.size, 0, none⟩) (by simp)).trans (by simp [go_sem])
    have c1 : wr.cell? ⟨w.heap.size, 1, none⟩ = some (.int .u64 a1) := (hbw.cell (p := ⟨w.heap.size, 1, none⟩) (by simp)).trans (by simp [go_sem])
    have c2 : wr.cell? ⟨w.heap.size, 2, none⟩ = some (.int .u64 a2) := (hbw.cell (p := ⟨w.heap.size, 2, none⟩) (by simp)).trans (by simp [go_sem])
    have c3 : wr.cell? ⟨w.heap.size, 3, none⟩ = some (.int .u64 a3) := (hbw.cell (p := ⟨w.heap.size, 3, none⟩) (by simp)).trans (by simp [go_sem])
    have hsz : w.heap.size + 1 ≤ wr.heap.size := by have := hbw.size; simp at this; omega
    have HO : Hid _ := hown
    clear hown
    by_cases hlt : k < 32
    · rcases (by omega : k < 8 ∨ (8 ≤ k ∧ k < 16) ∨ (16 ≤ k ∧ k < 24) ∨ (24 ≤ k ∧ k < 32)) with h8 | ⟨h8, h8'⟩ | ⟨h8, h8'⟩ | ⟨h8, h8'⟩
      · skip
        have hq : (k : Int) / 8 = 0 := by omega
        obtain ⟨x, hx⟩ : ∃ x, x = bits .and .i64 (wrap64 (a0 / 2 ^ (8 * (k % 8)))) 255 := ⟨_, rfl⟩
        have hxe : x = lowN (num a0 a1 a2 a3) k := by
          rw [hx, byte_of a0 (8 * (k % 8))]
          have := low_num0 (i := (k : Int)) (by omega) (by omega) HA.out
          rw [show (8 * ((k : Int) % 8)).toNat = 8 * (k % 8) from by omega] at this
          exact this
        have hx0 : 0 ≤ x ∧ x < 256 := by rw [hxe]; unfold lowN; omega
        obtain ⟨hx0, hx1⟩ := hx0
        have HE2 : Hid (valB (d ++ [x]) = num a0 a1 a2 a3 % 256 ^ (k + 1)) := by
          show _ = _
          rw [valB_append, hl, hE.out, hxe]; exact low_step _ k
        have HB2 : Hid (Byt (d ++ [x])) := hB.out.append hx0 hx1
        have hxr : bits .and .i64 (wrap64 (a0 / 2 ^ (8 * (k % 8)))) 255 = x := hx.symm
        clear hx hxe hE hB
        go_wp2_with (first | (at_builtin; go_must (refine wpList_append_own _ rfl _ _ 93 rfl (w.heap.size + 1) 3 i0 (.int .i64 0) 1 8 Try.underlying93 HI.out hz0 hz1 hz2 rfl (by decide) _ _ _ rfl (World.ownsRow.alloc HO.out _) ⟨wr.heap.size, 0, none⟩ 1 1 [.int .i64 x] rfl rfl ?c10 ?c20 ?c30 ?c40 ?c50 ?_)))
        any_goals (first
          | (intro q u hq; exact one_cell hq)
          | (intro u hu; simp at hu; subst hu; rfl)
          | (unfold maxLen; omega)
          | omega
          | (simp; omega))
        intro v' w1 hown' hg hnn
        have HO2 : Hid _ := hown'
        have HG : Hid _ := hg
        clear hown' hg hnn
        go_wp2
        refine ⟨⟨k + 1, d ++ [x], by omega, by go_num, ?_, ?_, HB2, HE2, ?_⟩, ?_⟩
        · rw [List.length_append, hl]; rfl
        · rw [List.map_append]; exact HO2.out
        · exact of_grown hbw HG.out (fun g hg => (World.ownsRow.lt HO.out g hg).1) hsz
        · simp [intOf]; omega
      · skip
        have hq : (k : Int) / 8 = 1 := by omega
        obtain ⟨x, hx⟩ : ∃ x, x = bits .and .i64 (wrap64 (a1 / 2 ^ (8 * (k % 8)))) 255 := ⟨_, rfl⟩
        have hxe : x = lowN (num a0 a1 a2 a3) k := by
          rw [hx, byte_of a1 (8 * (k % 8))]
          have := low_num1 (i := (k : Int)) (by omega) (by omega) HA.out
          rw [show (8 * ((k : Int) % 8)).toNat = 8 * (k % 8) from by omega] at this
          exact this
        have hx0 : 0 ≤ x ∧ x < 256 := by rw [hxe]; unfold lowN; omega
        obtain ⟨hx0, hx1⟩ := hx0
        have HE2 : Hid (valB (d ++ [x]) = num a0 a1 a2 a3 % 256 ^ (k + 1)) := by
          show _ = _
          rw [valB_append, hl, hE.out, hxe]; exact low_step _ k
        have HB2 : Hid (Byt (d ++ [x])) := hB.out.append hx0 hx1
        have hxr : bits .and .i64 (wrap64 (a1 / 2 ^ (8 * (k % 8)))) 255 = x := hx.symm
        clear hx hxe hE hB
        go_wp2_with (first | (at_builtin; go_must (refine wpList_append_own _ rfl _ _ 93 rfl (w.heap.size + 1) 3 i0 (.int .i64 0) 1 8 Try.underlying93 HI.out hz0 hz1 hz2 rfl (by decide) _ _ _ rfl (World.ownsRow.alloc HO.out _) ⟨wr.heap.size, 0, none⟩ 1 1 [.int .i64 x] rfl rfl ?c11 ?c21 ?c31 ?c41 ?c51 ?_)))
        any_goals (first
          | (intro q u hq; exact one_cell hq)
          | (intro u hu; simp at hu; subst hu; rfl)
          | (unfold maxLen; omega)
          | omega
          | (simp; omega))
        intro v' w1 hown' hg hnn
        have HO2 : Hid _ := hown'
        have HG : Hid _ := hg
        clear hown' hg hnn
        go_wp2
        refine ⟨⟨k + 1, d ++ [x], by omega, by go_num, ?_, ?_, HB2, HE2, ?_⟩, ?_⟩
        · rw [List.length_append, hl]; rfl
        · rw [List.map_append]; exact HO2.out
        · exact of_grown hbw HG.out (fun g hg => (World.ownsRow.lt HO.out g hg).1) hsz
        · simp [intOf]; omega
      · skip
        have hq : (k : Int) / 8 = 2 := by omega
        obtain ⟨x, hx⟩ : ∃ x, x = bits .and .i64 (wrap64 (a2 / 2 ^ (8 * (k % 8)))) 255 := ⟨_, rfl⟩
        have hxe : x = lowN (num a0 a1 a2 a3) k := by
          rw [hx, byte_of a2 (8 * (k % 8))]
          have := low_num2 (i := (k : Int)) (by omega) (by omega) HA.out
          rw [show (8 * ((k : Int) % 8)).toNat = 8 * (k % 8) from by omega] at this
          exact this
        have hx0 : 0 ≤ x ∧ x < 256 := by rw [hxe]; unfold lowN; omega
        obtain ⟨hx0, hx1⟩ := hx0
        have HE2 : Hid (valB (d ++ [x]) = num a0 a1 a2 a3 % 256 ^ (k + 1)) := by
          show _ = _
          rw [valB_append, hl, hE.out, hxe]; exact low_step _ k
        have HB2 : Hid (Byt (d ++ [x])) := hB.out.append hx0 hx1
        have hxr : bits .and .i64 (wrap64 (a2 / 2 ^ (8 * (k % 8)))) 255 = x := hx.symm
        clear hx hxe hE hB
        go_wp2_with (first | (at_builtin; go_must (refine wpList_append_own _ rfl _ _ 93 rfl (w.heap.size + 1) 3 i0 (.int .i64 0) 1 8 Try.underlying93 HI.out hz0 hz1 hz2 rfl (by decide) _ _ _ rfl (World.ownsRow.alloc HO.out _) ⟨wr.heap.size, 0, none⟩ 1 1 [.int .i64 x] rfl rfl ?c12 ?c22 ?c32 ?c42 ?c52 ?_)))
        any_goals (first
          | (intro q u hq; exact one_cell hq)
          | (intro u hu; simp at hu; subst hu; rfl)
          | (unfold maxLen; omega)
          | omega
          | (simp; omega))
        intro v' w1 hown' hg hnn
        have HO2 : Hid _ := hown'
        have HG : Hid _ := hg
        clear hown' hg hnn
        go_wp2
        refine ⟨⟨k + 1, d ++ [x], by omega, by go_num, ?_, ?_, HB2, HE2, ?_⟩, ?_⟩
        · rw [List.length_append, hl]; rfl
        · rw [List.map_append]; exact HO2.out
        · exact of_grown hbw HG.out (fun g hg => (World.ownsRow.lt HO.out g hg).1) hsz
        · simp [intOf]; omega
      · skip
        have hq : (k : Int) / 8 = 3 := by omega
        obtain ⟨x, hx⟩ : ∃ x, x = bits .and .i64 (wrap64 (a3 / 2 ^ (8 * (k % 8)))) 255 := ⟨_, rfl⟩
        have hxe : x = lowN (num a0 a1 a2 a3) k := by
          rw [hx, byte_of a3 (8 * (k % 8))]
          have := low_num3 (i := (k : Int)) (by omega) (by omega) HA.out
          rw [show (8 * ((k : Int) % 8)).toNat = 8 * (k % 8) from by omega] at this
          exact this
        have hx0 : 0 ≤ x ∧ x < 256 := by rw [hxe]; unfold lowN; omega
        obtain ⟨hx0, hx1⟩ := hx0
        have HE2 : Hid (valB (d ++ [x]) = num a0 a1 a2 a3 % 256 ^ (k + 1)) := by
          show _ = _
          rw [valB_append, hl, hE.out, hxe]; exact low_step _ k
        have HB2 : Hid (Byt (d ++ [x])) := hB.out.append hx0 hx1
        have hxr : bits .and .i64 (wrap64 (a3 / 2 ^ (8 * (k % 8)))) 255 = x := hx.symm
        clear hx hxe hE hB
        go_wp2_with (first | (at_builtin; go_must (refine wpList_append_own _ rfl _ _ 93 rfl (w.heap.size + 1) 3 i0 (.int .i64 0) 1 8 Try.underlying93 HI.out hz0 hz1 hz2 rfl (by decide) _ _ _ rfl (World.ownsRow.alloc HO.out _) ⟨wr.heap.size, 0, none⟩ 1 1 [.int .i64 x] rfl rfl ?c13 ?c23 ?c33 ?c43 ?c53 ?_)))
        any_goals (first
          | (intro q u hq; exact one_cell hq)
          | (intro u hu; simp at hu; subst hu; rfl)
          | (unfold maxLen; omega)
          | omega
          | (simp; omega))
        intro v' w1 hown' hg hnn
        have HO2 : Hid _ := hown'
        have HG : Hid _ := hg
        clear hown' hg hnn
        go_wp2
        refine ⟨⟨k + 1, d ++ [x], by omega, by go_num, ?_, ?_, HB2, HE2, ?_⟩, ?_⟩
        · rw [List.length_append, hl]; rfl
        · rw [List.map_append]; exact HO2.out
        · exact of_grown hbw HG.out (fun g hg => (World.ownsRow.lt HO.out g hg).1) hsz
        · simp [intOf]; omega
    · have hk32 : k = 32 := by omega
      subst hk32
      clear c0 c1 c2 c3
      go_wp2_with fail
      refine (trim_any _ _ d (IsN.of_owns HO.out) (by omega) (by omega) hB.out).mono ?_
      rintro e w2 ⟨v, d', rfl, hN, hBd, hld, hV, hw2⟩
      have hB2 : Below w.heap.size w w2 := Below.trans (Below.trans (by go_grown) (hbw.mono (by omega))) (hw2.mono (by omega))
      go_wp2
      go_ret
      refine ⟨v, d', rfl, hN, hBd, by omega, ?_, hB2⟩
      show _ = _
      rw [hV.out, hE.out]
      have := num_bd HA.out
      exact Int.emod_eq_of_lt this.1 this.2
end Go.Proofs.Ytmnlcpfehbpogaa.Wd
/- The document's quotients, bit by bit: plain arithmetic. -/
namespace Go.Proofs.Ytmnlcpfehbpogaa.Wd
open Go.RowKit
set_option linter.unusedSimpArgs false
set_option linter.unusedVariables false
theorem drop_step : ∀ (d : List Int) (m : Nat), valB (d.drop m) = d.getD m 0 + 256 * valB (d.drop (m + 1))
  | [], m => by simp [valB]
  | x :: r, 0 => by simp [valB]
  | x :: r, m + 1 => by rw [List.drop_succ_cons, List.drop_succ_cons, getD_cons_succ']; exact drop_step r m
theorem pow256 (m : Nat) : (256 : Int) ^ m = 2 ^ (8 * m) := by rw [Int.pow_mul]; rfl
theorem RowD.far {w : World} {b : Nat} {d : List Int} (h : RowD w b d) {c : Nat} (e : b ≠ c) (j : Nat) (v : Value) : RowD (w.setCell ⟨c, j, none⟩ v) b d := World.rowIs.setOther h (a := ⟨c, j, none⟩) e v
theorem RowD.onto {w : World} {b : Nat} {d : List Int} (h : RowD w b d) (o : Obj) : RowD (w.alloc o) b d := World.rowIs.alloc h o
end Go.Proofs.Ytmnlcpfehbpogaa.Wd
/- Walks over the document's own answers: sums, differences, products. -/
namespace Go.Proofs.Ytmnlcpfehbpogaa.Wd
open Go.RowKit
set_option linter.unusedSimpArgs false
set_option linter.unusedVariables false
/-- A list of at most L digits that stands for a number. -/
def St (L : Nat) (d : List Int) (n : Int) : Prop := Byt d ∧ d.length ≤ L ∧ valB d = n
theorem of_st (a0 a1 a2 a3 : Int) (ha : L4 a0 a1 a2 a3) (w : World) : Calls Try.prog 62 #[W4 a0 a1 a2 a3] w fun e w' => ∃ (v : Value) (d : List Int), e = .returned v ∧ IsN w' v d ∧ Hid (St 32 d (num a0 a1 a2 a3)) ∧ Below w.heap.size w w' :=
  (of_ref a0 a1 a2 a3 ha w).mono fun e w' ⟨v, d, he, hN, hB, hl, hV, hw⟩ => ⟨v, d, he, hN, ⟨hB, hl, hV.out⟩, hw⟩
theorem word_st {L : Nat} (w : World) (v : Value) (d : List Int) (n : Int) (l : L < 1000) (h : IsN w v d) (p : Hid (St L d n)) :
    Calls Try.prog 58 #[v] w fun e w' => ∃ r0 r1 r2 r3, e = .returned (W4 r0 r1 r2 r3) ∧ L4 r0 r1 r2 r3 ∧ Hid (num r0 r1 r2 r3 = n % T256) ∧ Below w.heap.size w w' := by
  obtain ⟨B, l1, e1⟩ := p.out
  exact (wordref_any w v d h (by omega) B).mono fun e w' ⟨r0, r1, r2, r3, he, hL, hE, hw⟩ => ⟨r0, r1, r2, r3, he, hL, by show _ = _; rw [hE.out, e1], hw⟩
end Go.Proofs.Ytmnlcpfehbpogaa.Wd
/- Walks over math/bits.Div64, where the divisor's highest bit is set. -/
namespace Go.Proofs.Ytmnlcpfehbpogaa.Wd
open Go.RowKit
set_option linter.unusedSimpArgs false
set_option linter.unusedVariables false
theorem dl_mul (q y1 y0 : Int) : q * (4294967296 * y1 + y0) = 4294967296 * (q * y1) + q * y0 := by
  rw [Int.mul_add, Int.mul_left_comm]
/-- What one step of the guess knows. -/
structure Dl (h u y y1 y0 Q R : Int) : Prop where
  ey : y = 4294967296 * y1 + y0
  y0a : 0 ≤ y0
  y0b : y0 < 4294967296
  y1a : 2147483648 ≤ y1
  y1b : y1 < 4294967296
  ha : 0 ≤ h
  hb : h < y
  ua : 0 ≤ u
  ub : u < 4294967296
  e : h * 4294967296 + u = Q * y + R
  Ra : 0 ≤ R
  Rb : R < y
  Qa : 0 ≤ Q
  Qb : Q < 4294967296
theorem Dl.first {h u y y1 y0 Q R : Int} (D : Dl h u y y1 y0 Q R) : Q ≤ h / y1 ∧ h / y1 ≤ 4294967297 ∧ 0 ≤ h / y1 ∧ 0 ≤ h % y1 ∧ h % y1 < y1 ∧ h % y1 = h - h / y1 * y1 := by
  have hy1 : 0 < y1 := by have := D.y1a; omega
  have hm := Int.mul_ediv_add_emod h y1
  rw [Int.mul_comm] at hm
  have h0 := Int.emod_nonneg h (by omega : y1 ≠ 0)
  have h1 := Int.emod_lt_of_pos h hy1
  refine ⟨?_, ?_, Int.ediv_nonneg D.ha (by omega), h0, h1, by omega⟩
  · have a : Q * y1 ≤ h := by
      have e := D.e
      have m := dl_mul Q y1 y0
      rw [← D.ey] at m
      have := D.Ra; have := D.ub
      have : 0 ≤ Q * y0 := Int.mul_nonneg D.Qa D.y0a
      omega
    exact (Int.le_ediv_iff_mul_le hy1).2 a
  · apply Int.le_of_lt_add_one
    apply Int.ediv_lt_of_lt_mul hy1
    have := D.hb; have := D.ey; have := D.y0b; have := D.y1a
    omega


end Go.Proofs.Ytmnlcpfehbpogaa.Wd
/- Walks over package word: the inner steps of long division. -/
namespace Go.Proofs.Ytmnlcpfehbpogaa.Wd
open Go.RowKit
set_option linter.unusedSimpArgs false
set_option linter.unusedVariables false

/-- Only the cells of block b from lo on and below hi have turned. -/
structure Wr (b lo hi : Nat) (w w' : World) : Prop where
  os : w'.os = w.os
  tape : w'.tape = w.tape
  output : w'.output = w.output
  size : w'.heap.size = w.heap.size
  block : ∀ k, k ≠ b → w'.heap[k]? = w.heap[k]?
  cell : ∀ o, o < lo ∨ hi ≤ o → w'.cell? ⟨b, o, none⟩ = w.cell? ⟨b, o, none⟩
  frozen : ∀ a, w'.frozen? a = w.frozen? a
theorem Wr.refl (b lo hi : Nat) (w : World) : Wr b lo hi w w := ⟨rfl, rfl, rfl, rfl, fun _ _ => rfl, fun _ _ => rfl, fun _ => rfl⟩
theorem Wr.trans {b lo hi : Nat} {u v w : World} (h : Wr b lo hi u v) (k : Wr b lo hi v w) : Wr b lo hi u w :=
  ⟨k.os.trans h.os, k.tape.trans h.tape, k.output.trans h.output, k.size.trans h.size, fun i hi => (k.block i hi).trans (h.block i hi), fun o ho => (k.cell o ho).trans (h.cell o ho), fun a => (k.frozen a).trans (h.frozen a)⟩
theorem Wr.setCell {b lo hi : Nat} {u w : World} (h : Wr b lo hi u w) (o : Nat) (h1 : lo ≤ o) (h2 : o < hi) (v : Value) : Wr b lo hi u (w.setCell ⟨b, o, none⟩ v) :=
  h.trans ⟨rfl, rfl, rfl, by simp [World.setCell], fun k hk => Below.heap_setCell _ _ _ _ hk, fun p hp => World.cell?_setCell_other _ _ _ _ (by intro e; simp at e <;> omega), fun a => World.frozen?_setCell _ _ _ _⟩
theorem Wr.drewN {b lo hi : Nat} {u w : World} (h : Wr b lo hi u w) (n : Nat) : Wr b lo hi u (w.drewN n) := h.trans ⟨rfl, rfl, rfl, rfl, fun _ _ => rfl, fun _ _ => rfl, fun _ => rfl⟩
theorem Wr.other {b lo hi : Nat} {u w : World} (h : Wr b lo hi u w) {c o : Nat} (hc : c ≠ b) : w.cell? ⟨c, o, none⟩ = u.cell? ⟨c, o, none⟩ := World.cell?_of_block (w := u) (h.block c hc)

/-- One limb is another one. -/
def put (X : Nat → Int) (k : Nat) (x : Int) : Nat → Int := fun i => if i = k then x else X i
theorem put_same (X : Nat → Int) (k : Nat) (x : Int) : put X k x k = x := by simp [put]
theorem put_other (X : Nat → Int) (k : Nat) (x : Int) {i : Nat} (h : i ≠ k) : put X k x i = X i := by simp [put, h]
end Go.Proofs.Ytmnlcpfehbpogaa.Wd
/- Walks over package word: how many limbs there are, and a wide number that is shifted. -/
namespace Go.Proofs.Ytmnlcpfehbpogaa.Wd
open Go.RowKit
set_option linter.unusedSimpArgs false
set_option linter.unusedVariables false

/-- How many limbs there are without the noughts at the high end. -/
def usedN (a0 a1 a2 a3 : Int) : Int := if a3 ≠ 0 then 4 else if a2 ≠ 0 then 3 else if a1 ≠ 0 then 2 else if a0 ≠ 0 then 1 else 0
set_option maxHeartbeats 4000000 in
/-- word.used -/
theorem used_any (a0 a1 a2 a3 : Int) (w : World) :
    Calls Try.prog 71 #[W4 a0 a1 a2 a3] w fun e w' => e = .returned (.int .i64 (usedN a0 a1 a2 a3)) ∧ ∃ c, w' = w.alloc (.cells c 50) := by
  unfold W4
  by_cases h3 : a3 = 0 <;> by_cases h2 : a2 = 0 <;> by_cases h1 : a1 = 0 <;> by_cases h0 : a0 = 0
  all_goals
    have g : ∀ x : Int, ¬ x = 0 → (x != 0) = true := fun x h => by simpa using h
    simp only [usedN, h0, h1, h2, h3, ne_eq, not_true_eq_false, not_false_eq_true, if_true, if_false]
    try have k0 := g a0 h0
    try have k1 := g a1 h1
    try have k2 := g a2 h2
    try have k3 := g a3 h3
    clear g
    go_enter Try.func71, Try.ntmps71
    go_wp2
    refine wp_loop_rounds 5 ?_
    iterate 5
      rw [rounds_succ]
      go_wp2
    go_ret
    exact ⟨rfl, _, rfl⟩
end Go.Proofs.Ytmnlcpfehbpogaa.Wd
