/- Walks over package word: the small functions. -/
import Derived.Test.YtmflilgppllebaaW1
import Derived.Test.YtmflilgppllebaaP1
import Derived.Laws.StructEq
namespace Go.Proofs.Ytmflilgppllebaa
open Go.RowKit
set_option linter.unusedSimpArgs false

theorem belowMore {W w1 w2 : World} (h : Below W.heap.size W w1) (k : Below w1.heap.size w1 w2) : Below W.heap.size W w2 := h.trans (k.mono h.size)
theorem size22 (w : World) : (sizeOf 22).run Try.prog w = .ok 1 w := by kernel_rfl
set_option maxHeartbeats 1000000 in
/-- Two words are compared limb by limb. -/
theorem eq24 (a0 a1 a2 a3 b0 b1 b2 b3 : Int) (w : World) :
    (Op.equalIn 10000 24 (W4 a0 a1 a2 a3) (W4 b0 b1 b2 b3)).run Try.prog w = .ok (a0 == b0 && (a1 == b1 && (a2 == b2 && a3 == b3))) w := by
  unfold W4
  rw [Op.equalIn]
  simp only [Sem.run_bind, run_underlying Try.underlying24, Result.andThen_ok, size22]
  simp [Std.Legacy.Range.forIn_eq_forIn_range', List.range', go_sem]
  by_cases h0 : a0 = b0 <;> by_cases h1 : a1 = b1 <;> by_cases h2 : a2 = b2 <;> by_cases h3 : a3 = b3 <;> simp [h0, h1, h2, h3]
theorem eq24_same (a0 a1 a2 a3 : Int) (w : World) : (Op.equalIn 10000 24 (W4 a0 a1 a2 a3) (W4 a0 a1 a2 a3)).run Try.prog w = .ok true w := by
  rw [eq24]; simp
theorem eq24_num {a0 a1 a2 a3 b0 b1 b2 b3 : Int} (ha : L4 a0 a1 a2 a3) (hb : L4 b0 b1 b2 b3) (w : World) :
    (Op.equalIn 10000 24 (W4 a0 a1 a2 a3) (W4 b0 b1 b2 b3)).run Try.prog w = .ok (num a0 a1 a2 a3 == num b0 b1 b2 b3) w := by
  rw [eq24]
  congr 1
  rw [Bool.eq_iff_iff]
  simp only [Bool.and_eq_true, beq_iff_eq]
  constructor
  · rintro ⟨rfl, rfl, rfl, rfl⟩; rfl
  · intro h
    obtain ⟨h0, h1, h2, h3⟩ := num_inj ha hb h
    exact ⟨h0, h1, h2, h3⟩

set_option maxHeartbeats 1000000 in
/-- word.Of -/
theorem of_any (n : Int) (w : World) :
    Calls Try.prog 45 #[.int .u64 n] w fun e w' => e = .returned (W4 n 0 0 0) ∧ Below w.heap.size w w' := by
  go_enter Try.func45, Try.ntmps45
  go_wp2
  go_returns
  exact ⟨rfl, by go_grown⟩
theorem limb0 : Limb 0 := ⟨by decide, by decide⟩
theorem of_L4 {n : Int} (h : Limb n) : L4 n 0 0 0 := ⟨h, limb0, limb0, limb0⟩
theorem of_num (n : Int) : num n 0 0 0 = n := by unfold num; omega

/-- Is it below 0, as a signed number? -/
def neg (n : Int) : Bool := decide (57896044618658097711785492504343953926634992332820282019728792003956564819968 ≤ n)
theorem neg_num {a0 a1 a2 a3 : Int} (ha : L4 a0 a1 a2 a3) : (a3 / 9223372036854775808 == 1) = neg (num a0 a1 a2 a3) := by
  obtain ⟨⟨_, _⟩, ⟨_, _⟩, ⟨_, _⟩, ⟨_, _⟩⟩ := ha
  unfold neg num
  rw [Bool.eq_iff_iff]
  simp only [beq_iff_eq, decide_eq_true_eq]
  omega
set_option maxHeartbeats 1000000 in
/-- word.Not -/
theorem not_any (a0 a1 a2 a3 : Int) (w : World) :
    Calls Try.prog 78 #[W4 a0 a1 a2 a3] w fun e w' => e = .returned (W4 (bits .xor .u64 IntKind.u64.max a0) (bits .xor .u64 IntKind.u64.max a1) (bits .xor .u64 IntKind.u64.max a2) (bits .xor .u64 IntKind.u64.max a3)) ∧ Below w.heap.size w w' := by
  unfold W4
  go_enter Try.func78, Try.ntmps78
  go_wp2
  refine wp_loop_rounds 5 ?_
  iterate 5
    rw [rounds_succ]
    go_wp2
  go_returns
  exact ⟨rfl, by go_grown⟩
set_option maxHeartbeats 1000000 in
/-- word.widen -/
theorem widen_any (a0 a1 a2 a3 x : Int) (w : World) :
    Calls Try.prog 81 #[W4 a0 a1 a2 a3, .int .u64 x] w fun e w' => e = .returned (W8 a0 a1 a2 a3 x 0 0 0) ∧ Below w.heap.size w w' := by
  unfold W4
  go_enter Try.func81, Try.ntmps81
  go_wp2
  go_returns
  exact ⟨rfl, by go_grown⟩
theorem max64 : IntKind.u64.max = 18446744073709551615 := by decide
/-- The other bits of a limb. -/
theorem comp64 {x : Int} (h : Limb x) : bits .xor .u64 IntKind.u64.max x = 18446744073709551615 - x := by
  obtain ⟨h0, h1⟩ := h
  obtain ⟨x, rfl⟩ := Int.eq_ofNat_of_zero_le h0
  have e := bits_xor_u64_nat 18446744073709551615 x (by omega) (by omega)
  rw [max64]
  refine e.trans ?_
  have : 18446744073709551615 ^^^ x = 18446744073709551615 - x := by
    have hx : x < 2 ^ 64 := by omega
    have h2 := congrArg BitVec.toNat (BitVec.allOnes_xor (x := BitVec.ofNat 64 x))
    rw [BitVec.toNat_xor, BitVec.toNat_not, BitVec.toNat_allOnes, BitVec.toNat_ofNat, Nat.mod_eq_of_lt hx] at h2
    exact h2
  omega
theorem not_L4 {a0 a1 a2 a3 : Int} (h : L4 a0 a1 a2 a3) : L4 (bits .xor .u64 IntKind.u64.max a0) (bits .xor .u64 IntKind.u64.max a1) (bits .xor .u64 IntKind.u64.max a2) (bits .xor .u64 IntKind.u64.max a3) := by
  rw [comp64 h.1, comp64 h.2.1, comp64 h.2.2.1, comp64 h.2.2.2]
  obtain ⟨⟨_, _⟩, ⟨_, _⟩, ⟨_, _⟩, ⟨_, _⟩⟩ := h
  exact ⟨⟨by omega, by omega⟩, ⟨by omega, by omega⟩, ⟨by omega, by omega⟩, ⟨by omega, by omega⟩⟩
theorem not_num {a0 a1 a2 a3 : Int} (h : L4 a0 a1 a2 a3) : num (bits .xor .u64 IntKind.u64.max a0) (bits .xor .u64 IntKind.u64.max a1) (bits .xor .u64 IntKind.u64.max a2) (bits .xor .u64 IntKind.u64.max a3) = T256 - 1 - num a0 a1 a2 a3 := by
  rw [comp64 h.1, comp64 h.2.1, comp64 h.2.2.1, comp64 h.2.2.2]
  unfold num T256; omega
end Go.Proofs.Ytmflilgppllebaa
