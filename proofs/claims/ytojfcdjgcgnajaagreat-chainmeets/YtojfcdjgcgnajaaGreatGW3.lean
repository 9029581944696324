/- W2, M1, W3 -/
import Derived.Test.YtojfcdjgcgnajaaGreatGW1
import Derived.Test.YtojfcdjgcgnajaaGreatP1
import Derived.Laws.StructEq
import Derived.Test.YtojfcdjgcgnajaaGreatGCM
namespace Go.Proofs.YtojfcdjgcgnajaaGreat
open Go.RowKit
set_option linter.unusedSimpArgs false
theorem size22 (w : World) : (sizeOf 22).run Tryz.prog w = .ok 1 w := by kernel_rfl
set_option maxHeartbeats 1000000 in
theorem eq24 (a0 a1 a2 a3 b0 b1 b2 b3 : Int) (w : World) :
 (Op.equalIn 10000 51 (W4 a0 a1 a2 a3) (W4 b0 b1 b2 b3)).run Tryz.prog w = .ok (a0 == b0 && (a1 == b1 && (a2 == b2 && a3 == b3))) w := by
 unfold W4; rw [Op.equalIn]; simp only [Sem.run_bind, run_underlying Tryz.underlying51, Result.andThen_ok, size22]; simp [Std.Legacy.Range.forIn_eq_forIn_range', List.range', go_sem]; by_cases h0 : a0 = b0 <;> by_cases h1 : a1 = b1 <;> by_cases h2 : a2 = b2 <;> by_cases h3 : a3 = b3 <;> simp [h0, h1, h2, h3]
theorem eq24_same (a0 a1 a2 a3 : Int) (w : World) : (Op.equalIn 10000 51 (W4 a0 a1 a2 a3) (W4 a0 a1 a2 a3)).run Tryz.prog w = .ok true w := by
 rw [eq24]; simp
theorem eq24_num {a0 a1 a2 a3 b0 b1 b2 b3 : Int} (ha : L4 a0 a1 a2 a3) (hb : L4 b0 b1 b2 b3) (w : World) :
 (Op.equalIn 10000 51 (W4 a0 a1 a2 a3) (W4 b0 b1 b2 b3)).run Tryz.prog w = .ok (num a0 a1 a2 a3 == num b0 b1 b2 b3) w := by
 rw [eq24]; congr 1; rw [Bool.eq_iff_iff]; simp only [Bool.and_eq_true, beq_iff_eq]; constructor
 · rintro ⟨rfl, rfl, rfl, rfl⟩; rfl
 · intro h
   obtain ⟨h0, h1, h2, h3⟩ := num_inj ha hb h; exact ⟨h0, h1, h2, h3⟩
theorem limb0 : Limb 0 := ⟨by decide, by decide⟩
theorem of_L4 {n : Int} (h : Limb n) : L4 n 0 0 0 := ⟨h, limb0, limb0, limb0⟩
theorem of_num (n : Int) : num n 0 0 0 = n := by unfold num; omega
def neg (n : Int) : Bool := decide (57896044618658097711785492504343953926634992332820282019728792003956564819968 ≤ n)
set_option maxHeartbeats 1000000 in
theorem not_any (a0 a1 a2 a3 : Int) (w : World) :
 Calls Tryz.prog 81 #[W4 a0 a1 a2 a3] w fun e w' => e = .returned (W4 (bits .xor .u64 IntKind.u64.max a0) (bits .xor .u64 IntKind.u64.max a1) (bits .xor .u64 IntKind.u64.max a2) (bits .xor .u64 IntKind.u64.max a3)) ∧ Below w.heap.size w w' := by
 unfold W4; go_enter Tryz.func81, Tryz.ntmps81; go_wp2; refine wp_loop_rounds 5 ?_; iterate 5
  rw [rounds_succ]; go_wp2
 go_returns
 exact ⟨rfl, by go_grown⟩
set_option maxHeartbeats 1000000 in
theorem widen_any (a0 a1 a2 a3 x : Int) (w : World) :
 Calls Tryz.prog 64 #[W4 a0 a1 a2 a3, .int .u64 x] w fun e w' => e = .returned (W8 a0 a1 a2 a3 x 0 0 0) ∧ Below w.heap.size w w' := by
 unfold W4; go_enter Tryz.func64, Tryz.ntmps64; go_wp2; go_returns; exact ⟨rfl, by go_grown⟩
theorem max64 : IntKind.u64.max = 18446744073709551615 := by decide
theorem comp64 {x : Int} (h : Limb x) : bits .xor .u64 IntKind.u64.max x = 18446744073709551615 - x := by
 obtain ⟨h0, h1⟩ := h; obtain ⟨x, rfl⟩ := Int.eq_ofNat_of_zero_le h0; have e := bits_xor_u64_nat 18446744073709551615 x (by omega) (by omega); rw [max64]; refine e.trans ?_; have : 18446744073709551615 ^^^ x = 18446744073709551615 - x := by
  have hx : x < 2 ^ 64 := by omega
  have h2 := congrArg BitVec.toNat (BitVec.allOnes_xor (x := BitVec.ofNat 64 x)); rw [BitVec.toNat_xor, BitVec.toNat_not, BitVec.toNat_allOnes, BitVec.toNat_ofNat, Nat.mod_eq_of_lt hx] at h2; exact h2
 omega
theorem not_L4 {a0 a1 a2 a3 : Int} (h : L4 a0 a1 a2 a3) : L4 (bits .xor .u64 IntKind.u64.max a0) (bits .xor .u64 IntKind.u64.max a1) (bits .xor .u64 IntKind.u64.max a2) (bits .xor .u64 IntKind.u64.max a3) := by
 rw [comp64 h.1, comp64 h.2.1, comp64 h.2.2.1, comp64 h.2.2.2]; obtain ⟨⟨_, _⟩, ⟨_, _⟩, ⟨_, _⟩, ⟨_, _⟩⟩ := h; exact ⟨⟨by omega, by omega⟩, ⟨by omega, by omega⟩, ⟨by omega, by omega⟩, ⟨by omega, by omega⟩⟩
theorem not_num {a0 a1 a2 a3 : Int} (h : L4 a0 a1 a2 a3) : num (bits .xor .u64 IntKind.u64.max a0) (bits .xor .u64 IntKind.u64.max a1) (bits .xor .u64 IntKind.u64.max a2) (bits .xor .u64 IntKind.u64.max a3) = T256 - 1 - num a0 a1 a2 a3 := by
 rw [comp64 h.1, comp64 h.2.1, comp64 h.2.2.1, comp64 h.2.2.2]; unfold num T256; omega
end Go.Proofs.YtojfcdjgcgnajaaGreat
namespace Go.Proofs.YtojfcdjgcgnajaaGreat
open Go.RowKit
theorem pow_split (r : Int) (h0 : 0 ≤ r) (h1 : r < 64) : (2 : Int) ^ r.toNat * 2 ^ (64 - r).toNat = 18446744073709551616 := by
 rw [← Int.pow_add, show r.toNat + (64 - r).toNat = 64 from by omega]; decide
theorem pow_pos' (n : Nat) : 0 < (2 : Int) ^ n := Int.pow_pos (by decide)
theorem up_parts (x r : Int) (h0 : 0 ≤ r) (h1 : r < 64) : x * 2 ^ r.toNat = IntKind.u64.wrap (x * 2 ^ r.toNat) + 18446744073709551616 * (x / 2 ^ (64 - r).toNat) := by
 have hp := pow_split r h0 h1; have h3 : x / 2 ^ (64 - r).toNat = x * 2 ^ r.toNat / 18446744073709551616 := by
  rw [← hp, Int.mul_comm x, Int.mul_ediv_mul_of_pos _ _ (pow_pos' _)]
 rw [h3, IntKind.wrap_u64]; omega
theorem up_bd (x r : Int) (h0 : 0 ≤ r) (h1 : r < 64) (hx : Limb x) : 0 ≤ x / 2 ^ (64 - r).toNat ∧ x / 2 ^ (64 - r).toNat < 2 ^ r.toNat := by
 have hp := pow_split r h0 h1; have hq := pow_pos' (64 - r).toNat; refine ⟨Int.ediv_nonneg hx.1 (Int.le_of_lt hq), ?_⟩; apply Int.ediv_lt_of_lt_mul hq; rw [hp]; exact hx.2
theorem up_or (x y r : Int) (h0 : 0 ≤ r) (h1 : r < 64) (hx : Limb x) (hy : Limb y) :
 bits .or .u64 (IntKind.u64.wrap (x * 2 ^ r.toNat)) (y / 2 ^ (64 - r).toNat) = IntKind.u64.wrap (x * 2 ^ r.toNat) + y / 2 ^ (64 - r).toNat := by
 obtain ⟨hy0, hy1⟩ := up_bd y r h0 h1 hy; have hp := pow_split r h0 h1; obtain ⟨x, rfl⟩ := Int.eq_ofNat_of_zero_le hx.1; obtain ⟨h, hh⟩ := Int.eq_ofNat_of_zero_le hy0; rw [hh] at hy1 ⊢; have hr : r.toNat ≤ 64 := by omega
 generalize r.toNat = k at *; have hk : (2 : Int) ^ k = ((2 ^ k : Nat) : Int) := by simp
 rw [hk] at hy1 ⊢; have e1 : IntKind.u64.wrap ((x : Int) * ((2 ^ k : Nat) : Int)) = (((x % 2 ^ (64 - k)) * 2 ^ k : Nat) : Int) := by
  rw [IntKind.wrap_u64, ← Nat.mul_mod_mul_right, ← Nat.pow_add, show 64 - k + k = 64 from by omega]; simp
 have hlt : h < 2 ^ k := Int.ofNat_lt.1 hy1; have hle : 2 ^ k ≤ 2 ^ 64 := Nat.pow_le_pow_right (by decide) hr; have e2 : (x % 2 ^ (64 - k)) * 2 ^ k < 18446744073709551616 := by
  have : (x % 2 ^ (64 - k)) * 2 ^ k < 2 ^ (64 - k) * 2 ^ k := Nat.mul_lt_mul_of_pos_right (Nat.mod_lt _ (Nat.pow_pos (by decide))) (Nat.pow_pos (by decide)); rw [← Nat.pow_add, show 64 - k + k = 64 from by omega] at this; exact this
 rw [e1]; rw [bits_or_u64_nat _ h e2 (by omega), ← Nat.shiftLeft_eq, ← Nat.shiftLeft_add_eq_or_of_lt hlt]; simp
theorem down_or (x y r : Int) (h0 : 0 ≤ r) (h1 : r < 64) (hx : Limb x) (hy : Limb y) :
 bits .or .u64 (x / 2 ^ r.toNat) (IntKind.u64.wrap (y * 2 ^ (64 - r).toNat)) = x / 2 ^ r.toNat + (y % 2 ^ r.toNat) * 2 ^ (64 - r).toNat := by
 have hp := pow_split r h0 h1; obtain ⟨x, rfl⟩ := Int.eq_ofNat_of_zero_le hx.1; obtain ⟨y, rfl⟩ := Int.eq_ofNat_of_zero_le hy.1; have hr : r.toNat ≤ 64 := by omega
 have hr2 : (64 - r).toNat = 64 - r.toNat := by omega
 rw [hr2] at *; generalize r.toNat = k at *; have hk : ∀ k : Nat, (2 : Int) ^ k = ((2 ^ k : Nat) : Int) := fun k => by simp
 rw [hk k, hk (64 - k)] at *; have e1 : IntKind.u64.wrap ((y : Int) * ((2 ^ (64 - k) : Nat) : Int)) = (((y % 2 ^ k) * 2 ^ (64 - k) : Nat) : Int) := by
  rw [IntKind.wrap_u64, ← Nat.mul_mod_mul_right, ← Nat.pow_add, show k + (64 - k) = 64 from by omega]; simp
 have e3 : (x : Int) / ((2 ^ k : Nat) : Int) = ((x / 2 ^ k : Nat) : Int) := by simp
 have hx1 : x < 18446744073709551616 := by have := hx.2; omega
 have hlt : x / 2 ^ k < 2 ^ (64 - k) := by
  apply Nat.div_lt_of_lt_mul
  rw [← Nat.pow_add, show k + (64 - k) = 64 from by omega]; exact hx1
 have e2 : (y % 2 ^ k) * 2 ^ (64 - k) < 18446744073709551616 := by
  have : (y % 2 ^ k) * 2 ^ (64 - k) < 2 ^ k * 2 ^ (64 - k) := Nat.mul_lt_mul_of_pos_right (Nat.mod_lt _ (Nat.pow_pos (by decide))) (Nat.pow_pos (by decide)); rw [← Nat.pow_add, show k + (64 - k) = 64 from by omega] at this; exact this
 have e4 : x / 2 ^ k < 18446744073709551616 := Nat.lt_of_le_of_lt (Nat.div_le_self _ _) hx1; rw [e1, e3]; rw [bits_or_u64_nat _ _ e4 e2, Nat.or_comm, ← Nat.shiftLeft_eq, ← Nat.shiftLeft_add_eq_or_of_lt hlt]; simp [Nat.shiftLeft_eq, Int.add_comm]
end Go.Proofs.YtojfcdjgcgnajaaGreat
namespace Go.Proofs.YtojfcdjgcgnajaaGreat
open Go.RowKit
set_option linter.unusedSimpArgs false
set_option linter.unusedVariables false
set_option maxHeartbeats 1000000 in
theorem of_exact (n : Int) (w : World) :
 Calls Tryz.prog 43 #[.int .u64 n] w fun e w' => e = .returned (W4 n 0 0 0) ∧ ∃ c, w' = w.alloc (.cells c 51) := by
 go_enter Tryz.func43, Tryz.ntmps43
 go_wp2; go_returns
 exact ⟨rfl, _, rfl⟩
set_option maxHeartbeats 1000000 in
theorem uint_core (a0 a1 a2 a3 : Int) (r : Bool) (hr : (a0 == a0 && (a1 == 0 && (a2 == 0 && a3 == 0))) = r) (w : World) :
 Calls Tryz.prog 147 #[W4 a0 a1 a2 a3] w fun e w' => e = .returned (.tuple #[.int .u64 (bif r then a0 else 0), .bool r]) ∧ ∃ c1 c2, w' = ((w.alloc (.cells c1 51)).alloc (.cells c2 51)).drew := by
 have q : ∀ w, (Op.equalIn 10000 51 (W4 a0 a1 a2 a3) (W4 a0 0 0 0)).run Tryz.prog w = .ok r w := fun w => by rw [eq24, hr]
 clear hr; unfold W4 at *; cases r with
 | true =>
   go_enter Tryz.func147, Tryz.ntmps147
   go_wp2; go_region_held3 (fun w' => w'.cell? ⟨w.heap.size, 0, none⟩ = some (.int .u64 a0) ∧ w'.cell? ⟨w.heap.size, 1, none⟩ = some (.int .u64 a1) ∧ w'.cell? ⟨w.heap.size, 2, none⟩ = some (.int .u64 a2) ∧ w'.cell? ⟨w.heap.size, 3, none⟩ = some (.int .u64 a3)) (simp [go_sem, World.cell?_alloc_past])
    (first | (go_at_call 43; refine (of_exact _ _).mono ?_; rintro e w' ⟨rfl, c, rfl⟩))
   go_wp2; go_ret2
   exact ⟨rfl, _, _, rfl⟩
 | false =>
   go_enter Tryz.func147, Tryz.ntmps147
   go_wp2; go_region_held3 (fun w' => w'.cell? ⟨w.heap.size, 0, none⟩ = some (.int .u64 a0) ∧ w'.cell? ⟨w.heap.size, 1, none⟩ = some (.int .u64 a1) ∧ w'.cell? ⟨w.heap.size, 2, none⟩ = some (.int .u64 a2) ∧ w'.cell? ⟨w.heap.size, 3, none⟩ = some (.int .u64 a3)) (simp [go_sem, World.cell?_alloc_past])
    (first | (go_at_call 43; refine (of_exact _ _).mono ?_; rintro e w' ⟨rfl, c, rfl⟩))
   go_wp2; go_ret2
   exact ⟨rfl, _, _, rfl⟩
theorem uint_yes (a0 : Int) (w : World) :
 Calls Tryz.prog 147 #[W4 a0 0 0 0] w fun e w' => e = .returned (.tuple #[.int .u64 a0, .bool true]) ∧ ∃ c1 c2, w' = ((w.alloc (.cells c1 51)).alloc (.cells c2 51)).drew :=
 uint_core a0 0 0 0 true (by simp) w
theorem num_small {a0 a1 a2 a3 : Int} (h : L4 a0 a1 a2 a3) (hn : num a0 a1 a2 a3 < 18446744073709551616) : a1 = 0 ∧ a2 = 0 ∧ a3 = 0 ∧ num a0 a1 a2 a3 = a0 := by
 obtain ⟨⟨_, _⟩, ⟨_, _⟩, ⟨_, _⟩, ⟨_, _⟩⟩ := h; unfold num at *; omega
theorem uint_no (a0 a1 a2 a3 : Int) (ha : L4 a0 a1 a2 a3) (hn : 18446744073709551616 ≤ num a0 a1 a2 a3) (w : World) :
 Calls Tryz.prog 147 #[W4 a0 a1 a2 a3] w fun e w' => e = .returned (.tuple #[.int .u64 0, .bool false]) ∧ ∃ c1 c2, w' = ((w.alloc (.cells c1 51)).alloc (.cells c2 51)).drew := by
 refine uint_core a0 a1 a2 a3 false ?_ w; by_cases h : a1 = 0 ∧ a2 = 0 ∧ a3 = 0
 · exfalso
   obtain ⟨rfl, rfl, rfl⟩ := h; have := ha.1.2; unfold num at hn; omega
 · by_cases h1 : a1 = 0 <;> by_cases h2 : a2 = 0 <;> by_cases h3 : a3 = 0 <;> simp_all
set_option maxHeartbeats 1000000 in
theorem below_yes (a0 lim : Int) (h0 : 0 ≤ a0) (h1 : a0 < lim) (h2 : lim ≤ 4096) (w : World) :
 Calls Tryz.prog 130 #[W4 a0 0 0 0, .int .u64 lim] w fun e w' => e = .returned (.tuple #[.int .i64 a0, .bool true]) ∧ ∃ c1 c2 c3, w' = (((w.alloc (.cells c1 51)).alloc (.cells c2 51)).alloc (.cells c3 51)).drew := by
 unfold W4; go_enter Tryz.func130, Tryz.ntmps130; go_wp2_with fail; refine (uint_yes a0 _).mono ?_; rintro e w1 ⟨rfl, c1, c2, rfl⟩; go_wp2; go_ret2; exact ⟨rfl, _, _, _, rfl⟩
set_option maxHeartbeats 1000000 in
theorem below_no (a0 a1 a2 a3 lim : Int) (ha : L4 a0 a1 a2 a3) (h1 : lim ≤ num a0 a1 a2 a3) (w : World) :
 Calls Tryz.prog 130 #[W4 a0 a1 a2 a3, .int .u64 lim] w fun e w' => e = .returned (.tuple #[.int .i64 0, .bool false]) ∧ ∃ c1 c2 c3, w' = (((w.alloc (.cells c1 51)).alloc (.cells c2 51)).alloc (.cells c3 51)).drew := by
 by_cases hn : num a0 a1 a2 a3 < 18446744073709551616
 · obtain ⟨rfl, rfl, rfl, he⟩ := num_small ha hn
   rw [he] at h1; clear he hn; have ⟨hl0, hl1⟩ := ha.1; clear ha; unfold W4; go_enter Tryz.func130, Tryz.ntmps130; go_wp2_with fail; refine (uint_yes a0 _).mono ?_; rintro e w1 ⟨rfl, c1, c2, rfl⟩; go_wp2; go_ret2; exact ⟨rfl, _, _, _, rfl⟩
 · have hu := uint_no a0 a1 a2 a3 ha (by omega)
   have HU : Hid _ := hu; clear hu h1 hn; unfold W4 at *; go_enter Tryz.func130, Tryz.ntmps130; go_wp2_with fail; refine (HU.out _).mono ?_; rintro e w1 ⟨rfl, c1, c2, rfl⟩; go_wp2; go_ret2; exact ⟨rfl, _, _, _, rfl⟩
theorem limb_wrap (x : Int) : Limb (IntKind.u64.wrap x) := by rw [IntKind.wrap_u64]; exact ⟨by omega, by omega⟩
theorem limb_of_wf {x : Int} (h : (Lit.int .u64 x).wf = true) : Limb x := by
 simp [Lit.wf, IntKind.min, IntKind.max, IntKind.signed, IntKind.bits] at h
 exact ⟨by omega, by omega⟩
theorem limb_bits (op : BinOp) (a b : Int) : Limb (bits op .u64 a b) := limb_of_wf (wf_bits ..)
theorem shl_pow (n k r : Int) (hr0 : 0 ≤ r) (hk : 0 ≤ k) (hn : n = 64 * k + r) : (2 : Int) ^ n.toNat = 2 ^ r.toNat * 2 ^ (64 * k).toNat := by
 rw [← Int.pow_add]; congr 1; omega
theorem shl_num0 {x0 x1 x2 x3 r : Int} (h0 : 0 ≤ r) (h1 : r < 64) (hx : L4 x0 x1 x2 x3) (n : Int) (hn : n = 0 + r) :
 num (IntKind.u64.wrap (x0 * 2 ^ r.toNat)) (bits .or .u64 (IntKind.u64.wrap (x1 * 2 ^ r.toNat)) (x0 / 2 ^ (64 - r).toNat)) (bits .or .u64 (IntKind.u64.wrap (x2 * 2 ^ r.toNat)) (x1 / 2 ^ (64 - r).toNat)) (bits .or .u64 (IntKind.u64.wrap (x3 * 2 ^ r.toNat)) (x2 / 2 ^ (64 - r).toNat)) = (num x0 x1 x2 x3 * 2 ^ n.toNat) % T256 := by
 have hL : L4 (IntKind.u64.wrap (x0 * 2 ^ r.toNat)) (bits .or .u64 (IntKind.u64.wrap (x1 * 2 ^ r.toNat)) (x0 / 2 ^ (64 - r).toNat)) (bits .or .u64 (IntKind.u64.wrap (x2 * 2 ^ r.toNat)) (x1 / 2 ^ (64 - r).toNat)) (bits .or .u64 (IntKind.u64.wrap (x3 * 2 ^ r.toNat)) (x2 / 2 ^ (64 - r).toNat)) := ⟨limb_wrap _, limb_bits _ _ _, limb_bits _ _ _, limb_bits _ _ _⟩
 have hbd := num_bd hL; clear hL; obtain ⟨hx0, hx1, hx2, hx3⟩ := hx; have e0 := up_parts x0 r h0 h1; have e1 := up_parts x1 r h0 h1; have e2 := up_parts x2 r h0 h1; have e3 := up_parts x3 r h0 h1; rw [up_or x1 x0 r h0 h1 hx1 hx0, up_or x2 x1 r h0 h1 hx2 hx1, up_or x3 x2 r h0 h1 hx3 hx2] at *; rw [shl_pow n 0 r h0 (by decide) (by omega), ← Int.mul_assoc, num_mul]; generalize IntKind.u64.wrap (x0 * 2 ^ r.toNat) = m0 at *; generalize IntKind.u64.wrap (x1 * 2 ^ r.toNat) = m1 at *; generalize IntKind.u64.wrap (x2 * 2 ^ r.toNat) = m2 at *; generalize IntKind.u64.wrap (x3 * 2 ^ r.toNat) = m3 at *; generalize x0 / 2 ^ (64 - r).toNat = g0 at *; generalize x1 / 2 ^ (64 - r).toNat = g1 at *; generalize x2 / 2 ^ (64 - r).toNat = g2 at *; generalize x3 / 2 ^ (64 - r).toNat = g3 at *; rw [e0, e1, e2, e3]; clear e0 e1 e2 e3; have hpk : (2 : Int) ^ (64 * (0 : Int)).toNat = 1 := by decide
 rw [hpk]; unfold num T256 at *; omega
set_option maxHeartbeats 1000000 in
theorem shl_walk0 (n0 r x0 x1 x2 x3 : Int) (hn0 : 0 ≤ n0) (hn1 : n0 < 64) (hm : n0 % 64 = r) (hr0 : 0 ≤ r) (hr1 : r < 64) (w : World) :
 Calls Tryz.prog 99 #[W4 n0 0 0 0, W4 x0 x1 x2 x3] w fun e w' => e = .returned (W4 (IntKind.u64.wrap (x0 * 2 ^ r.toNat)) (bits .or .u64 (IntKind.u64.wrap (x1 * 2 ^ r.toNat)) (x0 / 2 ^ (64 - r).toNat)) (bits .or .u64 (IntKind.u64.wrap (x2 * 2 ^ r.toNat)) (x1 / 2 ^ (64 - r).toNat)) (bits .or .u64 (IntKind.u64.wrap (x3 * 2 ^ r.toNat)) (x2 / 2 ^ (64 - r).toNat))) ∧ Below w.heap.size w w' := by
 have hq : n0 / 64 = 0 := by omega
 have hb := below_yes n0 256 (by omega) (by omega) (by decide); have HB : Hid _ := hb; clear hb; unfold W4 at *; go_enter Tryz.func99, Tryz.ntmps99; go_wp2_with fail; refine (HB.out _).mono ?_; rintro e w1 ⟨rfl, c1, c2, c3, rfl⟩; clear HB; go_wp2; refine wp_loop_rounds 5 ?_; rw [rounds_succ]; go_wp2; rw [rounds_succ]; go_wp2; go_region; go_wp2; rw [rounds_succ]; go_wp2; go_region; go_wp2; rw [rounds_succ]; go_wp2; go_region; go_wp2; rw [rounds_succ]; go_wp2; go_returns; exact ⟨rfl, by go_grown⟩
theorem shl_in0 (n0 x0 x1 x2 x3 : Int) (hn0 : 0 ≤ n0) (hn1 : n0 < 64) (hx : L4 x0 x1 x2 x3) (w : World) :
 Calls Tryz.prog 99 #[W4 n0 0 0 0, W4 x0 x1 x2 x3] w fun e w' => ∃ s0 s1 s2 s3 : Int, e = .returned (W4 s0 s1 s2 s3) ∧ L4 s0 s1 s2 s3 ∧ Hid (num s0 s1 s2 s3 = (num x0 x1 x2 x3 * 2 ^ n0.toNat) % T256) ∧ Below w.heap.size w w' := by
 refine (shl_walk0 n0 (n0 % 64) x0 x1 x2 x3 hn0 hn1 rfl (by omega) (by omega) w).mono ?_; rintro e w' ⟨rfl, hw⟩; exact ⟨_, _, _, _, rfl, ⟨limb_wrap _, limb_bits _ _ _, limb_bits _ _ _, limb_bits _ _ _⟩, shl_num0 (by omega) (by omega) hx n0 (by omega), hw⟩
theorem shl_num1 {x0 x1 x2 x3 r : Int} (h0 : 0 ≤ r) (h1 : r < 64) (hx : L4 x0 x1 x2 x3) (n : Int) (hn : n = 64 + r) :
 num 0 (IntKind.u64.wrap (x0 * 2 ^ r.toNat)) (bits .or .u64 (IntKind.u64.wrap (x1 * 2 ^ r.toNat)) (x0 / 2 ^ (64 - r).toNat)) (bits .or .u64 (IntKind.u64.wrap (x2 * 2 ^ r.toNat)) (x1 / 2 ^ (64 - r).toNat)) = (num x0 x1 x2 x3 * 2 ^ n.toNat) % T256 := by
 have hL : L4 0 (IntKind.u64.wrap (x0 * 2 ^ r.toNat)) (bits .or .u64 (IntKind.u64.wrap (x1 * 2 ^ r.toNat)) (x0 / 2 ^ (64 - r).toNat)) (bits .or .u64 (IntKind.u64.wrap (x2 * 2 ^ r.toNat)) (x1 / 2 ^ (64 - r).toNat)) := ⟨limb0, limb_wrap _, limb_bits _ _ _, limb_bits _ _ _⟩
 have hbd := num_bd hL; clear hL; obtain ⟨hx0, hx1, hx2, hx3⟩ := hx; have e0 := up_parts x0 r h0 h1; have e1 := up_parts x1 r h0 h1; have e2 := up_parts x2 r h0 h1; have e3 := up_parts x3 r h0 h1; rw [up_or x1 x0 r h0 h1 hx1 hx0, up_or x2 x1 r h0 h1 hx2 hx1] at *; rw [shl_pow n 1 r h0 (by decide) (by omega), ← Int.mul_assoc, num_mul]; generalize IntKind.u64.wrap (x0 * 2 ^ r.toNat) = m0 at *; generalize IntKind.u64.wrap (x1 * 2 ^ r.toNat) = m1 at *; generalize IntKind.u64.wrap (x2 * 2 ^ r.toNat) = m2 at *; generalize IntKind.u64.wrap (x3 * 2 ^ r.toNat) = m3 at *; generalize x0 / 2 ^ (64 - r).toNat = g0 at *; generalize x1 / 2 ^ (64 - r).toNat = g1 at *; generalize x2 / 2 ^ (64 - r).toNat = g2 at *; generalize x3 / 2 ^ (64 - r).toNat = g3 at *; rw [e0, e1, e2, e3]; clear e0 e1 e2 e3; have hpk : (2 : Int) ^ (64 * (1 : Int)).toNat = 18446744073709551616 := by decide
 rw [hpk]; unfold num T256 at *; omega
set_option maxHeartbeats 1000000 in
theorem shl_walk1 (n0 r x0 x1 x2 x3 : Int) (hn0 : 64 ≤ n0) (hn1 : n0 < 128) (hm : n0 % 64 = r) (hr0 : 0 ≤ r) (hr1 : r < 64) (w : World) :
 Calls Tryz.prog 99 #[W4 n0 0 0 0, W4 x0 x1 x2 x3] w fun e w' => e = .returned (W4 0 (IntKind.u64.wrap (x0 * 2 ^ r.toNat)) (bits .or .u64 (IntKind.u64.wrap (x1 * 2 ^ r.toNat)) (x0 / 2 ^ (64 - r).toNat)) (bits .or .u64 (IntKind.u64.wrap (x2 * 2 ^ r.toNat)) (x1 / 2 ^ (64 - r).toNat))) ∧ Below w.heap.size w w' := by
 have hq : n0 / 64 = 1 := by omega
 have hb := below_yes n0 256 (by omega) (by omega) (by decide); have HB : Hid _ := hb; clear hb; unfold W4 at *; go_enter Tryz.func99, Tryz.ntmps99; go_wp2_with fail; refine (HB.out _).mono ?_; rintro e w1 ⟨rfl, c1, c2, c3, rfl⟩; clear HB; go_wp2; refine wp_loop_rounds 5 ?_; rw [rounds_succ]; go_wp2; rw [rounds_succ]; go_wp2; go_region; go_wp2; rw [rounds_succ]; go_wp2; go_region; go_wp2; rw [rounds_succ]; go_wp2; go_returns; exact ⟨rfl, by go_grown⟩
theorem shl_in1 (n0 x0 x1 x2 x3 : Int) (hn0 : 64 ≤ n0) (hn1 : n0 < 128) (hx : L4 x0 x1 x2 x3) (w : World) :
 Calls Tryz.prog 99 #[W4 n0 0 0 0, W4 x0 x1 x2 x3] w fun e w' => ∃ s0 s1 s2 s3 : Int, e = .returned (W4 s0 s1 s2 s3) ∧ L4 s0 s1 s2 s3 ∧ Hid (num s0 s1 s2 s3 = (num x0 x1 x2 x3 * 2 ^ n0.toNat) % T256) ∧ Below w.heap.size w w' := by
 refine (shl_walk1 n0 (n0 % 64) x0 x1 x2 x3 hn0 hn1 rfl (by omega) (by omega) w).mono ?_; rintro e w' ⟨rfl, hw⟩; exact ⟨_, _, _, _, rfl, ⟨limb0, limb_wrap _, limb_bits _ _ _, limb_bits _ _ _⟩, shl_num1 (by omega) (by omega) hx n0 (by omega), hw⟩
theorem shl_num2 {x0 x1 x2 x3 r : Int} (h0 : 0 ≤ r) (h1 : r < 64) (hx : L4 x0 x1 x2 x3) (n : Int) (hn : n = 128 + r) :
 num 0 0 (IntKind.u64.wrap (x0 * 2 ^ r.toNat)) (bits .or .u64 (IntKind.u64.wrap (x1 * 2 ^ r.toNat)) (x0 / 2 ^ (64 - r).toNat)) = (num x0 x1 x2 x3 * 2 ^ n.toNat) % T256 := by
 have hL : L4 0 0 (IntKind.u64.wrap (x0 * 2 ^ r.toNat)) (bits .or .u64 (IntKind.u64.wrap (x1 * 2 ^ r.toNat)) (x0 / 2 ^ (64 - r).toNat)) := ⟨limb0, limb0, limb_wrap _, limb_bits _ _ _⟩
 have hbd := num_bd hL; clear hL; obtain ⟨hx0, hx1, hx2, hx3⟩ := hx; have e0 := up_parts x0 r h0 h1; have e1 := up_parts x1 r h0 h1; have e2 := up_parts x2 r h0 h1; have e3 := up_parts x3 r h0 h1; rw [up_or x1 x0 r h0 h1 hx1 hx0] at *; rw [shl_pow n 2 r h0 (by decide) (by omega), ← Int.mul_assoc, num_mul]; generalize IntKind.u64.wrap (x0 * 2 ^ r.toNat) = m0 at *; generalize IntKind.u64.wrap (x1 * 2 ^ r.toNat) = m1 at *; generalize IntKind.u64.wrap (x2 * 2 ^ r.toNat) = m2 at *; generalize IntKind.u64.wrap (x3 * 2 ^ r.toNat) = m3 at *; generalize x0 / 2 ^ (64 - r).toNat = g0 at *; generalize x1 / 2 ^ (64 - r).toNat = g1 at *; generalize x2 / 2 ^ (64 - r).toNat = g2 at *; generalize x3 / 2 ^ (64 - r).toNat = g3 at *; rw [e0, e1, e2, e3]; clear e0 e1 e2 e3; have hpk : (2 : Int) ^ (64 * (2 : Int)).toNat = 340282366920938463463374607431768211456 := by decide
 rw [hpk]; unfold num T256 at *; omega
set_option maxHeartbeats 1000000 in
theorem shl_walk2 (n0 r x0 x1 x2 x3 : Int) (hn0 : 128 ≤ n0) (hn1 : n0 < 192) (hm : n0 % 64 = r) (hr0 : 0 ≤ r) (hr1 : r < 64) (w : World) :
 Calls Tryz.prog 99 #[W4 n0 0 0 0, W4 x0 x1 x2 x3] w fun e w' => e = .returned (W4 0 0 (IntKind.u64.wrap (x0 * 2 ^ r.toNat)) (bits .or .u64 (IntKind.u64.wrap (x1 * 2 ^ r.toNat)) (x0 / 2 ^ (64 - r).toNat))) ∧ Below w.heap.size w w' := by
 have hq : n0 / 64 = 2 := by omega
 have hb := below_yes n0 256 (by omega) (by omega) (by decide); have HB : Hid _ := hb; clear hb; unfold W4 at *; go_enter Tryz.func99, Tryz.ntmps99; go_wp2_with fail; refine (HB.out _).mono ?_; rintro e w1 ⟨rfl, c1, c2, c3, rfl⟩; clear HB; go_wp2; refine wp_loop_rounds 5 ?_; rw [rounds_succ]; go_wp2; rw [rounds_succ]; go_wp2; go_region; go_wp2; rw [rounds_succ]; go_wp2; go_returns; exact ⟨rfl, by go_grown⟩
theorem shl_in2 (n0 x0 x1 x2 x3 : Int) (hn0 : 128 ≤ n0) (hn1 : n0 < 192) (hx : L4 x0 x1 x2 x3) (w : World) :
 Calls Tryz.prog 99 #[W4 n0 0 0 0, W4 x0 x1 x2 x3] w fun e w' => ∃ s0 s1 s2 s3 : Int, e = .returned (W4 s0 s1 s2 s3) ∧ L4 s0 s1 s2 s3 ∧ Hid (num s0 s1 s2 s3 = (num x0 x1 x2 x3 * 2 ^ n0.toNat) % T256) ∧ Below w.heap.size w w' := by
 refine (shl_walk2 n0 (n0 % 64) x0 x1 x2 x3 hn0 hn1 rfl (by omega) (by omega) w).mono ?_; rintro e w' ⟨rfl, hw⟩; exact ⟨_, _, _, _, rfl, ⟨limb0, limb0, limb_wrap _, limb_bits _ _ _⟩, shl_num2 (by omega) (by omega) hx n0 (by omega), hw⟩
theorem shl_num3 {x0 x1 x2 x3 r : Int} (h0 : 0 ≤ r) (h1 : r < 64) (hx : L4 x0 x1 x2 x3) (n : Int) (hn : n = 192 + r) :
 num 0 0 0 (IntKind.u64.wrap (x0 * 2 ^ r.toNat)) = (num x0 x1 x2 x3 * 2 ^ n.toNat) % T256 := by
 have hL : L4 0 0 0 (IntKind.u64.wrap (x0 * 2 ^ r.toNat)) := ⟨limb0, limb0, limb0, limb_wrap _⟩
 have hbd := num_bd hL; clear hL; obtain ⟨hx0, hx1, hx2, hx3⟩ := hx; have e0 := up_parts x0 r h0 h1; have e1 := up_parts x1 r h0 h1; have e2 := up_parts x2 r h0 h1; have e3 := up_parts x3 r h0 h1
 skip
 rw [shl_pow n 3 r h0 (by decide) (by omega), ← Int.mul_assoc, num_mul]; generalize IntKind.u64.wrap (x0 * 2 ^ r.toNat) = m0 at *; generalize IntKind.u64.wrap (x1 * 2 ^ r.toNat) = m1 at *; generalize IntKind.u64.wrap (x2 * 2 ^ r.toNat) = m2 at *; generalize IntKind.u64.wrap (x3 * 2 ^ r.toNat) = m3 at *; generalize x0 / 2 ^ (64 - r).toNat = g0 at *; generalize x1 / 2 ^ (64 - r).toNat = g1 at *; generalize x2 / 2 ^ (64 - r).toNat = g2 at *; generalize x3 / 2 ^ (64 - r).toNat = g3 at *; rw [e0, e1, e2, e3]; clear e0 e1 e2 e3; have hpk : (2 : Int) ^ (64 * (3 : Int)).toNat = 6277101735386680763835789423207666416102355444464034512896 := by decide
 rw [hpk]; unfold num T256 at *; omega
set_option maxHeartbeats 1000000 in
theorem shl_walk3 (n0 r x0 x1 x2 x3 : Int) (hn0 : 192 ≤ n0) (hn1 : n0 < 256) (hm : n0 % 64 = r) (hr0 : 0 ≤ r) (hr1 : r < 64) (w : World) :
 Calls Tryz.prog 99 #[W4 n0 0 0 0, W4 x0 x1 x2 x3] w fun e w' => e = .returned (W4 0 0 0 (IntKind.u64.wrap (x0 * 2 ^ r.toNat))) ∧ Below w.heap.size w w' := by
 have hq : n0 / 64 = 3 := by omega
 have hb := below_yes n0 256 (by omega) (by omega) (by decide); have HB : Hid _ := hb; clear hb; unfold W4 at *; go_enter Tryz.func99, Tryz.ntmps99; go_wp2_with fail; refine (HB.out _).mono ?_; rintro e w1 ⟨rfl, c1, c2, c3, rfl⟩; clear HB; go_wp2; refine wp_loop_rounds 5 ?_; rw [rounds_succ]; go_wp2; rw [rounds_succ]; go_wp2; go_returns; exact ⟨rfl, by go_grown⟩
theorem shl_in3 (n0 x0 x1 x2 x3 : Int) (hn0 : 192 ≤ n0) (hn1 : n0 < 256) (hx : L4 x0 x1 x2 x3) (w : World) :
 Calls Tryz.prog 99 #[W4 n0 0 0 0, W4 x0 x1 x2 x3] w fun e w' => ∃ s0 s1 s2 s3 : Int, e = .returned (W4 s0 s1 s2 s3) ∧ L4 s0 s1 s2 s3 ∧ Hid (num s0 s1 s2 s3 = (num x0 x1 x2 x3 * 2 ^ n0.toNat) % T256) ∧ Below w.heap.size w w' := by
 refine (shl_walk3 n0 (n0 % 64) x0 x1 x2 x3 hn0 hn1 rfl (by omega) (by omega) w).mono ?_; rintro e w' ⟨rfl, hw⟩; exact ⟨_, _, _, _, rfl, ⟨limb0, limb0, limb0, limb_wrap _⟩, shl_num3 (by omega) (by omega) hx n0 (by omega), hw⟩
set_option maxHeartbeats 1000000 in
theorem shl_out (n0 n1 n2 n3 x0 x1 x2 x3 : Int) (hn : L4 n0 n1 n2 n3) (h : 256 ≤ num n0 n1 n2 n3) (w : World) :
 Calls Tryz.prog 99 #[W4 n0 n1 n2 n3, W4 x0 x1 x2 x3] w fun e w' => e = .returned (W4 0 0 0 0) ∧ Below w.heap.size w w' := by
 have hb := below_no n0 n1 n2 n3 256 hn h; have HB : Hid _ := hb; clear hb hn h; unfold W4 at *; go_enter Tryz.func99, Tryz.ntmps99; go_wp2_with fail; refine (HB.out _).mono ?_; rintro e w1 ⟨rfl, c1, c2, c3, rfl⟩; clear HB; go_wp2; go_returns; exact ⟨rfl, by go_grown⟩
def shlN (n x : Int) : Int := if n < 256 then (x * 2 ^ n.toNat) % T256 else 0
theorem shl_any (n0 n1 n2 n3 x0 x1 x2 x3 : Int) (hn : L4 n0 n1 n2 n3) (hx : L4 x0 x1 x2 x3) (w : World) :
 Calls Tryz.prog 99 #[W4 n0 n1 n2 n3, W4 x0 x1 x2 x3] w fun e w' => ∃ s0 s1 s2 s3 : Int, e = .returned (W4 s0 s1 s2 s3) ∧ L4 s0 s1 s2 s3 ∧ Hid (num s0 s1 s2 s3 = shlN (num n0 n1 n2 n3) (num x0 x1 x2 x3)) ∧ Below w.heap.size w w' := by
 by_cases h : num n0 n1 n2 n3 < 256
 · obtain ⟨rfl, rfl, rfl, he⟩ := num_small hn (by omega)
   have h0 := hn.1.1; have e : shlN (num n0 0 0 0) (num x0 x1 x2 x3) = (num x0 x1 x2 x3 * 2 ^ n0.toNat) % T256 := by unfold shlN; rw [if_pos h, he]
   rw [e]; rw [he] at h; rcases (by omega : n0 < 64 ∨ (64 ≤ n0 ∧ n0 < 128) ∨ (128 ≤ n0 ∧ n0 < 192) ∨ (192 ≤ n0 ∧ n0 < 256)) with g | ⟨g, g'⟩ | ⟨g, g'⟩ | ⟨g, g'⟩
   · exact shl_in0 n0 x0 x1 x2 x3 h0 g hx w
   · exact shl_in1 n0 x0 x1 x2 x3 g g' hx w
   · exact shl_in2 n0 x0 x1 x2 x3 g g' hx w
   · exact shl_in3 n0 x0 x1 x2 x3 g g' hx w
 · have e : shlN (num n0 n1 n2 n3) (num x0 x1 x2 x3) = 0 := by unfold shlN; rw [if_neg h]
   rw [e]; refine (shl_out n0 n1 n2 n3 x0 x1 x2 x3 hn (by omega) w).mono ?_; rintro e w' ⟨rfl, hw⟩; exact ⟨0, 0, 0, 0, rfl, of_L4 limb0, of_num 0, hw⟩
end Go.Proofs.YtojfcdjgcgnajaaGreat
