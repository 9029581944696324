/- Walks over package word: the whole product of two words. -/
import Derived.Test.YtojfcdjgcgnajaaGreatGCM
namespace Go.Proofs.YtojfcdjgcgnajaaGreat
open Go.RowKit
set_option linter.unusedSimpArgs false
set_option maxHeartbeats 1000000 in
theorem mulAdd_any (a b c d : Int) (ha : Limb a) (hb : Limb b) (hc : Limb c) (hd : Limb d) (w : World) :
 Calls Tryz.prog 103 #[.int .u64 a, .int .u64 b, .int .u64 c, .int .u64 d] w fun e w' =>
  ∃ l h : Int, e = .returned (.tuple #[.int .u64 l, .int .u64 h]) ∧ Limb l ∧ Limb h ∧ Hid (a * b + c + d = l + 18446744073709551616 * h) ∧ w' = w := by
 go_enter Tryz.func103, Tryz.ntmps103
 go_wp2_with fail
 refine (mul64_any a b ha hb _).mono ?_; rintro e w' ⟨h, l, rfl, hl, ⟨hh0, hh1⟩, hE, rfl⟩; obtain ⟨s, m, r1, ls, p1, q1, e1⟩ := add64_ex l c 0 hl hc (by decide) (by decide); obtain ⟨t, n, r2, lt, p2, q2, e2⟩ := add64_ex s d 0 ls hd (by decide) (by decide); have hab : a * b ≤ 18446744073709551615 * 18446744073709551615 := Int.mul_le_mul (by have := ha.2; omega) (by have := hb.2; omega) hb.1 (by decide); have hE2 : Hid (a * b + c + d = t + 18446744073709551616 * (h + m + n)) := by
  unfold Hid at *; omega
 have hbd : h + m + n ≤ 18446744073709551615 := by
  have := hc.2; have := hd.2; have := lt.1; unfold Hid at *; omega
 clear hab e1 e2 hE; go_wp2; go_ret2; exact ⟨t, h + m + n, rfl, lt, ⟨by omega, by omega⟩, hE2, rfl⟩
theorem mulAdd_ex (a b c d : Int) (ha : Limb a) (hb : Limb b) (hc : Limb c) (hd : Limb d) : ∃ l h : Int,
 (∀ w, Calls Tryz.prog 103 #[.int .u64 a, .int .u64 b, .int .u64 c, .int .u64 d] w fun e w' => e = .returned (.tuple #[.int .u64 l, .int .u64 h]) ∧ w' = w) ∧ Limb l ∧ Limb h ∧ Hid (a * b + c + d = l + 18446744073709551616 * h) := by
 have hab : a * b ≤ 18446744073709551615 * 18446744073709551615 := Int.mul_le_mul (by have := ha.2; omega) (by have := hb.2; omega) hb.1 (by decide); have hab0 : 0 ≤ a * b := Int.mul_nonneg ha.1 hb.1; refine ⟨(a * b + c + d) % 18446744073709551616, (a * b + c + d) / 18446744073709551616, fun w => ?_, ⟨by omega, by omega⟩, ⟨by have := hc.1; have := hd.1; omega, by have := hc.2; have := hd.2; omega⟩, by show a * b + c + d = _; omega⟩; refine (mulAdd_any a b c d ha hb hc hd w).mono ?_; rintro e w' ⟨l, h, rfl, ⟨hl0, hl1⟩, ⟨hh0, hh1⟩, hE, rfl⟩; have hE' : a * b + c + d = l + 18446744073709551616 * h := hE; rw [hE']; have e1 : (l + 18446744073709551616 * h) % 18446744073709551616 = l := by omega
 have e2 : (l + 18446744073709551616 * h) / 18446744073709551616 = h := by omega
 rw [e1, e2]; exact ⟨rfl, rfl⟩
theorem mul_num (x b0 b1 b2 b3 : Int) : x * num b0 b1 b2 b3 = x * b0 + 18446744073709551616 * (x * b1) + 340282366920938463463374607431768211456 * (x * b2) + 6277101735386680763835789423207666416102355444464034512896 * (x * b3) := by
 unfold num; rw [Int.mul_add, Int.mul_add, Int.mul_add, Int.mul_left_comm x _ b1, Int.mul_left_comm x _ b2, Int.mul_left_comm x _ b3]
theorem num_mul (a0 a1 a2 a3 x : Int) : num a0 a1 a2 a3 * x = a0 * x + 18446744073709551616 * (a1 * x) + 340282366920938463463374607431768211456 * (a2 * x) + 6277101735386680763835789423207666416102355444464034512896 * (a3 * x) := by
 rw [Int.mul_comm, mul_num, Int.mul_comm x a0, Int.mul_comm x a1, Int.mul_comm x a2, Int.mul_comm x a3]
theorem row_num {x b0 b1 b2 b3 p0 p1 p2 p3 l0 l1 l2 l3 h0 h1 h2 h3 : Int} (e0 : Hid (x * b0 + p0 + 0 = l0 + 18446744073709551616 * h0)) (e1 : Hid (x * b1 + p1 + h0 = l1 + 18446744073709551616 * h1)) (e2 : Hid (x * b2 + p2 + h1 = l2 + 18446744073709551616 * h2)) (e3 : Hid (x * b3 + p3 + h2 = l3 + 18446744073709551616 * h3)) :
 Hid (x * num b0 b1 b2 b3 + num p0 p1 p2 p3 = num l0 l1 l2 l3 + T256 * h3) := by
 rw [mul_num]; unfold Hid at *; unfold num T256; generalize x * b0 = m0 at *; generalize x * b1 = m1 at *; generalize x * b2 = m2 at *; generalize x * b3 = m3 at *; omega
abbrev W8 (p0 p1 p2 p3 p4 p5 p6 p7 : Int) : Value := .agg #[.int .u64 p0, .int .u64 p1, .int .u64 p2, .int .u64 p3, .int .u64 p4, .int .u64 p5, .int .u64 p6, .int .u64 p7]
theorem rows_num {a0 a1 a2 a3 b l00 l01 l02 l03 h03 l10 l11 l12 l13 h13 l20 l21 l22 l23 h23 l30 l31 l32 l33 h33 : Int}
 (g0 : Hid (a0 * b + num 0 0 0 0 = num l00 l01 l02 l03 + T256 * h03)) (g1 : Hid (a1 * b + num l01 l02 l03 h03 = num l10 l11 l12 l13 + T256 * h13)) (g2 : Hid (a2 * b + num l11 l12 l13 h13 = num l20 l21 l22 l23 + T256 * h23)) (g3 : Hid (a3 * b + num l21 l22 l23 h23 = num l30 l31 l32 l33 + T256 * h33)) :
 Hid (num a0 a1 a2 a3 * b = num l00 l10 l20 l30 + T256 * num l31 l32 l33 h33) := by
 rw [num_mul]; unfold Hid at *; unfold num T256 at *; generalize a0 * b = m0 at *; generalize a1 * b = m1 at *; generalize a2 * b = m2 at *; generalize a3 * b = m3 at *; omega
set_option maxHeartbeats 8000000 in
theorem product_any (a0 a1 a2 a3 b0 b1 b2 b3 : Int) (ha : L4 a0 a1 a2 a3) (hb : L4 b0 b1 b2 b3) (w : World) :
 Calls Tryz.prog 66 #[W4 a0 a1 a2 a3, W4 b0 b1 b2 b3] w fun e w' => ∃ p0 p1 p2 p3 p4 p5 p6 p7 : Int, e = .returned (W8 p0 p1 p2 p3 p4 p5 p6 p7) ∧ L4 p0 p1 p2 p3 ∧ L4 p4 p5 p6 p7 ∧
  Hid (num a0 a1 a2 a3 * num b0 b1 b2 b3 = num p0 p1 p2 p3 + T256 * num p4 p5 p6 p7) ∧ Below w.heap.size w w' := by
 unfold W4; have z : Limb 0 := ⟨by decide, by decide⟩
 have wz0 : IntKind.i64.wrap 0 = 0 := by decide
 have wz1 : IntKind.i64.wrap 1 = 1 := by decide
 have wz2 : IntKind.i64.wrap 2 = 2 := by decide
 have wz3 : IntKind.i64.wrap 3 = 3 := by decide
 have wz4 : IntKind.i64.wrap 4 = 4 := by decide
 have wz5 : IntKind.i64.wrap 5 = 5 := by decide
 have wz6 : IntKind.i64.wrap 6 = 6 := by decide
 have wz7 : IntKind.i64.wrap 7 = 7 := by decide
 go_enter Tryz.func66, Tryz.ntmps66
 go_wp2; refine wp_loop_rounds 5 ?_
 rw [rounds_succ]; go_wp2; refine wp_loop_rounds 5 ?_; obtain ⟨l00, h00, r00, x00, y00, e00⟩ := mulAdd_ex a0 b0 0 0 ha.1 hb.1 z z; rw [rounds_succ]; go_wp2; refine wp_region_noPanic ?_; refine wp_region_held_drew (S := fun w' => w'.cell? ⟨w.heap.size, 0, none⟩ = some (.int .u64 a0) ∧ w'.cell? ⟨w.heap.size + 1, 0, none⟩ = some (.int .u64 b0)) (by kernel_rfl) ?_ (fun hHeld => ?_)
 · simp [go_sem, World.cell?_alloc_past]
 refine tk 0 ?_ ?_ (by assumption) ?_; rotate_left
 · intro w hSw; (try dsimp only at hSw); go_simp
   try with_reducible rfl
 rotate_left; try simp only [sm]
 refine tk 1 ?_ ?_ (by assumption) ?_; rotate_left
 · intro w hSw; (try dsimp only at hSw); go_simp
   try with_reducible rfl
 rotate_left; try simp only [sm]
 refine tk 2 ?_ ?_ (by assumption) ?_; rotate_left
 · intro w hSw; (try dsimp only at hSw); go_simp
   try with_reducible rfl
 rotate_left; try simp only [sm]
 refine tk 3 ?_ ?_ (by assumption) ?_; rotate_left
 · intro w hSw; (try dsimp only at hSw); go_simp
   try with_reducible rfl
 rotate_left; try simp only [sm]
 refine tk 4 ?_ ?_ (by assumption) ?_; rotate_left
 · intro w hSw; (try dsimp only at hSw); go_simp
   try with_reducible rfl
 rotate_left; try simp only [sm]
 refine tk 5 ?_ ?_ (by assumption) ?_; rotate_left
 · intro w hSw; (try dsimp only at hSw); go_simp
   try with_reducible rfl
 rotate_left; try simp only [sm]
 refine tk 6 ?_ ?_ (by assumption) ?_; rotate_left
 · intro w hSw; (try dsimp only at hSw); go_simp
   try with_reducible rfl
 rotate_left; try simp only [sm]
 refine tk 7 ?_ ?_ (by assumption) ?_; rotate_left
 · intro w hSw; (try dsimp only at hSw); go_simp
   try with_reducible rfl
 rotate_left; try simp only [sm]
 refine tk 8 ?_ ?_ (by assumption) ?_; rotate_left
 · intro w hSw; (try dsimp only at hSw); go_simp
   try with_reducible rfl
 rotate_left; try simp only [sm]
 refine tk 9 ?_ ?_ (by assumption) ?_; rotate_left
 · intro w hSw; (try dsimp only at hSw); go_simp
   try with_reducible rfl
 rotate_left; try simp only [sm]
 refine tk 10 ?_ ?_ (by assumption) ?_; rotate_left
 · intro w hSw; (try dsimp only at hSw); go_simp
   try with_reducible rfl
 rotate_left; try simp only [sm]
 refine tk 11 ?_ ?_ (by assumption) ?_; rotate_left
 · intro w hSw; (try dsimp only at hSw); go_simp
   try with_reducible rfl
 rotate_left; try simp only [sm]
 refine tk 12 ?_ ?_ (by assumption) ?_; rotate_left
 · intro w hSw; (try dsimp only at hSw); go_simp
   try with_reducible rfl
 rotate_left; try simp only [sm]
 refine tk 14 ?_ ?_ (by assumption) ?_; rotate_left
 · intro w hSw; (try dsimp only at hSw); go_simp
   try with_reducible rfl
 rotate_left; try simp only [sm]
 refine rd 13 (fun K hK => ?_); go_simp; refine hK.out _ _ ?_ (fun hHeld => ?_)
 · simp [go_sem, World.cell?_alloc_past]
 clear hK K; try simp only [sm]
 refine rd 15 (fun K hK => ?_); go_simp; refine (r00 _).mono ?_; rintro e w' ⟨rfl, rfl⟩; go_wp2_with fail; refine hK.out _ _ ?_ (fun hHeld => ?_)
 · simp [go_sem, World.cell?_alloc_past]
 clear hK K; try simp only [sm]
 refine tk 16 ?_ ?_ (by assumption) ?_; rotate_left
 · intro w hSw; (try dsimp only at hSw); go_simp
   try with_reducible rfl
 rotate_left; try simp only [sm]
 refine tk 17 ?_ ?_ (by assumption) ?_; rotate_left
 · intro w hSw; (try dsimp only at hSw); go_simp
   try with_reducible rfl
 rotate_left; try simp only [sm]
 refine tk 18 ?_ ?_ (by assumption) ?_; rotate_left
 · intro w hSw; (try dsimp only at hSw); go_simp
   try with_reducible rfl
 rotate_left; try simp only [sm]
 refine tk 19 ?_ ?_ (by assumption) ?_; rotate_left
 · intro w hSw; (try dsimp only at hSw); go_simp
   try with_reducible rfl
 rotate_left; try simp only [sm]
 refine rd 20 (fun K hK => ?_); go_simp; refine hK.out _ _ ?_ (fun hHeld => ?_)
 · simp [go_sem, World.cell?_alloc_past]
 clear hK K; try simp only [sm]
 refine tk 21 ?_ ?_ (by assumption) ?_; rotate_left
 · intro w hSw; (try dsimp only at hSw); go_simp
   try with_reducible rfl
 rotate_left; try simp only [sm]
 refine wpAnyH_done (by kernel_rfl) ?_ _; refine NoPanic.normal ?_; clear r00; go_wp2; obtain ⟨l01, h01, r01, x01, y01, e01⟩ := mulAdd_ex a0 b1 0 h00 ha.1 hb.2.1 z y00; rw [rounds_succ]; go_wp2; refine wp_region_noPanic ?_; refine wp_region_held_drew (S := fun w' => w'.cell? ⟨w.heap.size, 0, none⟩ = some (.int .u64 a0) ∧ w'.cell? ⟨w.heap.size + 1, 1, none⟩ = some (.int .u64 b1)) (by kernel_rfl) ?_ (fun hHeld => ?_)
 · simp [go_sem, World.cell?_alloc_past]
 refine tk 0 ?_ ?_ (by assumption) ?_; rotate_left
 · intro w hSw; (try dsimp only at hSw); go_simp
   try with_reducible rfl
 rotate_left; try simp only [sm]
 refine tk 1 ?_ ?_ (by assumption) ?_; rotate_left
 · intro w hSw; (try dsimp only at hSw); go_simp
   try with_reducible rfl
 rotate_left; try simp only [sm]
 refine tk 2 ?_ ?_ (by assumption) ?_; rotate_left
 · intro w hSw; (try dsimp only at hSw); go_simp
   try with_reducible rfl
 rotate_left; try simp only [sm]
 refine tk 3 ?_ ?_ (by assumption) ?_; rotate_left
 · intro w hSw; (try dsimp only at hSw); go_simp
   try with_reducible rfl
 rotate_left; try simp only [sm]
 refine tk 4 ?_ ?_ (by assumption) ?_; rotate_left
 · intro w hSw; (try dsimp only at hSw); go_simp
   try with_reducible rfl
 rotate_left; try simp only [sm]
 refine tk 5 ?_ ?_ (by assumption) ?_; rotate_left
 · intro w hSw; (try dsimp only at hSw); go_simp
   try with_reducible rfl
 rotate_left; try simp only [sm]
 refine tk 6 ?_ ?_ (by assumption) ?_; rotate_left
 · intro w hSw; (try dsimp only at hSw); go_simp
   try with_reducible rfl
 rotate_left; try simp only [sm]
 refine tk 7 ?_ ?_ (by assumption) ?_; rotate_left
 · intro w hSw; (try dsimp only at hSw); go_simp
   try with_reducible rfl
 rotate_left; try simp only [sm]
 refine tk 8 ?_ ?_ (by assumption) ?_; rotate_left
 · intro w hSw; (try dsimp only at hSw); go_simp
   try with_reducible rfl
 rotate_left; try simp only [sm]
 refine tk 9 ?_ ?_ (by assumption) ?_; rotate_left
 · intro w hSw; (try dsimp only at hSw); go_simp
   try with_reducible rfl
 rotate_left; try simp only [sm]
 refine tk 10 ?_ ?_ (by assumption) ?_; rotate_left
 · intro w hSw; (try dsimp only at hSw); go_simp
   try with_reducible rfl
 rotate_left; try simp only [sm]
 refine tk 11 ?_ ?_ (by assumption) ?_; rotate_left
 · intro w hSw; (try dsimp only at hSw); go_simp
   try with_reducible rfl
 rotate_left; try simp only [sm]
 refine tk 12 ?_ ?_ (by assumption) ?_; rotate_left
 · intro w hSw; (try dsimp only at hSw); go_simp
   try with_reducible rfl
 rotate_left; try simp only [sm]
 refine tk 14 ?_ ?_ (by assumption) ?_; rotate_left
 · intro w hSw; (try dsimp only at hSw); go_simp
   try with_reducible rfl
 rotate_left; try simp only [sm]
 refine rd 13 (fun K hK => ?_); go_simp; refine hK.out _ _ ?_ (fun hHeld => ?_)
 · simp [go_sem, World.cell?_alloc_past]
 clear hK K; try simp only [sm]
 refine rd 15 (fun K hK => ?_); go_simp; refine (r01 _).mono ?_; rintro e w' ⟨rfl, rfl⟩; go_wp2_with fail; refine hK.out _ _ ?_ (fun hHeld => ?_)
 · simp [go_sem, World.cell?_alloc_past]
 clear hK K; try simp only [sm]
 refine tk 16 ?_ ?_ (by assumption) ?_; rotate_left
 · intro w hSw; (try dsimp only at hSw); go_simp
   try with_reducible rfl
 rotate_left; try simp only [sm]
 refine tk 17 ?_ ?_ (by assumption) ?_; rotate_left
 · intro w hSw; (try dsimp only at hSw); go_simp
   try with_reducible rfl
 rotate_left; try simp only [sm]
 refine tk 18 ?_ ?_ (by assumption) ?_; rotate_left
 · intro w hSw; (try dsimp only at hSw); go_simp
   try with_reducible rfl
 rotate_left; try simp only [sm]
 refine tk 19 ?_ ?_ (by assumption) ?_; rotate_left
 · intro w hSw; (try dsimp only at hSw); go_simp
   try with_reducible rfl
 rotate_left; try simp only [sm]
 refine rd 20 (fun K hK => ?_); go_simp; refine hK.out _ _ ?_ (fun hHeld => ?_)
 · simp [go_sem, World.cell?_alloc_past]
 clear hK K; try simp only [sm]
 refine tk 21 ?_ ?_ (by assumption) ?_; rotate_left
 · intro w hSw; (try dsimp only at hSw); go_simp
   try with_reducible rfl
 rotate_left; try simp only [sm]
 refine wpAnyH_done (by kernel_rfl) ?_ _; refine NoPanic.normal ?_; clear r01; go_wp2; obtain ⟨l02, h02, r02, x02, y02, e02⟩ := mulAdd_ex a0 b2 0 h01 ha.1 hb.2.2.1 z y01; rw [rounds_succ]; go_wp2; refine wp_region_noPanic ?_; refine wp_region_held_drew (S := fun w' => w'.cell? ⟨w.heap.size, 0, none⟩ = some (.int .u64 a0) ∧ w'.cell? ⟨w.heap.size + 1, 2, none⟩ = some (.int .u64 b2)) (by kernel_rfl) ?_ (fun hHeld => ?_)
 · simp [go_sem, World.cell?_alloc_past]
 refine tk 0 ?_ ?_ (by assumption) ?_; rotate_left
 · intro w hSw; (try dsimp only at hSw); go_simp
   try with_reducible rfl
 rotate_left; try simp only [sm]
 refine tk 1 ?_ ?_ (by assumption) ?_; rotate_left
 · intro w hSw; (try dsimp only at hSw); go_simp
   try with_reducible rfl
 rotate_left; try simp only [sm]
 refine tk 2 ?_ ?_ (by assumption) ?_; rotate_left
 · intro w hSw; (try dsimp only at hSw); go_simp
   try with_reducible rfl
 rotate_left; try simp only [sm]
 refine tk 3 ?_ ?_ (by assumption) ?_; rotate_left
 · intro w hSw; (try dsimp only at hSw); go_simp
   try with_reducible rfl
 rotate_left; try simp only [sm]
 refine tk 4 ?_ ?_ (by assumption) ?_; rotate_left
 · intro w hSw; (try dsimp only at hSw); go_simp
   try with_reducible rfl
 rotate_left; try simp only [sm]
 refine tk 5 ?_ ?_ (by assumption) ?_; rotate_left
 · intro w hSw; (try dsimp only at hSw); go_simp
   try with_reducible rfl
 rotate_left; try simp only [sm]
 refine tk 6 ?_ ?_ (by assumption) ?_; rotate_left
 · intro w hSw; (try dsimp only at hSw); go_simp
   try with_reducible rfl
 rotate_left; try simp only [sm]
 refine tk 7 ?_ ?_ (by assumption) ?_; rotate_left
 · intro w hSw; (try dsimp only at hSw); go_simp
   try with_reducible rfl
 rotate_left; try simp only [sm]
 refine tk 8 ?_ ?_ (by assumption) ?_; rotate_left
 · intro w hSw; (try dsimp only at hSw); go_simp
   try with_reducible rfl
 rotate_left; try simp only [sm]
 refine tk 9 ?_ ?_ (by assumption) ?_; rotate_left
 · intro w hSw; (try dsimp only at hSw); go_simp
   try with_reducible rfl
 rotate_left; try simp only [sm]
 refine tk 10 ?_ ?_ (by assumption) ?_; rotate_left
 · intro w hSw; (try dsimp only at hSw); go_simp
   try with_reducible rfl
 rotate_left; try simp only [sm]
 refine tk 11 ?_ ?_ (by assumption) ?_; rotate_left
 · intro w hSw; (try dsimp only at hSw); go_simp
   try with_reducible rfl
 rotate_left; try simp only [sm]
 refine tk 12 ?_ ?_ (by assumption) ?_; rotate_left
 · intro w hSw; (try dsimp only at hSw); go_simp
   try with_reducible rfl
 rotate_left; try simp only [sm]
 refine tk 14 ?_ ?_ (by assumption) ?_; rotate_left
 · intro w hSw; (try dsimp only at hSw); go_simp
   try with_reducible rfl
 rotate_left; try simp only [sm]
 refine rd 13 (fun K hK => ?_); go_simp; refine hK.out _ _ ?_ (fun hHeld => ?_)
 · simp [go_sem, World.cell?_alloc_past]
 clear hK K; try simp only [sm]
 refine rd 15 (fun K hK => ?_); go_simp; refine (r02 _).mono ?_; rintro e w' ⟨rfl, rfl⟩; go_wp2_with fail; refine hK.out _ _ ?_ (fun hHeld => ?_)
 · simp [go_sem, World.cell?_alloc_past]
 clear hK K; try simp only [sm]
 refine tk 16 ?_ ?_ (by assumption) ?_; rotate_left
 · intro w hSw; (try dsimp only at hSw); go_simp
   try with_reducible rfl
 rotate_left; try simp only [sm]
 refine tk 17 ?_ ?_ (by assumption) ?_; rotate_left
 · intro w hSw; (try dsimp only at hSw); go_simp
   try with_reducible rfl
 rotate_left; try simp only [sm]
 refine tk 18 ?_ ?_ (by assumption) ?_; rotate_left
 · intro w hSw; (try dsimp only at hSw); go_simp
   try with_reducible rfl
 rotate_left; try simp only [sm]
 refine tk 19 ?_ ?_ (by assumption) ?_; rotate_left
 · intro w hSw; (try dsimp only at hSw); go_simp
   try with_reducible rfl
 rotate_left; try simp only [sm]
 refine rd 20 (fun K hK => ?_); go_simp; refine hK.out _ _ ?_ (fun hHeld => ?_)
 · simp [go_sem, World.cell?_alloc_past]
 clear hK K; try simp only [sm]
 refine tk 21 ?_ ?_ (by assumption) ?_; rotate_left
 · intro w hSw; (try dsimp only at hSw); go_simp
   try with_reducible rfl
 rotate_left; try simp only [sm]
 refine wpAnyH_done (by kernel_rfl) ?_ _; refine NoPanic.normal ?_; clear r02; go_wp2; obtain ⟨l03, h03, r03, x03, y03, e03⟩ := mulAdd_ex a0 b3 0 h02 ha.1 hb.2.2.2 z y02; rw [rounds_succ]; go_wp2; refine wp_region_noPanic ?_; refine wp_region_held_drew (S := fun w' => w'.cell? ⟨w.heap.size, 0, none⟩ = some (.int .u64 a0) ∧ w'.cell? ⟨w.heap.size + 1, 3, none⟩ = some (.int .u64 b3)) (by kernel_rfl) ?_ (fun hHeld => ?_)
 · simp [go_sem, World.cell?_alloc_past]
 refine tk 0 ?_ ?_ (by assumption) ?_; rotate_left
 · intro w hSw; (try dsimp only at hSw); go_simp
   try with_reducible rfl
 rotate_left; try simp only [sm]
 refine tk 1 ?_ ?_ (by assumption) ?_; rotate_left
 · intro w hSw; (try dsimp only at hSw); go_simp
   try with_reducible rfl
 rotate_left; try simp only [sm]
 refine tk 2 ?_ ?_ (by assumption) ?_; rotate_left
 · intro w hSw; (try dsimp only at hSw); go_simp
   try with_reducible rfl
 rotate_left; try simp only [sm]
 refine tk 3 ?_ ?_ (by assumption) ?_; rotate_left
 · intro w hSw; (try dsimp only at hSw); go_simp
   try with_reducible rfl
 rotate_left; try simp only [sm]
 refine tk 4 ?_ ?_ (by assumption) ?_; rotate_left
 · intro w hSw; (try dsimp only at hSw); go_simp
   try with_reducible rfl
 rotate_left; try simp only [sm]
 refine tk 5 ?_ ?_ (by assumption) ?_; rotate_left
 · intro w hSw; (try dsimp only at hSw); go_simp
   try with_reducible rfl
 rotate_left; try simp only [sm]
 refine tk 6 ?_ ?_ (by assumption) ?_; rotate_left
 · intro w hSw; (try dsimp only at hSw); go_simp
   try with_reducible rfl
 rotate_left; try simp only [sm]
 refine tk 7 ?_ ?_ (by assumption) ?_; rotate_left
 · intro w hSw; (try dsimp only at hSw); go_simp
   try with_reducible rfl
 rotate_left; try simp only [sm]
 refine tk 8 ?_ ?_ (by assumption) ?_; rotate_left
 · intro w hSw; (try dsimp only at hSw); go_simp
   try with_reducible rfl
 rotate_left; try simp only [sm]
 refine tk 9 ?_ ?_ (by assumption) ?_; rotate_left
 · intro w hSw; (try dsimp only at hSw); go_simp
   try with_reducible rfl
 rotate_left; try simp only [sm]
 refine tk 10 ?_ ?_ (by assumption) ?_; rotate_left
 · intro w hSw; (try dsimp only at hSw); go_simp
   try with_reducible rfl
 rotate_left; try simp only [sm]
 refine tk 11 ?_ ?_ (by assumption) ?_; rotate_left
 · intro w hSw; (try dsimp only at hSw); go_simp
   try with_reducible rfl
 rotate_left; try simp only [sm]
 refine tk 12 ?_ ?_ (by assumption) ?_; rotate_left
 · intro w hSw; (try dsimp only at hSw); go_simp
   try with_reducible rfl
 rotate_left; try simp only [sm]
 refine tk 14 ?_ ?_ (by assumption) ?_; rotate_left
 · intro w hSw; (try dsimp only at hSw); go_simp
   try with_reducible rfl
 rotate_left; try simp only [sm]
 refine rd 13 (fun K hK => ?_); go_simp; refine hK.out _ _ ?_ (fun hHeld => ?_)
 · simp [go_sem, World.cell?_alloc_past]
 clear hK K; try simp only [sm]
 refine rd 15 (fun K hK => ?_); go_simp; refine (r03 _).mono ?_; rintro e w' ⟨rfl, rfl⟩; go_wp2_with fail; refine hK.out _ _ ?_ (fun hHeld => ?_)
 · simp [go_sem, World.cell?_alloc_past]
 clear hK K; try simp only [sm]
 refine tk 16 ?_ ?_ (by assumption) ?_; rotate_left
 · intro w hSw; (try dsimp only at hSw); go_simp
   try with_reducible rfl
 rotate_left; try simp only [sm]
 refine tk 17 ?_ ?_ (by assumption) ?_; rotate_left
 · intro w hSw; (try dsimp only at hSw); go_simp
   try with_reducible rfl
 rotate_left; try simp only [sm]
 refine tk 18 ?_ ?_ (by assumption) ?_; rotate_left
 · intro w hSw; (try dsimp only at hSw); go_simp
   try with_reducible rfl
 rotate_left; try simp only [sm]
 refine tk 19 ?_ ?_ (by assumption) ?_; rotate_left
 · intro w hSw; (try dsimp only at hSw); go_simp
   try with_reducible rfl
 rotate_left; try simp only [sm]
 refine rd 20 (fun K hK => ?_); go_simp; refine hK.out _ _ ?_ (fun hHeld => ?_)
 · simp [go_sem, World.cell?_alloc_past]
 clear hK K; try simp only [sm]
 refine tk 21 ?_ ?_ (by assumption) ?_; rotate_left
 · intro w hSw; (try dsimp only at hSw); go_simp
   try with_reducible rfl
 rotate_left; try simp only [sm]
 refine wpAnyH_done (by kernel_rfl) ?_ _; refine NoPanic.normal ?_; clear r03; go_wp2; rw [rounds_succ]; go_wp2; have g0 := row_num e00 e01 e02 e03; clear e00 e01 e02 e03; rw [rounds_succ]; go_wp2; refine wp_loop_rounds 5 ?_; obtain ⟨l10, h10, r10, x10, y10, e10⟩ := mulAdd_ex a1 b0 l01 0 ha.2.1 hb.1 x01 z; rw [rounds_succ]; go_wp2; refine wp_region_noPanic ?_; refine wp_region_held_drew (S := fun w' => w'.cell? ⟨w.heap.size, 1, none⟩ = some (.int .u64 a1) ∧ w'.cell? ⟨w.heap.size + 1, 0, none⟩ = some (.int .u64 b0)) (by kernel_rfl) ?_ (fun hHeld => ?_)
 · simp [go_sem, World.cell?_alloc_past]
 refine tk 0 ?_ ?_ (by assumption) ?_; rotate_left
 · intro w hSw; (try dsimp only at hSw); go_simp
   try with_reducible rfl
 rotate_left; try simp only [sm]
 refine tk 1 ?_ ?_ (by assumption) ?_; rotate_left
 · intro w hSw; (try dsimp only at hSw); go_simp
   try with_reducible rfl
 rotate_left; try simp only [sm]
 refine tk 2 ?_ ?_ (by assumption) ?_; rotate_left
 · intro w hSw; (try dsimp only at hSw); go_simp
   try with_reducible rfl
 rotate_left; try simp only [sm]
 refine tk 3 ?_ ?_ (by assumption) ?_; rotate_left
 · intro w hSw; (try dsimp only at hSw); go_simp
   try with_reducible rfl
 rotate_left; try simp only [sm]
 refine tk 4 ?_ ?_ (by assumption) ?_; rotate_left
 · intro w hSw; (try dsimp only at hSw); go_simp
   try with_reducible rfl
 rotate_left; try simp only [sm]
 refine tk 5 ?_ ?_ (by assumption) ?_; rotate_left
 · intro w hSw; (try dsimp only at hSw); go_simp
   try with_reducible rfl
 rotate_left; try simp only [sm]
 refine tk 6 ?_ ?_ (by assumption) ?_; rotate_left
 · intro w hSw; (try dsimp only at hSw); go_simp
   try with_reducible rfl
 rotate_left; try simp only [sm]
 refine tk 7 ?_ ?_ (by assumption) ?_; rotate_left
 · intro w hSw; (try dsimp only at hSw); go_simp
   try with_reducible rfl
 rotate_left; try simp only [sm]
 refine tk 8 ?_ ?_ (by assumption) ?_; rotate_left
 · intro w hSw; (try dsimp only at hSw); go_simp
   try with_reducible rfl
 rotate_left; try simp only [sm]
 refine tk 9 ?_ ?_ (by assumption) ?_; rotate_left
 · intro w hSw; (try dsimp only at hSw); go_simp
   try with_reducible rfl
 rotate_left; try simp only [sm]
 refine tk 10 ?_ ?_ (by assumption) ?_; rotate_left
 · intro w hSw; (try dsimp only at hSw); go_simp
   try with_reducible rfl
 rotate_left; try simp only [sm]
 refine tk 11 ?_ ?_ (by assumption) ?_; rotate_left
 · intro w hSw; (try dsimp only at hSw); go_simp
   try with_reducible rfl
 rotate_left; try simp only [sm]
 refine tk 12 ?_ ?_ (by assumption) ?_; rotate_left
 · intro w hSw; (try dsimp only at hSw); go_simp
   try with_reducible rfl
 rotate_left; try simp only [sm]
 refine tk 14 ?_ ?_ (by assumption) ?_; rotate_left
 · intro w hSw; (try dsimp only at hSw); go_simp
   try with_reducible rfl
 rotate_left; try simp only [sm]
 refine rd 13 (fun K hK => ?_); go_simp; refine hK.out _ _ ?_ (fun hHeld => ?_)
 · simp [go_sem, World.cell?_alloc_past]
 clear hK K; try simp only [sm]
 refine rd 15 (fun K hK => ?_); go_simp; refine (r10 _).mono ?_; rintro e w' ⟨rfl, rfl⟩; go_wp2_with fail; refine hK.out _ _ ?_ (fun hHeld => ?_)
 · simp [go_sem, World.cell?_alloc_past]
 clear hK K; try simp only [sm]
 refine tk 16 ?_ ?_ (by assumption) ?_; rotate_left
 · intro w hSw; (try dsimp only at hSw); go_simp
   try with_reducible rfl
 rotate_left; try simp only [sm]
 refine tk 17 ?_ ?_ (by assumption) ?_; rotate_left
 · intro w hSw; (try dsimp only at hSw); go_simp
   try with_reducible rfl
 rotate_left; try simp only [sm]
 refine tk 18 ?_ ?_ (by assumption) ?_; rotate_left
 · intro w hSw; (try dsimp only at hSw); go_simp
   try with_reducible rfl
 rotate_left; try simp only [sm]
 refine tk 19 ?_ ?_ (by assumption) ?_; rotate_left
 · intro w hSw; (try dsimp only at hSw); go_simp
   try with_reducible rfl
 rotate_left; try simp only [sm]
 refine rd 20 (fun K hK => ?_); go_simp; refine hK.out _ _ ?_ (fun hHeld => ?_)
 · simp [go_sem, World.cell?_alloc_past]
 clear hK K; try simp only [sm]
 refine tk 21 ?_ ?_ (by assumption) ?_; rotate_left
 · intro w hSw; (try dsimp only at hSw); go_simp
   try with_reducible rfl
 rotate_left; try simp only [sm]
 refine wpAnyH_done (by kernel_rfl) ?_ _; refine NoPanic.normal ?_; clear r10; go_wp2; obtain ⟨l11, h11, r11, x11, y11, e11⟩ := mulAdd_ex a1 b1 l02 h10 ha.2.1 hb.2.1 x02 y10; rw [rounds_succ]; go_wp2; refine wp_region_noPanic ?_; refine wp_region_held_drew (S := fun w' => w'.cell? ⟨w.heap.size, 1, none⟩ = some (.int .u64 a1) ∧ w'.cell? ⟨w.heap.size + 1, 1, none⟩ = some (.int .u64 b1)) (by kernel_rfl) ?_ (fun hHeld => ?_)
 · simp [go_sem, World.cell?_alloc_past]
 refine tk 0 ?_ ?_ (by assumption) ?_; rotate_left
 · intro w hSw; (try dsimp only at hSw); go_simp
   try with_reducible rfl
 rotate_left; try simp only [sm]
 refine tk 1 ?_ ?_ (by assumption) ?_; rotate_left
 · intro w hSw; (try dsimp only at hSw); go_simp
   try with_reducible rfl
 rotate_left; try simp only [sm]
 refine tk 2 ?_ ?_ (by assumption) ?_; rotate_left
 · intro w hSw; (try dsimp only at hSw); go_simp
   try with_reducible rfl
 rotate_left; try simp only [sm]
 refine tk 3 ?_ ?_ (by assumption) ?_; rotate_left
 · intro w hSw; (try dsimp only at hSw); go_simp
   try with_reducible rfl
 rotate_left; try simp only [sm]
 refine tk 4 ?_ ?_ (by assumption) ?_; rotate_left
 · intro w hSw; (try dsimp only at hSw); go_simp
   try with_reducible rfl
 rotate_left; try simp only [sm]
 refine tk 5 ?_ ?_ (by assumption) ?_; rotate_left
 · intro w hSw; (try dsimp only at hSw); go_simp
   try with_reducible rfl
 rotate_left; try simp only [sm]
 refine tk 6 ?_ ?_ (by assumption) ?_; rotate_left
 · intro w hSw; (try dsimp only at hSw); go_simp
   try with_reducible rfl
 rotate_left; try simp only [sm]
 refine tk 7 ?_ ?_ (by assumption) ?_; rotate_left
 · intro w hSw; (try dsimp only at hSw); go_simp
   try with_reducible rfl
 rotate_left; try simp only [sm]
 refine tk 8 ?_ ?_ (by assumption) ?_; rotate_left
 · intro w hSw; (try dsimp only at hSw); go_simp
   try with_reducible rfl
 rotate_left; try simp only [sm]
 refine tk 9 ?_ ?_ (by assumption) ?_; rotate_left
 · intro w hSw; (try dsimp only at hSw); go_simp
   try with_reducible rfl
 rotate_left; try simp only [sm]
 refine tk 10 ?_ ?_ (by assumption) ?_; rotate_left
 · intro w hSw; (try dsimp only at hSw); go_simp
   try with_reducible rfl
 rotate_left; try simp only [sm]
 refine tk 11 ?_ ?_ (by assumption) ?_; rotate_left
 · intro w hSw; (try dsimp only at hSw); go_simp
   try with_reducible rfl
 rotate_left; try simp only [sm]
 refine tk 12 ?_ ?_ (by assumption) ?_; rotate_left
 · intro w hSw; (try dsimp only at hSw); go_simp
   try with_reducible rfl
 rotate_left; try simp only [sm]
 refine tk 14 ?_ ?_ (by assumption) ?_; rotate_left
 · intro w hSw; (try dsimp only at hSw); go_simp
   try with_reducible rfl
 rotate_left; try simp only [sm]
 refine rd 13 (fun K hK => ?_); go_simp; refine hK.out _ _ ?_ (fun hHeld => ?_)
 · simp [go_sem, World.cell?_alloc_past]
 clear hK K; try simp only [sm]
 refine rd 15 (fun K hK => ?_); go_simp; refine (r11 _).mono ?_; rintro e w' ⟨rfl, rfl⟩; go_wp2_with fail; refine hK.out _ _ ?_ (fun hHeld => ?_)
 · simp [go_sem, World.cell?_alloc_past]
 clear hK K; try simp only [sm]
 refine tk 16 ?_ ?_ (by assumption) ?_; rotate_left
 · intro w hSw; (try dsimp only at hSw); go_simp
   try with_reducible rfl
 rotate_left; try simp only [sm]
 refine tk 17 ?_ ?_ (by assumption) ?_; rotate_left
 · intro w hSw; (try dsimp only at hSw); go_simp
   try with_reducible rfl
 rotate_left; try simp only [sm]
 refine tk 18 ?_ ?_ (by assumption) ?_; rotate_left
 · intro w hSw; (try dsimp only at hSw); go_simp
   try with_reducible rfl
 rotate_left; try simp only [sm]
 refine tk 19 ?_ ?_ (by assumption) ?_; rotate_left
 · intro w hSw; (try dsimp only at hSw); go_simp
   try with_reducible rfl
 rotate_left; try simp only [sm]
 refine rd 20 (fun K hK => ?_); go_simp; refine hK.out _ _ ?_ (fun hHeld => ?_)
 · simp [go_sem, World.cell?_alloc_past]
 clear hK K; try simp only [sm]
 refine tk 21 ?_ ?_ (by assumption) ?_; rotate_left
 · intro w hSw; (try dsimp only at hSw); go_simp
   try with_reducible rfl
 rotate_left; try simp only [sm]
 refine wpAnyH_done (by kernel_rfl) ?_ _; refine NoPanic.normal ?_; clear r11; go_wp2; obtain ⟨l12, h12, r12, x12, y12, e12⟩ := mulAdd_ex a1 b2 l03 h11 ha.2.1 hb.2.2.1 x03 y11; rw [rounds_succ]; go_wp2; refine wp_region_noPanic ?_; refine wp_region_held_drew (S := fun w' => w'.cell? ⟨w.heap.size, 1, none⟩ = some (.int .u64 a1) ∧ w'.cell? ⟨w.heap.size + 1, 2, none⟩ = some (.int .u64 b2)) (by kernel_rfl) ?_ (fun hHeld => ?_)
 · simp [go_sem, World.cell?_alloc_past]
 refine tk 0 ?_ ?_ (by assumption) ?_; rotate_left
 · intro w hSw; (try dsimp only at hSw); go_simp
   try with_reducible rfl
 rotate_left; try simp only [sm]
 refine tk 1 ?_ ?_ (by assumption) ?_; rotate_left
 · intro w hSw; (try dsimp only at hSw); go_simp
   try with_reducible rfl
 rotate_left; try simp only [sm]
 refine tk 2 ?_ ?_ (by assumption) ?_; rotate_left
 · intro w hSw; (try dsimp only at hSw); go_simp
   try with_reducible rfl
 rotate_left; try simp only [sm]
 refine tk 3 ?_ ?_ (by assumption) ?_; rotate_left
 · intro w hSw; (try dsimp only at hSw); go_simp
   try with_reducible rfl
 rotate_left; try simp only [sm]
 refine tk 4 ?_ ?_ (by assumption) ?_; rotate_left
 · intro w hSw; (try dsimp only at hSw); go_simp
   try with_reducible rfl
 rotate_left; try simp only [sm]
 refine tk 5 ?_ ?_ (by assumption) ?_; rotate_left
 · intro w hSw; (try dsimp only at hSw); go_simp
   try with_reducible rfl
 rotate_left; try simp only [sm]
 refine tk 6 ?_ ?_ (by assumption) ?_; rotate_left
 · intro w hSw; (try dsimp only at hSw); go_simp
   try with_reducible rfl
 rotate_left; try simp only [sm]
 refine tk 7 ?_ ?_ (by assumption) ?_; rotate_left
 · intro w hSw; (try dsimp only at hSw); go_simp
   try with_reducible rfl
 rotate_left; try simp only [sm]
 refine tk 8 ?_ ?_ (by assumption) ?_; rotate_left
 · intro w hSw; (try dsimp only at hSw); go_simp
   try with_reducible rfl
 rotate_left; try simp only [sm]
 refine tk 9 ?_ ?_ (by assumption) ?_; rotate_left
 · intro w hSw; (try dsimp only at hSw); go_simp
   try with_reducible rfl
 rotate_left; try simp only [sm]
 refine tk 10 ?_ ?_ (by assumption) ?_; rotate_left
 · intro w hSw; (try dsimp only at hSw); go_simp
   try with_reducible rfl
 rotate_left; try simp only [sm]
 refine tk 11 ?_ ?_ (by assumption) ?_; rotate_left
 · intro w hSw; (try dsimp only at hSw); go_simp
   try with_reducible rfl
 rotate_left; try simp only [sm]
 refine tk 12 ?_ ?_ (by assumption) ?_; rotate_left
 · intro w hSw; (try dsimp only at hSw); go_simp
   try with_reducible rfl
 rotate_left; try simp only [sm]
 refine tk 14 ?_ ?_ (by assumption) ?_; rotate_left
 · intro w hSw; (try dsimp only at hSw); go_simp
   try with_reducible rfl
 rotate_left; try simp only [sm]
 refine rd 13 (fun K hK => ?_); go_simp; refine hK.out _ _ ?_ (fun hHeld => ?_)
 · simp [go_sem, World.cell?_alloc_past]
 clear hK K; try simp only [sm]
 refine rd 15 (fun K hK => ?_); go_simp; refine (r12 _).mono ?_; rintro e w' ⟨rfl, rfl⟩; go_wp2_with fail; refine hK.out _ _ ?_ (fun hHeld => ?_)
 · simp [go_sem, World.cell?_alloc_past]
 clear hK K; try simp only [sm]
 refine tk 16 ?_ ?_ (by assumption) ?_; rotate_left
 · intro w hSw; (try dsimp only at hSw); go_simp
   try with_reducible rfl
 rotate_left; try simp only [sm]
 refine tk 17 ?_ ?_ (by assumption) ?_; rotate_left
 · intro w hSw; (try dsimp only at hSw); go_simp
   try with_reducible rfl
 rotate_left; try simp only [sm]
 refine tk 18 ?_ ?_ (by assumption) ?_; rotate_left
 · intro w hSw; (try dsimp only at hSw); go_simp
   try with_reducible rfl
 rotate_left; try simp only [sm]
 refine tk 19 ?_ ?_ (by assumption) ?_; rotate_left
 · intro w hSw; (try dsimp only at hSw); go_simp
   try with_reducible rfl
 rotate_left; try simp only [sm]
 refine rd 20 (fun K hK => ?_); go_simp; refine hK.out _ _ ?_ (fun hHeld => ?_)
 · simp [go_sem, World.cell?_alloc_past]
 clear hK K; try simp only [sm]
 refine tk 21 ?_ ?_ (by assumption) ?_; rotate_left
 · intro w hSw; (try dsimp only at hSw); go_simp
   try with_reducible rfl
 rotate_left; try simp only [sm]
 refine wpAnyH_done (by kernel_rfl) ?_ _; refine NoPanic.normal ?_; clear r12; go_wp2; obtain ⟨l13, h13, r13, x13, y13, e13⟩ := mulAdd_ex a1 b3 h03 h12 ha.2.1 hb.2.2.2 y03 y12; rw [rounds_succ]; go_wp2; refine wp_region_noPanic ?_; refine wp_region_held_drew (S := fun w' => w'.cell? ⟨w.heap.size, 1, none⟩ = some (.int .u64 a1) ∧ w'.cell? ⟨w.heap.size + 1, 3, none⟩ = some (.int .u64 b3)) (by kernel_rfl) ?_ (fun hHeld => ?_)
 · simp [go_sem, World.cell?_alloc_past]
 refine tk 0 ?_ ?_ (by assumption) ?_; rotate_left
 · intro w hSw; (try dsimp only at hSw); go_simp
   try with_reducible rfl
 rotate_left; try simp only [sm]
 refine tk 1 ?_ ?_ (by assumption) ?_; rotate_left
 · intro w hSw; (try dsimp only at hSw); go_simp
   try with_reducible rfl
 rotate_left; try simp only [sm]
 refine tk 2 ?_ ?_ (by assumption) ?_; rotate_left
 · intro w hSw; (try dsimp only at hSw); go_simp
   try with_reducible rfl
 rotate_left; try simp only [sm]
 refine tk 3 ?_ ?_ (by assumption) ?_; rotate_left
 · intro w hSw; (try dsimp only at hSw); go_simp
   try with_reducible rfl
 rotate_left; try simp only [sm]
 refine tk 4 ?_ ?_ (by assumption) ?_; rotate_left
 · intro w hSw; (try dsimp only at hSw); go_simp
   try with_reducible rfl
 rotate_left; try simp only [sm]
 refine tk 5 ?_ ?_ (by assumption) ?_; rotate_left
 · intro w hSw; (try dsimp only at hSw); go_simp
   try with_reducible rfl
 rotate_left; try simp only [sm]
 refine tk 6 ?_ ?_ (by assumption) ?_; rotate_left
 · intro w hSw; (try dsimp only at hSw); go_simp
   try with_reducible rfl
 rotate_left; try simp only [sm]
 refine tk 7 ?_ ?_ (by assumption) ?_; rotate_left
 · intro w hSw; (try dsimp only at hSw); go_simp
   try with_reducible rfl
 rotate_left; try simp only [sm]
 refine tk 8 ?_ ?_ (by assumption) ?_; rotate_left
 · intro w hSw; (try dsimp only at hSw); go_simp
   try with_reducible rfl
 rotate_left; try simp only [sm]
 refine tk 9 ?_ ?_ (by assumption) ?_; rotate_left
 · intro w hSw; (try dsimp only at hSw); go_simp
   try with_reducible rfl
 rotate_left; try simp only [sm]
 refine tk 10 ?_ ?_ (by assumption) ?_; rotate_left
 · intro w hSw; (try dsimp only at hSw); go_simp
   try with_reducible rfl
 rotate_left; try simp only [sm]
 refine tk 11 ?_ ?_ (by assumption) ?_; rotate_left
 · intro w hSw; (try dsimp only at hSw); go_simp
   try with_reducible rfl
 rotate_left; try simp only [sm]
 refine tk 12 ?_ ?_ (by assumption) ?_; rotate_left
 · intro w hSw; (try dsimp only at hSw); go_simp
   try with_reducible rfl
 rotate_left; try simp only [sm]
 refine tk 14 ?_ ?_ (by assumption) ?_; rotate_left
 · intro w hSw; (try dsimp only at hSw); go_simp
   try with_reducible rfl
 rotate_left; try simp only [sm]
 refine rd 13 (fun K hK => ?_); go_simp; refine hK.out _ _ ?_ (fun hHeld => ?_)
 · simp [go_sem, World.cell?_alloc_past]
 clear hK K; try simp only [sm]
 refine rd 15 (fun K hK => ?_); go_simp; refine (r13 _).mono ?_; rintro e w' ⟨rfl, rfl⟩; go_wp2_with fail; refine hK.out _ _ ?_ (fun hHeld => ?_)
 · simp [go_sem, World.cell?_alloc_past]
 clear hK K; try simp only [sm]
 refine tk 16 ?_ ?_ (by assumption) ?_; rotate_left
 · intro w hSw; (try dsimp only at hSw); go_simp
   try with_reducible rfl
 rotate_left; try simp only [sm]
 refine tk 17 ?_ ?_ (by assumption) ?_; rotate_left
 · intro w hSw; (try dsimp only at hSw); go_simp
   try with_reducible rfl
 rotate_left; try simp only [sm]
 refine tk 18 ?_ ?_ (by assumption) ?_; rotate_left
 · intro w hSw; (try dsimp only at hSw); go_simp
   try with_reducible rfl
 rotate_left; try simp only [sm]
 refine tk 19 ?_ ?_ (by assumption) ?_; rotate_left
 · intro w hSw; (try dsimp only at hSw); go_simp
   try with_reducible rfl
 rotate_left; try simp only [sm]
 refine rd 20 (fun K hK => ?_); go_simp; refine hK.out _ _ ?_ (fun hHeld => ?_)
 · simp [go_sem, World.cell?_alloc_past]
 clear hK K; try simp only [sm]
 refine tk 21 ?_ ?_ (by assumption) ?_; rotate_left
 · intro w hSw; (try dsimp only at hSw); go_simp
   try with_reducible rfl
 rotate_left; try simp only [sm]
 refine wpAnyH_done (by kernel_rfl) ?_ _; refine NoPanic.normal ?_; clear r13; go_wp2; rw [rounds_succ]; go_wp2; have g1 := row_num e10 e11 e12 e13; clear e10 e11 e12 e13; rw [rounds_succ]; go_wp2; refine wp_loop_rounds 5 ?_; obtain ⟨l20, h20, r20, x20, y20, e20⟩ := mulAdd_ex a2 b0 l11 0 ha.2.2.1 hb.1 x11 z; rw [rounds_succ]; go_wp2; refine wp_region_noPanic ?_; refine wp_region_held_drew (S := fun w' => w'.cell? ⟨w.heap.size, 2, none⟩ = some (.int .u64 a2) ∧ w'.cell? ⟨w.heap.size + 1, 0, none⟩ = some (.int .u64 b0)) (by kernel_rfl) ?_ (fun hHeld => ?_)
 · simp [go_sem, World.cell?_alloc_past]
 refine tk 0 ?_ ?_ (by assumption) ?_; rotate_left
 · intro w hSw; (try dsimp only at hSw); go_simp
   try with_reducible rfl
 rotate_left; try simp only [sm]
 refine tk 1 ?_ ?_ (by assumption) ?_; rotate_left
 · intro w hSw; (try dsimp only at hSw); go_simp
   try with_reducible rfl
 rotate_left; try simp only [sm]
 refine tk 2 ?_ ?_ (by assumption) ?_; rotate_left
 · intro w hSw; (try dsimp only at hSw); go_simp
   try with_reducible rfl
 rotate_left; try simp only [sm]
 refine tk 3 ?_ ?_ (by assumption) ?_; rotate_left
 · intro w hSw; (try dsimp only at hSw); go_simp
   try with_reducible rfl
 rotate_left; try simp only [sm]
 refine tk 4 ?_ ?_ (by assumption) ?_; rotate_left
 · intro w hSw; (try dsimp only at hSw); go_simp
   try with_reducible rfl
 rotate_left; try simp only [sm]
 refine tk 5 ?_ ?_ (by assumption) ?_; rotate_left
 · intro w hSw; (try dsimp only at hSw); go_simp
   try with_reducible rfl
 rotate_left; try simp only [sm]
 refine tk 6 ?_ ?_ (by assumption) ?_; rotate_left
 · intro w hSw; (try dsimp only at hSw); go_simp
   try with_reducible rfl
 rotate_left; try simp only [sm]
 refine tk 7 ?_ ?_ (by assumption) ?_; rotate_left
 · intro w hSw; (try dsimp only at hSw); go_simp
   try with_reducible rfl
 rotate_left; try simp only [sm]
 refine tk 8 ?_ ?_ (by assumption) ?_; rotate_left
 · intro w hSw; (try dsimp only at hSw); go_simp
   try with_reducible rfl
 rotate_left; try simp only [sm]
 refine tk 9 ?_ ?_ (by assumption) ?_; rotate_left
 · intro w hSw; (try dsimp only at hSw); go_simp
   try with_reducible rfl
 rotate_left; try simp only [sm]
 refine tk 10 ?_ ?_ (by assumption) ?_; rotate_left
 · intro w hSw; (try dsimp only at hSw); go_simp
   try with_reducible rfl
 rotate_left; try simp only [sm]
 refine tk 11 ?_ ?_ (by assumption) ?_; rotate_left
 · intro w hSw; (try dsimp only at hSw); go_simp
   try with_reducible rfl
 rotate_left; try simp only [sm]
 refine tk 12 ?_ ?_ (by assumption) ?_; rotate_left
 · intro w hSw; (try dsimp only at hSw); go_simp
   try with_reducible rfl
 rotate_left; try simp only [sm]
 refine tk 14 ?_ ?_ (by assumption) ?_; rotate_left
 · intro w hSw; (try dsimp only at hSw); go_simp
   try with_reducible rfl
 rotate_left; try simp only [sm]
 refine rd 13 (fun K hK => ?_); go_simp; refine hK.out _ _ ?_ (fun hHeld => ?_)
 · simp [go_sem, World.cell?_alloc_past]
 clear hK K; try simp only [sm]
 refine rd 15 (fun K hK => ?_); go_simp; refine (r20 _).mono ?_; rintro e w' ⟨rfl, rfl⟩; go_wp2_with fail; refine hK.out _ _ ?_ (fun hHeld => ?_)
 · simp [go_sem, World.cell?_alloc_past]
 clear hK K; try simp only [sm]
 refine tk 16 ?_ ?_ (by assumption) ?_; rotate_left
 · intro w hSw; (try dsimp only at hSw); go_simp
   try with_reducible rfl
 rotate_left; try simp only [sm]
 refine tk 17 ?_ ?_ (by assumption) ?_; rotate_left
 · intro w hSw; (try dsimp only at hSw); go_simp
   try with_reducible rfl
 rotate_left; try simp only [sm]
 refine tk 18 ?_ ?_ (by assumption) ?_; rotate_left
 · intro w hSw; (try dsimp only at hSw); go_simp
   try with_reducible rfl
 rotate_left; try simp only [sm]
 refine tk 19 ?_ ?_ (by assumption) ?_; rotate_left
 · intro w hSw; (try dsimp only at hSw); go_simp
   try with_reducible rfl
 rotate_left; try simp only [sm]
 refine rd 20 (fun K hK => ?_); go_simp; refine hK.out _ _ ?_ (fun hHeld => ?_)
 · simp [go_sem, World.cell?_alloc_past]
 clear hK K; try simp only [sm]
 refine tk 21 ?_ ?_ (by assumption) ?_; rotate_left
 · intro w hSw; (try dsimp only at hSw); go_simp
   try with_reducible rfl
 rotate_left; try simp only [sm]
 refine wpAnyH_done (by kernel_rfl) ?_ _; refine NoPanic.normal ?_; clear r20; go_wp2; obtain ⟨l21, h21, r21, x21, y21, e21⟩ := mulAdd_ex a2 b1 l12 h20 ha.2.2.1 hb.2.1 x12 y20; rw [rounds_succ]; go_wp2; refine wp_region_noPanic ?_; refine wp_region_held_drew (S := fun w' => w'.cell? ⟨w.heap.size, 2, none⟩ = some (.int .u64 a2) ∧ w'.cell? ⟨w.heap.size + 1, 1, none⟩ = some (.int .u64 b1)) (by kernel_rfl) ?_ (fun hHeld => ?_)
 · simp [go_sem, World.cell?_alloc_past]
 refine tk 0 ?_ ?_ (by assumption) ?_; rotate_left
 · intro w hSw; (try dsimp only at hSw); go_simp
   try with_reducible rfl
 rotate_left; try simp only [sm]
 refine tk 1 ?_ ?_ (by assumption) ?_; rotate_left
 · intro w hSw; (try dsimp only at hSw); go_simp
   try with_reducible rfl
 rotate_left; try simp only [sm]
 refine tk 2 ?_ ?_ (by assumption) ?_; rotate_left
 · intro w hSw; (try dsimp only at hSw); go_simp
   try with_reducible rfl
 rotate_left; try simp only [sm]
 refine tk 3 ?_ ?_ (by assumption) ?_; rotate_left
 · intro w hSw; (try dsimp only at hSw); go_simp
   try with_reducible rfl
 rotate_left; try simp only [sm]
 refine tk 4 ?_ ?_ (by assumption) ?_; rotate_left
 · intro w hSw; (try dsimp only at hSw); go_simp
   try with_reducible rfl
 rotate_left; try simp only [sm]
 refine tk 5 ?_ ?_ (by assumption) ?_; rotate_left
 · intro w hSw; (try dsimp only at hSw); go_simp
   try with_reducible rfl
 rotate_left; try simp only [sm]
 refine tk 6 ?_ ?_ (by assumption) ?_; rotate_left
 · intro w hSw; (try dsimp only at hSw); go_simp
   try with_reducible rfl
 rotate_left; try simp only [sm]
 refine tk 7 ?_ ?_ (by assumption) ?_; rotate_left
 · intro w hSw; (try dsimp only at hSw); go_simp
   try with_reducible rfl
 rotate_left; try simp only [sm]
 refine tk 8 ?_ ?_ (by assumption) ?_; rotate_left
 · intro w hSw; (try dsimp only at hSw); go_simp
   try with_reducible rfl
 rotate_left; try simp only [sm]
 refine tk 9 ?_ ?_ (by assumption) ?_; rotate_left
 · intro w hSw; (try dsimp only at hSw); go_simp
   try with_reducible rfl
 rotate_left; try simp only [sm]
 refine tk 10 ?_ ?_ (by assumption) ?_; rotate_left
 · intro w hSw; (try dsimp only at hSw); go_simp
   try with_reducible rfl
 rotate_left; try simp only [sm]
 refine tk 11 ?_ ?_ (by assumption) ?_; rotate_left
 · intro w hSw; (try dsimp only at hSw); go_simp
   try with_reducible rfl
 rotate_left; try simp only [sm]
 refine tk 12 ?_ ?_ (by assumption) ?_; rotate_left
 · intro w hSw; (try dsimp only at hSw); go_simp
   try with_reducible rfl
 rotate_left; try simp only [sm]
 refine tk 14 ?_ ?_ (by assumption) ?_; rotate_left
 · intro w hSw; (try dsimp only at hSw); go_simp
   try with_reducible rfl
 rotate_left; try simp only [sm]
 refine rd 13 (fun K hK => ?_); go_simp; refine hK.out _ _ ?_ (fun hHeld => ?_)
 · simp [go_sem, World.cell?_alloc_past]
 clear hK K; try simp only [sm]
 refine rd 15 (fun K hK => ?_); go_simp; refine (r21 _).mono ?_; rintro e w' ⟨rfl, rfl⟩; go_wp2_with fail; refine hK.out _ _ ?_ (fun hHeld => ?_)
 · simp [go_sem, World.cell?_alloc_past]
 clear hK K; try simp only [sm]
 refine tk 16 ?_ ?_ (by assumption) ?_; rotate_left
 · intro w hSw; (try dsimp only at hSw); go_simp
   try with_reducible rfl
 rotate_left; try simp only [sm]
 refine tk 17 ?_ ?_ (by assumption) ?_; rotate_left
 · intro w hSw; (try dsimp only at hSw); go_simp
   try with_reducible rfl
 rotate_left; try simp only [sm]
 refine tk 18 ?_ ?_ (by assumption) ?_; rotate_left
 · intro w hSw; (try dsimp only at hSw); go_simp
   try with_reducible rfl
 rotate_left; try simp only [sm]
 refine tk 19 ?_ ?_ (by assumption) ?_; rotate_left
 · intro w hSw; (try dsimp only at hSw); go_simp
   try with_reducible rfl
 rotate_left; try simp only [sm]
 refine rd 20 (fun K hK => ?_); go_simp; refine hK.out _ _ ?_ (fun hHeld => ?_)
 · simp [go_sem, World.cell?_alloc_past]
 clear hK K; try simp only [sm]
 refine tk 21 ?_ ?_ (by assumption) ?_; rotate_left
 · intro w hSw; (try dsimp only at hSw); go_simp
   try with_reducible rfl
 rotate_left; try simp only [sm]
 refine wpAnyH_done (by kernel_rfl) ?_ _; refine NoPanic.normal ?_; clear r21; go_wp2; obtain ⟨l22, h22, r22, x22, y22, e22⟩ := mulAdd_ex a2 b2 l13 h21 ha.2.2.1 hb.2.2.1 x13 y21; rw [rounds_succ]; go_wp2; refine wp_region_noPanic ?_; refine wp_region_held_drew (S := fun w' => w'.cell? ⟨w.heap.size, 2, none⟩ = some (.int .u64 a2) ∧ w'.cell? ⟨w.heap.size + 1, 2, none⟩ = some (.int .u64 b2)) (by kernel_rfl) ?_ (fun hHeld => ?_)
 · simp [go_sem, World.cell?_alloc_past]
 refine tk 0 ?_ ?_ (by assumption) ?_; rotate_left
 · intro w hSw; (try dsimp only at hSw); go_simp
   try with_reducible rfl
 rotate_left; try simp only [sm]
 refine tk 1 ?_ ?_ (by assumption) ?_; rotate_left
 · intro w hSw; (try dsimp only at hSw); go_simp
   try with_reducible rfl
 rotate_left; try simp only [sm]
 refine tk 2 ?_ ?_ (by assumption) ?_; rotate_left
 · intro w hSw; (try dsimp only at hSw); go_simp
   try with_reducible rfl
 rotate_left; try simp only [sm]
 refine tk 3 ?_ ?_ (by assumption) ?_; rotate_left
 · intro w hSw; (try dsimp only at hSw); go_simp
   try with_reducible rfl
 rotate_left; try simp only [sm]
 refine tk 4 ?_ ?_ (by assumption) ?_; rotate_left
 · intro w hSw; (try dsimp only at hSw); go_simp
   try with_reducible rfl
 rotate_left; try simp only [sm]
 refine tk 5 ?_ ?_ (by assumption) ?_; rotate_left
 · intro w hSw; (try dsimp only at hSw); go_simp
   try with_reducible rfl
 rotate_left; try simp only [sm]
 refine tk 6 ?_ ?_ (by assumption) ?_; rotate_left
 · intro w hSw; (try dsimp only at hSw); go_simp
   try with_reducible rfl
 rotate_left; try simp only [sm]
 refine tk 7 ?_ ?_ (by assumption) ?_; rotate_left
 · intro w hSw; (try dsimp only at hSw); go_simp
   try with_reducible rfl
 rotate_left; try simp only [sm]
 refine tk 8 ?_ ?_ (by assumption) ?_; rotate_left
 · intro w hSw; (try dsimp only at hSw); go_simp
   try with_reducible rfl
 rotate_left; try simp only [sm]
 refine tk 9 ?_ ?_ (by assumption) ?_; rotate_left
 · intro w hSw; (try dsimp only at hSw); go_simp
   try with_reducible rfl
 rotate_left; try simp only [sm]
 refine tk 10 ?_ ?_ (by assumption) ?_; rotate_left
 · intro w hSw; (try dsimp only at hSw); go_simp
   try with_reducible rfl
 rotate_left; try simp only [sm]
 refine tk 11 ?_ ?_ (by assumption) ?_; rotate_left
 · intro w hSw; (try dsimp only at hSw); go_simp
   try with_reducible rfl
 rotate_left; try simp only [sm]
 refine tk 12 ?_ ?_ (by assumption) ?_; rotate_left
 · intro w hSw; (try dsimp only at hSw); go_simp
   try with_reducible rfl
 rotate_left; try simp only [sm]
 refine tk 14 ?_ ?_ (by assumption) ?_; rotate_left
 · intro w hSw; (try dsimp only at hSw); go_simp
   try with_reducible rfl
 rotate_left; try simp only [sm]
 refine rd 13 (fun K hK => ?_); go_simp; refine hK.out _ _ ?_ (fun hHeld => ?_)
 · simp [go_sem, World.cell?_alloc_past]
 clear hK K; try simp only [sm]
 refine rd 15 (fun K hK => ?_); go_simp; refine (r22 _).mono ?_; rintro e w' ⟨rfl, rfl⟩; go_wp2_with fail; refine hK.out _ _ ?_ (fun hHeld => ?_)
 · simp [go_sem, World.cell?_alloc_past]
 clear hK K; try simp only [sm]
 refine tk 16 ?_ ?_ (by assumption) ?_; rotate_left
 · intro w hSw; (try dsimp only at hSw); go_simp
   try with_reducible rfl
 rotate_left; try simp only [sm]
 refine tk 17 ?_ ?_ (by assumption) ?_; rotate_left
 · intro w hSw; (try dsimp only at hSw); go_simp
   try with_reducible rfl
 rotate_left; try simp only [sm]
 refine tk 18 ?_ ?_ (by assumption) ?_; rotate_left
 · intro w hSw; (try dsimp only at hSw); go_simp
   try with_reducible rfl
 rotate_left; try simp only [sm]
 refine tk 19 ?_ ?_ (by assumption) ?_; rotate_left
 · intro w hSw; (try dsimp only at hSw); go_simp
   try with_reducible rfl
 rotate_left; try simp only [sm]
 refine rd 20 (fun K hK => ?_); go_simp; refine hK.out _ _ ?_ (fun hHeld => ?_)
 · simp [go_sem, World.cell?_alloc_past]
 clear hK K; try simp only [sm]
 refine tk 21 ?_ ?_ (by assumption) ?_; rotate_left
 · intro w hSw; (try dsimp only at hSw); go_simp
   try with_reducible rfl
 rotate_left; try simp only [sm]
 refine wpAnyH_done (by kernel_rfl) ?_ _; refine NoPanic.normal ?_; clear r22; go_wp2; obtain ⟨l23, h23, r23, x23, y23, e23⟩ := mulAdd_ex a2 b3 h13 h22 ha.2.2.1 hb.2.2.2 y13 y22; rw [rounds_succ]; go_wp2; refine wp_region_noPanic ?_; refine wp_region_held_drew (S := fun w' => w'.cell? ⟨w.heap.size, 2, none⟩ = some (.int .u64 a2) ∧ w'.cell? ⟨w.heap.size + 1, 3, none⟩ = some (.int .u64 b3)) (by kernel_rfl) ?_ (fun hHeld => ?_)
 · simp [go_sem, World.cell?_alloc_past]
 refine tk 0 ?_ ?_ (by assumption) ?_; rotate_left
 · intro w hSw; (try dsimp only at hSw); go_simp
   try with_reducible rfl
 rotate_left; try simp only [sm]
 refine tk 1 ?_ ?_ (by assumption) ?_; rotate_left
 · intro w hSw; (try dsimp only at hSw); go_simp
   try with_reducible rfl
 rotate_left; try simp only [sm]
 refine tk 2 ?_ ?_ (by assumption) ?_; rotate_left
 · intro w hSw; (try dsimp only at hSw); go_simp
   try with_reducible rfl
 rotate_left; try simp only [sm]
 refine tk 3 ?_ ?_ (by assumption) ?_; rotate_left
 · intro w hSw; (try dsimp only at hSw); go_simp
   try with_reducible rfl
 rotate_left; try simp only [sm]
 refine tk 4 ?_ ?_ (by assumption) ?_; rotate_left
 · intro w hSw; (try dsimp only at hSw); go_simp
   try with_reducible rfl
 rotate_left; try simp only [sm]
 refine tk 5 ?_ ?_ (by assumption) ?_; rotate_left
 · intro w hSw; (try dsimp only at hSw); go_simp
   try with_reducible rfl
 rotate_left; try simp only [sm]
 refine tk 6 ?_ ?_ (by assumption) ?_; rotate_left
 · intro w hSw; (try dsimp only at hSw); go_simp
   try with_reducible rfl
 rotate_left; try simp only [sm]
 refine tk 7 ?_ ?_ (by assumption) ?_; rotate_left
 · intro w hSw; (try dsimp only at hSw); go_simp
   try with_reducible rfl
 rotate_left; try simp only [sm]
 refine tk 8 ?_ ?_ (by assumption) ?_; rotate_left
 · intro w hSw; (try dsimp only at hSw); go_simp
   try with_reducible rfl
 rotate_left; try simp only [sm]
 refine tk 9 ?_ ?_ (by assumption) ?_; rotate_left
 · intro w hSw; (try dsimp only at hSw); go_simp
   try with_reducible rfl
 rotate_left; try simp only [sm]
 refine tk 10 ?_ ?_ (by assumption) ?_; rotate_left
 · intro w hSw; (try dsimp only at hSw); go_simp
   try with_reducible rfl
 rotate_left; try simp only [sm]
 refine tk 11 ?_ ?_ (by assumption) ?_; rotate_left
 · intro w hSw; (try dsimp only at hSw); go_simp
   try with_reducible rfl
 rotate_left; try simp only [sm]
 refine tk 12 ?_ ?_ (by assumption) ?_; rotate_left
 · intro w hSw; (try dsimp only at hSw); go_simp
   try with_reducible rfl
 rotate_left; try simp only [sm]
 refine tk 14 ?_ ?_ (by assumption) ?_; rotate_left
 · intro w hSw; (try dsimp only at hSw); go_simp
   try with_reducible rfl
 rotate_left; try simp only [sm]
 refine rd 13 (fun K hK => ?_); go_simp; refine hK.out _ _ ?_ (fun hHeld => ?_)
 · simp [go_sem, World.cell?_alloc_past]
 clear hK K; try simp only [sm]
 refine rd 15 (fun K hK => ?_); go_simp; refine (r23 _).mono ?_; rintro e w' ⟨rfl, rfl⟩; go_wp2_with fail; refine hK.out _ _ ?_ (fun hHeld => ?_)
 · simp [go_sem, World.cell?_alloc_past]
 clear hK K; try simp only [sm]
 refine tk 16 ?_ ?_ (by assumption) ?_; rotate_left
 · intro w hSw; (try dsimp only at hSw); go_simp
   try with_reducible rfl
 rotate_left; try simp only [sm]
 refine tk 17 ?_ ?_ (by assumption) ?_; rotate_left
 · intro w hSw; (try dsimp only at hSw); go_simp
   try with_reducible rfl
 rotate_left; try simp only [sm]
 refine tk 18 ?_ ?_ (by assumption) ?_; rotate_left
 · intro w hSw; (try dsimp only at hSw); go_simp
   try with_reducible rfl
 rotate_left; try simp only [sm]
 refine tk 19 ?_ ?_ (by assumption) ?_; rotate_left
 · intro w hSw; (try dsimp only at hSw); go_simp
   try with_reducible rfl
 rotate_left; try simp only [sm]
 refine rd 20 (fun K hK => ?_); go_simp; refine hK.out _ _ ?_ (fun hHeld => ?_)
 · simp [go_sem, World.cell?_alloc_past]
 clear hK K; try simp only [sm]
 refine tk 21 ?_ ?_ (by assumption) ?_; rotate_left
 · intro w hSw; (try dsimp only at hSw); go_simp
   try with_reducible rfl
 rotate_left; try simp only [sm]
 refine wpAnyH_done (by kernel_rfl) ?_ _; refine NoPanic.normal ?_; clear r23; go_wp2; rw [rounds_succ]; go_wp2; have g2 := row_num e20 e21 e22 e23; clear e20 e21 e22 e23; rw [rounds_succ]; go_wp2; refine wp_loop_rounds 5 ?_; obtain ⟨l30, h30, r30, x30, y30, e30⟩ := mulAdd_ex a3 b0 l21 0 ha.2.2.2 hb.1 x21 z; rw [rounds_succ]; go_wp2; refine wp_region_noPanic ?_; refine wp_region_held_drew (S := fun w' => w'.cell? ⟨w.heap.size, 3, none⟩ = some (.int .u64 a3) ∧ w'.cell? ⟨w.heap.size + 1, 0, none⟩ = some (.int .u64 b0)) (by kernel_rfl) ?_ (fun hHeld => ?_)
 · simp [go_sem, World.cell?_alloc_past]
 refine tk 0 ?_ ?_ (by assumption) ?_; rotate_left
 · intro w hSw; (try dsimp only at hSw); go_simp
   try with_reducible rfl
 rotate_left; try simp only [sm]
 refine tk 1 ?_ ?_ (by assumption) ?_; rotate_left
 · intro w hSw; (try dsimp only at hSw); go_simp
   try with_reducible rfl
 rotate_left; try simp only [sm]
 refine tk 2 ?_ ?_ (by assumption) ?_; rotate_left
 · intro w hSw; (try dsimp only at hSw); go_simp
   try with_reducible rfl
 rotate_left; try simp only [sm]
 refine tk 3 ?_ ?_ (by assumption) ?_; rotate_left
 · intro w hSw; (try dsimp only at hSw); go_simp
   try with_reducible rfl
 rotate_left; try simp only [sm]
 refine tk 4 ?_ ?_ (by assumption) ?_; rotate_left
 · intro w hSw; (try dsimp only at hSw); go_simp
   try with_reducible rfl
 rotate_left; try simp only [sm]
 refine tk 5 ?_ ?_ (by assumption) ?_; rotate_left
 · intro w hSw; (try dsimp only at hSw); go_simp
   try with_reducible rfl
 rotate_left; try simp only [sm]
 refine tk 6 ?_ ?_ (by assumption) ?_; rotate_left
 · intro w hSw; (try dsimp only at hSw); go_simp
   try with_reducible rfl
 rotate_left; try simp only [sm]
 refine tk 7 ?_ ?_ (by assumption) ?_; rotate_left
 · intro w hSw; (try dsimp only at hSw); go_simp
   try with_reducible rfl
 rotate_left; try simp only [sm]
 refine tk 8 ?_ ?_ (by assumption) ?_; rotate_left
 · intro w hSw; (try dsimp only at hSw); go_simp
   try with_reducible rfl
 rotate_left; try simp only [sm]
 refine tk 9 ?_ ?_ (by assumption) ?_; rotate_left
 · intro w hSw; (try dsimp only at hSw); go_simp
   try with_reducible rfl
 rotate_left; try simp only [sm]
 refine tk 10 ?_ ?_ (by assumption) ?_; rotate_left
 · intro w hSw; (try dsimp only at hSw); go_simp
   try with_reducible rfl
 rotate_left; try simp only [sm]
 refine tk 11 ?_ ?_ (by assumption) ?_; rotate_left
 · intro w hSw; (try dsimp only at hSw); go_simp
   try with_reducible rfl
 rotate_left; try simp only [sm]
 refine tk 12 ?_ ?_ (by assumption) ?_; rotate_left
 · intro w hSw; (try dsimp only at hSw); go_simp
   try with_reducible rfl
 rotate_left; try simp only [sm]
 refine tk 14 ?_ ?_ (by assumption) ?_; rotate_left
 · intro w hSw; (try dsimp only at hSw); go_simp
   try with_reducible rfl
 rotate_left; try simp only [sm]
 refine rd 13 (fun K hK => ?_); go_simp; refine hK.out _ _ ?_ (fun hHeld => ?_)
 · simp [go_sem, World.cell?_alloc_past]
 clear hK K; try simp only [sm]
 refine rd 15 (fun K hK => ?_); go_simp; refine (r30 _).mono ?_; rintro e w' ⟨rfl, rfl⟩; go_wp2_with fail; refine hK.out _ _ ?_ (fun hHeld => ?_)
 · simp [go_sem, World.cell?_alloc_past]
 clear hK K; try simp only [sm]
 refine tk 16 ?_ ?_ (by assumption) ?_; rotate_left
 · intro w hSw; (try dsimp only at hSw); go_simp
   try with_reducible rfl
 rotate_left; try simp only [sm]
 refine tk 17 ?_ ?_ (by assumption) ?_; rotate_left
 · intro w hSw; (try dsimp only at hSw); go_simp
   try with_reducible rfl
 rotate_left; try simp only [sm]
 refine tk 18 ?_ ?_ (by assumption) ?_; rotate_left
 · intro w hSw; (try dsimp only at hSw); go_simp
   try with_reducible rfl
 rotate_left; try simp only [sm]
 refine tk 19 ?_ ?_ (by assumption) ?_; rotate_left
 · intro w hSw; (try dsimp only at hSw); go_simp
   try with_reducible rfl
 rotate_left; try simp only [sm]
 refine rd 20 (fun K hK => ?_); go_simp; refine hK.out _ _ ?_ (fun hHeld => ?_)
 · simp [go_sem, World.cell?_alloc_past]
 clear hK K; try simp only [sm]
 refine tk 21 ?_ ?_ (by assumption) ?_; rotate_left
 · intro w hSw; (try dsimp only at hSw); go_simp
   try with_reducible rfl
 rotate_left; try simp only [sm]
 refine wpAnyH_done (by kernel_rfl) ?_ _; refine NoPanic.normal ?_; clear r30; go_wp2; obtain ⟨l31, h31, r31, x31, y31, e31⟩ := mulAdd_ex a3 b1 l22 h30 ha.2.2.2 hb.2.1 x22 y30; rw [rounds_succ]; go_wp2; refine wp_region_noPanic ?_; refine wp_region_held_drew (S := fun w' => w'.cell? ⟨w.heap.size, 3, none⟩ = some (.int .u64 a3) ∧ w'.cell? ⟨w.heap.size + 1, 1, none⟩ = some (.int .u64 b1)) (by kernel_rfl) ?_ (fun hHeld => ?_)
 · simp [go_sem, World.cell?_alloc_past]
 refine tk 0 ?_ ?_ (by assumption) ?_; rotate_left
 · intro w hSw; (try dsimp only at hSw); go_simp
   try with_reducible rfl
 rotate_left; try simp only [sm]
 refine tk 1 ?_ ?_ (by assumption) ?_; rotate_left
 · intro w hSw; (try dsimp only at hSw); go_simp
   try with_reducible rfl
 rotate_left; try simp only [sm]
 refine tk 2 ?_ ?_ (by assumption) ?_; rotate_left
 · intro w hSw; (try dsimp only at hSw); go_simp
   try with_reducible rfl
 rotate_left; try simp only [sm]
 refine tk 3 ?_ ?_ (by assumption) ?_; rotate_left
 · intro w hSw; (try dsimp only at hSw); go_simp
   try with_reducible rfl
 rotate_left; try simp only [sm]
 refine tk 4 ?_ ?_ (by assumption) ?_; rotate_left
 · intro w hSw; (try dsimp only at hSw); go_simp
   try with_reducible rfl
 rotate_left; try simp only [sm]
 refine tk 5 ?_ ?_ (by assumption) ?_; rotate_left
 · intro w hSw; (try dsimp only at hSw); go_simp
   try with_reducible rfl
 rotate_left; try simp only [sm]
 refine tk 6 ?_ ?_ (by assumption) ?_; rotate_left
 · intro w hSw; (try dsimp only at hSw); go_simp
   try with_reducible rfl
 rotate_left; try simp only [sm]
 refine tk 7 ?_ ?_ (by assumption) ?_; rotate_left
 · intro w hSw; (try dsimp only at hSw); go_simp
   try with_reducible rfl
 rotate_left; try simp only [sm]
 refine tk 8 ?_ ?_ (by assumption) ?_; rotate_left
 · intro w hSw; (try dsimp only at hSw); go_simp
   try with_reducible rfl
 rotate_left; try simp only [sm]
 refine tk 9 ?_ ?_ (by assumption) ?_; rotate_left
 · intro w hSw; (try dsimp only at hSw); go_simp
   try with_reducible rfl
 rotate_left; try simp only [sm]
 refine tk 10 ?_ ?_ (by assumption) ?_; rotate_left
 · intro w hSw; (try dsimp only at hSw); go_simp
   try with_reducible rfl
 rotate_left; try simp only [sm]
 refine tk 11 ?_ ?_ (by assumption) ?_; rotate_left
 · intro w hSw; (try dsimp only at hSw); go_simp
   try with_reducible rfl
 rotate_left; try simp only [sm]
 refine tk 12 ?_ ?_ (by assumption) ?_; rotate_left
 · intro w hSw; (try dsimp only at hSw); go_simp
   try with_reducible rfl
 rotate_left; try simp only [sm]
 refine tk 14 ?_ ?_ (by assumption) ?_; rotate_left
 · intro w hSw; (try dsimp only at hSw); go_simp
   try with_reducible rfl
 rotate_left; try simp only [sm]
 refine rd 13 (fun K hK => ?_); go_simp; refine hK.out _ _ ?_ (fun hHeld => ?_)
 · simp [go_sem, World.cell?_alloc_past]
 clear hK K; try simp only [sm]
 refine rd 15 (fun K hK => ?_); go_simp; refine (r31 _).mono ?_; rintro e w' ⟨rfl, rfl⟩; go_wp2_with fail; refine hK.out _ _ ?_ (fun hHeld => ?_)
 · simp [go_sem, World.cell?_alloc_past]
 clear hK K; try simp only [sm]
 refine tk 16 ?_ ?_ (by assumption) ?_; rotate_left
 · intro w hSw; (try dsimp only at hSw); go_simp
   try with_reducible rfl
 rotate_left; try simp only [sm]
 refine tk 17 ?_ ?_ (by assumption) ?_; rotate_left
 · intro w hSw; (try dsimp only at hSw); go_simp
   try with_reducible rfl
 rotate_left; try simp only [sm]
 refine tk 18 ?_ ?_ (by assumption) ?_; rotate_left
 · intro w hSw; (try dsimp only at hSw); go_simp
   try with_reducible rfl
 rotate_left; try simp only [sm]
 refine tk 19 ?_ ?_ (by assumption) ?_; rotate_left
 · intro w hSw; (try dsimp only at hSw); go_simp
   try with_reducible rfl
 rotate_left; try simp only [sm]
 refine rd 20 (fun K hK => ?_); go_simp; refine hK.out _ _ ?_ (fun hHeld => ?_)
 · simp [go_sem, World.cell?_alloc_past]
 clear hK K; try simp only [sm]
 refine tk 21 ?_ ?_ (by assumption) ?_; rotate_left
 · intro w hSw; (try dsimp only at hSw); go_simp
   try with_reducible rfl
 rotate_left; try simp only [sm]
 refine wpAnyH_done (by kernel_rfl) ?_ _; refine NoPanic.normal ?_; clear r31; go_wp2; obtain ⟨l32, h32, r32, x32, y32, e32⟩ := mulAdd_ex a3 b2 l23 h31 ha.2.2.2 hb.2.2.1 x23 y31; rw [rounds_succ]; go_wp2; refine wp_region_noPanic ?_; refine wp_region_held_drew (S := fun w' => w'.cell? ⟨w.heap.size, 3, none⟩ = some (.int .u64 a3) ∧ w'.cell? ⟨w.heap.size + 1, 2, none⟩ = some (.int .u64 b2)) (by kernel_rfl) ?_ (fun hHeld => ?_)
 · simp [go_sem, World.cell?_alloc_past]
 refine tk 0 ?_ ?_ (by assumption) ?_; rotate_left
 · intro w hSw; (try dsimp only at hSw); go_simp
   try with_reducible rfl
 rotate_left; try simp only [sm]
 refine tk 1 ?_ ?_ (by assumption) ?_; rotate_left
 · intro w hSw; (try dsimp only at hSw); go_simp
   try with_reducible rfl
 rotate_left; try simp only [sm]
 refine tk 2 ?_ ?_ (by assumption) ?_; rotate_left
 · intro w hSw; (try dsimp only at hSw); go_simp
   try with_reducible rfl
 rotate_left; try simp only [sm]
 refine tk 3 ?_ ?_ (by assumption) ?_; rotate_left
 · intro w hSw; (try dsimp only at hSw); go_simp
   try with_reducible rfl
 rotate_left; try simp only [sm]
 refine tk 4 ?_ ?_ (by assumption) ?_; rotate_left
 · intro w hSw; (try dsimp only at hSw); go_simp
   try with_reducible rfl
 rotate_left; try simp only [sm]
 refine tk 5 ?_ ?_ (by assumption) ?_; rotate_left
 · intro w hSw; (try dsimp only at hSw); go_simp
   try with_reducible rfl
 rotate_left; try simp only [sm]
 refine tk 6 ?_ ?_ (by assumption) ?_; rotate_left
 · intro w hSw; (try dsimp only at hSw); go_simp
   try with_reducible rfl
 rotate_left; try simp only [sm]
 refine tk 7 ?_ ?_ (by assumption) ?_; rotate_left
 · intro w hSw; (try dsimp only at hSw); go_simp
   try with_reducible rfl
 rotate_left; try simp only [sm]
 refine tk 8 ?_ ?_ (by assumption) ?_; rotate_left
 · intro w hSw; (try dsimp only at hSw); go_simp
   try with_reducible rfl
 rotate_left; try simp only [sm]
 refine tk 9 ?_ ?_ (by assumption) ?_; rotate_left
 · intro w hSw; (try dsimp only at hSw); go_simp
   try with_reducible rfl
 rotate_left; try simp only [sm]
 refine tk 10 ?_ ?_ (by assumption) ?_; rotate_left
 · intro w hSw; (try dsimp only at hSw); go_simp
   try with_reducible rfl
 rotate_left; try simp only [sm]
 refine tk 11 ?_ ?_ (by assumption) ?_; rotate_left
 · intro w hSw; (try dsimp only at hSw); go_simp
   try with_reducible rfl
 rotate_left; try simp only [sm]
 refine tk 12 ?_ ?_ (by assumption) ?_; rotate_left
 · intro w hSw; (try dsimp only at hSw); go_simp
   try with_reducible rfl
 rotate_left; try simp only [sm]
 refine tk 14 ?_ ?_ (by assumption) ?_; rotate_left
 · intro w hSw; (try dsimp only at hSw); go_simp
   try with_reducible rfl
 rotate_left; try simp only [sm]
 refine rd 13 (fun K hK => ?_); go_simp; refine hK.out _ _ ?_ (fun hHeld => ?_)
 · simp [go_sem, World.cell?_alloc_past]
 clear hK K; try simp only [sm]
 refine rd 15 (fun K hK => ?_); go_simp; refine (r32 _).mono ?_; rintro e w' ⟨rfl, rfl⟩; go_wp2_with fail; refine hK.out _ _ ?_ (fun hHeld => ?_)
 · simp [go_sem, World.cell?_alloc_past]
 clear hK K; try simp only [sm]
 refine tk 16 ?_ ?_ (by assumption) ?_; rotate_left
 · intro w hSw; (try dsimp only at hSw); go_simp
   try with_reducible rfl
 rotate_left; try simp only [sm]
 refine tk 17 ?_ ?_ (by assumption) ?_; rotate_left
 · intro w hSw; (try dsimp only at hSw); go_simp
   try with_reducible rfl
 rotate_left; try simp only [sm]
 refine tk 18 ?_ ?_ (by assumption) ?_; rotate_left
 · intro w hSw; (try dsimp only at hSw); go_simp
   try with_reducible rfl
 rotate_left; try simp only [sm]
 refine tk 19 ?_ ?_ (by assumption) ?_; rotate_left
 · intro w hSw; (try dsimp only at hSw); go_simp
   try with_reducible rfl
 rotate_left; try simp only [sm]
 refine rd 20 (fun K hK => ?_); go_simp; refine hK.out _ _ ?_ (fun hHeld => ?_)
 · simp [go_sem, World.cell?_alloc_past]
 clear hK K; try simp only [sm]
 refine tk 21 ?_ ?_ (by assumption) ?_; rotate_left
 · intro w hSw; (try dsimp only at hSw); go_simp
   try with_reducible rfl
 rotate_left; try simp only [sm]
 refine wpAnyH_done (by kernel_rfl) ?_ _; refine NoPanic.normal ?_; clear r32; go_wp2; obtain ⟨l33, h33, r33, x33, y33, e33⟩ := mulAdd_ex a3 b3 h23 h32 ha.2.2.2 hb.2.2.2 y23 y32; rw [rounds_succ]; go_wp2; refine wp_region_noPanic ?_; refine wp_region_held_drew (S := fun w' => w'.cell? ⟨w.heap.size, 3, none⟩ = some (.int .u64 a3) ∧ w'.cell? ⟨w.heap.size + 1, 3, none⟩ = some (.int .u64 b3)) (by kernel_rfl) ?_ (fun hHeld => ?_)
 · simp [go_sem, World.cell?_alloc_past]
 refine tk 0 ?_ ?_ (by assumption) ?_; rotate_left
 · intro w hSw; (try dsimp only at hSw); go_simp
   try with_reducible rfl
 rotate_left; try simp only [sm]
 refine tk 1 ?_ ?_ (by assumption) ?_; rotate_left
 · intro w hSw; (try dsimp only at hSw); go_simp
   try with_reducible rfl
 rotate_left; try simp only [sm]
 refine tk 2 ?_ ?_ (by assumption) ?_; rotate_left
 · intro w hSw; (try dsimp only at hSw); go_simp
   try with_reducible rfl
 rotate_left; try simp only [sm]
 refine tk 3 ?_ ?_ (by assumption) ?_; rotate_left
 · intro w hSw; (try dsimp only at hSw); go_simp
   try with_reducible rfl
 rotate_left; try simp only [sm]
 refine tk 4 ?_ ?_ (by assumption) ?_; rotate_left
 · intro w hSw; (try dsimp only at hSw); go_simp
   try with_reducible rfl
 rotate_left; try simp only [sm]
 refine tk 5 ?_ ?_ (by assumption) ?_; rotate_left
 · intro w hSw; (try dsimp only at hSw); go_simp
   try with_reducible rfl
 rotate_left; try simp only [sm]
 refine tk 6 ?_ ?_ (by assumption) ?_; rotate_left
 · intro w hSw; (try dsimp only at hSw); go_simp
   try with_reducible rfl
 rotate_left; try simp only [sm]
 refine tk 7 ?_ ?_ (by assumption) ?_; rotate_left
 · intro w hSw; (try dsimp only at hSw); go_simp
   try with_reducible rfl
 rotate_left; try simp only [sm]
 refine tk 8 ?_ ?_ (by assumption) ?_; rotate_left
 · intro w hSw; (try dsimp only at hSw); go_simp
   try with_reducible rfl
 rotate_left; try simp only [sm]
 refine tk 9 ?_ ?_ (by assumption) ?_; rotate_left
 · intro w hSw; (try dsimp only at hSw); go_simp
   try with_reducible rfl
 rotate_left; try simp only [sm]
 refine tk 10 ?_ ?_ (by assumption) ?_; rotate_left
 · intro w hSw; (try dsimp only at hSw); go_simp
   try with_reducible rfl
 rotate_left; try simp only [sm]
 refine tk 11 ?_ ?_ (by assumption) ?_; rotate_left
 · intro w hSw; (try dsimp only at hSw); go_simp
   try with_reducible rfl
 rotate_left; try simp only [sm]
 refine tk 12 ?_ ?_ (by assumption) ?_; rotate_left
 · intro w hSw; (try dsimp only at hSw); go_simp
   try with_reducible rfl
 rotate_left; try simp only [sm]
 refine tk 14 ?_ ?_ (by assumption) ?_; rotate_left
 · intro w hSw; (try dsimp only at hSw); go_simp
   try with_reducible rfl
 rotate_left; try simp only [sm]
 refine rd 13 (fun K hK => ?_); go_simp; refine hK.out _ _ ?_ (fun hHeld => ?_)
 · simp [go_sem, World.cell?_alloc_past]
 clear hK K; try simp only [sm]
 refine rd 15 (fun K hK => ?_); go_simp; refine (r33 _).mono ?_; rintro e w' ⟨rfl, rfl⟩; go_wp2_with fail; refine hK.out _ _ ?_ (fun hHeld => ?_)
 · simp [go_sem, World.cell?_alloc_past]
 clear hK K; try simp only [sm]
 refine tk 16 ?_ ?_ (by assumption) ?_; rotate_left
 · intro w hSw; (try dsimp only at hSw); go_simp
   try with_reducible rfl
 rotate_left; try simp only [sm]
 refine tk 17 ?_ ?_ (by assumption) ?_; rotate_left
 · intro w hSw; (try dsimp only at hSw); go_simp
   try with_reducible rfl
 rotate_left; try simp only [sm]
 refine tk 18 ?_ ?_ (by assumption) ?_; rotate_left
 · intro w hSw; (try dsimp only at hSw); go_simp
   try with_reducible rfl
 rotate_left; try simp only [sm]
 refine tk 19 ?_ ?_ (by assumption) ?_; rotate_left
 · intro w hSw; (try dsimp only at hSw); go_simp
   try with_reducible rfl
 rotate_left; try simp only [sm]
 refine rd 20 (fun K hK => ?_); go_simp; refine hK.out _ _ ?_ (fun hHeld => ?_)
 · simp [go_sem, World.cell?_alloc_past]
 clear hK K; try simp only [sm]
 refine tk 21 ?_ ?_ (by assumption) ?_; rotate_left
 · intro w hSw; (try dsimp only at hSw); go_simp
   try with_reducible rfl
 rotate_left; try simp only [sm]
 refine wpAnyH_done (by kernel_rfl) ?_ _; refine NoPanic.normal ?_; clear r33; go_wp2; rw [rounds_succ]; go_wp2; have g3 := row_num e30 e31 e32 e33; clear e30 e31 e32 e33; rw [rounds_succ]; go_wp2; have G := rows_num g0 g1 g2 g3; go_returns; exact ⟨l00, l10, l20, l30, l31, l32, l33, h33, rfl, ⟨x00, x10, x20, x30⟩, ⟨x31, x32, x33, y33⟩, G, by go_grown⟩
end Go.Proofs.YtojfcdjgcgnajaaGreat
