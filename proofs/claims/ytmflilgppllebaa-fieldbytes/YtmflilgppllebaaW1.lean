/- Walks over package word: sums, differences, products. -/
import Derived.Test.YtmflilgppllebaaBase
namespace Go.Proofs.Ytmflilgppllebaa
open Go.RowKit
set_option linter.unusedSimpArgs false

theorem sum_num {a0 a1 a2 a3 b0 b1 b2 b3 s0 s1 s2 s3 c0 c1 c2 c3 : Int} (h0 : Hid (a0 + b0 + 0 = s0 + 18446744073709551616 * c0)) (h1 : Hid (a1 + b1 + c0 = s1 + 18446744073709551616 * c1)) (h2 : Hid (a2 + b2 + c1 = s2 + 18446744073709551616 * c2)) (h3 : Hid (a3 + b3 + c2 = s3 + 18446744073709551616 * c3)) :
    num a0 a1 a2 a3 + num b0 b1 b2 b3 = num s0 s1 s2 s3 + T256 * c3 := by
  unfold Hid at *
  unfold num T256
  omega
theorem dif_num {a0 a1 a2 a3 b0 b1 b2 b3 s0 s1 s2 s3 c0 c1 c2 c3 : Int} (h0 : Hid (a0 - b0 - 0 = s0 - 18446744073709551616 * c0)) (h1 : Hid (a1 - b1 - c0 = s1 - 18446744073709551616 * c1)) (h2 : Hid (a2 - b2 - c1 = s2 - 18446744073709551616 * c2)) (h3 : Hid (a3 - b3 - c2 = s3 - 18446744073709551616 * c3)) :
    num a0 a1 a2 a3 - num b0 b1 b2 b3 = num s0 s1 s2 s3 - T256 * c3 := by
  unfold Hid at *
  unfold num T256
  omega
set_option maxHeartbeats 1000000 in
/-- word.sum -/
theorem sum_any (a0 a1 a2 a3 b0 b1 b2 b3 : Int) (ha : L4 a0 a1 a2 a3) (hb : L4 b0 b1 b2 b3) (w : World) :
    Calls Try.prog 75 #[W4 a0 a1 a2 a3, W4 b0 b1 b2 b3] w fun e w' =>
      ∃ s0 s1 s2 s3 c : Int, e = .returned (.tuple #[W4 s0 s1 s2 s3, .int .u64 c]) ∧ L4 s0 s1 s2 s3 ∧ (0 ≤ c ∧ c ≤ 1) ∧ Hid (num a0 a1 a2 a3 + num b0 b1 b2 b3 = num s0 s1 s2 s3 + T256 * c) ∧ Below w.heap.size w w' := by
  unfold W4
  obtain ⟨s0, c0, r0, l0, p0, q0, e0⟩ := add64_ex a0 b0 0 ha.1 hb.1 (by decide) (by decide)
  obtain ⟨s1, c1, r1, l1, p1, q1, e1⟩ := add64_ex a1 b1 c0 ha.2.1 hb.2.1 p0 q0
  obtain ⟨s2, c2, r2, l2, p2, q2, e2⟩ := add64_ex a2 b2 c1 ha.2.2.1 hb.2.2.1 p1 q1
  obtain ⟨s3, c3, r3, l3, p3, q3, e3⟩ := add64_ex a3 b3 c2 ha.2.2.2 hb.2.2.2 p2 q2
  have E := sum_num e0 e1 e2 e3
  have hE : Hid _ := E
  clear E e0 e1 e2 e3
  have L : L4 s0 s1 s2 s3 := ⟨l0, l1, l2, l3⟩
  clear l0 l1 l2 l3 p0 p1 p2 q0 q1 q2 ha hb
  go_enter Try.func75, Try.ntmps75
  go_wp2
  refine wp_loop_rounds 5 ?_
  iterate 4
    rw [rounds_succ]
    go_wp2
    go_region
    go_wp2
  rw [rounds_succ]
  go_wp2
  go_returns
  exact ⟨s0, s1, s2, s3, c3, rfl, L, ⟨p3, q3⟩, hE, by go_grown⟩
set_option maxHeartbeats 1000000 in
/-- word.Add -/
theorem add_any (a0 a1 a2 a3 b0 b1 b2 b3 : Int) (ha : L4 a0 a1 a2 a3) (hb : L4 b0 b1 b2 b3) (w : World) :
    Calls Try.prog 56 #[W4 a0 a1 a2 a3, W4 b0 b1 b2 b3] w fun e w' =>
      ∃ s0 s1 s2 s3 : Int, e = .returned (W4 s0 s1 s2 s3) ∧ L4 s0 s1 s2 s3 ∧ Hid (num s0 s1 s2 s3 = (num a0 a1 a2 a3 + num b0 b1 b2 b3) % T256) ∧ Below w.heap.size w w' := by
  unfold W4
  go_enter Try.func56, Try.ntmps56
  go_wp2_with fail
  refine (sum_any a0 a1 a2 a3 b0 b1 b2 b3 ha hb _).mono ?_
  rintro e w1 ⟨s0, s1, s2, s3, c, rfl, L, ⟨hc0, hc1⟩, hE, hw⟩
  have hEE : Hid (num s0 s1 s2 s3 = (num a0 a1 a2 a3 + num b0 b1 b2 b3) % T256) := by
    have := num_bd L; unfold Hid at *; rw [hE]; unfold T256 at *; omega
  obtain ⟨hc, hf⟩ := bcell hw
  have hz : w.heap.size + 1 + 1 < w1.heap.size := by have := hw.size; simp at this; omega
  unfold W4
  go_wp2
  refine bodyPost_ret (v := W4 s0 s1 s2 s3) (by simp [results, Try.results56, go_sem, hc, hz]) rfl ?_
  have hB : Below w.heap.size w w1 := Below.trans (by go_grown) (hw.mono (by simp; omega))
  clear hw hc hf
  exact ⟨s0, s1, s2, s3, rfl, L, hEE, by go_grown⟩
set_option maxHeartbeats 1000000 in
/-- word.Sub -/
theorem sub_any (a0 a1 a2 a3 b0 b1 b2 b3 : Int) (ha : L4 a0 a1 a2 a3) (hb : L4 b0 b1 b2 b3) (w : World) :
    Calls Try.prog 58 #[W4 a0 a1 a2 a3, W4 b0 b1 b2 b3] w fun e w' =>
      ∃ s0 s1 s2 s3 : Int, e = .returned (W4 s0 s1 s2 s3) ∧ L4 s0 s1 s2 s3 ∧ Hid (num s0 s1 s2 s3 = (num a0 a1 a2 a3 - num b0 b1 b2 b3) % T256) ∧ Below w.heap.size w w' := by
  unfold W4
  obtain ⟨s0, c0, r0, l0, p0, q0, e0⟩ := sub64_ex a0 b0 0 ha.1 hb.1 (by decide) (by decide)
  obtain ⟨s1, c1, r1, l1, p1, q1, e1⟩ := sub64_ex a1 b1 c0 ha.2.1 hb.2.1 p0 q0
  obtain ⟨s2, c2, r2, l2, p2, q2, e2⟩ := sub64_ex a2 b2 c1 ha.2.2.1 hb.2.2.1 p1 q1
  obtain ⟨s3, c3, r3, l3, p3, q3, e3⟩ := sub64_ex a3 b3 c2 ha.2.2.2 hb.2.2.2 p2 q2
  have E := dif_num e0 e1 e2 e3
  have L : L4 s0 s1 s2 s3 := ⟨l0, l1, l2, l3⟩
  have hE : Hid (num s0 s1 s2 s3 = (num a0 a1 a2 a3 - num b0 b1 b2 b3) % T256) := by
    have := num_bd L; unfold Hid; rw [E]; unfold T256 at *; omega
  clear E e0 e1 e2 e3
  clear l0 l1 l2 l3 p0 p1 p2 q0 q1 q2 ha hb
  go_enter Try.func58, Try.ntmps58
  go_wp2
  refine wp_loop_rounds 5 ?_
  iterate 4
    rw [rounds_succ]
    go_wp2
    go_region
    go_wp2
  rw [rounds_succ]
  go_wp2
  go_returns
  exact ⟨s0, s1, s2, s3, rfl, L, hE, by go_grown⟩
end Go.Proofs.Ytmflilgppllebaa
