/- Walks over package field: sums, differences, products modulo P. -/
import Derived.Test.YtmflilgppllebaaFB
import Derived.Test.YtmflilgppllebaaW1
namespace Go.Proofs.Ytmflilgppllebaa
open Go.RowKit
set_option linter.unusedSimpArgs false
set_option linter.unusedVariables false

set_option maxHeartbeats 1000000 in
/-- field.Add -/
theorem fadd_any (hmod : ModC) (a0 a1 a2 a3 b0 b1 b2 b3 : Int) (ha : L4 a0 a1 a2 a3) (hb : L4 b0 b1 b2 b3) (w : World) :
    Calls Try.prog 9 #[W4 a0 a1 a2 a3, W4 b0 b1 b2 b3] w fun e w' =>
      ∃ s0 s1 s2 s3 : Int, e = .returned (W4 s0 s1 s2 s3) ∧ L4 s0 s1 s2 s3 ∧ Hid (num s0 s1 s2 s3 = (num a0 a1 a2 a3 + num b0 b1 b2 b3) % PP) ∧ Below w.heap.size w w' := by
  have HM : Hid ModC := hmod
  clear hmod
  unfold W4
  obtain ⟨s0, c0, r0, l0, p0, q0, e0⟩ := add64_ex a0 b0 0 ha.1 hb.1 (by decide) (by decide)
  obtain ⟨s1, c1, r1, l1, p1, q1, e1⟩ := add64_ex a1 b1 c0 ha.2.1 hb.2.1 p0 q0
  obtain ⟨s2, c2, r2, l2, p2, q2, e2⟩ := add64_ex a2 b2 c1 ha.2.2.1 hb.2.2.1 p1 q1
  obtain ⟨s3, c3, r3, l3, p3, q3, e3⟩ := add64_ex a3 b3 c2 ha.2.2.2 hb.2.2.2 p2 q2
  have E := sum_num e0 e1 e2 e3
  have hE : Hid _ := E
  clear E e0 e1 e2 e3
  have L : L4 s0 s1 s2 s3 := ⟨l0, l1, l2, l3⟩
  clear l0 l1 l2 l3 p0 p1 p2 q0 q1 q2 ha hb
  go_enter Try.func9, Try.ntmps9
  go_wp2_with fail
  refine (settle_any HM.out s0 s1 s2 s3 c3 L p3 (by omega) _).mono ?_
  rintro e w1 ⟨x0, x1, x2, x3, rfl, hL, hN, hw⟩
  have hEE : Hid (num x0 x1 x2 x3 = (num a0 a1 a2 a3 + num b0 b1 b2 b3) % PP) := by show _ = _; rw [hN.out, hE.out]
  obtain ⟨hc, hf⟩ := bcell hw
  have hz : w.heap.size + 1 + 1 < w1.heap.size := by have := hw.size; simp at this; omega
  unfold W4
  go_wp2
  refine bodyPost_ret (v := W4 x0 x1 x2 x3) (by simp [results, Try.results9, go_sem, hc, hz]) rfl ?_
  have hB : Below w.heap.size w w1 := Below.trans (by go_grown) (hw.mono (by simp; omega))
  clear hw hc hf
  exact ⟨x0, x1, x2, x3, rfl, hL, hEE, by go_grown⟩
theorem dif4_num {d0 d1 d2 d3 f0 f1 f2 f3 g0 g1 g2 g3 b m : Int} (hm : m = 76 * b) (h0 : Hid (d0 - m - 0 = f0 - 18446744073709551616 * g0)) (h1 : Hid (d1 - 0 - g0 = f1 - 18446744073709551616 * g1)) (h2 : Hid (d2 - 0 - g1 = f2 - 18446744073709551616 * g2)) (h3 : Hid (d3 - 0 - g2 = f3 - 18446744073709551616 * g3)) :
    num d0 d1 d2 d3 - 76 * b = num f0 f1 f2 f3 - T256 * g3 := by
  unfold Hid at *
  unfold num T256
  omega
set_option maxHeartbeats 1000000 in
/-- field.Sub -/
theorem fsub_any (hmod : ModC) (a0 a1 a2 a3 b0 b1 b2 b3 : Int) (ha : L4 a0 a1 a2 a3) (hb : L4 b0 b1 b2 b3) (w : World) :
    Calls Try.prog 11 #[W4 a0 a1 a2 a3, W4 b0 b1 b2 b3] w fun e w' =>
      ∃ s0 s1 s2 s3 : Int, e = .returned (W4 s0 s1 s2 s3) ∧ L4 s0 s1 s2 s3 ∧ Hid (num s0 s1 s2 s3 = (num a0 a1 a2 a3 - num b0 b1 b2 b3) % PP) ∧ Below w.heap.size w w' := by
  have HM : Hid ModC := hmod
  clear hmod
  have hna := num_bd ha
  have hnb := num_bd hb
  unfold W4
  obtain ⟨s0, c0, r0, l0, p0, q0, e0⟩ := sub64_ex a0 b0 0 ha.1 hb.1 (by decide) (by decide)
  obtain ⟨s1, c1, r1, l1, p1, q1, e1⟩ := sub64_ex a1 b1 c0 ha.2.1 hb.2.1 p0 q0
  obtain ⟨s2, c2, r2, l2, p2, q2, e2⟩ := sub64_ex a2 b2 c1 ha.2.2.1 hb.2.2.1 p1 q1
  obtain ⟨s3, c3, r3, l3, p3, q3, e3⟩ := sub64_ex a3 b3 c2 ha.2.2.2 hb.2.2.2 p2 q2
  have E := dif_num e0 e1 e2 e3
  obtain ⟨t0, g0, u0, m0, v0, z0, f0⟩ := sub64_ex s0 (76 * c3) 0 l0 ⟨by omega, by omega⟩ (by decide) (by decide)
  obtain ⟨t1, g1, u1, m1, v1, z1, f1⟩ := sub64_ex s1 0 g0 l1 ⟨by decide, by decide⟩ v0 z0
  obtain ⟨t2, g2, u2, m2, v2, z2, f2⟩ := sub64_ex s2 0 g1 l2 ⟨by decide, by decide⟩ v1 z1
  obtain ⟨t3, g3, u3, m3, v3, z3, f3⟩ := sub64_ex s3 0 g2 l3 ⟨by decide, by decide⟩ v2 z2
  have F := dif4_num (b := c3) rfl f0 f1 f2 f3
  have hns := num_bd (show L4 s0 s1 s2 s3 from ⟨l0, l1, l2, l3⟩)
  have L : L4 t0 t1 t2 t3 := ⟨m0, m1, m2, m3⟩
  have hnt := num_bd L
  have hle : g3 ≤ c3 := by
    unfold T256 at *
    omega
  have hE : Hid (num t0 t1 t2 t3 + T256 * (c3 - g3) = (num a0 a1 a2 a3 - num b0 b1 b2 b3) + PP * (4 * c3)) := by
    show _ = _
    unfold T256 PP at *
    omega
  have hcg : 0 ≤ c3 - g3 := by omega
  have hcg1 : c3 - g3 < 1000000 := by omega
  clear E F e0 e1 e2 e3 f0 f1 f2 f3 hna hnb hns hnt
  clear l0 l1 l2 l3 m0 m1 m2 m3 ha hb p0 p1 p2 q0 q1 q2 v0 v1 v2 z0 z1 z2
  go_enter Try.func11, Try.ntmps11
  go_wp2_with fail
  refine (settle_any HM.out t0 t1 t2 t3 (c3 - g3) L hcg hcg1 _).mono ?_
  rintro e w1 ⟨x0, x1, x2, x3, rfl, hL, hN, hw⟩
  have hEE : Hid (num x0 x1 x2 x3 = (num a0 a1 a2 a3 - num b0 b1 b2 b3) % PP) := by show _ = _; rw [hN.out, hE.out, Int.add_mul_emod_self_left]
  obtain ⟨hc, hf⟩ := bcell hw
  have hz : w.heap.size + 1 + 1 < w1.heap.size := by have := hw.size; simp at this; omega
  unfold W4
  go_wp2
  refine bodyPost_ret (v := W4 x0 x1 x2 x3) (by simp [results, Try.results11, go_sem, hc, hz]) rfl ?_
  have hB : Below w.heap.size w w1 := Below.trans (by go_grown) (hw.mono (by simp; omega))
  clear hw hc hf
  exact ⟨x0, x1, x2, x3, rfl, hL, hEE, by go_grown⟩
set_option maxHeartbeats 1000000 in
/-- field.below -/
theorem fbelow_any (hmod : ModC) (a0 a1 a2 a3 : Int) (ha : L4 a0 a1 a2 a3) (w : World) :
    Calls Try.prog 54 #[W4 a0 a1 a2 a3] w fun e w' =>
      ∃ s0 s1 s2 s3 : Int, e = .returned (W4 s0 s1 s2 s3) ∧ L4 s0 s1 s2 s3 ∧ Hid (num s0 s1 s2 s3 = num a0 a1 a2 a3 % PP) ∧ Below w.heap.size w w' := by
  have HM : Hid ModC := hmod
  have HL : Hid _ := ha
  clear hmod ha
  unfold W4
  go_enter Try.func54, Try.ntmps54
  go_wp2_with fail
  refine (settle_any HM.out a0 a1 a2 a3 0 HL.out (by decide) (by decide) _).mono ?_
  rintro e w1 ⟨x0, x1, x2, x3, rfl, hL, hN, hw⟩
  have hEE : Hid (num x0 x1 x2 x3 = num a0 a1 a2 a3 % PP) := by show _ = _; rw [hN.out, Int.mul_zero, Int.add_zero]
  obtain ⟨hc, hf⟩ := bcell hw
  have hz : w.heap.size + 1 < w1.heap.size := by have := hw.size; simp at this; omega
  unfold W4
  go_wp2
  refine bodyPost_ret (v := W4 x0 x1 x2 x3) (by simp [results, Try.results54, go_sem, hc, hz]) rfl ?_
  have hB : Below w.heap.size w w1 := Below.trans (by go_grown) (hw.mono (by simp; omega))
  clear hw hc hf
  exact ⟨x0, x1, x2, x3, rfl, hL, hEE, by go_grown⟩
end Go.Proofs.Ytmflilgppllebaa
