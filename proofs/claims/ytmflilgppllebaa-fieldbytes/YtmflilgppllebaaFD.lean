/- Walks over package field: products modulo P; a bit. -/
import Derived.Test.YtmflilgppllebaaFC
namespace Go.Proofs.Ytmflilgppllebaa
open Go.RowKit
set_option linter.unusedSimpArgs false
set_option linter.unusedVariables false

theorem below_dn {B n : Nat} {u v : World} (h : Below B u v) : Below B u (v.drewN n) := ⟨h.os, h.tape, h.output, h.size, h.block⟩
theorem fnum_mul (a0 a1 a2 a3 x : Int) : num a0 a1 a2 a3 * x = a0 * x + 18446744073709551616 * (a1 * x) + 340282366920938463463374607431768211456 * (a2 * x) + 6277101735386680763835789423207666416102355444464034512896 * (a3 * x) := by
  rw [Int.mul_comm, fmul_num, Int.mul_comm x a0, Int.mul_comm x a1, Int.mul_comm x a2, Int.mul_comm x a3]
theorem frows_num {x0 x1 x2 x3 p0 p1 p2 p3 p4 q1 q2 q3 q4 q5 r2 r3 r4 r5 r6 s3 s4 s5 s6 s7 : Int}
    (e0 : x0 + num 0 0 0 0 = num p0 p1 p2 p3 + T256 * p4) (e1 : x1 + num p1 p2 p3 p4 = num q1 q2 q3 q4 + T256 * q5) (e2 : x2 + num q2 q3 q4 q5 = num r2 r3 r4 r5 + T256 * r6) (e3 : x3 + num r3 r4 r5 r6 = num s3 s4 s5 s6 + T256 * s7) :
    x0 + 18446744073709551616 * x1 + 340282366920938463463374607431768211456 * x2 + 6277101735386680763835789423207666416102355444464034512896 * x3 = num p0 q1 r2 s3 + T256 * num s4 s5 s6 s7 := by
  unfold num T256 at *
  omega
theorem ffold_num {X lo hi l h : Int} (e : X = lo + T256 * hi) (f : 38 * hi + lo = l + T256 * h) : l + T256 * h = X + PP * (-(2 * hi)) := by
  unfold T256 PP at *
  omega
theorem fsmall_h {hi lo l h : Int} (f : 38 * hi + lo = l + T256 * h) (h1 : hi < T256) (h2 : lo < T256) (h3 : 0 ≤ l) : h < 1000000 := by
  unfold T256 at *
  omega
set_option maxHeartbeats 2000000 in
/-- field.Mul -/
theorem fmul_any (hmod : ModC) (a0 a1 a2 a3 b0 b1 b2 b3 : Int) (ha : L4 a0 a1 a2 a3) (hb : L4 b0 b1 b2 b3) (w : World) :
    Calls Try.prog 13 #[W4 a0 a1 a2 a3, W4 b0 b1 b2 b3] w fun e w' =>
      ∃ s0 s1 s2 s3 : Int, e = .returned (W4 s0 s1 s2 s3) ∧ L4 s0 s1 s2 s3 ∧ Hid (num s0 s1 s2 s3 = (num a0 a1 a2 a3 * num b0 b1 b2 b3) % PP) ∧ Below w.heap.size w w' := by
  have HM : Hid ModC := hmod
  clear hmod
  have z4 : L4 0 0 0 0 := ⟨⟨by decide, by decide⟩, ⟨by decide, by decide⟩, ⟨by decide, by decide⟩, ⟨by decide, by decide⟩⟩
  obtain ⟨p0, p1, p2, p3, p4, R0, lp, lp4, e0⟩ := frow_any a0 b0 b1 b2 b3 0 0 0 0 ha.1 hb z4
  obtain ⟨q1, q2, q3, q4, q5, R1, lq, lq5, e1⟩ := frow_any a1 b0 b1 b2 b3 p1 p2 p3 p4 ha.2.1 hb ⟨lp.2.1, lp.2.2.1, lp.2.2.2, lp4⟩
  obtain ⟨r2, r3, r4, r5, r6, R2, lr, lr6, e2⟩ := frow_any a2 b0 b1 b2 b3 q2 q3 q4 q5 ha.2.2.1 hb ⟨lq.2.1, lq.2.2.1, lq.2.2.2, lq5⟩
  obtain ⟨s3, s4, s5, s6, s7, R3, ls, ls7, e3⟩ := frow_any a3 b0 b1 b2 b3 r3 r4 r5 r6 ha.2.2.2 hb ⟨lr.2.1, lr.2.2.1, lr.2.2.2, lr6⟩
  have hlo : L4 p0 q1 r2 s3 := ⟨lp.1, lq.1, lr.1, ls.1⟩
  have hhi : L4 s4 s5 s6 s7 := ⟨ls.2.1, ls.2.2.1, ls.2.2.2, ls7⟩
  obtain ⟨l0, l1, l2, l3, h, R4, ll, lh, e4⟩ := frow_any 38 s4 s5 s6 s7 p0 q1 r2 s3 ⟨by decide, by decide⟩ hhi hlo
  have E := frows_num e0.out e1.out e2.out e3.out
  rw [← fnum_mul] at E
  have E2 := ffold_num E e4.out
  have hsm := fsmall_h e4.out (num_bd hhi).2 (num_bd hlo).2 (num_bd ll).1
  have HE : Hid _ := E2
  have h0 : 0 ≤ h := lh.1
  have H0 : Hid _ := R0
  have H1 : Hid _ := R1
  have H2 : Hid _ := R2
  have H3 : Hid _ := R3
  have H4 : Hid _ := R4
  clear E E2 e0 e1 e2 e3 e4 R0 R1 R2 R3 R4 lp lp4 lq lq5 lr lr6 ls ls7 hlo hhi lh z4 ha hb
  unfold W4
  go_enter Try.func13, Try.ntmps13
  go_wp2
  go_quiet (fail)
  go_wp2_with fail
  refine Calls.mono (H0.out _) ?_
  rintro e w' ⟨rfl, hs⟩
  obtain rfl := hs.symm
  go_wp2_with fail
  refine Calls.mono (H1.out _) ?_
  rintro e w' ⟨rfl, hs⟩
  obtain rfl := hs.symm
  go_wp2_with fail
  refine Calls.mono (H2.out _) ?_
  rintro e w' ⟨rfl, hs⟩
  obtain rfl := hs.symm
  go_wp2_with fail
  refine Calls.mono (H3.out _) ?_
  rintro e w' ⟨rfl, hs⟩
  obtain rfl := hs.symm
  go_wp2_with fail
  refine Calls.mono (H4.out _) ?_
  rintro e w' ⟨rfl, hs⟩
  obtain rfl := hs.symm
  go_wp2_with fail
  refine (settle_any HM.out l0 l1 l2 l3 h ll h0 hsm _).mono ?_
  rintro e w1 ⟨x0, x1, x2, x3, rfl, hL, hN, hw⟩
  have hEE : Hid (num x0 x1 x2 x3 = (num a0 a1 a2 a3 * num b0 b1 b2 b3) % PP) := by show _ = _; rw [hN.out, HE.out, Int.add_mul_emod_self_left]
  obtain ⟨hc, hf⟩ := bcell hw
  have hz : w.heap.size + 1 + 1 < w1.heap.size := by have := hw.size; simp at this; omega
  clear H0 H1 H2 H3 H4 HE hN
  unfold W4
  go_wp2
  refine bodyPost_ret (v := W4 x0 x1 x2 x3) (by simp [results, Try.results13, go_sem, hc, hz]) rfl ?_
  have hB : Below w.heap.size w w1 := Below.trans (below_dn (by go_grown)) (hw.mono (by simp; omega))
  clear hw hc hf
  exact ⟨x0, x1, x2, x3, rfl, hL, hEE, by go_grown⟩
end Go.Proofs.Ytmflilgppllebaa
