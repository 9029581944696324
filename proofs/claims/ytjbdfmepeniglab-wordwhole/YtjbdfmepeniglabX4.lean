/- Walks over package word: the other sign, and no sign. -/
import Derived.Test.YtjbdfmepeniglabX1
namespace Go.Proofs.Ytjbdfmepeniglab
open Go.RowKit
set_option linter.unusedSimpArgs false
set_option linter.unusedVariables false
/-- 0 less x, modulo 2^256. -/
def minusN (x : Int) : Int := (0 - x) % T256
/-- x without its sign. -/
def sizeN (x : Int) : Int := if neg x = true then minusN x else x
theorem num0 : num 0 0 0 0 = 0 := by decide
set_option maxHeartbeats 1000000 in
/-- word.negate -/
theorem negate_any (a0 a1 a2 a3 : Int) (ha : L4 a0 a1 a2 a3) (w : World) :
    Calls Try.prog 25 #[W4 a0 a1 a2 a3] w fun e w' => ∃ s0 s1 s2 s3 : Int, e = .returned (W4 s0 s1 s2 s3) ∧ L4 s0 s1 s2 s3 ∧ Hid (num s0 s1 s2 s3 = minusN (num a0 a1 a2 a3)) ∧ Below w.heap.size w w' := by
  have HA : Hid _ := ha
  clear ha
  unfold W4
  go_enter Try.func25, Try.ntmps25
  go_wp2_with fail
  refine (sub_any 0 0 0 0 a0 a1 a2 a3 (of_L4 limb0) HA.out _).mono ?_
  rintro e w1 ⟨s0, s1, s2, s3, rfl, L, E, hw⟩
  obtain ⟨hc, hf⟩ := bcell hw
  have hz : w.heap.size + 1 < w1.heap.size := by have := hw.size; simp at this; omega
  have HE : Hid (num s0 s1 s2 s3 = minusN (num a0 a1 a2 a3)) := by
    show _ = _
    rw [E.out, num0]; rfl
  clear E
  unfold W4
  go_wp2
  refine bodyPost_ret (v := W4 s0 s1 s2 s3) (by simp [results, Try.results25, go_sem, hc, hz]) rfl ?_
  have hB : Below w.heap.size w w1 := Below.trans (by go_grown) (hw.mono (by simp; omega))
  clear hw hc hf
  exact ⟨s0, s1, s2, s3, rfl, L, HE, by go_grown⟩
set_option maxHeartbeats 1000000 in
theorem size_plus (a0 a1 a2 a3 : Int) (ha : L4 a0 a1 a2 a3) (hneg : neg (num a0 a1 a2 a3) = false) (w : World) :
    Calls Try.prog 23 #[W4 a0 a1 a2 a3] w fun e w' => ∃ s0 s1 s2 s3 : Int, e = .returned (W4 s0 s1 s2 s3) ∧ L4 s0 s1 s2 s3 ∧ Hid (num s0 s1 s2 s3 = num a0 a1 a2 a3) ∧ Below w.heap.size w w' := by
  have HA : Hid _ := ha
  clear ha
  unfold W4
  go_enter Try.func23, Try.ntmps23
  go_wp2_with fail
  refine (negative_any a0 a1 a2 a3 HA.out _).mono ?_
  rintro e w1 ⟨rfl, hw⟩
  rw [hneg]
  obtain ⟨hc, hf⟩ := bcell hw
  have hz : w.heap.size + 1 < w1.heap.size := by have := hw.size; simp at this; omega
  go_wp2
  refine bodyPost_ret (v := W4 a0 a1 a2 a3) (by simp [results, Try.results23, go_sem, hc, hz]) rfl ?_
  have hB : Below w.heap.size w w1 := Below.trans (by go_grown) (hw.mono (by simp; omega))
  clear hw hc hf
  exact ⟨_, _, _, _, rfl, HA.out, rfl, by go_grown⟩
set_option maxHeartbeats 1000000 in
theorem size_minus (a0 a1 a2 a3 : Int) (ha : L4 a0 a1 a2 a3) (hneg : neg (num a0 a1 a2 a3) = true) (w : World) :
    Calls Try.prog 23 #[W4 a0 a1 a2 a3] w fun e w' => ∃ s0 s1 s2 s3 : Int, e = .returned (W4 s0 s1 s2 s3) ∧ L4 s0 s1 s2 s3 ∧ Hid (num s0 s1 s2 s3 = minusN (num a0 a1 a2 a3)) ∧ Below w.heap.size w w' := by
  have HA : Hid _ := ha
  clear ha
  unfold W4
  go_enter Try.func23, Try.ntmps23
  go_wp2_with fail
  refine (negative_any a0 a1 a2 a3 HA.out _).mono ?_
  rintro e w1 ⟨rfl, hw⟩
  rw [hneg]
  obtain ⟨hc1, hf1, hl1⟩ := belt hw
  go_wp2_with fail
  refine (negate_any a0 a1 a2 a3 HA.out _).mono ?_
  rintro e w2 ⟨s0, s1, s2, s3, rfl, L, E, hw2⟩
  have hw := belowMore hw hw2
  clear hw2 hc1 hf1 hl1
  obtain ⟨hc, hf⟩ := bcell hw
  have hz : w.heap.size + 1 < w2.heap.size := by have := hw.size; simp at this; omega
  unfold W4
  go_wp2
  refine bodyPost_ret (v := W4 s0 s1 s2 s3) (by simp [results, Try.results23, go_sem, hc, hz]) rfl ?_
  have hB : Below w.heap.size w w2 := Below.trans (by go_grown) (hw.mono (by simp; omega))
  clear hw hc hf
  exact ⟨s0, s1, s2, s3, rfl, L, E, by go_grown⟩
/-- word.size -/
theorem size_any (a0 a1 a2 a3 : Int) (ha : L4 a0 a1 a2 a3) (w : World) :
    Calls Try.prog 23 #[W4 a0 a1 a2 a3] w fun e w' => ∃ s0 s1 s2 s3 : Int, e = .returned (W4 s0 s1 s2 s3) ∧ L4 s0 s1 s2 s3 ∧ Hid (num s0 s1 s2 s3 = sizeN (num a0 a1 a2 a3)) ∧ Below w.heap.size w w' := by
  unfold sizeN
  by_cases h : neg (num a0 a1 a2 a3) = true
  · rw [if_pos h]; exact size_minus a0 a1 a2 a3 ha h w
  · rw [if_neg h]; exact size_plus a0 a1 a2 a3 ha (by simpa using h) w
end Go.Proofs.Ytjbdfmepeniglab
