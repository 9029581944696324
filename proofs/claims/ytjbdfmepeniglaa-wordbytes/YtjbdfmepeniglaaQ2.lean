/- Walks over the document's own answers: quotients of numbers, signs. -/
import Derived.Test.YtjbdfmepeniglaaQ1
import Derived.Test.YtjbdfmepeniglaaR8
import Derived.Test.YtjbdfmepeniglaaX5
import Derived.Test.YtjbdfmepeniglaaE2
namespace Go.Proofs.Ytjbdfmepeniglaa
open Go.RowKit
set_option linter.unusedSimpArgs false
set_option linter.unusedVariables false
theorem quo_st {La Lb : Nat} (w : World) (va vb : Value) (a b : List Int) (na nb : Int) (la : La < 500) (lb : Lb < 500) (ha : IsN w va a) (hb : IsN w vb b) (pa : Hid (St La a na)) (pb : Hid (St Lb b nb)) (h0 : Hid (0 < nb)) :
    Calls Try.prog 72 #[va, vb] w fun e w' => ∃ (vq vr : Value) (q r : List Int), e = .returned (.tuple #[vq, vr]) ∧ IsN w' vq q ∧ IsN w' vr r ∧ Hid (St La q (na / nb)) ∧ Hid (St (Lb + 1) r (na % nb)) ∧ Below w.heap.size w w' := by
  obtain ⟨Ba, l1, ea⟩ := pa.out
  obtain ⟨Bb, l2, eb⟩ := pb.out
  have h0 := h0.out
  exact (quo_any w va vb a b ha hb (by omega) (by omega) Ba Bb (by omega)).mono fun e w' ⟨vq, vr, q, r, he, hN1, hN2, hB1, hB2, hl1, hl2, hV, hw⟩ => ⟨vq, vr, q, r, he, hN1, hN2, ⟨hB1, by omega, by rw [hV.out.1, ea, eb]⟩, ⟨hB2, by omega, by rw [hV.out.2, ea, eb]⟩, hw⟩
set_option maxHeartbeats 1000000 in
/-- conclaveref01.Neg -/
theorem negref_any (a0 a1 a2 a3 : Int) (ha : L4 a0 a1 a2 a3) (w : World) :
    Calls Try.prog 77 #[W4 a0 a1 a2 a3] w fun e w' => e = .returned (.bool (neg (num a0 a1 a2 a3))) ∧ Below w.heap.size w w' := by
  rw [← neg_num ha]
  unfold W4
  obtain ⟨h0, h1⟩ := ha.2.2.2
  go_enter Try.func77, Try.ntmps77
  go_wp2
  go_returns
  exact ⟨rfl, by go_grown⟩
theorem keepZ {n : Nat} {a0 a1 a2 a3 : Int} {W w1 : World} (h : n < W.heap.size ∧ W.cell? ⟨n, 0, none⟩ = some (.int .u64 a0) ∧ W.cell? ⟨n, 1, none⟩ = some (.int .u64 a1) ∧ W.cell? ⟨n, 2, none⟩ = some (.int .u64 a2) ∧ W.cell? ⟨n, 3, none⟩ = some (.int .u64 a3)) (hb : Below (n + 1) W w1) : n < w1.heap.size ∧ w1.cell? ⟨n, 0, none⟩ = some (.int .u64 a0) ∧ w1.cell? ⟨n, 1, none⟩ = some (.int .u64 a1) ∧ w1.cell? ⟨n, 2, none⟩ = some (.int .u64 a2) ∧ w1.cell? ⟨n, 3, none⟩ = some (.int .u64 a3) := by
  obtain ⟨hz, c0_0, c0_1, c0_2, c0_3⟩ := h
  exact ⟨Nat.lt_of_lt_of_le hz hb.size, cells_below hb _ _ _ (by omega) c0_0, cells_below hb _ _ _ (by omega) c0_1, cells_below hb _ _ _ (by omega) c0_2, cells_below hb _ _ _ (by omega) c0_3⟩
theorem keepZb {n : Nat} {a0 a1 a2 a3 : Int} {W w1 : World} (h : n < W.heap.size ∧ W.cell? ⟨n, 0, none⟩ = some (.int .u64 a0) ∧ W.cell? ⟨n, 1, none⟩ = some (.int .u64 a1) ∧ W.cell? ⟨n, 2, none⟩ = some (.int .u64 a2) ∧ W.cell? ⟨n, 3, none⟩ = some (.int .u64 a3)) (hb : Below W.heap.size W w1) : n < w1.heap.size ∧ w1.cell? ⟨n, 0, none⟩ = some (.int .u64 a0) ∧ w1.cell? ⟨n, 1, none⟩ = some (.int .u64 a1) ∧ w1.cell? ⟨n, 2, none⟩ = some (.int .u64 a2) ∧ w1.cell? ⟨n, 3, none⟩ = some (.int .u64 a3) := keepZ h (hb.mono (by have := h.1; omega))
theorem keepZs {n : Nat} {a0 a1 a2 a3 : Int} {W0 W w1 : World} (h : n < W0.heap.size ∧ W0.cell? ⟨n, 0, none⟩ = some (.int .u64 a0) ∧ W0.cell? ⟨n, 1, none⟩ = some (.int .u64 a1) ∧ W0.cell? ⟨n, 2, none⟩ = some (.int .u64 a2) ∧ W0.cell? ⟨n, 3, none⟩ = some (.int .u64 a3)) (h1 : Below (n + 1) W0 W) (hb : Below W.heap.size W w1) : n < w1.heap.size ∧ w1.cell? ⟨n, 0, none⟩ = some (.int .u64 a0) ∧ w1.cell? ⟨n, 1, none⟩ = some (.int .u64 a1) ∧ w1.cell? ⟨n, 2, none⟩ = some (.int .u64 a2) ∧ w1.cell? ⟨n, 3, none⟩ = some (.int .u64 a3) := keepZb (keepZ h h1) hb
theorem keepZc {n : Nat} {a0 a1 a2 a3 : Int} {W : World} (h : n < W.heap.size ∧ W.cell? ⟨n, 0, none⟩ = some (.int .u64 a0) ∧ W.cell? ⟨n, 1, none⟩ = some (.int .u64 a1) ∧ W.cell? ⟨n, 2, none⟩ = some (.int .u64 a2) ∧ W.cell? ⟨n, 3, none⟩ = some (.int .u64 a3)) {c o : Nat} {v : Value} (e0 : c ≠ n) : n < (W.setCell ⟨c, o, none⟩ v).heap.size ∧ (W.setCell ⟨c, o, none⟩ v).cell? ⟨n, 0, none⟩ = some (.int .u64 a0) ∧ (W.setCell ⟨c, o, none⟩ v).cell? ⟨n, 1, none⟩ = some (.int .u64 a1) ∧ (W.setCell ⟨c, o, none⟩ v).cell? ⟨n, 2, none⟩ = some (.int .u64 a2) ∧ (W.setCell ⟨c, o, none⟩ v).cell? ⟨n, 3, none⟩ = some (.int .u64 a3) := by
  obtain ⟨hz, c0_0, c0_1, c0_2, c0_3⟩ := h
  refine ⟨by simp [World.setCell]; exact hz, ?_, ?_, ?_, ?_⟩
  · rw [World.cell?_setCell_far _ _ _ _ (by simpa using e0)]; exact c0_0
  · rw [World.cell?_setCell_far _ _ _ _ (by simpa using e0)]; exact c0_1
  · rw [World.cell?_setCell_far _ _ _ _ (by simpa using e0)]; exact c0_2
  · rw [World.cell?_setCell_far _ _ _ _ (by simpa using e0)]; exact c0_3

theorem minus_val {x : Int} (hx : 0 ≤ x ∧ x < T256) (hn : neg x = true) : 2 ^ 256 - x = minusN x := by
  unfold minusN neg at *
  rw [two256]
  simp at hn
  unfold T256 at *
  omega
theorem minus_ok {x : Int} (hx : 0 ≤ x ∧ x < T256) : (0 : Int) < 2 ^ 256 ∧ x ≤ 2 ^ 256 := by
  rw [two256]; unfold T256 at *; omega
set_option maxHeartbeats 4000000 in
theorem sizeref_plus (a0 a1 a2 a3 : Int) (ha : L4 a0 a1 a2 a3) (hneg : neg (num a0 a1 a2 a3) = false) (w : World) :
    Calls Try.prog 76 #[W4 a0 a1 a2 a3] w fun e w' => ∃ (v : Value) (d : List Int), e = .returned v ∧ IsN w' v d ∧ Hid (St 32 d (num a0 a1 a2 a3)) ∧ Below w.heap.size w w' := by
  have HA : Hid _ := ha
  clear ha
  unfold W4
  go_enter Try.func76, Try.ntmps76
  go_wp2_with fail
  refine (negref_any a0 a1 a2 a3 HA.out _).mono ?_
  rintro e w1 ⟨rfl, hw⟩
  rw [hneg]
  obtain ⟨hc1, hf1, hl1⟩ := belt hw
  have hz1 : w.heap.size < w1.heap.size := hl1 _ (by simp)
  have hB : Below w.heap.size w w1 := Below.trans (by go_grown) (hw.mono (by simp))
  go_wp2_with fail
  refine (of_st a0 a1 a2 a3 HA.out _).mono ?_
  rintro e w2 ⟨v, d, rfl, N1, P1, hw2⟩
  have hB2 : Below w.heap.size w w2 := hB.trans (hw2.mono hB.size)
  clear hw hw2 hc1 hf1 hl1
  go_wp2
  go_ret
  exact ⟨v, d, rfl, N1, P1, hB2⟩
set_option maxHeartbeats 4000000 in
theorem sizeref_minus (a0 a1 a2 a3 : Int) (ha : L4 a0 a1 a2 a3) (hneg : neg (num a0 a1 a2 a3) = true) (w : World) :
    Calls Try.prog 76 #[W4 a0 a1 a2 a3] w fun e w' => ∃ (v : Value) (d : List Int), e = .returned v ∧ IsN w' v d ∧ Hid (St 33 d (minusN (num a0 a1 a2 a3))) ∧ Below w.heap.size w w' := by
  have HA : Hid _ := ha
  have HM : Hid _ := minus_val (num_bd ha) hneg
  clear ha
  unfold W4
  go_enter Try.func76, Try.ntmps76
  go_wp2_with fail
  refine (negref_any a0 a1 a2 a3 HA.out _).mono ?_
  rintro e w1 ⟨rfl, hw⟩
  rw [hneg]
  have s_ : Hid (w.heap.size < w1.heap.size ∧ w1.cell? ⟨w.heap.size, 0, none⟩ = some (.int .u64 a0) ∧ w1.cell? ⟨w.heap.size, 1, none⟩ = some (.int .u64 a1) ∧ w1.cell? ⟨w.heap.size, 2, none⟩ = some (.int .u64 a2) ∧ w1.cell? ⟨w.heap.size, 3, none⟩ = some (.int .u64 a3)) := by
    obtain ⟨hc1, hf1, hl1⟩ := belt hw
    refine ⟨hl1 _ (by simp), ?_, ?_, ?_, ?_⟩ <;> (rw [hc1 _ _ (by simp)]; simp [go_sem])
  have hB : Below w.heap.size w w1 := Below.trans (by go_grown) (hw.mono (by simp))
  clear hw
  have hs0 := hB.size
  go_wp2_with fail
  go_region_held3 (fun w' => w.heap.size < w'.heap.size ∧ w'.cell? ⟨w.heap.size, 0, none⟩ = some (.int .u64 a0) ∧ w'.cell? ⟨w.heap.size, 1, none⟩ = some (.int .u64 a1) ∧ w'.cell? ⟨w.heap.size, 2, none⟩ = some (.int .u64 a2) ∧ w'.cell? ⟨w.heap.size, 3, none⟩ = some (.int .u64 a3)) ((refine keepZ s_.out ?_; go_grown; done))
    (first
      | (go_at_call 65; go_must (refine Calls.mono (power_st 256 (by decide) _) ?_; rintro e w2 ⟨v1, d1, rfl, N1, P1, hw2⟩; have hzs := s_.out.1; have hB : Below w.heap.size w w2 := Below.trans (by go_grown) (hw2.mono (by go_size)); have s_ : Hid _ := keepZs s_.out (by go_grown) hw2; have hs0 := hB.size; have N1 : Hid _ := N1; clear hw2 hzs))
      | (go_at_call 56; go_must (refine Calls.mono (of_st a0 a1 a2 a3 HA.out _) ?_; rintro e w2 ⟨v2, d2, rfl, N2, P2, hw2⟩; have hzs := s_.out.1; have hB : Below w.heap.size w w2 := Below.trans (by go_grown) (hw2.mono (by go_size)); have s_ : Hid _ := keepZs s_.out (by go_grown) hw2; have hs0 := hB.size; have N1 : Hid _ := isN_on N1.out (by rfl) hw2; have N2 : Hid _ := N2; clear hw2 hzs))
      | (go_at_call 64; go_must (refine Calls.mono (less_st _ _ _ _ _ _ _ (by decide) (by decide) (isN_go N1.out (by rfl)) (isN_go N2.out (by rfl)) P1 P2 (minus_ok (num_bd HA.out))) ?_; rintro e w2 ⟨v3, d3, rfl, N3, P3, hw2⟩; have hzs := s_.out.1; have hB : Below w.heap.size w w2 := Below.trans (by go_grown) (hw2.mono (by go_size)); have s_ : Hid _ := keepZs s_.out (by go_grown) hw2; have hs0 := hB.size; have N3 : Hid _ := N3; clear hw2 hzs)))
  go_wp2
  go_ret
  exact ⟨v3, d3, rfl, N3.out, by rw [← HM.out]; exact P3, by go_grown⟩
/-- conclaveref01.Size -/
theorem sizeref_any (a0 a1 a2 a3 : Int) (ha : L4 a0 a1 a2 a3) (w : World) :
    Calls Try.prog 76 #[W4 a0 a1 a2 a3] w fun e w' => ∃ (v : Value) (d : List Int), e = .returned v ∧ IsN w' v d ∧ Hid (St 33 d (sizeN (num a0 a1 a2 a3))) ∧ Below w.heap.size w w' := by
  unfold sizeN
  by_cases h : neg (num a0 a1 a2 a3) = true
  · rw [if_pos h]; exact sizeref_minus a0 a1 a2 a3 ha h w
  · rw [if_neg h]; exact (sizeref_plus a0 a1 a2 a3 ha (by simpa using h) w).mono fun e w' ⟨v, d, he, hN, hP, hw⟩ => ⟨v, d, he, hN, ⟨hP.out.1, by have := hP.out.2.1; omega, hP.out.2.2⟩, hw⟩
theorem minusref_val (r n : Int) (h : r = (2 ^ 256 - n % 2 ^ 256) % T256) : r = minusN n := by
  rw [h, two256]; unfold minusN T256; omega
set_option maxHeartbeats 4000000 in
/-- conclaveref01.Minus -/
theorem minusref_any {L : Nat} (w : World) (v : Value) (d : List Int) (n : Int) (hl : L < 500) (h : IsN w v d) (p : Hid (St L d n)) :
    Calls Try.prog 78 #[v] w fun e w' => ∃ r0 r1 r2 r3, e = .returned (W4 r0 r1 r2 r3) ∧ L4 r0 r1 r2 r3 ∧ Hid (num r0 r1 r2 r3 = minusN n) ∧ Below w.heap.size w w' := by
  have H : Hid _ := h
  have hp0 : Hid ((0 : Int) < 2 ^ 256) := by show _ < _; decide
  obtain ⟨aa, ca, rfl, hca⟩ := h.shape
  clear h
  go_enter Try.func78, Try.ntmps78
  go_wp2_with fail
  have KR : Hid (Blk (w.alloc (.cells #[.int .u64 0, .int .u64 0, .int .u64 0, .int .u64 0] 24)) w.heap.size 0 0 0 0) := by refine ⟨by simp, ?_, ?_, ?_, ?_, fun k => ?_⟩ <;> simp [go_sem]
  have hB : Below w.heap.size w (w.alloc (.cells #[.int .u64 0, .int .u64 0, .int .u64 0, .int .u64 0] 24)) := by go_grown
  generalize (w.alloc (.cells #[.int .u64 0, .int .u64 0, .int .u64 0, .int .u64 0] 24)) = w0 at *
  have H : Hid _ := IsN.below H.out hB
  refine (power_st 256 (by decide) _).mono ?_
  rintro e w1 ⟨v1, d1, rfl, N1, P1, hw1⟩
  have H : Hid _ := IsN.below H.out hw1
  have KR : Hid _ := Blk.below KR.out hw1
  have hB : Below w.heap.size w w1 := hB.trans (hw1.mono hB.size)
  clear hw1
  go_wp2_with fail
  refine (quo_st _ _ _ _ _ _ _ hl (by decide) H.out N1 p P1 hp0).mono ?_
  rintro e w2 ⟨vq, vr, q, r, rfl, Nq, Nr, Pq, Pr, hw2⟩
  have KR : Hid _ := Blk.below KR.out hw2
  have hB : Below w.heap.size w w2 := hB.trans (hw2.mono hB.size)
  clear hw2
  go_wp2_with fail
  refine (power_st 256 (by decide) _).mono ?_
  rintro e w3 ⟨v3, d3, rfl, N3, P3, hw3⟩
  have Nr := Nr.below hw3
  have KR : Hid _ := Blk.below KR.out hw3
  have hB : Below w.heap.size w w3 := hB.trans (hw3.mono hB.size)
  clear hw3
  go_wp2_with fail
  refine (less_st _ _ _ _ _ _ _ (by decide) (by decide) N3 Nr P3 Pr ⟨hp0.out, by have := Int.emod_lt_of_pos n hp0.out; omega⟩).mono ?_
  rintro e w4 ⟨v4, d4, rfl, N4, P4, hw4⟩
  have KR : Hid _ := Blk.below KR.out hw4
  have hB : Below w.heap.size w w4 := hB.trans (hw4.mono hB.size)
  clear hw4
  go_wp2_with fail
  refine (word_st _ _ _ _ (by decide) N4 P4).mono ?_
  rintro e w5 ⟨r0, r1, r2, r3, rfl, Lr, Er, hw5⟩
  have KR : Hid _ := Blk.below KR.out hw5
  have hB : Below w.heap.size w w5 := hB.trans (hw5.mono hB.size)
  clear hw5
  have HE : Hid (num r0 r1 r2 r3 = minusN n) := minusref_val _ _ Er.out
  clear Er
  obtain ⟨zR, R0_, R1_, R2_, R3_, fR⟩ := KR.out
  unfold W4
  go_wp2
  refine bodyPost_ret (v := W4 r0 r1 r2 r3) (by simp [results, Try.results78, go_sem, R0_, R1_, R2_, R3_, zR]) rfl ?_
  exact ⟨r0, r1, r2, r3, rfl, Lr, HE, by go_grown⟩
end Go.Proofs.Ytjbdfmepeniglaa
