/- Walks over the document's own answers: shifts down. -/
import Derived.Test.YtjbdfmepeniglaaB5
namespace Go.Proofs.Ytjbdfmepeniglaa
open Go.RowKit
set_option linter.unusedSimpArgs false
set_option linter.unusedVariables false
theorem Blk.onto {w : World} {b : Nat} {x0 x1 x2 x3 : Int} (h : Blk w b x0 x1 x2 x3) (o : Obj) : Blk (w.alloc o) b x0 x1 x2 x3 := by
  obtain ⟨hz, c0, c1, c2, c3, f⟩ := h
  refine ⟨by simp; omega, ?_, ?_, ?_, ?_, fun k => ?_⟩
  · rw [World.cell?_alloc_past _ _ _ hz]; exact c0
  · rw [World.cell?_alloc_past _ _ _ hz]; exact c1
  · rw [World.cell?_alloc_past _ _ _ hz]; exact c2
  · rw [World.cell?_alloc_past _ _ _ hz]; exact c3
  · rw [World.frozen?_alloc_past _ _ _ hz]; exact f k
set_option maxHeartbeats 4000000 in
theorem shrref_any (n0 n1 n2 n3 x0 x1 x2 x3 : Int) (hn : L4 n0 n1 n2 n3) (hx : L4 x0 x1 x2 x3) (w : World) :
    Calls Try.prog 39 #[W4 n0 n1 n2 n3, W4 x0 x1 x2 x3] w fun e w' => ∃ r0 r1 r2 r3 : Int, e = .returned (W4 r0 r1 r2 r3) ∧ L4 r0 r1 r2 r3 ∧ Hid (num r0 r1 r2 r3 = shrN (num n0 n1 n2 n3) (num x0 x1 x2 x3)) ∧ Below w.heap.size w w' := by
  have HN : Hid _ := hn
  have HX : Hid _ := hx
  clear hn hx
  obtain ⟨K, hK⟩ : ∃ K, smallN (num n0 n1 n2 n3) 256 = K := ⟨_, rfl⟩
  have HK : Hid _ := hK
  have hKm : K ≤ 256 := by rw [← hK]; exact small_le _ _
  have HSM : Hid (∀ w, Calls Try.prog 81 #[W4 n0 n1 n2 n3, .int .i64 256] w fun e w' => e = .returned (.int .i64 K) ∧ Below w.heap.size w w') := fun w => by
    have := small_any n0 n1 n2 n3 256 HN.out (by decide) w
    rw [hK] at this; exact this
  clear hK
  unfold W4 at *
  go_enter Try.func39, Try.ntmps39
  go_wp2_with fail
  have s_ : Hid (w.heap.size + 1 + 1 < (((w.alloc (.cells #[.int .u64 n0, .int .u64 n1, .int .u64 n2, .int .u64 n3] 24)).alloc (.cells #[.int .u64 x0, .int .u64 x1, .int .u64 x2, .int .u64 x3] 24)).alloc (.cells #[.int .u64 0, .int .u64 0, .int .u64 0, .int .u64 0] 24)).heap.size ∧ (((w.alloc (.cells #[.int .u64 n0, .int .u64 n1, .int .u64 n2, .int .u64 n3] 24)).alloc (.cells #[.int .u64 x0, .int .u64 x1, .int .u64 x2, .int .u64 x3] 24)).alloc (.cells #[.int .u64 0, .int .u64 0, .int .u64 0, .int .u64 0] 24)).cell? ⟨w.heap.size, 0, none⟩ = some (.int .u64 n0) ∧ (((w.alloc (.cells #[.int .u64 n0, .int .u64 n1, .int .u64 n2, .int .u64 n3] 24)).alloc (.cells #[.int .u64 x0, .int .u64 x1, .int .u64 x2, .int .u64 x3] 24)).alloc (.cells #[.int .u64 0, .int .u64 0, .int .u64 0, .int .u64 0] 24)).cell? ⟨w.heap.size, 1, none⟩ = some (.int .u64 n1) ∧ (((w.alloc (.cells #[.int .u64 n0, .int .u64 n1, .int .u64 n2, .int .u64 n3] 24)).alloc (.cells #[.int .u64 x0, .int .u64 x1, .int .u64 x2, .int .u64 x3] 24)).alloc (.cells #[.int .u64 0, .int .u64 0, .int .u64 0, .int .u64 0] 24)).cell? ⟨w.heap.size, 2, none⟩ = some (.int .u64 n2) ∧ (((w.alloc (.cells #[.int .u64 n0, .int .u64 n1, .int .u64 n2, .int .u64 n3] 24)).alloc (.cells #[.int .u64 x0, .int .u64 x1, .int .u64 x2, .int .u64 x3] 24)).alloc (.cells #[.int .u64 0, .int .u64 0, .int .u64 0, .int .u64 0] 24)).cell? ⟨w.heap.size, 3, none⟩ = some (.int .u64 n3) ∧ (((w.alloc (.cells #[.int .u64 n0, .int .u64 n1, .int .u64 n2, .int .u64 n3] 24)).alloc (.cells #[.int .u64 x0, .int .u64 x1, .int .u64 x2, .int .u64 x3] 24)).alloc (.cells #[.int .u64 0, .int .u64 0, .int .u64 0, .int .u64 0] 24)).cell? ⟨w.heap.size + 1, 0, none⟩ = some (.int .u64 x0) ∧ (((w.alloc (.cells #[.int .u64 n0, .int .u64 n1, .int .u64 n2, .int .u64 n3] 24)).alloc (.cells #[.int .u64 x0, .int .u64 x1, .int .u64 x2, .int .u64 x3] 24)).alloc (.cells #[.int .u64 0, .int .u64 0, .int .u64 0, .int .u64 0] 24)).cell? ⟨w.heap.size + 1, 1, none⟩ = some (.int .u64 x1) ∧ (((w.alloc (.cells #[.int .u64 n0, .int .u64 n1, .int .u64 n2, .int .u64 n3] 24)).alloc (.cells #[.int .u64 x0, .int .u64 x1, .int .u64 x2, .int .u64 x3] 24)).alloc (.cells #[.int .u64 0, .int .u64 0, .int .u64 0, .int .u64 0] 24)).cell? ⟨w.heap.size + 1, 2, none⟩ = some (.int .u64 x2) ∧ (((w.alloc (.cells #[.int .u64 n0, .int .u64 n1, .int .u64 n2, .int .u64 n3] 24)).alloc (.cells #[.int .u64 x0, .int .u64 x1, .int .u64 x2, .int .u64 x3] 24)).alloc (.cells #[.int .u64 0, .int .u64 0, .int .u64 0, .int .u64 0] 24)).cell? ⟨w.heap.size + 1, 3, none⟩ = some (.int .u64 x3)) := by
    refine ⟨by simp, ?_, ?_, ?_, ?_, ?_, ?_, ?_, ?_⟩ <;> simp [go_sem, World.cell?_alloc_past]
  have r : ∀ k, k < 4 → (((w.alloc (.cells #[.int .u64 n0, .int .u64 n1, .int .u64 n2, .int .u64 n3] 24)).alloc (.cells #[.int .u64 x0, .int .u64 x1, .int .u64 x2, .int .u64 x3] 24)).alloc (.cells #[.int .u64 0, .int .u64 0, .int .u64 0, .int .u64 0] 24)).cell? ⟨w.heap.size + 1 + 1, k, none⟩ = some (.int .u64 0) := fun k hk => by
    rcases (by omega : k = 0 ∨ k = 1 ∨ k = 2 ∨ k = 3) with rfl | rfl | rfl | rfl <;> simp [go_sem, World.cell?_alloc_past]
  have fz : ∀ k, (((w.alloc (.cells #[.int .u64 n0, .int .u64 n1, .int .u64 n2, .int .u64 n3] 24)).alloc (.cells #[.int .u64 x0, .int .u64 x1, .int .u64 x2, .int .u64 x3] 24)).alloc (.cells #[.int .u64 0, .int .u64 0, .int .u64 0, .int .u64 0] 24)).frozen? ⟨w.heap.size + 1 + 1, k, none⟩ = false := fun k => by
    simp [go_sem, World.frozen?_alloc_past]
  have hB : Below w.heap.size w (((w.alloc (.cells #[.int .u64 n0, .int .u64 n1, .int .u64 n2, .int .u64 n3] 24)).alloc (.cells #[.int .u64 x0, .int .u64 x1, .int .u64 x2, .int .u64 x3] 24)).alloc (.cells #[.int .u64 0, .int .u64 0, .int .u64 0, .int .u64 0] 24)) := by go_grown
  generalize (((w.alloc (.cells #[.int .u64 n0, .int .u64 n1, .int .u64 n2, .int .u64 n3] 24)).alloc (.cells #[.int .u64 x0, .int .u64 x1, .int .u64 x2, .int .u64 x3] 24)).alloc (.cells #[.int .u64 0, .int .u64 0, .int .u64 0, .int .u64 0] 24)) = w0 at *
  have hs0 := hB.size
  go_region_held3 (fun w' => w.heap.size + 1 + 1 < w'.heap.size ∧ w'.cell? ⟨w.heap.size, 0, none⟩ = some (.int .u64 n0) ∧ w'.cell? ⟨w.heap.size, 1, none⟩ = some (.int .u64 n1) ∧ w'.cell? ⟨w.heap.size, 2, none⟩ = some (.int .u64 n2) ∧ w'.cell? ⟨w.heap.size, 3, none⟩ = some (.int .u64 n3) ∧ w'.cell? ⟨w.heap.size + 1, 0, none⟩ = some (.int .u64 x0) ∧ w'.cell? ⟨w.heap.size + 1, 1, none⟩ = some (.int .u64 x1) ∧ w'.cell? ⟨w.heap.size + 1, 2, none⟩ = some (.int .u64 x2) ∧ w'.cell? ⟨w.heap.size + 1, 3, none⟩ = some (.int .u64 x3)) ((refine keep2 s_.out ?_; go_grown; done))
    (first
      | (go_at_call 56; go_must (refine Calls.mono (of_st x0 x1 x2 x3 HX.out _) ?_; rintro e w2 ⟨v1, d1, rfl, N1, P1, hw2⟩; have hzs := s_.out.1; have r := stepR2 r (by go_grown) hw2 (by go_size); have fz := stepF2 fz (by go_grown) hw2 (by go_size); have hB : Below w.heap.size w w2 := Below.trans (by go_grown) (hw2.mono (by go_size)); have s_ : Hid _ := keep2s s_.out (by go_grown) hw2; have hs0 := hB.size; have hz1 := s_.out.1;  clear hzs hw2; have N1 : Hid _ := N1))
      | (go_at_call 81; go_must (refine Calls.mono (HSM.out _) ?_; rintro e w2 ⟨rfl, hw2⟩; have hzs := s_.out.1; have r := stepR2 r (by go_grown) hw2 (by go_size); have fz := stepF2 fz (by go_grown) hw2 (by go_size); have hB : Below w.heap.size w w2 := Below.trans (by go_grown) (hw2.mono (by go_size)); have s_ : Hid _ := keep2s s_.out (by go_grown) hw2; have hs0 := hB.size; have hz1 := s_.out.1; have N1 : Hid _ := isN_on N1.out (by rfl) hw2; clear hzs hw2))
      | (go_at_call 65; go_must (refine Calls.mono (power_st K (by omega) _) ?_; rintro e w2 ⟨v2, d2, rfl, N2, P2, hw2⟩; have hzs := s_.out.1; have r := stepR2 r (by go_grown) hw2 (by go_size); have fz := stepF2 fz (by go_grown) hw2 (by go_size); have hB : Below w.heap.size w w2 := Below.trans (by go_grown) (hw2.mono (by go_size)); have s_ : Hid _ := keep2s s_.out (by go_grown) hw2; have hs0 := hB.size; have hz1 := s_.out.1; have N1 : Hid _ := isN_on N1.out (by rfl) hw2; clear hzs hw2; have N2 : Hid _ := N2))
      | (go_at_call 72; go_must (refine Calls.mono (quo_st _ _ _ _ _ _ _ (by decide) (show K / 8 + 1 < 500 by omega) (isN_go N1.out (by rfl)) (isN_go N2.out (by rfl)) P1 P2 (pow_pos' K)) ?_; rintro e w2 ⟨vq, vr, dq, dr, rfl, Nq, Nr, Pq, Pr, hw2⟩; have hzs := s_.out.1; have r := stepR2 r (by go_grown) hw2 (by go_size); have fz := stepF2 fz (by go_grown) hw2 (by go_size); have hB : Below w.heap.size w w2 := Below.trans (by go_grown) (hw2.mono (by go_size)); have s_ : Hid _ := keep2s s_.out (by go_grown) hw2; have hs0 := hB.size; have hz1 := s_.out.1;  clear hzs hw2; have Nq : Hid _ := Nq)))
  go_wp2_with (first | (go_at_call 61; go_must (refine Calls.mono (word_st _ _ _ _ (by decide) (isN_go Nq.out (by rfl)) Pq) ?_; rintro e w2 ⟨r0, r1, r2, r3, rfl, Lr, Er, hw2⟩; have hzs := s_.out.1; have r := stepR2 r (by go_grown) hw2 (by go_size); have fz := stepF2 fz (by go_grown) hw2 (by go_size); have hB : Below w.heap.size w w2 := Below.trans (by go_grown) (hw2.mono (by go_size)); have s_ : Hid _ := keep2s s_.out (by go_grown) hw2; have hs0 := hB.size; have hz1 := s_.out.1;  clear hzs hw2; have Lr : Hid _ := Lr)))
  refine bodyPost_ret (v := W4 r0 r1 r2 r3) (by simp [results, Try.results39, go_sem, r, hz1]) rfl ?_
  exact ⟨r0, r1, r2, r3, rfl, Lr.out, Er.out.trans (shr_val (num_bd HN.out).1 (num_bd HX.out) HK.out), by go_grown⟩
set_option maxHeartbeats 4000000 in
theorem sarref_any (n0 n1 n2 n3 x0 x1 x2 x3 : Int) (hn : L4 n0 n1 n2 n3) (hx : L4 x0 x1 x2 x3) (w : World) :
    Calls Try.prog 41 #[W4 n0 n1 n2 n3, W4 x0 x1 x2 x3] w fun e w' => ∃ r0 r1 r2 r3 : Int, e = .returned (W4 r0 r1 r2 r3) ∧ L4 r0 r1 r2 r3 ∧ Hid (num r0 r1 r2 r3 = sarN (num n0 n1 n2 n3) (num x0 x1 x2 x3)) ∧ Below w.heap.size w w' := by
  have HN : Hid _ := hn
  have HX : Hid _ := hx
  clear hn hx
  unfold W4
  go_enter Try.func41, Try.ntmps41
  go_wp2_with fail
  have KN : Hid (Blk (((w.alloc (.cells #[.int .u64 n0, .int .u64 n1, .int .u64 n2, .int .u64 n3] 24)).alloc (.cells #[.int .u64 x0, .int .u64 x1, .int .u64 x2, .int .u64 x3] 24)).alloc (.cells #[.int .u64 0, .int .u64 0, .int .u64 0, .int .u64 0] 24)) (w.heap.size) n0 n1 n2 n3) := by refine ⟨by simp; omega, ?_, ?_, ?_, ?_, fun k => ?_⟩ <;> simp [go_sem, World.cell?_alloc_past, World.frozen?_alloc_past]
  have KX : Hid (Blk (((w.alloc (.cells #[.int .u64 n0, .int .u64 n1, .int .u64 n2, .int .u64 n3] 24)).alloc (.cells #[.int .u64 x0, .int .u64 x1, .int .u64 x2, .int .u64 x3] 24)).alloc (.cells #[.int .u64 0, .int .u64 0, .int .u64 0, .int .u64 0] 24)) (w.heap.size + 1) x0 x1 x2 x3) := by refine ⟨by simp, ?_, ?_, ?_, ?_, fun k => ?_⟩ <;> simp [go_sem, World.cell?_alloc_past, World.frozen?_alloc_past]
  have KR : Hid (Blk (((w.alloc (.cells #[.int .u64 n0, .int .u64 n1, .int .u64 n2, .int .u64 n3] 24)).alloc (.cells #[.int .u64 x0, .int .u64 x1, .int .u64 x2, .int .u64 x3] 24)).alloc (.cells #[.int .u64 0, .int .u64 0, .int .u64 0, .int .u64 0] 24)) (w.heap.size + 1 + 1) 0 0 0 0) := by refine ⟨by simp, ?_, ?_, ?_, ?_, fun k => ?_⟩ <;> simp [go_sem, World.cell?_alloc_past, World.frozen?_alloc_past]
  have hB : Below w.heap.size w (((w.alloc (.cells #[.int .u64 n0, .int .u64 n1, .int .u64 n2, .int .u64 n3] 24)).alloc (.cells #[.int .u64 x0, .int .u64 x1, .int .u64 x2, .int .u64 x3] 24)).alloc (.cells #[.int .u64 0, .int .u64 0, .int .u64 0, .int .u64 0] 24)) := by go_grown
  generalize (((w.alloc (.cells #[.int .u64 n0, .int .u64 n1, .int .u64 n2, .int .u64 n3] 24)).alloc (.cells #[.int .u64 x0, .int .u64 x1, .int .u64 x2, .int .u64 x3] 24)).alloc (.cells #[.int .u64 0, .int .u64 0, .int .u64 0, .int .u64 0] 24)) = w0 at *
  refine (small_any n0 n1 n2 n3 256 HN.out (by decide) _).mono ?_
  rintro e w2 ⟨rfl, hw2⟩
  have KN : Hid _ := Blk.below KN.out hw2
  have KX : Hid _ := Blk.below KX.out hw2
  have KR : Hid _ := Blk.below KR.out hw2
  have hB : Below w.heap.size w w2 := hB.trans (hw2.mono hB.size)
  clear hw2
  obtain ⟨K, hK⟩ : ∃ K, smallN (num n0 n1 n2 n3) 256 = K := ⟨_, rfl⟩
  have HK : Hid _ := hK
  have hKm : K ≤ 256 := by rw [← hK]; exact small_le _ _
  rw [hK]
  clear hK
  have HP : Hid (∀ w, Calls Try.prog 65 #[.int .i64 (256 - (K : Int))] w fun e w' => ∃ (v : Value) (d : List Int), e = .returned v ∧ IsN w' v d ∧ Hid (St ((256 - K) / 8 + 1) d (2 ^ (256 - K))) ∧ Below w.heap.size w w') := fun w => by
    have := power_st (256 - K) (by omega) w
    rw [show ((256 - K : Nat) : Int) = 256 - (K : Int) from by omega] at this
    exact this
  obtain ⟨zKN, KN0, KN1, KN2, KN3, fKN⟩ := KN.out
  obtain ⟨zKX, KX0, KX1, KX2, KX3, fKX⟩ := KX.out
  go_wp2_with fail
  refine (shrref_any n0 n1 n2 n3 x0 x1 x2 x3 HN.out HX.out _).mono ?_
  rintro e w2 ⟨s0, s1, s2, s3, rfl, Ls, Es, hw2⟩
  have KN : Hid _ := Blk.below KN.out hw2
  have KX : Hid _ := Blk.below KX.out hw2
  have KR : Hid _ := Blk.below KR.out hw2
  have hB : Below w.heap.size w w2 := hB.trans (hw2.mono hB.size)
  clear hw2
  clear zKN KN0 KN1 KN2 KN3 fKN
  clear zKX KX0 KX1 KX2 KX3 fKX
  obtain ⟨zKX, KX0, KX1, KX2, KX3, fKX⟩ := KX.out
  unfold W4
  go_wp2_with fail
  have KRo : Hid _ := KR
  have hB9 : Below w.heap.size w w2 := hB
  have KR : Hid (Blk (w2.alloc (.cells #[.int .u64 s0, .int .u64 s1, .int .u64 s2, .int .u64 s3] 24)) (w.heap.size + 1 + 1) 0 0 0 0) := Blk.onto KR.out _
  have KO : Hid (Blk (w2.alloc (.cells #[.int .u64 s0, .int .u64 s1, .int .u64 s2, .int .u64 s3] 24)) w2.heap.size s0 s1 s2 s3) := by refine ⟨by simp, ?_, ?_, ?_, ?_, fun k => ?_⟩ <;> simp [go_sem]
  have hB : Below w.heap.size w (w2.alloc (.cells #[.int .u64 s0, .int .u64 s1, .int .u64 s2, .int .u64 s3] 24)) := hB.alloc hB.size _
  have hcr : w2.heap.size ≠ w.heap.size + 1 + 1 := by have := KRo.out.1; omega
  have hcs := hB9.size
  clear KN KX zKX KX0 KX1 KX2 KX3 fKX
  generalize hc : w2.heap.size = c at *
  generalize (w2.alloc (.cells #[.int .u64 s0, .int .u64 s1, .int .u64 s2, .int .u64 s3] 24)) = w3 at *
  by_cases hneg : neg (num x0 x1 x2 x3) = true
  · have HV : Hid (∀ q : Int, q = (shrN (num n0 n1 n2 n3) (num x0 x1 x2 x3) + (2 ^ 256 - 2 ^ (256 - K))) % T256 → q = sarN (num n0 n1 n2 n3) (num x0 x1 x2 x3)) := fun q hq => sar_minus_val (num_bd HN.out).1 (num_bd HX.out) hneg HK.out hq
    refine (negref_any x0 x1 x2 x3 HX.out _).mono ?_
    rintro e w2 ⟨rfl, hw2⟩
    have KR : Hid _ := Blk.below KR.out hw2
    have KO : Hid _ := Blk.below KO.out hw2
    have hB : Below w.heap.size w w2 := hB.trans (hw2.mono hB.size)
    clear hw2
    rw [hneg]
    obtain ⟨zKO, KO0, KO1, KO2, KO3, fKO⟩ := KO.out
    go_wp2_with fail
    refine (of_st s0 s1 s2 s3 Ls _).mono ?_
    rintro e w2 ⟨v1, d1, rfl, N1, P1, hw2⟩
    have KR : Hid _ := Blk.below KR.out hw2
    have KO : Hid _ := Blk.below KO.out hw2
    have hB : Below w.heap.size w w2 := hB.trans (hw2.mono hB.size)
    clear hw2
    clear zKO KO0 KO1 KO2 KO3 fKO
    go_wp2_with fail
    refine (power_st 256 (by decide) _).mono ?_
    rintro e w2 ⟨v2, d2, rfl, N2, P2, hw2⟩
    have KR : Hid _ := Blk.below KR.out hw2
    have KO : Hid _ := Blk.below KO.out hw2
    have N1 := IsN.below N1 hw2
    have hB : Below w.heap.size w w2 := hB.trans (hw2.mono hB.size)
    clear hw2
    go_wp2_with fail
    refine (HP.out _).mono ?_
    rintro e w2 ⟨v3, d3, rfl, N3, P3, hw2⟩
    have KR : Hid _ := Blk.below KR.out hw2
    have KO : Hid _ := Blk.below KO.out hw2
    have N1 := IsN.below N1 hw2
    have N2 := IsN.below N2 hw2
    have hB : Below w.heap.size w w2 := hB.trans (hw2.mono hB.size)
    clear hw2
    go_wp2_with fail
    refine (less_st _ _ _ _ _ _ _ (by decide) (show (256 - K) / 8 + 1 < 1000 by omega) N2 N3 P2 P3 (sar_ok hKm)).mono ?_
    rintro e w2 ⟨v4, d4, rfl, N4, P4, hw2⟩
    have KR : Hid _ := Blk.below KR.out hw2
    have KO : Hid _ := Blk.below KO.out hw2
    have N1 := IsN.below N1 hw2
    have hB : Below w.heap.size w w2 := hB.trans (hw2.mono hB.size)
    clear hw2
    go_wp2_with fail
    refine (plus_st _ _ _ _ _ _ _ (by decide) (by decide) N1 N4 P1 P4).mono ?_
    rintro e w2 ⟨v5, d5, rfl, N5, P5, hw2⟩
    have KR : Hid _ := Blk.below KR.out hw2
    have KO : Hid _ := Blk.below KO.out hw2
    have hB : Below w.heap.size w w2 := hB.trans (hw2.mono hB.size)
    clear hw2
    go_wp2_with fail
    refine (word_st _ _ _ _ (by decide) N5 P5).mono ?_
    rintro e w2 ⟨r0, r1, r2, r3, rfl, Lr, Er, hw2⟩
    have KR : Hid _ := Blk.below KR.out hw2
    have KO : Hid _ := Blk.below KO.out hw2
    have hB : Below w.heap.size w w2 := hB.trans (hw2.mono hB.size)
    clear hw2
    have HE : Hid (num r0 r1 r2 r3 = sarN (num n0 n1 n2 n3) (num x0 x1 x2 x3)) := HV.out _ (by rw [Er.out, Es.out])
    clear Er Es HV
    obtain ⟨zKO, KO0, KO1, KO2, KO3, fKO⟩ := KO.out
    obtain ⟨zKR, KR0, KR1, KR2, KR3, fKR⟩ := KR.out
    unfold W4
    go_wp2
    refine bodyPost_ret (v := W4 r0 r1 r2 r3) (by simp [results, Try.results41, go_sem, KR0, KR1, KR2, KR3, KO0, KO1, KO2, KO3, zKR, zKO, hcr, hcr.symm]) rfl ?_
    exact ⟨r0, r1, r2, r3, rfl, Lr, HE, by go_grown⟩
  · have hneg : neg (num x0 x1 x2 x3) = false := by simpa using hneg
    have HE : Hid (num s0 s1 s2 s3 = sarN (num n0 n1 n2 n3) (num x0 x1 x2 x3)) := sar_plus_val hneg Es.out
    refine (negref_any x0 x1 x2 x3 HX.out _).mono ?_
    rintro e w2 ⟨rfl, hw2⟩
    have KR : Hid _ := Blk.below KR.out hw2
    have KO : Hid _ := Blk.below KO.out hw2
    have hB : Below w.heap.size w w2 := hB.trans (hw2.mono hB.size)
    clear hw2
    rw [hneg]
    obtain ⟨zKO, KO0, KO1, KO2, KO3, fKO⟩ := KO.out
    obtain ⟨zKR, KR0, KR1, KR2, KR3, fKR⟩ := KR.out
    go_wp2
    refine bodyPost_ret (v := W4 s0 s1 s2 s3) (by simp [results, Try.results41, go_sem, KR0, KR1, KR2, KR3, zKR]) rfl ?_
    exact ⟨s0, s1, s2, s3, rfl, Ls, HE, by go_grown⟩
end Go.Proofs.Ytjbdfmepeniglaa
