/- Walks over the document's own answers: quotients and what is left. -/
import Derived.Test.YtjbdfmepeniglaaQ2
namespace Go.Proofs.Ytjbdfmepeniglaa
open Go.RowKit
set_option linter.unusedSimpArgs false
set_option linter.unusedVariables false
theorem quo_fit {x y : Int} (hx : 0 ≤ x ∧ x < T256) (hy : 0 < y) : (x / y) % T256 = quoN x y := by
  have h1 := Int.ediv_le_self y hx.1
  have h2 := Int.ediv_nonneg hx.1 (Int.le_of_lt hy)
  unfold quoN
  exact Int.emod_eq_of_lt h2 (by omega)
theorem rem_fit {x y : Int} (hy : 0 < y ∧ y < T256) : (x % y) % T256 = remN x y := by
  have h1 := Int.emod_lt_of_pos x hy.1
  have h2 := Int.emod_nonneg x (Int.ne_of_gt hy.1)
  unfold remN
  rw [if_neg (by omega)]
  exact Int.emod_eq_of_lt h2 (by omega)
theorem size_bd {x : Int} (hx : 0 ≤ x ∧ x < T256) : 0 ≤ sizeN x ∧ sizeN x < T256 := by
  unfold sizeN minusN
  split
  · exact ⟨Int.emod_nonneg _ (by decide), Int.emod_lt_of_pos _ (by decide)⟩
  · exact hx
theorem size_pos {x : Int} (hx : 0 ≤ x ∧ x < T256) (h : x ≠ 0) : 0 < sizeN x := by
  unfold sizeN minusN
  split
  · rw [show 0 - x = (T256 - x) - T256 from by omega, Int.sub_emod_right, Int.emod_eq_of_lt (by omega) (by omega)]; omega
  · omega
theorem pos_num {a0 a1 a2 a3 : Int} (ha : L4 a0 a1 a2 a3) (h : ¬ num a0 a1 a2 a3 = 0) : 0 < num a0 a1 a2 a3 := by
  have := num_bd ha; omega
theorem quo0 (x : Int) : 0 = quoN x 0 := by unfold quoN; simp
theorem rem0 (x : Int) : 0 = remN x 0 := by unfold remN; simp
theorem size0 : sizeN 0 = 0 := by decide
theorem minus0 : minusN 0 = 0 := by decide
theorem sdiv0 (x : Int) : 0 = sdivN x 0 := by
  unfold sdivN
  rw [size0, ← quo0, minus0]; simp
theorem smod0 (x : Int) : 0 = smodN x 0 := by
  unfold smodN
  rw [size0, ← rem0, minus0]; simp
theorem rem_sized {x y : Int} (hy : 0 < sizeN y) (h : 0 ≤ y ∧ y < T256) : (sizeN x % sizeN y) % T256 = remN (sizeN x) (sizeN y) := rem_fit ⟨hy, (size_bd h).2⟩
set_option maxHeartbeats 2000000 in
theorem divref_nil (a0 a1 a2 a3 : Int) (w : World) : Calls Try.prog 19 #[W4 a0 a1 a2 a3, W4 0 0 0 0] w fun e w' => e = .returned (W4 0 0 0 0) ∧ Below w.heap.size w w' := by
  have q := eq24_same 0 0 0 0
  unfold W4 at *
  go_enter Try.func19, Try.ntmps19
  go_wp2
  go_returns
  exact ⟨rfl, by go_grown⟩
set_option maxHeartbeats 20000000 in
theorem divref_walk (a0 a1 a2 a3 b0 b1 b2 b3 : Int) (ha : L4 a0 a1 a2 a3) (hb : L4 b0 b1 b2 b3) (HD : Hid (0 < (num b0 b1 b2 b3))) (q : ∀ w, (Op.equalIn 10000 24 (W4 b0 b1 b2 b3) (W4 0 0 0 0)).run Try.prog w = .ok false w) (w : World) :
    Calls Try.prog 19 #[W4 a0 a1 a2 a3, W4 b0 b1 b2 b3] w fun e w' => ∃ r0 r1 r2 r3, e = .returned (W4 r0 r1 r2 r3) ∧ L4 r0 r1 r2 r3 ∧ Hid (num r0 r1 r2 r3 = quoN (num a0 a1 a2 a3) (num b0 b1 b2 b3)) ∧ Below w.heap.size w w' := by
  have HA : Hid _ := ha
  have HB : Hid _ := hb
  have HF : Hid _ := quo_fit (num_bd ha) HD.out
  clear ha hb
  unfold W4 at *
  go_enter Try.func19, Try.ntmps19
  go_wp2_with fail
  have s_ : Hid (w.heap.size + 1 + 1 < (((w.alloc (.cells #[.int .u64 a0, .int .u64 a1, .int .u64 a2, .int .u64 a3] 24)).alloc (.cells #[.int .u64 b0, .int .u64 b1, .int .u64 b2, .int .u64 b3] 24)).alloc (.cells #[.int .u64 0, .int .u64 0, .int .u64 0, .int .u64 0] 24)).heap.size ∧ (((w.alloc (.cells #[.int .u64 a0, .int .u64 a1, .int .u64 a2, .int .u64 a3] 24)).alloc (.cells #[.int .u64 b0, .int .u64 b1, .int .u64 b2, .int .u64 b3] 24)).alloc (.cells #[.int .u64 0, .int .u64 0, .int .u64 0, .int .u64 0] 24)).cell? ⟨w.heap.size, 0, none⟩ = some (.int .u64 a0) ∧ (((w.alloc (.cells #[.int .u64 a0, .int .u64 a1, .int .u64 a2, .int .u64 a3] 24)).alloc (.cells #[.int .u64 b0, .int .u64 b1, .int .u64 b2, .int .u64 b3] 24)).alloc (.cells #[.int .u64 0, .int .u64 0, .int .u64 0, .int .u64 0] 24)).cell? ⟨w.heap.size, 1, none⟩ = some (.int .u64 a1) ∧ (((w.alloc (.cells #[.int .u64 a0, .int .u64 a1, .int .u64 a2, .int .u64 a3] 24)).alloc (.cells #[.int .u64 b0, .int .u64 b1, .int .u64 b2, .int .u64 b3] 24)).alloc (.cells #[.int .u64 0, .int .u64 0, .int .u64 0, .int .u64 0] 24)).cell? ⟨w.heap.size, 2, none⟩ = some (.int .u64 a2) ∧ (((w.alloc (.cells #[.int .u64 a0, .int .u64 a1, .int .u64 a2, .int .u64 a3] 24)).alloc (.cells #[.int .u64 b0, .int .u64 b1, .int .u64 b2, .int .u64 b3] 24)).alloc (.cells #[.int .u64 0, .int .u64 0, .int .u64 0, .int .u64 0] 24)).cell? ⟨w.heap.size, 3, none⟩ = some (.int .u64 a3) ∧ (((w.alloc (.cells #[.int .u64 a0, .int .u64 a1, .int .u64 a2, .int .u64 a3] 24)).alloc (.cells #[.int .u64 b0, .int .u64 b1, .int .u64 b2, .int .u64 b3] 24)).alloc (.cells #[.int .u64 0, .int .u64 0, .int .u64 0, .int .u64 0] 24)).cell? ⟨w.heap.size + 1, 0, none⟩ = some (.int .u64 b0) ∧ (((w.alloc (.cells #[.int .u64 a0, .int .u64 a1, .int .u64 a2, .int .u64 a3] 24)).alloc (.cells #[.int .u64 b0, .int .u64 b1, .int .u64 b2, .int .u64 b3] 24)).alloc (.cells #[.int .u64 0, .int .u64 0, .int .u64 0, .int .u64 0] 24)).cell? ⟨w.heap.size + 1, 1, none⟩ = some (.int .u64 b1) ∧ (((w.alloc (.cells #[.int .u64 a0, .int .u64 a1, .int .u64 a2, .int .u64 a3] 24)).alloc (.cells #[.int .u64 b0, .int .u64 b1, .int .u64 b2, .int .u64 b3] 24)).alloc (.cells #[.int .u64 0, .int .u64 0, .int .u64 0, .int .u64 0] 24)).cell? ⟨w.heap.size + 1, 2, none⟩ = some (.int .u64 b2) ∧ (((w.alloc (.cells #[.int .u64 a0, .int .u64 a1, .int .u64 a2, .int .u64 a3] 24)).alloc (.cells #[.int .u64 b0, .int .u64 b1, .int .u64 b2, .int .u64 b3] 24)).alloc (.cells #[.int .u64 0, .int .u64 0, .int .u64 0, .int .u64 0] 24)).cell? ⟨w.heap.size + 1, 3, none⟩ = some (.int .u64 b3)) := by
    refine ⟨by simp, ?_, ?_, ?_, ?_, ?_, ?_, ?_, ?_⟩ <;> simp [go_sem, World.cell?_alloc_past]
  have r : ∀ k, k < 4 → ((((w.alloc (.cells #[.int .u64 a0, .int .u64 a1, .int .u64 a2, .int .u64 a3] 24)).alloc (.cells #[.int .u64 b0, .int .u64 b1, .int .u64 b2, .int .u64 b3] 24)).alloc (.cells #[.int .u64 0, .int .u64 0, .int .u64 0, .int .u64 0] 24))).cell? ⟨w.heap.size + 1 + 1, k, none⟩ = some (.int .u64 0) := fun k hk => by
    rcases (by omega : k = 0 ∨ k = 1 ∨ k = 2 ∨ k = 3) with rfl | rfl | rfl | rfl <;> simp [go_sem, World.cell?_alloc_past]
  have fz : ∀ k, ((((w.alloc (.cells #[.int .u64 a0, .int .u64 a1, .int .u64 a2, .int .u64 a3] 24)).alloc (.cells #[.int .u64 b0, .int .u64 b1, .int .u64 b2, .int .u64 b3] 24)).alloc (.cells #[.int .u64 0, .int .u64 0, .int .u64 0, .int .u64 0] 24))).frozen? ⟨w.heap.size + 1 + 1, k, none⟩ = false := fun k => by
    simp [go_sem, World.frozen?_alloc_past]
  have hB : Below w.heap.size w ((((w.alloc (.cells #[.int .u64 a0, .int .u64 a1, .int .u64 a2, .int .u64 a3] 24)).alloc (.cells #[.int .u64 b0, .int .u64 b1, .int .u64 b2, .int .u64 b3] 24)).alloc (.cells #[.int .u64 0, .int .u64 0, .int .u64 0, .int .u64 0] 24))) := by go_grown
  generalize ((((w.alloc (.cells #[.int .u64 a0, .int .u64 a1, .int .u64 a2, .int .u64 a3] 24)).alloc (.cells #[.int .u64 b0, .int .u64 b1, .int .u64 b2, .int .u64 b3] 24)).alloc (.cells #[.int .u64 0, .int .u64 0, .int .u64 0, .int .u64 0] 24))) = w0 at *
  have hs0 := hB.size
  go_region_held3 (fun w' => w.heap.size + 1 + 1 < w'.heap.size ∧ w'.cell? ⟨w.heap.size, 0, none⟩ = some (.int .u64 a0) ∧ w'.cell? ⟨w.heap.size, 1, none⟩ = some (.int .u64 a1) ∧ w'.cell? ⟨w.heap.size, 2, none⟩ = some (.int .u64 a2) ∧ w'.cell? ⟨w.heap.size, 3, none⟩ = some (.int .u64 a3) ∧ w'.cell? ⟨w.heap.size + 1, 0, none⟩ = some (.int .u64 b0) ∧ w'.cell? ⟨w.heap.size + 1, 1, none⟩ = some (.int .u64 b1) ∧ w'.cell? ⟨w.heap.size + 1, 2, none⟩ = some (.int .u64 b2) ∧ w'.cell? ⟨w.heap.size + 1, 3, none⟩ = some (.int .u64 b3)) ((refine keep2 s_.out ?_; go_grown; done))
    (first
      | (go_at_call_of 56 ([Value.agg #[Value.int .u64 a0, Value.int .u64 a1, Value.int .u64 a2, Value.int .u64 a3]]); go_must (refine Calls.mono (of_st a0 a1 a2 a3 HA.out _) ?_; rintro e w2 ⟨v1, d1, rfl, N1, P1, hw2⟩; have hzs := s_.out.1; have r := stepR2 r (by go_grown) hw2 (by go_size); have fz := stepF2 fz (by go_grown) hw2 (by go_size); have hB : Below w.heap.size w w2 := Below.trans (by go_grown) (hw2.mono (by go_size)); have s_ : Hid _ := keep2s s_.out (by go_grown) hw2; have hs0 := hB.size; have hz1 := s_.out.1;  clear hzs; have N1 : Hid _ := N1; clear hw2))
      | (go_at_call_of 56 ([Value.agg #[Value.int .u64 b0, Value.int .u64 b1, Value.int .u64 b2, Value.int .u64 b3]]); go_must (refine Calls.mono (of_st b0 b1 b2 b3 HB.out _) ?_; rintro e w2 ⟨v2, d2, rfl, N2, P2, hw2⟩; have hzs := s_.out.1; have r := stepR2 r (by go_grown) hw2 (by go_size); have fz := stepF2 fz (by go_grown) hw2 (by go_size); have hB : Below w.heap.size w w2 := Below.trans (by go_grown) (hw2.mono (by go_size)); have s_ : Hid _ := keep2s s_.out (by go_grown) hw2; have hs0 := hB.size; have hz1 := s_.out.1; have N1 : Hid _ := isN_on N1.out (by rfl) hw2; clear hzs; have N2 : Hid _ := N2; clear hw2))
      | (go_at_call 72; go_must (refine Calls.mono (quo_st _ _ _ _ _ _ _ (by decide) (by decide) (isN_go N1.out (by rfl)) (isN_go N2.out (by rfl)) P1 P2 HD) ?_; rintro e w2 ⟨vq, vr, dq, dr, rfl, Nq, Nr, Pq, Pr, hw2⟩; have hzs := s_.out.1; have r := stepR2 r (by go_grown) hw2 (by go_size); have fz := stepF2 fz (by go_grown) hw2 (by go_size); have hB : Below w.heap.size w w2 := Below.trans (by go_grown) (hw2.mono (by go_size)); have s_ : Hid _ := keep2s s_.out (by go_grown) hw2; have hs0 := hB.size; have hz1 := s_.out.1;  clear hzs; have Nq : Hid _ := Nq; have Nr : Hid _ := Nr; clear hw2)))
  go_wp2_with (first | (go_at_call 61; go_must (refine Calls.mono (word_st _ _ _ _ (by decide) (isN_go Nq.out (by rfl)) Pq) ?_; rintro e w2 ⟨r0, r1, r2, r3, rfl, Lr, Er, hw2⟩; have hzs := s_.out.1; have r := stepR2 r (by go_grown) hw2 (by go_size); have fz := stepF2 fz (by go_grown) hw2 (by go_size); have hB : Below w.heap.size w w2 := Below.trans (by go_grown) (hw2.mono (by go_size)); have s_ : Hid _ := keep2s s_.out (by go_grown) hw2; have hs0 := hB.size; have hz1 := s_.out.1;  clear hzs; have Lr : Hid _ := Lr; clear hw2)))
  refine bodyPost_ret (v := W4 r0 r1 r2 r3) (by simp [results, Try.results19, go_sem, r, hz1]) rfl ?_
  exact ⟨r0, r1, r2, r3, rfl, Lr.out, Er.out.trans HF.out, by go_grown⟩
/-- conclaveref01.Div -/
theorem divref_any (a0 a1 a2 a3 b0 b1 b2 b3 : Int) (ha : L4 a0 a1 a2 a3) (hb : L4 b0 b1 b2 b3) (w : World) :
    Calls Try.prog 19 #[W4 a0 a1 a2 a3, W4 b0 b1 b2 b3] w fun e w' => ∃ r0 r1 r2 r3, e = .returned (W4 r0 r1 r2 r3) ∧ L4 r0 r1 r2 r3 ∧ Hid (num r0 r1 r2 r3 = quoN (num a0 a1 a2 a3) (num b0 b1 b2 b3)) ∧ Below w.heap.size w w' := by
  by_cases h : num b0 b1 b2 b3 = 0
  · obtain ⟨rfl, rfl, rfl, rfl⟩ := num_inj hb (of_L4 limb0) (h.trans num0.symm)
    exact (divref_nil a0 a1 a2 a3 w).mono fun e w' ⟨he, hw⟩ => ⟨0, 0, 0, 0, he, of_L4 limb0, by show _ = _; rw [num0]; exact quo0 _, hw⟩
  · refine divref_walk a0 a1 a2 a3 b0 b1 b2 b3 ha hb (pos_num hb h) (fun w => by rw [eq24_num hb (of_L4 limb0), num0]; simp [h]) w
set_option maxHeartbeats 2000000 in
theorem modref_nil (a0 a1 a2 a3 : Int) (w : World) : Calls Try.prog 21 #[W4 a0 a1 a2 a3, W4 0 0 0 0] w fun e w' => e = .returned (W4 0 0 0 0) ∧ Below w.heap.size w w' := by
  have q := eq24_same 0 0 0 0
  unfold W4 at *
  go_enter Try.func21, Try.ntmps21
  go_wp2
  go_returns
  exact ⟨rfl, by go_grown⟩
set_option maxHeartbeats 20000000 in
theorem modref_walk (a0 a1 a2 a3 b0 b1 b2 b3 : Int) (ha : L4 a0 a1 a2 a3) (hb : L4 b0 b1 b2 b3) (HD : Hid (0 < (num b0 b1 b2 b3))) (q : ∀ w, (Op.equalIn 10000 24 (W4 b0 b1 b2 b3) (W4 0 0 0 0)).run Try.prog w = .ok false w) (w : World) :
    Calls Try.prog 21 #[W4 a0 a1 a2 a3, W4 b0 b1 b2 b3] w fun e w' => ∃ r0 r1 r2 r3, e = .returned (W4 r0 r1 r2 r3) ∧ L4 r0 r1 r2 r3 ∧ Hid (num r0 r1 r2 r3 = remN (num a0 a1 a2 a3) (num b0 b1 b2 b3)) ∧ Below w.heap.size w w' := by
  have HA : Hid _ := ha
  have HB : Hid _ := hb
  have HF : Hid _ := rem_fit (x := (num a0 a1 a2 a3)) ⟨HD.out, (num_bd hb).2⟩
  clear ha hb
  unfold W4 at *
  go_enter Try.func21, Try.ntmps21
  go_wp2_with fail
  have s_ : Hid (w.heap.size + 1 + 1 < (((w.alloc (.cells #[.int .u64 a0, .int .u64 a1, .int .u64 a2, .int .u64 a3] 24)).alloc (.cells #[.int .u64 b0, .int .u64 b1, .int .u64 b2, .int .u64 b3] 24)).alloc (.cells #[.int .u64 0, .int .u64 0, .int .u64 0, .int .u64 0] 24)).heap.size ∧ (((w.alloc (.cells #[.int .u64 a0, .int .u64 a1, .int .u64 a2, .int .u64 a3] 24)).alloc (.cells #[.int .u64 b0, .int .u64 b1, .int .u64 b2, .int .u64 b3] 24)).alloc (.cells #[.int .u64 0, .int .u64 0, .int .u64 0, .int .u64 0] 24)).cell? ⟨w.heap.size, 0, none⟩ = some (.int .u64 a0) ∧ (((w.alloc (.cells #[.int .u64 a0, .int .u64 a1, .int .u64 a2, .int .u64 a3] 24)).alloc (.cells #[.int .u64 b0, .int .u64 b1, .int .u64 b2, .int .u64 b3] 24)).alloc (.cells #[.int .u64 0, .int .u64 0, .int .u64 0, .int .u64 0] 24)).cell? ⟨w.heap.size, 1, none⟩ = some (.int .u64 a1) ∧ (((w.alloc (.cells #[.int .u64 a0, .int .u64 a1, .int .u64 a2, .int .u64 a3] 24)).alloc (.cells #[.int .u64 b0, .int .u64 b1, .int .u64 b2, .int .u64 b3] 24)).alloc (.cells #[.int .u64 0, .int .u64 0, .int .u64 0, .int .u64 0] 24)).cell? ⟨w.heap.size, 2, none⟩ = some (.int .u64 a2) ∧ (((w.alloc (.cells #[.int .u64 a0, .int .u64 a1, .int .u64 a2, .int .u64 a3] 24)).alloc (.cells #[.int .u64 b0, .int .u64 b1, .int .u64 b2, .int .u64 b3] 24)).alloc (.cells #[.int .u64 0, .int .u64 0, .int .u64 0, .int .u64 0] 24)).cell? ⟨w.heap.size, 3, none⟩ = some (.int .u64 a3) ∧ (((w.alloc (.cells #[.int .u64 a0, .int .u64 a1, .int .u64 a2, .int .u64 a3] 24)).alloc (.cells #[.int .u64 b0, .int .u64 b1, .int .u64 b2, .int .u64 b3] 24)).alloc (.cells #[.int .u64 0, .int .u64 0, .int .u64 0, .int .u64 0] 24)).cell? ⟨w.heap.size + 1, 0, none⟩ = some (.int .u64 b0) ∧ (((w.alloc (.cells #[.int .u64 a0, .int .u64 a1, .int .u64 a2, .int .u64 a3] 24)).alloc (.cells #[.int .u64 b0, .int .u64 b1, .int .u64 b2, .int .u64 b3] 24)).alloc (.cells #[.int .u64 0, .int .u64 0, .int .u64 0, .int .u64 0] 24)).cell? ⟨w.heap.size + 1, 1, none⟩ = some (.int .u64 b1) ∧ (((w.alloc (.cells #[.int .u64 a0, .int .u64 a1, .int .u64 a2, .int .u64 a3] 24)).alloc (.cells #[.int .u64 b0, .int .u64 b1, .int .u64 b2, .int .u64 b3] 24)).alloc (.cells #[.int .u64 0, .int .u64 0, .int .u64 0, .int .u64 0] 24)).cell? ⟨w.heap.size + 1, 2, none⟩ = some (.int .u64 b2) ∧ (((w.alloc (.cells #[.int .u64 a0, .int .u64 a1, .int .u64 a2, .int .u64 a3] 24)).alloc (.cells #[.int .u64 b0, .int .u64 b1, .int .u64 b2, .int .u64 b3] 24)).alloc (.cells #[.int .u64 0, .int .u64 0, .int .u64 0, .int .u64 0] 24)).cell? ⟨w.heap.size + 1, 3, none⟩ = some (.int .u64 b3)) := by
    refine ⟨by simp, ?_, ?_, ?_, ?_, ?_, ?_, ?_, ?_⟩ <;> simp [go_sem, World.cell?_alloc_past]
  have r : ∀ k, k < 4 → ((((w.alloc (.cells #[.int .u64 a0, .int .u64 a1, .int .u64 a2, .int .u64 a3] 24)).alloc (.cells #[.int .u64 b0, .int .u64 b1, .int .u64 b2, .int .u64 b3] 24)).alloc (.cells #[.int .u64 0, .int .u64 0, .int .u64 0, .int .u64 0] 24))).cell? ⟨w.heap.size + 1 + 1, k, none⟩ = some (.int .u64 0) := fun k hk => by
    rcases (by omega : k = 0 ∨ k = 1 ∨ k = 2 ∨ k = 3) with rfl | rfl | rfl | rfl <;> simp [go_sem, World.cell?_alloc_past]
  have fz : ∀ k, ((((w.alloc (.cells #[.int .u64 a0, .int .u64 a1, .int .u64 a2, .int .u64 a3] 24)).alloc (.cells #[.int .u64 b0, .int .u64 b1, .int .u64 b2, .int .u64 b3] 24)).alloc (.cells #[.int .u64 0, .int .u64 0, .int .u64 0, .int .u64 0] 24))).frozen? ⟨w.heap.size + 1 + 1, k, none⟩ = false := fun k => by
    simp [go_sem, World.frozen?_alloc_past]
  have hB : Below w.heap.size w ((((w.alloc (.cells #[.int .u64 a0, .int .u64 a1, .int .u64 a2, .int .u64 a3] 24)).alloc (.cells #[.int .u64 b0, .int .u64 b1, .int .u64 b2, .int .u64 b3] 24)).alloc (.cells #[.int .u64 0, .int .u64 0, .int .u64 0, .int .u64 0] 24))) := by go_grown
  generalize ((((w.alloc (.cells #[.int .u64 a0, .int .u64 a1, .int .u64 a2, .int .u64 a3] 24)).alloc (.cells #[.int .u64 b0, .int .u64 b1, .int .u64 b2, .int .u64 b3] 24)).alloc (.cells #[.int .u64 0, .int .u64 0, .int .u64 0, .int .u64 0] 24))) = w0 at *
  have hs0 := hB.size
  go_region_held3 (fun w' => w.heap.size + 1 + 1 < w'.heap.size ∧ w'.cell? ⟨w.heap.size, 0, none⟩ = some (.int .u64 a0) ∧ w'.cell? ⟨w.heap.size, 1, none⟩ = some (.int .u64 a1) ∧ w'.cell? ⟨w.heap.size, 2, none⟩ = some (.int .u64 a2) ∧ w'.cell? ⟨w.heap.size, 3, none⟩ = some (.int .u64 a3) ∧ w'.cell? ⟨w.heap.size + 1, 0, none⟩ = some (.int .u64 b0) ∧ w'.cell? ⟨w.heap.size + 1, 1, none⟩ = some (.int .u64 b1) ∧ w'.cell? ⟨w.heap.size + 1, 2, none⟩ = some (.int .u64 b2) ∧ w'.cell? ⟨w.heap.size + 1, 3, none⟩ = some (.int .u64 b3)) ((refine keep2 s_.out ?_; go_grown; done))
    (first
      | (go_at_call_of 56 ([Value.agg #[Value.int .u64 a0, Value.int .u64 a1, Value.int .u64 a2, Value.int .u64 a3]]); go_must (refine Calls.mono (of_st a0 a1 a2 a3 HA.out _) ?_; rintro e w2 ⟨v1, d1, rfl, N1, P1, hw2⟩; have hzs := s_.out.1; have r := stepR2 r (by go_grown) hw2 (by go_size); have fz := stepF2 fz (by go_grown) hw2 (by go_size); have hB : Below w.heap.size w w2 := Below.trans (by go_grown) (hw2.mono (by go_size)); have s_ : Hid _ := keep2s s_.out (by go_grown) hw2; have hs0 := hB.size; have hz1 := s_.out.1;  clear hzs; have N1 : Hid _ := N1; clear hw2))
      | (go_at_call_of 56 ([Value.agg #[Value.int .u64 b0, Value.int .u64 b1, Value.int .u64 b2, Value.int .u64 b3]]); go_must (refine Calls.mono (of_st b0 b1 b2 b3 HB.out _) ?_; rintro e w2 ⟨v2, d2, rfl, N2, P2, hw2⟩; have hzs := s_.out.1; have r := stepR2 r (by go_grown) hw2 (by go_size); have fz := stepF2 fz (by go_grown) hw2 (by go_size); have hB : Below w.heap.size w w2 := Below.trans (by go_grown) (hw2.mono (by go_size)); have s_ : Hid _ := keep2s s_.out (by go_grown) hw2; have hs0 := hB.size; have hz1 := s_.out.1; have N1 : Hid _ := isN_on N1.out (by rfl) hw2; clear hzs; have N2 : Hid _ := N2; clear hw2))
      | (go_at_call 72; go_must (refine Calls.mono (quo_st _ _ _ _ _ _ _ (by decide) (by decide) (isN_go N1.out (by rfl)) (isN_go N2.out (by rfl)) P1 P2 HD) ?_; rintro e w2 ⟨vq, vr, dq, dr, rfl, Nq, Nr, Pq, Pr, hw2⟩; have hzs := s_.out.1; have r := stepR2 r (by go_grown) hw2 (by go_size); have fz := stepF2 fz (by go_grown) hw2 (by go_size); have hB : Below w.heap.size w w2 := Below.trans (by go_grown) (hw2.mono (by go_size)); have s_ : Hid _ := keep2s s_.out (by go_grown) hw2; have hs0 := hB.size; have hz1 := s_.out.1;  clear hzs; have Nq : Hid _ := Nq; have Nr : Hid _ := Nr; clear hw2)))
  go_wp2_with (first | (go_at_call 61; go_must (refine Calls.mono (word_st _ _ _ _ (by decide) (isN_go Nr.out (by rfl)) Pr) ?_; rintro e w2 ⟨r0, r1, r2, r3, rfl, Lr, Er, hw2⟩; have hzs := s_.out.1; have r := stepR2 r (by go_grown) hw2 (by go_size); have fz := stepF2 fz (by go_grown) hw2 (by go_size); have hB : Below w.heap.size w w2 := Below.trans (by go_grown) (hw2.mono (by go_size)); have s_ : Hid _ := keep2s s_.out (by go_grown) hw2; have hs0 := hB.size; have hz1 := s_.out.1;  clear hzs; have Lr : Hid _ := Lr; clear hw2)))
  refine bodyPost_ret (v := W4 r0 r1 r2 r3) (by simp [results, Try.results21, go_sem, r, hz1]) rfl ?_
  exact ⟨r0, r1, r2, r3, rfl, Lr.out, Er.out.trans HF.out, by go_grown⟩
/-- conclaveref01.Mod -/
theorem modref_any (a0 a1 a2 a3 b0 b1 b2 b3 : Int) (ha : L4 a0 a1 a2 a3) (hb : L4 b0 b1 b2 b3) (w : World) :
    Calls Try.prog 21 #[W4 a0 a1 a2 a3, W4 b0 b1 b2 b3] w fun e w' => ∃ r0 r1 r2 r3, e = .returned (W4 r0 r1 r2 r3) ∧ L4 r0 r1 r2 r3 ∧ Hid (num r0 r1 r2 r3 = remN (num a0 a1 a2 a3) (num b0 b1 b2 b3)) ∧ Below w.heap.size w w' := by
  by_cases h : num b0 b1 b2 b3 = 0
  · obtain ⟨rfl, rfl, rfl, rfl⟩ := num_inj hb (of_L4 limb0) (h.trans num0.symm)
    exact (modref_nil a0 a1 a2 a3 w).mono fun e w' ⟨he, hw⟩ => ⟨0, 0, 0, 0, he, of_L4 limb0, by show _ = _; rw [num0]; exact rem0 _, hw⟩
  · refine modref_walk a0 a1 a2 a3 b0 b1 b2 b3 ha hb (pos_num hb h) (fun w => by rw [eq24_num hb (of_L4 limb0), num0]; simp [h]) w
end Go.Proofs.Ytjbdfmepeniglaa
