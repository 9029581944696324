/- The walk over WordSums: sums, differences, products and powers. -/
import Derived.Test.YtjbdfmepeniglaaA1
import Derived.Test.YtjbdfmepeniglaaE3
namespace Go.Proofs.Ytjbdfmepeniglaa
open Go.RowKit
set_option linter.unusedSimpArgs false
set_option linter.unusedVariables false
theorem to_limbs {f : FuncId} {args : Array Value} {w : World} {n : Int} {s0 s1 s2 s3 : Int} (hs : L4 s0 s1 s2 s3) (E : num s0 s1 s2 s3 = n)
    (h : Calls Try.prog f args w fun e w' => ∃ r0 r1 r2 r3, e = .returned (W4 r0 r1 r2 r3) ∧ L4 r0 r1 r2 r3 ∧ Hid (num r0 r1 r2 r3 = n) ∧ Below w.heap.size w w') :
    Calls Try.prog f args w fun e w' => e = .returned (W4 s0 s1 s2 s3) ∧ Below w.heap.size w w' := by
  refine h.mono ?_
  rintro e w' ⟨r0, r1, r2, r3, rfl, L, E', hw⟩
  obtain ⟨rfl, rfl, rfl, rfl⟩ := num_inj L hs (E'.out.trans E.symm)
  exact ⟨rfl, hw⟩
set_option maxHeartbeats 40000000 in
theorem sums_walk (a0 a1 a2 a3 b0 b1 b2 b3 : Int) (ha : L4 a0 a1 a2 a3) (hb : L4 b0 b1 b2 b3) (w : World) :
    Calls Try.prog 3 #[W4 a0 a1 a2 a3, W4 b0 b1 b2 b3] w fun e w' => e = .returned (.bool true) ∧ Below w.heap.size w w' := by
  obtain ⟨s0, s1, s2, s3, Ls, es⟩ := num_ex ((num a0 a1 a2 a3 + num b0 b1 b2 b3) % T256) (Int.emod_nonneg _ (by decide)) (Int.emod_lt_of_pos _ (by decide))
  obtain ⟨d0, d1, d2, d3, Ld, ed⟩ := num_ex ((num a0 a1 a2 a3 - num b0 b1 b2 b3) % T256) (Int.emod_nonneg _ (by decide)) (Int.emod_lt_of_pos _ (by decide))
  obtain ⟨p0, p1, p2, p3, Lp, ep⟩ := num_ex ((num a0 a1 a2 a3 * num b0 b1 b2 b3) % T256) (Int.emod_nonneg _ (by decide)) (Int.emod_lt_of_pos _ (by decide))
  obtain ⟨x0, x1, x2, x3, Lx, ex⟩ := num_ex ((num a0 a1 a2 a3 ^ (num b0 b1 b2 b3).toNat) % T256) (Int.emod_nonneg _ (by decide)) (Int.emod_lt_of_pos _ (by decide))
  have H9 : Hid (∀ w, Calls Try.prog 9 #[W4 a0 a1 a2 a3, W4 b0 b1 b2 b3] w fun e w' => e = .returned (W4 s0 s1 s2 s3) ∧ Below w.heap.size w w') := fun w => to_limbs Ls es (add_any a0 a1 a2 a3 b0 b1 b2 b3 ha hb w)
  have H10 : Hid (∀ w, Calls Try.prog 10 #[W4 a0 a1 a2 a3, W4 b0 b1 b2 b3] w fun e w' => e = .returned (W4 s0 s1 s2 s3) ∧ Below w.heap.size w w') := fun w => to_limbs Ls es (addref_any a0 a1 a2 a3 b0 b1 b2 b3 ha hb w)
  have H11 : Hid (∀ w, Calls Try.prog 11 #[W4 a0 a1 a2 a3, W4 b0 b1 b2 b3] w fun e w' => e = .returned (W4 d0 d1 d2 d3) ∧ Below w.heap.size w w') := fun w => to_limbs Ld ed (sub_any a0 a1 a2 a3 b0 b1 b2 b3 ha hb w)
  have H12 : Hid (∀ w, Calls Try.prog 12 #[W4 a0 a1 a2 a3, W4 b0 b1 b2 b3] w fun e w' => e = .returned (W4 d0 d1 d2 d3) ∧ Below w.heap.size w w') := fun w => to_limbs Ld ed (subref_any a0 a1 a2 a3 b0 b1 b2 b3 ha hb w)
  have H13 : Hid (∀ w, Calls Try.prog 13 #[W4 a0 a1 a2 a3, W4 b0 b1 b2 b3] w fun e w' => e = .returned (W4 p0 p1 p2 p3) ∧ Below w.heap.size w w') := fun w => to_limbs Lp ep (mul_any a0 a1 a2 a3 b0 b1 b2 b3 ha hb w)
  have H14 : Hid (∀ w, Calls Try.prog 14 #[W4 a0 a1 a2 a3, W4 b0 b1 b2 b3] w fun e w' => e = .returned (W4 p0 p1 p2 p3) ∧ Below w.heap.size w w') := fun w => to_limbs Lp ep (mulref_any a0 a1 a2 a3 b0 b1 b2 b3 ha hb w)
  have H15 : Hid (∀ w, Calls Try.prog 15 #[W4 a0 a1 a2 a3, W4 b0 b1 b2 b3] w fun e w' => e = .returned (W4 x0 x1 x2 x3) ∧ Below w.heap.size w w') := fun w => to_limbs Lx ex (exp_any a0 a1 a2 a3 b0 b1 b2 b3 ha hb w)
  have H16 : Hid (∀ w, Calls Try.prog 16 #[W4 a0 a1 a2 a3, W4 b0 b1 b2 b3] w fun e w' => e = .returned (W4 x0 x1 x2 x3) ∧ Below w.heap.size w w') := fun w => to_limbs Lx ex (expref_any a0 a1 a2 a3 b0 b1 b2 b3 ha hb w)
  have qs_ := eq24_same s0 s1 s2 s3
  have qd_ := eq24_same d0 d1 d2 d3
  have qp_ := eq24_same p0 p1 p2 p3
  have qx_ := eq24_same x0 x1 x2 x3
  clear ha hb Ls es Ld ed Lp ep Lx ex
  unfold W4 at *
  go_enter Try.func3, Try.ntmps3
  go_wp2_with fail
  have s_ : Hid (w.heap.size + 1 < ((w.alloc (.cells #[.int .u64 a0, .int .u64 a1, .int .u64 a2, .int .u64 a3] 24)).alloc (.cells #[.int .u64 b0, .int .u64 b1, .int .u64 b2, .int .u64 b3] 24)).heap.size ∧ ((w.alloc (.cells #[.int .u64 a0, .int .u64 a1, .int .u64 a2, .int .u64 a3] 24)).alloc (.cells #[.int .u64 b0, .int .u64 b1, .int .u64 b2, .int .u64 b3] 24)).cell? ⟨w.heap.size, 0, none⟩ = some (.int .u64 a0) ∧ ((w.alloc (.cells #[.int .u64 a0, .int .u64 a1, .int .u64 a2, .int .u64 a3] 24)).alloc (.cells #[.int .u64 b0, .int .u64 b1, .int .u64 b2, .int .u64 b3] 24)).cell? ⟨w.heap.size, 1, none⟩ = some (.int .u64 a1) ∧ ((w.alloc (.cells #[.int .u64 a0, .int .u64 a1, .int .u64 a2, .int .u64 a3] 24)).alloc (.cells #[.int .u64 b0, .int .u64 b1, .int .u64 b2, .int .u64 b3] 24)).cell? ⟨w.heap.size, 2, none⟩ = some (.int .u64 a2) ∧ ((w.alloc (.cells #[.int .u64 a0, .int .u64 a1, .int .u64 a2, .int .u64 a3] 24)).alloc (.cells #[.int .u64 b0, .int .u64 b1, .int .u64 b2, .int .u64 b3] 24)).cell? ⟨w.heap.size, 3, none⟩ = some (.int .u64 a3) ∧ ((w.alloc (.cells #[.int .u64 a0, .int .u64 a1, .int .u64 a2, .int .u64 a3] 24)).alloc (.cells #[.int .u64 b0, .int .u64 b1, .int .u64 b2, .int .u64 b3] 24)).cell? ⟨w.heap.size + 1, 0, none⟩ = some (.int .u64 b0) ∧ ((w.alloc (.cells #[.int .u64 a0, .int .u64 a1, .int .u64 a2, .int .u64 a3] 24)).alloc (.cells #[.int .u64 b0, .int .u64 b1, .int .u64 b2, .int .u64 b3] 24)).cell? ⟨w.heap.size + 1, 1, none⟩ = some (.int .u64 b1) ∧ ((w.alloc (.cells #[.int .u64 a0, .int .u64 a1, .int .u64 a2, .int .u64 a3] 24)).alloc (.cells #[.int .u64 b0, .int .u64 b1, .int .u64 b2, .int .u64 b3] 24)).cell? ⟨w.heap.size + 1, 2, none⟩ = some (.int .u64 b2) ∧ ((w.alloc (.cells #[.int .u64 a0, .int .u64 a1, .int .u64 a2, .int .u64 a3] 24)).alloc (.cells #[.int .u64 b0, .int .u64 b1, .int .u64 b2, .int .u64 b3] 24)).cell? ⟨w.heap.size + 1, 3, none⟩ = some (.int .u64 b3)) := by
    refine ⟨by simp, ?_, ?_, ?_, ?_, ?_, ?_, ?_, ?_⟩ <;> simp [go_sem, World.cell?_alloc_past]
  have hB : Below w.heap.size w ((w.alloc (.cells #[.int .u64 a0, .int .u64 a1, .int .u64 a2, .int .u64 a3] 24)).alloc (.cells #[.int .u64 b0, .int .u64 b1, .int .u64 b2, .int .u64 b3] 24)) := by go_grown
  generalize ((w.alloc (.cells #[.int .u64 a0, .int .u64 a1, .int .u64 a2, .int .u64 a3] 24)).alloc (.cells #[.int .u64 b0, .int .u64 b1, .int .u64 b2, .int .u64 b3] 24)) = w0 at *
  have hs0 := hB.size
  go_region_held3 (fun w' => w.heap.size + 1 < w'.heap.size ∧ w'.cell? ⟨w.heap.size, 0, none⟩ = some (.int .u64 a0) ∧ w'.cell? ⟨w.heap.size, 1, none⟩ = some (.int .u64 a1) ∧ w'.cell? ⟨w.heap.size, 2, none⟩ = some (.int .u64 a2) ∧ w'.cell? ⟨w.heap.size, 3, none⟩ = some (.int .u64 a3) ∧ w'.cell? ⟨w.heap.size + 1, 0, none⟩ = some (.int .u64 b0) ∧ w'.cell? ⟨w.heap.size + 1, 1, none⟩ = some (.int .u64 b1) ∧ w'.cell? ⟨w.heap.size + 1, 2, none⟩ = some (.int .u64 b2) ∧ w'.cell? ⟨w.heap.size + 1, 3, none⟩ = some (.int .u64 b3)) ((refine keepO s_.out ?_; go_grown; done))
    (first
      | (go_at_call 9; go_must (refine Calls.mono (H9.out _) ?_; rintro e w2 ⟨rfl, hw2⟩; have hzs := s_.out.1; have hB : Below w.heap.size w w2 := Below.trans (by go_grown) (hw2.mono (by go_size)); have s_ : Hid _ := keepOs s_.out (by go_grown) hw2; have hs0 := hB.size; clear hw2 hzs))
      | (go_at_call 10; go_must (refine Calls.mono (H10.out _) ?_; rintro e w2 ⟨rfl, hw2⟩; have hzs := s_.out.1; have hB : Below w.heap.size w w2 := Below.trans (by go_grown) (hw2.mono (by go_size)); have s_ : Hid _ := keepOs s_.out (by go_grown) hw2; have hs0 := hB.size; clear hw2 hzs))
      | (go_at_call 11; go_must (refine Calls.mono (H11.out _) ?_; rintro e w2 ⟨rfl, hw2⟩; have hzs := s_.out.1; have hB : Below w.heap.size w w2 := Below.trans (by go_grown) (hw2.mono (by go_size)); have s_ : Hid _ := keepOs s_.out (by go_grown) hw2; have hs0 := hB.size; clear hw2 hzs))
      | (go_at_call 12; go_must (refine Calls.mono (H12.out _) ?_; rintro e w2 ⟨rfl, hw2⟩; have hzs := s_.out.1; have hB : Below w.heap.size w w2 := Below.trans (by go_grown) (hw2.mono (by go_size)); have s_ : Hid _ := keepOs s_.out (by go_grown) hw2; have hs0 := hB.size; clear hw2 hzs))
      | (go_at_call 13; go_must (refine Calls.mono (H13.out _) ?_; rintro e w2 ⟨rfl, hw2⟩; have hzs := s_.out.1; have hB : Below w.heap.size w w2 := Below.trans (by go_grown) (hw2.mono (by go_size)); have s_ : Hid _ := keepOs s_.out (by go_grown) hw2; have hs0 := hB.size; clear hw2 hzs))
      | (go_at_call 14; go_must (refine Calls.mono (H14.out _) ?_; rintro e w2 ⟨rfl, hw2⟩; have hzs := s_.out.1; have hB : Below w.heap.size w w2 := Below.trans (by go_grown) (hw2.mono (by go_size)); have s_ : Hid _ := keepOs s_.out (by go_grown) hw2; have hs0 := hB.size; clear hw2 hzs))
      | (go_at_call 15; go_must (refine Calls.mono (H15.out _) ?_; rintro e w2 ⟨rfl, hw2⟩; have hzs := s_.out.1; have hB : Below w.heap.size w w2 := Below.trans (by go_grown) (hw2.mono (by go_size)); have s_ : Hid _ := keepOs s_.out (by go_grown) hw2; have hs0 := hB.size; clear hw2 hzs))
      | (go_at_call 16; go_must (refine Calls.mono (H16.out _) ?_; rintro e w2 ⟨rfl, hw2⟩; have hzs := s_.out.1; have hB : Below w.heap.size w w2 := Below.trans (by go_grown) (hw2.mono (by go_size)); have s_ : Hid _ := keepOs s_.out (by go_grown) hw2; have hs0 := hB.size; clear hw2 hzs))
      | (go_at_call 17; go_must (refine Calls.mono (alive_any _) ?_; rintro e w2 ⟨rfl, hw2⟩; have hzs := s_.out.1; have hB : Below w.heap.size w w2 := Below.trans (by go_grown) (hw2.mono (by go_size)); have s_ : Hid _ := keepOs s_.out (by go_grown) hw2; have hs0 := hB.size; clear hw2 hzs)))
  go_wp2
  go_ret
  exact ⟨rfl, by go_grown⟩
end Go.Proofs.Ytjbdfmepeniglaa
