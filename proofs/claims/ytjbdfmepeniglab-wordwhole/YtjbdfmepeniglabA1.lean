/- The examples of the chapter: what must come at any rate. -/
import Derived.Test.YtjbdfmepeniglabP2
import Derived.Test.YtjbdfmepeniglabW6
namespace Go.Proofs.Ytjbdfmepeniglab
open Go.RowKit
set_option linter.unusedSimpArgs false
set_option linter.unusedVariables false
theorem limbM : Limb 18446744073709551615 := ⟨by decide, by decide⟩
theorem limbT : Limb 9223372036854775808 := ⟨by decide, by decide⟩
theorem limb1 : Limb 1 := ⟨by decide, by decide⟩
theorem limb_s (n : Int) (h0 : 0 ≤ n) (h1 : n < 4096) : Limb n := ⟨h0, by omega⟩
theorem onesL : L4 18446744073709551615 18446744073709551615 18446744073709551615 18446744073709551615 := ⟨limbM, limbM, limbM, limbM⟩
theorem topL : L4 0 0 0 9223372036854775808 := ⟨limb0, limb0, limb0, limbT⟩
theorem ex_sub (w : World) : Calls Try.prog 31 #[W4 0 0 0 0, W4 1 0 0 0] w fun e w' => e = .returned (W4 18446744073709551615 18446744073709551615 18446744073709551615 18446744073709551615) ∧ Below w.heap.size w w' := by
  refine (sub_any 0 0 0 0 1 0 0 0 (of_L4 limb0) (of_L4 limb1) w).mono ?_
  rintro e w' ⟨s0, s1, s2, s3, rfl, L, E, hw⟩
  have e1 : num s0 s1 s2 s3 = num 18446744073709551615 18446744073709551615 18446744073709551615 18446744073709551615 := by rw [E.out]; decide
  obtain ⟨rfl, rfl, rfl, rfl⟩ := num_inj L onesL e1
  exact ⟨rfl, hw⟩
theorem ex_not (w : World) : Calls Try.prog 32 #[W4 0 0 0 0] w fun e w' => e = .returned (W4 18446744073709551615 18446744073709551615 18446744073709551615 18446744073709551615) ∧ Below w.heap.size w w' := by
  refine (not_any 0 0 0 0 w).mono ?_
  rintro e w' ⟨rfl, hw⟩
  rw [comp64 limb0]
  exact ⟨rfl, hw⟩
theorem ex_mulmod (w : World) : Calls Try.prog 33 #[W4 0 0 0 9223372036854775808, W4 2 0 0 0, W4 7 0 0 0] w fun e w' => e = .returned (W4 2 0 0 0) ∧ Below w.heap.size w w' := by
  refine (mulmod_any 0 0 0 9223372036854775808 2 0 0 0 7 0 0 0 topL (of_L4 (limb_s 2 (by decide) (by decide))) (of_L4 (limb_s 7 (by decide) (by decide))) w).mono ?_
  rintro e w' ⟨s0, s1, s2, s3, rfl, L, E, hw⟩
  have e1 : num s0 s1 s2 s3 = num 2 0 0 0 := by rw [E.out]; decide
  obtain ⟨rfl, rfl, rfl, rfl⟩ := num_inj L (of_L4 (limb_s 2 (by decide) (by decide))) e1
  exact ⟨rfl, hw⟩
theorem ex_byte (w : World) : Calls Try.prog 34 #[W4 31 0 0 0, W4 5 0 0 0] w fun e w' => e = .returned (W4 5 0 0 0) ∧ Below w.heap.size w w' := by
  refine (byte_in 31 5 0 0 0 (by decide) (by decide) (of_L4 (limb_s 5 (by decide) (by decide))) w).mono ?_
  rintro e w' ⟨rfl, hw⟩
  exact ⟨rfl, hw⟩
theorem ex_signext (w : World) : Calls Try.prog 35 #[W4 0 0 0 0, W4 255 0 0 0] w fun e w' => e = .returned (W4 18446744073709551615 18446744073709551615 18446744073709551615 18446744073709551615) ∧ Below w.heap.size w w' := by
  refine (signext_in 0 255 0 0 0 (by decide) (by decide) (of_L4 (limb_s 255 (by decide) (by decide))) w).mono ?_
  rintro e w' ⟨s0, s1, s2, s3, rfl, L, E, hw⟩
  have e1 : num s0 s1 s2 s3 = num 18446744073709551615 18446744073709551615 18446744073709551615 18446744073709551615 := by rw [E.out]; decide +kernel
  obtain ⟨rfl, rfl, rfl, rfl⟩ := num_inj L onesL e1
  exact ⟨rfl, hw⟩
theorem ex_sar (w : World) : Calls Try.prog 36 #[W4 1 0 0 0, W4 0 0 0 9223372036854775808] w fun e w' => e = .returned (W4 0 0 0 13835058055282163712) ∧ Below w.heap.size w w' := by
  refine (sar_any 1 0 0 0 0 0 0 9223372036854775808 (of_L4 limb1) topL w).mono ?_
  rintro e w' ⟨s0, s1, s2, s3, rfl, L, E, hw⟩
  have e1 : num s0 s1 s2 s3 = num 0 0 0 13835058055282163712 := by rw [E.out]; decide +kernel
  obtain ⟨rfl, rfl, rfl, rfl⟩ := num_inj L ⟨limb0, limb0, limb0, ⟨by decide, by decide⟩⟩ e1
  exact ⟨rfl, hw⟩
theorem keepA {n : Nat} {W w1 : World} (h : n + 1 < W.heap.size ∧ W.cell? ⟨n, 0, none⟩ = some (.int .u64 18446744073709551615) ∧ W.cell? ⟨n, 1, none⟩ = some (.int .u64 18446744073709551615) ∧ W.cell? ⟨n, 2, none⟩ = some (.int .u64 18446744073709551615) ∧ W.cell? ⟨n, 3, none⟩ = some (.int .u64 18446744073709551615) ∧ W.cell? ⟨n + 1, 0, none⟩ = some (.int .u64 0) ∧ W.cell? ⟨n + 1, 1, none⟩ = some (.int .u64 0) ∧ W.cell? ⟨n + 1, 2, none⟩ = some (.int .u64 0) ∧ W.cell? ⟨n + 1, 3, none⟩ = some (.int .u64 9223372036854775808)) (hb : Below (n + 1 + 1) W w1) : n + 1 < w1.heap.size ∧ w1.cell? ⟨n, 0, none⟩ = some (.int .u64 18446744073709551615) ∧ w1.cell? ⟨n, 1, none⟩ = some (.int .u64 18446744073709551615) ∧ w1.cell? ⟨n, 2, none⟩ = some (.int .u64 18446744073709551615) ∧ w1.cell? ⟨n, 3, none⟩ = some (.int .u64 18446744073709551615) ∧ w1.cell? ⟨n + 1, 0, none⟩ = some (.int .u64 0) ∧ w1.cell? ⟨n + 1, 1, none⟩ = some (.int .u64 0) ∧ w1.cell? ⟨n + 1, 2, none⟩ = some (.int .u64 0) ∧ w1.cell? ⟨n + 1, 3, none⟩ = some (.int .u64 9223372036854775808) := by
  obtain ⟨hz, c0_0, c0_1, c0_2, c0_3, c1_0, c1_1, c1_2, c1_3⟩ := h
  exact ⟨Nat.lt_of_lt_of_le hz hb.size, cells_below hb _ _ _ (by omega) c0_0, cells_below hb _ _ _ (by omega) c0_1, cells_below hb _ _ _ (by omega) c0_2, cells_below hb _ _ _ (by omega) c0_3, cells_below hb _ _ _ (by omega) c1_0, cells_below hb _ _ _ (by omega) c1_1, cells_below hb _ _ _ (by omega) c1_2, cells_below hb _ _ _ (by omega) c1_3⟩
theorem keepAb {n : Nat} {W w1 : World} (h : n + 1 < W.heap.size ∧ W.cell? ⟨n, 0, none⟩ = some (.int .u64 18446744073709551615) ∧ W.cell? ⟨n, 1, none⟩ = some (.int .u64 18446744073709551615) ∧ W.cell? ⟨n, 2, none⟩ = some (.int .u64 18446744073709551615) ∧ W.cell? ⟨n, 3, none⟩ = some (.int .u64 18446744073709551615) ∧ W.cell? ⟨n + 1, 0, none⟩ = some (.int .u64 0) ∧ W.cell? ⟨n + 1, 1, none⟩ = some (.int .u64 0) ∧ W.cell? ⟨n + 1, 2, none⟩ = some (.int .u64 0) ∧ W.cell? ⟨n + 1, 3, none⟩ = some (.int .u64 9223372036854775808)) (hb : Below W.heap.size W w1) : n + 1 < w1.heap.size ∧ w1.cell? ⟨n, 0, none⟩ = some (.int .u64 18446744073709551615) ∧ w1.cell? ⟨n, 1, none⟩ = some (.int .u64 18446744073709551615) ∧ w1.cell? ⟨n, 2, none⟩ = some (.int .u64 18446744073709551615) ∧ w1.cell? ⟨n, 3, none⟩ = some (.int .u64 18446744073709551615) ∧ w1.cell? ⟨n + 1, 0, none⟩ = some (.int .u64 0) ∧ w1.cell? ⟨n + 1, 1, none⟩ = some (.int .u64 0) ∧ w1.cell? ⟨n + 1, 2, none⟩ = some (.int .u64 0) ∧ w1.cell? ⟨n + 1, 3, none⟩ = some (.int .u64 9223372036854775808) := keepA h (hb.mono (by have := h.1; omega))
theorem keepAs {n : Nat} {W0 W w1 : World} (h : n + 1 < W0.heap.size ∧ W0.cell? ⟨n, 0, none⟩ = some (.int .u64 18446744073709551615) ∧ W0.cell? ⟨n, 1, none⟩ = some (.int .u64 18446744073709551615) ∧ W0.cell? ⟨n, 2, none⟩ = some (.int .u64 18446744073709551615) ∧ W0.cell? ⟨n, 3, none⟩ = some (.int .u64 18446744073709551615) ∧ W0.cell? ⟨n + 1, 0, none⟩ = some (.int .u64 0) ∧ W0.cell? ⟨n + 1, 1, none⟩ = some (.int .u64 0) ∧ W0.cell? ⟨n + 1, 2, none⟩ = some (.int .u64 0) ∧ W0.cell? ⟨n + 1, 3, none⟩ = some (.int .u64 9223372036854775808)) (h1 : Below (n + 1 + 1) W0 W) (hb : Below W.heap.size W w1) : n + 1 < w1.heap.size ∧ w1.cell? ⟨n, 0, none⟩ = some (.int .u64 18446744073709551615) ∧ w1.cell? ⟨n, 1, none⟩ = some (.int .u64 18446744073709551615) ∧ w1.cell? ⟨n, 2, none⟩ = some (.int .u64 18446744073709551615) ∧ w1.cell? ⟨n, 3, none⟩ = some (.int .u64 18446744073709551615) ∧ w1.cell? ⟨n + 1, 0, none⟩ = some (.int .u64 0) ∧ w1.cell? ⟨n + 1, 1, none⟩ = some (.int .u64 0) ∧ w1.cell? ⟨n + 1, 2, none⟩ = some (.int .u64 0) ∧ w1.cell? ⟨n + 1, 3, none⟩ = some (.int .u64 9223372036854775808) := keepAb (keepA h h1) hb
theorem keepAc {n : Nat} {W : World} (h : n + 1 < W.heap.size ∧ W.cell? ⟨n, 0, none⟩ = some (.int .u64 18446744073709551615) ∧ W.cell? ⟨n, 1, none⟩ = some (.int .u64 18446744073709551615) ∧ W.cell? ⟨n, 2, none⟩ = some (.int .u64 18446744073709551615) ∧ W.cell? ⟨n, 3, none⟩ = some (.int .u64 18446744073709551615) ∧ W.cell? ⟨n + 1, 0, none⟩ = some (.int .u64 0) ∧ W.cell? ⟨n + 1, 1, none⟩ = some (.int .u64 0) ∧ W.cell? ⟨n + 1, 2, none⟩ = some (.int .u64 0) ∧ W.cell? ⟨n + 1, 3, none⟩ = some (.int .u64 9223372036854775808)) {c o : Nat} {v : Value} (e0 : c ≠ n) (e1 : c ≠ n + 1) : n + 1 < (W.setCell ⟨c, o, none⟩ v).heap.size ∧ (W.setCell ⟨c, o, none⟩ v).cell? ⟨n, 0, none⟩ = some (.int .u64 18446744073709551615) ∧ (W.setCell ⟨c, o, none⟩ v).cell? ⟨n, 1, none⟩ = some (.int .u64 18446744073709551615) ∧ (W.setCell ⟨c, o, none⟩ v).cell? ⟨n, 2, none⟩ = some (.int .u64 18446744073709551615) ∧ (W.setCell ⟨c, o, none⟩ v).cell? ⟨n, 3, none⟩ = some (.int .u64 18446744073709551615) ∧ (W.setCell ⟨c, o, none⟩ v).cell? ⟨n + 1, 0, none⟩ = some (.int .u64 0) ∧ (W.setCell ⟨c, o, none⟩ v).cell? ⟨n + 1, 1, none⟩ = some (.int .u64 0) ∧ (W.setCell ⟨c, o, none⟩ v).cell? ⟨n + 1, 2, none⟩ = some (.int .u64 0) ∧ (W.setCell ⟨c, o, none⟩ v).cell? ⟨n + 1, 3, none⟩ = some (.int .u64 9223372036854775808) := by
  obtain ⟨hz, c0_0, c0_1, c0_2, c0_3, c1_0, c1_1, c1_2, c1_3⟩ := h
  refine ⟨by simp [World.setCell]; exact hz, ?_, ?_, ?_, ?_, ?_, ?_, ?_, ?_⟩
  · rw [World.cell?_setCell_far _ _ _ _ (by simpa using e0)]; exact c0_0
  · rw [World.cell?_setCell_far _ _ _ _ (by simpa using e0)]; exact c0_1
  · rw [World.cell?_setCell_far _ _ _ _ (by simpa using e0)]; exact c0_2
  · rw [World.cell?_setCell_far _ _ _ _ (by simpa using e0)]; exact c0_3
  · rw [World.cell?_setCell_far _ _ _ _ (by simpa using e1)]; exact c1_0
  · rw [World.cell?_setCell_far _ _ _ _ (by simpa using e1)]; exact c1_1
  · rw [World.cell?_setCell_far _ _ _ _ (by simpa using e1)]; exact c1_2
  · rw [World.cell?_setCell_far _ _ _ _ (by simpa using e1)]; exact c1_3

set_option maxHeartbeats 20000000 in
/-- conclavelaw01.alive -/
theorem alive_any (w : World) : Calls Try.prog 17 #[] w fun e w' => e = .returned (.bool true) ∧ Below w.heap.size w w' := by
  have q1 := eq24_same 18446744073709551615 18446744073709551615 18446744073709551615 18446744073709551615
  have q2 := eq24_same 2 0 0 0
  have q3 := eq24_same 5 0 0 0
  unfold W4 at q1 q2 q3
  have i3 : ∀ w : World, (Instr.index 24 (.agg #[.int .u64 0, .int .u64 0, .int .u64 0, .int .u64 13835058055282163712]) (.int .i64 3)).run Try.prog w = .ok (.int .u64 13835058055282163712) w := fun _ => by kernel_rfl
  go_enter Try.func17, Try.ntmps17
  go_wp2_with fail
  refine (ex_sub _).mono ?_
  rintro e w1 ⟨rfl, hw⟩
  unfold W4
  go_wp2_with fail
  have hB1 : Below w.heap.size w w1 := hw
  have hs1 := hB1.size
  have s : Hid (w1.heap.size + 1 < ((w1.alloc (.cells #[.int .u64 18446744073709551615, .int .u64 18446744073709551615, .int .u64 18446744073709551615, .int .u64 18446744073709551615] 24)).alloc (.cells #[.int .u64 0, .int .u64 0, .int .u64 0, .int .u64 9223372036854775808] 24)).heap.size ∧ ((w1.alloc (.cells #[.int .u64 18446744073709551615, .int .u64 18446744073709551615, .int .u64 18446744073709551615, .int .u64 18446744073709551615] 24)).alloc (.cells #[.int .u64 0, .int .u64 0, .int .u64 0, .int .u64 9223372036854775808] 24)).cell? ⟨w1.heap.size, 0, none⟩ = some (.int .u64 18446744073709551615) ∧ ((w1.alloc (.cells #[.int .u64 18446744073709551615, .int .u64 18446744073709551615, .int .u64 18446744073709551615, .int .u64 18446744073709551615] 24)).alloc (.cells #[.int .u64 0, .int .u64 0, .int .u64 0, .int .u64 9223372036854775808] 24)).cell? ⟨w1.heap.size, 1, none⟩ = some (.int .u64 18446744073709551615) ∧ ((w1.alloc (.cells #[.int .u64 18446744073709551615, .int .u64 18446744073709551615, .int .u64 18446744073709551615, .int .u64 18446744073709551615] 24)).alloc (.cells #[.int .u64 0, .int .u64 0, .int .u64 0, .int .u64 9223372036854775808] 24)).cell? ⟨w1.heap.size, 2, none⟩ = some (.int .u64 18446744073709551615) ∧ ((w1.alloc (.cells #[.int .u64 18446744073709551615, .int .u64 18446744073709551615, .int .u64 18446744073709551615, .int .u64 18446744073709551615] 24)).alloc (.cells #[.int .u64 0, .int .u64 0, .int .u64 0, .int .u64 9223372036854775808] 24)).cell? ⟨w1.heap.size, 3, none⟩ = some (.int .u64 18446744073709551615) ∧ ((w1.alloc (.cells #[.int .u64 18446744073709551615, .int .u64 18446744073709551615, .int .u64 18446744073709551615, .int .u64 18446744073709551615] 24)).alloc (.cells #[.int .u64 0, .int .u64 0, .int .u64 0, .int .u64 9223372036854775808] 24)).cell? ⟨w1.heap.size + 1, 0, none⟩ = some (.int .u64 0) ∧ ((w1.alloc (.cells #[.int .u64 18446744073709551615, .int .u64 18446744073709551615, .int .u64 18446744073709551615, .int .u64 18446744073709551615] 24)).alloc (.cells #[.int .u64 0, .int .u64 0, .int .u64 0, .int .u64 9223372036854775808] 24)).cell? ⟨w1.heap.size + 1, 1, none⟩ = some (.int .u64 0) ∧ ((w1.alloc (.cells #[.int .u64 18446744073709551615, .int .u64 18446744073709551615, .int .u64 18446744073709551615, .int .u64 18446744073709551615] 24)).alloc (.cells #[.int .u64 0, .int .u64 0, .int .u64 0, .int .u64 9223372036854775808] 24)).cell? ⟨w1.heap.size + 1, 2, none⟩ = some (.int .u64 0) ∧ ((w1.alloc (.cells #[.int .u64 18446744073709551615, .int .u64 18446744073709551615, .int .u64 18446744073709551615, .int .u64 18446744073709551615] 24)).alloc (.cells #[.int .u64 0, .int .u64 0, .int .u64 0, .int .u64 9223372036854775808] 24)).cell? ⟨w1.heap.size + 1, 3, none⟩ = some (.int .u64 9223372036854775808)) := by
    refine ⟨by simp, ?_, ?_, ?_, ?_, ?_, ?_, ?_, ?_⟩ <;> simp [go_sem, World.cell?_alloc_past]
  have hB : Below w.heap.size w ((w1.alloc (.cells #[.int .u64 18446744073709551615, .int .u64 18446744073709551615, .int .u64 18446744073709551615, .int .u64 18446744073709551615] 24)).alloc (.cells #[.int .u64 0, .int .u64 0, .int .u64 0, .int .u64 9223372036854775808] 24)) := by go_grown
  generalize ((w1.alloc (.cells #[.int .u64 18446744073709551615, .int .u64 18446744073709551615, .int .u64 18446744073709551615, .int .u64 18446744073709551615] 24)).alloc (.cells #[.int .u64 0, .int .u64 0, .int .u64 0, .int .u64 9223372036854775808] 24)) = w0 at *
  generalize w1.heap.size = n at *
  have hs0 := hB.size
  clear hw hB1
  go_region_held3 (fun w' => n + 1 < w'.heap.size ∧ w'.cell? ⟨n, 0, none⟩ = some (.int .u64 18446744073709551615) ∧ w'.cell? ⟨n, 1, none⟩ = some (.int .u64 18446744073709551615) ∧ w'.cell? ⟨n, 2, none⟩ = some (.int .u64 18446744073709551615) ∧ w'.cell? ⟨n, 3, none⟩ = some (.int .u64 18446744073709551615) ∧ w'.cell? ⟨n + 1, 0, none⟩ = some (.int .u64 0) ∧ w'.cell? ⟨n + 1, 1, none⟩ = some (.int .u64 0) ∧ w'.cell? ⟨n + 1, 2, none⟩ = some (.int .u64 0) ∧ w'.cell? ⟨n + 1, 3, none⟩ = some (.int .u64 9223372036854775808)) ((refine keepA s.out ?_; go_grown; done))
    (first
      | (go_at_call 32; go_must (refine (ex_not _).mono ?_; rintro e w2 ⟨rfl, hw2⟩; have hzs := s.out.1; have hB : Below w.heap.size w w2 := Below.trans (by go_grown) (hw2.mono (by go_size)); have s : Hid _ := keepAs s.out (by go_grown) hw2; have hs0 := hB.size; clear hw2 hzs))
      | (go_at_call 33; go_must (refine (ex_mulmod _).mono ?_; rintro e w2 ⟨rfl, hw2⟩; have hzs := s.out.1; have hB : Below w.heap.size w w2 := Below.trans (by go_grown) (hw2.mono (by go_size)); have s : Hid _ := keepAs s.out (by go_grown) hw2; have hs0 := hB.size; clear hw2 hzs))
      | (go_at_call 34; go_must (refine (ex_byte _).mono ?_; rintro e w2 ⟨rfl, hw2⟩; have hzs := s.out.1; have hB : Below w.heap.size w w2 := Below.trans (by go_grown) (hw2.mono (by go_size)); have s : Hid _ := keepAs s.out (by go_grown) hw2; have hs0 := hB.size; clear hw2 hzs))
      | (go_at_call 35; go_must (refine (ex_signext _).mono ?_; rintro e w2 ⟨rfl, hw2⟩; have hzs := s.out.1; have hB : Below w.heap.size w w2 := Below.trans (by go_grown) (hw2.mono (by go_size)); have s : Hid _ := keepAs s.out (by go_grown) hw2; have hs0 := hB.size; clear hw2 hzs))
      | (go_at_call 36; go_must (refine (ex_sar _).mono ?_; rintro e w2 ⟨rfl, hw2⟩; have hzs := s.out.1; have hB : Below w.heap.size w w2 := Below.trans (by go_grown) (hw2.mono (by go_size)); have s : Hid _ := keepAs s.out (by go_grown) hw2; have hs0 := hB.size; clear hw2 hzs)))
  go_wp2
  go_ret
  exact ⟨rfl, by go_grown⟩
end Go.Proofs.Ytjbdfmepeniglab
