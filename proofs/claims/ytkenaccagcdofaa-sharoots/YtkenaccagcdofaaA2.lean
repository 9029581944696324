/- sha.K, sha.H; alive: the chapter's examples. -/
import Derived.Test.YtkenaccagcdofaaA1
import Derived.Lib.SlBytesConst
namespace Go.Proofs.Ytkenaccagcdofaa
open Go.RowKit Go.Shelf
set_option linter.unusedSimpArgs false
set_option linter.unusedVariables false

set_option maxHeartbeats 400000 in
/-- sha.K inside -/
theorem k_in (i : Nat) (hi : i < 80) (w : World) :
    Calls Try.prog 9 #[.int .i64 (i : Int)] w fun e w' => e = .returned (.int .u64 (I (KK i))) ∧ Below w.heap.size w w' := by
  have hix := run_index_vec (P := Try.prog) 41 27 80 (fun w => run_underlying Try.underlying41 w) Try.sizeOf27 Try.isAgg27 (lan KK) i hi
  go_enter Try.func9, Try.ntmps9
  go_wp2_with (go_at_call 17; refine (stepConstants_any _).mono ?_; rintro e w' ⟨rfl, hs⟩; obtain rfl := hs.symm)
  go_ret
  exact ⟨rfl, by go_grown⟩
set_option maxHeartbeats 400000 in
/-- sha.H inside -/
theorem h_in (i : Nat) (hi : i < 8) (w : World) :
    Calls Try.prog 10 #[.int .i64 (i : Int)] w fun e w' => e = .returned (.int .u64 (I (HH i))) ∧ Below w.heap.size w w' := by
  have hix := run_index_vec (P := Try.prog) 38 27 8 (fun w => run_underlying Try.underlying38 w) Try.sizeOf27 Try.isAgg27 (lan HH) i hi
  go_enter Try.func10, Try.ntmps10
  go_wp2_with (go_at_call 18; refine (firstState_any _).mono ?_; rintro e w' ⟨rfl, hs⟩; obtain rfl := hs.symm)
  go_ret
  exact ⟨rfl, by go_grown⟩
set_option maxHeartbeats 400000 in
/-- sha.K outside -/
theorem k_out (i : Int) (hi : i < 0 ∨ 80 ≤ i) (w : World) :
    Calls Try.prog 9 #[.int .i64 i] w fun e w' => e = .returned (.int .u64 0) ∧ w' = w := by
  go_enter Try.func9, Try.ntmps9
  rcases hi with h | h
  · go_wp2
    go_ret
    exact ⟨rfl, rfl⟩
  · have h2 : decide (i < 0) = false := decide_eq_false (by omega)
    go_wp2
    go_ret
    exact ⟨rfl, rfl⟩
set_option maxHeartbeats 400000 in
/-- sha.H outside -/
theorem h_out (i : Int) (hi : i < 0 ∨ 8 ≤ i) (w : World) :
    Calls Try.prog 10 #[.int .i64 i] w fun e w' => e = .returned (.int .u64 0) ∧ w' = w := by
  go_enter Try.func10, Try.ntmps10
  rcases hi with h | h
  · go_wp2
    go_ret
    exact ⟨rfl, rfl⟩
  · have h2 : decide (i < 0) = false := decide_eq_false (by omega)
    go_wp2
    go_ret
    exact ⟨rfl, rfl⟩
theorem abc_bytes (w : World) (n : Nat) (fr : Nat × Nat) (h : w.heap[n]? = some (.cells #[.int .u8 97, .int .u8 98, .int .u8 99] 5 fr)) : Bytes w (some ⟨n, 0, none⟩) 3 3 abc := by
  refine ⟨n, 0, fun _ => rfl, fun j hj => ?_, by decide, by decide, by decide⟩
  rw [Nat.zero_add, cell_of_row w n j _ 5 fr h]
  match j, hj with
  | 0, _ => rfl
  | 1, _ => rfl
  | 2, _ => rfl
theorem k0_val : I (KK 0) = 4794697086780616226 := by decide
theorem h0_val : I (HH 0) = 7640891576956012808 := by decide
set_option maxRecDepth 100000 in
set_option maxHeartbeats 2000000 in
theorem alive_any (w : World) : Calls Try.prog 8 #[] w fun e w' => e = .returned (.bool true) ∧ Below w.heap.size w w' := by
  have hbs : ∀ w, (Instr.buildSlice 22 3 #[(0, .int .u8 97), (1, .int .u8 98), (2, .int .u8 99)]).run Try.prog w = .ok (.slice (some ⟨w.heap.size, 0, none⟩) 3 3) (w.alloc (.cells #[.int .u8 97, .int .u8 98, .int .u8 99] 5)) := fun _ => by kernel_rfl
  have hcv := fun (w : World) (C : Array Value) (n c : Nat) => Lib.run_convert_bytes_const (P := Try.prog) w 22 5 C n c Try.underlying22 Try.underlying5
  have a0 := abc_0
  have a1 := abc_1
  have a62 := abc_62
  have a63 := abc_63
  have HS2 : Hid (∀ w ad, Bytes w ad 3 3 abc → Calls Try.prog 6 #[.slice ad 3 3] w fun e w' => e = .returned (.agg (vec 64 (byt (digest abc 3)))) ∧ Below w.heap.size w w') := fun w ad hb => sum_any ad 3 3 abc w hb
  generalize digest abc 3 = dB at a0 a1 a62 a63 HS2
  have HK : Hid (∀ w, Calls Try.prog 9 #[.int .i64 0] w fun e w' => e = .returned (.int .u64 4794697086780616226) ∧ Below w.heap.size w w') := fun w => by
    have h := k_in 0 (by decide) w; rw [k0_val] at h; exact h
  have HH0 : Hid (∀ w, Calls Try.prog 10 #[.int .i64 0] w fun e w' => e = .returned (.int .u64 7640891576956012808) ∧ Below w.heap.size w w') := fun w => by
    have h := h_in 0 (by decide) w; rw [h0_val] at h; exact h
  have HA : Hid (dB 0 = 0xdd#8 ∧ dB 1 = 0xaf#8 ∧ dB 62 = 0xa4#8 ∧ dB 63 = 0x9f#8) := ⟨a0, a1, a62, a63⟩
  clear a0 a1 a62 a63
  have hz := (zero_of_info zero23).1
  go_enter Try.func8, Try.ntmps8
  go_wp2_with fail
  refine (HS2.out (w.alloc (.cells #[.int .u8 97, .int .u8 98, .int .u8 99] 5 (3, 4))) _ (abc_bytes _ _ (3, 4) (heap_alloc_new _ _))).mono ?_
  rintro e w2 ⟨rfl, hb2⟩
  have hB2 : Below w.heap.size w w2 := Below.trans (by go_grown) (hb2.mono (by simp))
  have hr : (w2.alloc (.cells (vec 64 (byt dB)) 23)).rowIs w2.heap.size 23 64 (byt dB) := heap_row (heap_alloc_new _ _)
  obtain ⟨w3, hw3⟩ : ∃ w3, w2.alloc (.cells (vec 64 (byt dB)) 23) = w3 := ⟨_, rfl⟩
  rw [hw3] at hr
  have cA0 : w3.cell? ⟨w2.heap.size, 0, none⟩ = some (.int .u8 221) := by rw [hr.cell (by decide)]; simp only [byt]; rw [HA.out.1]; rfl
  have cA1 : w3.cell? ⟨w2.heap.size, 1, none⟩ = some (.int .u8 175) := by rw [hr.cell (by decide)]; simp only [byt]; rw [HA.out.2.1]; rfl
  have cA62 : w3.cell? ⟨w2.heap.size, 62, none⟩ = some (.int .u8 164) := by rw [hr.cell (by decide)]; simp only [byt]; rw [HA.out.2.2.1]; rfl
  have cA63 : w3.cell? ⟨w2.heap.size, 63, none⟩ = some (.int .u8 159) := by rw [hr.cell (by decide)]; simp only [byt]; rw [HA.out.2.2.2]; rfl
  have H3 : Hid (Below w.heap.size w w3) := by rw [← hw3]; exact hB2.alloc hB2.size _
  have HW : Hid (w2.alloc (.cells (vec 64 (byt dB)) 23) = w3) := hw3
  clear hw3 hr hB2 hb2 HA hbs hcv
  go_wp2_with (first | (refine wpList_store_row rfl 23 _ _ rfl w2.heap.size (vec 64 (byt dB)) rfl rfl 23 _ (heap_alloc_new _ _) (info23v _) (by simp) (one_byt _ _) ?_; rw [World.setRow_alloc_new, HW.out]) | (go_at_call 9; refine (HK.out _).mono ?_; rintro e w4 ⟨rfl, hb4⟩) | (go_at_call 10; refine (HH0.out _).mono ?_; rintro e w5 ⟨rfl, hb5⟩))
  go_ret
  exact ⟨rfl, (H3.out.trans (hb4.mono H3.out.size)).trans (hb5.mono (Nat.le_trans H3.out.size hb4.size))⟩
end Go.Proofs.Ytkenaccagcdofaa
