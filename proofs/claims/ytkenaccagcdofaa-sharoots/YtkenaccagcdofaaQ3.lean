/- ShaRoots: the walk. -/
import Derived.Test.YtkenaccagcdofaaQ2
import Derived.Test.YtkenaccagcdofaaA2
namespace Go.Proofs.Ytkenaccagcdofaa
open Go.RowKit
set_option linter.unusedSimpArgs false
set_option linter.unusedVariables false

theorem kroots : (List.range 80).all (fun i => isRoot i 3 (KK i).toNat) = true := by decide +kernel
theorem hroots : (List.range 8).all (fun i => isRoot i 2 (HH i).toNat) = true := by decide +kernel
theorem kroot (i : Nat) (h : i < 80) (w : World) : Calls Try.prog 11 #[.int .i64 (i : Int), .int .i64 3, .int .u64 (I (KK i))] w fun e w' => e = .returned (.bool true) ∧ Below w.heap.size w w' := by
  have h1 := root_any i 3 (KK i).toNat h (Or.inr rfl) (KK i).isLt w
  rw [List.all_eq_true.1 kroots i (by simpa using h)] at h1
  exact h1
theorem hroot (i : Nat) (h : i < 8) (w : World) : Calls Try.prog 11 #[.int .i64 (i : Int), .int .i64 2, .int .u64 (I (HH i))] w fun e w' => e = .returned (.bool true) ∧ Below w.heap.size w w' := by
  have h1 := root_any i 2 (HH i).toNat (by omega) (Or.inl rfl) (HH i).isLt w
  rw [List.all_eq_true.1 hroots i (by simpa using h)] at h1
  exact h1
set_option maxRecDepth 20000 in
set_option maxHeartbeats 2000000 in
theorem roots_out (i : Int) (hi : i < 0 ∨ 80 ≤ i) (w : World) :
    Calls Try.prog 4 #[.int .i64 i] w fun e w' => e = .returned (.bool true) ∧ Below w.heap.size w w' := by
  have HK : Hid (∀ w, Calls Try.prog 9 #[.int .i64 i] w fun e w' => e = .returned (.int .u64 0) ∧ w' = w) := fun w => k_out i hi w
  have HH1 : Hid (∀ w, Calls Try.prog 10 #[.int .i64 i] w fun e w' => e = .returned (.int .u64 0) ∧ w' = w) := fun w => h_out i (by omega) w
  go_enter Try.func4, Try.ntmps4
  rcases hi with h | h
  · go_wp2_with (first | (go_at_call 9; refine Calls.mono (HK.out _) ?_; rintro e w' ⟨rfl, hs⟩; obtain rfl := hs.symm) | (go_at_call 10; refine Calls.mono (HH1.out _) ?_; rintro e w' ⟨rfl, hs⟩; obtain rfl := hs.symm) | (go_at_call 8; refine (alive_any _).mono ?_; rintro e w3 ⟨rfl, hb4⟩))
    go_ret
    exact ⟨rfl, hb4⟩
  · have h2 : decide (i < 0) = false := decide_eq_false (by omega)
    have h3 : 79 < i := by omega
    go_wp2_with (first | (go_at_call 9; refine Calls.mono (HK.out _) ?_; rintro e w' ⟨rfl, hs⟩; obtain rfl := hs.symm) | (go_at_call 10; refine Calls.mono (HH1.out _) ?_; rintro e w' ⟨rfl, hs⟩; obtain rfl := hs.symm) | (go_at_call 8; refine (alive_any _).mono ?_; rintro e w3 ⟨rfl, hb4⟩))
    go_ret
    exact ⟨rfl, hb4⟩
set_option maxRecDepth 20000 in
set_option maxHeartbeats 2000000 in
theorem roots_big (i : Nat) (hi : i < 80) (h7 : 7 < i) (w : World) :
    Calls Try.prog 4 #[.int .i64 (i : Int)] w fun e w' => e = .returned (.bool true) ∧ Below w.heap.size w w' := by
  have HK : Hid (∀ w, Calls Try.prog 9 #[.int .i64 (i : Int)] w fun e w' => e = .returned (.int .u64 (I (KK i))) ∧ Below w.heap.size w w') := fun w => k_in i hi w
  have HH1 : Hid (∀ w, Calls Try.prog 10 #[.int .i64 (i : Int)] w fun e w' => e = .returned (.int .u64 0) ∧ w' = w) := fun w => h_out i (Or.inr (by omega)) w
  have HR : Hid _ := kroot i hi
  generalize I (KK i) = kk at HK HR
  have h2 : decide ((i : Int) < 0) = false := decide_eq_false (by omega)
  have h3 : decide ((79 : Int) < (i : Int)) = false := decide_eq_false (by omega)
  have h4 : (7 : Int) < (i : Int) := by omega
  go_enter Try.func4, Try.ntmps4
  go_wp2_with (first | (go_at_call 9; refine Calls.mono (HK.out _) ?_; rintro e w1 ⟨rfl, hb1⟩) | (go_at_call 11; refine Calls.mono (HR.out _) ?_; rintro e w2 ⟨rfl, hb2⟩) | (go_at_call 10; refine Calls.mono (HH1.out _) ?_; rintro e w' ⟨rfl, hs⟩; obtain rfl := hs.symm) | (go_at_call 8; refine (alive_any _).mono ?_; rintro e w3 ⟨rfl, hb4⟩))
  go_ret
  exact ⟨rfl, (hb1.trans (hb2.mono hb1.size)).trans (hb4.mono (Nat.le_trans hb1.size hb2.size))⟩
set_option maxRecDepth 20000 in
set_option maxHeartbeats 2000000 in
theorem roots_small (i : Nat) (h8 : i < 8) (w : World) :
    Calls Try.prog 4 #[.int .i64 (i : Int)] w fun e w' => e = .returned (.bool true) ∧ Below w.heap.size w w' := by
  have HK : Hid (∀ w, Calls Try.prog 9 #[.int .i64 (i : Int)] w fun e w' => e = .returned (.int .u64 (I (KK i))) ∧ Below w.heap.size w w') := fun w => k_in i (by omega) w
  have HH1 : Hid (∀ w, Calls Try.prog 10 #[.int .i64 (i : Int)] w fun e w' => e = .returned (.int .u64 (I (HH i))) ∧ Below w.heap.size w w') := fun w => h_in i h8 w
  have HR : Hid _ := kroot i (by omega)
  have HS : Hid _ := hroot i h8
  generalize I (KK i) = kk at HK HR
  generalize I (HH i) = hh at HH1 HS
  have h2 : decide ((i : Int) < 0) = false := decide_eq_false (by omega)
  have h3 : decide ((79 : Int) < (i : Int)) = false := decide_eq_false (by omega)
  have h4 : decide ((7 : Int) < (i : Int)) = false := decide_eq_false (by omega)
  have h5 : (i : Int) ≤ 7 := by omega
  go_enter Try.func4, Try.ntmps4
  go_wp2_with (first | (go_at_call 9; refine Calls.mono (HK.out _) ?_; rintro e w1 ⟨rfl, hb1⟩) | (go_at_call_of 11 ([Value.int .i64 (i : Int), Value.int .i64 3, Value.int .u64 kk]); refine Calls.mono (HR.out _) ?_; rintro e w2 ⟨rfl, hb2⟩) | (go_at_call_of 11 ([Value.int .i64 (i : Int), Value.int .i64 2, Value.int .u64 hh]); refine Calls.mono (HS.out _) ?_; rintro e w5 ⟨rfl, hb5⟩) | (go_at_call 10; refine Calls.mono (HH1.out _) ?_; rintro e w3 ⟨rfl, hb3⟩) | (go_at_call 8; refine (alive_any _).mono ?_; rintro e w4 ⟨rfl, hb4⟩))
  go_ret
  have b2 := hb1.trans (hb2.mono hb1.size)
  have b3 := b2.trans (hb3.mono b2.size)
  have b5 := b3.trans (hb5.mono b3.size)
  exact ⟨rfl, b5.trans (hb4.mono b5.size)⟩
theorem roots_any (i : Int) (w : World) : Calls Try.prog 4 #[.int .i64 i] w fun e w' => e = .returned (.bool true) ∧ Below w.heap.size w w' := by
  by_cases h : i < 0 ∨ 80 ≤ i
  · exact roots_out i h w
  · obtain ⟨n, rfl⟩ := Int.eq_ofNat_of_zero_le (show 0 ≤ i by omega)
    by_cases h7 : 7 < n
    · exact roots_big n (by omega) h7 w
    · exact roots_small n (by omega) w
end Go.Proofs.Ytkenaccagcdofaa
