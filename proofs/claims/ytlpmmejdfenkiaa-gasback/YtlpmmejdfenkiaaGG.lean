/- The chapter's examples. -/
import Derived.Test.YtlpmmejdfenkiaaGE
import Derived.Test.YtlpmmejdfenkiaaGF
namespace Go.Proofs.Ytlpmmejdfenkiaa
open Go.RowKit
set_option linter.unusedSimpArgs false
set_option linter.unusedVariables false
theorem L41 : L4 1 0 0 0 := ⟨⟨by decide, by decide⟩, ⟨by decide, by decide⟩, ⟨by decide, by decide⟩, ⟨by decide, by decide⟩⟩
theorem ss1 (w : World) : Calls Try.prog 32 #[W4 0 0 0 0, W4 0 0 0 0, W4 1 0 0 0, .bool false] w fun e w' => e = .returned (.tuple #[.int .u64 22100, .int .i64 0]) ∧ Below w.heap.size w w' := by
  refine (sstore_any 0 0 0 0 0 0 0 0 1 0 0 0 false L40 L40 L41 w).mono ?_
  rintro e w' ⟨rfl, h⟩
  exact ⟨rfl, h⟩
theorem ss2 (w : World) : Calls Try.prog 32 #[W4 1 0 0 0, W4 1 0 0 0, W4 0 0 0 0, .bool true] w fun e w' => e = .returned (.tuple #[.int .u64 2900, .int .i64 4800]) ∧ Below w.heap.size w w' := by
  refine (sstore_any 1 0 0 0 1 0 0 0 0 0 0 0 true L41 L41 L40 w).mono ?_
  rintro e w' ⟨rfl, h⟩
  exact ⟨rfl, h⟩
theorem mem1 (w : World) : Calls Try.prog 11 #[.int .u64 32] w fun e w' => e = .returned (.int .u64 3) ∧ w' = w := memory_any 32 ⟨by decide, by decide⟩ w
theorem mem2 (w : World) : Calls Try.prog 11 #[.int .u64 32768] w fun e w' => e = .returned (.int .u64 5120) ∧ w' = w := memory_any 32768 ⟨by decide, by decide⟩ w
theorem intr1 (w : World) (b : Nat) (hb : b < w.heap.size) (c0 : w.cell? ⟨b, 0, none⟩ = some (.int .u8 0)) (c1 : w.cell? ⟨b, 1, none⟩ = some (.int .u8 1)) :
    Calls Try.prog 22 #[.slice (some ⟨b, 0, none⟩) 2 2, .bool false] w fun e w' => e = .returned (.int .u64 21020) ∧ Below w.heap.size w w' := by
  refine (intrinsic_any (some ⟨b, 0, none⟩) 2 2 (fun k => if k = 0 then 0 else 1) false w (by decide) ?_).mono ?_
  · intro k hk
    rcases (by omega : k = 0 ∨ k = 1) with rfl | rfl
    · exact ⟨_, rfl, hb, c0, by decide, by decide⟩
    · exact ⟨_, rfl, hb, c1, by decide, by decide⟩
  · rintro e w' ⟨rfl, h⟩
    exact ⟨rfl, h⟩
set_option maxHeartbeats 4000000 in
theorem alive_any (w : World) : Calls Try.prog 21 #[] w fun e w' => e = .returned (.bool true) ∧ Below w.heap.size w w' := by
  have S1 : Hid (∀ w, _) := ss1
  have S2 : Hid (∀ w, _) := ss2
  unfold W4 at *
  go_enter Try.func21, Try.ntmps21
  go_wp2_with fail
  refine (S1.out _).mono ?_
  rintro e w1 ⟨rfl, hw1⟩
  go_wp2_with fail
  refine (S2.out _).mono ?_
  rintro e w2 ⟨rfl, hw2⟩
  go_wp2_with fail
  refine (mem1 _).mono ?_
  rintro e w' ⟨rfl, rfl⟩
  go_wp2_with fail
  refine (mem2 _).mono ?_
  rintro e w' ⟨rfl, rfl⟩
  go_wp2_with fail
  refine (intr1 _ _ (by simp) (by simp [go_sem]) (by simp [go_sem])).mono ?_
  rintro e w3 ⟨rfl, hw3⟩
  go_wp2
  go_returns
  refine ⟨rfl, ?_⟩
  have h2 : Below w.heap.size w w' := hw1.trans (hw2.mono hw1.size)
  exact h2.trans (Below.trans (by go_grown; exact h2.size) (hw3.mono (by have := h2.size; simp; exact Nat.le_succ_of_le this)))
end Go.Proofs.Ytlpmmejdfenkiaa
