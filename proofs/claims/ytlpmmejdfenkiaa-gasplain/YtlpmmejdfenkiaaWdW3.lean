/- Walks over package word: numbers that fit, shifts. -/
import Derived.Test.YtlpmmejdfenkiaaWdW2
import Derived.Test.YtlpmmejdfenkiaaWdM1
namespace Go.Proofs.Ytlpmmejdfenkiaa.Wd
open Go.RowKit
set_option linter.unusedSimpArgs false
set_option linter.unusedVariables false

set_option maxHeartbeats 1000000 in
theorem of_exact (n : Int) (w : World) :
    Calls Try.prog 50 #[.int .u64 n] w fun e w' => e = .returned (W4 n 0 0 0) ∧ ∃ c, w' = w.alloc (.cells c 30) := by
  go_enter Try.func50, Try.ntmps50
  go_wp2
  go_returns
  exact ⟨rfl, _, rfl⟩
set_option maxHeartbeats 1000000 in
theorem uint_core (a0 a1 a2 a3 : Int) (r : Bool) (hr : (a0 == a0 && (a1 == 0 && (a2 == 0 && a3 == 0))) = r) (w : World) :
    Calls Try.prog 43 #[W4 a0 a1 a2 a3] w fun e w' => e = .returned (.tuple #[.int .u64 (bif r then a0 else 0), .bool r]) ∧ ∃ c1 c2, w' = ((w.alloc (.cells c1 30)).alloc (.cells c2 30)).drew := by
  have q : ∀ w, (Op.equalIn 10000 30 (W4 a0 a1 a2 a3) (W4 a0 0 0 0)).run Try.prog w = .ok r w := fun w => by rw [eq24, hr]
  clear hr
  unfold W4 at *
  cases r with
  | true =>
    go_enter Try.func43, Try.ntmps43
    go_wp2
    go_region_held3 (fun w' => w'.cell? ⟨w.heap.size, 0, none⟩ = some (.int .u64 a0) ∧ w'.cell? ⟨w.heap.size, 1, none⟩ = some (.int .u64 a1) ∧ w'.cell? ⟨w.heap.size, 2, none⟩ = some (.int .u64 a2) ∧ w'.cell? ⟨w.heap.size, 3, none⟩ = some (.int .u64 a3)) (simp [go_sem, World.cell?_alloc_past])
      (first | (go_at_call 50; refine (of_exact _ _).mono ?_; rintro e w' ⟨rfl, c, rfl⟩))
    go_wp2
    go_ret2
    exact ⟨rfl, _, _, rfl⟩
  | false =>
    go_enter Try.func43, Try.ntmps43
    go_wp2
    go_region_held3 (fun w' => w'.cell? ⟨w.heap.size, 0, none⟩ = some (.int .u64 a0) ∧ w'.cell? ⟨w.heap.size, 1, none⟩ = some (.int .u64 a1) ∧ w'.cell? ⟨w.heap.size, 2, none⟩ = some (.int .u64 a2) ∧ w'.cell? ⟨w.heap.size, 3, none⟩ = some (.int .u64 a3)) (simp [go_sem, World.cell?_alloc_past])
      (first | (go_at_call 50; refine (of_exact _ _).mono ?_; rintro e w' ⟨rfl, c, rfl⟩))
    go_wp2
    go_ret2
    exact ⟨rfl, _, _, rfl⟩
/-- word.Uint -/
theorem uint_yes (a0 : Int) (w : World) :
    Calls Try.prog 43 #[W4 a0 0 0 0] w fun e w' => e = .returned (.tuple #[.int .u64 a0, .bool true]) ∧ ∃ c1 c2, w' = ((w.alloc (.cells c1 30)).alloc (.cells c2 30)).drew :=
  uint_core a0 0 0 0 true (by simp) w
theorem num_small {a0 a1 a2 a3 : Int} (h : L4 a0 a1 a2 a3) (hn : num a0 a1 a2 a3 < 18446744073709551616) : a1 = 0 ∧ a2 = 0 ∧ a3 = 0 ∧ num a0 a1 a2 a3 = a0 := by
  obtain ⟨⟨_, _⟩, ⟨_, _⟩, ⟨_, _⟩, ⟨_, _⟩⟩ := h
  unfold num at *; omega
theorem uint_no (a0 a1 a2 a3 : Int) (ha : L4 a0 a1 a2 a3) (hn : 18446744073709551616 ≤ num a0 a1 a2 a3) (w : World) :
    Calls Try.prog 43 #[W4 a0 a1 a2 a3] w fun e w' => e = .returned (.tuple #[.int .u64 0, .bool false]) ∧ ∃ c1 c2, w' = ((w.alloc (.cells c1 30)).alloc (.cells c2 30)).drew := by
  refine uint_core a0 a1 a2 a3 false ?_ w
  by_cases h : a1 = 0 ∧ a2 = 0 ∧ a3 = 0
  · exfalso
    obtain ⟨rfl, rfl, rfl⟩ := h
    have := ha.1.2
    unfold num at hn; omega
  · by_cases h1 : a1 = 0 <;> by_cases h2 : a2 = 0 <;> by_cases h3 : a3 = 0 <;> simp_all
end Go.Proofs.Ytlpmmejdfenkiaa.Wd
