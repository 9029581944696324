/- Walks over package word: how many limbs there are, and a wide number that is shifted. -/
import Derived.Test.YtlpmmejdfenkiaaWdW3
import Derived.Test.YtlpmmejdfenkiaaWdD2
namespace Go.Proofs.Ytlpmmejdfenkiaa.Wd
open Go.RowKit
set_option linter.unusedSimpArgs false
set_option linter.unusedVariables false

/-- How many limbs there are without the noughts at the high end. -/
def usedN (a0 a1 a2 a3 : Int) : Int := if a3 ≠ 0 then 4 else if a2 ≠ 0 then 3 else if a1 ≠ 0 then 2 else if a0 ≠ 0 then 1 else 0
set_option maxHeartbeats 4000000 in
/-- word.used -/
theorem used_any (a0 a1 a2 a3 : Int) (w : World) :
    Calls Try.prog 51 #[W4 a0 a1 a2 a3] w fun e w' => e = .returned (.int .i64 (usedN a0 a1 a2 a3)) ∧ ∃ c, w' = w.alloc (.cells c 30) := by
  unfold W4
  by_cases h3 : a3 = 0 <;> by_cases h2 : a2 = 0 <;> by_cases h1 : a1 = 0 <;> by_cases h0 : a0 = 0
  all_goals
    have g : ∀ x : Int, ¬ x = 0 → (x != 0) = true := fun x h => by simpa using h
    simp only [usedN, h0, h1, h2, h3, ne_eq, not_true_eq_false, not_false_eq_true, if_true, if_false]
    try have k0 := g a0 h0
    try have k1 := g a1 h1
    try have k2 := g a2 h2
    try have k3 := g a3 h3
    clear g
    go_enter Try.func51, Try.ntmps51
    go_wp2
    refine wp_loop_rounds 5 ?_
    iterate 5
      rw [rounds_succ]
      go_wp2
    go_ret
    exact ⟨rfl, _, rfl⟩
end Go.Proofs.Ytlpmmejdfenkiaa.Wd
