/- Walks over the document's own numbers: which is more, sums. -/
import Derived.Test.YtlpmmejdfenkiaaWdR0
namespace Go.Proofs.Ytlpmmejdfenkiaa.Wd
open Go.RowKit
set_option linter.unusedSimpArgs false
set_option linter.unusedVariables false
theorem IsN.drew {w : World} {v : Value} {d : List Int} (h : IsN w v d) (n : Nat) : IsN (w.drewN n) v d := h
theorem IsN.shape {w : World} {v : Value} {d : List Int} (h : IsN w v d) : ∃ a cap, v = .slice a d.length cap ∧ d.length ≤ cap := by
  obtain ⟨a, cap, rfl, hc, _⟩ := h
  exact ⟨a, cap, rfl, hc⟩
end Go.Proofs.Ytlpmmejdfenkiaa.Wd
