/- Walks over package word: which bytes are words. -/
import Derived.Test.YtlpmmejdfenkiaaWdB3
namespace Go.Proofs.Ytlpmmejdfenkiaa.Wd
open Go.RowKit
set_option linter.unusedSimpArgs false
set_option linter.unusedVariables false
/-- A slice of bytes that lies in memory; d: its numbers, the last first. -/
def IsU (w : World) (v : Value) (d : List Int) : Prop :=
  ∃ a cap, v = .slice a d.length cap ∧ d.length ≤ cap ∧ ∀ k, k < d.length → ∃ b o, a = some ⟨b, o, none⟩ ∧ b < w.heap.size ∧ w.cell? ⟨b, o + (d.length - 1 - k), none⟩ = some (.int .u8 (d.getD k 0))
theorem IsU.below {w w' : World} {v : Value} {d : List Int} (h : IsU w v d) (hb : Below w.heap.size w w') : IsU w' v d := by
  obtain ⟨a, cap, rfl, hcap, h⟩ := h
  refine ⟨a, cap, rfl, hcap, fun k hk => ?_⟩
  obtain ⟨b, o, rfl, hlt, hc⟩ := h k hk
  exact ⟨b, o, rfl, Nat.lt_of_lt_of_le hlt hb.size, (hb.cell (p := ⟨b, o + (d.length - 1 - k), none⟩) hlt).trans hc⟩
end Go.Proofs.Ytlpmmejdfenkiaa.Wd
