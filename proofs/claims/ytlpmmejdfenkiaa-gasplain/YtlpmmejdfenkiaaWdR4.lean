/- Walks over the document's own numbers: powers of two, and a number as a word. -/
import Derived.Test.YtlpmmejdfenkiaaWdR3
import Derived.Deep.OwnRows
namespace Go.Proofs.Ytlpmmejdfenkiaa.Wd
open Go.RowKit
set_option linter.unusedSimpArgs false
set_option linter.unusedVariables false
theorem cells_le {w : World} {a : Option Addr} {d : List Int} (h : 0 < d.length → ∃ b o, a = some ⟨b, o, none⟩ ∧ b < w.heap.size ∧ ∀ k, k < d.length → w.cell? ⟨b, o + k, none⟩ = some (.int .i64 (d.getD k 0))) (k : Nat) (hk : k < d.length) :
    ∃ b o, a = some ⟨b, o, none⟩ ∧ b < w.heap.size ∧ w.cell? ⟨b, o + k, none⟩ = some (.int .i64 (d.getD k 0)) := by
  obtain ⟨b, o, e, hb, hc⟩ := h (by omega)
  exact ⟨b, o, e, hb, hc k hk⟩
theorem valB_split : ∀ (d : List Int) (k : Nat), valB d = valB (d.take k) + 256 ^ k * valB (d.drop k)
  | d, 0 => by simp [valB]
  | [], k + 1 => by simp [valB]
  | x :: r, k + 1 => by
    rw [List.take_succ_cons, List.drop_succ_cons, valB, valB, valB_split r k, Int.pow_succ, Int.mul_add, Int.mul_comm (256 ^ k) 256, Int.mul_assoc]
    have := valB_split r k
    omega
end Go.Proofs.Ytlpmmejdfenkiaa.Wd
