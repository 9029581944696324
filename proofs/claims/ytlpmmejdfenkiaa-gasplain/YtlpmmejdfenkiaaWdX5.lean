/- Walks over package word: quotients and what is left, signed. -/
import Derived.Test.YtlpmmejdfenkiaaWdM2
import Derived.Laws.IdiomCopy
import Derived.Test.YtlpmmejdfenkiaaWdW3
namespace Go.Proofs.Ytlpmmejdfenkiaa.Wd
open Go.RowKit
set_option linter.unusedSimpArgs false
set_option linter.unusedVariables false
/-- A block of four limbs. -/
def Cel (w : World) (b : Nat) (x0 x1 x2 x3 : Int) : Prop := b < w.heap.size ∧ w.cell? ⟨b, 0, none⟩ = some (.int .u64 x0) ∧ w.cell? ⟨b, 1, none⟩ = some (.int .u64 x1) ∧ w.cell? ⟨b, 2, none⟩ = some (.int .u64 x2) ∧ w.cell? ⟨b, 3, none⟩ = some (.int .u64 x3)
theorem Cel.on {W0 W w1 : World} {b : Nat} {x0 x1 x2 x3 : Int} (h : Cel W0 b x0 x1 x2 x3) (e : W.heap = W0.heap) (hb : Below W.heap.size W w1) : Cel w1 b x0 x1 x2 x3 := by
  obtain ⟨hz, c0, c1, c2, c3⟩ := h
  have hz' : b < W.heap.size := by rw [e]; exact hz
  have hc : ∀ k, W.cell? ⟨b, k, none⟩ = W0.cell? ⟨b, k, none⟩ := fun k => by unfold World.cell?; rw [e]
  exact ⟨Nat.lt_of_lt_of_le hz' hb.size, ((hb.cell (p := ⟨b, 0, none⟩) hz').trans (hc 0)).trans c0, ((hb.cell (p := ⟨b, 1, none⟩) hz').trans (hc 1)).trans c1, ((hb.cell (p := ⟨b, 2, none⟩) hz').trans (hc 2)).trans c2, ((hb.cell (p := ⟨b, 3, none⟩) hz').trans (hc 3)).trans c3⟩
end Go.Proofs.Ytlpmmejdfenkiaa.Wd
