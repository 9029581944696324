/- Walks over package word: powers. -/
import Derived.Test.YtlpmmejdfenkiaaWdE1
import Derived.Test.YtlpmmejdfenkiaaWdW3
namespace Go.Proofs.Ytlpmmejdfenkiaa.Wd
open Go.RowKit
set_option linter.unusedSimpArgs false
set_option linter.unusedVariables false
/-- A block of four limbs that may be written. -/
def Blk (w : World) (b : Nat) (x0 x1 x2 x3 : Int) : Prop := b < w.heap.size ∧ w.cell? ⟨b, 0, none⟩ = some (.int .u64 x0) ∧ w.cell? ⟨b, 1, none⟩ = some (.int .u64 x1) ∧ w.cell? ⟨b, 2, none⟩ = some (.int .u64 x2) ∧ w.cell? ⟨b, 3, none⟩ = some (.int .u64 x3) ∧ ∀ k, w.frozen? ⟨b, k, none⟩ = false
theorem Blk.below {w w1 : World} {b : Nat} {x0 x1 x2 x3 : Int} (h : Blk w b x0 x1 x2 x3) (hb : Below w.heap.size w w1) : Blk w1 b x0 x1 x2 x3 := by
  obtain ⟨hz, c0, c1, c2, c3, f⟩ := h
  exact ⟨Nat.lt_of_lt_of_le hz hb.size, (hb.cell (p := ⟨b, 0, none⟩) hz).trans c0, (hb.cell (p := ⟨b, 1, none⟩) hz).trans c1, (hb.cell (p := ⟨b, 2, none⟩) hz).trans c2, (hb.cell (p := ⟨b, 3, none⟩) hz).trans c3, fun k => (hb.frozen (p := ⟨b, k, none⟩) hz).trans (f k)⟩
theorem frozen_set {w : World} {a b : Addr} {v : Value} (h : w.frozen? b = false) : (w.setCell a v).frozen? b = false := by
  simpa [go_sem] using h
theorem size_set {w : World} {a : Addr} {v : Value} : (w.setCell a v).heap.size = w.heap.size := by simp [World.setCell]
theorem Blk.put_same {w : World} {c : Nat} {x0 x1 x2 x3 q0 q1 q2 q3 : Int} (h : Blk w c x0 x1 x2 x3) : Blk ((((w.setCell ⟨c, 0, none⟩ (.int .u64 q0)).setCell ⟨c, 1, none⟩ (.int .u64 q1)).setCell ⟨c, 2, none⟩ (.int .u64 q2)).setCell ⟨c, 3, none⟩ (.int .u64 q3)) c q0 q1 q2 q3 := by
  obtain ⟨hz, c0, c1, c2, c3, f⟩ := h
  refine ⟨by rw [size_set, size_set, size_set, size_set]; exact hz, ?_, ?_, ?_, ?_, fun k => frozen_set (frozen_set (frozen_set (frozen_set (f k))))⟩ <;> simp [go_sem, *]
end Go.Proofs.Ytlpmmejdfenkiaa.Wd
