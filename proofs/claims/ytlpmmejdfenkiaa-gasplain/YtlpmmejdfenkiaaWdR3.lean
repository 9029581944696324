/- Walks over the document's own numbers: sums. -/
import Derived.Test.YtlpmmejdfenkiaaWdR2
namespace Go.Proofs.Ytlpmmejdfenkiaa.Wd
open Go.RowKit
set_option linter.unusedSimpArgs false
set_option linter.unusedVariables false
theorem one_cell {w : World} {x : Value} {q : Nat} {u : Value} (h : [x][q]? = some u) : (w.alloc (.cells #[x] 3)).cell? ((⟨w.heap.size, 0, none⟩ : Addr).add q) = some u := by
  match q, h with
  | 0, h => simp at h; subst h; simp [Addr.add]
theorem of_grown {B : Nat} {w0 wr w1 : World} {o : Obj} {row : Option Nat} (h : Below B w0 wr) (hg : (wr.alloc o).grownBy w1 row) (hr : ∀ k, row = some k → B ≤ k) (hB : B ≤ wr.heap.size) : Below B w0 w1 :=
  Below.grown (h.alloc hB _) hg (by simp; omega) hr
theorem Int.pow_le_pow_of_le_right' {m n : Nat} (h : m ≤ n) : (256 : Int) ^ m ≤ 256 ^ n := by
  have := Nat.pow_le_pow_right (n := 256) (by decide) h
  have e : ∀ k : Nat, (256 : Int) ^ k = ((256 ^ k : Nat) : Int) := fun k => by simp
  rw [e, e]; omega
end Go.Proofs.Ytlpmmejdfenkiaa.Wd
