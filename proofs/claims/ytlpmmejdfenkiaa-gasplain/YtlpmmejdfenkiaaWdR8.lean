/- Walks over the document's own answers: sums, differences, products. -/
import Derived.Test.YtlpmmejdfenkiaaWdR7
import Derived.Test.YtlpmmejdfenkiaaWdR1
import Derived.Test.YtlpmmejdfenkiaaWdW2
import Derived.Test.YtlpmmejdfenkiaaWdR2
import Derived.Test.YtlpmmejdfenkiaaWdW3
namespace Go.Proofs.Ytlpmmejdfenkiaa.Wd
open Go.RowKit
set_option linter.unusedSimpArgs false
set_option linter.unusedVariables false
/-- A list of at most L digits that stands for a number. -/
def St (L : Nat) (d : List Int) (n : Int) : Prop := Byt d ∧ d.length ≤ L ∧ valB d = n
theorem of_st (a0 a1 a2 a3 : Int) (ha : L4 a0 a1 a2 a3) (w : World) : Calls Try.prog 45 #[W4 a0 a1 a2 a3] w fun e w' => ∃ (v : Value) (d : List Int), e = .returned v ∧ IsN w' v d ∧ Hid (St 32 d (num a0 a1 a2 a3)) ∧ Below w.heap.size w w' :=
  (of_ref a0 a1 a2 a3 ha w).mono fun e w' ⟨v, d, he, hN, hB, hl, hV, hw⟩ => ⟨v, d, he, hN, ⟨hB, hl, hV.out⟩, hw⟩
end Go.Proofs.Ytlpmmejdfenkiaa.Wd
