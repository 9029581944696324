/- Plain arithmetic of limbs that are shifted: no Go in sight. -/
import Derived.Test.YtlpmmejdfenkiaaWdBase
namespace Go.Proofs.Ytlpmmejdfenkiaa.Wd
open Go.RowKit

theorem pow_pos' (n : Nat) : 0 < (2 : Int) ^ n := Int.pow_pos (by decide)
end Go.Proofs.Ytlpmmejdfenkiaa.Wd
