/- The base of the walks over package word: math/bits.Add64 and Sub64 over Int. -/
import Derived.Test.YtlpmmejdfenkiaaChecked
import Derived.Test.YtlpmmejdfenkiaaWdShelf
import Derived.Shelf.Spec.BitsCarry
import Derived.WalkKit
import Derived.WalkSpells
import Derived.StillTactics
import Derived.Laws.Pointers
import Derived.Laws.Externs
import Derived.Deep.RegionHeld3
import Derived.RowKit3
import Derived.Handy
import Derived.Lib.Mul64
import Derived.Laws.Bits64b
import Derived.BigQuiet
import Derived.Deep.QuietTactic
import Derived.Deep.DeepCutAuto
import Derived.Deep.DeepFit
namespace Go.Proofs.Ytlpmmejdfenkiaa.Wd
open Go.RowKit

/-- One limb. -/
def Limb (x : Int) : Prop := 0 ≤ x ∧ x < 18446744073709551616
/-- Four limbs. -/
def L4 (a0 a1 a2 a3 : Int) : Prop := Limb a0 ∧ Limb a1 ∧ Limb a2 ∧ Limb a3
/-- The number of four limbs, the lowest first. -/
def num (a0 a1 a2 a3 : Int) : Int := a0 + 18446744073709551616 * a1 + 340282366920938463463374607431768211456 * a2 + 6277101735386680763835789423207666416102355444464034512896 * a3
/-- A word as a value. -/
abbrev W4 (a0 a1 a2 a3 : Int) : Value := .agg #[.int .u64 a0, .int .u64 a1, .int .u64 a2, .int .u64 a3]
/-- 2 to the 256. -/
def T256 : Int := 115792089237316195423570985008687907853269984665640564039457584007913129639936

theorem num_bd {a0 a1 a2 a3 : Int} (h : L4 a0 a1 a2 a3) : 0 ≤ num a0 a1 a2 a3 ∧ num a0 a1 a2 a3 < T256 := by
  obtain ⟨⟨_, _⟩, ⟨_, _⟩, ⟨_, _⟩, ⟨_, _⟩⟩ := h
  unfold num T256; omega
end Go.Proofs.Ytlpmmejdfenkiaa.Wd
