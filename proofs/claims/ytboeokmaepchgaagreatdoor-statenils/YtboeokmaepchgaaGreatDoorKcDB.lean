/- A message by its bytes. -/
import Derived.Test.YtboeokmaepchgaaGreatDoorKcKK
namespace Go.Proofs.YtboeokmaepchgaaGreatDoor.Kc
open Go.RowKit
/-- The message of a list of bytes. -/
def mB (bs : List Int) (j : Nat) : BitVec 8 := BitVec.ofInt 8 (bs.getD j 0)
theorem I8_mB {bs : List Int} {j : Nat} {x : Int} (h : bs[j]? = some x) (h0 : 0 ≤ x) (h1 : x < 256) : I8 (mB bs j) = x := by
  unfold I8 mB
  rw [List.getD_eq_getElem?_getD, h]
  simp only [Option.getD_some, BitVec.toNat_ofInt]
  omega
theorem perm24 (S : Nat → BitVec 64) : permTo S 24 = permute RCs S := rfl
theorem dig_at {msg : Nat → BitVec 8} {n : Nat} {S : Nat → BitVec 64} {l : List Nat} (hS : S = absTo (stAfter msg (n / 136)) (lastB msg n) 136) (h : Same (permute RCs S) (lanesOf l)) (i : Nat) (hi : i < 32) : digest msg n i = outb (lanesOf l) i := by
  unfold digest outb; rw [← hS, h (i / 8) (by omega)]
end Go.Proofs.YtboeokmaepchgaaGreatDoor.Kc
