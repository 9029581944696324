/- SHA-512 over words of 64 bits: what the document and the program say, and that it is the same. -/
import Derived.Test.YtkenaccagcdofaaProg
namespace Go.Proofs.Ytkenaccagcdofaa
set_option linter.unusedVariables false

theorem choose_eq (x y z : BitVec 64) : (x &&& y ||| z &&& ~~~ x) = (x &&& y) ^^^ (~~~ x &&& z) := by
  apply BitVec.eq_of_getElem_eq
  intro i hi
  simp only [BitVec.getElem_or, BitVec.getElem_and, BitVec.getElem_xor, BitVec.getElem_not]
  cases x[i] <;> cases y[i] <;> cases z[i] <;> rfl
theorem majority_eq (x y z : BitVec 64) : (x &&& y ||| x &&& z ||| y &&& z) = (x &&& y) ^^^ (x &&& z) ^^^ (y &&& z) := by
  apply BitVec.eq_of_getElem_eq
  intro i hi
  simp only [BitVec.getElem_or, BitVec.getElem_and, BitVec.getElem_xor]
  cases x[i] <;> cases y[i] <;> cases z[i] <;> rfl
/-- A word turned right. -/
def rr (x : BitVec 64) (n : Nat) : BitVec 64 := x >>> n ||| x <<< (64 - n)
theorem rr_left (x : BitVec 64) (n : Nat) (h0 : 0 < n) (h : n < 64) : x.rotateLeft (64 - n) = rr x n := by
  rw [BitVec.rotateLeft_def, Nat.mod_eq_of_lt (by omega), show 64 - (64 - n) = n from by omega]
  unfold rr
  exact BitVec.or_comm _ _
def sg0 (x : BitVec 64) : BitVec 64 := rr x 1 ^^^ rr x 8 ^^^ x >>> 7
def sg1 (x : BitVec 64) : BitVec 64 := rr x 19 ^^^ rr x 61 ^^^ x >>> 6
def bg0 (x : BitVec 64) : BitVec 64 := rr x 28 ^^^ rr x 34 ^^^ rr x 39
def bg1 (x : BitVec 64) : BitVec 64 := rr x 14 ^^^ rr x 18 ^^^ rr x 41
/-- The words of a block, the first t of them made: the sixteen first are there. -/
def schTo (w : Nat → BitVec 64) : Nat → Nat → BitVec 64
  | 0 => w
  | t + 1 => fun j => if j = t + 16 then sg1 (schTo w t (t + 14)) + schTo w t (t + 9) + sg0 (schTo w t (t + 1)) + schTo w t t else schTo w t j
/-- The first k bytes of a block, taken into the words. -/
def wdTo (b : Nat → BitVec 8) : Nat → Nat → BitVec 64
  | 0 => fun _ => 0#64
  | k + 1 => fun j => if j = k / 8 then wdTo b k j <<< 8 ||| (b k).setWidth 64 else wdTo b k j
/-- One step of the eight words. -/
def stp (c x : BitVec 64) (v : Nat → BitVec 64) : Nat → BitVec 64 :=
  let t1 := v 7 + bg1 (v 4) + ((v 4 &&& v 5) ^^^ (~~~ (v 4) &&& v 6)) + c + x
  let t2 := bg0 (v 0) + ((v 0 &&& v 1) ^^^ (v 0 &&& v 2) ^^^ (v 1 &&& v 2))
  fun i => if i = 0 then t1 + t2 else if i = 4 then v 3 + t1 else v (i - 1)
def stpTo (K x : Nat → BitVec 64) (v : Nat → BitVec 64) : Nat → Nat → BitVec 64
  | 0 => v
  | t + 1 => stp (K t) (x t) (stpTo K x v t)
/-- The state behind a block. -/
def beh (K : Nat → BitVec 64) (s : Nat → BitVec 64) (b : Nat → BitVec 8) : Nat → BitVec 64 :=
  fun i => s i + stpTo K (schTo (wdTo b 128) 64) s 80 i
end Go.Proofs.Ytkenaccagcdofaa
