/- Lanes of 64 bits as the model's numbers: what its operations on bits are, on BitVec. -/
import Derived.Test.YtkenaccagcdofaaChecked
import Derived.Test.YtkenaccagcdofaaSM
import Derived.WalkKit
import Derived.WalkSpells
import Derived.StillTactics
import Derived.Laws.Pointers
import Derived.Deep.RegionHeld3
import Derived.RowKit3
import Derived.Handy
import Derived.BigQuiet
import Derived.Deep.QuietTactic
import Derived.Deep.DeepCutAuto
import Derived.Deep.DeepFit
import Derived.Deep.OwnRows
import Derived.Laws.Rows
import Derived.Laws.Tables
namespace Go.Proofs.Ytkenaccagcdofaa
open Go.RowKit

/-- A lane as a number. -/
def I (x : BitVec 64) : Int := (x.toNat : Int)
theorem I_bd (x : BitVec 64) : 0 ≤ I x ∧ I x < 18446744073709551616 := by
  unfold I; have := x.isLt; omega
theorem I_inj {x y : BitVec 64} (h : I x = I y) : x = y := by
  unfold I at h; exact BitVec.eq_of_toNat_eq (by omega)
theorem I_wrap (x : BitVec 64) : IntKind.u64.wrap (I x) = I x := by
  rw [IntKind.wrap_u64]; have := I_bd x; omega
theorem ofInt_I (x : BitVec 64) : BitVec.ofInt 64 (I x) = x := by
  unfold I; rw [BitVec.ofInt_natCast, BitVec.ofNat_toNat, BitVec.setWidth_eq]
theorem bx (a b : BitVec 64) : bits .xor .u64 (I a) (I b) = I (a ^^^ b) := by
  have h : bits .xor .u64 (I a) (I b) = IntKind.u64.wrap (((BitVec.ofInt 64 (I a)) ^^^ (BitVec.ofInt 64 (I b))).toNat : Int) := rfl
  rw [h, ofInt_I, ofInt_I]; exact I_wrap _
theorem ba (a b : BitVec 64) : bits .and .u64 (I a) (I b) = I (a &&& b) := by
  have h : bits .and .u64 (I a) (I b) = IntKind.u64.wrap (((BitVec.ofInt 64 (I a)) &&& (BitVec.ofInt 64 (I b))).toNat : Int) := rfl
  rw [h, ofInt_I, ofInt_I]; exact I_wrap _
theorem bo (a b : BitVec 64) : bits .or .u64 (I a) (I b) = I (a ||| b) := by
  have h : bits .or .u64 (I a) (I b) = IntKind.u64.wrap (((BitVec.ofInt 64 (I a)) ||| (BitVec.ofInt 64 (I b))).toNat : Int) := rfl
  rw [h, ofInt_I, ofInt_I]; exact I_wrap _
theorem bn (a b : BitVec 64) : bits .andNot .u64 (I a) (I b) = I (a &&& ~~~b) := by
  have h : bits .andNot .u64 (I a) (I b) = IntKind.u64.wrap (((BitVec.ofInt 64 (I a)) &&& ~~~(BitVec.ofInt 64 (I b))).toNat : Int) := rfl
  rw [h, ofInt_I, ofInt_I]; exact I_wrap _
theorem I_shl (x : BitVec 64) (r : Nat) : IntKind.u64.wrap (I x * 2 ^ r) = I (x <<< r) := by
  rw [IntKind.wrap_u64]
  unfold I
  rw [BitVec.toNat_shiftLeft, Nat.shiftLeft_eq]
  have : ((x.toNat : Int) * 2 ^ r) = ((x.toNat * 2 ^ r : Nat) : Int) := by simp
  rw [this]
  have e : (2 : Nat) ^ 64 = 18446744073709551616 := by decide
  rw [e]
  omega
theorem I_shr (x : BitVec 64) (r : Nat) : I x / 2 ^ r = I (x >>> r) := by
  unfold I
  rw [BitVec.toNat_ushiftRight, Nat.shiftRight_eq_div_pow]
  simp
theorem I_rot (x : BitVec 64) (r : Int) (h0 : 0 ≤ r) (h1 : r < 64) :
    bits .or .u64 (IntKind.u64.wrap (I x * 2 ^ r.toNat)) (I x / 2 ^ (64 - r).toNat) = I (x.rotateLeft r.toNat) := by
  rw [I_shl, I_shr, bo, BitVec.rotateLeft_def, show r.toNat % 64 = r.toNat from by omega, show (64 - r).toNat = 64 - r.toNat from by omega]
theorem low6 (k : Int) : bits .and .u64 (IntKind.u64.wrap k) 63 = k % 64 := by
  rw [IntKind.wrap_u64]
  have h := u64_and (k % 18446744073709551616) 63 (by omega) (by omega) (by decide) (by decide)
  rw [h]
  have e : (63 : Int).toNat = 63 := rfl
  rw [e, nat_mask6]
  omega

/-- The cells of a row. -/
def vec (n : Nat) (f : Nat → Value) : Array Value := ((List.range n).map f).toArray
@[simp] theorem size_vec (n : Nat) (f : Nat → Value) : (vec n f).size = n := by simp [vec]
theorem get_vec (n : Nat) (f : Nat → Value) (i : Nat) (h : i < n) : (vec n f)[i]? = some (f i) := by
  simp [vec, h]
theorem vec_eq {n : Nat} {f : Nat → Value} {c : Array Value} (hs : c.size = n) (h : ∀ i, i < n → c[i]? = some (f i)) : c = vec n f := by
  apply Array.ext_getElem?
  intro i
  by_cases hi : i < n
  · rw [h i hi, get_vec n f i hi]
  · rw [Array.getElem?_eq_none (by omega), Array.getElem?_eq_none (by simp; omega)]
theorem vec_congr {n : Nat} {f g : Nat → Value} (h : ∀ i, i < n → f i = g i) : vec n f = vec n g :=
  vec_eq (by simp) (fun i hi => by rw [get_vec n f i hi, h i hi])
theorem row_heap {w : World} {b : Nat} {t : TypeId} {n : Nat} {f : Nat → Value} (h : w.rowIs b t n f) : w.heap[b]? = some (.cells (vec n f) t (0, 0)) := by
  obtain ⟨c, hb, hs, hc⟩ := h
  rw [hb, vec_eq hs hc]
theorem heap_row {w : World} {b : Nat} {t : TypeId} {n : Nat} {f : Nat → Value} (h : w.heap[b]? = some (.cells (vec n f) t (0, 0))) : w.rowIs b t n f :=
  ⟨vec n f, h, by simp, fun i hi => get_vec n f i hi⟩
/-- Numbers as cells: lanes, bytes. -/
abbrev lan (S : Nat → BitVec 64) : Nat → Value := fun j => .int .u64 (I (S j))
theorem one_lan (n : Nat) (S : Nat → BitVec 64) : (vec n (lan S)).all (·.oneCell') = true := by
  rw [Array.all_eq_true]
  intro i hi
  simp [vec, Value.oneCell']
end Go.Proofs.Ytkenaccagcdofaa
