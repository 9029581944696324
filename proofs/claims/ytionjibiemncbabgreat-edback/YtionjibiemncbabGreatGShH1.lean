/- Shelf, Base, MN, ShSM, GV, ShK0, ShH1 -/
import Derived.Shelf.Small.Bits
import Derived.Shelf.Strconv.Itoa0
import Derived.Shelf.Bits.Mul64
import Derived.Test.YtionjibiemncbabGreatProg
import Derived.Test.YtionjibiemncbabGreatChecked
import Derived.Shelf.Spec.BitsCarry
import Derived.WalkKit
import Derived.WalkSpells
import Derived.StillTactics
import Derived.Laws.Pointers
import Derived.Laws.Externs
import Derived.Deep.RegionHeld3
import Derived.RowKit3
import Derived.Handy
import Derived.Lib.Mul64
import Derived.Laws.Bits64b
import Derived.BigQuiet
import Derived.Deep.QuietTactic
import Derived.Deep.DeepCutAuto
import Derived.Deep.DeepFit
import Derived.Deep.OwnRows
import Derived.Laws.Rows
import Derived.Laws.Tables
import Derived.Deep.WholeRow
set_option linter.unusedSimpArgs false
set_option linter.unusedVariables false
namespace Go.Proofs
open Go.Shelf
def Tryz.lays134_ren : Go.Shelf.Ren := ⟨fun | 134 => 81 | 129 => 93 | n => n, fun | 53 => 22 | 3 => 3 | 4 => 4 | 46 => 78 | 5 => 5 | 9 => 9 | n => n, fun | n => n⟩
theorem Tryz.lays134 : Go.Proofs.Lays.n134 Tryz.prog Tryz.lays134_ren := {
  mixed := by kernel_rfl
  f129 := Tryz.func93.trans (congrArg some (by kernel_rfl))
  f134 := Tryz.func81.trans (congrArg some (by kernel_rfl))
  t3 := Tryz.underlying3
  a3 := Tryz.isAgg3
  z3 := Tryz.sizeOf3
  v3 := Tryz.zeroValue3
  t4 := Tryz.underlying4
  a4 := Tryz.isAgg4
  z4 := Tryz.sizeOf4
  v4 := Tryz.zeroValue4
  t5 := Tryz.underlying5
  a5 := Tryz.isAgg5
  z5 := Tryz.sizeOf5
  v5 := Tryz.zeroValue5
  t9 := Tryz.underlying9
  a9 := Tryz.isAgg9
  z9 := Tryz.sizeOf9
  v9 := Tryz.zeroValue9
  t46 := Tryz.underlying78
  a46 := Tryz.isAgg78
  z46 := Tryz.sizeOf78
  v46 := Tryz.zeroValue78
  t53 := Tryz.underlying22
  a53 := Tryz.isAgg22
  z53 := Tryz.sizeOf22
  v53 := Tryz.zeroValue22 }
theorem Tryz.bits_LeadingZeros64 (x : Int) (w : World) (h0 : 0 ≤ x) (h1 : x ≤ 18446744073709551615) :
    Calls Tryz.prog 81 #[.int .u64 x] w fun e w' => e = .returned (.int .i64 (64 - (Lib.bitLen x.toNat : Int))) ∧ w' = w := Any.bits_LeadingZeros64 Tryz.lays134 x w h0 h1
def Tryz.lays129_ren : Go.Shelf.Ren := ⟨fun | 129 => 93 | n => n, fun | 53 => 22 | 3 => 3 | 4 => 4 | 46 => 78 | 5 => 5 | 9 => 9 | n => n, fun | n => n⟩
theorem Tryz.lays129 : Go.Proofs.Lays.n129 Tryz.prog Tryz.lays129_ren := {
  mixed := by kernel_rfl
  f129 := Tryz.func93.trans (congrArg some (by kernel_rfl))
  t3 := Tryz.underlying3
  a3 := Tryz.isAgg3
  z3 := Tryz.sizeOf3
  v3 := Tryz.zeroValue3
  t4 := Tryz.underlying4
  a4 := Tryz.isAgg4
  z4 := Tryz.sizeOf4
  v4 := Tryz.zeroValue4
  t5 := Tryz.underlying5
  a5 := Tryz.isAgg5
  z5 := Tryz.sizeOf5
  v5 := Tryz.zeroValue5
  t9 := Tryz.underlying9
  a9 := Tryz.isAgg9
  z9 := Tryz.sizeOf9
  v9 := Tryz.zeroValue9
  t46 := Tryz.underlying78
  a46 := Tryz.isAgg78
  z46 := Tryz.sizeOf78
  v46 := Tryz.zeroValue78
  t53 := Tryz.underlying22
  a53 := Tryz.isAgg22
  z53 := Tryz.sizeOf22
  v53 := Tryz.zeroValue22 }
theorem Tryz.bits_Len64 (x : Int) (w : World) (h0 : 0 ≤ x) (h1 : x ≤ 18446744073709551615) :
    Calls Tryz.prog 93 #[.int .u64 x] w fun e w' => e = .returned (.int .i64 (Lib.bitLen x.toNat)) ∧ w' = w := Any.bits_Len64 Tryz.lays129 x w h0 h1
def Tryz.lays264_ren : Go.Shelf.Ren := ⟨fun | 264 => 67 | n => n, fun | 53 => 22 | 46 => 78 | n => n, fun | n => n⟩
theorem Tryz.lays264 : Go.Proofs.Lays.n264 Tryz.prog Tryz.lays264_ren := {
  mixed := by kernel_rfl
  f264 := Tryz.func67.trans (congrArg some (by kernel_rfl))
  t46 := Tryz.underlying78
  a46 := Tryz.isAgg78
  z46 := Tryz.sizeOf78
  v46 := Tryz.zeroValue78
  t53 := Tryz.underlying22
  a53 := Tryz.isAgg22
  z53 := Tryz.sizeOf22
  v53 := Tryz.zeroValue22 }
open Go.RowKit Go.Lib in
theorem Tryz.bits_Mul64 (x y : Nat) (hx : x < 18446744073709551616) (hy : y < 18446744073709551616) (w : World) :
    Calls Tryz.prog 67 #[.int .u64 x, .int .u64 y] w fun e w' => e = .returned (.tuple #[.int .u64 ((x * y / 18446744073709551616 : Nat) : Int), .int .u64 ((x * y % 18446744073709551616 : Nat) : Int)]) ∧ w' = w := Any.bits_Mul64 Tryz.lays264 x y hx hy w
end Go.Proofs
namespace Go.Proofs.YtionjibiemncbabGreat
open Go.RowKit
theorem add64 (x y c : Int) (hx : 0 ≤ x) (hy : 0 ≤ y) (hc0 : 0 ≤ c) (hc : c ≤ 1) (w : World) : (callFunc 40 #[.int .u64 x, .int .u64 y, .int .u64 c]).run Tryz.prog w =
    .ok (.value (.tuple #[.int .u64 ((x + y + c) % 18446744073709551616), .int .u64 ((x + y + c) / 18446744073709551616)])) w := by
  obtain ⟨x, rfl⟩ := Int.eq_ofNat_of_zero_le hx
  obtain ⟨y, rfl⟩ := Int.eq_ofNat_of_zero_le hy
  obtain ⟨c, rfl⟩ := Int.eq_ofNat_of_zero_le hc0
  rw [run_callFunc_extern Tryz.func40 (by kernel_rfl) (by kernel_rfl) (by kernel_rfl) (e := add64Entry) (by kernel_rfl), run_add64 x y c (by omega) (by omega) (by omega) (by omega)]
  simp only [Result.andThen]
theorem sub64 (x y b : Int) (hx : 0 ≤ x) (hy : 0 ≤ y) (hb0 : 0 ≤ b) (hb : b ≤ 1) (hy' : y < 18446744073709551616) (w : World) : (callFunc 39 #[.int .u64 x, .int .u64 y, .int .u64 b]).run Tryz.prog w =
    .ok (.value (.tuple #[.int .u64 ((x - y - b) % 18446744073709551616), .int .u64 (if x < y + b then 1 else 0)])) w := by
  obtain ⟨x, rfl⟩ := Int.eq_ofNat_of_zero_le hx
  obtain ⟨y, rfl⟩ := Int.eq_ofNat_of_zero_le hy
  obtain ⟨b, rfl⟩ := Int.eq_ofNat_of_zero_le hb0
  have e1 : (((x + 18446744073709551616 - y - b) % 18446744073709551616 : Nat) : Int) = ((x : Int) - y - b) % 18446744073709551616 := by omega
  have e2 : ((if x < y + b then 1 else 0 : Nat) : Int) = if (x : Int) < y + b then 1 else 0 := by split <;> split <;> omega
  rw [← e1, ← e2, run_callFunc_extern Tryz.func39 (by kernel_rfl) (by kernel_rfl) (by kernel_rfl) (e := sub64Entry) (by kernel_rfl), run_sub64 x y b (by omega)]
  rfl
def Limb (x : Int) : Prop := 0 ≤ x ∧ x < 18446744073709551616
def L4 (a0 a1 a2 a3 : Int) : Prop := Limb a0 ∧ Limb a1 ∧ Limb a2 ∧ Limb a3
def num (a0 a1 a2 a3 : Int) : Int := a0 + 18446744073709551616 * a1 + 340282366920938463463374607431768211456 * a2 + 6277101735386680763835789423207666416102355444464034512896 * a3
abbrev W4 (a0 a1 a2 a3 : Int) : Value := .agg #[.int .u64 a0, .int .u64 a1, .int .u64 a2, .int .u64 a3]
def T256 : Int := 115792089237316195423570985008687907853269984665640564039457584007913129639936
theorem num_bd {a0 a1 a2 a3 : Int} (h : L4 a0 a1 a2 a3) : 0 ≤ num a0 a1 a2 a3 ∧ num a0 a1 a2 a3 < T256 := by
  obtain ⟨⟨_, _⟩, ⟨_, _⟩, ⟨_, _⟩, ⟨_, _⟩⟩ := h
  unfold num T256; omega
theorem num_inj {a0 a1 a2 a3 b0 b1 b2 b3 : Int} (h : L4 a0 a1 a2 a3) (k : L4 b0 b1 b2 b3) (e : num a0 a1 a2 a3 = num b0 b1 b2 b3) : a0 = b0 ∧ a1 = b1 ∧ a2 = b2 ∧ a3 = b3 := by
  obtain ⟨⟨_, _⟩, ⟨_, _⟩, ⟨_, _⟩, ⟨_, _⟩⟩ := h
  obtain ⟨⟨_, _⟩, ⟨_, _⟩, ⟨_, _⟩, ⟨_, _⟩⟩ := k
  unfold num at e; omega
theorem bcell {W w1 : World} (hb : Below W.heap.size W w1) : (∀ b o, b < W.heap.size → w1.cell? ⟨b, o, none⟩ = W.cell? ⟨b, o, none⟩) ∧ (∀ b o, b < W.heap.size → w1.frozen? ⟨b, o, none⟩ = W.frozen? ⟨b, o, none⟩) :=
  ⟨fun b o h => hb.cell (p := ⟨b, o, none⟩) h, fun b o h => hb.frozen (p := ⟨b, o, none⟩) h⟩
theorem add64_ex (x y c : Int) (hx : Limb x) (hy : Limb y) (hc0 : 0 ≤ c) (hc : c ≤ 1) : ∃ s d : Int,
    (∀ w, (callFunc 40 #[.int .u64 x, .int .u64 y, .int .u64 c]).run Tryz.prog w = .ok (.value (.tuple #[.int .u64 s, .int .u64 d])) w) ∧ Limb s ∧ 0 ≤ d ∧ d ≤ 1 ∧ Hid (x + y + c = s + 18446744073709551616 * d) :=
  ⟨_, _, add64 x y c hx.1 hy.1 hc0 hc, ⟨by omega, by omega⟩, by have := hx.1; have := hy.1; omega, by have := hx.2; have := hy.2; omega, by show x + y + c = _; omega⟩
theorem sub64_ex (x y c : Int) (hx : Limb x) (hy : Limb y) (hc0 : 0 ≤ c) (hc : c ≤ 1) : ∃ s d : Int,
    (∀ w, (callFunc 39 #[.int .u64 x, .int .u64 y, .int .u64 c]).run Tryz.prog w = .ok (.value (.tuple #[.int .u64 s, .int .u64 d])) w) ∧ Limb s ∧ 0 ≤ d ∧ d ≤ 1 ∧ Hid (x - y - c = s - 18446744073709551616 * d) := by
  obtain ⟨hx0, hx1⟩ := hx
  obtain ⟨hy0, hy1⟩ := hy
  refine ⟨_, _, sub64 x y c hx0 hy0 hc0 hc hy1, ⟨by omega, by omega⟩, by split <;> omega, by split <;> omega, ?_⟩
  show x - y - c = _
  split <;> omega
theorem mul64_any (x y : Int) (hx : Limb x) (hy : Limb y) (w : World) :
    Calls Tryz.prog 67 #[.int .u64 x, .int .u64 y] w fun e w' => ∃ h l : Int, e = .returned (.tuple #[.int .u64 h, .int .u64 l]) ∧ Limb l ∧ (0 ≤ h ∧ h ≤ 18446744073709551614) ∧ Hid (x * y = l + 18446744073709551616 * h) ∧ w' = w := by
  obtain ⟨hx0, hx1⟩ := hx
  obtain ⟨hy0, hy1⟩ := hy
  obtain ⟨x, rfl⟩ := Int.eq_ofNat_of_zero_le hx0
  obtain ⟨y, rfl⟩ := Int.eq_ofNat_of_zero_le hy0
  refine (Tryz.bits_Mul64 x y (by omega) (by omega) w).mono ?_
  rintro e w' ⟨rfl, rfl⟩
  have hb : x * y ≤ 18446744073709551615 * 18446744073709551615 := Nat.mul_le_mul (by omega) (by omega)
  refine ⟨_, _, rfl, ⟨by omega, by omega⟩, ⟨by omega, by omega⟩, ?_, rfl⟩
  show (x : Int) * (y : Int) = _
  rw [← Int.natCast_mul]
  omega
end Go.Proofs.YtionjibiemncbabGreat
namespace Go.Proofs.YtionjibiemncbabGreat
open Go.RowKit
theorem sm : (∀ (xs : List Oper) (i : Nat) (h : i < xs.toArray.size), xs.toArray[i] = xs[i]'(by simpa using h)) ∧ (∀ (a : Oper) (ls : List Oper) (i : Nat) (h : i + 1 < (a :: ls).length), (a :: ls)[i + 1] = ls[i]'(by simpa using h)) ∧ (∀ (a : Oper) (ls : List Oper) (h : 0 < (a :: ls).length), (a :: ls)[0] = a) ∧
    (∀ (a : Act) (v : Value), a.put none v = a) ∧ (∀ (a : Act) (d : Tmp) (v : Value), a.put (some d) v = { tmps := a.tmps.setIfInBounds d v, defers := a.defers }) ∧ (∀ (xs : List Value) (i : Nat) (v : Value), xs.toArray.setIfInBounds i v = (xs.set i v).toArray) ∧ (∀ (a v : Value) (ls : List Value), (a :: ls).set 0 v = v :: ls) ∧ (∀ (a v : Value) (ls : List Value) (i : Nat), (a :: ls).set (i + 1) v = a :: ls.set i v) :=
  ⟨fun xs i h => by simp, fun a ls i h => by simp, fun a ls h => rfl, fun a v => rfl, fun a d v => rfl, fun xs i v => by simp, fun a v ls => rfl, fun a v ls i => rfl⟩
theorem tk {P : Program} {ops : Array Oper} {Q : Exit → Act → World → Prop} {md : Region.Mode} {S : World → Prop} {oi : Oper} {fuel : Nat} {listed : Array Bool} {a : Act} {w : World} (i : Nat) (v : Value)
    (hy : ∀ w, S w → (execOp a.eval oi).run P w = .ok (.value v) w) (hS : S w) (h : wpAnyH P md ops Q S fuel (listed.setIfInBounds i true) (a.put oi.dst v) w)
    (h1 : ops[i]? = some oi := by rfl) (h2 : Region.noSelect ops = true := by kernel_rfl) (h3 : Region.free md ops listed i = true := by kernel_rfl) (h4 : (Region.ready md ops listed).contains i = true := by kernel_rfl)
    (hq : ∀ (c : List PanicEntry) (a : Act) (w : World), Q (Exit.panic c) (a.put oi.dst v) w → Q (Exit.panic c) a w := by exact fun _ _ _ h => h) (hw : Region.wanted oi (yielded ops a.tmps) = true := by rfl) : wpAnyH P md ops Q S (fuel + 1) listed a w :=
  wpAnyH_take h1 h2 h3 h4 hq (Or.inl ⟨hw, hy⟩) hS h
theorem rd {P : Program} {ops : Array Oper} {Q : Exit → Act → World → Prop} {md : Region.Mode} {S : World → Prop} {o : Oper} {fuel : Nat} {listed : Array Bool} {a : Act} {w : World} (i : Nat)
    (h : ∀ (K' : Act → World → Prop), Shut (∀ (a : Act) (w : World), S w → (S w → wpAnyH P md ops Q S fuel (listed.setIfInBounds i true) a w) → K' a w) → if Region.wanted o (yielded ops a.tmps) = true then Oper.wp P o a w K' Q else K' (a.put o.dst undef) w)
    (ho : ops[i]? = some o := by rfl) (hr : Region.ready md ops listed = [i] := by kernel_rfl) : wpAnyH P md ops Q S (fuel + 1) listed a w :=
  wpAnyH_ready hr (by simp) (AllReadyH.cons ho h AllReadyH.nil)
theorem ws {P : Program} {ops : Array Oper} {Q : Exit → Act → World → Prop} {i : Nat} {o : Oper} {K : Act → World → Prop} {a : Act} {w : World}
    (h : ∀ K' : Act → World → Prop, Hid (∀ a w, K a w → K' a w) → if Region.wanted o (yielded ops a.tmps) = true then Oper.wp P o a w K' Q else K' (a.put o.dst undef) w) (ho : ops[i]? = some o := by rfl) : wpOp P ops Q i K a w :=
  wpOp_step ho h
end Go.Proofs.YtionjibiemncbabGreat
namespace Go.Proofs.YtionjibiemncbabGreat.Sha
theorem choose_eq (x y z : BitVec 64) : (x &&& y ||| z &&& ~~~ x) = (x &&& y) ^^^ (~~~ x &&& z) := by
  apply BitVec.eq_of_getElem_eq
  intro i hi
  simp only [BitVec.getElem_or, BitVec.getElem_and, BitVec.getElem_xor, BitVec.getElem_not]
  cases x[i] <;> cases y[i] <;> cases z[i] <;> rfl
theorem majority_eq (x y z : BitVec 64) : (x &&& y ||| x &&& z ||| y &&& z) = (x &&& y) ^^^ (x &&& z) ^^^ (y &&& z) := by
  apply BitVec.eq_of_getElem_eq
  intro i hi
  simp only [BitVec.getElem_or, BitVec.getElem_and, BitVec.getElem_xor]
  cases x[i] <;> cases y[i] <;> cases z[i] <;> rfl
def rr (x : BitVec 64) (n : Nat) : BitVec 64 := x >>> n ||| x <<< (64 - n)
theorem rr_left (x : BitVec 64) (n : Nat) (h0 : 0 < n) (h : n < 64) : x.rotateLeft (64 - n) = rr x n := by
  rw [BitVec.rotateLeft_def, Nat.mod_eq_of_lt (by omega), show 64 - (64 - n) = n from by omega]
  unfold rr
  exact BitVec.or_comm _ _
def sg0 (x : BitVec 64) : BitVec 64 := rr x 1 ^^^ rr x 8 ^^^ x >>> 7
def sg1 (x : BitVec 64) : BitVec 64 := rr x 19 ^^^ rr x 61 ^^^ x >>> 6
def bg0 (x : BitVec 64) : BitVec 64 := rr x 28 ^^^ rr x 34 ^^^ rr x 39
def bg1 (x : BitVec 64) : BitVec 64 := rr x 14 ^^^ rr x 18 ^^^ rr x 41
def schTo (w : Nat → BitVec 64) : Nat → Nat → BitVec 64
  | 0 => w
  | t + 1 => fun j => if j = t + 16 then sg1 (schTo w t (t + 14)) + schTo w t (t + 9) + sg0 (schTo w t (t + 1)) + schTo w t t else schTo w t j
def wdTo (b : Nat → BitVec 8) : Nat → Nat → BitVec 64
  | 0 => fun _ => 0#64
  | k + 1 => fun j => if j = k / 8 then wdTo b k j <<< 8 ||| (b k).setWidth 64 else wdTo b k j
def stp (c x : BitVec 64) (v : Nat → BitVec 64) : Nat → BitVec 64 :=
  let t1 := v 7 + bg1 (v 4) + ((v 4 &&& v 5) ^^^ (~~~ (v 4) &&& v 6)) + c + x
  let t2 := bg0 (v 0) + ((v 0 &&& v 1) ^^^ (v 0 &&& v 2) ^^^ (v 1 &&& v 2))
  fun i => if i = 0 then t1 + t2 else if i = 4 then v 3 + t1 else v (i - 1)
def stpTo (K x : Nat → BitVec 64) (v : Nat → BitVec 64) : Nat → Nat → BitVec 64
  | 0 => v
  | t + 1 => stp (K t) (x t) (stpTo K x v t)
def beh (K : Nat → BitVec 64) (s : Nat → BitVec 64) (b : Nat → BitVec 8) : Nat → BitVec 64 :=
  fun i => s i + stpTo K (schTo (wdTo b 128) 64) s 80 i
end Go.Proofs.YtionjibiemncbabGreat.Sha
namespace Go.Proofs.YtionjibiemncbabGreat
open Go.RowKit
def vec (n : Nat) (f : Nat → Value) : Array Value := ((List.range n).map f).toArray
@[simp] theorem size_vec (n : Nat) (f : Nat → Value) : (vec n f).size = n := by simp [vec]
theorem get_vec (n : Nat) (f : Nat → Value) (i : Nat) (h : i < n) : (vec n f)[i]? = some (f i) := by
  simp [vec, h]
theorem vec_eq {n : Nat} {f : Nat → Value} {c : Array Value} (hs : c.size = n) (h : ∀ i, i < n → c[i]? = some (f i)) : c = vec n f := by
  apply Array.ext
  · simp [hs]
  · intro i h1 h2
    have a := h i (by omega)
    have b := get_vec n f i (by omega)
    rw [Array.getElem?_eq_getElem h1] at a
    rw [Array.getElem?_eq_getElem h2] at b
    exact Option.some.inj (a.trans b.symm)
theorem vec_congr {n : Nat} {f g : Nat → Value} (h : ∀ i, i < n → f i = g i) : vec n f = vec n g :=
  vec_eq (by simp) (fun i hi => by rw [get_vec n f i hi, h i hi])
theorem row_heap {w : World} {b : Nat} {t : TypeId} {n : Nat} {f : Nat → Value} (h : w.rowIs b t n f) : w.heap[b]? = some (.cells (vec n f) t (0, 0)) := by
  obtain ⟨cs, h1, h2, h3⟩ := h
  rw [h1, vec_eq h2 h3]
theorem heap_row {w : World} {b : Nat} {t : TypeId} {n : Nat} {f : Nat → Value} (h : w.heap[b]? = some (.cells (vec n f) t (0, 0))) : w.rowIs b t n f :=
  ⟨_, h, by simp, fun i hi => get_vec n f i hi⟩
end Go.Proofs.YtionjibiemncbabGreat
namespace Go.Proofs.YtionjibiemncbabGreat.Sha
open Go.RowKit
def I (x : BitVec 64) : Int := (x.toNat : Int)
theorem I_bd (x : BitVec 64) : 0 ≤ I x ∧ I x < 18446744073709551616 := by
  unfold I; have := x.isLt; omega
theorem I_wrap (x : BitVec 64) : IntKind.u64.wrap (I x) = I x := by
  rw [IntKind.wrap_u64]; have := I_bd x; omega
theorem ofInt_I (x : BitVec 64) : BitVec.ofInt 64 (I x) = x := by
  unfold I; rw [BitVec.ofInt_natCast, BitVec.ofNat_toNat, BitVec.setWidth_eq]
theorem bx (a b : BitVec 64) : bits .xor .u64 (I a) (I b) = I (a ^^^ b) := by
  have h : bits .xor .u64 (I a) (I b) = IntKind.u64.wrap (((BitVec.ofInt 64 (I a)) ^^^ (BitVec.ofInt 64 (I b))).toNat : Int) := rfl
  rw [h, ofInt_I, ofInt_I]; exact I_wrap _
theorem ba (a b : BitVec 64) : bits .and .u64 (I a) (I b) = I (a &&& b) := by
  have h : bits .and .u64 (I a) (I b) = IntKind.u64.wrap (((BitVec.ofInt 64 (I a)) &&& (BitVec.ofInt 64 (I b))).toNat : Int) := rfl
  rw [h, ofInt_I, ofInt_I]; exact I_wrap _
theorem bo (a b : BitVec 64) : bits .or .u64 (I a) (I b) = I (a ||| b) := by
  have h : bits .or .u64 (I a) (I b) = IntKind.u64.wrap (((BitVec.ofInt 64 (I a)) ||| (BitVec.ofInt 64 (I b))).toNat : Int) := rfl
  rw [h, ofInt_I, ofInt_I]; exact I_wrap _
theorem bn (a b : BitVec 64) : bits .andNot .u64 (I a) (I b) = I (a &&& ~~~b) := by
  have h : bits .andNot .u64 (I a) (I b) = IntKind.u64.wrap (((BitVec.ofInt 64 (I a)) &&& ~~~(BitVec.ofInt 64 (I b))).toNat : Int) := rfl
  rw [h, ofInt_I, ofInt_I]; exact I_wrap _
theorem I_shl (x : BitVec 64) (r : Nat) : IntKind.u64.wrap (I x * 2 ^ r) = I (x <<< r) := by
  rw [IntKind.wrap_u64]
  unfold I
  rw [BitVec.toNat_shiftLeft, Nat.shiftLeft_eq]
  have : ((x.toNat : Int) * 2 ^ r) = ((x.toNat * 2 ^ r : Nat) : Int) := by simp
  rw [this]
  have e : (2 : Nat) ^ 64 = 18446744073709551616 := by decide
  rw [e]
  omega
theorem I_shr (x : BitVec 64) (r : Nat) : I x / 2 ^ r = I (x >>> r) := by
  unfold I
  rw [BitVec.toNat_ushiftRight, Nat.shiftRight_eq_div_pow]
  simp
theorem I_rot (x : BitVec 64) (r : Int) (h0 : 0 ≤ r) (h1 : r < 64) :
    bits .or .u64 (IntKind.u64.wrap (I x * 2 ^ r.toNat)) (I x / 2 ^ (64 - r).toNat) = I (x.rotateLeft r.toNat) := by
  rw [I_shl, I_shr, bo, BitVec.rotateLeft_def, show r.toNat % 64 = r.toNat from by omega, show (64 - r).toNat = 64 - r.toNat from by omega]
theorem low6 (k : Int) : bits .and .u64 (IntKind.u64.wrap k) 63 = k % 64 := by
  rw [IntKind.wrap_u64]
  have h := u64_and (k % 18446744073709551616) 63 (by omega) (by omega) (by decide) (by decide)
  rw [h]
  have e : (63 : Int).toNat = 63 := rfl
  rw [e, nat_mask6]
  omega
abbrev lan (S : Nat → BitVec 64) : Nat → Value := fun j => .int .u64 (I (S j))
theorem one_lan (n : Nat) (S : Nat → BitVec 64) : (vec n (lan S)).all (·.oneCell') = true := by
  rw [Array.all_eq_true]
  intro i hi
  simp [vec, Value.oneCell']
end Go.Proofs.YtionjibiemncbabGreat.Sha
namespace Go.Proofs.YtionjibiemncbabGreat.Sha
open Go.RowKit
set_option maxHeartbeats 400000 in
theorem rotl_any (x : BitVec 64) (k : Int) (w : World) :
    Calls Tryz.prog 108 #[.int .u64 (I x), .int .i64 k] w fun e w' => e = .returned (.int .u64 (I (x.rotateLeft (k % 64).toNat))) ∧ w' = w := by
  obtain ⟨r, hr⟩ : ∃ r, r = k % 64 := ⟨_, rfl⟩
  have h0 : 0 ≤ r := by omega
  have h1 : r < 64 := by omega
  have hl := low6 k
  rw [← hr] at hl ⊢
  have HR := I_rot x r h0 h1
  have H : Hid _ := HR
  clear HR hr
  go_enter Tryz.func108, Tryz.ntmps108
  go_wp2
  go_ret
  rw [H.out]
  exact ⟨rfl, rfl⟩
set_option maxHeartbeats 400000 in
theorem turn_any (x : BitVec 64) (n : Nat) (h0 : 0 < n) (h : n < 64) (w : World) :
    Calls Tryz.prog 107 #[.int .u64 (I x), .int .i64 (n : Int)] w fun e w' => e = .returned (.int .u64 (I (rr x n))) ∧ w' = w := by
  have he : x.rotateLeft ((-(n : Int)) % 64).toNat = rr x n := by
    rw [show ((-(n : Int)) % 64).toNat = 64 - n from by omega, rr_left x n h0 h]
  have HE : Hid _ := he
  clear he
  go_enter Tryz.func107, Tryz.ntmps107
  go_wp2_with (go_at_call 108; refine (rotl_any _ _ _).mono ?_; rintro e w' ⟨rfl, rfl⟩)
  go_ret
  rw [HE.out]
  exact ⟨rfl, rfl⟩
set_option maxHeartbeats 800000 in
theorem sg0_any (x : BitVec 64) (w : World) :
    Calls Tryz.prog 106 #[.int .u64 (I x)] w fun e w' => e = .returned (.int .u64 (I (sg0 x))) ∧ w' = w := by
  have e1 := bx (rr x 1) (rr x 8)
  have e3 : I x / (128 : Int) = I (x >>> 7) := by rw [← I_shr]; rfl
  have e2 := bx (rr x 1 ^^^ rr x 8) (x >>> 7)
  go_enter Tryz.func106, Tryz.ntmps106
  go_wp2_with fail
  refine (turn_any x 1 (by decide) (by decide) _).mono ?_
  rintro e w' ⟨rfl, hw⟩
  obtain rfl := hw.symm
  go_wp2_with fail
  refine (turn_any x 8 (by decide) (by decide) _).mono ?_
  rintro e w' ⟨rfl, hw⟩
  obtain rfl := hw.symm
  go_wp2
  go_ret
  exact ⟨rfl, rfl⟩
set_option maxHeartbeats 800000 in
theorem sg1_any (x : BitVec 64) (w : World) :
    Calls Tryz.prog 105 #[.int .u64 (I x)] w fun e w' => e = .returned (.int .u64 (I (sg1 x))) ∧ w' = w := by
  have e1 := bx (rr x 19) (rr x 61)
  have e3 : I x / (64 : Int) = I (x >>> 6) := by rw [← I_shr]; rfl
  have e2 := bx (rr x 19 ^^^ rr x 61) (x >>> 6)
  go_enter Tryz.func105, Tryz.ntmps105
  go_wp2_with fail
  refine (turn_any x 19 (by decide) (by decide) _).mono ?_
  rintro e w' ⟨rfl, hw⟩
  obtain rfl := hw.symm
  go_wp2_with fail
  refine (turn_any x 61 (by decide) (by decide) _).mono ?_
  rintro e w' ⟨rfl, hw⟩
  obtain rfl := hw.symm
  go_wp2
  go_ret
  exact ⟨rfl, rfl⟩
set_option maxHeartbeats 800000 in
theorem bg0_any (x : BitVec 64) (w : World) :
    Calls Tryz.prog 101 #[.int .u64 (I x)] w fun e w' => e = .returned (.int .u64 (I (bg0 x))) ∧ w' = w := by
  have e1 := bx (rr x 28) (rr x 34)
  have e2 := bx (rr x 28 ^^^ rr x 34) (rr x 39)
  go_enter Tryz.func101, Tryz.ntmps101
  go_wp2_with fail
  refine (turn_any x 28 (by decide) (by decide) _).mono ?_
  rintro e w' ⟨rfl, hw⟩
  obtain rfl := hw.symm
  go_wp2_with fail
  refine (turn_any x 34 (by decide) (by decide) _).mono ?_
  rintro e w' ⟨rfl, hw⟩
  obtain rfl := hw.symm
  go_wp2_with fail
  refine (turn_any x 39 (by decide) (by decide) _).mono ?_
  rintro e w' ⟨rfl, hw⟩
  obtain rfl := hw.symm
  go_wp2
  go_ret
  exact ⟨rfl, rfl⟩
set_option maxHeartbeats 800000 in
theorem bg1_any (x : BitVec 64) (w : World) :
    Calls Tryz.prog 99 #[.int .u64 (I x)] w fun e w' => e = .returned (.int .u64 (I (bg1 x))) ∧ w' = w := by
  have e1 := bx (rr x 14) (rr x 18)
  have e2 := bx (rr x 14 ^^^ rr x 18) (rr x 41)
  go_enter Tryz.func99, Tryz.ntmps99
  go_wp2_with fail
  refine (turn_any x 14 (by decide) (by decide) _).mono ?_
  rintro e w' ⟨rfl, hw⟩
  obtain rfl := hw.symm
  go_wp2_with fail
  refine (turn_any x 18 (by decide) (by decide) _).mono ?_
  rintro e w' ⟨rfl, hw⟩
  obtain rfl := hw.symm
  go_wp2_with fail
  refine (turn_any x 41 (by decide) (by decide) _).mono ?_
  rintro e w' ⟨rfl, hw⟩
  obtain rfl := hw.symm
  go_wp2
  go_ret
  exact ⟨rfl, rfl⟩
set_option maxHeartbeats 400000 in
theorem choose_any (x y z : BitVec 64) (w : World) :
    Calls Tryz.prog 100 #[.int .u64 (I x), .int .u64 (I y), .int .u64 (I z)] w fun e w' => e = .returned (.int .u64 (I ((x &&& y) ^^^ (~~~ x &&& z)))) ∧ w' = w := by
  go_enter Tryz.func100, Tryz.ntmps100
  go_wp2
  go_ret
  rw [ba, bn, bo, choose_eq]
  exact ⟨rfl, rfl⟩
set_option maxHeartbeats 400000 in
theorem majority_any (x y z : BitVec 64) (w : World) :
    Calls Tryz.prog 102 #[.int .u64 (I x), .int .u64 (I y), .int .u64 (I z)] w fun e w' => e = .returned (.int .u64 (I ((x &&& y) ^^^ (x &&& z) ^^^ (y &&& z)))) ∧ w' = w := by
  go_enter Tryz.func102, Tryz.ntmps102
  go_wp2
  go_ret
  rw [ba, ba, ba, bo, bo, majority_eq]
  exact ⟨rfl, rfl⟩
end Go.Proofs.YtionjibiemncbabGreat.Sha
