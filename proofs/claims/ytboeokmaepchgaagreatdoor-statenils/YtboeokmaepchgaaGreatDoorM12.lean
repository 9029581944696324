/- KcKM, KcK0, KcK1, KcK2, KcK3, KcK4, laid into one text. -/
import Derived.Test.YtboeokmaepchgaaGreatDoorChecked
import Derived.WalkKit
import Derived.WalkSpells
import Derived.StillTactics
import Derived.Laws.Pointers
import Derived.Deep.RegionHeld3
import Derived.RowKit3
import Derived.Handy
import Derived.BigQuiet
import Derived.Deep.QuietTactic
import Derived.Deep.DeepCutAuto
import Derived.Deep.DeepFit
import Derived.Deep.OwnRows
import Derived.Laws.Rows
import Derived.Laws.Tables
/- The permutation of 25 lanes can be undone: theta, rho and pi, chi, iota, the rounds. Plain arithmetic of 64 bits: no Go in sight. Builds alone (3 s). -/
namespace Go.Proofs.YtboeokmaepchgaaGreatDoor.Kc
/-- chi of one row. -/
def chi (a b c : BitVec 64) : BitVec 64 := a ^^^ (c &&& ~~~b)
/-- The sums of the columns. -/
def sums (S : Nat → BitVec 64) (x : Nat) : BitVec 64 := S x ^^^ S (x + 5) ^^^ S (x + 10) ^^^ S (x + 15) ^^^ S (x + 20)
/-- What theta adds to the column x. -/
def dif (c : Nat → BitVec 64) (x : Nat) : BitVec 64 := c ((x + 4) % 5) ^^^ (c ((x + 1) % 5)).rotateLeft 1
def spread (S c : Nat → BitVec 64) (j : Nat) : BitVec 64 := S j ^^^ dif c (j % 5)
def theta (S : Nat → BitVec 64) : Nat → BitVec 64 := spread S (sums S)
theorem dif_congr {c d : Nat → BitVec 64} (h : ∀ x, x < 5 → c x = d x) (x : Nat) : dif c x = dif d x := by
  unfold dif
  rw [h _ (Nat.mod_lt _ (by decide)), h _ (Nat.mod_lt _ (by decide))]
/-- The path of rho and pi. -/
def path (t : Nat) : Nat := [1, 10, 7, 11, 17, 18, 3, 5, 16, 8, 21, 24, 4, 15, 23, 19, 13, 12, 2, 20, 14, 22, 9, 6, 1].getD t 0
/-- The place of a lane on the path, from the second on. -/
def pos (j : Nat) : Nat := [0, 24, 18, 6, 12, 7, 23, 2, 9, 22, 1, 3, 17, 16, 20, 13, 8, 4, 5, 15, 19, 10, 21, 14, 11].getD j 0
/-- rho's offset at the path's step t. -/
def turn (t : Nat) : Nat := (t + 1) * (t + 2) / 2
/-- rho and pi, up to the path's step k. -/
def walkTo (S : Nat → BitVec 64) (k j : Nat) : BitVec 64 := if j ≠ 0 ∧ pos j ≤ k then (S (path (pos j - 1))).rotateLeft (turn (pos j - 1) % 64) else S j
def walk (S : Nat → BitVec 64) (j : Nat) : BitVec 64 := walkTo S 24 j
theorem pos_path : ∀ t : Fin 24, pos (path (t.val + 1)) = t.val + 1 ∧ path (t.val + 1) ≠ 0 ∧ path (t.val + 1) < 25 := by decide
theorem path_pos : ∀ j : Fin 25, j.val ≠ 0 → path (pos j.val) = j.val ∧ 1 ≤ pos j.val ∧ pos j.val ≤ 24 := by decide
theorem rot_mod (a : BitVec 64) (n : Nat) : a.rotateLeft (n % 64) = a.rotateLeft n := by
  ext i hi
  simp only [BitVec.getElem_rotateLeft, Nat.mod_mod]
/-- chi. -/
def mix (S : Nat → BitVec 64) (j : Nat) : BitVec 64 := S j ^^^ (S (j / 5 * 5 + (j % 5 + 2) % 5) &&& ~~~ S (j / 5 * 5 + (j % 5 + 1) % 5))
/-- The same lanes. -/
def Same (S R : Nat → BitVec 64) : Prop := ∀ j, j < 25 → S j = R j
theorem sums_same {S R : Nat → BitVec 64} (h : Same S R) (x : Nat) (hx : x < 5) : sums S x = sums R x := by
  unfold sums
  rw [h x (by omega), h (x + 5) (by omega), h (x + 10) (by omega), h (x + 15) (by omega), h (x + 20) (by omega)]
theorem theta_same {S R : Nat → BitVec 64} (h : Same S R) : Same (theta S) (theta R) := fun j hj => by
  show S j ^^^ dif (sums S) (j % 5) = R j ^^^ dif (sums R) (j % 5)
  rw [h j hj, dif_congr (sums_same h)]
theorem path_lt (t : Nat) : path t < 25 := by
  rcases Nat.lt_or_ge t 25 with h | h
  · exact (show ∀ t : Fin 25, path t.val < 25 by decide) ⟨t, h⟩
  · unfold path; rw [List.getD, List.getElem?_eq_none (by simpa using h)]; decide
theorem walk_same {S R : Nat → BitVec 64} (h : Same S R) : Same (walk S) (walk R) := fun j hj => by
  unfold walk walkTo; rw [h _ (path_lt _), h j hj]
theorem mix_same {S R : Nat → BitVec 64} (h : Same S R) : Same (mix S) (mix R) := fun j hj => by
  unfold mix; rw [h j hj, h _ (by omega), h _ (by omega)]
/-- iota. -/
def iota (c : BitVec 64) (S : Nat → BitVec 64) (j : Nat) : BitVec 64 := if j = 0 then S 0 ^^^ c else S j
theorem iota_same {c : BitVec 64} {S R : Nat → BitVec 64} (h : Same S R) : Same (iota c S) (iota c R) := fun j hj => by
  unfold iota; rw [h 0 (by decide), h j hj]
def round (S : Nat → BitVec 64) (c : BitVec 64) : Nat → BitVec 64 := iota c (mix (walk (theta S)))
theorem Same.trans {A B C : Nat → BitVec 64} (h : Same A B) (k : Same B C) : Same A C := fun j hj => (h j hj).trans (k j hj)
theorem round_same {S R : Nat → BitVec 64} (h : Same S R) (c : BitVec 64) : Same (round S c) (round R c) := iota_same (mix_same (walk_same (theta_same h)))
def permute (cs : List (BitVec 64)) (S : Nat → BitVec 64) : Nat → BitVec 64 := cs.foldl round S
end Go.Proofs.YtboeokmaepchgaaGreatDoor.Kc
/- Lanes of 64 bits as the model's numbers: what its operations on bits are, on BitVec. -/
namespace Go.Proofs.YtboeokmaepchgaaGreatDoor.Kc
open Go.RowKit

/-- A lane as a number. -/
def I (x : BitVec 64) : Int := (x.toNat : Int)
theorem I_bd (x : BitVec 64) : 0 ≤ I x ∧ I x < 18446744073709551616 := by
  unfold I; have := x.isLt; omega
theorem I_wrap (x : BitVec 64) : IntKind.u64.wrap (I x) = I x := by
  rw [IntKind.wrap_u64]; have := I_bd x; omega
theorem ofInt_I (x : BitVec 64) : BitVec.ofInt 64 (I x) = x := by
  unfold I; rw [BitVec.ofInt_natCast, BitVec.ofNat_toNat, BitVec.setWidth_eq]
theorem bx (a b : BitVec 64) : bits .xor .u64 (I a) (I b) = I (a ^^^ b) := by
  have h : bits .xor .u64 (I a) (I b) = IntKind.u64.wrap (((BitVec.ofInt 64 (I a)) ^^^ (BitVec.ofInt 64 (I b))).toNat : Int) := rfl
  rw [h, ofInt_I, ofInt_I]; exact I_wrap _
theorem bo (a b : BitVec 64) : bits .or .u64 (I a) (I b) = I (a ||| b) := by
  have h : bits .or .u64 (I a) (I b) = IntKind.u64.wrap (((BitVec.ofInt 64 (I a)) ||| (BitVec.ofInt 64 (I b))).toNat : Int) := rfl
  rw [h, ofInt_I, ofInt_I]; exact I_wrap _
theorem bn (a b : BitVec 64) : bits .andNot .u64 (I a) (I b) = I (a &&& ~~~b) := by
  have h : bits .andNot .u64 (I a) (I b) = IntKind.u64.wrap (((BitVec.ofInt 64 (I a)) &&& ~~~(BitVec.ofInt 64 (I b))).toNat : Int) := rfl
  rw [h, ofInt_I, ofInt_I]; exact I_wrap _
theorem I_shl (x : BitVec 64) (r : Nat) : IntKind.u64.wrap (I x * 2 ^ r) = I (x <<< r) := by
  rw [IntKind.wrap_u64]
  unfold I
  rw [BitVec.toNat_shiftLeft, Nat.shiftLeft_eq]
  have : ((x.toNat : Int) * 2 ^ r) = ((x.toNat * 2 ^ r : Nat) : Int) := by simp
  rw [this]
  have e : (2 : Nat) ^ 64 = 18446744073709551616 := by decide
  rw [e]
  omega
theorem I_shr (x : BitVec 64) (r : Nat) : I x / 2 ^ r = I (x >>> r) := by
  unfold I
  rw [BitVec.toNat_ushiftRight, Nat.shiftRight_eq_div_pow]
  simp
theorem I_rot (x : BitVec 64) (r : Int) (h0 : 0 ≤ r) (h1 : r < 64) :
    bits .or .u64 (IntKind.u64.wrap (I x * 2 ^ r.toNat)) (I x / 2 ^ (64 - r).toNat) = I (x.rotateLeft r.toNat) := by
  rw [I_shl, I_shr, bo, BitVec.rotateLeft_def, show r.toNat % 64 = r.toNat from by omega, show (64 - r).toNat = 64 - r.toNat from by omega]
theorem low6 (k : Int) : bits .and .u64 (IntKind.u64.wrap k) 63 = k % 64 := by
  rw [IntKind.wrap_u64]
  have h := u64_and (k % 18446744073709551616) 63 (by omega) (by omega) (by decide) (by decide)
  rw [h]
  have e : (63 : Int).toNat = 63 := rfl
  rw [e, nat_mask6]
  omega

/-- The cells of a row. -/
def vec (n : Nat) (f : Nat → Value) : Array Value := ((List.range n).map f).toArray
@[simp] theorem size_vec (n : Nat) (f : Nat → Value) : (vec n f).size = n := by simp [vec]
theorem get_vec (n : Nat) (f : Nat → Value) (i : Nat) (h : i < n) : (vec n f)[i]? = some (f i) := by
  simp [vec, h]
theorem vec_eq {n : Nat} {f : Nat → Value} {c : Array Value} (hs : c.size = n) (h : ∀ i, i < n → c[i]? = some (f i)) : c = vec n f := by
  apply Array.ext_getElem?
  intro i
  by_cases hi : i < n
  · rw [h i hi, get_vec n f i hi]
  · rw [Array.getElem?_eq_none (by omega), Array.getElem?_eq_none (by simp; omega)]
theorem vec_congr {n : Nat} {f g : Nat → Value} (h : ∀ i, i < n → f i = g i) : vec n f = vec n g :=
  vec_eq (by simp) (fun i hi => by rw [get_vec n f i hi, h i hi])
theorem row_heap {w : World} {b : Nat} {t : TypeId} {n : Nat} {f : Nat → Value} (h : w.rowIs b t n f) : w.heap[b]? = some (.cells (vec n f) t (0, 0)) := by
  obtain ⟨c, hb, hs, hc⟩ := h
  rw [hb, vec_eq hs hc]
theorem heap_row {w : World} {b : Nat} {t : TypeId} {n : Nat} {f : Nat → Value} (h : w.heap[b]? = some (.cells (vec n f) t (0, 0))) : w.rowIs b t n f :=
  ⟨vec n f, h, by simp, fun i hi => get_vec n f i hi⟩
/-- Numbers as cells: lanes, bytes. -/
abbrev lan (S : Nat → BitVec 64) : Nat → Value := fun j => .int .u64 (I (S j))
theorem one_lan (n : Nat) (S : Nat → BitVec 64) : (vec n (lan S)).all (·.oneCell') = true := by
  rw [Array.all_eq_true]
  intro i hi
  simp [vec, Value.oneCell']
end Go.Proofs.YtboeokmaepchgaaGreatDoor.Kc
/- Walks over package keccak: turning, theta's parts, chi. -/
namespace Go.Proofs.YtboeokmaepchgaaGreatDoor.Kc
open Go.RowKit
set_option linter.unusedSimpArgs false
set_option linter.unusedVariables false

set_option maxHeartbeats 400000 in
/-- math/bits.RotateLeft64 -/
theorem rotl_any (x : BitVec 64) (k : Int) (w : World) :
    Calls Tryz.prog 214 #[.int .u64 (I x), .int .i64 k] w fun e w' => e = .returned (.int .u64 (I (x.rotateLeft (k % 64).toNat))) ∧ w' = w := by
  obtain ⟨r, hr⟩ : ∃ r, r = k % 64 := ⟨_, rfl⟩
  have h0 : 0 ≤ r := by omega
  have h1 : r < 64 := by omega
  have hl := low6 k
  rw [← hr] at hl ⊢
  have HR := I_rot x r h0 h1
  have H : Hid _ := HR
  clear HR hr
  go_enter Tryz.func214, Tryz.ntmps214
  go_wp2
  go_ret
  rw [H.out]
  exact ⟨rfl, rfl⟩
set_option maxHeartbeats 400000 in
/-- keccak.turn -/
theorem turn_any (t : Nat) (ht : t ≤ 1000) (w : World) :
    Calls Tryz.prog 215 #[.int .i64 (t : Int)] w fun e w' => e = .returned (.int .i64 ((turn t : Nat) : Int)) ∧ w' = w := by
  have hm : (t + 1) * (t + 2) ≤ 1001 * 1002 := Nat.mul_le_mul (by omega) (by omega)
  have hb : 0 ≤ ((t : Int) + 1) * ((t : Int) + 2) ∧ ((t : Int) + 1) * ((t : Int) + 2) ≤ 1003002 := by
    have : ((t : Int) + 1) * ((t : Int) + 2) = (((t + 1) * (t + 2) : Nat) : Int) := by simp
    rw [this]; omega
  have he : (((turn t : Nat) : Int)) = ((t : Int) + 1) * ((t : Int) + 2) / 2 := by
    unfold turn
    have : ((t : Int) + 1) * ((t : Int) + 2) = (((t + 1) * (t + 2) : Nat) : Int) := by simp
    rw [this]; omega
  have HE : Hid _ := he
  clear he
  obtain ⟨hb0, hb1⟩ := hb
  go_enter Tryz.func215, Tryz.ntmps215
  go_wp2
  go_ret
  rw [HE.out]
  exact ⟨rfl, rfl⟩
set_option maxHeartbeats 400000 in
/-- keccak.between -/
theorem between_any (l r : BitVec 64) (w : World) :
    Calls Tryz.prog 213 #[.int .u64 (I l), .int .u64 (I r)] w fun e w' => e = .returned (.int .u64 (I (l ^^^ r.rotateLeft 1))) ∧ w' = w := by
  go_enter Tryz.func213, Tryz.ntmps213
  go_wp2_with (go_at_call 214; refine (rotl_any _ _ _).mono ?_; rintro e w' ⟨rfl, rfl⟩)
  go_ret
  rw [bx]
  exact ⟨rfl, rfl⟩
end Go.Proofs.YtboeokmaepchgaaGreatDoor.Kc
/- Walks over package keccak: the sums of the columns, what theta spreads, chi. -/
namespace Go.Proofs.YtboeokmaepchgaaGreatDoor.Kc
open Go.RowKit
set_option linter.unusedSimpArgs false
set_option linter.unusedVariables false

/-- The sum of the first k lanes of a column. -/
def acc (S : Nat → BitVec 64) (x : Nat) : Nat → BitVec 64
  | 0 => 0
  | k + 1 => acc S x k ^^^ S (5 * k + x)
theorem acc5 (S : Nat → BitVec 64) (x : Nat) : acc S x 5 = sums S x := by
  simp only [acc, sums, Nat.mul_zero, Nat.zero_add, Nat.mul_one, Nat.reduceMul]
  rw [Nat.add_comm 5 x, Nat.add_comm 10 x, Nat.add_comm 15 x, Nat.add_comm 20 x, show (0 : BitVec 64) ^^^ S x = S x from BitVec.zero_xor]
set_option maxHeartbeats 400000 in
theorem sums_any (S : Nat → BitVec 64) (b : Nat) (w : World) (hr : w.rowIs b 260 25 (lan S)) :
    Calls Tryz.prog 190 #[.pointer (some ⟨b, 0, none⟩)] w fun e w' => e = .returned (.tuple #[.int .u64 (I (sums S 0)), .int .u64 (I (sums S 1)), .int .u64 (I (sums S 2)), .int .u64 (I (sums S 3)), .int .u64 (I (sums S 4))]) ∧ w' = w := by
  have HR : Hid (w.rowIs b 260 25 (lan S)) := hr
  clear hr
  go_enter Tryz.func190, Tryz.ntmps190
  go_wp2
  go_loop [2, 3, 4, 5, 6, 7] (fun a b c d e y => ∃ k : Nat, k ≤ 5 ∧ y = .int .i64 (5 * (k : Int)) ∧ a = .int .u64 (I (acc S 0 k)) ∧ b = .int .u64 (I (acc S 1 k)) ∧ c = .int .u64 (I (acc S 2 k)) ∧ d = .int .u64 (I (acc S 3 k)) ∧ e = .int .u64 (I (acc S 4 k))) (fun _ _ _ _ _ y => 25 - (intOf y).toNat)
  case atStart => exact ⟨0, by omega, rfl, rfl, rfl, rfl, rfl, rfl⟩
  case round =>
    obtain ⟨k, hk, rfl, rfl, rfl, rfl, rfl, rfl⟩ := hrel
    by_cases hlt : k < 5
    · have c0 := HR.out.cell (i := 5 * k) (by omega)
      have c1 := HR.out.cell (i := 5 * k + 1) (by omega)
      have c2 := HR.out.cell (i := 5 * k + 2) (by omega)
      have c3 := HR.out.cell (i := 5 * k + 3) (by omega)
      have c4 := HR.out.cell (i := 5 * k + 4) (by omega)
      go_wp2
      go_round
      case rel => exact ⟨k + 1, by omega, by go_num, by rw [bx]; rfl, by rw [bx]; rfl, by rw [bx]; rfl, by rw [bx]; rfl, by rw [bx]; rfl⟩
      case measure => simp [intOf]; omega
    · have : k = 5 := by omega
      subst this
      go_wp2
      simp only [acc5]
      exact bodyPost_ret (v := .tuple #[.int .u64 (I (sums S 0)), .int .u64 (I (sums S 1)), .int .u64 (I (sums S 2)), .int .u64 (I (sums S 3)), .int .u64 (I (sums S 4))]) (by simp [results, Tryz.results190, go_sem]) rfl ⟨rfl, rfl⟩
end Go.Proofs.YtboeokmaepchgaaGreatDoor.Kc
/- Walks over package keccak: theta, chi: writes into one block. -/
namespace Go.Proofs.YtboeokmaepchgaaGreatDoor.Kc
open Go.RowKit
set_option linter.unusedSimpArgs false
set_option linter.unusedVariables false

/-- Block b alone has turned; no block is new. -/
structure Only (b : Nat) (w w' : World) : Prop where
  os : w'.os = w.os
  tape : w'.tape = w.tape
  output : w'.output = w.output
  size : w'.heap.size = w.heap.size
  block : ∀ k, k ≠ b → w'.heap[k]? = w.heap[k]?
theorem Only.refl (b : Nat) (w : World) : Only b w w := ⟨rfl, rfl, rfl, rfl, fun _ _ => rfl⟩
theorem Only.trans {b : Nat} {u v w : World} (h : Only b u v) (k : Only b v w) : Only b u w :=
  ⟨k.os.trans h.os, k.tape.trans h.tape, k.output.trans h.output, k.size.trans h.size, fun i hi => (k.block i hi).trans (h.block i hi)⟩
theorem Only.drew {b : Nat} {u v : World} (h : Only b u v) : Only b u v.drew := ⟨h.os, h.tape, h.output, h.size, h.block⟩
theorem Only.setCell {b : Nat} {u v : World} (h : Only b u v) (o : Nat) (x : Value) : Only b u (v.setCell ⟨b, o, none⟩ x) :=
  h.trans ⟨rfl, rfl, rfl, by simp, fun k hk => Go.Deep.blk_setCell_other _ _ _ _ hk⟩
theorem Only.setRow {b : Nat} {u v : World} (h : Only b u v) (c : Array Value) : Only b u (v.setRow b c) :=
  h.trans ⟨rfl, rfl, rfl, by simp, fun k hk => setRow_other _ _ _ _ hk⟩
theorem Only.row {b b' : Nat} {u v : World} (h : Only b u v) (hb : b' ≠ b) {t : TypeId} {n : Nat} {f : Nat → Value} (hr : u.rowIs b' t n f) : v.rowIs b' t n f := hr.of_block (h.block _ hb)
theorem Only.below {b B : Nat} {a u v : World} (h : Only b u v) (k : Below B a u) (hb : B ≤ b) : Below B a v :=
  k.trans ⟨h.os, h.tape, h.output, by rw [h.size]; exact Nat.le_refl _, fun i hi => h.block i (by omega)⟩

def spreadTo (S c : Nat → BitVec 64) (k j : Nat) : BitVec 64 := if j < 5 * k then spread S c j else S j
theorem spread_step {S c : Nat → BitVec 64} {k b : Nat} {w : World} (hk : k < 5) (h : w.rowIs b 260 25 (lan (spreadTo S c k)))
    {v0 v1 v2 v3 v4 : Value} (e0 : v0 = .int .u64 (I (S (5 * k) ^^^ dif c 0))) (e1 : v1 = .int .u64 (I (S (5 * k + 1) ^^^ dif c 1))) (e2 : v2 = .int .u64 (I (S (5 * k + 2) ^^^ dif c 2))) (e3 : v3 = .int .u64 (I (S (5 * k + 3) ^^^ dif c 3))) (e4 : v4 = .int .u64 (I (S (5 * k + 4) ^^^ dif c 4))) :
    (((((w.setCell ⟨b, 5 * k, none⟩ v0).setCell ⟨b, 5 * k + 1, none⟩ v1).setCell ⟨b, 5 * k + 2, none⟩ v2).setCell ⟨b, 5 * k + 3, none⟩ v3).setCell ⟨b, 5 * k + 4, none⟩ v4).rowIs b 260 25 (lan (spreadTo S c (k + 1))) := by
  refine (((((h.set _ _).set _ _).set _ _).set _ _).set _ _).congr ?_
  intro i hi
  subst e0 e1 e2 e3 e4
  have hm : ∀ r, r < 5 → I (spreadTo S c (k + 1) (5 * k + r)) = I (S (5 * k + r) ^^^ dif c r) := fun r hr => by
    unfold spreadTo spread; rw [if_pos (by omega), show (5 * k + r) % 5 = r from by omega]
  by_cases h4 : i = 5 * k + 4
  · subst h4; simp only [lan, hm 4 (by decide), if_true]
  by_cases h3 : i = 5 * k + 3
  · subst h3; simp only [lan, hm 3 (by decide), if_true, if_neg h4]
  by_cases h2 : i = 5 * k + 2
  · subst h2; simp only [lan, hm 2 (by decide), if_true, if_neg h4, if_neg h3]
  by_cases h1 : i = 5 * k + 1
  · subst h1; simp only [lan, hm 1 (by decide), if_true, if_neg h4, if_neg h3, if_neg h2]
  by_cases h0 : i = 5 * k
  · subst h0; have h := hm 0 (by decide); simp only [Nat.add_zero] at h; simp only [lan, h, if_true, if_neg h4, if_neg h3, if_neg h2, if_neg h1]
  simp only [if_neg h0, if_neg h1, if_neg h2, if_neg h3, if_neg h4, lan, spreadTo]
  by_cases hl : i < 5 * k
  · rw [if_pos hl, if_pos (by omega)]
  · rw [if_neg hl, if_neg (by omega)]
set_option maxHeartbeats 1000000 in
/-- (*state).spread -/
theorem spread_any (S c : Nat → BitVec 64) (b : Nat) (w : World) (hr : w.rowIs b 260 25 (lan S)) :
    Calls Tryz.prog 189 #[.pointer (some ⟨b, 0, none⟩), .int .u64 (I (c 0)), .int .u64 (I (c 1)), .int .u64 (I (c 2)), .int .u64 (I (c 3)), .int .u64 (I (c 4))] w fun e w' => e = .returned (.tuple #[]) ∧ w'.rowIs b 260 25 (lan (spread S c)) ∧ Only b w w' := by
  have HR : Hid (w.rowIs b 260 25 (lan S)) := hr
  clear hr
  go_enter Tryz.func189, Tryz.ntmps189
  go_wp2_with (go_at_call 213; refine (between_any _ _ _).mono ?_; rintro e w' ⟨rfl, hs⟩; obtain rfl := hs.symm)
  go_loopw [12] (fun y wr => ∃ k : Nat, k ≤ 5 ∧ y = .int .i64 (5 * (k : Int)) ∧ wr.rowIs b 260 25 (lan (spreadTo S c k)) ∧ Only b w wr) (fun y _ => 25 - (intOf y).toNat)
  case atStart => exact ⟨0, by omega, rfl, HR.out.congr (fun i _ => by simp [lan, spreadTo]), Only.refl _ _⟩
  case round =>
    obtain ⟨k, hk, rfl, hrow, hon⟩ := hrel
    by_cases hlt : k < 5
    · have c0 : wr.cell? ⟨b, 5 * k, none⟩ = some (.int .u64 (I (S (5 * k)))) := by rw [hrow.cell (by omega)]; simp only [lan, spreadTo]; rw [if_neg (by omega)]
      have c1 : wr.cell? ⟨b, 5 * k + 1, none⟩ = some (.int .u64 (I (S (5 * k + 1)))) := by rw [hrow.cell (by omega)]; simp only [lan, spreadTo]; rw [if_neg (by omega)]
      have c2 : wr.cell? ⟨b, 5 * k + 2, none⟩ = some (.int .u64 (I (S (5 * k + 2)))) := by rw [hrow.cell (by omega)]; simp only [lan, spreadTo]; rw [if_neg (by omega)]
      have c3 : wr.cell? ⟨b, 5 * k + 3, none⟩ = some (.int .u64 (I (S (5 * k + 3)))) := by rw [hrow.cell (by omega)]; simp only [lan, spreadTo]; rw [if_neg (by omega)]
      have c4 : wr.cell? ⟨b, 5 * k + 4, none⟩ = some (.int .u64 (I (S (5 * k + 4)))) := by rw [hrow.cell (by omega)]; simp only [lan, spreadTo]; rw [if_neg (by omega)]
      have hf := hrow.frozen
      have H1 : Hid (wr.rowIs b 260 25 (lan (spreadTo S c k)) ∧ Only b w wr) := ⟨hrow, hon⟩
      clear hrow hon HR
      go_wp2
      go_region
      go_wp2
      go_region
      go_wp2
      go_region
      go_wp2
      go_region
      go_wp2
      go_region
      go_wp2
      go_roundw
      case rel =>
        simp only [bx]
        exact ⟨k + 1, by omega, by go_num, (spread_step hlt H1.out.1 rfl rfl rfl rfl rfl).drew.drew.drew.drew.drew, ((((((H1.out.2.setCell _ _).setCell _ _).setCell _ _).setCell _ _).setCell _ _)).drew.drew.drew.drew.drew⟩
      case measure => simp [intOf]; omega
    · have : k = 5 := by omega
      subst this
      go_wp2
      go_returns
      exact ⟨rfl, hrow.congr (fun i hi => by simp only [lan, spreadTo]; rw [if_pos (by omega)]), hon⟩
end Go.Proofs.YtboeokmaepchgaaGreatDoor.Kc
/- Walks over package keccak: chi, forth and back. -/
namespace Go.Proofs.YtboeokmaepchgaaGreatDoor.Kc
open Go.RowKit
set_option linter.unusedSimpArgs false
set_option linter.unusedVariables false

theorem row_drewN {w : World} {b : Nat} {t : TypeId} {n : Nat} {f : Nat → Value} (h : w.rowIs b t n f) (m : Nat) : (w.drewN m).rowIs b t n f := by
  induction m with
  | zero => exact h
  | succ m ih => exact h.of_block (by simp)
theorem Only.drewN {b : Nat} {u v : World} (h : Only b u v) (m : Nat) : Only b u (v.drewN m) :=
  ⟨h.os, h.tape, h.output, h.size, h.block⟩
def mixTo (S : Nat → BitVec 64) (k j : Nat) : BitVec 64 := if j < 5 * k then mix S j else S j
theorem mix_step {S : Nat → BitVec 64} {k b : Nat} {w : World} (hk : k < 5) (h : w.rowIs b 260 25 (lan (mixTo S k)))
    {v0 v1 v2 v3 v4 : Value} (e0 : v0 = .int .u64 (I (S (5 * k) ^^^ (S (5 * k + 2) &&& ~~~ S (5 * k + 1))))) (e1 : v1 = .int .u64 (I (S (5 * k + 1) ^^^ (S (5 * k + 3) &&& ~~~ S (5 * k + 2))))) (e2 : v2 = .int .u64 (I (S (5 * k + 2) ^^^ (S (5 * k + 4) &&& ~~~ S (5 * k + 3))))) (e3 : v3 = .int .u64 (I (S (5 * k + 3) ^^^ (S (5 * k) &&& ~~~ S (5 * k + 4))))) (e4 : v4 = .int .u64 (I (S (5 * k + 4) ^^^ (S (5 * k + 1) &&& ~~~ S (5 * k))))) :
    (((((w.setCell ⟨b, 5 * k, none⟩ v0).setCell ⟨b, 5 * k + 1, none⟩ v1).setCell ⟨b, 5 * k + 2, none⟩ v2).setCell ⟨b, 5 * k + 3, none⟩ v3).setCell ⟨b, 5 * k + 4, none⟩ v4).rowIs b 260 25 (lan (mixTo S (k + 1))) := by
  refine (((((h.set _ _).set _ _).set _ _).set _ _).set _ _).congr ?_
  intro i hi
  subst e0 e1 e2 e3 e4
  have hm : ∀ r p q, r < 5 → (r + 1) % 5 = p → (r + 2) % 5 = q → I (mixTo S (k + 1) (5 * k + r)) = I (S (5 * k + r) ^^^ (S (5 * k + q) &&& ~~~ S (5 * k + p))) := fun r p q hr hp hq => by
    unfold mixTo mix; rw [if_pos (by omega), show (5 * k + r) % 5 = r from by omega, show (5 * k + r) / 5 * 5 = 5 * k from by omega, hp, hq]
  by_cases h4 : i = 5 * k + 4
  · subst h4; simp only [lan, hm 4 0 1 (by decide) rfl rfl, if_true, Nat.add_zero]
  by_cases h3 : i = 5 * k + 3
  · subst h3; simp only [lan, hm 3 4 0 (by decide) rfl rfl, if_true, if_neg h4, Nat.add_zero]
  by_cases h2 : i = 5 * k + 2
  · subst h2; simp only [lan, hm 2 3 4 (by decide) rfl rfl, if_true, if_neg h4, if_neg h3]
  by_cases h1 : i = 5 * k + 1
  · subst h1; simp only [lan, hm 1 2 3 (by decide) rfl rfl, if_true, if_neg h4, if_neg h3, if_neg h2]
  by_cases h0 : i = 5 * k
  · subst h0; have h := hm 0 1 2 (by decide) rfl rfl; simp only [Nat.add_zero] at h; simp only [lan, h, if_true, if_neg h4, if_neg h3, if_neg h2, if_neg h1]
  simp only [if_neg h0, if_neg h1, if_neg h2, if_neg h3, if_neg h4, lan, mixTo]
  by_cases hl : i < 5 * k
  · rw [if_pos hl, if_pos (by omega)]
  · rw [if_neg hl, if_neg (by omega)]
set_option maxRecDepth 20000 in
set_option maxHeartbeats 1000000 in
/-- (*state).mix -/
theorem mix_any (S : Nat → BitVec 64) (b : Nat) (w : World) (hr : w.rowIs b 260 25 (lan S)) :
    Calls Tryz.prog 192 #[.pointer (some ⟨b, 0, none⟩)] w fun e w' => e = .returned (.tuple #[]) ∧ w'.rowIs b 260 25 (lan (mix S)) ∧ Only b w w' := by
  have HR : Hid (w.rowIs b 260 25 (lan S)) := hr
  clear hr
  go_enter Tryz.func192, Tryz.ntmps192
  go_wp2
  go_loopw [2] (fun y wr => ∃ k : Nat, k ≤ 5 ∧ y = .int .i64 (5 * (k : Int)) ∧ wr.rowIs b 260 25 (lan (mixTo S k)) ∧ Only b w wr) (fun y _ => 25 - (intOf y).toNat)
  case atStart => exact ⟨0, by omega, rfl, HR.out.congr (fun i _ => by simp [lan, mixTo]), Only.refl _ _⟩
  case round =>
    obtain ⟨k, hk, rfl, hrow, hon⟩ := hrel
    by_cases hlt : k < 5
    · have c0 : wr.cell? ⟨b, 5 * k, none⟩ = some (.int .u64 (I (S (5 * k)))) := by rw [hrow.cell (by omega)]; simp only [lan, mixTo]; rw [if_neg (by omega)]
      have c1 : wr.cell? ⟨b, 5 * k + 1, none⟩ = some (.int .u64 (I (S (5 * k + 1)))) := by rw [hrow.cell (by omega)]; simp only [lan, mixTo]; rw [if_neg (by omega)]
      have c2 : wr.cell? ⟨b, 5 * k + 2, none⟩ = some (.int .u64 (I (S (5 * k + 2)))) := by rw [hrow.cell (by omega)]; simp only [lan, mixTo]; rw [if_neg (by omega)]
      have c3 : wr.cell? ⟨b, 5 * k + 3, none⟩ = some (.int .u64 (I (S (5 * k + 3)))) := by rw [hrow.cell (by omega)]; simp only [lan, mixTo]; rw [if_neg (by omega)]
      have c4 : wr.cell? ⟨b, 5 * k + 4, none⟩ = some (.int .u64 (I (S (5 * k + 4)))) := by rw [hrow.cell (by omega)]; simp only [lan, mixTo]; rw [if_neg (by omega)]
      have hf := hrow.frozen
      have H1 : Hid (wr.rowIs b 260 25 (lan (mixTo S k)) ∧ Only b w wr) := ⟨hrow, hon⟩
      clear hrow hon HR
      go_wp2
      go_quiet (fail)
      go_wp2
      go_roundw
      case rel =>
        simp only [bx, bn]
        exact ⟨k + 1, by omega, by go_num, mix_step hlt (row_drewN H1.out.1 _) rfl rfl rfl rfl rfl, (((((H1.out.2.drewN _).setCell _ _).setCell _ _).setCell _ _).setCell _ _).setCell _ _⟩
      case measure => simp [intOf]; omega
    · have : k = 5 := by omega
      subst this
      go_wp2
      go_returns
      exact ⟨rfl, hrow.congr (fun i hi => by simp only [lan, mixTo]; rw [if_pos (by omega)]), hon⟩
end Go.Proofs.YtboeokmaepchgaaGreatDoor.Kc
