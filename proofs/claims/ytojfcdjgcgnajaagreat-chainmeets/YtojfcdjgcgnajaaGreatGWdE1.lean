/- WdBase, WdR0, WdW2, WdM1, WdW4, WdW5, WdQ0, WdD1, WdD2, WdD5, WdM2, WdE1 -/
import Derived.Test.YtojfcdjgcgnajaaGreatChecked
import Derived.Test.YtojfcdjgcgnajaaGreatGCM
import Derived.Shelf.Spec.BitsCarry
import Derived.WalkKit
import Derived.WalkSpells
import Derived.StillTactics
import Derived.Laws.Pointers
import Derived.Laws.Externs
import Derived.Deep.RegionHeld3
import Derived.RowKit3
import Derived.Handy
import Derived.Lib.Mul64
import Derived.Laws.Bits64b
import Derived.BigQuiet
import Derived.Deep.QuietTactic
import Derived.Deep.DeepCutAuto
import Derived.Deep.DeepFit
import Derived.Laws.StructEq
import Derived.Deep.OwnRows
import Derived.Lib.BitFns
import Derived.Lib.ItoaNum
namespace Go.Proofs.YtojfcdjgcgnajaaGreat.Wd
open Go.RowKit
def Limb (x : Int) : Prop := 0 ≤ x ∧ x < 18446744073709551616
def L4 (a0 a1 a2 a3 : Int) : Prop := Limb a0 ∧ Limb a1 ∧ Limb a2 ∧ Limb a3
def num (a0 a1 a2 a3 : Int) : Int := a0 + 18446744073709551616 * a1 + 340282366920938463463374607431768211456 * a2 + 6277101735386680763835789423207666416102355444464034512896 * a3
abbrev W4 (a0 a1 a2 a3 : Int) : Value := .agg #[.int .u64 a0, .int .u64 a1, .int .u64 a2, .int .u64 a3]
def T256 : Int := 115792089237316195423570985008687907853269984665640564039457584007913129639936
end Go.Proofs.YtojfcdjgcgnajaaGreat.Wd
namespace Go.Proofs.YtojfcdjgcgnajaaGreat.Wd
open Go.RowKit
set_option linter.unusedSimpArgs false
set_option linter.unusedVariables false
def Byt (d : List Int) : Prop := ∀ k, 0 ≤ d.getD k 0 ∧ d.getD k 0 < 256
theorem Byt.take {d : List Int} (h : Byt d) (k : Nat) : Byt (d.take k) := fun j => by
 rcases Nat.lt_or_ge j k with g | g
 · have : (d.take k).getD j 0 = d.getD j 0 := by simp [List.getD, List.getElem?_take_of_lt g]
   rw [this]; exact h j
 · have : (d.take k).getD j 0 = 0 := by
    simp only [List.getD]; rw [List.getElem?_eq_none (by simp; omega)]; rfl
   rw [this]; exact ⟨by decide, by decide⟩
end Go.Proofs.YtojfcdjgcgnajaaGreat.Wd
namespace Go.Proofs.YtojfcdjgcgnajaaGreat.Wd
open Go.RowKit
set_option linter.unusedSimpArgs false
set_option maxHeartbeats 1000000 in
theorem of_any (n : Int) (w : World) :
 Calls Tryz.prog 43 #[.int .u64 n] w fun e w' => e = .returned (W4 n 0 0 0) ∧ Below w.heap.size w w' := by
 go_enter Tryz.func43, Tryz.ntmps43
 go_wp2; go_returns
 exact ⟨rfl, by go_grown⟩
end Go.Proofs.YtojfcdjgcgnajaaGreat.Wd
namespace Go.Proofs.YtojfcdjgcgnajaaGreat.Wd
open Go.RowKit
theorem pow_pos' (n : Nat) : 0 < (2 : Int) ^ n := Int.pow_pos (by decide)
end Go.Proofs.YtojfcdjgcgnajaaGreat.Wd
namespace Go.Proofs.YtojfcdjgcgnajaaGreat.Wd
open Go.RowKit
set_option linter.unusedSimpArgs false
set_option linter.unusedVariables false
theorem div_limb (x : Int) (n : Nat) (h : Limb x) : Limb (x / 2 ^ n) := by
 have hp := pow_pos' n; refine ⟨Int.ediv_nonneg h.1 (Int.le_of_lt hp), ?_⟩; have : x / 2 ^ n ≤ x := Int.ediv_le_self _ h.1; have := h.2; omega
end Go.Proofs.YtojfcdjgcgnajaaGreat.Wd
namespace Go.Proofs.YtojfcdjgcgnajaaGreat.Wd
open Go.RowKit
set_option linter.unusedSimpArgs false
set_option linter.unusedVariables false
def lowN (x i : Int) : Int := x / 2 ^ (8 * i).toNat % 256
set_option maxHeartbeats 1000000 in
theorem lowByte_walk0 (x0 x1 x2 x3 i r : Int) (h0 : 0 ≤ i) (h1 : i < 8) (hm : i % 8 = r) (hx : L4 x0 x1 x2 x3) (w : World) :
 Calls Tryz.prog 109 #[W4 x0 x1 x2 x3, .int .i64 i] w fun e w' => e = .returned (.int .u8 (x0 / 2 ^ (8 * r).toNat % 256)) ∧ ∃ c, w' = w.alloc (.cells c 51) := by
 have hq : i / 8 = 0 := by omega
 have hr0 : 0 ≤ r := by omega
 have hr1 : r < 8 := by omega
 have hd := div_limb x0 (8 * r).toNat hx.1; obtain ⟨hd0, hd1⟩ := hd; clear hx; unfold W4; go_enter Tryz.func109, Tryz.ntmps109; go_wp2; go_ret; exact ⟨rfl, _, rfl⟩
set_option maxHeartbeats 1000000 in
theorem lowByte_walk1 (x0 x1 x2 x3 i r : Int) (h0 : 8 ≤ i) (h1 : i < 16) (hm : i % 8 = r) (hx : L4 x0 x1 x2 x3) (w : World) :
 Calls Tryz.prog 109 #[W4 x0 x1 x2 x3, .int .i64 i] w fun e w' => e = .returned (.int .u8 (x1 / 2 ^ (8 * r).toNat % 256)) ∧ ∃ c, w' = w.alloc (.cells c 51) := by
 have hq : i / 8 = 1 := by omega
 have hr0 : 0 ≤ r := by omega
 have hr1 : r < 8 := by omega
 have hd := div_limb x1 (8 * r).toNat hx.2.1; obtain ⟨hd0, hd1⟩ := hd; clear hx; unfold W4; go_enter Tryz.func109, Tryz.ntmps109; go_wp2; go_ret; exact ⟨rfl, _, rfl⟩
set_option maxHeartbeats 1000000 in
theorem lowByte_walk2 (x0 x1 x2 x3 i r : Int) (h0 : 16 ≤ i) (h1 : i < 24) (hm : i % 8 = r) (hx : L4 x0 x1 x2 x3) (w : World) :
 Calls Tryz.prog 109 #[W4 x0 x1 x2 x3, .int .i64 i] w fun e w' => e = .returned (.int .u8 (x2 / 2 ^ (8 * r).toNat % 256)) ∧ ∃ c, w' = w.alloc (.cells c 51) := by
 have hq : i / 8 = 2 := by omega
 have hr0 : 0 ≤ r := by omega
 have hr1 : r < 8 := by omega
 have hd := div_limb x2 (8 * r).toNat hx.2.2.1; obtain ⟨hd0, hd1⟩ := hd; clear hx; unfold W4; go_enter Tryz.func109, Tryz.ntmps109; go_wp2; go_ret; exact ⟨rfl, _, rfl⟩
set_option maxHeartbeats 1000000 in
theorem lowByte_walk3 (x0 x1 x2 x3 i r : Int) (h0 : 24 ≤ i) (h1 : i < 32) (hm : i % 8 = r) (hx : L4 x0 x1 x2 x3) (w : World) :
 Calls Tryz.prog 109 #[W4 x0 x1 x2 x3, .int .i64 i] w fun e w' => e = .returned (.int .u8 (x3 / 2 ^ (8 * r).toNat % 256)) ∧ ∃ c, w' = w.alloc (.cells c 51) := by
 have hq : i / 8 = 3 := by omega
 have hr0 : 0 ≤ r := by omega
 have hr1 : r < 8 := by omega
 have hd := div_limb x3 (8 * r).toNat hx.2.2.2; obtain ⟨hd0, hd1⟩ := hd; clear hx; unfold W4; go_enter Tryz.func109, Tryz.ntmps109; go_wp2; go_ret; exact ⟨rfl, _, rfl⟩
theorem low_pow (i k r : Int) (h0 : 0 ≤ r) (hk : 0 ≤ k) (hi : i = 8 * k + r) : (2 : Int) ^ (8 * i).toNat = 2 ^ (64 * k).toNat * 2 ^ (8 * r).toNat := by
 rw [← Int.pow_add]; congr 1; omega
theorem low_num0 {x0 x1 x2 x3 i : Int} (h0 : 0 ≤ i) (h1 : i < 8) (hx : L4 x0 x1 x2 x3) : x0 / 2 ^ (8 * (i % 8)).toNat % 256 = lowN (num x0 x1 x2 x3) i := by
 unfold lowN; have hpk : (2 : Int) ^ (64 * (0 : Int)).toNat = 1 := by decide
 have hP := pow_pos' (8 * (i % 8)).toNat; rw [low_pow i 0 (i % 8) (by omega) (by decide) (by omega), hpk, ← Int.ediv_ediv_of_nonneg (by decide)]; obtain ⟨⟨_, _⟩, ⟨_, _⟩, ⟨_, _⟩, ⟨_, _⟩⟩ := hx; have e : num x0 x1 x2 x3 / 1 = x0 + 18446744073709551616 * (0 + 1 * x1 + 18446744073709551616 * x2 + 340282366920938463463374607431768211456 * x3) := by unfold num; omega
 rw [e]; have hp : (2 : Int) ^ (8 * (i % 8)).toNat * (256 * 2 ^ (56 - 8 * (i % 8)).toNat) = 18446744073709551616 := by
  rw [show (256 : Int) = 2 ^ 8 from rfl, ← Int.pow_add, ← Int.pow_add, show (8 * (i % 8)).toNat + (8 + (56 - 8 * (i % 8)).toNat) = 64 from by omega]; decide
 rw [← hp, Int.mul_assoc, Int.add_mul_ediv_left _ _ (by omega), Int.mul_assoc, Int.add_mul_emod_self_left]
theorem low_num1 {x0 x1 x2 x3 i : Int} (h0 : 8 ≤ i) (h1 : i < 16) (hx : L4 x0 x1 x2 x3) : x1 / 2 ^ (8 * (i % 8)).toNat % 256 = lowN (num x0 x1 x2 x3) i := by
 unfold lowN; have hpk : (2 : Int) ^ (64 * (1 : Int)).toNat = 18446744073709551616 := by decide
 have hP := pow_pos' (8 * (i % 8)).toNat; rw [low_pow i 1 (i % 8) (by omega) (by decide) (by omega), hpk, ← Int.ediv_ediv_of_nonneg (by decide)]; obtain ⟨⟨_, _⟩, ⟨_, _⟩, ⟨_, _⟩, ⟨_, _⟩⟩ := hx; have e : num x0 x1 x2 x3 / 18446744073709551616 = x1 + 18446744073709551616 * (0 + 1 * x2 + 18446744073709551616 * x3) := by unfold num; omega
 rw [e]; have hp : (2 : Int) ^ (8 * (i % 8)).toNat * (256 * 2 ^ (56 - 8 * (i % 8)).toNat) = 18446744073709551616 := by
  rw [show (256 : Int) = 2 ^ 8 from rfl, ← Int.pow_add, ← Int.pow_add, show (8 * (i % 8)).toNat + (8 + (56 - 8 * (i % 8)).toNat) = 64 from by omega]; decide
 rw [← hp, Int.mul_assoc, Int.add_mul_ediv_left _ _ (by omega), Int.mul_assoc, Int.add_mul_emod_self_left]
theorem low_num2 {x0 x1 x2 x3 i : Int} (h0 : 16 ≤ i) (h1 : i < 24) (hx : L4 x0 x1 x2 x3) : x2 / 2 ^ (8 * (i % 8)).toNat % 256 = lowN (num x0 x1 x2 x3) i := by
 unfold lowN; have hpk : (2 : Int) ^ (64 * (2 : Int)).toNat = 340282366920938463463374607431768211456 := by decide
 have hP := pow_pos' (8 * (i % 8)).toNat; rw [low_pow i 2 (i % 8) (by omega) (by decide) (by omega), hpk, ← Int.ediv_ediv_of_nonneg (by decide)]; obtain ⟨⟨_, _⟩, ⟨_, _⟩, ⟨_, _⟩, ⟨_, _⟩⟩ := hx; have e : num x0 x1 x2 x3 / 340282366920938463463374607431768211456 = x2 + 18446744073709551616 * (0 + 1 * x3) := by unfold num; omega
 rw [e]; have hp : (2 : Int) ^ (8 * (i % 8)).toNat * (256 * 2 ^ (56 - 8 * (i % 8)).toNat) = 18446744073709551616 := by
  rw [show (256 : Int) = 2 ^ 8 from rfl, ← Int.pow_add, ← Int.pow_add, show (8 * (i % 8)).toNat + (8 + (56 - 8 * (i % 8)).toNat) = 64 from by omega]; decide
 rw [← hp, Int.mul_assoc, Int.add_mul_ediv_left _ _ (by omega), Int.mul_assoc, Int.add_mul_emod_self_left]
theorem low_num3 {x0 x1 x2 x3 i : Int} (h0 : 24 ≤ i) (h1 : i < 32) (hx : L4 x0 x1 x2 x3) : x3 / 2 ^ (8 * (i % 8)).toNat % 256 = lowN (num x0 x1 x2 x3) i := by
 unfold lowN; have hpk : (2 : Int) ^ (64 * (3 : Int)).toNat = 6277101735386680763835789423207666416102355444464034512896 := by decide
 have hP := pow_pos' (8 * (i % 8)).toNat; rw [low_pow i 3 (i % 8) (by omega) (by decide) (by omega), hpk, ← Int.ediv_ediv_of_nonneg (by decide)]; obtain ⟨⟨_, _⟩, ⟨_, _⟩, ⟨_, _⟩, ⟨_, _⟩⟩ := hx; have e : num x0 x1 x2 x3 / 6277101735386680763835789423207666416102355444464034512896 = x3 + 18446744073709551616 * (0) := by unfold num; omega
 rw [e]; have hp : (2 : Int) ^ (8 * (i % 8)).toNat * (256 * 2 ^ (56 - 8 * (i % 8)).toNat) = 18446744073709551616 := by
  rw [show (256 : Int) = 2 ^ 8 from rfl, ← Int.pow_add, ← Int.pow_add, show (8 * (i % 8)).toNat + (8 + (56 - 8 * (i % 8)).toNat) = 64 from by omega]; decide
 rw [← hp, Int.mul_assoc, Int.add_mul_ediv_left _ _ (by omega), Int.mul_assoc, Int.add_mul_emod_self_left]
theorem lowByte_any (x0 x1 x2 x3 i : Int) (hx : L4 x0 x1 x2 x3) (h0 : 0 ≤ i) (h1 : i < 32) (w : World) :
 Calls Tryz.prog 109 #[W4 x0 x1 x2 x3, .int .i64 i] w fun e w' => e = .returned (.int .u8 (lowN (num x0 x1 x2 x3) i)) ∧ ∃ c, w' = w.alloc (.cells c 51) := by
 rcases (by omega : i < 8 ∨ (8 ≤ i ∧ i < 16) ∨ (16 ≤ i ∧ i < 24) ∨ (24 ≤ i ∧ i < 32)) with g | ⟨g, g'⟩ | ⟨g, g'⟩ | ⟨g, g'⟩
 · rw [← low_num0 h0 g hx]; exact lowByte_walk0 x0 x1 x2 x3 i _ h0 g rfl hx w
 · rw [← low_num1 g g' hx]; exact lowByte_walk1 x0 x1 x2 x3 i _ g g' rfl hx w
 · rw [← low_num2 g g' hx]; exact lowByte_walk2 x0 x1 x2 x3 i _ g g' rfl hx w
 · rw [← low_num3 g g' hx]; exact lowByte_walk3 x0 x1 x2 x3 i _ g g' rfl hx w
end Go.Proofs.YtojfcdjgcgnajaaGreat.Wd
namespace Go.Proofs.YtojfcdjgcgnajaaGreat.Wd
open Go.RowKit
set_option linter.unusedSimpArgs false
set_option linter.unusedVariables false
theorem pow256 (m : Nat) : (256 : Int) ^ m = 2 ^ (8 * m) := by rw [Int.pow_mul]; rfl
end Go.Proofs.YtojfcdjgcgnajaaGreat.Wd
namespace Go.Proofs.YtojfcdjgcgnajaaGreat.Wd
open Go.RowKit
set_option linter.unusedSimpArgs false
set_option linter.unusedVariables false
theorem dl_mul (q y1 y0 : Int) : q * (4294967296 * y1 + y0) = 4294967296 * (q * y1) + q * y0 := by
 rw [Int.mul_add, Int.mul_left_comm]
structure Dl (h u y y1 y0 Q R : Int) : Prop where
 ey : y = 4294967296 * y1 + y0
 y0a : 0 ≤ y0
 y0b : y0 < 4294967296
 y1a : 2147483648 ≤ y1
 y1b : y1 < 4294967296
 ha : 0 ≤ h
 hb : h < y
 ua : 0 ≤ u
 ub : u < 4294967296
 e : h * 4294967296 + u = Q * y + R
 Ra : 0 ≤ R
 Rb : R < y
 Qa : 0 ≤ Q
 Qb : Q < 4294967296
theorem Dl.first {h u y y1 y0 Q R : Int} (D : Dl h u y y1 y0 Q R) : Q ≤ h / y1 ∧ h / y1 ≤ 4294967297 ∧ 0 ≤ h / y1 ∧ 0 ≤ h % y1 ∧ h % y1 < y1 ∧ h % y1 = h - h / y1 * y1 := by
 have hy1 : 0 < y1 := by have := D.y1a; omega
 have hm := Int.mul_ediv_add_emod h y1; rw [Int.mul_comm] at hm; have h0 := Int.emod_nonneg h (by omega : y1 ≠ 0); have h1 := Int.emod_lt_of_pos h hy1; refine ⟨?_, ?_, Int.ediv_nonneg D.ha (by omega), h0, h1, by omega⟩
 · have a : Q * y1 ≤ h := by
    have e := D.e; have m := dl_mul Q y1 y0; rw [← D.ey] at m; have := D.Ra; have := D.ub; have : 0 ≤ Q * y0 := Int.mul_nonneg D.Qa D.y0a; omega
   exact (Int.le_ediv_iff_mul_le hy1).2 a
 · apply Int.le_of_lt_add_one
   apply Int.ediv_lt_of_lt_mul hy1
   have := D.hb; have := D.ey; have := D.y0b; have := D.y1a; omega
end Go.Proofs.YtojfcdjgcgnajaaGreat.Wd
namespace Go.Proofs.YtojfcdjgcgnajaaGreat.Wd
open Go.RowKit
set_option linter.unusedSimpArgs false
set_option linter.unusedVariables false
structure Wr (b lo hi : Nat) (w w' : World) : Prop where
 os : w'.os = w.os
 tape : w'.tape = w.tape
 output : w'.output = w.output
 size : w'.heap.size = w.heap.size
 block : ∀ k, k ≠ b → w'.heap[k]? = w.heap[k]?
 cell : ∀ o, o < lo ∨ hi ≤ o → w'.cell? ⟨b, o, none⟩ = w.cell? ⟨b, o, none⟩
 frozen : ∀ a, w'.frozen? a = w.frozen? a
theorem Wr.refl (b lo hi : Nat) (w : World) : Wr b lo hi w w := ⟨rfl, rfl, rfl, rfl, fun _ _ => rfl, fun _ _ => rfl, fun _ => rfl⟩
theorem Wr.trans {b lo hi : Nat} {u v w : World} (h : Wr b lo hi u v) (k : Wr b lo hi v w) : Wr b lo hi u w :=
 ⟨k.os.trans h.os, k.tape.trans h.tape, k.output.trans h.output, k.size.trans h.size, fun i hi => (k.block i hi).trans (h.block i hi), fun o ho => (k.cell o ho).trans (h.cell o ho), fun a => (k.frozen a).trans (h.frozen a)⟩
theorem Wr.setCell {b lo hi : Nat} {u w : World} (h : Wr b lo hi u w) (o : Nat) (h1 : lo ≤ o) (h2 : o < hi) (v : Value) : Wr b lo hi u (w.setCell ⟨b, o, none⟩ v) :=
 h.trans ⟨rfl, rfl, rfl, by simp [World.setCell], fun k hk => Below.heap_setCell _ _ _ _ hk, fun p hp => World.cell?_setCell_other _ _ _ _ (by intro e; simp at e <;> omega), fun a => World.frozen?_setCell _ _ _ _⟩
theorem Wr.other {b lo hi : Nat} {u w : World} (h : Wr b lo hi u w) {c o : Nat} (hc : c ≠ b) : w.cell? ⟨c, o, none⟩ = u.cell? ⟨c, o, none⟩ := World.cell?_of_block (w := u) (h.block c hc)
def put (X : Nat → Int) (k : Nat) (x : Int) : Nat → Int := fun i => if i = k then x else X i
theorem put_same (X : Nat → Int) (k : Nat) (x : Int) : put X k x k = x := by simp [put]
theorem put_other (X : Nat → Int) (k : Nat) (x : Int) {i : Nat} (h : i ≠ k) : put X k x i = X i := by simp [put, h]
end Go.Proofs.YtojfcdjgcgnajaaGreat.Wd
namespace Go.Proofs.YtojfcdjgcgnajaaGreat.Wd
open Go.RowKit
set_option linter.unusedSimpArgs false
set_option linter.unusedVariables false
def usedN (a0 a1 a2 a3 : Int) : Int := if a3 ≠ 0 then 4 else if a2 ≠ 0 then 3 else if a1 ≠ 0 then 2 else if a0 ≠ 0 then 1 else 0
set_option maxHeartbeats 4000000 in
theorem used_any (a0 a1 a2 a3 : Int) (w : World) :
 Calls Tryz.prog 97 #[W4 a0 a1 a2 a3] w fun e w' => e = .returned (.int .i64 (usedN a0 a1 a2 a3)) ∧ ∃ c, w' = w.alloc (.cells c 51) := by
 unfold W4; by_cases h3 : a3 = 0 <;> by_cases h2 : a2 = 0 <;> by_cases h1 : a1 = 0 <;> by_cases h0 : a0 = 0
 all_goals
  have g : ∀ x : Int, ¬ x = 0 → (x != 0) = true := fun x h => by simpa using h
  simp only [usedN, h0, h1, h2, h3, ne_eq, not_true_eq_false, not_false_eq_true, if_true, if_false]; try have k0 := g a0 h0
  try have k1 := g a1 h1
  try have k2 := g a2 h2
  try have k3 := g a3 h3
  clear g; go_enter Tryz.func97, Tryz.ntmps97; go_wp2; refine wp_loop_rounds 5 ?_; iterate 5
   rw [rounds_succ]; go_wp2
  go_ret; exact ⟨rfl, _, rfl⟩
end Go.Proofs.YtojfcdjgcgnajaaGreat.Wd
namespace Go.Proofs.YtojfcdjgcgnajaaGreat.Wd
open Go.RowKit
set_option linter.unusedVariables false
def splice (X Y : Nat → Int) (t n : Nat) : Nat → Int := fun k => if t ≤ k ∧ k ≤ t + n then Y (k - t) else X k
theorem splice_in (X Y : Nat → Int) (t n k : Nat) (h : k ≤ n) : splice X Y t n (t + k) = Y k := by
 unfold splice; rw [if_pos ⟨by omega, by omega⟩]; congr 1; omega
theorem splice_out (X Y : Nat → Int) (t n k : Nat) (h : k < t ∨ t + n < k) : splice X Y t n k = X k := by
 unfold splice; rw [if_neg (by omega)]
structure Dv (w0 : World) (bv b1 b2 bq bx : Nat) (V Q X : Nat → Int) (w : World) : Prop where
 below : Below w0.heap.size w0 w
 ge : w0.heap.size ≤ bv ∧ w0.heap.size ≤ b1 ∧ w0.heap.size ≤ b2 ∧ w0.heap.size ≤ bq ∧ w0.heap.size ≤ bx
 ne : bv ≠ bq ∧ bv ≠ bx ∧ b1 ≠ bq ∧ b1 ≠ bx ∧ b2 ≠ bq ∧ b2 ≠ bx ∧ bq ≠ bx
 v : ∀ k, k < 4 → w.cell? ⟨bv, k, none⟩ = some (.int .u64 (V k))
 r1 : ∀ k, k < 8 → w.cell? ⟨b1, k, none⟩ = some (.int .u64 0)
 r2 : ∀ k, k < 4 → w.cell? ⟨b2, k, none⟩ = some (.int .u64 0)
 q : ∀ k, k < 8 → w.cell? ⟨bq, k, none⟩ = some (.int .u64 (Q k))
 x : ∀ k, k < 9 → w.cell? ⟨bx, k, none⟩ = some (.int .u64 (X k))
 fv : ∀ o, w.frozen? ⟨bv, o, none⟩ = false
 f1 : ∀ o, w.frozen? ⟨b1, o, none⟩ = false
 f2 : ∀ o, w.frozen? ⟨b2, o, none⟩ = false
 fq : ∀ o, w.frozen? ⟨bq, o, none⟩ = false
 fx : ∀ o, w.frozen? ⟨bx, o, none⟩ = false
 sz : bv < w.heap.size ∧ b1 < w.heap.size ∧ b2 < w.heap.size ∧ bq < w.heap.size ∧ bx < w.heap.size
theorem Wr.below {b lo hi B : Nat} {u w : World} (h : Wr b lo hi u w) (hB : B ≤ b) : Below B u w :=
 ⟨h.os, h.tape, h.output, Nat.le_of_eq h.size.symm, fun k hk => h.block k (by omega)⟩
theorem Dv.step {w0 : World} {bv b1 b2 bq bx t n : Nat} {V Q X Y : Nat → Int} {q : Int} {w w2 : World} (D : Dv w0 bv b1 b2 bq bx V Q X w) (hW : Wr bx t (t + n + 1) w w2)
 (hY : ∀ i, i ≤ n → w2.cell? ⟨bx, t + i, none⟩ = some (.int .u64 (Y i))) (ht : t < 8) : Dv w0 bv b1 b2 bq bx V (put Q t q) (splice X Y t n) (w2.setCell ⟨bq, t, none⟩ (.int .u64 q)) := by
 obtain ⟨n1, n2, n3, n4, n5, n6, n7⟩ := D.ne; obtain ⟨g1, g2, g3, g4, g5⟩ := D.ge; have far : ∀ b o, b ≠ bq → (w2.setCell ⟨bq, t, none⟩ (.int .u64 q)).cell? ⟨b, o, none⟩ = w2.cell? ⟨b, o, none⟩ := fun b o hb => World.cell?_setCell_other _ _ _ _ (by intro e; simp at e <;> omega)
 have fr : ∀ a, (w2.setCell ⟨bq, t, none⟩ (.int .u64 q)).frozen? a = w.frozen? a := fun a => (World.frozen?_setCell _ _ _ _).trans (hW.frozen a)
 refine ⟨(D.below.trans (hW.below g5)).setCell g4 _, D.ge, D.ne, ?_, ?_, ?_, ?_, ?_, ?_, ?_, ?_, ?_, ?_, ?_⟩
 · intro k hk; rw [far _ _ n1, hW.other n2]; exact D.v k hk
 · intro k hk; rw [far _ _ n3, hW.other n4]; exact D.r1 k hk
 · intro k hk; rw [far _ _ n5, hW.other n6]; exact D.r2 k hk
 · intro k hk
   by_cases h : k = t
   · subst h; rw [put_same]; exact World.cell?_setCell_same _ _ _ ((hW.other n7).trans (D.q k hk))
   · rw [put_other _ _ _ h, World.cell?_setCell_other _ _ _ _ (by intro e; simp at e <;> omega), hW.other n7]; exact D.q k hk
 · intro k hk
   rw [far _ _ (Ne.symm n7)]; by_cases h : t ≤ k ∧ k ≤ t + n
   · obtain ⟨j, rfl⟩ : ∃ j, k = t + j := ⟨k - t, by omega⟩
     rw [splice_in _ _ _ _ _ (by omega)]; exact hY j (by omega)
   · rw [splice_out _ _ _ _ _ (by omega), hW.cell k (by omega)]; exact D.x k hk
 · intro o; rw [fr]; exact D.fv o
 · intro o; rw [fr]; exact D.f1 o
 · intro o; rw [fr]; exact D.f2 o
 · intro o; rw [fr]; exact D.fq o
 · intro o; rw [fr]; exact D.fx o
 · have := D.sz; have := hW.size; simp [World.setCell]; omega
end Go.Proofs.YtojfcdjgcgnajaaGreat.Wd
namespace Go.Proofs.YtojfcdjgcgnajaaGreat.Wd
open Go.RowKit
set_option linter.unusedSimpArgs false
set_option linter.unusedVariables false
theorem len_ex (y : Int) (h0 : 0 < y) (h1 : y < 18446744073709551616) : ∃ L : Nat, 1 ≤ L ∧ L ≤ 64 ∧ (∀ w, Calls Tryz.prog 129 #[.int .u64 y] w fun e w' => e = .returned (.int .i64 L) ∧ w' = w) ∧ Hid (2 ^ (L - 1) ≤ y ∧ y < 2 ^ L) := by
 have h : 1 ≤ Lib.bitLen y.toNat ∧ 2 ^ (Lib.bitLen y.toNat - 1) ≤ y.toNat ∧ y.toNat < 2 ^ Lib.bitLen y.toNat := Lib.bitLenAux_bounds 64 y.toNat (by omega) (by omega); have hle : Lib.bitLen y.toNat ≤ 64 := Lib.bitLen_le y.toNat 64 (Nat.le_refl _) (by omega); have hc := Tryz.bits_Len64 y; generalize Lib.bitLen y.toNat = L at *; refine ⟨L, h.1, hle, fun w => hc w (by omega) (by omega), ?_⟩; have e : ∀ k : Nat, (2 : Int) ^ k = ((2 ^ k : Nat) : Int) := fun k => by simp
 show _ ∧ _; rw [e, e]; omega
set_option maxHeartbeats 1000000 in
theorem bitLen_0 (a0 : Int) (ha : L4 a0 0 0 0) (h : a0 ≠ 0) (w : World) :
 Calls Tryz.prog 137 #[W4 a0 0 0 0] w fun e w' => ∃ n : Nat, e = .returned (.int .i64 n) ∧ n ≤ 256 ∧ Hid (num a0 0 0 0 < 2 ^ n ∧ (n = 0 ∨ 2 ^ (n - 1) ≤ num a0 0 0 0)) ∧ Below w.heap.size w w' := by
 have hl : Limb a0 := ha.1; obtain ⟨hl0, hl1⟩ := hl; obtain ⟨L, hL0, hL1, HL, HE⟩ := len_ex a0 (by omega) hl1; have HL : Hid _ := HL; have hu : usedN a0 0 0 0 = 1 := by unfold usedN; simp [h]
 have HU : Hid (∀ w, Calls Tryz.prog 97 #[W4 a0 0 0 0] w fun e w' => e = .returned (.int .i64 1) ∧ ∃ c, w' = w.alloc (.cells c 51)) := fun w => by
  have := used_any a0 0 0 0 w; rw [hu] at this; exact this
 have HN : Hid (num a0 0 0 0 < 2 ^ (0 + L) ∧ (0 + L = 0 ∨ 2 ^ (0 + L - 1) ≤ num a0 0 0 0)) := by
  obtain ⟨h1, h2⟩ := HE.out; obtain ⟨⟨_, _⟩, ⟨_, _⟩, ⟨_, _⟩, ⟨_, _⟩⟩ := ha; have e1 : (2 : Int) ^ (0 + L) = 1 * 2 ^ L := by rw [Int.pow_add]; rfl
  have e2 : (2 : Int) ^ (0 + L - 1) = 1 * 2 ^ (L - 1) := by rw [show 0 + L - 1 = 0 + (L - 1) from by omega, Int.pow_add]; rfl
  show _ ∧ _; rw [e1, e2]; unfold num; exact ⟨by omega, Or.inr (by omega)⟩
 clear HE ha hu h; unfold W4 at *; go_enter Tryz.func137, Tryz.ntmps137; go_wp2_with fail; refine Calls.mono (HU.out _) ?_; rintro e w1 ⟨rfl, c, rfl⟩; go_wp2_with (first | (go_at_call 129; go_must (refine Calls.mono (HL.out _) ?_; rintro e w' ⟨rfl, rfl⟩))); go_ret; exact ⟨0 + L, by first | rfl | go_num | (simp; done), by omega, HN, by go_grown⟩
set_option maxHeartbeats 1000000 in
theorem bitLen_1 (a0 a1 : Int) (ha : L4 a0 a1 0 0) (h : a1 ≠ 0) (w : World) :
 Calls Tryz.prog 137 #[W4 a0 a1 0 0] w fun e w' => ∃ n : Nat, e = .returned (.int .i64 n) ∧ n ≤ 256 ∧ Hid (num a0 a1 0 0 < 2 ^ n ∧ (n = 0 ∨ 2 ^ (n - 1) ≤ num a0 a1 0 0)) ∧ Below w.heap.size w w' := by
 have hl : Limb a1 := ha.2.1; obtain ⟨hl0, hl1⟩ := hl; obtain ⟨L, hL0, hL1, HL, HE⟩ := len_ex a1 (by omega) hl1; have HL : Hid _ := HL; have hu : usedN a0 a1 0 0 = 2 := by unfold usedN; simp [h]
 have HU : Hid (∀ w, Calls Tryz.prog 97 #[W4 a0 a1 0 0] w fun e w' => e = .returned (.int .i64 2) ∧ ∃ c, w' = w.alloc (.cells c 51)) := fun w => by
  have := used_any a0 a1 0 0 w; rw [hu] at this; exact this
 have HN : Hid (num a0 a1 0 0 < 2 ^ (64 + L) ∧ (64 + L = 0 ∨ 2 ^ (64 + L - 1) ≤ num a0 a1 0 0)) := by
  obtain ⟨h1, h2⟩ := HE.out; obtain ⟨⟨_, _⟩, ⟨_, _⟩, ⟨_, _⟩, ⟨_, _⟩⟩ := ha; have e1 : (2 : Int) ^ (64 + L) = 18446744073709551616 * 2 ^ L := by rw [Int.pow_add]; rfl
  have e2 : (2 : Int) ^ (64 + L - 1) = 18446744073709551616 * 2 ^ (L - 1) := by rw [show 64 + L - 1 = 64 + (L - 1) from by omega, Int.pow_add]; rfl
  show _ ∧ _; rw [e1, e2]; unfold num; exact ⟨by omega, Or.inr (by omega)⟩
 clear HE ha hu h; unfold W4 at *; go_enter Tryz.func137, Tryz.ntmps137; go_wp2_with fail; refine Calls.mono (HU.out _) ?_; rintro e w1 ⟨rfl, c, rfl⟩; go_wp2_with (first | (go_at_call 129; go_must (refine Calls.mono (HL.out _) ?_; rintro e w' ⟨rfl, rfl⟩))); go_ret; exact ⟨64 + L, by first | rfl | go_num | (simp; done), by omega, HN, by go_grown⟩
set_option maxHeartbeats 1000000 in
theorem bitLen_2 (a0 a1 a2 : Int) (ha : L4 a0 a1 a2 0) (h : a2 ≠ 0) (w : World) :
 Calls Tryz.prog 137 #[W4 a0 a1 a2 0] w fun e w' => ∃ n : Nat, e = .returned (.int .i64 n) ∧ n ≤ 256 ∧ Hid (num a0 a1 a2 0 < 2 ^ n ∧ (n = 0 ∨ 2 ^ (n - 1) ≤ num a0 a1 a2 0)) ∧ Below w.heap.size w w' := by
 have hl : Limb a2 := ha.2.2.1; obtain ⟨hl0, hl1⟩ := hl; obtain ⟨L, hL0, hL1, HL, HE⟩ := len_ex a2 (by omega) hl1; have HL : Hid _ := HL; have hu : usedN a0 a1 a2 0 = 3 := by unfold usedN; simp [h]
 have HU : Hid (∀ w, Calls Tryz.prog 97 #[W4 a0 a1 a2 0] w fun e w' => e = .returned (.int .i64 3) ∧ ∃ c, w' = w.alloc (.cells c 51)) := fun w => by
  have := used_any a0 a1 a2 0 w; rw [hu] at this; exact this
 have HN : Hid (num a0 a1 a2 0 < 2 ^ (128 + L) ∧ (128 + L = 0 ∨ 2 ^ (128 + L - 1) ≤ num a0 a1 a2 0)) := by
  obtain ⟨h1, h2⟩ := HE.out; obtain ⟨⟨_, _⟩, ⟨_, _⟩, ⟨_, _⟩, ⟨_, _⟩⟩ := ha; have e1 : (2 : Int) ^ (128 + L) = 340282366920938463463374607431768211456 * 2 ^ L := by rw [Int.pow_add]; rfl
  have e2 : (2 : Int) ^ (128 + L - 1) = 340282366920938463463374607431768211456 * 2 ^ (L - 1) := by rw [show 128 + L - 1 = 128 + (L - 1) from by omega, Int.pow_add]; rfl
  show _ ∧ _; rw [e1, e2]; unfold num; exact ⟨by omega, Or.inr (by omega)⟩
 clear HE ha hu h; unfold W4 at *; go_enter Tryz.func137, Tryz.ntmps137; go_wp2_with fail; refine Calls.mono (HU.out _) ?_; rintro e w1 ⟨rfl, c, rfl⟩; go_wp2_with (first | (go_at_call 129; go_must (refine Calls.mono (HL.out _) ?_; rintro e w' ⟨rfl, rfl⟩))); go_ret; exact ⟨128 + L, by first | rfl | go_num | (simp; done), by omega, HN, by go_grown⟩
set_option maxHeartbeats 1000000 in
theorem bitLen_3 (a0 a1 a2 a3 : Int) (ha : L4 a0 a1 a2 a3) (h : a3 ≠ 0) (w : World) :
 Calls Tryz.prog 137 #[W4 a0 a1 a2 a3] w fun e w' => ∃ n : Nat, e = .returned (.int .i64 n) ∧ n ≤ 256 ∧ Hid (num a0 a1 a2 a3 < 2 ^ n ∧ (n = 0 ∨ 2 ^ (n - 1) ≤ num a0 a1 a2 a3)) ∧ Below w.heap.size w w' := by
 have hl : Limb a3 := ha.2.2.2; obtain ⟨hl0, hl1⟩ := hl; obtain ⟨L, hL0, hL1, HL, HE⟩ := len_ex a3 (by omega) hl1; have HL : Hid _ := HL; have hu : usedN a0 a1 a2 a3 = 4 := by unfold usedN; simp [h]
 have HU : Hid (∀ w, Calls Tryz.prog 97 #[W4 a0 a1 a2 a3] w fun e w' => e = .returned (.int .i64 4) ∧ ∃ c, w' = w.alloc (.cells c 51)) := fun w => by
  have := used_any a0 a1 a2 a3 w; rw [hu] at this; exact this
 have HN : Hid (num a0 a1 a2 a3 < 2 ^ (192 + L) ∧ (192 + L = 0 ∨ 2 ^ (192 + L - 1) ≤ num a0 a1 a2 a3)) := by
  obtain ⟨h1, h2⟩ := HE.out; obtain ⟨⟨_, _⟩, ⟨_, _⟩, ⟨_, _⟩, ⟨_, _⟩⟩ := ha; have e1 : (2 : Int) ^ (192 + L) = 6277101735386680763835789423207666416102355444464034512896 * 2 ^ L := by rw [Int.pow_add]; rfl
  have e2 : (2 : Int) ^ (192 + L - 1) = 6277101735386680763835789423207666416102355444464034512896 * 2 ^ (L - 1) := by rw [show 192 + L - 1 = 192 + (L - 1) from by omega, Int.pow_add]; rfl
  show _ ∧ _; rw [e1, e2]; unfold num; exact ⟨by omega, Or.inr (by omega)⟩
 clear HE ha hu h; unfold W4 at *; go_enter Tryz.func137, Tryz.ntmps137; go_wp2_with fail; refine Calls.mono (HU.out _) ?_; rintro e w1 ⟨rfl, c, rfl⟩; go_wp2_with (first | (go_at_call 129; go_must (refine Calls.mono (HL.out _) ?_; rintro e w' ⟨rfl, rfl⟩))); go_ret; exact ⟨192 + L, by first | rfl | go_num | (simp; done), by omega, HN, by go_grown⟩
set_option maxHeartbeats 1000000 in
theorem bitLen_none (w : World) :
 Calls Tryz.prog 137 #[W4 0 0 0 0] w fun e w' => e = .returned (.int .i64 0) ∧ Below w.heap.size w w' := by
 have HU : Hid (∀ w, Calls Tryz.prog 97 #[W4 0 0 0 0] w fun e w' => e = .returned (.int .i64 0) ∧ ∃ c, w' = w.alloc (.cells c 51)) := fun w => used_any 0 0 0 0 w
 unfold W4 at *; go_enter Tryz.func137, Tryz.ntmps137; go_wp2_with fail; refine Calls.mono (HU.out _) ?_; rintro e w1 ⟨rfl, c, rfl⟩; go_wp2; go_ret; exact ⟨rfl, by go_grown⟩
theorem bitLen_any (a0 a1 a2 a3 : Int) (ha : L4 a0 a1 a2 a3) (w : World) :
 Calls Tryz.prog 137 #[W4 a0 a1 a2 a3] w fun e w' => ∃ n : Nat, e = .returned (.int .i64 n) ∧ n ≤ 256 ∧ Hid (num a0 a1 a2 a3 < 2 ^ n ∧ (n = 0 ∨ 2 ^ (n - 1) ≤ num a0 a1 a2 a3)) ∧ Below w.heap.size w w' := by
 by_cases h3 : a3 = 0
 · subst h3
   by_cases h2 : a2 = 0
   · subst h2
     by_cases h1 : a1 = 0
     · subst h1
       by_cases h0 : a0 = 0
       · subst h0
         exact (bitLen_none w).mono fun e w' ⟨he, hw⟩ => ⟨0, he, by omega, ⟨by decide, Or.inl rfl⟩, hw⟩
       · exact bitLen_0 a0 ha h0 w
     · exact bitLen_1 a0 a1 ha h1 w
   · exact bitLen_2 a0 a1 a2 ha h2 w
 · exact bitLen_3 a0 a1 a2 a3 ha h3 w
end Go.Proofs.YtojfcdjgcgnajaaGreat.Wd
