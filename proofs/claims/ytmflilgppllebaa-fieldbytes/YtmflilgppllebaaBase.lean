/- The base of the walks over package word: math/bits.Add64 and Sub64 over Int. -/
import Derived.Test.YtmflilgppllebaaChecked
import Derived.Test.YtmflilgppllebaaShelf
import Derived.Shelf.Spec.BitsCarry
import Derived.WalkKit
import Derived.WalkSpells
import Derived.StillTactics
import Derived.Laws.Pointers
import Derived.Laws.Externs
import Derived.Deep.RegionHeld3
import Derived.RowKit3
import Derived.Handy
import Derived.Lib.Mul64
import Derived.Laws.Bits64b
import Derived.BigQuiet
import Derived.Deep.QuietTactic
import Derived.Deep.DeepCutAuto
import Derived.Deep.DeepFit
namespace Go.Proofs.Ytmflilgppllebaa
open Go.RowKit

theorem add64 (x y c : Int) (hx : 0 ≤ x) (hy : 0 ≤ y) (hc0 : 0 ≤ c) (hc : c ≤ 1) (w : World) : (callFunc 35 #[.int .u64 x, .int .u64 y, .int .u64 c]).run Try.prog w =
    .ok (.value (.tuple #[.int .u64 ((x + y + c) % 18446744073709551616), .int .u64 ((x + y + c) / 18446744073709551616)])) w := by
  obtain ⟨x, rfl⟩ := Int.eq_ofNat_of_zero_le hx
  obtain ⟨y, rfl⟩ := Int.eq_ofNat_of_zero_le hy
  obtain ⟨c, rfl⟩ := Int.eq_ofNat_of_zero_le hc0
  rw [run_callFunc_extern Try.func35 (by kernel_rfl) (by kernel_rfl) (by kernel_rfl) (e := add64Entry) (by kernel_rfl), run_add64 x y c (by omega) (by omega) (by omega) (by omega)]
  simp only [Result.andThen]
theorem sub64 (x y b : Int) (hx : 0 ≤ x) (hy : 0 ≤ y) (hb0 : 0 ≤ b) (hb : b ≤ 1) (hy' : y < 18446744073709551616) (w : World) : (callFunc 41 #[.int .u64 x, .int .u64 y, .int .u64 b]).run Try.prog w =
    .ok (.value (.tuple #[.int .u64 ((x - y - b) % 18446744073709551616), .int .u64 (if x < y + b then 1 else 0)])) w := by
  obtain ⟨x, rfl⟩ := Int.eq_ofNat_of_zero_le hx
  obtain ⟨y, rfl⟩ := Int.eq_ofNat_of_zero_le hy
  obtain ⟨b, rfl⟩ := Int.eq_ofNat_of_zero_le hb0
  have e1 : (((x + 18446744073709551616 - y - b) % 18446744073709551616 : Nat) : Int) = ((x : Int) - y - b) % 18446744073709551616 := by omega
  have e2 : ((if x < y + b then 1 else 0 : Nat) : Int) = if (x : Int) < y + b then 1 else 0 := by split <;> split <;> omega
  rw [← e1, ← e2, run_callFunc_extern Try.func41 (by kernel_rfl) (by kernel_rfl) (by kernel_rfl) (e := sub64Entry) (by kernel_rfl), run_sub64 x y b (by omega)]
  rfl

/-- One limb. -/
def Limb (x : Int) : Prop := 0 ≤ x ∧ x < 18446744073709551616
/-- Four limbs. -/
def L4 (a0 a1 a2 a3 : Int) : Prop := Limb a0 ∧ Limb a1 ∧ Limb a2 ∧ Limb a3
/-- The number of four limbs, the lowest first. -/
def num (a0 a1 a2 a3 : Int) : Int := a0 + 18446744073709551616 * a1 + 340282366920938463463374607431768211456 * a2 + 6277101735386680763835789423207666416102355444464034512896 * a3
/-- A word as a value. -/
abbrev W4 (a0 a1 a2 a3 : Int) : Value := .agg #[.int .u64 a0, .int .u64 a1, .int .u64 a2, .int .u64 a3]
/-- 2 to the 256. -/
def T256 : Int := 115792089237316195423570985008687907853269984665640564039457584007913129639936

theorem num_bd {a0 a1 a2 a3 : Int} (h : L4 a0 a1 a2 a3) : 0 ≤ num a0 a1 a2 a3 ∧ num a0 a1 a2 a3 < T256 := by
  obtain ⟨⟨_, _⟩, ⟨_, _⟩, ⟨_, _⟩, ⟨_, _⟩⟩ := h
  unfold num T256; omega
theorem num_inj {a0 a1 a2 a3 b0 b1 b2 b3 : Int} (h : L4 a0 a1 a2 a3) (k : L4 b0 b1 b2 b3) (e : num a0 a1 a2 a3 = num b0 b1 b2 b3) : a0 = b0 ∧ a1 = b1 ∧ a2 = b2 ∧ a3 = b3 := by
  obtain ⟨⟨_, _⟩, ⟨_, _⟩, ⟨_, _⟩, ⟨_, _⟩⟩ := h
  obtain ⟨⟨_, _⟩, ⟨_, _⟩, ⟨_, _⟩, ⟨_, _⟩⟩ := k
  unfold num at e; omega
/-- Every number below 2^256 has its four limbs. -/
theorem num_ex (n : Int) (h0 : 0 ≤ n) (h : n < T256) : ∃ a0 a1 a2 a3, L4 a0 a1 a2 a3 ∧ num a0 a1 a2 a3 = n := by
  unfold T256 at h
  refine ⟨n % 18446744073709551616, n / 18446744073709551616 % 18446744073709551616, n / 340282366920938463463374607431768211456 % 18446744073709551616, n / 6277101735386680763835789423207666416102355444464034512896, ⟨⟨?_, ?_⟩, ⟨?_, ?_⟩, ⟨?_, ?_⟩, ⟨?_, ?_⟩⟩, ?_⟩
  all_goals first | omega | (unfold num; omega)

theorem bcell {W w1 : World} (hb : Below W.heap.size W w1) : (∀ b o, b < W.heap.size → w1.cell? ⟨b, o, none⟩ = W.cell? ⟨b, o, none⟩) ∧ (∀ b o, b < W.heap.size → w1.frozen? ⟨b, o, none⟩ = W.frozen? ⟨b, o, none⟩) :=
  ⟨fun b o h => hb.cell (p := ⟨b, o, none⟩) h, fun b o h => hb.frozen (p := ⟨b, o, none⟩) h⟩
theorem add64_ex (x y c : Int) (hx : Limb x) (hy : Limb y) (hc0 : 0 ≤ c) (hc : c ≤ 1) : ∃ s d : Int,
    (∀ w, (callFunc 35 #[.int .u64 x, .int .u64 y, .int .u64 c]).run Try.prog w = .ok (.value (.tuple #[.int .u64 s, .int .u64 d])) w) ∧ Limb s ∧ 0 ≤ d ∧ d ≤ 1 ∧ Hid (x + y + c = s + 18446744073709551616 * d) :=
  ⟨_, _, add64 x y c hx.1 hy.1 hc0 hc, ⟨by omega, by omega⟩, by have := hx.1; have := hy.1; omega, by have := hx.2; have := hy.2; omega, by show x + y + c = _; omega⟩
theorem sub64_ex (x y c : Int) (hx : Limb x) (hy : Limb y) (hc0 : 0 ≤ c) (hc : c ≤ 1) : ∃ s d : Int,
    (∀ w, (callFunc 41 #[.int .u64 x, .int .u64 y, .int .u64 c]).run Try.prog w = .ok (.value (.tuple #[.int .u64 s, .int .u64 d])) w) ∧ Limb s ∧ 0 ≤ d ∧ d ≤ 1 ∧ Hid (x - y - c = s - 18446744073709551616 * d) := by
  obtain ⟨hx0, hx1⟩ := hx
  obtain ⟨hy0, hy1⟩ := hy
  refine ⟨_, _, sub64 x y c hx0 hy0 hc0 hc hy1, ⟨by omega, by omega⟩, by split <;> omega, by split <;> omega, ?_⟩
  show x - y - c = _
  split <;> omega

/-- The whole product of two limbs. -/
theorem mul64_any (x y : Int) (hx : Limb x) (hy : Limb y) (w : World) :
    Calls Try.prog 83 #[.int .u64 x, .int .u64 y] w fun e w' => ∃ h l : Int, e = .returned (.tuple #[.int .u64 h, .int .u64 l]) ∧ Limb l ∧ (0 ≤ h ∧ h ≤ 18446744073709551614) ∧ Hid (x * y = l + 18446744073709551616 * h) ∧ w' = w := by
  obtain ⟨hx0, hx1⟩ := hx
  obtain ⟨hy0, hy1⟩ := hy
  obtain ⟨x, rfl⟩ := Int.eq_ofNat_of_zero_le hx0
  obtain ⟨y, rfl⟩ := Int.eq_ofNat_of_zero_le hy0
  refine (Try.bits_Mul64 x y (by omega) (by omega) w).mono ?_
  rintro e w' ⟨rfl, rfl⟩
  have hb : x * y ≤ 18446744073709551615 * 18446744073709551615 := Nat.mul_le_mul (by omega) (by omega)
  refine ⟨_, _, rfl, ⟨by omega, by omega⟩, ⟨by omega, by omega⟩, ?_, rfl⟩
  show (x : Int) * (y : Int) = _
  rw [← Int.natCast_mul]
  omega
end Go.Proofs.Ytmflilgppllebaa
