/- Words that are handed about: calls by what they give; field.minusRoot. -/
import Derived.Test.YtmflilgppllebaaFP
import Derived.Test.YtmflilgppllebaaX1
import Derived.Test.YtmflilgppllebaaW4
namespace Go.Proofs.Ytmflilgppllebaa
open Go.RowKit
set_option linter.unusedSimpArgs false
set_option linter.unusedVariables false

theorem modC : ModC := fun a0 a1 a2 a3 b0 b1 b2 b3 ha hb h0 w => by
  refine (mod_any a0 a1 a2 a3 b0 b1 b2 b3 ha hb w).mono ?_
  rintro e w' ⟨s0, s1, s2, s3, rfl, hL, hN, hw⟩
  refine ⟨s0, s1, s2, s3, rfl, hL, ?_, hw⟩
  show _ = _
  rw [hN.out]; unfold remN; rw [if_neg (by omega)]
/-- The value is the word of that number. -/
def IsW (v : Value) (x : Int) : Prop := ∃ s0 s1 s2 s3, v = W4 s0 s1 s2 s3 ∧ L4 s0 s1 s2 s3 ∧ num s0 s1 s2 s3 = x
/-- The call gives the word of that number. -/
def GivesW (f : Nat) (args : Array Value) (x : Int) : Prop := ∀ w : World, Calls Try.prog f args w fun e w' => ∃ v, e = .returned v ∧ IsW v x ∧ Below w.heap.size w w'
theorem IsW.bd {v : Value} {x : Int} (h : IsW v x) : 0 ≤ x ∧ x < T256 := by
  obtain ⟨s0, s1, s2, s3, _, hL, rfl⟩ := h; exact num_bd hL
theorem IsW.uniq {v u : Value} {x : Int} (h : IsW v x) (k : IsW u x) : v = u := by
  obtain ⟨s0, s1, s2, s3, rfl, hL, hx⟩ := h
  obtain ⟨t0, t1, t2, t3, rfl, hK, rfl⟩ := k
  obtain ⟨rfl, rfl, rfl, rfl⟩ := num_inj hL hK hx
  rfl
theorem IsW.mk {s0 s1 s2 s3 : Int} (h : L4 s0 s1 s2 s3) : IsW (W4 s0 s1 s2 s3) (num s0 s1 s2 s3) := ⟨_, _, _, _, rfl, h, rfl⟩
theorem limb_lit (n : Nat) (h : n < 18446744073709551616) : Limb (n : Int) := ⟨by omega, by omega⟩
theorem isw_small (n : Nat) (h : n < 18446744073709551616) : IsW (W4 (n : Int) 0 0 0) (n : Int) := ⟨_, _, _, _, rfl, ⟨limb_lit n h, limb_lit 0 (by decide), limb_lit 0 (by decide), limb_lit 0 (by decide)⟩, by unfold num; omega⟩
theorem g_p : GivesW 50 #[] PP := fun w => (p_any w).mono (by rintro e w' ⟨rfl, hb⟩; exact ⟨_, rfl, ⟨_, _, _, _, rfl, p_L4, p_num⟩, hb⟩)
theorem g_of (n : Nat) (h : n < 18446744073709551616) : GivesW 45 #[.int .u64 (n : Int)] (n : Int) := fun w => (of_exact (n : Int) w).mono (by rintro e w' ⟨rfl, c, rfl⟩; exact ⟨_, rfl, isw_small n h, by go_grown⟩)
theorem g_add {va vb : Value} {x y : Int} (ha : IsW va x) (hb : IsW vb y) : GivesW 56 #[va, vb] ((x + y) % T256) := fun w => by
  obtain ⟨a0, a1, a2, a3, rfl, la, rfl⟩ := ha
  obtain ⟨b0, b1, b2, b3, rfl, lb, rfl⟩ := hb
  refine (add_any a0 a1 a2 a3 b0 b1 b2 b3 la lb w).mono ?_
  rintro e w' ⟨s0, s1, s2, s3, rfl, hL, hN, hw⟩
  exact ⟨_, rfl, ⟨s0, s1, s2, s3, rfl, hL, hN.out⟩, hw⟩
theorem g_sub {va vb : Value} {x y : Int} (ha : IsW va x) (hb : IsW vb y) : GivesW 58 #[va, vb] ((x - y) % T256) := fun w => by
  obtain ⟨a0, a1, a2, a3, rfl, la, rfl⟩ := ha
  obtain ⟨b0, b1, b2, b3, rfl, lb, rfl⟩ := hb
  refine (sub_any a0 a1 a2 a3 b0 b1 b2 b3 la lb w).mono ?_
  rintro e w' ⟨s0, s1, s2, s3, rfl, hL, hN, hw⟩
  exact ⟨_, rfl, ⟨s0, s1, s2, s3, rfl, hL, hN.out⟩, hw⟩
theorem g_shr {va vb : Value} {x y : Int} (ha : IsW va x) (hb : IsW vb y) : GivesW 55 #[va, vb] (shrN x y) := fun w => by
  obtain ⟨a0, a1, a2, a3, rfl, la, rfl⟩ := ha
  obtain ⟨b0, b1, b2, b3, rfl, lb, rfl⟩ := hb
  refine (shr_any a0 a1 a2 a3 b0 b1 b2 b3 la lb w).mono ?_
  rintro e w' ⟨s0, s1, s2, s3, rfl, hL, hN, hw⟩
  exact ⟨_, rfl, ⟨s0, s1, s2, s3, rfl, hL, hN.out⟩, hw⟩
theorem g_fadd {va vb : Value} {x y : Int} (ha : IsW va x) (hb : IsW vb y) : GivesW 9 #[va, vb] ((x + y) % PP) := fun w => by
  obtain ⟨a0, a1, a2, a3, rfl, la, rfl⟩ := ha
  obtain ⟨b0, b1, b2, b3, rfl, lb, rfl⟩ := hb
  refine (fadd_any modC a0 a1 a2 a3 b0 b1 b2 b3 la lb w).mono ?_
  rintro e w' ⟨s0, s1, s2, s3, rfl, hL, hN, hw⟩
  exact ⟨_, rfl, ⟨s0, s1, s2, s3, rfl, hL, hN.out⟩, hw⟩
theorem g_fsub {va vb : Value} {x y : Int} (ha : IsW va x) (hb : IsW vb y) : GivesW 11 #[va, vb] ((x - y) % PP) := fun w => by
  obtain ⟨a0, a1, a2, a3, rfl, la, rfl⟩ := ha
  obtain ⟨b0, b1, b2, b3, rfl, lb, rfl⟩ := hb
  refine (fsub_any modC a0 a1 a2 a3 b0 b1 b2 b3 la lb w).mono ?_
  rintro e w' ⟨s0, s1, s2, s3, rfl, hL, hN, hw⟩
  exact ⟨_, rfl, ⟨s0, s1, s2, s3, rfl, hL, hN.out⟩, hw⟩
theorem g_fmul {va vb : Value} {x y : Int} (ha : IsW va x) (hb : IsW vb y) : GivesW 13 #[va, vb] ((x * y) % PP) := fun w => by
  obtain ⟨a0, a1, a2, a3, rfl, la, rfl⟩ := ha
  obtain ⟨b0, b1, b2, b3, rfl, lb, rfl⟩ := hb
  refine (fmul_any modC a0 a1 a2 a3 b0 b1 b2 b3 la lb w).mono ?_
  rintro e w' ⟨s0, s1, s2, s3, rfl, hL, hN, hw⟩
  exact ⟨_, rfl, ⟨s0, s1, s2, s3, rfl, hL, hN.out⟩, hw⟩
theorem g_fbelow {va : Value} {x : Int} (ha : IsW va x) : GivesW 54 #[va] (x % PP) := fun w => by
  obtain ⟨a0, a1, a2, a3, rfl, la, rfl⟩ := ha
  refine (fbelow_any modC a0 a1 a2 a3 la w).mono ?_
  rintro e w' ⟨s0, s1, s2, s3, rfl, hL, hN, hw⟩
  exact ⟨_, rfl, ⟨s0, s1, s2, s3, rfl, hL, hN.out⟩, hw⟩
theorem two256 : ((2 ^ 256 : Nat) : Int) = T256 := by decide
theorem g_fpow {va vb : Value} {x : Int} (E : Nat) (ha : IsW va x) (hb : IsW vb (E : Int)) : GivesW 15 #[va, vb] (x ^ E % PP) := fun w => by
  have hE := hb.bd
  obtain ⟨a0, a1, a2, a3, rfl, la, hx⟩ := ha
  obtain ⟨b0, b1, b2, b3, rfl, lb, hy⟩ := hb
  refine (fpow_any modC a0 a1 a2 a3 b0 b1 b2 b3 la lb x hx E hy.symm (by have := two256; omega) w).mono ?_
  rintro e w' ⟨s0, s1, s2, s3, rfl, hL, hN, hw⟩
  exact ⟨_, rfl, ⟨s0, s1, s2, s3, rfl, hL, hN.out⟩, hw⟩
theorem g_bit0 {va : Value} {x : Int} (ha : IsW va x) (w : World) : Calls Try.prog 46 #[va, .int .i64 0] w fun e w' => e = .returned (.bool (decide (x % 2 = 1))) ∧ Below w.heap.size w w' := by
  obtain ⟨a0, a1, a2, a3, rfl, la, rfl⟩ := ha
  have h := bit_any a0 a1 a2 a3 la 0 (by decide) w
  simpa using h
theorem eqW {va vb : Value} {x y : Int} (ha : IsW va x) (hb : IsW vb y) (w : World) : (Op.equalIn 10000 24 va vb).run Try.prog w = .ok (x == y) w := by
  obtain ⟨a0, a1, a2, a3, rfl, la, rfl⟩ := ha
  obtain ⟨b0, b1, b2, b3, rfl, lb, rfl⟩ := hb
  exact eq24_num la lb w
end Go.Proofs.Ytmflilgppllebaa
