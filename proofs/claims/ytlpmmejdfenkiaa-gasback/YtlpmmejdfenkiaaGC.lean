/- Walks over package gas: words, what a slot's change costs. -/
import Derived.Test.YtlpmmejdfenkiaaGA
import Derived.Laws.StructEq
import Derived.Deep.RegionHeld3
import Derived.BigQuiet
import Derived.Deep.QuietTactic
namespace Go.Proofs.Ytlpmmejdfenkiaa
open Go.RowKit
set_option linter.unusedSimpArgs false
set_option linter.unusedVariables false
/-- Four limbs. -/
def L4 (a0 a1 a2 a3 : Int) : Prop := U64 a0 ∧ U64 a1 ∧ U64 a2 ∧ U64 a3
/-- The number of four limbs, the lowest first. -/
def num (a0 a1 a2 a3 : Int) : Int := a0 + 18446744073709551616 * a1 + 340282366920938463463374607431768211456 * a2 + 6277101735386680763835789423207666416102355444464034512896 * a3
/-- A word as a value. -/
abbrev W4 (a0 a1 a2 a3 : Int) : Value := .agg #[.int .u64 a0, .int .u64 a1, .int .u64 a2, .int .u64 a3]
theorem num_inj {a0 a1 a2 a3 b0 b1 b2 b3 : Int} (h : L4 a0 a1 a2 a3) (k : L4 b0 b1 b2 b3) (e : num a0 a1 a2 a3 = num b0 b1 b2 b3) : a0 = b0 ∧ a1 = b1 ∧ a2 = b2 ∧ a3 = b3 := by
  obtain ⟨⟨_, _⟩, ⟨_, _⟩, ⟨_, _⟩, ⟨_, _⟩⟩ := h
  obtain ⟨⟨_, _⟩, ⟨_, _⟩, ⟨_, _⟩, ⟨_, _⟩⟩ := k
  unfold num at e; omega
theorem size22 (w : World) : (sizeOf 22).run Try.prog w = .ok 1 w := by kernel_rfl
set_option maxHeartbeats 1000000 in
/-- Two words are compared limb by limb. -/
theorem eq30 (a0 a1 a2 a3 b0 b1 b2 b3 : Int) (w : World) :
    (Op.equalIn 10000 30 (W4 a0 a1 a2 a3) (W4 b0 b1 b2 b3)).run Try.prog w = .ok (a0 == b0 && (a1 == b1 && (a2 == b2 && a3 == b3))) w := by
  unfold W4
  rw [Op.equalIn]
  simp only [Sem.run_bind, run_underlying Try.underlying30, Result.andThen_ok, size22]
  simp [Std.Legacy.Range.forIn_eq_forIn_range', List.range', go_sem]
  by_cases h0 : a0 = b0 <;> by_cases h1 : a1 = b1 <;> by_cases h2 : a2 = b2 <;> by_cases h3 : a3 = b3 <;> simp [h0, h1, h2, h3]
theorem eq30_num {a0 a1 a2 a3 b0 b1 b2 b3 : Int} (ha : L4 a0 a1 a2 a3) (hb : L4 b0 b1 b2 b3) (w : World) :
    (Op.equalIn 10000 30 (W4 a0 a1 a2 a3) (W4 b0 b1 b2 b3)).run Try.prog w = .ok (num a0 a1 a2 a3 == num b0 b1 b2 b3) w := by
  rw [eq30]
  congr 1
  rw [Bool.eq_iff_iff]
  simp only [Bool.and_eq_true, beq_iff_eq]
  constructor
  · rintro ⟨rfl, rfl, rfl, rfl⟩; rfl
  · intro h
    obtain ⟨h0, h1, h2, h3⟩ := num_inj ha hb h
    exact ⟨h0, h1, h2, h3⟩
theorem L40 : L4 0 0 0 0 := ⟨⟨by decide, by decide⟩, ⟨by decide, by decide⟩, ⟨by decide, by decide⟩, ⟨by decide, by decide⟩⟩
theorem num0 : num 0 0 0 0 = 0 := by decide
theorem eq30_zero {a0 a1 a2 a3 : Int} (ha : L4 a0 a1 a2 a3) (w : World) :
    (Op.equalIn 10000 30 (W4 a0 a1 a2 a3) (W4 0 0 0 0)).run Try.prog w = .ok (num a0 a1 a2 a3 == 0) w := by
  have := eq30_num ha L40 w
  rw [num0] at this
  exact this
set_option maxHeartbeats 1000000 in
/-- word.Zero -/
theorem zero_any (a0 a1 a2 a3 : Int) (ha : L4 a0 a1 a2 a3) (w : World) :
    Calls Try.prog 49 #[W4 a0 a1 a2 a3] w fun e w' => e = .returned (.bool (num a0 a1 a2 a3 == 0)) ∧ ∃ c, w' = w.alloc (.cells c 30) := by
  have q := fun w => eq30_zero ha w
  generalize (num a0 a1 a2 a3 == 0) = r at *
  unfold W4 at *
  go_enter Try.func49, Try.ntmps49
  go_wp2
  go_returns
  exact ⟨rfl, _, rfl⟩
/-- The refund for a slot that goes; for one that comes back. -/
def clrN (zf zn zx : Bool) : Int := if zf then 0 else if zn then -4800 else if zx then 4800 else 0
def backN (exf zf : Bool) : Int := if exf then (if zf then 19900 else 2800) else 0
set_option maxHeartbeats 4000000 in
/-- gas.clearing -/
theorem clearing_any (f0 f1 f2 f3 n0 n1 n2 n3 x0 x1 x2 x3 : Int) (hf : L4 f0 f1 f2 f3) (hn : L4 n0 n1 n2 n3) (hx : L4 x0 x1 x2 x3) (w : World) :
    Calls Try.prog 47 #[W4 f0 f1 f2 f3, W4 n0 n1 n2 n3, W4 x0 x1 x2 x3] w fun e w' => e = .returned (.int .i64 (clrN (num f0 f1 f2 f3 == 0) (num n0 n1 n2 n3 == 0) (num x0 x1 x2 x3 == 0))) ∧ Below w.heap.size w w' := by
  have ZF := zero_any f0 f1 f2 f3 hf
  have ZN := zero_any n0 n1 n2 n3 hn
  have ZX := zero_any x0 x1 x2 x3 hx
  generalize (num f0 f1 f2 f3 == 0) = zf at *
  generalize (num n0 n1 n2 n3 == 0) = zn at *
  generalize (num x0 x1 x2 x3 == 0) = zx at *
  clear hf hn hx
  unfold W4 at *
  cases zf
  · cases zn
    · cases zx
      all_goals
        go_enter Try.func47, Try.ntmps47
        go_wp2_with fail
        refine (ZF _).mono ?_
        rintro e w' ⟨rfl, c, rfl⟩
        go_wp2_with fail
        refine (ZN _).mono ?_
        rintro e w' ⟨rfl, c, rfl⟩
        go_wp2_with fail
        refine (ZX _).mono ?_
        rintro e w' ⟨rfl, c, rfl⟩
        go_wp2
        go_returns
        exact ⟨rfl, by go_grown⟩
    · go_enter Try.func47, Try.ntmps47
      go_wp2_with fail
      refine (ZF _).mono ?_
      rintro e w' ⟨rfl, c, rfl⟩
      go_wp2_with fail
      refine (ZN _).mono ?_
      rintro e w' ⟨rfl, c, rfl⟩
      go_wp2
      go_returns
      exact ⟨rfl, by go_grown⟩
  · go_enter Try.func47, Try.ntmps47
    go_wp2_with fail
    refine (ZF _).mono ?_
    rintro e w' ⟨rfl, c, rfl⟩
    go_wp2
    go_returns
    exact ⟨rfl, by go_grown⟩
set_option maxHeartbeats 4000000 in
/-- gas.comingBack -/
theorem comingBack_any (f0 f1 f2 f3 x0 x1 x2 x3 : Int) (hf : L4 f0 f1 f2 f3) (hx : L4 x0 x1 x2 x3) (w : World) :
    Calls Try.prog 48 #[W4 f0 f1 f2 f3, W4 x0 x1 x2 x3] w fun e w' => e = .returned (.int .i64 (backN (num x0 x1 x2 x3 == num f0 f1 f2 f3) (num f0 f1 f2 f3 == 0))) ∧ Below w.heap.size w w' := by
  have ZF := zero_any f0 f1 f2 f3 hf
  have q := fun w => eq30_num hx hf w
  generalize (num x0 x1 x2 x3 == num f0 f1 f2 f3) = r at *
  generalize (num f0 f1 f2 f3 == 0) = zf at *
  clear hf hx
  unfold W4 at *
  cases r
  · go_enter Try.func48, Try.ntmps48
    go_wp2
    go_returns
    exact ⟨rfl, by go_grown⟩
  · cases zf
    all_goals
      go_enter Try.func48, Try.ntmps48
      go_wp2_with fail
      refine (ZF _).mono ?_
      rintro e w' ⟨rfl, c, rfl⟩
      go_wp2
      go_returns
      exact ⟨rfl, by go_grown⟩
end Go.Proofs.Ytlpmmejdfenkiaa
