/- Walks over package gas: Sstore, the program's and the document's. -/
import Derived.Test.YtlpmmejdfenkiaaGD
namespace Go.Proofs.Ytlpmmejdfenkiaa
open Go.RowKit
set_option linter.unusedSimpArgs false
set_option linter.unusedVariables false
theorem cost_bd (a b c : Bool) : 100 ≤ costN a b c ∧ costN a b c ≤ 20000 := by cases a <;> cases b <;> cases c <;> decide
theorem ref_bd (a b c d e f : Bool) : -4800 ≤ refN a b c d e f ∧ refN a b c d e f ≤ 24700 := by cases a <;> cases b <;> cases c <;> cases d <;> cases e <;> cases f <;> decide
set_option maxHeartbeats 4000000 in
/-- gas.Sstore -/
theorem sstore_any (f0 f1 f2 f3 n0 n1 n2 n3 x0 x1 x2 x3 : Int) (warm : Bool) (hf : L4 f0 f1 f2 f3) (hn : L4 n0 n1 n2 n3) (hx : L4 x0 x1 x2 x3) (w : World) :
    Calls Try.prog 32 #[W4 f0 f1 f2 f3, W4 n0 n1 n2 n3, W4 x0 x1 x2 x3, .bool warm] w fun e w' => e = .returned (.tuple #[.int .u64 (costN (num x0 x1 x2 x3 == num n0 n1 n2 n3) (num n0 n1 n2 n3 == num f0 f1 f2 f3) (num f0 f1 f2 f3 == 0) + (if warm then 0 else 2100)), .int .i64 (refN (num x0 x1 x2 x3 == num n0 n1 n2 n3) (num n0 n1 n2 n3 == num f0 f1 f2 f3) (num x0 x1 x2 x3 == num f0 f1 f2 f3) (num f0 f1 f2 f3 == 0) (num n0 n1 n2 n3 == 0) (num x0 x1 x2 x3 == 0))]) ∧ Below w.heap.size w w' := by
  have HC : Hid (∀ w, _) := change_any f0 f1 f2 f3 n0 n1 n2 n3 x0 x1 x2 x3 hf hn hx
  generalize (num x0 x1 x2 x3 == num n0 n1 n2 n3) = en at *
  generalize (num n0 n1 n2 n3 == num f0 f1 f2 f3) = ef at *
  generalize (num x0 x1 x2 x3 == num f0 f1 f2 f3) = ex at *
  generalize (num f0 f1 f2 f3 == 0) = zf at *
  generalize (num n0 n1 n2 n3 == 0) = zn at *
  generalize (num x0 x1 x2 x3 == 0) = zx at *
  have hb := cost_bd en ef zf
  generalize costN en ef zf = c at *
  generalize refN en ef ex zf zn zx = r at *
  obtain ⟨b0, b1⟩ := hb
  clear hf hn hx
  unfold W4 at *
  cases warm
  all_goals
    go_enter Try.func32, Try.ntmps32
    go_wp2_with fail
    refine (HC.out _).mono ?_
    rintro e w1 ⟨rfl, hw⟩
    have hB : Below w.heap.size w w1 := Below.trans (by go_grown) (hw.mono (by simp; omega))
    go_wp2
    go_ret2
    first
      | exact ⟨rfl, by go_grown⟩
      | (refine ⟨?_, by go_grown⟩
         simp)
set_option maxHeartbeats 8000000 in
/-- The document's Sstore. -/
theorem rsstore_any (f0 f1 f2 f3 n0 n1 n2 n3 x0 x1 x2 x3 : Int) (warm : Bool) (hf : L4 f0 f1 f2 f3) (hn : L4 n0 n1 n2 n3) (hx : L4 x0 x1 x2 x3) (w : World) :
    Calls Try.prog 33 #[W4 f0 f1 f2 f3, W4 n0 n1 n2 n3, W4 x0 x1 x2 x3, .bool warm] w fun e w' => e = .returned (.tuple #[.int .u64 (costN (num x0 x1 x2 x3 == num n0 n1 n2 n3) (num n0 n1 n2 n3 == num f0 f1 f2 f3) (num f0 f1 f2 f3 == 0) + (if warm then 0 else 2100)), .int .i64 (refN (num x0 x1 x2 x3 == num n0 n1 n2 n3) (num n0 n1 n2 n3 == num f0 f1 f2 f3) (num x0 x1 x2 x3 == num f0 f1 f2 f3) (num f0 f1 f2 f3 == 0) (num n0 n1 n2 n3 == 0) (num x0 x1 x2 x3 == 0))]) ∧ Below w.heap.size w w' := by
  have q1 := fun w => eq30_num hx hn w
  have q2 := fun w => eq30_num hn hf w
  have q3 := fun w => eq30_num hx hf w
  have q4 := fun w => eq30_zero hf w
  have q5 := fun w => eq30_zero hn w
  have q6 := fun w => eq30_zero hx w
  generalize (num x0 x1 x2 x3 == num n0 n1 n2 n3) = en at *
  generalize (num n0 n1 n2 n3 == num f0 f1 f2 f3) = ef at *
  generalize (num x0 x1 x2 x3 == num f0 f1 f2 f3) = ex at *
  generalize (num f0 f1 f2 f3 == 0) = zf at *
  generalize (num n0 n1 n2 n3 == 0) = zn at *
  generalize (num x0 x1 x2 x3 == 0) = zx at *
  clear hf hn hx
  unfold W4 at *
  cases en
  · cases ef
    · cases zf
      · cases zn
        · cases zx
          · cases ex <;> cases warm
            all_goals
              go_enter Try.func33, Try.ntmps33
              go_wp2
              go_ret2
              exact ⟨rfl, by go_grown⟩
          · cases ex <;> cases warm
            all_goals
              go_enter Try.func33, Try.ntmps33
              go_wp2
              go_ret2
              exact ⟨rfl, by go_grown⟩
        · cases ex <;> cases warm
          all_goals
            go_enter Try.func33, Try.ntmps33
            go_wp2
            go_ret2
            exact ⟨rfl, by go_grown⟩
      · cases ex <;> cases warm
        all_goals
          go_enter Try.func33, Try.ntmps33
          go_wp2
          go_ret2
          exact ⟨rfl, by go_grown⟩
    · cases zf
      · cases zx <;> cases warm
        all_goals
          go_enter Try.func33, Try.ntmps33
          go_wp2
          go_ret2
          exact ⟨rfl, by go_grown⟩
      · cases warm
        all_goals
          go_enter Try.func33, Try.ntmps33
          go_wp2
          go_ret2
          exact ⟨rfl, by go_grown⟩
  · cases warm
    all_goals
      go_enter Try.func33, Try.ntmps33
      go_wp2
      go_ret2
      exact ⟨rfl, by go_grown⟩

end Go.Proofs.Ytlpmmejdfenkiaa
