/- net: NetPlays, the beginning. -/
import Derived.Test.YtemapnfbmhjlbaaQY
import Derived.Test.YtemapnfbmhjlbaaOD
namespace Go.Proofs.Ytemapnfbmhjlbaa
open Go.RowKit Go.Maps Go.Joins
set_option linter.unusedSimpArgs false
set_option linter.unusedVariables false
set_option maxRecDepth 100000 in
set_option maxHeartbeats 8000000 in
/-- .. of a number of nodes that is none. -/
theorem plays_no {w : World} (n : Int) (v : Value) (h : n < 1 ∨ 16 < n) :
    Calls Try.prog 3 #[.int .i64 n, v] w fun e w' => e = .returned (.bool true) ∧ Below w.heap.size w w' := by
  have HN : Hid _ := New_no (w := w) n h
  have HR : Hid (∀ w : World, Calls Try.prog 9 #[.int .i64 n] w fun e w' => e = .returned (.pointer none) ∧ w' = w) := fun w => rNew_no n h
  clear h
  go_enter Try.func3, Try.ntmps3
  go_wp2_with (first
    | (go_at_call 8; refine Calls.mono HN.out ?_; rintro e w1 ⟨rfl, hw⟩; obtain rfl : w = w1 := hw.symm; clear HN)
    | (go_at_call 9; refine Calls.mono (HR.out _) ?_; rintro e w2 ⟨rfl, hw⟩; obtain rfl : w = w2 := hw.symm; clear HR)
    | (go_at_call 10; refine (alive_any _).mono ?_; rintro e w6 ⟨rfl, hb⟩; have HB6 : Hid (Below w.heap.size w w6) := hb; clear hb))
  go_ret
  exact ⟨rfl, HB6.out⟩
theorem newR_own {b : Nat} {n : Int} {g : Nat} (h : g ≠ b) : (newR b n).own g = 0 := if_neg h
/-- Both nets, as they were made. -/
theorem Tw.start {w w1 w2 : World} {n : Int} (h1 : NetIs w1 w.heap.size (newN w.heap.size n)) (b1 : Below w.heap.size w w1) (h2 : RIs w2 w1.heap.size (newR w1.heap.size n)) (b2 : Below w1.heap.size w1 w2) :
    Tw w w2 w.heap.size w1.heap.size (newN w.heap.size n) (newR w1.heap.size n) (A0 n) 0 where
  sd := {
    net := h1.below b2
    ref := h2
    d1 := fun x hx => by
      have e : x = w1.heap.size := Classical.byContradiction fun hn => hx (newR_own hn)
      rw [e]
      exact h1.fresh _ (Nat.le_refl _)
    d2 := fun p hp => by cases hp
    d3 := fun p hp => by cases hp }
  lo := ⟨b1.trans (b2.mono b1.size), fun x hx => newN_own hx, fun x hx => newR_own (by have := b1.size; omega)⟩
  an := rfl
  ar := rfl
  ok := AOk.new n
  gd := fun t ht => by cases ht
end Go.Proofs.Ytemapnfbmhjlbaa
