/- Walks over package word: which of two words is more. -/
import Derived.Test.YtmflilgppllebaaW2
import Derived.Test.YtmflilgppllebaaR2
namespace Go.Proofs.Ytmflilgppllebaa
open Go.RowKit
set_option linter.unusedSimpArgs false
set_option linter.unusedVariables false
/-- The number of the first k of four limbs. -/
def low (a0 a1 a2 a3 : Int) : Nat → Int
  | 0 => 0
  | 1 => a0
  | 2 => a0 + 18446744073709551616 * a1
  | 3 => a0 + 18446744073709551616 * a1 + 340282366920938463463374607431768211456 * a2
  | _ => num a0 a1 a2 a3
theorem cmp_step (x y d e P : Int) (hx : 0 ≤ x) (hx' : x < P) (hy : 0 ≤ y) (hy' : y < P) : (d < e → cmpN (x + P * d) (y + P * e) = -1) ∧ (e < d → cmpN (x + P * d) (y + P * e) = 1) ∧ (d = e → cmpN (x + P * d) (y + P * e) = cmpN x y) := by
  refine ⟨fun h => ?_, fun h => ?_, fun h => ?_⟩
  · have h1 : P * (d + 1) ≤ P * e := Int.mul_le_mul_of_nonneg_left (by omega) (by omega)
    rw [Int.mul_add] at h1
    unfold cmpN; rw [if_pos (by omega)]
  · have h1 : P * (e + 1) ≤ P * d := Int.mul_le_mul_of_nonneg_left (by omega) (by omega)
    rw [Int.mul_add] at h1
    unfold cmpN; rw [if_neg (by omega), if_pos (by omega)]
  · subst h
    unfold cmpN
    by_cases h1 : x < y
    · rw [if_pos h1, if_pos (by omega)]
    · rw [if_neg h1, if_neg (by omega)]
      by_cases h2 : y < x
      · rw [if_pos h2, if_pos (by omega)]
      · rw [if_neg h2, if_neg (by omega)]
theorem low_step0 {a0 a1 a2 a3 b0 b1 b2 b3 : Int} (ha : L4 a0 a1 a2 a3) (hb : L4 b0 b1 b2 b3) :
    (a0 < b0 → cmpN (low a0 a1 a2 a3 1) (low b0 b1 b2 b3 1) = -1) ∧ (b0 < a0 → cmpN (low a0 a1 a2 a3 1) (low b0 b1 b2 b3 1) = 1) ∧ (a0 = b0 → cmpN (low a0 a1 a2 a3 1) (low b0 b1 b2 b3 1) = cmpN (low a0 a1 a2 a3 0) (low b0 b1 b2 b3 0)) := by
  obtain ⟨⟨_, _⟩, ⟨_, _⟩, ⟨_, _⟩, ⟨_, _⟩⟩ := ha
  obtain ⟨⟨_, _⟩, ⟨_, _⟩, ⟨_, _⟩, ⟨_, _⟩⟩ := hb
  have h := cmp_step (low a0 a1 a2 a3 0) (low b0 b1 b2 b3 0) a0 b0 1 (by simp only [low]; omega) (by simp only [low]; omega) (by simp only [low]; omega) (by simp only [low]; omega)
  have ea : low a0 a1 a2 a3 0 + 1 * a0 = low a0 a1 a2 a3 1 := by simp only [low] <;> omega
  have eb : low b0 b1 b2 b3 0 + 1 * b0 = low b0 b1 b2 b3 1 := by simp only [low] <;> omega
  rw [ea, eb] at h
  exact h
theorem low_step1 {a0 a1 a2 a3 b0 b1 b2 b3 : Int} (ha : L4 a0 a1 a2 a3) (hb : L4 b0 b1 b2 b3) :
    (a1 < b1 → cmpN (low a0 a1 a2 a3 2) (low b0 b1 b2 b3 2) = -1) ∧ (b1 < a1 → cmpN (low a0 a1 a2 a3 2) (low b0 b1 b2 b3 2) = 1) ∧ (a1 = b1 → cmpN (low a0 a1 a2 a3 2) (low b0 b1 b2 b3 2) = cmpN (low a0 a1 a2 a3 1) (low b0 b1 b2 b3 1)) := by
  obtain ⟨⟨_, _⟩, ⟨_, _⟩, ⟨_, _⟩, ⟨_, _⟩⟩ := ha
  obtain ⟨⟨_, _⟩, ⟨_, _⟩, ⟨_, _⟩, ⟨_, _⟩⟩ := hb
  have h := cmp_step (low a0 a1 a2 a3 1) (low b0 b1 b2 b3 1) a1 b1 18446744073709551616 (by simp only [low]; omega) (by simp only [low]; omega) (by simp only [low]; omega) (by simp only [low]; omega)
  have ea : low a0 a1 a2 a3 1 + 18446744073709551616 * a1 = low a0 a1 a2 a3 2 := by simp only [low] <;> omega
  have eb : low b0 b1 b2 b3 1 + 18446744073709551616 * b1 = low b0 b1 b2 b3 2 := by simp only [low] <;> omega
  rw [ea, eb] at h
  exact h
theorem low_step2 {a0 a1 a2 a3 b0 b1 b2 b3 : Int} (ha : L4 a0 a1 a2 a3) (hb : L4 b0 b1 b2 b3) :
    (a2 < b2 → cmpN (low a0 a1 a2 a3 3) (low b0 b1 b2 b3 3) = -1) ∧ (b2 < a2 → cmpN (low a0 a1 a2 a3 3) (low b0 b1 b2 b3 3) = 1) ∧ (a2 = b2 → cmpN (low a0 a1 a2 a3 3) (low b0 b1 b2 b3 3) = cmpN (low a0 a1 a2 a3 2) (low b0 b1 b2 b3 2)) := by
  obtain ⟨⟨_, _⟩, ⟨_, _⟩, ⟨_, _⟩, ⟨_, _⟩⟩ := ha
  obtain ⟨⟨_, _⟩, ⟨_, _⟩, ⟨_, _⟩, ⟨_, _⟩⟩ := hb
  have h := cmp_step (low a0 a1 a2 a3 2) (low b0 b1 b2 b3 2) a2 b2 340282366920938463463374607431768211456 (by simp only [low]; omega) (by simp only [low]; omega) (by simp only [low]; omega) (by simp only [low]; omega)
  have ea : low a0 a1 a2 a3 2 + 340282366920938463463374607431768211456 * a2 = low a0 a1 a2 a3 3 := by simp only [low] <;> omega
  have eb : low b0 b1 b2 b3 2 + 340282366920938463463374607431768211456 * b2 = low b0 b1 b2 b3 3 := by simp only [low] <;> omega
  rw [ea, eb] at h
  exact h
theorem low_step3 {a0 a1 a2 a3 b0 b1 b2 b3 : Int} (ha : L4 a0 a1 a2 a3) (hb : L4 b0 b1 b2 b3) :
    (a3 < b3 → cmpN (low a0 a1 a2 a3 4) (low b0 b1 b2 b3 4) = -1) ∧ (b3 < a3 → cmpN (low a0 a1 a2 a3 4) (low b0 b1 b2 b3 4) = 1) ∧ (a3 = b3 → cmpN (low a0 a1 a2 a3 4) (low b0 b1 b2 b3 4) = cmpN (low a0 a1 a2 a3 3) (low b0 b1 b2 b3 3)) := by
  obtain ⟨⟨_, _⟩, ⟨_, _⟩, ⟨_, _⟩, ⟨_, _⟩⟩ := ha
  obtain ⟨⟨_, _⟩, ⟨_, _⟩, ⟨_, _⟩, ⟨_, _⟩⟩ := hb
  have h := cmp_step (low a0 a1 a2 a3 3) (low b0 b1 b2 b3 3) a3 b3 6277101735386680763835789423207666416102355444464034512896 (by simp only [low]; omega) (by simp only [low]; omega) (by simp only [low]; omega) (by simp only [low]; omega)
  have ea : low a0 a1 a2 a3 3 + 6277101735386680763835789423207666416102355444464034512896 * a3 = low a0 a1 a2 a3 4 := by simp only [low]; unfold num <;> omega
  have eb : low b0 b1 b2 b3 3 + 6277101735386680763835789423207666416102355444464034512896 * b3 = low b0 b1 b2 b3 4 := by simp only [low]; unfold num <;> omega
  rw [ea, eb] at h
  exact h
theorem hid_symm {a b : Int} (h : Hid (a = b)) : Hid (b = a) := Eq.symm h
theorem hid_trans {a b c : Int} (h : Hid (c = a)) (k : Hid (b = a)) : Hid (c = b) := Eq.trans h (Eq.symm k)
set_option maxHeartbeats 8000000 in
theorem cmp_walk (a0 a1 a2 a3 b0 b1 b2 b3 : Int) (ha : L4 a0 a1 a2 a3) (hb : L4 b0 b1 b2 b3) (q : ∀ w, (Op.equalIn 10000 24 (W4 a0 a1 a2 a3) (W4 b0 b1 b2 b3)).run Try.prog w = .ok false w) (w : World) :
    Calls Try.prog 77 #[W4 a0 a1 a2 a3, W4 b0 b1 b2 b3] w fun e w' => e = .returned (.int .i64 (cmpN (num a0 a1 a2 a3) (num b0 b1 b2 b3))) ∧ Below w.heap.size w w' := by
  have HA : Hid _ := ha
  have HB : Hid _ := hb
  clear ha hb
  unfold W4 at *
  go_enter Try.func77, Try.ntmps77
  go_wp2
  go_loopw [5, 10] (fun s i wr => ∃ (k : Nat) (c : Int), k ≤ 4 ∧ s = .int .i64 c ∧ i = .int .i64 k ∧ Hid (c = cmpN (low a0 a1 a2 a3 k) (low b0 b1 b2 b3 k)) ∧ ∃ n, wr = ((w.alloc (.cells #[.int .u64 a0, .int .u64 a1, .int .u64 a2, .int .u64 a3] 24)).alloc (.cells #[.int .u64 b0, .int .u64 b1, .int .u64 b2, .int .u64 b3] 24)).drewN n) (fun _ i _ => 4 - (intOf i).toNat)
  case atStart => exact ⟨0, 0, by omega, rfl, rfl, rfl, 0, rfl⟩
  case round =>
    obtain ⟨k, c, hk, rfl, rfl, HE, n, rfl⟩ := hrel
    rcases (by omega : k = 0 ∨ k = 1 ∨ k = 2 ∨ k = 3 ∨ k = 4) with rfl | rfl | rfl | rfl | rfl
    · obtain ⟨g1, g2, g3⟩ := low_step0 HA.out HB.out
      rcases Int.lt_trichotomy a0 b0 with h | h | h
      · have HS : Hid _ := g1 h
        clear g1 g2 g3
        go_wp2
        go_quiet (fail)
        go_wp2
        exact ⟨⟨1, -1, by omega, rfl, rfl, hid_symm HS, _, rfl⟩, by simp [intOf]⟩
      · have HS : Hid _ := (g3 h)
        have hd : decide (a0 < b0) = false := by simp; omega
        have hd2 : decide (b0 < a0) = false := by simp; omega
        clear g1 g2 g3 h
        go_wp2
        go_quiet (fail)
        go_wp2
        go_quiet (fail)
        go_wp2
        exact ⟨⟨1, c, by omega, rfl, rfl, hid_trans HE HS, _, rfl⟩, by simp [intOf]⟩
      · have HS : Hid _ := g2 h
        have hd : decide (a0 < b0) = false := by simp; omega
        clear g1 g2 g3
        go_wp2
        go_quiet (fail)
        go_wp2
        go_quiet (fail)
        go_wp2
        exact ⟨⟨1, 1, by omega, rfl, rfl, hid_symm HS, _, rfl⟩, by simp [intOf]⟩
    · obtain ⟨g1, g2, g3⟩ := low_step1 HA.out HB.out
      rcases Int.lt_trichotomy a1 b1 with h | h | h
      · have HS : Hid _ := g1 h
        clear g1 g2 g3
        go_wp2
        go_quiet (fail)
        go_wp2
        exact ⟨⟨2, -1, by omega, rfl, rfl, hid_symm HS, _, rfl⟩, by simp [intOf]⟩
      · have HS : Hid _ := (g3 h)
        have hd : decide (a1 < b1) = false := by simp; omega
        have hd2 : decide (b1 < a1) = false := by simp; omega
        clear g1 g2 g3 h
        go_wp2
        go_quiet (fail)
        go_wp2
        go_quiet (fail)
        go_wp2
        exact ⟨⟨2, c, by omega, rfl, rfl, hid_trans HE HS, _, rfl⟩, by simp [intOf]⟩
      · have HS : Hid _ := g2 h
        have hd : decide (a1 < b1) = false := by simp; omega
        clear g1 g2 g3
        go_wp2
        go_quiet (fail)
        go_wp2
        go_quiet (fail)
        go_wp2
        exact ⟨⟨2, 1, by omega, rfl, rfl, hid_symm HS, _, rfl⟩, by simp [intOf]⟩
    · obtain ⟨g1, g2, g3⟩ := low_step2 HA.out HB.out
      rcases Int.lt_trichotomy a2 b2 with h | h | h
      · have HS : Hid _ := g1 h
        clear g1 g2 g3
        go_wp2
        go_quiet (fail)
        go_wp2
        exact ⟨⟨3, -1, by omega, rfl, rfl, hid_symm HS, _, rfl⟩, by simp [intOf]⟩
      · have HS : Hid _ := (g3 h)
        have hd : decide (a2 < b2) = false := by simp; omega
        have hd2 : decide (b2 < a2) = false := by simp; omega
        clear g1 g2 g3 h
        go_wp2
        go_quiet (fail)
        go_wp2
        go_quiet (fail)
        go_wp2
        exact ⟨⟨3, c, by omega, rfl, rfl, hid_trans HE HS, _, rfl⟩, by simp [intOf]⟩
      · have HS : Hid _ := g2 h
        have hd : decide (a2 < b2) = false := by simp; omega
        clear g1 g2 g3
        go_wp2
        go_quiet (fail)
        go_wp2
        go_quiet (fail)
        go_wp2
        exact ⟨⟨3, 1, by omega, rfl, rfl, hid_symm HS, _, rfl⟩, by simp [intOf]⟩
    · obtain ⟨g1, g2, g3⟩ := low_step3 HA.out HB.out
      rcases Int.lt_trichotomy a3 b3 with h | h | h
      · have HS : Hid _ := g1 h
        clear g1 g2 g3
        go_wp2
        go_quiet (fail)
        go_wp2
        exact ⟨⟨4, -1, by omega, rfl, rfl, hid_symm HS, _, rfl⟩, by simp [intOf]⟩
      · have HS : Hid _ := (g3 h)
        have hd : decide (a3 < b3) = false := by simp; omega
        have hd2 : decide (b3 < a3) = false := by simp; omega
        clear g1 g2 g3 h
        go_wp2
        go_quiet (fail)
        go_wp2
        go_quiet (fail)
        go_wp2
        exact ⟨⟨4, c, by omega, rfl, rfl, hid_trans HE HS, _, rfl⟩, by simp [intOf]⟩
      · have HS : Hid _ := g2 h
        have hd : decide (a3 < b3) = false := by simp; omega
        clear g1 g2 g3
        go_wp2
        go_quiet (fail)
        go_wp2
        go_quiet (fail)
        go_wp2
        exact ⟨⟨4, 1, by omega, rfl, rfl, hid_symm HS, _, rfl⟩, by simp [intOf]⟩
    · go_wp2
      go_ret
      have e : c = cmpN (num a0 a1 a2 a3) (num b0 b1 b2 b3) := HE.out
      have hBW : Below w.heap.size w ((w.alloc (.cells #[.int .u64 a0, .int .u64 a1, .int .u64 a2, .int .u64 a3] 24)).alloc (.cells #[.int .u64 b0, .int .u64 b1, .int .u64 b2, .int .u64 b3] 24)) := by go_grown
      exact ⟨congrArg (fun z => Ending.returned (.int .i64 z)) e, hBW.trans ⟨rfl, rfl, rfl, Nat.le_refl _, fun _ _ => rfl⟩⟩
set_option maxHeartbeats 1000000 in
theorem cmp_same (a0 a1 a2 a3 : Int) (w : World) :
    Calls Try.prog 77 #[W4 a0 a1 a2 a3, W4 a0 a1 a2 a3] w fun e w' => e = .returned (.int .i64 0) ∧ Below w.heap.size w w' := by
  have q := eq24_same a0 a1 a2 a3
  unfold W4 at *
  go_enter Try.func77, Try.ntmps77
  go_wp2
  go_ret
  exact ⟨rfl, by go_grown⟩
/-- word.Cmp -/
theorem cmp_any (a0 a1 a2 a3 b0 b1 b2 b3 : Int) (ha : L4 a0 a1 a2 a3) (hb : L4 b0 b1 b2 b3) (w : World) :
    Calls Try.prog 77 #[W4 a0 a1 a2 a3, W4 b0 b1 b2 b3] w fun e w' => e = .returned (.int .i64 (cmpN (num a0 a1 a2 a3) (num b0 b1 b2 b3))) ∧ Below w.heap.size w w' := by
  by_cases h : num a0 a1 a2 a3 = num b0 b1 b2 b3
  · obtain ⟨rfl, rfl, rfl, rfl⟩ := num_inj ha hb h
    have e : cmpN (num a0 a1 a2 a3) (num a0 a1 a2 a3) = 0 := by unfold cmpN; rw [if_neg (by omega), if_neg (by omega)]
    rw [e]
    exact cmp_same a0 a1 a2 a3 w
  · exact cmp_walk a0 a1 a2 a3 b0 b1 b2 b3 ha hb (fun w => by rw [eq24_num ha hb]; simp [h]) w
end Go.Proofs.Ytmflilgppllebaa
