/- Walks over package word: how many bits a word has. -/
import Derived.Test.YtlpmmejdfenkiaaWdM2
namespace Go.Proofs.Ytlpmmejdfenkiaa.Wd
open Go.RowKit
set_option linter.unusedSimpArgs false
set_option linter.unusedVariables false
theorem len_ex (y : Int) (h0 : 0 < y) (h1 : y < 18446744073709551616) : ∃ L : Nat, 1 ≤ L ∧ L ≤ 64 ∧ (∀ w, Calls Try.prog 52 #[.int .u64 y] w fun e w' => e = .returned (.int .i64 L) ∧ w' = w) ∧ Hid (2 ^ (L - 1) ≤ y ∧ y < 2 ^ L) := by
  have h : 1 ≤ Lib.bitLen y.toNat ∧ 2 ^ (Lib.bitLen y.toNat - 1) ≤ y.toNat ∧ y.toNat < 2 ^ Lib.bitLen y.toNat := Lib.bitLenAux_bounds 64 y.toNat (by omega) (by omega)
  have hle : Lib.bitLen y.toNat ≤ 64 := Lib.bitLen_le y.toNat 64 (Nat.le_refl _) (by omega)
  have hc := Try.bits_Len64 y
  generalize Lib.bitLen y.toNat = L at *
  refine ⟨L, h.1, hle, fun w => hc w (by omega) (by omega), ?_⟩
  have e : ∀ k : Nat, (2 : Int) ^ k = ((2 ^ k : Nat) : Int) := fun k => by simp
  show _ ∧ _
  rw [e, e]
  omega
set_option maxHeartbeats 1000000 in
theorem bitLen_0 (a0 : Int) (ha : L4 a0 0 0 0) (h : a0 ≠ 0) (w : World) :
    Calls Try.prog 44 #[W4 a0 0 0 0] w fun e w' => ∃ n : Nat, e = .returned (.int .i64 n) ∧ n ≤ 256 ∧ Hid (num a0 0 0 0 < 2 ^ n ∧ (n = 0 ∨ 2 ^ (n - 1) ≤ num a0 0 0 0)) ∧ Below w.heap.size w w' := by
  have hl : Limb a0 := ha.1
  obtain ⟨hl0, hl1⟩ := hl
  obtain ⟨L, hL0, hL1, HL, HE⟩ := len_ex a0 (by omega) hl1
  have HL : Hid _ := HL
  have hu : usedN a0 0 0 0 = 1 := by unfold usedN; simp [h]
  have HU : Hid (∀ w, Calls Try.prog 51 #[W4 a0 0 0 0] w fun e w' => e = .returned (.int .i64 1) ∧ ∃ c, w' = w.alloc (.cells c 30)) := fun w => by
    have := used_any a0 0 0 0 w
    rw [hu] at this; exact this
  have HN : Hid (num a0 0 0 0 < 2 ^ (0 + L) ∧ (0 + L = 0 ∨ 2 ^ (0 + L - 1) ≤ num a0 0 0 0)) := by
    obtain ⟨h1, h2⟩ := HE.out
    obtain ⟨⟨_, _⟩, ⟨_, _⟩, ⟨_, _⟩, ⟨_, _⟩⟩ := ha
    have e1 : (2 : Int) ^ (0 + L) = 1 * 2 ^ L := by rw [Int.pow_add]; rfl
    have e2 : (2 : Int) ^ (0 + L - 1) = 1 * 2 ^ (L - 1) := by rw [show 0 + L - 1 = 0 + (L - 1) from by omega, Int.pow_add]; rfl
    show _ ∧ _
    rw [e1, e2]
    unfold num
    exact ⟨by omega, Or.inr (by omega)⟩
  clear HE ha hu h
  unfold W4 at *
  go_enter Try.func44, Try.ntmps44
  go_wp2_with fail
  refine Calls.mono (HU.out _) ?_
  rintro e w1 ⟨rfl, c, rfl⟩
  go_wp2_with (first | (go_at_call 52; go_must (refine Calls.mono (HL.out _) ?_; rintro e w' ⟨rfl, rfl⟩)))
  go_ret
  exact ⟨0 + L, by first | rfl | go_num | (simp; done), by omega, HN, by go_grown⟩
set_option maxHeartbeats 1000000 in
theorem bitLen_1 (a0 a1 : Int) (ha : L4 a0 a1 0 0) (h : a1 ≠ 0) (w : World) :
    Calls Try.prog 44 #[W4 a0 a1 0 0] w fun e w' => ∃ n : Nat, e = .returned (.int .i64 n) ∧ n ≤ 256 ∧ Hid (num a0 a1 0 0 < 2 ^ n ∧ (n = 0 ∨ 2 ^ (n - 1) ≤ num a0 a1 0 0)) ∧ Below w.heap.size w w' := by
  have hl : Limb a1 := ha.2.1
  obtain ⟨hl0, hl1⟩ := hl
  obtain ⟨L, hL0, hL1, HL, HE⟩ := len_ex a1 (by omega) hl1
  have HL : Hid _ := HL
  have hu : usedN a0 a1 0 0 = 2 := by unfold usedN; simp [h]
  have HU : Hid (∀ w, Calls Try.prog 51 #[W4 a0 a1 0 0] w fun e w' => e = .returned (.int .i64 2) ∧ ∃ c, w' = w.alloc (.cells c 30)) := fun w => by
    have := used_any a0 a1 0 0 w
    rw [hu] at this; exact this
  have HN : Hid (num a0 a1 0 0 < 2 ^ (64 + L) ∧ (64 + L = 0 ∨ 2 ^ (64 + L - 1) ≤ num a0 a1 0 0)) := by
    obtain ⟨h1, h2⟩ := HE.out
    obtain ⟨⟨_, _⟩, ⟨_, _⟩, ⟨_, _⟩, ⟨_, _⟩⟩ := ha
    have e1 : (2 : Int) ^ (64 + L) = 18446744073709551616 * 2 ^ L := by rw [Int.pow_add]; rfl
    have e2 : (2 : Int) ^ (64 + L - 1) = 18446744073709551616 * 2 ^ (L - 1) := by rw [show 64 + L - 1 = 64 + (L - 1) from by omega, Int.pow_add]; rfl
    show _ ∧ _
    rw [e1, e2]
    unfold num
    exact ⟨by omega, Or.inr (by omega)⟩
  clear HE ha hu h
  unfold W4 at *
  go_enter Try.func44, Try.ntmps44
  go_wp2_with fail
  refine Calls.mono (HU.out _) ?_
  rintro e w1 ⟨rfl, c, rfl⟩
  go_wp2_with (first | (go_at_call 52; go_must (refine Calls.mono (HL.out _) ?_; rintro e w' ⟨rfl, rfl⟩)))
  go_ret
  exact ⟨64 + L, by first | rfl | go_num | (simp; done), by omega, HN, by go_grown⟩
set_option maxHeartbeats 1000000 in
theorem bitLen_2 (a0 a1 a2 : Int) (ha : L4 a0 a1 a2 0) (h : a2 ≠ 0) (w : World) :
    Calls Try.prog 44 #[W4 a0 a1 a2 0] w fun e w' => ∃ n : Nat, e = .returned (.int .i64 n) ∧ n ≤ 256 ∧ Hid (num a0 a1 a2 0 < 2 ^ n ∧ (n = 0 ∨ 2 ^ (n - 1) ≤ num a0 a1 a2 0)) ∧ Below w.heap.size w w' := by
  have hl : Limb a2 := ha.2.2.1
  obtain ⟨hl0, hl1⟩ := hl
  obtain ⟨L, hL0, hL1, HL, HE⟩ := len_ex a2 (by omega) hl1
  have HL : Hid _ := HL
  have hu : usedN a0 a1 a2 0 = 3 := by unfold usedN; simp [h]
  have HU : Hid (∀ w, Calls Try.prog 51 #[W4 a0 a1 a2 0] w fun e w' => e = .returned (.int .i64 3) ∧ ∃ c, w' = w.alloc (.cells c 30)) := fun w => by
    have := used_any a0 a1 a2 0 w
    rw [hu] at this; exact this
  have HN : Hid (num a0 a1 a2 0 < 2 ^ (128 + L) ∧ (128 + L = 0 ∨ 2 ^ (128 + L - 1) ≤ num a0 a1 a2 0)) := by
    obtain ⟨h1, h2⟩ := HE.out
    obtain ⟨⟨_, _⟩, ⟨_, _⟩, ⟨_, _⟩, ⟨_, _⟩⟩ := ha
    have e1 : (2 : Int) ^ (128 + L) = 340282366920938463463374607431768211456 * 2 ^ L := by rw [Int.pow_add]; rfl
    have e2 : (2 : Int) ^ (128 + L - 1) = 340282366920938463463374607431768211456 * 2 ^ (L - 1) := by rw [show 128 + L - 1 = 128 + (L - 1) from by omega, Int.pow_add]; rfl
    show _ ∧ _
    rw [e1, e2]
    unfold num
    exact ⟨by omega, Or.inr (by omega)⟩
  clear HE ha hu h
  unfold W4 at *
  go_enter Try.func44, Try.ntmps44
  go_wp2_with fail
  refine Calls.mono (HU.out _) ?_
  rintro e w1 ⟨rfl, c, rfl⟩
  go_wp2_with (first | (go_at_call 52; go_must (refine Calls.mono (HL.out _) ?_; rintro e w' ⟨rfl, rfl⟩)))
  go_ret
  exact ⟨128 + L, by first | rfl | go_num | (simp; done), by omega, HN, by go_grown⟩
set_option maxHeartbeats 1000000 in
theorem bitLen_3 (a0 a1 a2 a3 : Int) (ha : L4 a0 a1 a2 a3) (h : a3 ≠ 0) (w : World) :
    Calls Try.prog 44 #[W4 a0 a1 a2 a3] w fun e w' => ∃ n : Nat, e = .returned (.int .i64 n) ∧ n ≤ 256 ∧ Hid (num a0 a1 a2 a3 < 2 ^ n ∧ (n = 0 ∨ 2 ^ (n - 1) ≤ num a0 a1 a2 a3)) ∧ Below w.heap.size w w' := by
  have hl : Limb a3 := ha.2.2.2
  obtain ⟨hl0, hl1⟩ := hl
  obtain ⟨L, hL0, hL1, HL, HE⟩ := len_ex a3 (by omega) hl1
  have HL : Hid _ := HL
  have hu : usedN a0 a1 a2 a3 = 4 := by unfold usedN; simp [h]
  have HU : Hid (∀ w, Calls Try.prog 51 #[W4 a0 a1 a2 a3] w fun e w' => e = .returned (.int .i64 4) ∧ ∃ c, w' = w.alloc (.cells c 30)) := fun w => by
    have := used_any a0 a1 a2 a3 w
    rw [hu] at this; exact this
  have HN : Hid (num a0 a1 a2 a3 < 2 ^ (192 + L) ∧ (192 + L = 0 ∨ 2 ^ (192 + L - 1) ≤ num a0 a1 a2 a3)) := by
    obtain ⟨h1, h2⟩ := HE.out
    obtain ⟨⟨_, _⟩, ⟨_, _⟩, ⟨_, _⟩, ⟨_, _⟩⟩ := ha
    have e1 : (2 : Int) ^ (192 + L) = 6277101735386680763835789423207666416102355444464034512896 * 2 ^ L := by rw [Int.pow_add]; rfl
    have e2 : (2 : Int) ^ (192 + L - 1) = 6277101735386680763835789423207666416102355444464034512896 * 2 ^ (L - 1) := by rw [show 192 + L - 1 = 192 + (L - 1) from by omega, Int.pow_add]; rfl
    show _ ∧ _
    rw [e1, e2]
    unfold num
    exact ⟨by omega, Or.inr (by omega)⟩
  clear HE ha hu h
  unfold W4 at *
  go_enter Try.func44, Try.ntmps44
  go_wp2_with fail
  refine Calls.mono (HU.out _) ?_
  rintro e w1 ⟨rfl, c, rfl⟩
  go_wp2_with (first | (go_at_call 52; go_must (refine Calls.mono (HL.out _) ?_; rintro e w' ⟨rfl, rfl⟩)))
  go_ret
  exact ⟨192 + L, by first | rfl | go_num | (simp; done), by omega, HN, by go_grown⟩
set_option maxHeartbeats 1000000 in
theorem bitLen_none (w : World) :
    Calls Try.prog 44 #[W4 0 0 0 0] w fun e w' => e = .returned (.int .i64 0) ∧ Below w.heap.size w w' := by
  have HU : Hid (∀ w, Calls Try.prog 51 #[W4 0 0 0 0] w fun e w' => e = .returned (.int .i64 0) ∧ ∃ c, w' = w.alloc (.cells c 30)) := fun w => used_any 0 0 0 0 w
  unfold W4 at *
  go_enter Try.func44, Try.ntmps44
  go_wp2_with fail
  refine Calls.mono (HU.out _) ?_
  rintro e w1 ⟨rfl, c, rfl⟩
  go_wp2
  go_ret
  exact ⟨rfl, by go_grown⟩
/-- word.bitLen -/
theorem bitLen_any (a0 a1 a2 a3 : Int) (ha : L4 a0 a1 a2 a3) (w : World) :
    Calls Try.prog 44 #[W4 a0 a1 a2 a3] w fun e w' => ∃ n : Nat, e = .returned (.int .i64 n) ∧ n ≤ 256 ∧ Hid (num a0 a1 a2 a3 < 2 ^ n ∧ (n = 0 ∨ 2 ^ (n - 1) ≤ num a0 a1 a2 a3)) ∧ Below w.heap.size w w' := by
  by_cases h3 : a3 = 0
  · subst h3
    by_cases h2 : a2 = 0
    · subst h2
      by_cases h1 : a1 = 0
      · subst h1
        by_cases h0 : a0 = 0
        · subst h0
          exact (bitLen_none w).mono fun e w' ⟨he, hw⟩ => ⟨0, he, by omega, ⟨by decide, Or.inl rfl⟩, hw⟩
        · exact bitLen_0 a0 ha h0 w
      · exact bitLen_1 a0 a1 ha h1 w
    · exact bitLen_2 a0 a1 a2 ha h2 w
  · exact bitLen_3 a0 a1 a2 a3 ha h3 w
end Go.Proofs.Ytlpmmejdfenkiaa.Wd
