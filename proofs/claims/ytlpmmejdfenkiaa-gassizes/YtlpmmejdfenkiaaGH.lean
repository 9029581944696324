/- The laws of layer 12 that take numbers alone, and GasSlots. -/
import Derived.Test.YtlpmmejdfenkiaaGG
namespace Go.Proofs.Ytlpmmejdfenkiaa
open Go.RowKit
set_option linter.unusedSimpArgs false
set_option linter.unusedVariables false
set_option maxHeartbeats 4000000 in
theorem sizes_any (n t : Int) (b : Bool) (hn : U64 n) (ht0 : -9223372036854775808 ≤ t) (ht1 : t ≤ 9223372036854775807) (w : World) :
    Calls Try.prog 3 #[.int .u64 n, .int .i64 t, .bool b] w fun e w' => e = .returned (.bool true) ∧ Below w.heap.size w w' := by
  have H0 : Hid (∀ w, _) := words_any n hn
  have H1 : Hid (∀ w, _) := rwords_any n hn
  have H2 : Hid (∀ w, _) := memory_any n hn
  have H3 : Hid (∀ w, _) := rmemory_any n hn
  have H4 : Hid (∀ w, _) := hash_any n hn
  have H5 : Hid (∀ w, _) := rhash_any n hn
  have H6 : Hid (∀ w, _) := copy_any n hn
  have H7 : Hid (∀ w, _) := rcopy_any n hn
  have H8 : Hid (∀ w, _) := log_any t n ht0 ht1 hn
  have H9 : Hid (∀ w, _) := rlog_any t n ht0 ht1 hn
  have H10 : Hid (∀ w, _) := create_any n b hn
  have H11 : Hid (∀ w, _) := rcreate_any n b hn
  generalize wordsN n = A at *
  generalize memN n = B at *
  generalize hashN n = C at *
  generalize copyN n = D at *
  generalize logN t n = E at *
  generalize createN n b = F at *
  clear hn ht0 ht1
  go_enter Try.func3, Try.ntmps3
  go_wp2_with fail
  refine (H0.out _).mono ?_
  rintro e w' ⟨rfl, hw⟩
  obtain rfl := hw.symm
  go_wp2_with fail
  refine (H1.out _).mono ?_
  rintro e w' ⟨rfl, hw⟩
  obtain rfl := hw.symm
  go_wp2_with fail
  refine (H2.out _).mono ?_
  rintro e w' ⟨rfl, hw⟩
  obtain rfl := hw.symm
  go_wp2_with fail
  refine (H3.out _).mono ?_
  rintro e w' ⟨rfl, hw⟩
  obtain rfl := hw.symm
  go_wp2_with fail
  refine (H4.out _).mono ?_
  rintro e w' ⟨rfl, hw⟩
  obtain rfl := hw.symm
  go_wp2_with fail
  refine (H5.out _).mono ?_
  rintro e w' ⟨rfl, hw⟩
  obtain rfl := hw.symm
  go_wp2_with fail
  refine (H6.out _).mono ?_
  rintro e w' ⟨rfl, hw⟩
  obtain rfl := hw.symm
  go_wp2_with fail
  refine (H7.out _).mono ?_
  rintro e w' ⟨rfl, hw⟩
  obtain rfl := hw.symm
  go_wp2_with fail
  refine (H8.out _).mono ?_
  rintro e w' ⟨rfl, hw⟩
  obtain rfl := hw.symm
  go_wp2_with fail
  refine (H9.out _).mono ?_
  rintro e w' ⟨rfl, hw⟩
  obtain rfl := hw.symm
  go_wp2_with fail
  refine (H10.out _).mono ?_
  rintro e w' ⟨rfl, hw⟩
  obtain rfl := hw.symm
  go_wp2_with fail
  refine (H11.out _).mono ?_
  rintro e w' ⟨rfl, hw⟩
  obtain rfl := hw.symm
  go_wp2_with fail
  refine (alive_any _).mono ?_
  rintro e w' ⟨rfl, hw⟩
  go_wp2
  go_returns
  exact ⟨rfl, hw⟩
theorem mem_le {j k : Int} (h0 : 0 ≤ j) (h : j ≤ k) : 3 * j + j * j / 512 ≤ 3 * k + k * k / 512 ∧ 3 * (k - j) ≤ (3 * k + k * k / 512) - (3 * j + j * j / 512) := by
  have : j * j ≤ k * k := Int.mul_le_mul h h h0 (by omega)
  have : j * j / 512 ≤ k * k / 512 := Int.ediv_le_ediv (by decide) this
  constructor <;> omega
set_option maxHeartbeats 4000000 in
theorem grows_in (a b : Int) (ha : U64 a) (hb : U64 b) (h : a ≤ b) (A B C D : Int) (eA : memN a = A) (eB : memN b = B) (eC : wordsN a = C) (eD : wordsN b = D) (hle : b ≤ 4294967296) :
    U64 A ∧ U64 B ∧ U64 C ∧ U64 D ∧ A ≤ B ∧ C ≤ D ∧ D ≤ 4294967296 ∧ 3 * (D - C) ≤ B - A := by
  obtain ⟨a0, a1⟩ := ha
  obtain ⟨b0, b1⟩ := hb
  have l1 : (a + 31) / 32 ≤ (b + 31) / 32 := by omega
  have l2 : 0 ≤ (a + 31) / 32 := by omega
  have l3 : (b + 31) / 32 ≤ 134217728 := by omega
  unfold memN at eA eB
  unfold wordsN at eC eD
  rw [if_neg (by omega)] at eA eB eC eD
  subst eA eB eC eD
  generalize (a + 31) / 32 = j at *
  generalize (b + 31) / 32 = k at *
  obtain ⟨m1, m2⟩ := mem_le l2 l1
  have k2 : 0 ≤ j * j := Int.mul_nonneg l2 l2
  have k3 : k * k ≤ 134217728 * 134217728 := Int.mul_le_mul l3 l3 (by omega) (by decide)
  have k4 : j * j ≤ k * k := Int.mul_le_mul l1 l1 l2 (by omega)
  refine ⟨⟨?_, ?_⟩, ⟨?_, ?_⟩, ⟨?_, ?_⟩, ⟨?_, ?_⟩, ?_, ?_, ?_, ?_⟩ <;> omega
set_option maxHeartbeats 4000000 in
theorem grows_any (a b : Int) (ha : U64 a) (hb : U64 b) (w : World) :
    Calls Try.prog 8 #[.int .u64 a, .int .u64 b] w fun e w' => e = .returned (.bool true) ∧ Below w.heap.size w w' := by
  obtain ⟨a0, a1⟩ := ha
  obtain ⟨b0, b1⟩ := hb
  by_cases h : b < a
  · skip
    by_cases hg : 4294967296 < a
    · have HM : Hid (∀ w, _) := memory_any a ⟨a0, a1⟩
      rw [show memN a = 4611686018427387904 from by unfold memN; rw [if_pos hg]] at HM
      go_enter Try.func8, Try.ntmps8
      go_wp2_with fail
      refine (HM.out _).mono ?_
      rintro e w' ⟨rfl, hw⟩
      obtain rfl := hw.symm
      go_wp2_with fail
      refine (alive_any _).mono ?_
      rintro e w' ⟨rfl, hw⟩
      go_wp2
      go_returns
      exact ⟨rfl, hw⟩
    · have HA : Hid (∀ w, _) := memory_any b ⟨b0, b1⟩
      have HB : Hid (∀ w, _) := memory_any a ⟨a0, a1⟩
      have HC : Hid (∀ w, _) := words_any b ⟨b0, b1⟩
      have HD : Hid (∀ w, _) := words_any a ⟨a0, a1⟩
      obtain ⟨⟨A0, A1⟩, ⟨B0, B1⟩, ⟨C0, C1⟩, ⟨D0, D1⟩, m1, m2, m3, m4⟩ := grows_in b a ⟨b0, b1⟩ ⟨a0, a1⟩ (by omega) _ _ _ _ rfl rfl rfl rfl (by omega)
      generalize memN b = A at *
      generalize memN a = B at *
      generalize wordsN b = C at *
      generalize wordsN a = D at *
      go_enter Try.func8, Try.ntmps8
      go_wp2_with fail
      refine (HA.out _).mono ?_
      rintro e w' ⟨rfl, hw⟩
      obtain rfl := hw.symm
      go_wp2_with fail
      refine (HB.out _).mono ?_
      rintro e w' ⟨rfl, hw⟩
      obtain rfl := hw.symm
      go_wp2_with fail
      refine (HB.out _).mono ?_
      rintro e w' ⟨rfl, hw⟩
      obtain rfl := hw.symm
      go_wp2_with fail
      refine (HA.out _).mono ?_
      rintro e w' ⟨rfl, hw⟩
      obtain rfl := hw.symm
      go_wp2_with fail
      refine (HD.out _).mono ?_
      rintro e w' ⟨rfl, hw⟩
      obtain rfl := hw.symm
      go_wp2_with fail
      refine (HC.out _).mono ?_
      rintro e w' ⟨rfl, hw⟩
      obtain rfl := hw.symm
      go_wp2_with fail
      refine (alive_any _).mono ?_
      rintro e w' ⟨rfl, hw⟩
      go_wp2
      go_returns
      exact ⟨rfl, hw⟩
  · skip
    by_cases hg : 4294967296 < b
    · have HM : Hid (∀ w, _) := memory_any b ⟨b0, b1⟩
      rw [show memN b = 4611686018427387904 from by unfold memN; rw [if_pos hg]] at HM
      go_enter Try.func8, Try.ntmps8
      go_wp2_with fail
      refine (HM.out _).mono ?_
      rintro e w' ⟨rfl, hw⟩
      obtain rfl := hw.symm
      go_wp2_with fail
      refine (alive_any _).mono ?_
      rintro e w' ⟨rfl, hw⟩
      go_wp2
      go_returns
      exact ⟨rfl, hw⟩
    · have HA : Hid (∀ w, _) := memory_any a ⟨a0, a1⟩
      have HB : Hid (∀ w, _) := memory_any b ⟨b0, b1⟩
      have HC : Hid (∀ w, _) := words_any a ⟨a0, a1⟩
      have HD : Hid (∀ w, _) := words_any b ⟨b0, b1⟩
      obtain ⟨⟨A0, A1⟩, ⟨B0, B1⟩, ⟨C0, C1⟩, ⟨D0, D1⟩, m1, m2, m3, m4⟩ := grows_in a b ⟨a0, a1⟩ ⟨b0, b1⟩ (by omega) _ _ _ _ rfl rfl rfl rfl (by omega)
      generalize memN a = A at *
      generalize memN b = B at *
      generalize wordsN a = C at *
      generalize wordsN b = D at *
      go_enter Try.func8, Try.ntmps8
      go_wp2_with fail
      refine (HA.out _).mono ?_
      rintro e w' ⟨rfl, hw⟩
      obtain rfl := hw.symm
      go_wp2_with fail
      refine (HB.out _).mono ?_
      rintro e w' ⟨rfl, hw⟩
      obtain rfl := hw.symm
      go_wp2_with fail
      refine (HB.out _).mono ?_
      rintro e w' ⟨rfl, hw⟩
      obtain rfl := hw.symm
      go_wp2_with fail
      refine (HA.out _).mono ?_
      rintro e w' ⟨rfl, hw⟩
      obtain rfl := hw.symm
      go_wp2_with fail
      refine (HD.out _).mono ?_
      rintro e w' ⟨rfl, hw⟩
      obtain rfl := hw.symm
      go_wp2_with fail
      refine (HC.out _).mono ?_
      rintro e w' ⟨rfl, hw⟩
      obtain rfl := hw.symm
      go_wp2_with fail
      refine (alive_any _).mono ?_
      rintro e w' ⟨rfl, hw⟩
      go_wp2
      go_returns
      exact ⟨rfl, hw⟩
set_option maxHeartbeats 4000000 in
theorem slots_any (f0 f1 f2 f3 n0 n1 n2 n3 x0 x1 x2 x3 : Int) (warm : Bool) (hf : L4 f0 f1 f2 f3) (hn : L4 n0 n1 n2 n3) (hx : L4 x0 x1 x2 x3) (w : World) :
    Calls Try.prog 5 #[W4 f0 f1 f2 f3, W4 n0 n1 n2 n3, W4 x0 x1 x2 x3, .bool warm] w fun e w' => e = .returned (.bool true) ∧ Below w.heap.size w w' := by
  have H1 : Hid (∀ w, _) := sstore_any f0 f1 f2 f3 n0 n1 n2 n3 x0 x1 x2 x3 warm hf hn hx
  have H2 : Hid (∀ w, _) := rsstore_any f0 f1 f2 f3 n0 n1 n2 n3 x0 x1 x2 x3 warm hf hn hx
  generalize (costN (num x0 x1 x2 x3 == num n0 n1 n2 n3) (num n0 n1 n2 n3 == num f0 f1 f2 f3) (num f0 f1 f2 f3 == 0) + (if warm then 0 else 2100)) = C at *
  generalize refN (num x0 x1 x2 x3 == num n0 n1 n2 n3) (num n0 n1 n2 n3 == num f0 f1 f2 f3) (num x0 x1 x2 x3 == num f0 f1 f2 f3) (num f0 f1 f2 f3 == 0) (num n0 n1 n2 n3 == 0) (num x0 x1 x2 x3 == 0) = R at *
  clear hf hn hx
  unfold W4 at *
  go_enter Try.func5, Try.ntmps5
  go_wp2_with fail
  refine (H1.out _).mono ?_
  rintro e w1 ⟨rfl, hw1⟩
  have hz : w.heap.size + 1 + 1 + 1 ≤ w1.heap.size := by have := hw1.size; simp at this; omega
  have hB : Below w.heap.size w w1 := Below.trans (by go_grown) (hw1.mono (by simp; omega))
  have c00 : w1.cell? ⟨w.heap.size, 0, none⟩ = some (.int .u64 f0) := (hw1.cell (p := ⟨w.heap.size, 0, none⟩) (by simp only [World.size_alloc]; omega)).trans (by simp [go_sem])
  have c01 : w1.cell? ⟨w.heap.size, 1, none⟩ = some (.int .u64 f1) := (hw1.cell (p := ⟨w.heap.size, 1, none⟩) (by simp only [World.size_alloc]; omega)).trans (by simp [go_sem])
  have c02 : w1.cell? ⟨w.heap.size, 2, none⟩ = some (.int .u64 f2) := (hw1.cell (p := ⟨w.heap.size, 2, none⟩) (by simp only [World.size_alloc]; omega)).trans (by simp [go_sem])
  have c03 : w1.cell? ⟨w.heap.size, 3, none⟩ = some (.int .u64 f3) := (hw1.cell (p := ⟨w.heap.size, 3, none⟩) (by simp only [World.size_alloc]; omega)).trans (by simp [go_sem])
  have c10 : w1.cell? ⟨w.heap.size + 1, 0, none⟩ = some (.int .u64 n0) := (hw1.cell (p := ⟨w.heap.size + 1, 0, none⟩) (by simp only [World.size_alloc]; omega)).trans (by simp [go_sem])
  have c11 : w1.cell? ⟨w.heap.size + 1, 1, none⟩ = some (.int .u64 n1) := (hw1.cell (p := ⟨w.heap.size + 1, 1, none⟩) (by simp only [World.size_alloc]; omega)).trans (by simp [go_sem])
  have c12 : w1.cell? ⟨w.heap.size + 1, 2, none⟩ = some (.int .u64 n2) := (hw1.cell (p := ⟨w.heap.size + 1, 2, none⟩) (by simp only [World.size_alloc]; omega)).trans (by simp [go_sem])
  have c13 : w1.cell? ⟨w.heap.size + 1, 3, none⟩ = some (.int .u64 n3) := (hw1.cell (p := ⟨w.heap.size + 1, 3, none⟩) (by simp only [World.size_alloc]; omega)).trans (by simp [go_sem])
  have c20 : w1.cell? ⟨w.heap.size + 1 + 1, 0, none⟩ = some (.int .u64 x0) := (hw1.cell (p := ⟨w.heap.size + 1 + 1, 0, none⟩) (by simp only [World.size_alloc]; omega)).trans (by simp [go_sem])
  have c21 : w1.cell? ⟨w.heap.size + 1 + 1, 1, none⟩ = some (.int .u64 x1) := (hw1.cell (p := ⟨w.heap.size + 1 + 1, 1, none⟩) (by simp only [World.size_alloc]; omega)).trans (by simp [go_sem])
  have c22 : w1.cell? ⟨w.heap.size + 1 + 1, 2, none⟩ = some (.int .u64 x2) := (hw1.cell (p := ⟨w.heap.size + 1 + 1, 2, none⟩) (by simp only [World.size_alloc]; omega)).trans (by simp [go_sem])
  have c23 : w1.cell? ⟨w.heap.size + 1 + 1, 3, none⟩ = some (.int .u64 x3) := (hw1.cell (p := ⟨w.heap.size + 1 + 1, 3, none⟩) (by simp only [World.size_alloc]; omega)).trans (by simp [go_sem])
  have HB : Hid _ := hB
  clear hw1 hB
  go_wp2_with fail
  refine (H2.out _).mono ?_
  rintro e w2 ⟨rfl, hw2⟩
  go_wp2_with fail
  refine (alive_any _).mono ?_
  rintro e w3 ⟨rfl, hw3⟩
  go_wp2
  go_returns
  have h2 : Below w.heap.size w w2 := HB.out.trans (hw2.mono (by omega))
  exact ⟨rfl, h2.trans (hw3.mono h2.size)⟩
end Go.Proofs.Ytlpmmejdfenkiaa
