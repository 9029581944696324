/- Walks over package gas: sizes. -/
import Derived.Test.YtlpmmejdfenkiaaChecked
import Derived.WalkKit
import Derived.WalkSpells
import Derived.StillTactics
import Derived.Laws.Pointers
import Derived.RowKit3
import Derived.Handy
namespace Go.Proofs.Ytlpmmejdfenkiaa
open Go.RowKit
set_option linter.unusedSimpArgs false
/-- How many words n bytes take. -/
def wordsN (n : Int) : Int := if 4294967296 < n then 4611686018427387904 else (n + 31) / 32
def memN (n : Int) : Int := if 4294967296 < n then 4611686018427387904 else 3 * ((n + 31) / 32) + ((n + 31) / 32) * ((n + 31) / 32) / 512
def hashN (n : Int) : Int := if 4294967296 < n then 4611686018427387904 else 30 + 6 * ((n + 31) / 32)
def copyN (n : Int) : Int := if 4294967296 < n then 4611686018427387904 else 3 * ((n + 31) / 32)
def clampN (t : Int) : Int := if t < 0 then 0 else if 4 < t then 4 else t
def logN (t n : Int) : Int := if 4294967296 < n then 4611686018427387904 else 375 + 375 * clampN t + 8 * n
def createN (n : Int) (h : Bool) : Int := if 4294967296 < n then 4611686018427387904 else 32000 + (if h then 8 else 2) * ((n + 31) / 32)
/-- One number of 64 bits. -/
def U64 (x : Int) : Prop := 0 ≤ x ∧ x < 18446744073709551616
theorem ret_int {k : IntKind} {x y : Int} (h : x = y) : Ending.returned (Value.int k x) = Ending.returned (Value.int k y) := by rw [h]
theorem words_any (n : Int) (hn : U64 n) (w : World) :
    Calls Try.prog 9 #[.int .u64 n] w fun e w' => e = .returned (.int .u64 (wordsN n)) ∧ w' = w := by
  obtain ⟨h0, h1⟩ := hn
  unfold wordsN
  by_cases h : 4294967296 < n
  · rw [if_pos h]
    go_enter Try.func9, Try.ntmps9
    go_wp2
    go_returns
    exact ⟨rfl, rfl⟩
  · rw [if_neg h]
    have e1 : n + 32 < 18446744073709551616 := by omega
    go_enter Try.func9, Try.ntmps9
    go_wp2
    go_returns
    exact ⟨ret_int (by omega), rfl⟩
theorem rwords_any (n : Int) (hn : U64 n) (w : World) :
    Calls Try.prog 10 #[.int .u64 n] w fun e w' => e = .returned (.int .u64 (wordsN n)) ∧ w' = w := by
  obtain ⟨h0, h1⟩ := hn
  unfold wordsN
  by_cases h : 4294967296 < n
  · rw [if_pos h]
    go_enter Try.func10, Try.ntmps10
    go_wp2
    go_returns
    exact ⟨rfl, rfl⟩
  · rw [if_neg h]
    have e1 : n + 32 < 18446744073709551616 := by omega
    go_enter Try.func10, Try.ntmps10
    go_wp2
    go_returns
    exact ⟨ret_int (by omega), rfl⟩
theorem hash_any (n : Int) (hn : U64 n) (w : World) :
    Calls Try.prog 13 #[.int .u64 n] w fun e w' => e = .returned (.int .u64 (hashN n)) ∧ w' = w := by
  obtain ⟨h0, h1⟩ := hn
  unfold hashN
  by_cases h : 4294967296 < n
  · rw [if_pos h]
    go_enter Try.func13, Try.ntmps13
    go_wp2
    go_returns
    exact ⟨rfl, rfl⟩
  · rw [if_neg h]
    have e1 : n + 32 < 18446744073709551616 := by omega
    go_enter Try.func13, Try.ntmps13
    go_wp2
    go_returns
    exact ⟨ret_int (by omega), rfl⟩
theorem memory_any (n : Int) (hn : U64 n) (w : World) :
    Calls Try.prog 11 #[.int .u64 n] w fun e w' => e = .returned (.int .u64 (memN n)) ∧ w' = w := by
  obtain ⟨h0, h1⟩ := hn
  unfold memN
  by_cases h : 4294967296 < n
  · rw [if_pos h]
    go_enter Try.func11, Try.ntmps11
    go_wp2
    go_returns
    exact ⟨rfl, rfl⟩
  · rw [if_neg h]
    have HW := words_any n ⟨h0, h1⟩
    unfold wordsN at HW
    rw [if_neg h] at HW
    have b0 : 0 ≤ (n + 31) / 32 := by omega
    have b1 : (n + 31) / 32 ≤ 134217728 := by omega
    generalize (n + 31) / 32 = k at *
    have b2 : 0 ≤ k * k := Int.mul_nonneg b0 b0
    have b3 : k * k ≤ 134217728 * 134217728 := Int.mul_le_mul b1 b1 b0 (by decide)
    go_enter Try.func11, Try.ntmps11
    go_wp2_with fail
    refine (HW _).mono ?_
    rintro e w' ⟨rfl, rfl⟩
    go_wp2
    go_returns
    exact ⟨rfl, rfl⟩
theorem rmemory_any (n : Int) (hn : U64 n) (w : World) :
    Calls Try.prog 12 #[.int .u64 n] w fun e w' => e = .returned (.int .u64 (memN n)) ∧ w' = w := by
  obtain ⟨h0, h1⟩ := hn
  unfold memN
  by_cases h : 4294967296 < n
  · rw [if_pos h]
    go_enter Try.func12, Try.ntmps12
    go_wp2
    go_returns
    exact ⟨rfl, rfl⟩
  · rw [if_neg h]
    have HW := rwords_any n ⟨h0, h1⟩
    unfold wordsN at HW
    rw [if_neg h] at HW
    have b0 : 0 ≤ (n + 31) / 32 := by omega
    have b1 : (n + 31) / 32 ≤ 134217728 := by omega
    generalize (n + 31) / 32 = k at *
    have b2 : 0 ≤ k * k := Int.mul_nonneg b0 b0
    have b3 : k * k ≤ 134217728 * 134217728 := Int.mul_le_mul b1 b1 b0 (by decide)
    go_enter Try.func12, Try.ntmps12
    go_wp2_with fail
    refine (HW _).mono ?_
    rintro e w' ⟨rfl, rfl⟩
    go_wp2
    go_returns
    exact ⟨rfl, rfl⟩
theorem rhash_any (n : Int) (hn : U64 n) (w : World) :
    Calls Try.prog 14 #[.int .u64 n] w fun e w' => e = .returned (.int .u64 (hashN n)) ∧ w' = w := by
  obtain ⟨h0, h1⟩ := hn
  unfold hashN
  by_cases h : 4294967296 < n
  · rw [if_pos h]
    go_enter Try.func14, Try.ntmps14
    go_wp2
    go_returns
    exact ⟨rfl, rfl⟩
  · rw [if_neg h]
    have e1 : n + 32 < 18446744073709551616 := by omega
    go_enter Try.func14, Try.ntmps14
    go_wp2
    go_returns
    exact ⟨ret_int (by omega), rfl⟩
theorem copy_any (n : Int) (hn : U64 n) (w : World) :
    Calls Try.prog 15 #[.int .u64 n] w fun e w' => e = .returned (.int .u64 (copyN n)) ∧ w' = w := by
  obtain ⟨h0, h1⟩ := hn
  unfold copyN
  by_cases h : 4294967296 < n
  · rw [if_pos h]
    go_enter Try.func15, Try.ntmps15
    go_wp2
    go_returns
    exact ⟨rfl, rfl⟩
  · rw [if_neg h]
    have e1 : n + 32 < 18446744073709551616 := by omega
    go_enter Try.func15, Try.ntmps15
    go_wp2
    go_returns
    exact ⟨ret_int (by omega), rfl⟩
theorem rcopy_any (n : Int) (hn : U64 n) (w : World) :
    Calls Try.prog 16 #[.int .u64 n] w fun e w' => e = .returned (.int .u64 (copyN n)) ∧ w' = w := by
  obtain ⟨h0, h1⟩ := hn
  unfold copyN
  by_cases h : 4294967296 < n
  · rw [if_pos h]
    go_enter Try.func16, Try.ntmps16
    go_wp2
    go_returns
    exact ⟨rfl, rfl⟩
  · rw [if_neg h]
    have e1 : n + 32 < 18446744073709551616 := by omega
    go_enter Try.func16, Try.ntmps16
    go_wp2
    go_returns
    exact ⟨ret_int (by omega), rfl⟩
theorem log_any (t n : Int) (ht0 : -9223372036854775808 ≤ t) (ht1 : t ≤ 9223372036854775807) (hn : U64 n) (w : World) :
    Calls Try.prog 17 #[.int .i64 t, .int .u64 n] w fun e w' => e = .returned (.int .u64 (logN t n)) ∧ w' = w := by
  obtain ⟨h0, h1⟩ := hn
  unfold logN clampN
  by_cases h : 4294967296 < n
  · rw [if_pos h]
    rcases (by omega : t < 0 ∨ (0 ≤ t ∧ t ≤ 4) ∨ 4 < t) with c | ⟨c0, c1⟩ | c
    all_goals
      go_enter Try.func17, Try.ntmps17
      go_wp2
      go_returns
      exact ⟨rfl, rfl⟩
  · rw [if_neg h]
    rcases (by omega : t < 0 ∨ (0 ≤ t ∧ t ≤ 4) ∨ 4 < t) with c | ⟨c0, c1⟩ | c
    · rw [if_pos c]
      go_enter Try.func17, Try.ntmps17
      go_wp2
      go_returns
      exact ⟨ret_int (by omega), rfl⟩
    · rw [if_neg (by omega), if_neg (by omega)]
      go_enter Try.func17, Try.ntmps17
      go_wp2
      go_returns
      exact ⟨ret_int (by omega), rfl⟩
    · rw [if_neg (by omega), if_pos c]
      go_enter Try.func17, Try.ntmps17
      go_wp2
      go_returns
      exact ⟨ret_int (by omega), rfl⟩
theorem rlog_any (t n : Int) (ht0 : -9223372036854775808 ≤ t) (ht1 : t ≤ 9223372036854775807) (hn : U64 n) (w : World) :
    Calls Try.prog 18 #[.int .i64 t, .int .u64 n] w fun e w' => e = .returned (.int .u64 (logN t n)) ∧ w' = w := by
  obtain ⟨h0, h1⟩ := hn
  unfold logN clampN
  by_cases h : 4294967296 < n
  · rw [if_pos h]
    rcases (by omega : t < 0 ∨ (0 ≤ t ∧ t ≤ 4) ∨ 4 < t) with c | ⟨c0, c1⟩ | c
    all_goals
      go_enter Try.func18, Try.ntmps18
      go_wp2
      go_returns
      exact ⟨rfl, rfl⟩
  · rw [if_neg h]
    rcases (by omega : t < 0 ∨ (0 ≤ t ∧ t ≤ 4) ∨ 4 < t) with c | ⟨c0, c1⟩ | c
    · rw [if_pos c]
      go_enter Try.func18, Try.ntmps18
      go_wp2
      go_returns
      exact ⟨ret_int (by omega), rfl⟩
    · rw [if_neg (by omega), if_neg (by omega)]
      go_enter Try.func18, Try.ntmps18
      go_wp2
      go_returns
      exact ⟨ret_int (by omega), rfl⟩
    · rw [if_neg (by omega), if_pos c]
      go_enter Try.func18, Try.ntmps18
      go_wp2
      go_returns
      exact ⟨ret_int (by omega), rfl⟩
theorem create_any (n : Int) (b : Bool) (hn : U64 n) (w : World) :
    Calls Try.prog 19 #[.int .u64 n, .bool b] w fun e w' => e = .returned (.int .u64 (createN n b)) ∧ w' = w := by
  obtain ⟨h0, h1⟩ := hn
  unfold createN
  by_cases h : 4294967296 < n
  · rw [if_pos h]
    cases b
    all_goals
      go_enter Try.func19, Try.ntmps19
      go_wp2
      go_returns
      exact ⟨rfl, rfl⟩
  · rw [if_neg h]
    have e1 : n + 32 < 18446744073709551616 := by omega
    cases b
    all_goals
      simp only [if_true, Bool.false_eq_true, if_false]
      go_enter Try.func19, Try.ntmps19
      go_wp2
      go_returns
      exact ⟨ret_int (by omega), rfl⟩
theorem rcreate_any (n : Int) (b : Bool) (hn : U64 n) (w : World) :
    Calls Try.prog 20 #[.int .u64 n, .bool b] w fun e w' => e = .returned (.int .u64 (createN n b)) ∧ w' = w := by
  obtain ⟨h0, h1⟩ := hn
  unfold createN
  by_cases h : 4294967296 < n
  · rw [if_pos h]
    cases b
    all_goals
      go_enter Try.func20, Try.ntmps20
      go_wp2
      go_returns
      exact ⟨rfl, rfl⟩
  · rw [if_neg h]
    have e1 : n + 32 < 18446744073709551616 := by omega
    cases b
    all_goals
      simp only [if_true, Bool.false_eq_true, if_false]
      go_enter Try.func20, Try.ntmps20
      go_wp2
      go_returns
      exact ⟨ret_int (by omega), rfl⟩
def accessN (b : Bool) : Int := if b then 100 else 2600
def sloadN (b : Bool) : Int := if b then 100 else 2100
def callN (a b c : Bool) : Int := accessN a + (if b then (if c then 9000 else 34000) else 0)
def refundN (u s : Int) : Int := if s ≤ 0 then 0 else if s ≤ u / 5 then s else u / 5
theorem access_any (b : Bool) (w : World) :
    Calls Try.prog 26 #[.bool b] w fun e w' => e = .returned (.int .u64 (accessN b)) ∧ w' = w := by
  cases b
  all_goals
    go_enter Try.func26, Try.ntmps26
    go_wp2
    go_returns
    exact ⟨rfl, rfl⟩
theorem raccess_any (b : Bool) (w : World) :
    Calls Try.prog 27 #[.bool b] w fun e w' => e = .returned (.int .u64 (accessN b)) ∧ w' = w := by
  cases b
  all_goals
    go_enter Try.func27, Try.ntmps27
    go_wp2
    go_returns
    exact ⟨rfl, rfl⟩
theorem sload_any (b : Bool) (w : World) :
    Calls Try.prog 28 #[.bool b] w fun e w' => e = .returned (.int .u64 (sloadN b)) ∧ w' = w := by
  cases b
  all_goals
    go_enter Try.func28, Try.ntmps28
    go_wp2
    go_returns
    exact ⟨rfl, rfl⟩
theorem rsload_any (b : Bool) (w : World) :
    Calls Try.prog 29 #[.bool b] w fun e w' => e = .returned (.int .u64 (sloadN b)) ∧ w' = w := by
  cases b
  all_goals
    go_enter Try.func29, Try.ntmps29
    go_wp2
    go_returns
    exact ⟨rfl, rfl⟩
theorem call_any (a b c : Bool) (w : World) :
    Calls Try.prog 30 #[.bool a, .bool b, .bool c] w fun e w' => e = .returned (.int .u64 (callN a b c)) ∧ w' = w := by
  cases a <;> cases b <;> cases c
  all_goals
    go_enter Try.func30, Try.ntmps30
    go_wp2
    go_returns
    exact ⟨rfl, rfl⟩
theorem rcall_any (a b c : Bool) (w : World) :
    Calls Try.prog 31 #[.bool a, .bool b, .bool c] w fun e w' => e = .returned (.int .u64 (callN a b c)) ∧ w' = w := by
  cases a <;> cases b <;> cases c
  all_goals
    go_enter Try.func31, Try.ntmps31
    go_wp2
    go_returns
    exact ⟨rfl, rfl⟩
theorem refund_any (u s : Int) (hu : U64 u) (hs0 : -9223372036854775808 ≤ s) (hs1 : s ≤ 9223372036854775807) (w : World) :
    Calls Try.prog 36 #[.int .u64 u, .int .i64 s] w fun e w' => e = .returned (.int .u64 (refundN u s)) ∧ w' = w := by
  obtain ⟨h0, h1⟩ := hu
  unfold refundN
  by_cases h : s ≤ 0
  · rw [if_pos h]
    go_enter Try.func36, Try.ntmps36
    go_wp2
    go_returns
    exact ⟨rfl, rfl⟩
  · rw [if_neg h]
    by_cases g : s ≤ u / 5
    · rw [if_pos g]
      rcases (by omega : s < u / 5 ∨ s = u / 5) with g1 | g1
      all_goals
        go_enter Try.func36, Try.ntmps36
        go_wp2
        go_returns
        exact ⟨ret_int (by omega), rfl⟩
    · rw [if_neg g]
      go_enter Try.func36, Try.ntmps36
      go_wp2
      go_returns
      exact ⟨ret_int (by omega), rfl⟩
theorem rrefund_any (u s : Int) (hu : U64 u) (hs0 : -9223372036854775808 ≤ s) (hs1 : s ≤ 9223372036854775807) (w : World) :
    Calls Try.prog 37 #[.int .u64 u, .int .i64 s] w fun e w' => e = .returned (.int .u64 (refundN u s)) ∧ w' = w := by
  obtain ⟨h0, h1⟩ := hu
  unfold refundN
  by_cases h : s ≤ 0
  · rw [if_pos h]
    go_enter Try.func37, Try.ntmps37
    go_wp2
    go_returns
    exact ⟨rfl, rfl⟩
  · rw [if_neg h]
    by_cases g : s ≤ u / 5
    · rw [if_pos g]
      rcases (by omega : s < u / 5 ∨ s = u / 5) with g1 | g1
      all_goals
        go_enter Try.func37, Try.ntmps37
        go_wp2
        go_returns
        exact ⟨ret_int (by omega), rfl⟩
    · rw [if_neg g]
      go_enter Try.func37, Try.ntmps37
      go_wp2
      go_returns
      exact ⟨ret_int (by omega), rfl⟩
end Go.Proofs.Ytlpmmejdfenkiaa
