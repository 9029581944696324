/- Walks over package gas: Intrinsic. -/
import Derived.Test.YtlpmmejdfenkiaaGA
namespace Go.Proofs.Ytlpmmejdfenkiaa
open Go.RowKit
set_option linter.unusedSimpArgs false
set_option linter.unusedVariables false
/-- How many of the first k are 0. -/
def zc (f : Nat → Int) : Nat → Int
  | 0 => 0
  | k + 1 => zc f k + (if f k = 0 then 1 else 0)
theorem zc_bd (f : Nat → Int) : ∀ k, 0 ≤ zc f k ∧ zc f k ≤ k
  | 0 => by simp [zc]
  | k + 1 => by have := zc_bd f k; unfold zc; split <;> omega
theorem zc_z {f : Nat → Int} {k : Nat} (h : f k = 0) : zc f (k + 1) = zc f k + 1 := by rw [zc, if_pos h]
theorem zc_n {f : Nat → Int} {k : Nat} (h : f k ≠ 0) : zc f (k + 1) = zc f k := by rw [zc, if_neg h]; omega
def intrN (f : Nat → Int) (n : Nat) (b : Bool) : Int := 21000 + 4 * zc f n + 16 * (n - zc f n) + (if b then 32000 + 2 * wordsN n else 0)
/-- Bytes in memory. -/
def DataV (w : World) (sa : Option Addr) (n : Nat) (f : Nat → Int) : Prop := ∀ k, k < n → ∃ a, sa = some a ∧ a.block < w.heap.size ∧ w.cell? (a.add k) = some (.int .u8 (f k)) ∧ 0 ≤ f k ∧ f k < 256
set_option maxHeartbeats 4000000 in
theorem rintrinsic_any (sa : Option Addr) (n cap : Nat) (f : Nat → Int) (b : Bool) (w : World) (hn : n ≤ 140737488351232) (hd : DataV w sa n f) :
    Calls Try.prog 23 #[.slice sa n cap, .bool b] w fun e w' => e = .returned (.int .u64 (intrN f n b)) ∧ w' = w := by
  have HW : Hid (∀ w, _) := rwords_any n ⟨by omega, by omega⟩
  have hwb : 0 ≤ wordsN n ∧ wordsN n ≤ 4611686018427387904 := by unfold wordsN; split <;> omega
  have HD : Hid _ := hd
  clear hd
  go_enter Try.func23, Try.ntmps23
  go_wp2
  go_loop [5, 6] (fun s i => ∃ k : Nat, k ≤ n ∧ i = .int .i64 k ∧ ∃ z : Int, s = .int .u64 (21000 + 16 * k - 12 * z) ∧ 0 ≤ z ∧ z ≤ k ∧ Hid (z = zc f k)) (fun s i => n - (intOf i).toNat)
  case atStart => exact ⟨0, by omega, rfl, 0, rfl, by omega, by omega, rfl⟩
  case round =>
    obtain ⟨k, hk, rfl, z, rfl, hz0, hz1, hz⟩ := hrel
    by_cases hlt : k < n
    · obtain ⟨a, rfl, hab, hc, hf0, hf1⟩ := HD.out k hlt
      by_cases h0 : f k = 0
      · have h00 : (f k == 0) = true := by simpa using h0
        have hz' : Hid (z + 1 = zc f (k + 1)) := by show _ = _; rw [zc_z h0, hz.out]
        clear h0
        go_wp2
        exact ⟨⟨k + 1, by omega, by go_num, z + 1, by congr 1; omega, by omega, by omega, hz'⟩, by simp [intOf]; omega⟩
      · have h00 : (f k == 0) = false := by simpa using h0
        have hz' : Hid (z = zc f (k + 1)) := by show _ = _; rw [zc_n h0, hz.out]
        clear h0
        go_wp2
        exact ⟨⟨k + 1, by omega, by go_num, z, by congr 1; omega, by omega, by omega, hz'⟩, by simp [intOf]; omega⟩
    · have hkn : k = n := by omega
      subst hkn
      have hres : Hid (intrN f k b = 21000 + 16 * k - 12 * z + (if b then 32000 + 2 * wordsN k else 0)) := by
        show _ = _
        unfold intrN; rw [← hz.out]; omega
      generalize wordsN k = W at *
      cases b
      · go_wp2
        go_returns
        exact ⟨by rw [hres.out]; exact ret_int (by simp), rfl⟩
      · go_wp2_with fail
        refine (HW.out _).mono ?_
        rintro e w' ⟨rfl, rfl⟩
        go_wp2
        go_returns
        exact ⟨by rw [hres.out]; exact ret_int (by simp; omega), rfl⟩
set_option maxHeartbeats 4000000 in
/-- gas.kind -/
theorem kind_any (x : Int) (h0 : 0 ≤ x) (h1 : x < 256) (w : World) :
    Calls Try.prog 39 #[.int .u8 x] w fun e w' => e = .returned (.int .i64 (if x = 0 then 0 else 1)) ∧ w' = w := by
  by_cases h : x = 0
  · rw [if_pos h]
    subst h
    go_enter Try.func39, Try.ntmps39
    go_wp2
    go_returns
    exact ⟨rfl, rfl⟩
  · rw [if_neg h]
    have hx : (x == 0) = false := by simpa using h
    go_enter Try.func39, Try.ntmps39
    go_wp2
    go_returns
    exact ⟨rfl, rfl⟩
set_option maxHeartbeats 4000000 in
theorem intrinsic_any (sa : Option Addr) (n cap : Nat) (f : Nat → Int) (b : Bool) (w : World) (hn : n ≤ 140737488351232) (hd : DataV w sa n f) :
    Calls Try.prog 22 #[.slice sa n cap, .bool b] w fun e w' => e = .returned (.int .u64 (intrN f n b)) ∧ Below w.heap.size w w' := by
  have HW : Hid (∀ w, _) := words_any n ⟨by omega, by omega⟩
  have hwb : 0 ≤ wordsN n ∧ wordsN n ≤ 4611686018427387904 := by unfold wordsN; split <;> omega
  have HD : Hid _ := hd
  clear hd
  go_enter Try.func22, Try.ntmps22
  go_wp2
  go_loopw [11] (fun i wr => ∃ k : Nat, k ≤ n ∧ i = .int .i64 k ∧ ∃ z y : Int, wr = w.alloc (.cells #[.int .u64 z, .int .u64 y] 46) ∧ 0 ≤ z ∧ 0 ≤ y ∧ z ≤ k ∧ y ≤ k ∧ Hid (y = k - z) ∧ Hid (z = zc f k)) (fun i _ => n - (intOf i).toNat)
  case atStart => exact ⟨0, by omega, rfl, 0, 0, rfl, by omega, by omega, by omega, by omega, rfl, rfl⟩
  case round =>
    obtain ⟨k, hk, rfl, z, y, rfl, hz0, hy0, hzk, hyk, hy, hz⟩ := hrel
    have HB : Hid (Below w.heap.size w (w.alloc (.cells #[.int .u64 z, .int .u64 y] 46))) := by show Below _ _ _; go_grown
    by_cases hlt : k < n
    · obtain ⟨a, rfl, hab, hc', hf0, hf1⟩ := HD.out k hlt
      have hc : (w.alloc (.cells #[.int .u64 z, .int .u64 y] 46)).cell? (a.add k) = some (.int .u8 (f k)) := (HB.out.cell (p := a.add k) (by have e : (a.add k).block = a.block := (by unfold Addr.add; split <;> rfl); rw [e]; exact hab)).trans hc'
      have HK : Hid (∀ w, _) := kind_any (f k) hf0 hf1
      clear hc'
      by_cases h0 : f k = 0
      · rw [if_pos h0] at HK
        have hz' : Hid (z + 1 = zc f (k + 1)) := by show _ = _; rw [zc_z h0, hz.out]
        clear h0
        go_wp2_with fail
        refine (HK.out _).mono ?_
        rintro e w' ⟨rfl, rfl⟩
        go_wp2
        exact ⟨⟨k + 1, by omega, by go_num, z + 1, y, rfl, by omega, by omega, by omega, by omega, by show _ = _; rw [hy.out]; omega, hz'⟩, by simp [intOf]; omega⟩
      · rw [if_neg h0] at HK
        have hz' : Hid (z = zc f (k + 1)) := by show _ = _; rw [zc_n h0, hz.out]
        clear h0
        go_wp2_with fail
        refine (HK.out _).mono ?_
        rintro e w' ⟨rfl, rfl⟩
        go_wp2
        exact ⟨⟨k + 1, by omega, by go_num, z, y + 1, rfl, by omega, by omega, by omega, by omega, by show _ = _; rw [hy.out]; omega, hz'⟩, by simp [intOf]; omega⟩
    · have hkn : k = n := by omega
      subst hkn
      have hres : Hid (intrN f k b = 21000 + 4 * z + 16 * y + (if b then 32000 + 2 * wordsN k else 0)) := by
        show _ = _
        unfold intrN; rw [← hz.out, hy.out]
      generalize wordsN k = W at *
      cases b
      · go_wp2
        go_returns
        exact ⟨by rw [hres.out]; exact ret_int (by simp), HB.out⟩
      · go_wp2_with fail
        refine (HW.out _).mono ?_
        rintro e w' ⟨rfl, rfl⟩
        go_wp2
        go_returns
        exact ⟨by rw [hres.out]; exact ret_int (by simp), HB.out⟩
end Go.Proofs.Ytlpmmejdfenkiaa
