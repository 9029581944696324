/- conclaveref03.prime: the prime numbers by their places. -/
import Derived.Test.YtkenaccagcdofaaN7
namespace Go.Proofs.Ytkenaccagcdofaa
open Go.RowKit
set_option linter.unusedSimpArgs false
set_option linter.unusedVariables false

def prl : List Nat := [2, 3, 5, 7, 11, 13, 17, 19, 23, 29, 31, 37, 41, 43, 47, 53, 59, 61, 67, 71, 73, 79, 83, 89, 97, 101, 103, 107, 109, 113, 127, 131, 137, 139, 149, 151, 157, 163, 167, 173, 179, 181, 191, 193, 197, 199, 211, 223, 227, 229, 233, 239, 241, 251, 257, 263, 269, 271, 277, 281, 283, 293, 307, 311, 313, 317, 331, 337, 347, 349, 353, 359, 367, 373, 379, 383, 389, 397, 401, 409]
def pr (i : Nat) : Nat := prl.getD i 0
def tabl : List Nat := [0, 0, 1, 2, 2, 3, 3, 4, 4, 4, 4, 5, 5, 6, 6, 6, 6, 7, 7, 8, 8, 8, 8, 9, 9, 9, 9, 9, 9, 10, 10, 11, 11, 11, 11, 11, 11, 12, 12, 12, 12, 13, 13, 14, 14, 14, 14, 15, 15, 15, 15, 15, 15, 16, 16, 16, 16, 16, 16, 17, 17, 18, 18, 18, 18, 18, 18, 19, 19, 19, 19, 20, 20, 21, 21, 21, 21, 21, 21, 22, 22, 22, 22, 23, 23, 23, 23, 23, 23, 24, 24, 24, 24, 24, 24, 24, 24, 25, 25, 25, 25, 26, 26, 27, 27, 27, 27, 28, 28, 29, 29, 29, 29, 30, 30, 30, 30, 30, 30, 30, 30, 30, 30, 30, 30, 30, 30, 31, 31, 31, 31, 32, 32, 32, 32, 32, 32, 33, 33, 34, 34, 34, 34, 34, 34, 34, 34, 34, 34, 35, 35, 36, 36, 36, 36, 36, 36, 37, 37, 37, 37, 37, 37, 38, 38, 38, 38, 39, 39, 39, 39, 39, 39, 40, 40, 40, 40, 40, 40, 41, 41, 42, 42, 42, 42, 42, 42, 42, 42, 42, 42, 43, 43, 44, 44, 44, 44, 45, 45, 46, 46, 46, 46, 46, 46, 46, 46, 46, 46, 46, 46, 47, 47, 47, 47, 47, 47, 47, 47, 47, 47, 47, 47, 48, 48, 48, 48, 49, 49, 50, 50, 50, 50, 51, 51, 51, 51, 51, 51, 52, 52, 53, 53, 53, 53, 53, 53, 53, 53, 53, 53, 54, 54, 54, 54, 54, 54, 55, 55, 55, 55, 55, 55, 56, 56, 56, 56, 56, 56, 57, 57, 58, 58, 58, 58, 58, 58, 59, 59, 59, 59, 60, 60, 61, 61, 61, 61, 61, 61, 61, 61, 61, 61, 62, 62, 62, 62, 62, 62, 62, 62, 62, 62, 62, 62, 62, 62, 63, 63, 63, 63, 64, 64, 65, 65, 65, 65, 66, 66, 66, 66, 66, 66, 66, 66, 66, 66, 66, 66, 66, 66, 67, 67, 67, 67, 67, 67, 68, 68, 68, 68, 68, 68, 68, 68, 68, 68, 69, 69, 70, 70, 70, 70, 71, 71, 71, 71, 71, 71, 72, 72, 72, 72, 72, 72, 72, 72, 73, 73, 73, 73, 73, 73, 74, 74, 74, 74, 74, 74, 75, 75, 75, 75, 76, 76, 76, 76, 76, 76, 77, 77, 77, 77, 77, 77, 77, 77, 78, 78, 78, 78, 79, 79, 79, 79, 79, 79, 79, 79, 80]
def tab (n : Nat) : Nat := tabl.getD n 0
/-- No number from 2 on whose square is not more goes into n. -/
def ip (n : Nat) : Bool := (List.range 21).all fun e => !(decide (2 ≤ e) && decide (e * e ≤ n)) || n % e != 0
/-- No number from 2 on below d goes into n. -/
def ipTo (n d : Nat) : Bool := (List.range d).all fun e => !(decide (2 ≤ e)) || n % e != 0
theorem ipTo_two (n : Nat) : ipTo n 2 = true := by
  unfold ipTo; rw [List.all_eq_true]; intro e he; have : e < 2 := by simpa using he
  simp; exact Or.inl (by omega)
theorem ipTo_succ (n d : Nat) (hd : 2 ≤ d) : ipTo n (d + 1) = (ipTo n d && (n % d != 0)) := by
  unfold ipTo; rw [List.range_succ, List.all_append]; simp [hd]
theorem ip_of (n d : Nat) (hn : n < 441) (h2 : ∀ e, 2 ≤ e → e < d → e * e ≤ n) (h3 : n < d * d) : ipTo n d = ip n := by
  rw [Bool.eq_iff_iff]
  unfold ipTo ip
  rw [List.all_eq_true, List.all_eq_true]
  constructor
  · intro h e he
    have he' : e < 21 := by simpa using he
    by_cases h4 : 2 ≤ e ∧ e * e ≤ n
    · have hlt : e < d := by
        rcases Nat.lt_or_ge e d with g | g
        · exact g
        · have := Nat.mul_le_mul g g; omega
      have := h e (by simpa using hlt)
      simpa [h4.1, h4.2] using this
    · have h6 : (decide (2 ≤ e) && decide (e * e ≤ n)) = false := by
        rw [Bool.eq_false_iff]; intro h7; rw [Bool.and_eq_true, decide_eq_true_eq, decide_eq_true_eq] at h7; exact h4 h7
      rw [h6]; rfl
  · intro h e he
    have he' : e < d := by simpa using he
    by_cases h4 : 2 ≤ e
    · have hs := h2 e h4 he'
      have hlt : e < 21 := by
        rcases Nat.lt_or_ge e 21 with g | g
        · exact g
        · have := Nat.mul_le_mul g g; omega
      have := h e (by simpa using hlt)
      simpa [h4, hs] using this
    · simp; exact Or.inl (by omega)
theorem tab_all : (List.range 409).all (fun n => decide (tab (n + 1) = tab n + if (decide (2 ≤ n + 1) && ip (n + 1)) = true then 1 else 0)) = true := by decide +kernel
theorem tab_step (n : Nat) (h : n < 409) (h1 : 1 ≤ n) : tab (n + 1) = tab n + if ip (n + 1) = true then 1 else 0 := by
  have := of_decide_eq_true (List.all_eq_true.1 tab_all n (by simpa using h))
  simpa [show 2 ≤ n + 1 by omega, show 1 ≤ n by omega] using this
theorem pr_all : (List.range 80).all (fun i => decide (tab (pr i) = i + 1) && decide (tab (pr i - 1) = i) && decide (2 ≤ pr i) && decide (pr i ≤ 409)) = true := by decide +kernel
theorem pr_tab (i : Nat) (h : i < 80) : tab (pr i) = i + 1 ∧ tab (pr i - 1) = i ∧ 2 ≤ pr i ∧ pr i ≤ 409 := by
  have := List.all_eq_true.1 pr_all i (by simpa using h)
  simp at this
  exact ⟨this.1.1.1, this.1.1.2, this.1.2, this.2⟩
theorem tab_mono_step : (List.range 409).all (fun n => decide (tab n ≤ tab (n + 1))) = true := by decide +kernel
theorem tab_mono (a : Nat) : ∀ d, a + d ≤ 409 → tab a ≤ tab (a + d)
  | 0, _ => Nat.le_refl _
  | d + 1, h => Nat.le_trans (tab_mono a d (by omega)) (of_decide_eq_true (List.all_eq_true.1 tab_mono_step (a + d) (by simp; omega)))
theorem tab_below (i n : Nat) (hi : i < 80) (hn : n < pr i) : tab n ≤ i := by
  obtain ⟨_, h2, h3, h4⟩ := pr_tab i hi
  have := tab_mono n (pr i - 1 - n) (by omega)
  rw [show n + (pr i - 1 - n) = pr i - 1 from by omega, h2] at this
  exact this
theorem bne_cast (m : Nat) : ((m : Int) != 0) = (m != 0) := by rw [Bool.eq_iff_iff]; simp
set_option maxHeartbeats 2000000 in
theorem prime_any (i : Nat) (hi : i < 80) (w : World) :
    Calls Try.prog 19 #[.int .i64 (i : Int)] w fun e w' => e = .returned (.int .i64 (pr i : Int)) ∧ w' = w := by
  obtain ⟨hp1, hp2, hp3, hp4⟩ := pr_tab i hi
  have HT : Hid (tab (pr i) = i + 1) := hp1
  obtain ⟨p, hp⟩ : ∃ p, p = pr i := ⟨_, rfl⟩
  have HP : Hid (p = pr i) := hp
  rw [← hp] at HT hp3 hp4 ⊢
  have HB : Hid (∀ n, n < p → tab n ≤ i) := fun n hn => tab_below i n hi (hp ▸ hn)
  clear hp hp1 hp2
  go_enter Try.func19, Try.ntmps19
  go_wp2
  go_loop [0, 3] (fun a b => ∃ n : Nat, 1 ≤ n ∧ n ≤ p ∧ a = .int .i64 ((i : Int) - (tab n : Int)) ∧ b = .int .i64 (n : Int)) (fun a b => 500 - (intOf b).toNat)
  case atStart => exact ⟨1, by omega, by omega, by rw [show tab 1 = 0 from by decide +kernel]; simp, rfl⟩
  case round =>
    obtain ⟨n, hn1, hn2, rfl, rfl⟩ := hrel
    by_cases hlt : n < p
    · have hle := HB.out n hlt
      have hst := tab_step n (by omega) hn1
      have HST : Hid _ := hst
      clear hst
      have hd : (0 : Int) ≤ (i : Int) - (tab n : Int) := by omega
      obtain ⟨t, ht⟩ : ∃ t : Int, t = (tab n : Int) := ⟨_, rfl⟩
      have HTT : Hid (t = (tab n : Int)) := ht
      rw [← ht] at hd ⊢
      have ht0 : 0 ≤ t := by omega
      clear ht
      go_wp2
      go_loop [4, 5] (fun a b => ∃ d : Nat, 2 ≤ d ∧ d ≤ 100 ∧ a = .bool (ipTo (n + 1) d) ∧ b = .int .i64 (d : Int) ∧ Hid (∀ e, 2 ≤ e → e < d → e * e ≤ n + 1)) (fun a b => 500 - (intOf b).toNat)
      case atStart => exact ⟨2, by omega, by omega, by rw [ipTo_two], rfl, fun e h1 h2 => by omega⟩
      case round =>
        obtain ⟨d, hd1, hd2, rfl, rfl, hd3⟩ := hrel
        have hdd : (d : Int) * (d : Int) = ((d * d : Nat) : Int) := by simp
        have hq := Nat.mul_le_mul hd2 hd2
        by_cases hle2 : d * d ≤ n + 1
        · have hd22 : d < 21 := by
            rcases Nat.lt_or_ge d 21 with g | g
            · exact g
            · have := Nat.mul_le_mul g g; omega
          have HN : Hid (ipTo (n + 1) (d + 1) = (ipTo (n + 1) d && ((n + 1) % d != 0)) ∧ ∀ e, 2 ≤ e → e < d + 1 → e * e ≤ n + 1) := ⟨ipTo_succ _ _ hd1, fun e h1 h2 => by
            rcases Nat.lt_or_ge e d with g | g
            · exact hd3.out e h1 g
            · obtain rfl : e = d := by omega
              exact hle2⟩
          clear hd3
          have hc1 : (d : Int) * (d : Int) ≤ (n : Int) + 1 := by rw [hdd]; omega
          have hne : (d : Int) ≠ 0 := by omega
          clear hdd hq
          have hmm : ((n : Int) + 1).tmod (d : Int) = (((n + 1) % d : Nat) : Int) := by
            rw [show (n : Int) + 1 = ((n + 1 : Nat) : Int) by simp, Int.ofNat_tmod]
          obtain ⟨m, hm⟩ : ∃ m, m = (n + 1) % d := ⟨_, rfl⟩
          rw [← hm] at HN hmm
          have hmd : m < d := by rw [hm]; exact Nat.mod_lt _ (by omega)
          clear hm
          cases hb : ipTo (n + 1) d with
          | true =>
            rw [hb] at HN
            go_wp2
            exact ⟨⟨d + 1, by omega, by omega, by rw [HN.out.1, bne_cast]; simp, by go_num, HN.out.2⟩, by simp [intOf]; omega⟩
          | false =>
            rw [hb] at HN
            go_wp2
            exact ⟨⟨d + 1, by omega, by omega, by rw [HN.out.1]; rfl, by go_num, HN.out.2⟩, by simp [intOf]; omega⟩
        · have hip := ip_of (n + 1) d (by omega) hd3.out (by omega)
          have hc1 : (n : Int) + 1 < (d : Int) * (d : Int) := by rw [hdd]; omega
          have hq1 : (d : Int) * (d : Int) ≤ 10000 := by rw [hdd]; omega
          have hwr : IntKind.i64.wrap ((d : Int) * (d : Int)) = (d : Int) * (d : Int) := by rw [IntKind.wrap_i64]; omega
          have hstp := HST.out
          rw [← hip] at hstp
          clear hdd hq hip hd3 HST
          cases hb : ipTo (n + 1) d with
          | true =>
            rw [hb] at hstp
            have HS : Hid (tab (n + 1) = tab n + 1) := by show _ = _; simpa using hstp
            clear hstp
            go_wp2
            exact ⟨⟨n + 1, by omega, by omega, by have := HS.out; have := HTT.out; go_num, by go_num⟩, by simp [intOf]; omega⟩
          | false =>
            rw [hb] at hstp
            have HS : Hid (tab (n + 1) = tab n) := by show _ = _; simpa using hstp
            clear hstp
            go_wp2
            exact ⟨⟨n + 1, by omega, by omega, by have := HS.out; have := HTT.out; go_num, by go_num⟩, by simp [intOf]; omega⟩
    · obtain rfl : n = p := by omega
      have hd : ¬ (0 : Int) ≤ (i : Int) - (tab n : Int) := by have := HT.out; omega
      obtain ⟨t, ht⟩ : ∃ t : Int, t = (i : Int) - (tab n : Int) := ⟨_, rfl⟩
      rw [← ht] at hd ⊢
      clear ht
      go_wp2
      go_ret
      exact ⟨rfl, rfl⟩
end Go.Proofs.Ytkenaccagcdofaa
