/- Walks over package gas: Exp, and GasPlain. -/
import Derived.Test.YtlpmmejdfenkiaaGI
import Derived.Test.YtlpmmejdfenkiaaWdY3
import Derived.Test.YtlpmmejdfenkiaaWdY5
namespace Go.Proofs.Ytlpmmejdfenkiaa
open Go.RowKit
set_option linter.unusedSimpArgs false
set_option linter.unusedVariables false
theorem lenN_ex (n : Int) (h0 : 0 ≤ n) : ∀ k : Nat, n < 256 ^ k → ∃ l, l ≤ k ∧ Wd.lenN n l
  | 0, h => ⟨0, Nat.le_refl _, h, Or.inl rfl⟩
  | k + 1, h => by
    by_cases g : n < 256 ^ k
    · obtain ⟨l, hl, h2⟩ := lenN_ex n h0 k g
      exact ⟨l, by omega, h2⟩
    · exact ⟨k + 1, Nat.le_refl _, h, Or.inr (by simpa using Int.not_lt.1 g)⟩
theorem num_bd {a0 a1 a2 a3 : Int} (h : L4 a0 a1 a2 a3) : 0 ≤ num a0 a1 a2 a3 ∧ num a0 a1 a2 a3 < 256 ^ 32 := by
  obtain ⟨⟨_, _⟩, ⟨_, _⟩, ⟨_, _⟩, ⟨_, _⟩⟩ := h
  have e : (256 : Int) ^ 32 = 115792089237316195423570985008687907853269984665640564039457584007913129639936 := by decide
  rw [e]
  unfold num; omega
set_option maxHeartbeats 4000000 in
/-- gas.Exp -/
theorem exp_any (a0 a1 a2 a3 : Int) (L : Nat) (hL : L ≤ 32) (ha : L4 a0 a1 a2 a3) (hN : Wd.lenN (num a0 a1 a2 a3) L) (w : World) :
    Calls Try.prog 24 #[W4 a0 a1 a2 a3] w fun e w' => e = .returned (.int .u64 (10 + 50 * L)) ∧ Below w.heap.size w w' := by
  have HA : Hid _ := ha
  have HN : Hid _ := hN
  have HL : Hid (∀ w, _) := Wd.len_any a0 a1 a2 a3 ha
  clear ha hN
  unfold Wd.W4 at HL
  unfold W4
  go_enter Try.func24, Try.ntmps24
  go_wp2_with fail
  refine (HL.out _).mono ?_
  rintro e w1 ⟨l, rfl, hl, hn, hw⟩
  obtain rfl : l = L := Wd.lenN_eq (num_bd HA.out).1 hn.out HN.out
  have hB : Below w.heap.size w w1 := Below.trans (by go_grown) (hw.mono (by simp))
  clear hw hn
  go_wp2
  go_returns
  exact ⟨ret_int (by omega), hB⟩
set_option maxHeartbeats 4000000 in
/-- The document's Exp. -/
theorem rexp_any (a0 a1 a2 a3 : Int) (L : Nat) (hL : L ≤ 32) (ha : L4 a0 a1 a2 a3) (hN : Wd.lenN (num a0 a1 a2 a3) L) (w : World) :
    Calls Try.prog 25 #[W4 a0 a1 a2 a3] w fun e w' => e = .returned (.int .u64 (10 + 50 * L)) ∧ Below w.heap.size w w' := by
  have HA : Hid _ := ha
  have HN : Hid _ := hN
  have HL : Hid (∀ w, _) := Wd.shortref_any a0 a1 a2 a3 ha
  clear ha hN
  unfold Wd.W4 at HL
  unfold W4
  go_enter Try.func25, Try.ntmps25
  go_wp2_with fail
  refine (HL.out _).mono ?_
  rintro e w1 ⟨l, hl, hn, v, rfl, ⟨a, c, rfl⟩, hy, hw⟩
  obtain rfl : l = L := Wd.lenN_eq (num_bd HA.out).1 hn.out HN.out
  have hB : Below w.heap.size w w1 := Below.trans (by go_grown) (hw.mono (by simp))
  clear hw hn hy
  go_wp2
  go_returns
  exact ⟨ret_int (by omega), hB⟩
theorem DataV.below {w w' : World} {sa : Option Addr} {n : Nat} {f : Nat → Int} (h : DataV w sa n f) (hb : Below w.heap.size w w') : DataV w' sa n f := fun k hk => by
  obtain ⟨a, e, hab, hc, h0, h1⟩ := h k hk
  refine ⟨a, e, Nat.lt_of_lt_of_le hab hb.size, (hb.cell (p := a.add k) ?_).trans hc, h0, h1⟩
  have e : (a.add k).block = a.block := (by unfold Addr.add; split <;> rfl)
  rw [e]; exact hab
set_option maxHeartbeats 16000000 in
theorem plain_any (sa : Option Addr) (n cap : Nat) (f : Nat → Int) (a0 a1 a2 a3 : Int) (b1 b2 b3 : Bool) (w : World) (hn : n ≤ 140737488351232) (hd : DataV w sa n f) (ha : L4 a0 a1 a2 a3) :
    Calls Try.prog 4 #[.slice sa n cap, W4 a0 a1 a2 a3, .bool b1, .bool b2, .bool b3] w fun e w' => e = .returned (.bool true) ∧ Below w.heap.size w w' := by
  obtain ⟨L, hL, hN⟩ := lenN_ex _ (num_bd ha).1 32 (num_bd ha).2
  have HI : Hid (∀ w, DataV w sa n f → _) := fun w h => intrinsic_any sa n cap f b1 w hn h
  have HJ : Hid (∀ w, DataV w sa n f → _) := fun w h => rintrinsic_any sa n cap f b1 w hn h
  have HE : Hid (∀ w, _) := exp_any a0 a1 a2 a3 L hL ha hN
  have HF : Hid (∀ w, _) := rexp_any a0 a1 a2 a3 L hL ha hN
  have H1 : Hid (∀ w, _) := access_any b1
  have H2 : Hid (∀ w, _) := raccess_any b1
  have H3 : Hid (∀ w, _) := sload_any b1
  have H4 : Hid (∀ w, _) := rsload_any b1
  have H5 : Hid (∀ w, _) := call_any b1 b2 b3
  have H6 : Hid (∀ w, _) := rcall_any b1 b2 b3
  have HD : Hid (DataV w sa n f) := hd
  generalize intrN f n b1 = I1 at *
  generalize (10 + 50 * (L : Int)) = E1 at *
  generalize accessN b1 = A1 at *
  generalize sloadN b1 = S1 at *
  generalize callN b1 b2 b3 = C1 at *
  clear hd hN hL ha hn
  unfold W4 at *
  go_enter Try.func4, Try.ntmps4
  go_wp2
  have hB : Below w.heap.size w (w.alloc (.cells #[.int .u64 a0, .int .u64 a1, .int .u64 a2, .int .u64 a3] 30)) := by go_grown
  have s : Hid (w.heap.size < (w.alloc (.cells #[.int .u64 a0, .int .u64 a1, .int .u64 a2, .int .u64 a3] 30)).heap.size ∧ (w.alloc (.cells #[.int .u64 a0, .int .u64 a1, .int .u64 a2, .int .u64 a3] 30)).cell? ⟨w.heap.size, 0, none⟩ = some (.int .u64 a0) ∧ (w.alloc (.cells #[.int .u64 a0, .int .u64 a1, .int .u64 a2, .int .u64 a3] 30)).cell? ⟨w.heap.size, 1, none⟩ = some (.int .u64 a1) ∧ (w.alloc (.cells #[.int .u64 a0, .int .u64 a1, .int .u64 a2, .int .u64 a3] 30)).cell? ⟨w.heap.size, 2, none⟩ = some (.int .u64 a2) ∧ (w.alloc (.cells #[.int .u64 a0, .int .u64 a1, .int .u64 a2, .int .u64 a3] 30)).cell? ⟨w.heap.size, 3, none⟩ = some (.int .u64 a3)) := by
    show _ ∧ _
    simp [go_sem, World.cell?_alloc_past]
  generalize (w.alloc (.cells #[.int .u64 a0, .int .u64 a1, .int .u64 a2, .int .u64 a3] 30)) = W at *
  go_region_held3 (fun w' => w.heap.size < w'.heap.size ∧ w'.cell? ⟨w.heap.size, 0, none⟩ = some (.int .u64 a0) ∧ w'.cell? ⟨w.heap.size, 1, none⟩ = some (.int .u64 a1) ∧ w'.cell? ⟨w.heap.size, 2, none⟩ = some (.int .u64 a2) ∧ w'.cell? ⟨w.heap.size, 3, none⟩ = some (.int .u64 a3)) ((refine keep1 s.out ?_; go_grown; done))
    (first
      | (go_at_call 22; go_must (refine (HI.out _ (HD.out.below (by go_grown))).mono ?_; rintro e w1 ⟨rfl, hw⟩; have hB : Below w.heap.size w w1 := Below.trans (by go_grown) (hw.mono (by have := s.out.1; go_size)); have s : Hid _ := keep1s s.out (by go_grown) hw))
      | (go_at_call 23; go_must (refine (HJ.out _ (HD.out.below (by go_grown))).mono ?_; rintro e w1 ⟨rfl, hw⟩; obtain rfl := hw.symm))
      | (go_at_call 24; go_must (refine (HE.out _).mono ?_; rintro e w1 ⟨rfl, hw⟩; have hB : Below w.heap.size w w1 := Below.trans (by go_grown) (hw.mono (by have := s.out.1; go_size)); have s : Hid _ := keep1s s.out (by go_grown) hw))
      | (go_at_call 25; go_must (refine (HF.out _).mono ?_; rintro e w1 ⟨rfl, hw⟩; have hB : Below w.heap.size w w1 := Below.trans (by go_grown) (hw.mono (by have := s.out.1; go_size)); have s : Hid _ := keep1s s.out (by go_grown) hw))
      | (go_at_call 26; go_must (refine (H1.out _).mono ?_; rintro e w1 ⟨rfl, hw⟩; obtain rfl := hw.symm))
      | (go_at_call 27; go_must (refine (H2.out _).mono ?_; rintro e w1 ⟨rfl, hw⟩; obtain rfl := hw.symm))
      | (go_at_call 28; go_must (refine (H3.out _).mono ?_; rintro e w1 ⟨rfl, hw⟩; obtain rfl := hw.symm))
      | (go_at_call 29; go_must (refine (H4.out _).mono ?_; rintro e w1 ⟨rfl, hw⟩; obtain rfl := hw.symm))
      | (go_at_call 30; go_must (refine (H5.out _).mono ?_; rintro e w1 ⟨rfl, hw⟩; obtain rfl := hw.symm))
      | (go_at_call 31; go_must (refine (H6.out _).mono ?_; rintro e w1 ⟨rfl, hw⟩; obtain rfl := hw.symm))
      | (go_at_call 21; go_must (refine (alive_any _).mono ?_; rintro e w1 ⟨rfl, hw⟩; have hB : Below w.heap.size w w1 := Below.trans (by go_grown) (hw.mono (by have := s.out.1; go_size)); have s : Hid _ := keep1s s.out (by go_grown) hw)))
  all_goals go_wp2
  all_goals go_returns
  all_goals exact ⟨rfl, by go_grown⟩
end Go.Proofs.Ytlpmmejdfenkiaa
