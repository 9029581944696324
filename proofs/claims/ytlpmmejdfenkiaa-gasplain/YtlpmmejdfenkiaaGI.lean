/- Walks over package gas: Forward, and GasLeft. -/
import Derived.Test.YtlpmmejdfenkiaaGG
import Derived.Test.YtlpmmejdfenkiaaWdW3
import Derived.Laws.Bits64b
namespace Go.Proofs.Ytlpmmejdfenkiaa
open Go.RowKit
set_option linter.unusedSimpArgs false
set_option linter.unusedVariables false
/-- What a call hands on. -/
def fwdN (l n : Int) : Int := if n < l - l / 64 then n else l - l / 64
theorem or3_ne {a b c : Int} (ha : U64 a) (hb : U64 b) (hc : U64 c) (h : ¬ (a = 0 ∧ b = 0 ∧ c = 0)) : bits .or .u64 (bits .or .u64 a b) c ≠ 0 := by
  obtain ⟨a0, a1⟩ := ha
  obtain ⟨b0, b1⟩ := hb
  obtain ⟨c0, c1⟩ := hc
  obtain ⟨a, rfl⟩ := Int.eq_ofNat_of_zero_le a0
  obtain ⟨b, rfl⟩ := Int.eq_ofNat_of_zero_le b0
  obtain ⟨c, rfl⟩ := Int.eq_ofNat_of_zero_le c0
  have h1 : a ||| b < 2 ^ 64 := Nat.or_lt_two_pow (by omega) (by omega)
  rw [bits_or_u64_nat a b (by omega) (by omega), bits_or_u64_nat _ c (by simpa using h1) (by omega)]
  intro h2
  have h3 : (a ||| b) ||| c = 0 := by omega
  rw [Nat.or_eq_zero_iff, Nat.or_eq_zero_iff] at h3
  exact h ⟨by omega, by omega, by omega⟩
theorem num_great {a0 a1 a2 a3 : Int} (ha : L4 a0 a1 a2 a3) (h : ¬ (a1 = 0 ∧ a2 = 0 ∧ a3 = 0)) : 18446744073709551616 ≤ num a0 a1 a2 a3 := by
  obtain ⟨⟨_, _⟩, ⟨_, _⟩, ⟨_, _⟩, ⟨_, _⟩⟩ := ha
  unfold num; omega
theorem num_one (a0 : Int) : num a0 0 0 0 = a0 := by unfold num; omega
set_option maxHeartbeats 4000000 in
/-- gas.Forward -/
theorem forward_any (l a0 a1 a2 a3 : Int) (hl : U64 l) (ha : L4 a0 a1 a2 a3) (w : World) :
    Calls Try.prog 34 #[.int .u64 l, W4 a0 a1 a2 a3] w fun e w' => e = .returned (.int .u64 (fwdN l (num a0 a1 a2 a3))) ∧ Below w.heap.size w w' := by
  obtain ⟨l0, l1⟩ := hl
  unfold fwdN
  by_cases h : a1 = 0 ∧ a2 = 0 ∧ a3 = 0
  · obtain ⟨rfl, rfl, rfl⟩ := h
    rw [num_one]
    have HU : Hid (∀ w, _) := Wd.uint_yes a0
    obtain ⟨⟨b0, b1⟩, _⟩ := ha
    unfold Wd.W4 at HU
    unfold W4
    by_cases g : a0 < l - l / 64
    · rw [if_pos g]
      go_enter Try.func34, Try.ntmps34
      go_wp2_with fail
      refine (HU.out _).mono ?_
      rintro e w' ⟨rfl, c1, c2, rfl⟩
      go_wp2
      go_returns
      exact ⟨ret_int (by omega), by go_grown⟩
    · rw [if_neg g]
      rcases (by omega : a0 = l - l / 64 ∨ l - l / 64 < a0) with g1 | g1
      · have HG : Hid _ := g1
        clear g1
        go_enter Try.func34, Try.ntmps34
        go_wp2_with fail
        refine (HU.out _).mono ?_
        rintro e w' ⟨rfl, c1, c2, rfl⟩
        go_wp2
        go_returns
        exact ⟨ret_int (by have := HG.out; omega), by go_grown⟩
      · go_enter Try.func34, Try.ntmps34
        go_wp2_with fail
        refine (HU.out _).mono ?_
        rintro e w' ⟨rfl, c1, c2, rfl⟩
        go_wp2
        go_returns
        exact ⟨ret_int (by omega), by go_grown⟩
  · have hb := num_great ha h
    rw [if_neg (by omega)]
    have HU : Hid (∀ w, _) := Wd.uint_no a0 a1 a2 a3 ha hb
    clear ha hb h
    unfold Wd.W4 at HU
    unfold W4
    go_enter Try.func34, Try.ntmps34
    go_wp2_with fail
    refine (HU.out _).mono ?_
    rintro e w' ⟨rfl, c1, c2, rfl⟩
    go_wp2
    go_returns
    exact ⟨rfl, by go_grown⟩
set_option maxHeartbeats 4000000 in
/-- The document's Forward. -/
theorem rforward_any (l a0 a1 a2 a3 : Int) (hl : U64 l) (ha : L4 a0 a1 a2 a3) (w : World) :
    Calls Try.prog 35 #[.int .u64 l, W4 a0 a1 a2 a3] w fun e w' => e = .returned (.int .u64 (fwdN l (num a0 a1 a2 a3))) ∧ Below w.heap.size w w' := by
  obtain ⟨l0, l1⟩ := hl
  unfold fwdN
  by_cases h : a1 = 0 ∧ a2 = 0 ∧ a3 = 0
  · obtain ⟨rfl, rfl, rfl⟩ := h
    rw [num_one]
    obtain ⟨⟨b0, b1⟩, _⟩ := ha
    have hz : (bits .or .u64 (bits .or .u64 0 0) 0 == 0) = true := by decide +kernel
    have hz2 : bits .or .u64 0 0 = 0 := by decide +kernel
    unfold W4
    by_cases g : a0 < l - l / 64
    · rw [if_pos g]
      go_enter Try.func35, Try.ntmps35
      go_wp2
      go_returns
      exact ⟨rfl, by go_grown⟩
    · rw [if_neg g]
      rcases (by omega : a0 = l - l / 64 ∨ l - l / 64 < a0) with g1 | g1
      · have HG : Hid _ := g1
        have hd : decide (l - l / 64 < a0) = false := by simp; omega
        clear g1 g
        go_enter Try.func35, Try.ntmps35
        go_wp2
        go_returns
        exact ⟨ret_int (by have := HG.out; omega), by go_grown⟩
      · go_enter Try.func35, Try.ntmps35
        go_wp2
        go_returns
        exact ⟨rfl, by go_grown⟩
  · have hb := num_great ha h
    rw [if_neg (by omega)]
    have hz := or3_ne ha.2.1 ha.2.2.1 ha.2.2.2 h
    have hz' : (bits .or .u64 (bits .or .u64 a1 a2) a3 == 0) = false := by simpa using hz
    clear ha hb h
    unfold W4
    go_enter Try.func35, Try.ntmps35
    go_wp2
    go_returns
    exact ⟨rfl, by go_grown⟩
theorem keep1 {n : Nat} {a0 a1 a2 a3 : Int} {W w1 : World} (h : n < W.heap.size ∧ W.cell? ⟨n, 0, none⟩ = some (.int .u64 a0) ∧ W.cell? ⟨n, 1, none⟩ = some (.int .u64 a1) ∧ W.cell? ⟨n, 2, none⟩ = some (.int .u64 a2) ∧ W.cell? ⟨n, 3, none⟩ = some (.int .u64 a3)) (hb : Below (n + 1) W w1) : n < w1.heap.size ∧ w1.cell? ⟨n, 0, none⟩ = some (.int .u64 a0) ∧ w1.cell? ⟨n, 1, none⟩ = some (.int .u64 a1) ∧ w1.cell? ⟨n, 2, none⟩ = some (.int .u64 a2) ∧ w1.cell? ⟨n, 3, none⟩ = some (.int .u64 a3) := by
  obtain ⟨hz, c0, c1, c2, c3⟩ := h
  exact ⟨Nat.lt_of_lt_of_le hz hb.size, cells_below hb _ _ _ (by omega) c0, cells_below hb _ _ _ (by omega) c1, cells_below hb _ _ _ (by omega) c2, cells_below hb _ _ _ (by omega) c3⟩
theorem keep1s {n : Nat} {a0 a1 a2 a3 : Int} {W0 W w1 : World} (h : n < W0.heap.size ∧ W0.cell? ⟨n, 0, none⟩ = some (.int .u64 a0) ∧ W0.cell? ⟨n, 1, none⟩ = some (.int .u64 a1) ∧ W0.cell? ⟨n, 2, none⟩ = some (.int .u64 a2) ∧ W0.cell? ⟨n, 3, none⟩ = some (.int .u64 a3)) (h1 : Below (n + 1) W0 W) (hb : Below W.heap.size W w1) : n < w1.heap.size ∧ w1.cell? ⟨n, 0, none⟩ = some (.int .u64 a0) ∧ w1.cell? ⟨n, 1, none⟩ = some (.int .u64 a1) ∧ w1.cell? ⟨n, 2, none⟩ = some (.int .u64 a2) ∧ w1.cell? ⟨n, 3, none⟩ = some (.int .u64 a3) := by
  have h2 := keep1 h h1
  exact keep1 h2 (hb.mono h2.1)
theorem fwd_bd (l n : Int) (hl : U64 l) : fwdN l n ≤ l := by
  obtain ⟨l0, l1⟩ := hl
  unfold fwdN; split <;> omega
theorem ref_le (u s : Int) (hu : U64 u) : refundN u s ≤ u / 5 := by
  obtain ⟨l0, l1⟩ := hu
  unfold refundN; split
  · omega
  · split <;> omega
set_option maxHeartbeats 8000000 in
theorem left_any (l a0 a1 a2 a3 u s : Int) (hl : U64 l) (ha : L4 a0 a1 a2 a3) (hu : U64 u) (hs0 : -9223372036854775808 ≤ s) (hs1 : s ≤ 9223372036854775807) (w : World) :
    Calls Try.prog 6 #[.int .u64 l, W4 a0 a1 a2 a3, .int .u64 u, .int .i64 s] w fun e w' => e = .returned (.bool true) ∧ Below w.heap.size w w' := by
  have HF : Hid (∀ w, _) := forward_any l a0 a1 a2 a3 hl ha
  have HG : Hid (∀ w, _) := rforward_any l a0 a1 a2 a3 hl ha
  have HR : Hid (∀ w, _) := refund_any u s hu hs0 hs1
  have HT : Hid (∀ w, _) := rrefund_any u s hu hs0 hs1
  have b1 := fwd_bd l (num a0 a1 a2 a3) hl
  have b2 := ref_le u s hu
  generalize fwdN l (num a0 a1 a2 a3) = F at *
  generalize refundN u s = R at *
  have d1 : decide (F ≤ l) = true := by simpa using b1
  have d3 : IntKind.u64.wrap (u.tdiv 5) = u / 5 := by
    rw [Int.tdiv_eq_ediv_of_nonneg hu.1, IntKind.wrap_u64]; have := hu.1; have := hu.2; omega
  have d2 : decide (R ≤ IntKind.u64.wrap (u.tdiv 5)) = true := by rw [d3]; simpa using b2
  clear d3
  obtain ⟨u0, u1⟩ := hu
  clear hl ha hs0 hs1
  unfold W4 at *
  go_enter Try.func6, Try.ntmps6
  go_wp2
  have hB : Below w.heap.size w (w.alloc (.cells #[.int .u64 a0, .int .u64 a1, .int .u64 a2, .int .u64 a3] 30)) := by go_grown
  have s : Hid (w.heap.size < (w.alloc (.cells #[.int .u64 a0, .int .u64 a1, .int .u64 a2, .int .u64 a3] 30)).heap.size ∧ (w.alloc (.cells #[.int .u64 a0, .int .u64 a1, .int .u64 a2, .int .u64 a3] 30)).cell? ⟨w.heap.size, 0, none⟩ = some (.int .u64 a0) ∧ (w.alloc (.cells #[.int .u64 a0, .int .u64 a1, .int .u64 a2, .int .u64 a3] 30)).cell? ⟨w.heap.size, 1, none⟩ = some (.int .u64 a1) ∧ (w.alloc (.cells #[.int .u64 a0, .int .u64 a1, .int .u64 a2, .int .u64 a3] 30)).cell? ⟨w.heap.size, 2, none⟩ = some (.int .u64 a2) ∧ (w.alloc (.cells #[.int .u64 a0, .int .u64 a1, .int .u64 a2, .int .u64 a3] 30)).cell? ⟨w.heap.size, 3, none⟩ = some (.int .u64 a3)) := by
    show _ ∧ _
    simp [go_sem, World.cell?_alloc_past]
  generalize (w.alloc (.cells #[.int .u64 a0, .int .u64 a1, .int .u64 a2, .int .u64 a3] 30)) = W at *
  go_region_held3 (fun w' => w.heap.size < w'.heap.size ∧ w'.cell? ⟨w.heap.size, 0, none⟩ = some (.int .u64 a0) ∧ w'.cell? ⟨w.heap.size, 1, none⟩ = some (.int .u64 a1) ∧ w'.cell? ⟨w.heap.size, 2, none⟩ = some (.int .u64 a2) ∧ w'.cell? ⟨w.heap.size, 3, none⟩ = some (.int .u64 a3)) ((refine keep1 s.out ?_; go_grown; done))
    (first
      | (go_at_call 34; go_must (refine (HF.out _).mono ?_; rintro e w1 ⟨rfl, hw⟩; have hB : Below w.heap.size w w1 := Below.trans (by go_grown) (hw.mono (by have := s.out.1; go_size)); have s : Hid _ := keep1s s.out (by go_grown) hw))
      | (go_at_call 35; go_must (refine (HG.out _).mono ?_; rintro e w1 ⟨rfl, hw⟩; have hB : Below w.heap.size w w1 := Below.trans (by go_grown) (hw.mono (by have := s.out.1; go_size)); have s : Hid _ := keep1s s.out (by go_grown) hw))
      | (go_at_call 36; go_must (refine (HR.out _).mono ?_; rintro e w1 ⟨rfl, hw⟩; obtain rfl := hw.symm))
      | (go_at_call 37; go_must (refine (HT.out _).mono ?_; rintro e w1 ⟨rfl, hw⟩; obtain rfl := hw.symm))
      | (go_at_call 21; go_must (refine (alive_any _).mono ?_; rintro e w1 ⟨rfl, hw⟩; have hB : Below w.heap.size w w1 := Below.trans (by go_grown) (hw.mono (by have := s.out.1; go_size)); have s : Hid _ := keep1s s.out (by go_grown) hw)))
  all_goals go_wp2
  all_goals go_returns
  all_goals exact ⟨rfl, by go_grown⟩
end Go.Proofs.Ytlpmmejdfenkiaa
