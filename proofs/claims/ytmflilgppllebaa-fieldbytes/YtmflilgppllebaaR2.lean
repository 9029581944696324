/- Walks over the document's own numbers: which is more, sums. -/
import Derived.Test.YtmflilgppllebaaR0
namespace Go.Proofs.Ytmflilgppllebaa
open Go.RowKit
set_option linter.unusedSimpArgs false
set_option linter.unusedVariables false
theorem valB_ext : ∀ (a b : List Int), (∀ j, a.getD j 0 = b.getD j 0) → valB a = valB b
  | [], b, h => by rw [valB_zero b (fun j => by rw [← h j]; rfl)]; rfl
  | x :: r, [], h => by rw [valB_zero (x :: r) (fun j => by rw [h j]; rfl)]; rfl
  | x :: r, y :: s, h => by
    have h0 := h 0
    rw [getD_cons_zero', getD_cons_zero'] at h0
    rw [valB, valB, h0, valB_ext r s (fun j => by have := h (j + 1); rwa [getD_cons_succ', getD_cons_succ'] at this)]
theorem Byt.tail {x : Int} {r : List Int} (h : Byt (x :: r)) : Byt r := fun k => by have := h (k + 1); rwa [getD_cons_succ'] at this
theorem byt_nil : Byt [] := fun k => ⟨by simp, by simp⟩
/-- The highest digits that differ have the say. -/
theorem valB_lt : ∀ (k : Nat) (a b : List Int), Byt a → Byt b → (∀ j, k < j → a.getD j 0 = b.getD j 0) → a.getD k 0 < b.getD k 0 → valB a < valB b
  | k, a, [], ha, hb, h, hk => by have := (ha k).1; simp at hk this; omega
  | 0, [], y :: s, ha, hb, h, hk => by
    rw [getD_cons_zero'] at hk
    have := (valB_bd s hb.tail).1
    show (0 : Int) < y + 256 * valB s
    simp at hk; omega
  | 0, x :: r, y :: s, ha, hb, h, hk => by
    rw [getD_cons_zero', getD_cons_zero'] at hk
    have e := valB_ext r s (fun j => by have := h (j + 1) (by omega); rwa [getD_cons_succ', getD_cons_succ'] at this)
    rw [valB, valB, e]; omega
  | k + 1, [], y :: s, ha, hb, h, hk => by
    have h1 := valB_lt k [] s byt_nil hb.tail (fun j hj => by have := h (j + 1) (by omega); rwa [getD_cons_succ'] at this) (by rwa [getD_cons_succ'] at hk)
    have h0 := hb 0
    rw [getD_cons_zero'] at h0
    show (0 : Int) < y + 256 * valB s
    have : valB [] = 0 := rfl
    omega
  | k + 1, x :: r, y :: s, ha, hb, h, hk => by
    have h1 := valB_lt k r s ha.tail hb.tail (fun j hj => by have := h (j + 1) (by omega); rwa [getD_cons_succ', getD_cons_succ'] at this) (by rwa [getD_cons_succ', getD_cons_succ'] at hk)
    have h0 := hb 0
    have h2 := ha 0
    rw [getD_cons_zero'] at h0 h2
    rw [valB, valB]; omega
/-- -1, 0, 1. -/
def cmpN (x y : Int) : Int := if x < y then -1 else if y < x then 1 else 0
theorem cmpN_lt {x y : Int} (h : x < y) : cmpN x y = -1 := if_pos h
theorem cmpN_gt {x y : Int} (h : y < x) : cmpN x y = 1 := by unfold cmpN; rw [if_neg (by omega), if_pos h]
theorem cmpN_eq {x y : Int} (h : x = y) : cmpN x y = 0 := by unfold cmpN; rw [if_neg (by omega), if_neg (by omega)]
theorem IsN.drew {w : World} {v : Value} {d : List Int} (h : IsN w v d) (n : Nat) : IsN (w.drewN n) v d := h
theorem IsN.shape {w : World} {v : Value} {d : List Int} (h : IsN w v d) : ∃ a cap, v = .slice a d.length cap ∧ d.length ≤ cap := by
  obtain ⟨a, cap, rfl, hc, _⟩ := h
  exact ⟨a, cap, rfl, hc⟩
set_option maxHeartbeats 2000000 in
theorem cmpref_any (w : World) (va vb : Value) (a b : List Int) (ha : IsN w va a) (hb : IsN w vb b) (la : a.length < 4000) (lb : b.length < 4000) (Ba : Byt a) (Bb : Byt b) :
    Calls Try.prog 76 #[va, vb] w fun e w' => e = .returned (.int .i64 (cmpN (valB a) (valB b))) ∧ w' = w := by
  have HA : Hid (∀ (i : Nat), i < 4096 → Calls Try.prog 69 #[va, .int .i64 i] w fun e w' => e = .returned (.int .i64 (a.getD i 0)) ∧ w' = w) := fun i hi => at_any _ va a i ha (by omega) hi
  have HB : Hid (∀ (i : Nat), i < 4096 → Calls Try.prog 69 #[vb, .int .i64 i] w fun e w' => e = .returned (.int .i64 (b.getD i 0)) ∧ w' = w) := fun i hi => at_any _ vb b i hb (by omega) hi
  obtain ⟨aa, ca, rfl, hca⟩ := ha.shape
  obtain ⟨ab, cb, rfl, hcb⟩ := hb.shape
  clear ha hb
  have HBa : Hid (Byt a) := Ba
  have HBb : Hid (Byt b) := Bb
  clear Ba Bb
  go_enter Try.func76, Try.ntmps76
  go_wp2
  go_loop [5] (fun s => ∃ k : Nat, k ≤ 4000 ∧ s = .int .i64 ((k : Int) - 1) ∧ Hid (∀ j, k ≤ j → a.getD j 0 = b.getD j 0)) (fun s => (intOf s + 1).toNat)
  case atStart =>
    refine ⟨max a.length b.length, by omega, ?_, fun j hj => ?_⟩
    · exact congrArg (Value.int .i64) (by omega)
    · simp [List.getD, List.getElem?_eq_none (show a.length ≤ j by omega), List.getElem?_eq_none (show b.length ≤ j by omega)]
  case round =>
    obtain ⟨k, hk, rfl, hz⟩ := hrel
    rcases Nat.eq_zero_or_pos k with rfl | h0
    · have HE : Hid (cmpN (valB a) (valB b) = 0) := cmpN_eq (valB_ext a b (fun j => hz.out j (Nat.zero_le _)))
      rw [show ((0 : Nat) : Int) - 1 = -1 from rfl]
      go_wp2
      go_ret
      exact ⟨by rw [HE.out]; rfl, rfl⟩
    · obtain ⟨m, rfl⟩ : ∃ m, k = m + 1 := ⟨k - 1, by omega⟩
      have em : ((m + 1 : Nat) : Int) - 1 = m := by omega
      rw [em]
      have HX : Hid _ := HA.out m (by omega)
      have HY : Hid _ := HB.out m (by omega)
      rcases Int.lt_trichotomy (a.getD m 0) (b.getD m 0) with h | h | h
      · have HE : Hid (cmpN (valB a) (valB b) = -1) := cmpN_lt (valB_lt m a b HBa.out HBb.out (fun j hj => hz.out j hj) h)
        generalize a.getD m 0 = x at *
        generalize b.getD m 0 = y at *
        go_wp2_with (first
          | (go_at_call_of 69 ([Value.slice aa a.length ca, Value.int .i64 m]); go_must (refine Calls.mono HX.out ?_; rintro e w' ⟨rfl, rfl⟩))
          | (go_at_call_of 69 ([Value.slice ab b.length cb, Value.int .i64 m]); go_must (refine Calls.mono HY.out ?_; rintro e w' ⟨rfl, rfl⟩)))
        go_ret
        exact ⟨by rw [HE.out]; rfl, rfl⟩
      · have HZ : Hid (∀ j, m ≤ j → a.getD j 0 = b.getD j 0) := fun j hj => by
          rcases Nat.lt_or_ge m j with g | g
          · exact hz.out j (by omega)
          · have e : j = m := by omega
            rw [e]; exact h
        generalize a.getD m 0 = x at *
        generalize b.getD m 0 = y at *
        have hd : decide (x < y) = false := by simp; omega
        have hd2 : decide (y < x) = false := by simp; omega
        go_wp2_with (first
          | (go_at_call_of 69 ([Value.slice aa a.length ca, Value.int .i64 m]); go_must (refine Calls.mono HX.out ?_; rintro e w' ⟨rfl, rfl⟩))
          | (go_at_call_of 69 ([Value.slice ab b.length cb, Value.int .i64 m]); go_must (refine Calls.mono HY.out ?_; rintro e w' ⟨rfl, rfl⟩)))
        exact ⟨⟨m, by omega, by go_num, HZ⟩, by simp [intOf]⟩
      · have HE : Hid (cmpN (valB a) (valB b) = 1) := cmpN_gt (valB_lt m b a HBb.out HBa.out (fun j hj => (hz.out j hj).symm) h)
        generalize a.getD m 0 = x at *
        generalize b.getD m 0 = y at *
        have hd : decide (x < y) = false := by simp; omega
        go_wp2_with (first
          | (go_at_call_of 69 ([Value.slice aa a.length ca, Value.int .i64 m]); go_must (refine Calls.mono HX.out ?_; rintro e w' ⟨rfl, rfl⟩))
          | (go_at_call_of 69 ([Value.slice ab b.length cb, Value.int .i64 m]); go_must (refine Calls.mono HY.out ?_; rintro e w' ⟨rfl, rfl⟩)))
        go_ret
        exact ⟨by rw [HE.out]; rfl, rfl⟩
end Go.Proofs.Ytmflilgppllebaa
