/- The document's field: Times and Small as numbers modulo P; Pow. -/
import Derived.Test.YtmflilgppllebaaGS
import Derived.Test.YtmflilgppllebaaF2
import Derived.Test.YtmflilgppllebaaFZ
namespace Go.Proofs.Ytmflilgppllebaa
open Go.RowKit
set_option linter.unusedSimpArgs false
set_option linter.unusedVariables false
theorem S_sm {B : Int} (hB : 0 ≤ B) {f : Nat → Int} : ∀ {n : Nat}, (∀ j, j < n → -B ≤ f j ∧ f j ≤ B) → -(B * 65536 ^ n) ≤ S f n ∧ S f n ≤ B * 65536 ^ n
  | 0, _ => by simp [S]; omega
  | n + 1, h => by
    have ih := S_sm hB (n := n) (fun j hj => h j (by omega))
    have hn := h n (by omega)
    have hp : (0 : Int) < 65536 ^ n := Int.pow_pos (by decide)
    have h1 : f n * 65536 ^ n ≤ B * 65536 ^ n := Int.mul_le_mul_of_nonneg_right hn.2 (by omega)
    have h2 : -B * 65536 ^ n ≤ f n * 65536 ^ n := Int.mul_le_mul_of_nonneg_right hn.1 (by omega)
    rw [Int.neg_mul] at h2
    have h3 : 0 ≤ B * 65536 ^ n := Int.mul_nonneg hB (by omega)
    have e : B * 65536 ^ (n + 1) = B * 65536 ^ n * 65536 := by rw [Int.pow_succ, Int.mul_assoc]
    unfold S
    omega
theorem S_top {f : Nat → Int} (h : Sm 1152921504606846976 f) : -(1152921504606846976 * 65536 ^ 16) ≤ S f 16 ∧ S f 16 ≤ 1152921504606846976 * 65536 ^ 16 := S_sm (by decide) h
/-- What Carry leaves, once and twice. -/
theorem ca_once {f : Nat → Int} (h : Sm 1152921504606846976 f) : -1152921504606846976 ≤ cc f 15 ∧ cc f 15 ≤ 1152921504606846976 ∧ S (caF f) 16 = S f 16 - M2 * cc f 15 ∧ 38 * cc f 15 ≤ S (caF f) 16 ∧ S (caF f) 16 < 65536 ^ 16 + 38 * cc f 15 := by
  have h1 := S_top h
  have h2 := cc_quo f
  have h3 := S_caF f
  rw [pow16] at *
  unfold M2 at *
  refine ⟨?_, ?_, h3, ?_, ?_⟩ <;> omega
theorem ca_twice {f : Nat → Int} (h : Sm 1152921504606846976 f) : -1 ≤ cc (caF f) 15 ∧ cc (caF f) 15 ≤ 1 ∧ S (caF (caF f)) 16 = S f 16 - M2 * (cc f 15 + cc (caF f) 15) ∧ 0 ≤ S (caF (caF f)) 16 ∧ S (caF (caF f)) 16 < 65536 ^ 16 := by
  have h1 := ca_once h
  have h2 := cc_quo (caF f)
  have h3 := S_caF (caF f)
  rw [pow16] at *
  unfold M2 at *
  have b1 : -1 ≤ cc (caF f) 15 := by omega
  have b2 : cc (caF f) 15 ≤ 1 := by omega
  refine ⟨b1, b2, ?_, ?_, ?_⟩ <;> omega
theorem ca_thrice {f : Nat → Int} (h : Sm 1152921504606846976 f) : Cn (caF (caF (caF f))) ∧ S (caF (caF (caF f))) 16 = S f 16 - M2 * (cc f 15 + cc (caF f) 15) ∧ 0 ≤ S (caF (caF (caF f))) 16 ∧ S (caF (caF (caF f))) 16 < 65536 ^ 16 := by
  have h1 := ca_twice h
  have h2 := cc_quo (caF (caF f))
  have h3 := S_caF (caF (caF f))
  have hc : cc (caF (caF f)) 15 = 0 := by rw [pow16] at *; omega
  rw [hc, Int.mul_zero, Int.sub_zero] at h3
  refine ⟨fun j hj => ?_, by rw [h3]; exact h1.2.2.1, by rw [h3]; exact h1.2.2.2.1, by rw [h3]; exact h1.2.2.2.2⟩
  by_cases h0 : j = 0
  · subst h0
    have := caF_first (caF (caF f))
    rw [hc] at this
    omega
  · exact caF_rest _ j (by omega)
theorem M2_PP : M2 = PP * 2 := by decide
theorem redP_mod {V : Int} (h0 : 0 ≤ V) (h1 : V < 65536 ^ 16) : redP 2 V = V % PP := by
  have hp : PP * 3 > 65536 ^ 16 := by decide
  have hq : 0 < PP := by decide
  unfold redP redP redP
  generalize hP : PP = P at *
  by_cases a : P ≤ V
  · rw [if_pos a]
    by_cases b : P ≤ V - P
    · rw [if_pos b]
      have e : V = (V - P - P) + P * 2 := by omega
      rw [e, Int.add_mul_emod_self_left, Int.emod_eq_of_lt (by omega) (by omega)]
      omega
    · rw [if_neg b]
      have e : V = (V - P) + P * 1 := by omega
      rw [e, Int.add_mul_emod_self_left, Int.emod_eq_of_lt (by omega) (by omega)]
      omega
  · rw [if_neg a, if_neg a, Int.emod_eq_of_lt h0 (by omega)]
/-- A value that is digits of a number modulo P, none greater than B. -/
def IsG (B : Int) (v : Value) (x : Int) : Prop := ∃ f, v = .agg (vec 16 (gv f)) ∧ Sm B f ∧ S f 16 % PP = x % PP
theorem IsG.le {B C : Int} {v : Value} {x : Int} (h : IsG B v x) (hl : B ≤ C) : IsG C v x := by
  obtain ⟨f, e, s, m⟩ := h
  exact ⟨f, e, fun j hj => ⟨by have := (s j hj).1; omega, by have := (s j hj).2; omega⟩, m⟩
theorem IsG.eq {B : Int} {v : Value} {x y : Int} (h : IsG B v x) (e : x % PP = y % PP) : IsG B v y := by
  obtain ⟨f, e', s, m⟩ := h; exact ⟨f, e', s, m.trans e⟩
def GivesG (f : Nat) (args : Array Value) (B x : Int) : Prop := ∀ w : World, Calls Try.prog f args w fun e w' => ∃ v, e = .returned v ∧ IsG B v x ∧ Below w.heap.size w w'
theorem mod_M2 (x q : Int) : (x + M2 * q) % PP = x % PP := by
  rw [M2_PP, Int.mul_assoc, Int.add_mul_emod_self_left]
theorem g_times {va vb : Value} {x y : Int} (ha : IsG 16777216 va x) (hb : IsG 16777216 vb y) : GivesG 48 #[va, vb] 65612 (x * y) := fun w => by
  obtain ⟨f, rfl, sf, mf⟩ := ha
  obtain ⟨g, rfl, sg, mg⟩ := hb
  refine (gtimes_any f g sf sg w).mono ?_
  rintro e w' ⟨rfl, hb⟩
  have hs : Sm 1152921504606846976 (foF f g) := fun j _ => by have := foF_bd sf sg j; omega
  have h2 := ca_twice hs
  refine ⟨_, rfl, ⟨_, rfl, fun j hj => ?_, ?_⟩, hb⟩
  · by_cases h0 : j = 0
    · subst h0
      have := caF_first (caF (foF f g))
      omega
    · have := caF_rest (caF (foF f g)) j (by omega)
      omega
  · obtain ⟨q, hq⟩ := S_foF f g
    rw [h2.2.2.1, hq, Int.sub_eq_add_neg, ← Int.mul_neg, mod_M2, mod_M2, Int.mul_emod, mf, mg, ← Int.mul_emod]
theorem g_small {va : Value} {x : Int} (ha : IsG 1152921504606846976 va x) : GivesW 49 #[va] (x % PP) := fun w => by
  obtain ⟨f, rfl, sf, mf⟩ := ha
  have h3 := ca_thrice sf
  refine (small_walk f sf h3.1 w).mono ?_
  rintro e w' ⟨r0, r1, r2, r3, rfl, hL, hN, hb⟩
  refine ⟨_, rfl, ⟨r0, r1, r2, r3, rfl, hL, ?_⟩, hb⟩
  rw [hN.out, redP_mod h3.2.2.1 h3.2.2.2, h3.2.1, Int.sub_eq_add_neg, ← Int.mul_neg, mod_M2, mf]
theorem g_digits {va : Value} {x : Int} (ha : IsW va x) : GivesG 47 #[va] 65535 x := fun w => by
  have hbd := ha.bd
  obtain ⟨a0, a1, a2, a3, rfl, la, rfl⟩ := ha
  refine (digits_any a0 a1 a2 a3 la w).mono ?_
  rintro e w' ⟨rfl, hb⟩
  refine ⟨_, rfl, ⟨_, rfl, fun j hj => ?_, ?_⟩, hb⟩
  · have := dig_cn (num a0 a1 a2 a3) j hj; omega
  · rw [S_dig, pow16, Int.emod_eq_of_lt hbd.1 (by have := hbd.2; unfold T256 at this; exact this)]
theorem isG_one : IsG 1 (.agg (vec 16 (gv fun j => if j = 0 then 1 else 0))) 1 := by
  refine ⟨_, rfl, fun j _ => ?_, ?_⟩
  · dsimp only; split <;> omega
  · have : S (fun j => if j = 0 then 1 else 0) 16 = 1 := by decide +kernel
    rw [this]
end Go.Proofs.Ytmflilgppllebaa
