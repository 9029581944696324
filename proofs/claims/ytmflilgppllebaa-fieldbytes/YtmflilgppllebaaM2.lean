/- The arithmetic of long division, and what the memory of one such division holds. -/
import Derived.Test.YtmflilgppllebaaDD
namespace Go.Proofs.Ytmflilgppllebaa
open Go.RowKit
set_option linter.unusedVariables false

theorem pow64_add (a b : Nat) : (18446744073709551616 : Int) ^ (a + b) = 18446744073709551616 ^ a * 18446744073709551616 ^ b := Int.pow_add _ _ _
theorem val_split (X : Nat → Int) (a : Nat) : ∀ b, val X (a + b) = val X a + 18446744073709551616 ^ a * val (fun i => X (a + i)) b
  | 0 => by simp [val]
  | b + 1 => by
    show val X (a + b) + 18446744073709551616 ^ (a + b) * X (a + b) = _
    rw [val_split X a b, pow64_add, val, Int.mul_add, Int.mul_assoc]
    omega
/-- What a digit's step knows: t limbs below, n + 1 limbs at it, i limbs above. -/
theorem step_pre {X : Nat → Int} {VV : Int} {t n i : Nat} (hX : ∀ i, Limb (X i)) (hV : VV < 18446744073709551616 ^ n) (h : val X (t + (n + 1) + i) < 18446744073709551616 ^ (t + 1) * VV) :
    val (fun k => X (t + k)) (n + 1) < 18446744073709551616 * VV ∧ val (fun k => X (t + (n + 1) + k)) i = 0 := by
  have h1 := val_split X (t + (n + 1)) i
  have h2 := val_split X t (n + 1)
  obtain ⟨a0, a1⟩ := val_bd hX t
  obtain ⟨b0, b1⟩ := val_bd (X := fun k => X (t + k)) (fun k => hX _) (n + 1)
  obtain ⟨c0, c1⟩ := val_bd (X := fun k => X (t + (n + 1) + k)) (fun k => hX _) i
  generalize val (fun k => X (t + k)) (n + 1) = b at *
  generalize val (fun k => X (t + (n + 1) + k)) i = c at *
  have hp := pow64_pos t
  have hpn := pow64_pos (t + (n + 1))
  have hc : 0 ≤ 18446744073709551616 ^ (t + (n + 1)) * c := Int.mul_nonneg (by omega) c0
  rw [pow_succ', Int.mul_right_comm, Int.mul_comm] at h
  constructor
  · have : 18446744073709551616 ^ t * b < 18446744073709551616 ^ t * (18446744073709551616 * VV) := by omega
    exact Int.lt_of_mul_lt_mul_left this (by omega)
  · rcases Int.lt_or_le 0 c with g | g
    · exfalso
      have g1 : 18446744073709551616 ^ (t + (n + 1)) * 1 ≤ 18446744073709551616 ^ (t + (n + 1)) * c := Int.mul_le_mul_of_nonneg_left (by omega) (by omega)
      have g2 : 18446744073709551616 ^ t * (18446744073709551616 * VV) ≤ 18446744073709551616 ^ t * (18446744073709551616 * 18446744073709551616 ^ n) := Int.mul_le_mul_of_nonneg_left (by omega) (by omega)
      rw [← pow_succ', ← pow64_add] at g2
      have hb : 0 ≤ 18446744073709551616 ^ t * b := Int.mul_nonneg (by omega) b0
      omega
    · omega
/-- The limbs from t on are others. -/
def splice (X Y : Nat → Int) (t n : Nat) : Nat → Int := fun k => if t ≤ k ∧ k ≤ t + n then Y (k - t) else X k
theorem splice_in (X Y : Nat → Int) (t n k : Nat) (h : k ≤ n) : splice X Y t n (t + k) = Y k := by
  unfold splice; rw [if_pos ⟨by omega, by omega⟩]; congr 1; omega
theorem splice_out (X Y : Nat → Int) (t n k : Nat) (h : k < t ∨ t + n < k) : splice X Y t n k = X k := by
  unfold splice; rw [if_neg (by omega)]
theorem step_post {X Y : Nat → Int} {VV N A q : Int} {t n i : Nat} (hX : ∀ i, Limb (X i)) (hY : ∀ i, Limb (Y i)) (hV : VV < 18446744073709551616 ^ n) (h : val X (t + (n + 1) + i) < 18446744073709551616 ^ (t + 1) * VV)
    (hN : N = A * VV + val X (t + (n + 1) + i)) (e : val (fun k => X (t + k)) (n + 1) = q * VV + val Y n) (l : val Y n < VV) (z : Y n = 0) :
    N = (A + 18446744073709551616 ^ t * q) * VV + val (splice X Y t n) (t + (n + 1) + i) ∧ val (splice X Y t n) (t + (n + 1) + i) < 18446744073709551616 ^ t * VV := by
  obtain ⟨_, hz⟩ := step_pre hX hV h
  have h1 := val_split X (t + (n + 1)) i
  have h2 := val_split X t (n + 1)
  have k1 := val_split (splice X Y t n) (t + (n + 1)) i
  have k2 := val_split (splice X Y t n) t (n + 1)
  rw [val_congr (X := splice X Y t n) (Y := X) (fun k hk => splice_out X Y t n k (Or.inl hk)), val_congr (X := fun k => splice X Y t n (t + k)) (Y := Y) (fun k hk => splice_in X Y t n k (by omega))] at k2
  rw [val_congr (X := fun k => splice X Y t n (t + (n + 1) + k)) (Y := fun k => X (t + (n + 1) + k)) (fun k hk => splice_out X Y t n _ (Or.inr (by omega))), hz] at k1
  rw [hz] at h1
  have hy : val Y (n + 1) = val Y n := by show val Y n + _ * Y n = _; rw [z]; omega
  rw [hy] at k2
  rw [e] at h2
  obtain ⟨a0, a1⟩ := val_bd hX t
  obtain ⟨b0, b1⟩ := val_bd hY n
  rw [k1, k2]
  rw [Int.mul_zero] at *
  constructor
  · rw [hN, h1, h2, Int.add_mul, Int.mul_add, Int.mul_assoc]
    omega
  · have : 18446744073709551616 ^ t * val Y n ≤ 18446744073709551616 ^ t * (VV - 1) := Int.mul_le_mul_of_nonneg_left (by omega) (by have := pow64_pos t; omega)
    rw [Int.mul_sub] at this
    omega
theorem val_put_add (Q : Nat → Int) (t : Nat) (q : Int) (hz : Q t = 0) : ∀ k, t < k → val (put Q t q) k = val Q k + 18446744073709551616 ^ t * q
  | k + 1, h => by
    rcases Nat.lt_or_ge t k with g | g
    · show val (put Q t q) k + _ * put Q t q k = val Q k + _ * Q k + _
      rw [val_put_add Q t q hz k g, put_other _ _ _ (by omega)]
      omega
    · have : k = t := by omega
      subst this
      show val (put Q k q) k + _ * put Q k q k = val Q k + _ * Q k + _
      rw [val_put, put_same, hz, Int.mul_zero]
      omega
/-- The whole division by what the shifted one gave. -/
theorem whole_div {U V P A R : Int} (hV : 0 < V) (hP : 0 < P) (h : U * P = A * (V * P) + R) (h0 : 0 ≤ R) (h1 : R < V * P) : A = U / V ∧ R / P = U % V := by
  have hVP : 0 < V * P := Int.mul_pos hV hP
  have e1 : U * P / (V * P) = A := ediv_by _ _ _ R (by omega) h0 h1
  rw [Int.mul_comm U, Int.mul_comm V, Int.mul_ediv_mul_of_pos _ _ hP] at e1
  refine ⟨e1.symm, ?_⟩
  have e2 := Int.mul_ediv_add_emod U V
  rw [e1] at e2
  have e3 : R = (U % V) * P := by
    have : U * P = (V * A + U % V) * P := by rw [e2]
    rw [Int.add_mul] at this
    have c : A * (V * P) = V * A * P := by rw [← Int.mul_assoc, Int.mul_comm A V]
    omega
  rw [e3, Int.mul_ediv_cancel _ (by omega)]

/-- The memory of one division: the divisor, the two results, the quotient, what is left. -/
structure Dv (w0 : World) (bv b1 b2 bq bx : Nat) (V Q X : Nat → Int) (w : World) : Prop where
  below : Below w0.heap.size w0 w
  ge : w0.heap.size ≤ bv ∧ w0.heap.size ≤ b1 ∧ w0.heap.size ≤ b2 ∧ w0.heap.size ≤ bq ∧ w0.heap.size ≤ bx
  ne : bv ≠ bq ∧ bv ≠ bx ∧ b1 ≠ bq ∧ b1 ≠ bx ∧ b2 ≠ bq ∧ b2 ≠ bx ∧ bq ≠ bx
  v : ∀ k, k < 4 → w.cell? ⟨bv, k, none⟩ = some (.int .u64 (V k))
  r1 : ∀ k, k < 8 → w.cell? ⟨b1, k, none⟩ = some (.int .u64 0)
  r2 : ∀ k, k < 4 → w.cell? ⟨b2, k, none⟩ = some (.int .u64 0)
  q : ∀ k, k < 8 → w.cell? ⟨bq, k, none⟩ = some (.int .u64 (Q k))
  x : ∀ k, k < 9 → w.cell? ⟨bx, k, none⟩ = some (.int .u64 (X k))
  fv : ∀ o, w.frozen? ⟨bv, o, none⟩ = false
  f1 : ∀ o, w.frozen? ⟨b1, o, none⟩ = false
  f2 : ∀ o, w.frozen? ⟨b2, o, none⟩ = false
  fq : ∀ o, w.frozen? ⟨bq, o, none⟩ = false
  fx : ∀ o, w.frozen? ⟨bx, o, none⟩ = false
  sz : bv < w.heap.size ∧ b1 < w.heap.size ∧ b2 < w.heap.size ∧ bq < w.heap.size ∧ bx < w.heap.size
theorem Wr.below {b lo hi B : Nat} {u w : World} (h : Wr b lo hi u w) (hB : B ≤ b) : Below B u w :=
  ⟨h.os, h.tape, h.output, Nat.le_of_eq h.size.symm, fun k hk => h.block k (by omega)⟩
/-- Behind one digit, and its store into the quotient. -/
theorem Dv.step {w0 : World} {bv b1 b2 bq bx t n : Nat} {V Q X Y : Nat → Int} {q : Int} {w w2 : World} (D : Dv w0 bv b1 b2 bq bx V Q X w) (hW : Wr bx t (t + n + 1) w w2)
    (hY : ∀ i, i ≤ n → w2.cell? ⟨bx, t + i, none⟩ = some (.int .u64 (Y i))) (ht : t < 8) : Dv w0 bv b1 b2 bq bx V (put Q t q) (splice X Y t n) (w2.setCell ⟨bq, t, none⟩ (.int .u64 q)) := by
  obtain ⟨n1, n2, n3, n4, n5, n6, n7⟩ := D.ne
  obtain ⟨g1, g2, g3, g4, g5⟩ := D.ge
  have far : ∀ b o, b ≠ bq → (w2.setCell ⟨bq, t, none⟩ (.int .u64 q)).cell? ⟨b, o, none⟩ = w2.cell? ⟨b, o, none⟩ := fun b o hb => World.cell?_setCell_other _ _ _ _ (by intro e; simp at e <;> omega)
  have fr : ∀ a, (w2.setCell ⟨bq, t, none⟩ (.int .u64 q)).frozen? a = w.frozen? a := fun a => (World.frozen?_setCell _ _ _ _).trans (hW.frozen a)
  refine ⟨(D.below.trans (hW.below g5)).setCell g4 _, D.ge, D.ne, ?_, ?_, ?_, ?_, ?_, ?_, ?_, ?_, ?_, ?_, ?_⟩
  · intro k hk; rw [far _ _ n1, hW.other n2]; exact D.v k hk
  · intro k hk; rw [far _ _ n3, hW.other n4]; exact D.r1 k hk
  · intro k hk; rw [far _ _ n5, hW.other n6]; exact D.r2 k hk
  · intro k hk
    by_cases h : k = t
    · subst h; rw [put_same]; exact World.cell?_setCell_same _ _ _ ((hW.other n7).trans (D.q k hk))
    · rw [put_other _ _ _ h, World.cell?_setCell_other _ _ _ _ (by intro e; simp at e <;> omega), hW.other n7]; exact D.q k hk
  · intro k hk
    rw [far _ _ (Ne.symm n7)]
    by_cases h : t ≤ k ∧ k ≤ t + n
    · obtain ⟨j, rfl⟩ : ∃ j, k = t + j := ⟨k - t, by omega⟩
      rw [splice_in _ _ _ _ _ (by omega)]; exact hY j (by omega)
    · rw [splice_out _ _ _ _ _ (by omega), hW.cell k (by omega)]; exact D.x k hk
  · intro o; rw [fr]; exact D.fv o
  · intro o; rw [fr]; exact D.f1 o
  · intro o; rw [fr]; exact D.f2 o
  · intro o; rw [fr]; exact D.fq o
  · intro o; rw [fr]; exact D.fx o
  · have := D.sz; have := hW.size; simp [World.setCell]; omega
theorem Dv.drewN {w0 : World} {bv b1 b2 bq bx : Nat} {V Q X : Nat → Int} {w : World} (D : Dv w0 bv b1 b2 bq bx V Q X w) (n : Nat) : Dv w0 bv b1 b2 bq bx V Q X (w.drewN n) :=
  ⟨D.below.trans ⟨rfl, rfl, rfl, Nat.le_refl _, fun _ _ => rfl⟩, D.ge, D.ne, D.v, D.r1, D.r2, D.q, D.x, D.fv, D.f1, D.f2, D.fq, D.fx, D.sz⟩
end Go.Proofs.Ytmflilgppllebaa
