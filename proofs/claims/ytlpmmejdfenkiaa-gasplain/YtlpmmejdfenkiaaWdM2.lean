/- The arithmetic of long division, and what the memory of one such division holds. -/
import Derived.Test.YtlpmmejdfenkiaaWdD5
namespace Go.Proofs.Ytlpmmejdfenkiaa.Wd
open Go.RowKit
set_option linter.unusedVariables false

/-- The limbs from t on are others. -/
def splice (X Y : Nat → Int) (t n : Nat) : Nat → Int := fun k => if t ≤ k ∧ k ≤ t + n then Y (k - t) else X k
theorem splice_in (X Y : Nat → Int) (t n k : Nat) (h : k ≤ n) : splice X Y t n (t + k) = Y k := by
  unfold splice; rw [if_pos ⟨by omega, by omega⟩]; congr 1; omega
theorem splice_out (X Y : Nat → Int) (t n k : Nat) (h : k < t ∨ t + n < k) : splice X Y t n k = X k := by
  unfold splice; rw [if_neg (by omega)]
/-- The memory of one division: the divisor, the two results, the quotient, what is left. -/
structure Dv (w0 : World) (bv b1 b2 bq bx : Nat) (V Q X : Nat → Int) (w : World) : Prop where
  below : Below w0.heap.size w0 w
  ge : w0.heap.size ≤ bv ∧ w0.heap.size ≤ b1 ∧ w0.heap.size ≤ b2 ∧ w0.heap.size ≤ bq ∧ w0.heap.size ≤ bx
  ne : bv ≠ bq ∧ bv ≠ bx ∧ b1 ≠ bq ∧ b1 ≠ bx ∧ b2 ≠ bq ∧ b2 ≠ bx ∧ bq ≠ bx
  v : ∀ k, k < 4 → w.cell? ⟨bv, k, none⟩ = some (.int .u64 (V k))
  r1 : ∀ k, k < 8 → w.cell? ⟨b1, k, none⟩ = some (.int .u64 0)
  r2 : ∀ k, k < 4 → w.cell? ⟨b2, k, none⟩ = some (.int .u64 0)
  q : ∀ k, k < 8 → w.cell? ⟨bq, k, none⟩ = some (.int .u64 (Q k))
  x : ∀ k, k < 9 → w.cell? ⟨bx, k, none⟩ = some (.int .u64 (X k))
  fv : ∀ o, w.frozen? ⟨bv, o, none⟩ = false
  f1 : ∀ o, w.frozen? ⟨b1, o, none⟩ = false
  f2 : ∀ o, w.frozen? ⟨b2, o, none⟩ = false
  fq : ∀ o, w.frozen? ⟨bq, o, none⟩ = false
  fx : ∀ o, w.frozen? ⟨bx, o, none⟩ = false
  sz : bv < w.heap.size ∧ b1 < w.heap.size ∧ b2 < w.heap.size ∧ bq < w.heap.size ∧ bx < w.heap.size
theorem Wr.below {b lo hi B : Nat} {u w : World} (h : Wr b lo hi u w) (hB : B ≤ b) : Below B u w :=
  ⟨h.os, h.tape, h.output, Nat.le_of_eq h.size.symm, fun k hk => h.block k (by omega)⟩
/-- Behind one digit, and its store into the quotient. -/
theorem Dv.step {w0 : World} {bv b1 b2 bq bx t n : Nat} {V Q X Y : Nat → Int} {q : Int} {w w2 : World} (D : Dv w0 bv b1 b2 bq bx V Q X w) (hW : Wr bx t (t + n + 1) w w2)
    (hY : ∀ i, i ≤ n → w2.cell? ⟨bx, t + i, none⟩ = some (.int .u64 (Y i))) (ht : t < 8) : Dv w0 bv b1 b2 bq bx V (put Q t q) (splice X Y t n) (w2.setCell ⟨bq, t, none⟩ (.int .u64 q)) := by
  obtain ⟨n1, n2, n3, n4, n5, n6, n7⟩ := D.ne
  obtain ⟨g1, g2, g3, g4, g5⟩ := D.ge
  have far : ∀ b o, b ≠ bq → (w2.setCell ⟨bq, t, none⟩ (.int .u64 q)).cell? ⟨b, o, none⟩ = w2.cell? ⟨b, o, none⟩ := fun b o hb => World.cell?_setCell_other _ _ _ _ (by intro e; simp at e <;> omega)
  have fr : ∀ a, (w2.setCell ⟨bq, t, none⟩ (.int .u64 q)).frozen? a = w.frozen? a := fun a => (World.frozen?_setCell _ _ _ _).trans (hW.frozen a)
  refine ⟨(D.below.trans (hW.below g5)).setCell g4 _, D.ge, D.ne, ?_, ?_, ?_, ?_, ?_, ?_, ?_, ?_, ?_, ?_, ?_⟩
  · intro k hk; rw [far _ _ n1, hW.other n2]; exact D.v k hk
  · intro k hk; rw [far _ _ n3, hW.other n4]; exact D.r1 k hk
  · intro k hk; rw [far _ _ n5, hW.other n6]; exact D.r2 k hk
  · intro k hk
    by_cases h : k = t
    · subst h; rw [put_same]; exact World.cell?_setCell_same _ _ _ ((hW.other n7).trans (D.q k hk))
    · rw [put_other _ _ _ h, World.cell?_setCell_other _ _ _ _ (by intro e; simp at e <;> omega), hW.other n7]; exact D.q k hk
  · intro k hk
    rw [far _ _ (Ne.symm n7)]
    by_cases h : t ≤ k ∧ k ≤ t + n
    · obtain ⟨j, rfl⟩ : ∃ j, k = t + j := ⟨k - t, by omega⟩
      rw [splice_in _ _ _ _ _ (by omega)]; exact hY j (by omega)
    · rw [splice_out _ _ _ _ _ (by omega), hW.cell k (by omega)]; exact D.x k hk
  · intro o; rw [fr]; exact D.fv o
  · intro o; rw [fr]; exact D.f1 o
  · intro o; rw [fr]; exact D.f2 o
  · intro o; rw [fr]; exact D.fq o
  · intro o; rw [fr]; exact D.fx o
  · have := D.sz; have := hW.size; simp [World.setCell]; omega
theorem Dv.drewN {w0 : World} {bv b1 b2 bq bx : Nat} {V Q X : Nat → Int} {w : World} (D : Dv w0 bv b1 b2 bq bx V Q X w) (n : Nat) : Dv w0 bv b1 b2 bq bx V Q X (w.drewN n) :=
  ⟨D.below.trans ⟨rfl, rfl, rfl, Nat.le_refl _, fun _ _ => rfl⟩, D.ge, D.ne, D.v, D.r1, D.r2, D.q, D.x, D.fv, D.f1, D.f2, D.fq, D.fx, D.sz⟩
end Go.Proofs.Ytlpmmejdfenkiaa.Wd
