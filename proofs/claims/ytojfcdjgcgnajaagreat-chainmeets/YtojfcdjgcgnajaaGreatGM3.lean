/- M2, M3 -/
import Derived.Test.YtojfcdjgcgnajaaGreatGD5
namespace Go.Proofs.YtojfcdjgcgnajaaGreat
open Go.RowKit
set_option linter.unusedVariables false
theorem pow64_add (a b : Nat) : (18446744073709551616 : Int) ^ (a + b) = 18446744073709551616 ^ a * 18446744073709551616 ^ b := Int.pow_add _ _ _
theorem val_split (X : Nat → Int) (a : Nat) : ∀ b, val X (a + b) = val X a + 18446744073709551616 ^ a * val (fun i => X (a + i)) b
 | 0 => by simp [val]
 | b + 1 => by
   show val X (a + b) + 18446744073709551616 ^ (a + b) * X (a + b) = _; rw [val_split X a b, pow64_add, val, Int.mul_add, Int.mul_assoc]; omega
theorem step_pre {X : Nat → Int} {VV : Int} {t n i : Nat} (hX : ∀ i, Limb (X i)) (hV : VV < 18446744073709551616 ^ n) (h : val X (t + (n + 1) + i) < 18446744073709551616 ^ (t + 1) * VV) :
 val (fun k => X (t + k)) (n + 1) < 18446744073709551616 * VV ∧ val (fun k => X (t + (n + 1) + k)) i = 0 := by
 have h1 := val_split X (t + (n + 1)) i; have h2 := val_split X t (n + 1); obtain ⟨a0, a1⟩ := val_bd hX t; obtain ⟨b0, b1⟩ := val_bd (X := fun k => X (t + k)) (fun k => hX _) (n + 1); obtain ⟨c0, c1⟩ := val_bd (X := fun k => X (t + (n + 1) + k)) (fun k => hX _) i; generalize val (fun k => X (t + k)) (n + 1) = b at *; generalize val (fun k => X (t + (n + 1) + k)) i = c at *; have hp := pow64_pos t; have hpn := pow64_pos (t + (n + 1)); have hc : 0 ≤ 18446744073709551616 ^ (t + (n + 1)) * c := Int.mul_nonneg (by omega) c0; rw [pow_succ', Int.mul_right_comm, Int.mul_comm] at h; constructor
 · have : 18446744073709551616 ^ t * b < 18446744073709551616 ^ t * (18446744073709551616 * VV) := by omega
   exact Int.lt_of_mul_lt_mul_left this (by omega)
 · rcases Int.lt_or_le 0 c with g | g
   · exfalso
     have g1 : 18446744073709551616 ^ (t + (n + 1)) * 1 ≤ 18446744073709551616 ^ (t + (n + 1)) * c := Int.mul_le_mul_of_nonneg_left (by omega) (by omega); have g2 : 18446744073709551616 ^ t * (18446744073709551616 * VV) ≤ 18446744073709551616 ^ t * (18446744073709551616 * 18446744073709551616 ^ n) := Int.mul_le_mul_of_nonneg_left (by omega) (by omega); rw [← pow_succ', ← pow64_add] at g2; have hb : 0 ≤ 18446744073709551616 ^ t * b := Int.mul_nonneg (by omega) b0; omega
   · omega
def splice (X Y : Nat → Int) (t n : Nat) : Nat → Int := fun k => if t ≤ k ∧ k ≤ t + n then Y (k - t) else X k
theorem splice_in (X Y : Nat → Int) (t n k : Nat) (h : k ≤ n) : splice X Y t n (t + k) = Y k := by
 unfold splice; rw [if_pos ⟨by omega, by omega⟩]; congr 1; omega
theorem splice_out (X Y : Nat → Int) (t n k : Nat) (h : k < t ∨ t + n < k) : splice X Y t n k = X k := by
 unfold splice; rw [if_neg (by omega)]
theorem step_post {X Y : Nat → Int} {VV N A q : Int} {t n i : Nat} (hX : ∀ i, Limb (X i)) (hY : ∀ i, Limb (Y i)) (hV : VV < 18446744073709551616 ^ n) (h : val X (t + (n + 1) + i) < 18446744073709551616 ^ (t + 1) * VV)
 (hN : N = A * VV + val X (t + (n + 1) + i)) (e : val (fun k => X (t + k)) (n + 1) = q * VV + val Y n) (l : val Y n < VV) (z : Y n = 0) :
 N = (A + 18446744073709551616 ^ t * q) * VV + val (splice X Y t n) (t + (n + 1) + i) ∧ val (splice X Y t n) (t + (n + 1) + i) < 18446744073709551616 ^ t * VV := by
 obtain ⟨_, hz⟩ := step_pre hX hV h; have h1 := val_split X (t + (n + 1)) i; have h2 := val_split X t (n + 1); have k1 := val_split (splice X Y t n) (t + (n + 1)) i; have k2 := val_split (splice X Y t n) t (n + 1); rw [val_congr (X := splice X Y t n) (Y := X) (fun k hk => splice_out X Y t n k (Or.inl hk)), val_congr (X := fun k => splice X Y t n (t + k)) (Y := Y) (fun k hk => splice_in X Y t n k (by omega))] at k2; rw [val_congr (X := fun k => splice X Y t n (t + (n + 1) + k)) (Y := fun k => X (t + (n + 1) + k)) (fun k hk => splice_out X Y t n _ (Or.inr (by omega))), hz] at k1; rw [hz] at h1; have hy : val Y (n + 1) = val Y n := by show val Y n + _ * Y n = _; rw [z]; omega
 rw [hy] at k2; rw [e] at h2; obtain ⟨a0, a1⟩ := val_bd hX t; obtain ⟨b0, b1⟩ := val_bd hY n; rw [k1, k2]; rw [Int.mul_zero] at *; constructor
 · rw [hN, h1, h2, Int.add_mul, Int.mul_add, Int.mul_assoc]
   omega
 · have : 18446744073709551616 ^ t * val Y n ≤ 18446744073709551616 ^ t * (VV - 1) := Int.mul_le_mul_of_nonneg_left (by omega) (by have := pow64_pos t; omega)
   rw [Int.mul_sub] at this; omega
theorem val_put_add (Q : Nat → Int) (t : Nat) (q : Int) (hz : Q t = 0) : ∀ k, t < k → val (put Q t q) k = val Q k + 18446744073709551616 ^ t * q
 | k + 1, h => by
   rcases Nat.lt_or_ge t k with g | g
   · show val (put Q t q) k + _ * put Q t q k = val Q k + _ * Q k + _
     rw [val_put_add Q t q hz k g, put_other _ _ _ (by omega)]; omega
   · have : k = t := by omega
     subst this; show val (put Q k q) k + _ * put Q k q k = val Q k + _ * Q k + _; rw [val_put, put_same, hz, Int.mul_zero]; omega
theorem whole_div {U V P A R : Int} (hV : 0 < V) (hP : 0 < P) (h : U * P = A * (V * P) + R) (h0 : 0 ≤ R) (h1 : R < V * P) : A = U / V ∧ R / P = U % V := by
 have hVP : 0 < V * P := Int.mul_pos hV hP; have e1 : U * P / (V * P) = A := ediv_by _ _ _ R (by omega) h0 h1; rw [Int.mul_comm U, Int.mul_comm V, Int.mul_ediv_mul_of_pos _ _ hP] at e1; refine ⟨e1.symm, ?_⟩; have e2 := Int.mul_ediv_add_emod U V; rw [e1] at e2; have e3 : R = (U % V) * P := by
  have : U * P = (V * A + U % V) * P := by rw [e2]
  rw [Int.add_mul] at this; have c : A * (V * P) = V * A * P := by rw [← Int.mul_assoc, Int.mul_comm A V]
  omega
 rw [e3, Int.mul_ediv_cancel _ (by omega)]
structure Dv (w0 : World) (bv b1 b2 bq bx : Nat) (V Q X : Nat → Int) (w : World) : Prop where
 below : Below w0.heap.size w0 w
 ge : w0.heap.size ≤ bv ∧ w0.heap.size ≤ b1 ∧ w0.heap.size ≤ b2 ∧ w0.heap.size ≤ bq ∧ w0.heap.size ≤ bx
 ne : bv ≠ bq ∧ bv ≠ bx ∧ b1 ≠ bq ∧ b1 ≠ bx ∧ b2 ≠ bq ∧ b2 ≠ bx ∧ bq ≠ bx
 v : ∀ k, k < 4 → w.cell? ⟨bv, k, none⟩ = some (.int .u64 (V k))
 r1 : ∀ k, k < 8 → w.cell? ⟨b1, k, none⟩ = some (.int .u64 0)
 r2 : ∀ k, k < 4 → w.cell? ⟨b2, k, none⟩ = some (.int .u64 0)
 q : ∀ k, k < 8 → w.cell? ⟨bq, k, none⟩ = some (.int .u64 (Q k))
 x : ∀ k, k < 9 → w.cell? ⟨bx, k, none⟩ = some (.int .u64 (X k))
 fv : ∀ o, w.frozen? ⟨bv, o, none⟩ = false
 f1 : ∀ o, w.frozen? ⟨b1, o, none⟩ = false
 f2 : ∀ o, w.frozen? ⟨b2, o, none⟩ = false
 fq : ∀ o, w.frozen? ⟨bq, o, none⟩ = false
 fx : ∀ o, w.frozen? ⟨bx, o, none⟩ = false
 sz : bv < w.heap.size ∧ b1 < w.heap.size ∧ b2 < w.heap.size ∧ bq < w.heap.size ∧ bx < w.heap.size
theorem Wr.below {b lo hi B : Nat} {u w : World} (h : Wr b lo hi u w) (hB : B ≤ b) : Below B u w :=
 ⟨h.os, h.tape, h.output, Nat.le_of_eq h.size.symm, fun k hk => h.block k (by omega)⟩
theorem Dv.step {w0 : World} {bv b1 b2 bq bx t n : Nat} {V Q X Y : Nat → Int} {q : Int} {w w2 : World} (D : Dv w0 bv b1 b2 bq bx V Q X w) (hW : Wr bx t (t + n + 1) w w2)
 (hY : ∀ i, i ≤ n → w2.cell? ⟨bx, t + i, none⟩ = some (.int .u64 (Y i))) (ht : t < 8) : Dv w0 bv b1 b2 bq bx V (put Q t q) (splice X Y t n) (w2.setCell ⟨bq, t, none⟩ (.int .u64 q)) := by
 obtain ⟨n1, n2, n3, n4, n5, n6, n7⟩ := D.ne; obtain ⟨g1, g2, g3, g4, g5⟩ := D.ge; have far : ∀ b o, b ≠ bq → (w2.setCell ⟨bq, t, none⟩ (.int .u64 q)).cell? ⟨b, o, none⟩ = w2.cell? ⟨b, o, none⟩ := fun b o hb => World.cell?_setCell_other _ _ _ _ (by intro e; simp at e <;> omega)
 have fr : ∀ a, (w2.setCell ⟨bq, t, none⟩ (.int .u64 q)).frozen? a = w.frozen? a := fun a => (World.frozen?_setCell _ _ _ _).trans (hW.frozen a)
 refine ⟨(D.below.trans (hW.below g5)).setCell g4 _, D.ge, D.ne, ?_, ?_, ?_, ?_, ?_, ?_, ?_, ?_, ?_, ?_, ?_⟩
 · intro k hk; rw [far _ _ n1, hW.other n2]; exact D.v k hk
 · intro k hk; rw [far _ _ n3, hW.other n4]; exact D.r1 k hk
 · intro k hk; rw [far _ _ n5, hW.other n6]; exact D.r2 k hk
 · intro k hk
   by_cases h : k = t
   · subst h; rw [put_same]; exact World.cell?_setCell_same _ _ _ ((hW.other n7).trans (D.q k hk))
   · rw [put_other _ _ _ h, World.cell?_setCell_other _ _ _ _ (by intro e; simp at e <;> omega), hW.other n7]; exact D.q k hk
 · intro k hk
   rw [far _ _ (Ne.symm n7)]; by_cases h : t ≤ k ∧ k ≤ t + n
   · obtain ⟨j, rfl⟩ : ∃ j, k = t + j := ⟨k - t, by omega⟩
     rw [splice_in _ _ _ _ _ (by omega)]; exact hY j (by omega)
   · rw [splice_out _ _ _ _ _ (by omega), hW.cell k (by omega)]; exact D.x k hk
 · intro o; rw [fr]; exact D.fv o
 · intro o; rw [fr]; exact D.f1 o
 · intro o; rw [fr]; exact D.f2 o
 · intro o; rw [fr]; exact D.fq o
 · intro o; rw [fr]; exact D.fx o
 · have := D.sz; have := hW.size; simp [World.setCell]; omega
theorem Dv.drewN {w0 : World} {bv b1 b2 bq bx : Nat} {V Q X : Nat → Int} {w : World} (D : Dv w0 bv b1 b2 bq bx V Q X w) (n : Nat) : Dv w0 bv b1 b2 bq bx V Q X (w.drewN n) :=
 ⟨D.below.trans ⟨rfl, rfl, rfl, Nat.le_refl _, fun _ _ => rfl⟩, D.ge, D.ne, D.v, D.r1, D.r2, D.q, D.x, D.fv, D.f1, D.f2, D.fq, D.fx, D.sz⟩
end Go.Proofs.YtojfcdjgcgnajaaGreat
namespace Go.Proofs.YtojfcdjgcgnajaaGreat
open Go.RowKit
set_option linter.unusedSimpArgs false
set_option linter.unusedVariables false
theorem lz_ex (y : Int) (h0 : 0 < y) (h1 : y < 18446744073709551616) : ∃ s : Int, 0 ≤ s ∧ s < 64 ∧ (∀ w, Calls Tryz.prog 98 #[.int .u64 y] w fun e w' => e = .returned (.int .i64 s) ∧ w' = w) ∧ Hid (9223372036854775808 ≤ y * 2 ^ s.toNat) ∧ Hid (y * 2 ^ s.toNat < 18446744073709551616) := by
 have h : 1 ≤ Lib.bitLen y.toNat ∧ 2 ^ (Lib.bitLen y.toNat - 1) ≤ y.toNat ∧ y.toNat < 2 ^ Lib.bitLen y.toNat := Lib.bitLenAux_bounds 64 y.toNat (by omega) (by omega); have hle : Lib.bitLen y.toNat ≤ 64 := Lib.bitLen_le y.toNat 64 (Nat.le_refl _) (by omega); have hc := Tryz.bits_LeadingZeros64 y; generalize Lib.bitLen y.toNat = L at *; refine ⟨64 - L, by omega, by omega, fun w => hc w (by omega) (by omega), ?_, ?_⟩
 · show _ ≤ _
   rw [show (64 - (L : Int)).toNat = 64 - L from by omega]; have e : (2 : Nat) ^ (L - 1) * 2 ^ (64 - L) = 2 ^ 63 := by rw [← Nat.pow_add]; congr 1; omega
   have g : (2 : Nat) ^ (L - 1) * 2 ^ (64 - L) ≤ y.toNat * 2 ^ (64 - L) := Nat.mul_le_mul_right _ h.2.1; rw [e] at g; have : ((2 ^ 63 : Nat) : Int) ≤ ((y.toNat * 2 ^ (64 - L) : Nat) : Int) := Int.ofNat_le.2 g; rw [Int.natCast_mul, Int.toNat_of_nonneg (by omega), Int.natCast_pow] at this; exact this
 · show _ < _
   rw [show (64 - (L : Int)).toNat = 64 - L from by omega]; have e : (2 : Nat) ^ L * 2 ^ (64 - L) = 2 ^ 64 := by rw [← Nat.pow_add]; congr 1; omega
   have g : y.toNat * 2 ^ (64 - L) < (2 : Nat) ^ L * 2 ^ (64 - L) := Nat.mul_lt_mul_of_pos_right h.2.2 (Nat.pow_pos (by decide)); rw [e] at g; have : ((y.toNat * 2 ^ (64 - L) : Nat) : Int) < ((2 ^ 64 : Nat) : Int) := Int.ofNat_lt.2 g; rw [Int.natCast_mul, Int.toNat_of_nonneg (by omega), Int.natCast_pow] at this; exact this
def f4 (a b c d : Int) : Nat → Int
 | 0 => a | 1 => b | 2 => c | 3 => d | _ => 0
def f9 (a b c d e f g h i : Int) : Nat → Int
 | 0 => a | 1 => b | 2 => c | 3 => d | 4 => e | 5 => f | 6 => g | 7 => h | 8 => i | _ => 0
theorem f4_limb {a b c d : Int} (h : L4 a b c d) : ∀ i, Limb (f4 a b c d i)
 | 0 => h.1 | 1 => h.2.1 | 2 => h.2.2.1 | 3 => h.2.2.2 | _ + 4 => limb0
theorem f9_limb {a b c d e f g h i : Int} (h1 : L4 a b c d) (h2 : L4 e f g h) (h3 : Limb i) : ∀ k, Limb (f9 a b c d e f g h i k)
 | 0 => h1.1 | 1 => h1.2.1 | 2 => h1.2.2.1 | 3 => h1.2.2.2 | 4 => h2.1 | 5 => h2.2.1 | 6 => h2.2.2.1 | 7 => h2.2.2.2 | 8 => h3 | _ + 9 => limb0
theorem f9_val (x0 x1 x2 x3 x4 x5 x6 x7 x8 : Int) : val (f9 x0 x1 x2 x3 x4 x5 x6 x7 x8) 9 = num9 x0 x1 x2 x3 x4 x5 x6 x7 x8 := by
 simp only [val, f9]; unfold num9; omega
theorem zero_val : ∀ k, val (fun _ => 0) k = 0
 | 0 => rfl
 | k + 1 => by rw [val, zero_val k]; omega
structure Uc (w : World) (u0 u1 u2 u3 u4 u5 u6 u7 t0 t1 t2 t3 : Int) (wc : World) : Prop where
 below : Below w.heap.size w wc
 sz : w.heap.size + 1 + 1 + 1 + 1 < wc.heap.size
 u : wc.cell? ⟨w.heap.size, 0, none⟩ = some (.int .u64 u0) ∧ wc.cell? ⟨w.heap.size, 1, none⟩ = some (.int .u64 u1) ∧ wc.cell? ⟨w.heap.size, 2, none⟩ = some (.int .u64 u2) ∧ wc.cell? ⟨w.heap.size, 3, none⟩ = some (.int .u64 u3) ∧ wc.cell? ⟨w.heap.size, 4, none⟩ = some (.int .u64 u4) ∧ wc.cell? ⟨w.heap.size, 5, none⟩ = some (.int .u64 u5) ∧ wc.cell? ⟨w.heap.size, 6, none⟩ = some (.int .u64 u6) ∧ wc.cell? ⟨w.heap.size, 7, none⟩ = some (.int .u64 u7)
 v : wc.cell? ⟨w.heap.size + 1, 0, none⟩ = some (.int .u64 t0) ∧ wc.cell? ⟨w.heap.size + 1, 1, none⟩ = some (.int .u64 t1) ∧ wc.cell? ⟨w.heap.size + 1, 2, none⟩ = some (.int .u64 t2) ∧ wc.cell? ⟨w.heap.size + 1, 3, none⟩ = some (.int .u64 t3)
 r1 : ∀ k, k < 8 → wc.cell? ⟨w.heap.size + 1 + 1, k, none⟩ = some (.int .u64 0)
 r2 : ∀ k, k < 4 → wc.cell? ⟨w.heap.size + 1 + 1 + 1, k, none⟩ = some (.int .u64 0)
 q : ∀ k, k < 8 → wc.cell? ⟨w.heap.size + 1 + 1 + 1 + 1, k, none⟩ = some (.int .u64 0)
 fv : ∀ o, wc.frozen? ⟨w.heap.size + 1, o, none⟩ = false
 f1 : ∀ o, wc.frozen? ⟨w.heap.size + 1 + 1, o, none⟩ = false
 f2 : ∀ o, wc.frozen? ⟨w.heap.size + 1 + 1 + 1, o, none⟩ = false
 fq : ∀ o, wc.frozen? ⟨w.heap.size + 1 + 1 + 1 + 1, o, none⟩ = false
theorem Uc.dv {w : World} {u0 u1 u2 u3 u4 u5 u6 u7 t0 t1 t2 t3 : Int} {wc w3 : World} (U : Uc w u0 u1 u2 u3 u4 u5 u6 u7 t0 t1 t2 t3 wc) (hb : Below wc.heap.size wc w3) (x0 x1 x2 x3 x4 x5 x6 x7 x8 : Int) :
 Dv w (w.heap.size + 1) (w.heap.size + 1 + 1) (w.heap.size + 1 + 1 + 1) (w.heap.size + 1 + 1 + 1 + 1) w3.heap.size (f4 t0 t1 t2 t3) (fun _ => 0) (f9 x0 x1 x2 x3 x4 x5 x6 x7 x8) (w3.alloc (.cells #[.int .u64 x0, .int .u64 x1, .int .u64 x2, .int .u64 x3, .int .u64 x4, .int .u64 x5, .int .u64 x6, .int .u64 x7, .int .u64 x8] 158)) := by
 have hs := U.sz; have hs3 := hb.size; have hs0 := U.below.size; have c : ∀ b o, b < wc.heap.size → (w3.alloc (.cells #[.int .u64 x0, .int .u64 x1, .int .u64 x2, .int .u64 x3, .int .u64 x4, .int .u64 x5, .int .u64 x6, .int .u64 x7, .int .u64 x8] 158)).cell? ⟨b, o, none⟩ = wc.cell? ⟨b, o, none⟩ := fun b o h =>
  (World.cell?_alloc_past _ _ _ (by omega)).trans (hb.cell (p := ⟨b, o, none⟩) h)
 have f : ∀ b o, b < wc.heap.size → (w3.alloc (.cells #[.int .u64 x0, .int .u64 x1, .int .u64 x2, .int .u64 x3, .int .u64 x4, .int .u64 x5, .int .u64 x6, .int .u64 x7, .int .u64 x8] 158)).frozen? ⟨b, o, none⟩ = wc.frozen? ⟨b, o, none⟩ := fun b o h =>
  (World.frozen?_alloc_past _ _ _ (by omega)).trans (hb.frozen (p := ⟨b, o, none⟩) h)
 obtain ⟨v0, v1, v2, v3⟩ := U.v; refine ⟨(U.below.trans (hb.mono (by omega))).alloc (by omega) _, by omega, by omega, ?_, ?_, ?_, ?_, ?_, ?_, ?_, ?_, ?_, ?_, by simp; omega⟩
 · intro k hk
   rw [c _ _ (by omega)]; rcases (by omega : k = 0 ∨ k = 1 ∨ k = 2 ∨ k = 3) with rfl | rfl | rfl | rfl
   · exact v0
   · exact v1
   · exact v2
   · exact v3
 · intro k hk; rw [c _ _ (by omega)]; exact U.r1 k hk
 · intro k hk; rw [c _ _ (by omega)]; exact U.r2 k hk
 · intro k hk; rw [c _ _ (by omega)]; exact U.q k hk
 · intro k hk
   rw [World.cell?_alloc_at _ _ _ _ rfl]; rcases (by omega : k = 0 ∨ k = 1 ∨ k = 2 ∨ k = 3 ∨ k = 4 ∨ k = 5 ∨ k = 6 ∨ k = 7 ∨ k = 8) with rfl | rfl | rfl | rfl | rfl | rfl | rfl | rfl | rfl <;> rfl
 · intro o; rw [f _ _ (by omega)]; exact U.fv o
 · intro o; rw [f _ _ (by omega)]; exact U.f1 o
 · intro o; rw [f _ _ (by omega)]; exact U.f2 o
 · intro o; rw [f _ _ (by omega)]; exact U.fq o
 · intro o; exact World.frozen?_alloc_at _ _ _ _ rfl
set_option maxHeartbeats 1000000 in
theorem Uc.mk' (u0 u1 u2 u3 u4 u5 u6 u7 v0 v1 v2 v3 t0 t1 t2 t3 : Int) (c d : Array Value) (w w' : World)
 (hb : Below ((((((((w.alloc (.cells #[.int .u64 u0, .int .u64 u1, .int .u64 u2, .int .u64 u3, .int .u64 u4, .int .u64 u5, .int .u64 u6, .int .u64 u7] 112)).alloc (.cells #[.int .u64 v0, .int .u64 v1, .int .u64 v2, .int .u64 v3] 51)).alloc (.cells #[.int .u64 0, .int .u64 0, .int .u64 0, .int .u64 0, .int .u64 0, .int .u64 0, .int .u64 0, .int .u64 0] 112)).alloc (.cells #[.int .u64 0, .int .u64 0, .int .u64 0, .int .u64 0] 51)).alloc (.cells #[.int .u64 0, .int .u64 0, .int .u64 0, .int .u64 0, .int .u64 0, .int .u64 0, .int .u64 0, .int .u64 0] 112)).alloc (.cells c 51)).alloc (.cells d 51)).drew).heap.size ((((((((w.alloc (.cells #[.int .u64 u0, .int .u64 u1, .int .u64 u2, .int .u64 u3, .int .u64 u4, .int .u64 u5, .int .u64 u6, .int .u64 u7] 112)).alloc (.cells #[.int .u64 v0, .int .u64 v1, .int .u64 v2, .int .u64 v3] 51)).alloc (.cells #[.int .u64 0, .int .u64 0, .int .u64 0, .int .u64 0, .int .u64 0, .int .u64 0, .int .u64 0, .int .u64 0] 112)).alloc (.cells #[.int .u64 0, .int .u64 0, .int .u64 0, .int .u64 0] 51)).alloc (.cells #[.int .u64 0, .int .u64 0, .int .u64 0, .int .u64 0, .int .u64 0, .int .u64 0, .int .u64 0, .int .u64 0] 112)).alloc (.cells c 51)).alloc (.cells d 51)).drew) w') : Uc w u0 u1 u2 u3 u4 u5 u6 u7 t0 t1 t2 t3 (((((w'.setCell ⟨w.heap.size + 1, 0, none⟩ (.int .u64 t0)).setCell ⟨w.heap.size + 1, 1, none⟩ (.int .u64 t1)).setCell ⟨w.heap.size + 1, 2, none⟩ (.int .u64 t2)).setCell ⟨w.heap.size + 1, 3, none⟩ (.int .u64 t3))) := by
 have hz : w.heap.size + 1 + 1 + 1 + 1 + 1 + 1 < w'.heap.size + 1 := by have := hb.size; simp at this; omega
 obtain ⟨hc, hf⟩ := bcell hb; have c1 : ∀ b o, b < w.heap.size + 1 + 1 + 1 + 1 + 1 → b ≠ w.heap.size + 1 → (((((w'.setCell ⟨w.heap.size + 1, 0, none⟩ (.int .u64 t0)).setCell ⟨w.heap.size + 1, 1, none⟩ (.int .u64 t1)).setCell ⟨w.heap.size + 1, 2, none⟩ (.int .u64 t2)).setCell ⟨w.heap.size + 1, 3, none⟩ (.int .u64 t3))).cell? ⟨b, o, none⟩ = ((((((((w.alloc (.cells #[.int .u64 u0, .int .u64 u1, .int .u64 u2, .int .u64 u3, .int .u64 u4, .int .u64 u5, .int .u64 u6, .int .u64 u7] 112)).alloc (.cells #[.int .u64 v0, .int .u64 v1, .int .u64 v2, .int .u64 v3] 51)).alloc (.cells #[.int .u64 0, .int .u64 0, .int .u64 0, .int .u64 0, .int .u64 0, .int .u64 0, .int .u64 0, .int .u64 0] 112)).alloc (.cells #[.int .u64 0, .int .u64 0, .int .u64 0, .int .u64 0] 51)).alloc (.cells #[.int .u64 0, .int .u64 0, .int .u64 0, .int .u64 0, .int .u64 0, .int .u64 0, .int .u64 0, .int .u64 0] 112)).alloc (.cells c 51)).alloc (.cells d 51)).drew).cell? ⟨b, o, none⟩ := fun b o h h1 => by
  rw [World.cell?_setCell_far _ _ _ _ (by simpa using Ne.symm h1), World.cell?_setCell_far _ _ _ _ (by simpa using Ne.symm h1), World.cell?_setCell_far _ _ _ _ (by simpa using Ne.symm h1), World.cell?_setCell_far _ _ _ _ (by simpa using Ne.symm h1)]; exact hc b o (by simp; omega)
 have f1 : ∀ b o, b < w.heap.size + 1 + 1 + 1 + 1 + 1 → (((((w'.setCell ⟨w.heap.size + 1, 0, none⟩ (.int .u64 t0)).setCell ⟨w.heap.size + 1, 1, none⟩ (.int .u64 t1)).setCell ⟨w.heap.size + 1, 2, none⟩ (.int .u64 t2)).setCell ⟨w.heap.size + 1, 3, none⟩ (.int .u64 t3))).frozen? ⟨b, o, none⟩ = ((((((((w.alloc (.cells #[.int .u64 u0, .int .u64 u1, .int .u64 u2, .int .u64 u3, .int .u64 u4, .int .u64 u5, .int .u64 u6, .int .u64 u7] 112)).alloc (.cells #[.int .u64 v0, .int .u64 v1, .int .u64 v2, .int .u64 v3] 51)).alloc (.cells #[.int .u64 0, .int .u64 0, .int .u64 0, .int .u64 0, .int .u64 0, .int .u64 0, .int .u64 0, .int .u64 0] 112)).alloc (.cells #[.int .u64 0, .int .u64 0, .int .u64 0, .int .u64 0] 51)).alloc (.cells #[.int .u64 0, .int .u64 0, .int .u64 0, .int .u64 0, .int .u64 0, .int .u64 0, .int .u64 0, .int .u64 0] 112)).alloc (.cells c 51)).alloc (.cells d 51)).drew).frozen? ⟨b, o, none⟩ := fun b o h => by
  rw [World.frozen?_setCell, World.frozen?_setCell, World.frozen?_setCell, World.frozen?_setCell]; exact hf b o (by simp; omega)
 have e0 : w'.cell? ⟨w.heap.size + 1, 0, none⟩ = some (.int .u64 v0) := by rw [hc _ _ (by simp <;> omega)]; simp [go_sem, World.cell?_alloc_past]
 have e1 : w'.cell? ⟨w.heap.size + 1, 1, none⟩ = some (.int .u64 v1) := by rw [hc _ _ (by simp <;> omega)]; simp [go_sem, World.cell?_alloc_past]
 have e2 : w'.cell? ⟨w.heap.size + 1, 2, none⟩ = some (.int .u64 v2) := by rw [hc _ _ (by simp <;> omega)]; simp [go_sem, World.cell?_alloc_past]
 have e3 : w'.cell? ⟨w.heap.size + 1, 3, none⟩ = some (.int .u64 v3) := by rw [hc _ _ (by simp <;> omega)]; simp [go_sem, World.cell?_alloc_past]
 have o1 : ∀ (u : World) (i j : Nat) (x : Value), i ≠ j → (u.setCell ⟨w.heap.size + 1, i, none⟩ x).cell? ⟨w.heap.size + 1, j, none⟩ = u.cell? ⟨w.heap.size + 1, j, none⟩ := fun u i j x h => World.cell?_setCell_other _ _ _ _ (by intro e; simp at e <;> exact h e)
 have hB : Below w.heap.size w w' := Below.trans (by go_grown) (hb.mono (by simp; omega)); refine ⟨?_, by simp [World.setCell]; omega, ?_, ?_, ?_, ?_, ?_, ?_, ?_, ?_, ?_⟩
 · clear hb hc hf
   go_grown
 · refine ⟨?_, ?_, ?_, ?_, ?_, ?_, ?_, ?_⟩
   all_goals (rw [c1 _ _ (by omega) (by omega)]; simp [go_sem, World.cell?_alloc_past])
 · refine ⟨?_, ?_, ?_, ?_⟩
   · rw [o1 _ 3 0 _ (by decide), o1 _ 2 0 _ (by decide), o1 _ 1 0 _ (by decide)]; exact World.cell?_setCell_same _ _ _ e0
   · rw [o1 _ 3 1 _ (by decide), o1 _ 2 1 _ (by decide)]; exact World.cell?_setCell_same _ _ _ ((o1 _ 0 1 _ (by decide)).trans e1)
   · rw [o1 _ 3 2 _ (by decide)]; exact World.cell?_setCell_same _ _ _ ((o1 _ 1 2 _ (by decide)).trans ((o1 _ 0 2 _ (by decide)).trans e2))
   · exact World.cell?_setCell_same _ _ _ ((o1 _ 2 3 _ (by decide)).trans ((o1 _ 1 3 _ (by decide)).trans ((o1 _ 0 3 _ (by decide)).trans e3)))
 · intro k hk
   rw [c1 _ _ (by omega) (by omega)]; rcases (by omega : k = 0 ∨ k = 1 ∨ k = 2 ∨ k = 3 ∨ k = 4 ∨ k = 5 ∨ k = 6 ∨ k = 7) with rfl | rfl | rfl | rfl | rfl | rfl | rfl | rfl <;> simp [go_sem, World.cell?_alloc_past]
 · intro k hk
   rw [c1 _ _ (by omega) (by omega)]; rcases (by omega : k = 0 ∨ k = 1 ∨ k = 2 ∨ k = 3) with rfl | rfl | rfl | rfl <;> simp [go_sem, World.cell?_alloc_past]
 · intro k hk
   rw [c1 _ _ (by omega) (by omega)]; rcases (by omega : k = 0 ∨ k = 1 ∨ k = 2 ∨ k = 3 ∨ k = 4 ∨ k = 5 ∨ k = 6 ∨ k = 7) with rfl | rfl | rfl | rfl | rfl | rfl | rfl | rfl <;> simp [go_sem, World.cell?_alloc_past]
 · intro o; rw [f1 _ _ (by omega)]; simp [go_sem, World.frozen?_alloc_past]
 · intro o; rw [f1 _ _ (by omega)]; simp [go_sem, World.frozen?_alloc_past]
 · intro o; rw [f1 _ _ (by omega)]; simp [go_sem, World.frozen?_alloc_past]
 · intro o; rw [f1 _ _ (by omega)]; simp [go_sem, World.frozen?_alloc_past]
end Go.Proofs.YtojfcdjgcgnajaaGreat
