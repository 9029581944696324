/- What the memory of a division holds ahead of its loop. -/
import Derived.Test.YtmflilgppllebaaM2
namespace Go.Proofs.Ytmflilgppllebaa
open Go.RowKit
set_option linter.unusedSimpArgs false
set_option linter.unusedVariables false
theorem lz_ex (y : Int) (h0 : 0 < y) (h1 : y < 18446744073709551616) : ∃ s : Int, 0 ≤ s ∧ s < 64 ∧ (∀ w, Calls Try.prog 86 #[.int .u64 y] w fun e w' => e = .returned (.int .i64 s) ∧ w' = w) ∧ Hid (9223372036854775808 ≤ y * 2 ^ s.toNat) ∧ Hid (y * 2 ^ s.toNat < 18446744073709551616) := by
  have h : 1 ≤ Lib.bitLen y.toNat ∧ 2 ^ (Lib.bitLen y.toNat - 1) ≤ y.toNat ∧ y.toNat < 2 ^ Lib.bitLen y.toNat := Lib.bitLenAux_bounds 64 y.toNat (by omega) (by omega)
  have hle : Lib.bitLen y.toNat ≤ 64 := Lib.bitLen_le y.toNat 64 (Nat.le_refl _) (by omega)
  have hc := Try.bits_LeadingZeros64 y
  generalize Lib.bitLen y.toNat = L at *
  refine ⟨64 - L, by omega, by omega, fun w => hc w (by omega) (by omega), ?_, ?_⟩
  · show _ ≤ _
    rw [show (64 - (L : Int)).toNat = 64 - L from by omega]
    have e : (2 : Nat) ^ (L - 1) * 2 ^ (64 - L) = 2 ^ 63 := by rw [← Nat.pow_add]; congr 1; omega
    have g : (2 : Nat) ^ (L - 1) * 2 ^ (64 - L) ≤ y.toNat * 2 ^ (64 - L) := Nat.mul_le_mul_right _ h.2.1
    rw [e] at g
    have : ((2 ^ 63 : Nat) : Int) ≤ ((y.toNat * 2 ^ (64 - L) : Nat) : Int) := Int.ofNat_le.2 g
    rw [Int.natCast_mul, Int.toNat_of_nonneg (by omega), Int.natCast_pow] at this
    exact this
  · show _ < _
    rw [show (64 - (L : Int)).toNat = 64 - L from by omega]
    have e : (2 : Nat) ^ L * 2 ^ (64 - L) = 2 ^ 64 := by rw [← Nat.pow_add]; congr 1; omega
    have g : y.toNat * 2 ^ (64 - L) < (2 : Nat) ^ L * 2 ^ (64 - L) := Nat.mul_lt_mul_of_pos_right h.2.2 (Nat.pow_pos (by decide))
    rw [e] at g
    have : ((y.toNat * 2 ^ (64 - L) : Nat) : Int) < ((2 ^ 64 : Nat) : Int) := Int.ofNat_lt.2 g
    rw [Int.natCast_mul, Int.toNat_of_nonneg (by omega), Int.natCast_pow] at this
    exact this

def f4 (a b c d : Int) : Nat → Int
  | 0 => a | 1 => b | 2 => c | 3 => d | _ => 0
def f8 (a b c d e f g h : Int) : Nat → Int
  | 0 => a | 1 => b | 2 => c | 3 => d | 4 => e | 5 => f | 6 => g | 7 => h | _ => 0
def f9 (a b c d e f g h i : Int) : Nat → Int
  | 0 => a | 1 => b | 2 => c | 3 => d | 4 => e | 5 => f | 6 => g | 7 => h | 8 => i | _ => 0
theorem f4_limb {a b c d : Int} (h : L4 a b c d) : ∀ i, Limb (f4 a b c d i)
  | 0 => h.1 | 1 => h.2.1 | 2 => h.2.2.1 | 3 => h.2.2.2 | _ + 4 => limb0
theorem f9_limb {a b c d e f g h i : Int} (h1 : L4 a b c d) (h2 : L4 e f g h) (h3 : Limb i) : ∀ k, Limb (f9 a b c d e f g h i k)
  | 0 => h1.1 | 1 => h1.2.1 | 2 => h1.2.2.1 | 3 => h1.2.2.2 | 4 => h2.1 | 5 => h2.2.1 | 6 => h2.2.2.1 | 7 => h2.2.2.2 | 8 => h3 | _ + 9 => limb0
theorem f9_val (x0 x1 x2 x3 x4 x5 x6 x7 x8 : Int) : val (f9 x0 x1 x2 x3 x4 x5 x6 x7 x8) 9 = num9 x0 x1 x2 x3 x4 x5 x6 x7 x8 := by
  simp only [val, f9]
  unfold num9
  omega
theorem zero_val : ∀ k, val (fun _ => 0) k = 0
  | 0 => rfl
  | k + 1 => by rw [val, zero_val k]; omega
/-- The memory of a division once its divisor is shifted. -/
structure Uc (w : World) (u0 u1 u2 u3 u4 u5 u6 u7 t0 t1 t2 t3 : Int) (wc : World) : Prop where
  below : Below w.heap.size w wc
  sz : w.heap.size + 1 + 1 + 1 + 1 < wc.heap.size
  u : wc.cell? ⟨w.heap.size, 0, none⟩ = some (.int .u64 u0) ∧ wc.cell? ⟨w.heap.size, 1, none⟩ = some (.int .u64 u1) ∧ wc.cell? ⟨w.heap.size, 2, none⟩ = some (.int .u64 u2) ∧ wc.cell? ⟨w.heap.size, 3, none⟩ = some (.int .u64 u3) ∧ wc.cell? ⟨w.heap.size, 4, none⟩ = some (.int .u64 u4) ∧ wc.cell? ⟨w.heap.size, 5, none⟩ = some (.int .u64 u5) ∧ wc.cell? ⟨w.heap.size, 6, none⟩ = some (.int .u64 u6) ∧ wc.cell? ⟨w.heap.size, 7, none⟩ = some (.int .u64 u7)
  v : wc.cell? ⟨w.heap.size + 1, 0, none⟩ = some (.int .u64 t0) ∧ wc.cell? ⟨w.heap.size + 1, 1, none⟩ = some (.int .u64 t1) ∧ wc.cell? ⟨w.heap.size + 1, 2, none⟩ = some (.int .u64 t2) ∧ wc.cell? ⟨w.heap.size + 1, 3, none⟩ = some (.int .u64 t3)
  r1 : ∀ k, k < 8 → wc.cell? ⟨w.heap.size + 1 + 1, k, none⟩ = some (.int .u64 0)
  r2 : ∀ k, k < 4 → wc.cell? ⟨w.heap.size + 1 + 1 + 1, k, none⟩ = some (.int .u64 0)
  q : ∀ k, k < 8 → wc.cell? ⟨w.heap.size + 1 + 1 + 1 + 1, k, none⟩ = some (.int .u64 0)
  fv : ∀ o, wc.frozen? ⟨w.heap.size + 1, o, none⟩ = false
  f1 : ∀ o, wc.frozen? ⟨w.heap.size + 1 + 1, o, none⟩ = false
  f2 : ∀ o, wc.frozen? ⟨w.heap.size + 1 + 1 + 1, o, none⟩ = false
  fq : ∀ o, wc.frozen? ⟨w.heap.size + 1 + 1 + 1 + 1, o, none⟩ = false
theorem Uc.dv {w : World} {u0 u1 u2 u3 u4 u5 u6 u7 t0 t1 t2 t3 : Int} {wc w3 : World} (U : Uc w u0 u1 u2 u3 u4 u5 u6 u7 t0 t1 t2 t3 wc) (hb : Below wc.heap.size wc w3) (x0 x1 x2 x3 x4 x5 x6 x7 x8 : Int) :
    Dv w (w.heap.size + 1) (w.heap.size + 1 + 1) (w.heap.size + 1 + 1 + 1) (w.heap.size + 1 + 1 + 1 + 1) w3.heap.size (f4 t0 t1 t2 t3) (fun _ => 0) (f9 x0 x1 x2 x3 x4 x5 x6 x7 x8) (w3.alloc (.cells #[.int .u64 x0, .int .u64 x1, .int .u64 x2, .int .u64 x3, .int .u64 x4, .int .u64 x5, .int .u64 x6, .int .u64 x7, .int .u64 x8] 92)) := by
  have hs := U.sz
  have hs3 := hb.size
  have hs0 := U.below.size
  have c : ∀ b o, b < wc.heap.size → (w3.alloc (.cells #[.int .u64 x0, .int .u64 x1, .int .u64 x2, .int .u64 x3, .int .u64 x4, .int .u64 x5, .int .u64 x6, .int .u64 x7, .int .u64 x8] 92)).cell? ⟨b, o, none⟩ = wc.cell? ⟨b, o, none⟩ := fun b o h =>
    (World.cell?_alloc_past _ _ _ (by omega)).trans (hb.cell (p := ⟨b, o, none⟩) h)
  have f : ∀ b o, b < wc.heap.size → (w3.alloc (.cells #[.int .u64 x0, .int .u64 x1, .int .u64 x2, .int .u64 x3, .int .u64 x4, .int .u64 x5, .int .u64 x6, .int .u64 x7, .int .u64 x8] 92)).frozen? ⟨b, o, none⟩ = wc.frozen? ⟨b, o, none⟩ := fun b o h =>
    (World.frozen?_alloc_past _ _ _ (by omega)).trans (hb.frozen (p := ⟨b, o, none⟩) h)
  obtain ⟨v0, v1, v2, v3⟩ := U.v
  refine ⟨(U.below.trans (hb.mono (by omega))).alloc (by omega) _, by omega, by omega, ?_, ?_, ?_, ?_, ?_, ?_, ?_, ?_, ?_, ?_, by simp; omega⟩
  · intro k hk
    rw [c _ _ (by omega)]
    rcases (by omega : k = 0 ∨ k = 1 ∨ k = 2 ∨ k = 3) with rfl | rfl | rfl | rfl
    · exact v0
    · exact v1
    · exact v2
    · exact v3
  · intro k hk; rw [c _ _ (by omega)]; exact U.r1 k hk
  · intro k hk; rw [c _ _ (by omega)]; exact U.r2 k hk
  · intro k hk; rw [c _ _ (by omega)]; exact U.q k hk
  · intro k hk
    rw [World.cell?_alloc_at _ _ _ _ rfl]
    rcases (by omega : k = 0 ∨ k = 1 ∨ k = 2 ∨ k = 3 ∨ k = 4 ∨ k = 5 ∨ k = 6 ∨ k = 7 ∨ k = 8) with rfl | rfl | rfl | rfl | rfl | rfl | rfl | rfl | rfl <;> rfl
  · intro o; rw [f _ _ (by omega)]; exact U.fv o
  · intro o; rw [f _ _ (by omega)]; exact U.f1 o
  · intro o; rw [f _ _ (by omega)]; exact U.f2 o
  · intro o; rw [f _ _ (by omega)]; exact U.fq o
  · intro o; exact World.frozen?_alloc_at _ _ _ _ rfl
set_option maxHeartbeats 1000000 in
/-- Behind the store of the shifted divisor. -/
theorem Uc.mk' (u0 u1 u2 u3 u4 u5 u6 u7 v0 v1 v2 v3 t0 t1 t2 t3 : Int) (c d : Array Value) (w w' : World)
    (hb : Below ((((((((w.alloc (.cells #[.int .u64 u0, .int .u64 u1, .int .u64 u2, .int .u64 u3, .int .u64 u4, .int .u64 u5, .int .u64 u6, .int .u64 u7] 82)).alloc (.cells #[.int .u64 v0, .int .u64 v1, .int .u64 v2, .int .u64 v3] 24)).alloc (.cells #[.int .u64 0, .int .u64 0, .int .u64 0, .int .u64 0, .int .u64 0, .int .u64 0, .int .u64 0, .int .u64 0] 82)).alloc (.cells #[.int .u64 0, .int .u64 0, .int .u64 0, .int .u64 0] 24)).alloc (.cells #[.int .u64 0, .int .u64 0, .int .u64 0, .int .u64 0, .int .u64 0, .int .u64 0, .int .u64 0, .int .u64 0] 82)).alloc (.cells c 24)).alloc (.cells d 24)).drew).heap.size ((((((((w.alloc (.cells #[.int .u64 u0, .int .u64 u1, .int .u64 u2, .int .u64 u3, .int .u64 u4, .int .u64 u5, .int .u64 u6, .int .u64 u7] 82)).alloc (.cells #[.int .u64 v0, .int .u64 v1, .int .u64 v2, .int .u64 v3] 24)).alloc (.cells #[.int .u64 0, .int .u64 0, .int .u64 0, .int .u64 0, .int .u64 0, .int .u64 0, .int .u64 0, .int .u64 0] 82)).alloc (.cells #[.int .u64 0, .int .u64 0, .int .u64 0, .int .u64 0] 24)).alloc (.cells #[.int .u64 0, .int .u64 0, .int .u64 0, .int .u64 0, .int .u64 0, .int .u64 0, .int .u64 0, .int .u64 0] 82)).alloc (.cells c 24)).alloc (.cells d 24)).drew) w') : Uc w u0 u1 u2 u3 u4 u5 u6 u7 t0 t1 t2 t3 (((((w'.setCell ⟨w.heap.size + 1, 0, none⟩ (.int .u64 t0)).setCell ⟨w.heap.size + 1, 1, none⟩ (.int .u64 t1)).setCell ⟨w.heap.size + 1, 2, none⟩ (.int .u64 t2)).setCell ⟨w.heap.size + 1, 3, none⟩ (.int .u64 t3))) := by
  have hz : w.heap.size + 1 + 1 + 1 + 1 + 1 + 1 < w'.heap.size + 1 := by have := hb.size; simp at this; omega
  obtain ⟨hc, hf⟩ := bcell hb
  have c1 : ∀ b o, b < w.heap.size + 1 + 1 + 1 + 1 + 1 → b ≠ w.heap.size + 1 → (((((w'.setCell ⟨w.heap.size + 1, 0, none⟩ (.int .u64 t0)).setCell ⟨w.heap.size + 1, 1, none⟩ (.int .u64 t1)).setCell ⟨w.heap.size + 1, 2, none⟩ (.int .u64 t2)).setCell ⟨w.heap.size + 1, 3, none⟩ (.int .u64 t3))).cell? ⟨b, o, none⟩ = ((((((((w.alloc (.cells #[.int .u64 u0, .int .u64 u1, .int .u64 u2, .int .u64 u3, .int .u64 u4, .int .u64 u5, .int .u64 u6, .int .u64 u7] 82)).alloc (.cells #[.int .u64 v0, .int .u64 v1, .int .u64 v2, .int .u64 v3] 24)).alloc (.cells #[.int .u64 0, .int .u64 0, .int .u64 0, .int .u64 0, .int .u64 0, .int .u64 0, .int .u64 0, .int .u64 0] 82)).alloc (.cells #[.int .u64 0, .int .u64 0, .int .u64 0, .int .u64 0] 24)).alloc (.cells #[.int .u64 0, .int .u64 0, .int .u64 0, .int .u64 0, .int .u64 0, .int .u64 0, .int .u64 0, .int .u64 0] 82)).alloc (.cells c 24)).alloc (.cells d 24)).drew).cell? ⟨b, o, none⟩ := fun b o h h1 => by
    rw [World.cell?_setCell_far _ _ _ _ (by simpa using Ne.symm h1), World.cell?_setCell_far _ _ _ _ (by simpa using Ne.symm h1), World.cell?_setCell_far _ _ _ _ (by simpa using Ne.symm h1), World.cell?_setCell_far _ _ _ _ (by simpa using Ne.symm h1)]
    exact hc b o (by simp; omega)
  have f1 : ∀ b o, b < w.heap.size + 1 + 1 + 1 + 1 + 1 → (((((w'.setCell ⟨w.heap.size + 1, 0, none⟩ (.int .u64 t0)).setCell ⟨w.heap.size + 1, 1, none⟩ (.int .u64 t1)).setCell ⟨w.heap.size + 1, 2, none⟩ (.int .u64 t2)).setCell ⟨w.heap.size + 1, 3, none⟩ (.int .u64 t3))).frozen? ⟨b, o, none⟩ = ((((((((w.alloc (.cells #[.int .u64 u0, .int .u64 u1, .int .u64 u2, .int .u64 u3, .int .u64 u4, .int .u64 u5, .int .u64 u6, .int .u64 u7] 82)).alloc (.cells #[.int .u64 v0, .int .u64 v1, .int .u64 v2, .int .u64 v3] 24)).alloc (.cells #[.int .u64 0, .int .u64 0, .int .u64 0, .int .u64 0, .int .u64 0, .int .u64 0, .int .u64 0, .int .u64 0] 82)).alloc (.cells #[.int .u64 0, .int .u64 0, .int .u64 0, .int .u64 0] 24)).alloc (.cells #[.int .u64 0, .int .u64 0, .int .u64 0, .int .u64 0, .int .u64 0, .int .u64 0, .int .u64 0, .int .u64 0] 82)).alloc (.cells c 24)).alloc (.cells d 24)).drew).frozen? ⟨b, o, none⟩ := fun b o h => by
    rw [World.frozen?_setCell, World.frozen?_setCell, World.frozen?_setCell, World.frozen?_setCell]
    exact hf b o (by simp; omega)
  have e0 : w'.cell? ⟨w.heap.size + 1, 0, none⟩ = some (.int .u64 v0) := by rw [hc _ _ (by simp <;> omega)]; simp [go_sem, World.cell?_alloc_past]
  have e1 : w'.cell? ⟨w.heap.size + 1, 1, none⟩ = some (.int .u64 v1) := by rw [hc _ _ (by simp <;> omega)]; simp [go_sem, World.cell?_alloc_past]
  have e2 : w'.cell? ⟨w.heap.size + 1, 2, none⟩ = some (.int .u64 v2) := by rw [hc _ _ (by simp <;> omega)]; simp [go_sem, World.cell?_alloc_past]
  have e3 : w'.cell? ⟨w.heap.size + 1, 3, none⟩ = some (.int .u64 v3) := by rw [hc _ _ (by simp <;> omega)]; simp [go_sem, World.cell?_alloc_past]
  have o1 : ∀ (u : World) (i j : Nat) (x : Value), i ≠ j → (u.setCell ⟨w.heap.size + 1, i, none⟩ x).cell? ⟨w.heap.size + 1, j, none⟩ = u.cell? ⟨w.heap.size + 1, j, none⟩ := fun u i j x h => World.cell?_setCell_other _ _ _ _ (by intro e; simp at e <;> exact h e)
  have hB : Below w.heap.size w w' := Below.trans (by go_grown) (hb.mono (by simp; omega))
  refine ⟨?_, by simp [World.setCell]; omega, ?_, ?_, ?_, ?_, ?_, ?_, ?_, ?_, ?_⟩
  · clear hb hc hf
    go_grown
  · refine ⟨?_, ?_, ?_, ?_, ?_, ?_, ?_, ?_⟩
    all_goals (rw [c1 _ _ (by omega) (by omega)]; simp [go_sem, World.cell?_alloc_past])
  · refine ⟨?_, ?_, ?_, ?_⟩
    · rw [o1 _ 3 0 _ (by decide), o1 _ 2 0 _ (by decide), o1 _ 1 0 _ (by decide)]; exact World.cell?_setCell_same _ _ _ e0
    · rw [o1 _ 3 1 _ (by decide), o1 _ 2 1 _ (by decide)]; exact World.cell?_setCell_same _ _ _ ((o1 _ 0 1 _ (by decide)).trans e1)
    · rw [o1 _ 3 2 _ (by decide)]; exact World.cell?_setCell_same _ _ _ ((o1 _ 1 2 _ (by decide)).trans ((o1 _ 0 2 _ (by decide)).trans e2))
    · exact World.cell?_setCell_same _ _ _ ((o1 _ 2 3 _ (by decide)).trans ((o1 _ 1 3 _ (by decide)).trans ((o1 _ 0 3 _ (by decide)).trans e3)))
  · intro k hk
    rw [c1 _ _ (by omega) (by omega)]
    rcases (by omega : k = 0 ∨ k = 1 ∨ k = 2 ∨ k = 3 ∨ k = 4 ∨ k = 5 ∨ k = 6 ∨ k = 7) with rfl | rfl | rfl | rfl | rfl | rfl | rfl | rfl <;> simp [go_sem, World.cell?_alloc_past]
  · intro k hk
    rw [c1 _ _ (by omega) (by omega)]
    rcases (by omega : k = 0 ∨ k = 1 ∨ k = 2 ∨ k = 3) with rfl | rfl | rfl | rfl <;> simp [go_sem, World.cell?_alloc_past]
  · intro k hk
    rw [c1 _ _ (by omega) (by omega)]
    rcases (by omega : k = 0 ∨ k = 1 ∨ k = 2 ∨ k = 3 ∨ k = 4 ∨ k = 5 ∨ k = 6 ∨ k = 7) with rfl | rfl | rfl | rfl | rfl | rfl | rfl | rfl <;> simp [go_sem, World.cell?_alloc_past]
  · intro o; rw [f1 _ _ (by omega)]; simp [go_sem, World.frozen?_alloc_past]
  · intro o; rw [f1 _ _ (by omega)]; simp [go_sem, World.frozen?_alloc_past]
  · intro o; rw [f1 _ _ (by omega)]; simp [go_sem, World.frozen?_alloc_past]
  · intro o; rw [f1 _ _ (by omega)]; simp [go_sem, World.frozen?_alloc_past]
end Go.Proofs.Ytmflilgppllebaa
