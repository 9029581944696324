/- WdM2, WdE1, WdE2, WdB3, laid into one text. -/
import Derived.Test.YtmnlcpfehbpogaaM3
import Derived.Test.YtmnlcpfehbpogaaM2
/- The arithmetic of long division, and what the memory of one such division holds. -/
namespace Go.Proofs.Ytmnlcpfehbpogaa.Wd
open Go.RowKit
set_option linter.unusedVariables false

/-- The limbs from t on are others. -/
def splice (X Y : Nat → Int) (t n : Nat) : Nat → Int := fun k => if t ≤ k ∧ k ≤ t + n then Y (k - t) else X k
theorem splice_in (X Y : Nat → Int) (t n k : Nat) (h : k ≤ n) : splice X Y t n (t + k) = Y k := by
  unfold splice; rw [if_pos ⟨by omega, by omega⟩]; congr 1; omega
theorem splice_out (X Y : Nat → Int) (t n k : Nat) (h : k < t ∨ t + n < k) : splice X Y t n k = X k := by
  unfold splice; rw [if_neg (by omega)]
/-- The memory of one division: the divisor, the two results, the quotient, what is left. -/
structure Dv (w0 : World) (bv b1 b2 bq bx : Nat) (V Q X : Nat → Int) (w : World) : Prop where
  below : Below w0.heap.size w0 w
  ge : w0.heap.size ≤ bv ∧ w0.heap.size ≤ b1 ∧ w0.heap.size ≤ b2 ∧ w0.heap.size ≤ bq ∧ w0.heap.size ≤ bx
  ne : bv ≠ bq ∧ bv ≠ bx ∧ b1 ≠ bq ∧ b1 ≠ bx ∧ b2 ≠ bq ∧ b2 ≠ bx ∧ bq ≠ bx
  v : ∀ k, k < 4 → w.cell? ⟨bv, k, none⟩ = some (.int .u64 (V k))
  r1 : ∀ k, k < 8 → w.cell? ⟨b1, k, none⟩ = some (.int .u64 0)
  r2 : ∀ k, k < 4 → w.cell? ⟨b2, k, none⟩ = some (.int .u64 0)
  q : ∀ k, k < 8 → w.cell? ⟨bq, k, none⟩ = some (.int .u64 (Q k))
  x : ∀ k, k < 9 → w.cell? ⟨bx, k, none⟩ = some (.int .u64 (X k))
  fv : ∀ o, w.frozen? ⟨bv, o, none⟩ = false
  f1 : ∀ o, w.frozen? ⟨b1, o, none⟩ = false
  f2 : ∀ o, w.frozen? ⟨b2, o, none⟩ = false
  fq : ∀ o, w.frozen? ⟨bq, o, none⟩ = false
  fx : ∀ o, w.frozen? ⟨bx, o, none⟩ = false
  sz : bv < w.heap.size ∧ b1 < w.heap.size ∧ b2 < w.heap.size ∧ bq < w.heap.size ∧ bx < w.heap.size
theorem Wr.below {b lo hi B : Nat} {u w : World} (h : Wr b lo hi u w) (hB : B ≤ b) : Below B u w :=
  ⟨h.os, h.tape, h.output, Nat.le_of_eq h.size.symm, fun k hk => h.block k (by omega)⟩
/-- Behind one digit, and its store into the quotient. -/
theorem Dv.step {w0 : World} {bv b1 b2 bq bx t n : Nat} {V Q X Y : Nat → Int} {q : Int} {w w2 : World} (D : Dv w0 bv b1 b2 bq bx V Q X w) (hW : Wr bx t (t + n + 1) w w2)
    (hY : ∀ i, i ≤ n → w2.cell? ⟨bx, t + i, none⟩ = some (.int .u64 (Y i))) (ht : t < 8) : Dv w0 bv b1 b2 bq bx V (put Q t q) (splice X Y t n) (w2.setCell ⟨bq, t, none⟩ (.int .u64 q)) := by
  obtain ⟨n1, n2, n3, n4, n5, n6, n7⟩ := D.ne
  obtain ⟨g1, g2, g3, g4, g5⟩ := D.ge
  have far : ∀ b o, b ≠ bq → (w2.setCell ⟨bq, t, none⟩ (.int .u64 q)).cell? ⟨b, o, none⟩ = w2.cell? ⟨b, o, none⟩ := fun b o hb => World.cell?_setCell_other _ _ _ _ (by intro e; simp at e <;> omega)
  have fr : ∀ a, (w2.setCell ⟨bq, t, none⟩ (.int .u64 q)).frozen? a = w.frozen? a := fun a => (World.frozen?_setCell _ _ _ _).trans (hW.frozen a)
  refine ⟨(D.below.trans (hW.below g5)).setCell g4 _, D.ge, D.ne, ?_, ?_, ?_, ?_, ?_, ?_, ?_, ?_, ?_, ?_, ?_⟩
  · intro k hk; rw [far _ _ n1, hW.other n2]; exact D.v k hk
  · intro k hk; rw [far _ _ n3, hW.other n4]; exact D.r1 k hk
  · intro k hk; rw [far _ _ n5, hW.other n6]; exact D.r2 k hk
  · intro k hk
    by_cases h : k = t
    · subst h; rw [put_same]; exact World.cell?_setCell_same _ _ _ ((hW.other n7).trans (D.q k hk))
    · rw [put_other _ _ _ h, World.cell?_setCell_other _ _ _ _ (by intro e; simp at e <;> omega), hW.other n7]; exact D.q k hk
  · intro k hk
    rw [far _ _ (Ne.symm n7)]
    by_cases h : t ≤ k ∧ k ≤ t + n
    · obtain ⟨j, rfl⟩ : ∃ j, k = t + j := ⟨k - t, by omega⟩
      rw [splice_in _ _ _ _ _ (by omega)]; exact hY j (by omega)
    · rw [splice_out _ _ _ _ _ (by omega), hW.cell k (by omega)]; exact D.x k hk
  · intro o; rw [fr]; exact D.fv o
  · intro o; rw [fr]; exact D.f1 o
  · intro o; rw [fr]; exact D.f2 o
  · intro o; rw [fr]; exact D.fq o
  · intro o; rw [fr]; exact D.fx o
  · have := D.sz; have := hW.size; simp [World.setCell]; omega
theorem Dv.drewN {w0 : World} {bv b1 b2 bq bx : Nat} {V Q X : Nat → Int} {w : World} (D : Dv w0 bv b1 b2 bq bx V Q X w) (n : Nat) : Dv w0 bv b1 b2 bq bx V Q X (w.drewN n) :=
  ⟨D.below.trans ⟨rfl, rfl, rfl, Nat.le_refl _, fun _ _ => rfl⟩, D.ge, D.ne, D.v, D.r1, D.r2, D.q, D.x, D.fv, D.f1, D.f2, D.fq, D.fx, D.sz⟩
end Go.Proofs.Ytmnlcpfehbpogaa.Wd
/- Walks over package word: how many bits a word has. -/
namespace Go.Proofs.Ytmnlcpfehbpogaa.Wd
open Go.RowKit
set_option linter.unusedSimpArgs false
set_option linter.unusedVariables false
theorem len_ex (y : Int) (h0 : 0 < y) (h1 : y < 18446744073709551616) : ∃ L : Nat, 1 ≤ L ∧ L ≤ 64 ∧ (∀ w, Calls Try.prog 72 #[.int .u64 y] w fun e w' => e = .returned (.int .i64 L) ∧ w' = w) ∧ Hid (2 ^ (L - 1) ≤ y ∧ y < 2 ^ L) := by
  have h : 1 ≤ Lib.bitLen y.toNat ∧ 2 ^ (Lib.bitLen y.toNat - 1) ≤ y.toNat ∧ y.toNat < 2 ^ Lib.bitLen y.toNat := Lib.bitLenAux_bounds 64 y.toNat (by omega) (by omega)
  have hle : Lib.bitLen y.toNat ≤ 64 := Lib.bitLen_le y.toNat 64 (Nat.le_refl _) (by omega)
  have hc := Try.bits_Len64 y
  generalize Lib.bitLen y.toNat = L at *
  refine ⟨L, h.1, hle, fun w => hc w (by omega) (by omega), ?_⟩
  have e : ∀ k : Nat, (2 : Int) ^ k = ((2 ^ k : Nat) : Int) := fun k => by simp
  show _ ∧ _
  rw [e, e]
  omega
set_option maxHeartbeats 1000000 in
theorem bitLen_0 (a0 : Int) (ha : L4 a0 0 0 0) (h : a0 ≠ 0) (w : World) :
    Calls Try.prog 69 #[W4 a0 0 0 0] w fun e w' => ∃ n : Nat, e = .returned (.int .i64 n) ∧ n ≤ 256 ∧ Hid (num a0 0 0 0 < 2 ^ n ∧ (n = 0 ∨ 2 ^ (n - 1) ≤ num a0 0 0 0)) ∧ Below w.heap.size w w' := by
  have hl : Limb a0 := ha.1
  obtain ⟨hl0, hl1⟩ := hl
  obtain ⟨L, hL0, hL1, HL, HE⟩ := len_ex a0 (by omega) hl1
  have HL : Hid _ := HL
  have hu : usedN a0 0 0 0 = 1 := by unfold usedN; simp [h]
  have HU : Hid (∀ w, Calls Try.prog 71 #[W4 a0 0 0 0] w fun e w' => e = .returned (.int .i64 1) ∧ ∃ c, w' = w.alloc (.cells c 50)) := fun w => by
    have := used_any a0 0 0 0 w
    rw [hu] at this; exact this
  have HN : Hid (num a0 0 0 0 < 2 ^ (0 + L) ∧ (0 + L = 0 ∨ 2 ^ (0 + L - 1) ≤ num a0 0 0 0)) := by
    obtain ⟨h1, h2⟩ := HE.out
    obtain ⟨⟨_, _⟩, ⟨_, _⟩, ⟨_, _⟩, ⟨_, _⟩⟩ := ha
    have e1 : (2 : Int) ^ (0 + L) = 1 * 2 ^ L := by rw [Int.pow_add]; rfl
    have e2 : (2 : Int) ^ (0 + L - 1) = 1 * 2 ^ (L - 1) := by rw [show 0 + L - 1 = 0 + (L - 1) from by omega, Int.pow_add]; rfl
    show _ ∧ _
    rw [e1, e2]
    unfold num
    exact ⟨by omega, Or.inr (by omega)⟩
  clear HE ha hu h
  unfold W4 at *
  go_enter Try.func69, Try.ntmps69
  go_wp2_with fail
  refine Calls.mono (HU.out _) ?_
  rintro e w1 ⟨rfl, c, rfl⟩
  go_wp2_with (first | (go_at_call 72; go_must (refine Calls.mono (HL.out _) ?_; rintro e w' ⟨rfl, rfl⟩)))
  go_ret
  exact ⟨0 + L, by first | rfl | go_num | (simp; done), by omega, HN, by go_grown⟩
set_option maxHeartbeats 1000000 in
theorem bitLen_1 (a0 a1 : Int) (ha : L4 a0 a1 0 0) (h : a1 ≠ 0) (w : World) :
    Calls Try.prog 69 #[W4 a0 a1 0 0] w fun e w' => ∃ n : Nat, e = .returned (.int .i64 n) ∧ n ≤ 256 ∧ Hid (num a0 a1 0 0 < 2 ^ n ∧ (n = 0 ∨ 2 ^ (n - 1) ≤ num a0 a1 0 0)) ∧ Below w.heap.size w w' := by
  have hl : Limb a1 := ha.2.1
  obtain ⟨hl0, hl1⟩ := hl
  obtain ⟨L, hL0, hL1, HL, HE⟩ := len_ex a1 (by omega) hl1
  have HL : Hid _ := HL
  have hu : usedN a0 a1 0 0 = 2 := by unfold usedN; simp [h]
  have HU : Hid (∀ w, Calls Try.prog 71 #[W4 a0 a1 0 0] w fun e w' => e = .returned (.int .i64 2) ∧ ∃ c, w' = w.alloc (.cells c 50)) := fun w => by
    have := used_any a0 a1 0 0 w
    rw [hu] at this; exact this
  have HN : Hid (num a0 a1 0 0 < 2 ^ (64 + L) ∧ (64 + L = 0 ∨ 2 ^ (64 + L - 1) ≤ num a0 a1 0 0)) := by
    obtain ⟨h1, h2⟩ := HE.out
    obtain ⟨⟨_, _⟩, ⟨_, _⟩, ⟨_, _⟩, ⟨_, _⟩⟩ := ha
    have e1 : (2 : Int) ^ (64 + L) = 18446744073709551616 * 2 ^ L := by rw [Int.pow_add]; rfl
    have e2 : (2 : Int) ^ (64 + L - 1) = 18446744073709551616 * 2 ^ (L - 1) := by rw [show 64 + L - 1 = 64 + (L - 1) from by omega, Int.pow_add]; rfl
    show _ ∧ _
    rw [e1, e2]
    unfold num
    exact ⟨by omega, Or.inr (by omega)⟩
  clear HE ha hu h
  unfold W4 at *
  go_enter Try.func69, Try.ntmps69
  go_wp2_with fail
  refine Calls.mono (HU.out _) ?_
  rintro e w1 ⟨rfl, c, rfl⟩
  go_wp2_with (first | (go_at_call 72; go_must (refine Calls.mono (HL.out _) ?_; rintro e w' ⟨rfl, rfl⟩)))
  go_ret
  exact ⟨64 + L, by first | rfl | go_num | (simp; done), by omega, HN, by go_grown⟩
set_option maxHeartbeats 1000000 in
theorem bitLen_2 (a0 a1 a2 : Int) (ha : L4 a0 a1 a2 0) (h : a2 ≠ 0) (w : World) :
    Calls Try.prog 69 #[W4 a0 a1 a2 0] w fun e w' => ∃ n : Nat, e = .returned (.int .i64 n) ∧ n ≤ 256 ∧ Hid (num a0 a1 a2 0 < 2 ^ n ∧ (n = 0 ∨ 2 ^ (n - 1) ≤ num a0 a1 a2 0)) ∧ Below w.heap.size w w' := by
  have hl : Limb a2 := ha.2.2.1
  obtain ⟨hl0, hl1⟩ := hl
  obtain ⟨L, hL0, hL1, HL, HE⟩ := len_ex a2 (by omega) hl1
  have HL : Hid _ := HL
  have hu : usedN a0 a1 a2 0 = 3 := by unfold usedN; simp [h]
  have HU : Hid (∀ w, Calls Try.prog 71 #[W4 a0 a1 a2 0] w fun e w' => e = .returned (.int .i64 3) ∧ ∃ c, w' = w.alloc (.cells c 50)) := fun w => by
    have := used_any a0 a1 a2 0 w
    rw [hu] at this; exact this
  have HN : Hid (num a0 a1 a2 0 < 2 ^ (128 + L) ∧ (128 + L = 0 ∨ 2 ^ (128 + L - 1) ≤ num a0 a1 a2 0)) := by
    obtain ⟨h1, h2⟩ := HE.out
    obtain ⟨⟨_, _⟩, ⟨_, _⟩, ⟨_, _⟩, ⟨_, _⟩⟩ := ha
    have e1 : (2 : Int) ^ (128 + L) = 340282366920938463463374607431768211456 * 2 ^ L := by rw [Int.pow_add]; rfl
    have e2 : (2 : Int) ^ (128 + L - 1) = 340282366920938463463374607431768211456 * 2 ^ (L - 1) := by rw [show 128 + L - 1 = 128 + (L - 1) from by omega, Int.pow_add]; rfl
    show _ ∧ _
    rw [e1, e2]
    unfold num
    exact ⟨by omega, Or.inr (by omega)⟩
  clear HE ha hu h
  unfold W4 at *
  go_enter Try.func69, Try.ntmps69
  go_wp2_with fail
  refine Calls.mono (HU.out _) ?_
  rintro e w1 ⟨rfl, c, rfl⟩
  go_wp2_with (first | (go_at_call 72; go_must (refine Calls.mono (HL.out _) ?_; rintro e w' ⟨rfl, rfl⟩)))
  go_ret
  exact ⟨128 + L, by first | rfl | go_num | (simp; done), by omega, HN, by go_grown⟩
set_option maxHeartbeats 1000000 in
theorem bitLen_3 (a0 a1 a2 a3 : Int) (ha : L4 a0 a1 a2 a3) (h : a3 ≠ 0) (w : World) :
    Calls Try.prog 69 #[W4 a0 a1 a2 a3] w fun e w' => ∃ n : Nat, e = .returned (.int .i64 n) ∧ n ≤ 256 ∧ Hid (num a0 a1 a2 a3 < 2 ^ n ∧ (n = 0 ∨ 2 ^ (n - 1) ≤ num a0 a1 a2 a3)) ∧ Below w.heap.size w w' := by
  have hl : Limb a3 := ha.2.2.2
  obtain ⟨hl0, hl1⟩ := hl
  obtain ⟨L, hL0, hL1, HL, HE⟩ := len_ex a3 (by omega) hl1
  have HL : Hid _ := HL
  have hu : usedN a0 a1 a2 a3 = 4 := by unfold usedN; simp [h]
  have HU : Hid (∀ w, Calls Try.prog 71 #[W4 a0 a1 a2 a3] w fun e w' => e = .returned (.int .i64 4) ∧ ∃ c, w' = w.alloc (.cells c 50)) := fun w => by
    have := used_any a0 a1 a2 a3 w
    rw [hu] at this; exact this
  have HN : Hid (num a0 a1 a2 a3 < 2 ^ (192 + L) ∧ (192 + L = 0 ∨ 2 ^ (192 + L - 1) ≤ num a0 a1 a2 a3)) := by
    obtain ⟨h1, h2⟩ := HE.out
    obtain ⟨⟨_, _⟩, ⟨_, _⟩, ⟨_, _⟩, ⟨_, _⟩⟩ := ha
    have e1 : (2 : Int) ^ (192 + L) = 6277101735386680763835789423207666416102355444464034512896 * 2 ^ L := by rw [Int.pow_add]; rfl
    have e2 : (2 : Int) ^ (192 + L - 1) = 6277101735386680763835789423207666416102355444464034512896 * 2 ^ (L - 1) := by rw [show 192 + L - 1 = 192 + (L - 1) from by omega, Int.pow_add]; rfl
    show _ ∧ _
    rw [e1, e2]
    unfold num
    exact ⟨by omega, Or.inr (by omega)⟩
  clear HE ha hu h
  unfold W4 at *
  go_enter Try.func69, Try.ntmps69
  go_wp2_with fail
  refine Calls.mono (HU.out _) ?_
  rintro e w1 ⟨rfl, c, rfl⟩
  go_wp2_with (first | (go_at_call 72; go_must (refine Calls.mono (HL.out _) ?_; rintro e w' ⟨rfl, rfl⟩)))
  go_ret
  exact ⟨192 + L, by first | rfl | go_num | (simp; done), by omega, HN, by go_grown⟩
set_option maxHeartbeats 1000000 in
theorem bitLen_none (w : World) :
    Calls Try.prog 69 #[W4 0 0 0 0] w fun e w' => e = .returned (.int .i64 0) ∧ Below w.heap.size w w' := by
  have HU : Hid (∀ w, Calls Try.prog 71 #[W4 0 0 0 0] w fun e w' => e = .returned (.int .i64 0) ∧ ∃ c, w' = w.alloc (.cells c 50)) := fun w => used_any 0 0 0 0 w
  unfold W4 at *
  go_enter Try.func69, Try.ntmps69
  go_wp2_with fail
  refine Calls.mono (HU.out _) ?_
  rintro e w1 ⟨rfl, c, rfl⟩
  go_wp2
  go_ret
  exact ⟨rfl, by go_grown⟩
/-- word.bitLen -/
theorem bitLen_any (a0 a1 a2 a3 : Int) (ha : L4 a0 a1 a2 a3) (w : World) :
    Calls Try.prog 69 #[W4 a0 a1 a2 a3] w fun e w' => ∃ n : Nat, e = .returned (.int .i64 n) ∧ n ≤ 256 ∧ Hid (num a0 a1 a2 a3 < 2 ^ n ∧ (n = 0 ∨ 2 ^ (n - 1) ≤ num a0 a1 a2 a3)) ∧ Below w.heap.size w w' := by
  by_cases h3 : a3 = 0
  · subst h3
    by_cases h2 : a2 = 0
    · subst h2
      by_cases h1 : a1 = 0
      · subst h1
        by_cases h0 : a0 = 0
        · subst h0
          exact (bitLen_none w).mono fun e w' ⟨he, hw⟩ => ⟨0, he, by omega, ⟨by decide, Or.inl rfl⟩, hw⟩
        · exact bitLen_0 a0 ha h0 w
      · exact bitLen_1 a0 a1 ha h1 w
    · exact bitLen_2 a0 a1 a2 ha h2 w
  · exact bitLen_3 a0 a1 a2 a3 ha h3 w
end Go.Proofs.Ytmnlcpfehbpogaa.Wd
/- Walks over package word: powers. -/
namespace Go.Proofs.Ytmnlcpfehbpogaa.Wd
open Go.RowKit
set_option linter.unusedSimpArgs false
set_option linter.unusedVariables false
/-- A block of four limbs that may be written. -/
def Blk (w : World) (b : Nat) (x0 x1 x2 x3 : Int) : Prop := b < w.heap.size ∧ w.cell? ⟨b, 0, none⟩ = some (.int .u64 x0) ∧ w.cell? ⟨b, 1, none⟩ = some (.int .u64 x1) ∧ w.cell? ⟨b, 2, none⟩ = some (.int .u64 x2) ∧ w.cell? ⟨b, 3, none⟩ = some (.int .u64 x3) ∧ ∀ k, w.frozen? ⟨b, k, none⟩ = false
theorem Blk.below {w w1 : World} {b : Nat} {x0 x1 x2 x3 : Int} (h : Blk w b x0 x1 x2 x3) (hb : Below w.heap.size w w1) : Blk w1 b x0 x1 x2 x3 := by
  obtain ⟨hz, c0, c1, c2, c3, f⟩ := h
  exact ⟨Nat.lt_of_lt_of_le hz hb.size, (hb.cell (p := ⟨b, 0, none⟩) hz).trans c0, (hb.cell (p := ⟨b, 1, none⟩) hz).trans c1, (hb.cell (p := ⟨b, 2, none⟩) hz).trans c2, (hb.cell (p := ⟨b, 3, none⟩) hz).trans c3, fun k => (hb.frozen (p := ⟨b, k, none⟩) hz).trans (f k)⟩
theorem frozen_set {w : World} {a b : Addr} {v : Value} (h : w.frozen? b = false) : (w.setCell a v).frozen? b = false := by
  simpa [go_sem] using h
theorem size_set {w : World} {a : Addr} {v : Value} : (w.setCell a v).heap.size = w.heap.size := by simp [World.setCell]
theorem Blk.put_same {w : World} {c : Nat} {x0 x1 x2 x3 q0 q1 q2 q3 : Int} (h : Blk w c x0 x1 x2 x3) : Blk ((((w.setCell ⟨c, 0, none⟩ (.int .u64 q0)).setCell ⟨c, 1, none⟩ (.int .u64 q1)).setCell ⟨c, 2, none⟩ (.int .u64 q2)).setCell ⟨c, 3, none⟩ (.int .u64 q3)) c q0 q1 q2 q3 := by
  obtain ⟨hz, c0, c1, c2, c3, f⟩ := h
  refine ⟨by rw [size_set, size_set, size_set, size_set]; exact hz, ?_, ?_, ?_, ?_, fun k => frozen_set (frozen_set (frozen_set (frozen_set (f k))))⟩ <;> simp [go_sem, *]
end Go.Proofs.Ytmnlcpfehbpogaa.Wd
/- Walks over bits: one by one, and the document's small numbers and bytes. -/
namespace Go.Proofs.Ytmnlcpfehbpogaa.Wd
open Go.RowKit
set_option linter.unusedSimpArgs false
set_option linter.unusedVariables false
theorem digit_eq (d : List Int) (Bd : Byt d) (t : Nat) : d.getD t 0 = valB d / 256 ^ t % 256 := by
  have h1 := valB_split d t
  have h2 := drop_step d t
  have h3 := valB_bd (d.take t) (Bd.take t)
  have h4 : (256 : Int) ^ (d.take t).length ≤ 256 ^ t := Int.pow_le_pow_of_le_right' (by simp; omega)
  have hP : (0 : Int) < 256 ^ t := Int.pow_pos (by decide)
  have h5 := Bd t
  rw [h1, Int.add_mul_ediv_left _ _ (by omega), Int.ediv_eq_zero_of_lt h3.1 (by omega), h2]
  omega
theorem Try.info5 : (Try.prog.info? 5).map (fun i => (i.zero, i.size, i.bytes)) = some (some (.int .u8 0), 1, 1) := by kernel_rfl
/-- The byte number j of 32, the highest first, of a list of digits, the lowest first, that is laid up to k. -/
def laid (d : List Int) (k : Nat) (j : Nat) : Value := .int .u8 (if 31 - j < k then d.getD (31 - j) 0 else 0)
set_option maxHeartbeats 4000000 in
/-- conclaveref01.Bytes -/
theorem bytesref_any (a0 a1 a2 a3 : Int) (ha : L4 a0 a1 a2 a3) (w : World) :
    Calls Try.prog 63 #[W4 a0 a1 a2 a3] w fun e w' => ∃ b, e = .returned (.slice (some ⟨b, 0, none⟩) 32 32) ∧ w.heap.size ≤ b ∧ w'.rowIs b 5 32 (fun j => .int .u8 (num a0 a1 a2 a3 / 256 ^ (31 - j) % 256)) ∧ Below w.heap.size w w' := by
  have HA : Hid _ := ha
  clear ha
  have hmk : ∀ w : World, (Instr.makeSlice 22 (.int .i64 32) (.int .i64 32)).run Try.prog w = .ok (.slice (some ⟨w.heap.size, 0, none⟩) 32 32) (w.alloc (.cells (madeCells #[.int .u8 0] 32) 5)) := run_make_row' (P := Try.prog) 22 5 (.int .u8 0) 1 Try.underlying22 Try.info5 rfl .i64 .i64 32 (by omega) (by omega)
  unfold W4
  go_enter Try.func63, Try.ntmps63
  go_wp2_with fail
  have hB : Below w.heap.size w (w.alloc (.cells #[.int .u64 a0, .int .u64 a1, .int .u64 a2, .int .u64 a3] 50)) := by go_grown
  generalize (w.alloc (.cells #[.int .u64 a0, .int .u64 a1, .int .u64 a2, .int .u64 a3] 50)) = w0 at *
  refine (of_st a0 a1 a2 a3 HA.out _).mono ?_
  rintro e w1 ⟨v1, d, rfl, N1, P1, hw1⟩
  have hB : Below w.heap.size w w1 := hB.trans (hw1.mono hB.size)
  have hs1 := hB.size
  clear hw1
  have hl : d.length ≤ 32 := P1.out.2.1
  have HBd : Hid (Byt d) := P1.out.1
  obtain ⟨aa, ca, rfl, hca, hN⟩ := N1
  have HC : Hid _ := cells_le hN
  clear hN
  go_wp2
  have hrow : (w1.alloc (.cells (madeCells #[.int .u8 0] 32) 5)).rowIs w1.heap.size 5 32 (laid d 0) := World.rowIs.congr (World.rowIs_made w1 (.int .u8 0) 32 5) (fun i hi => by unfold laid; rw [if_neg (by omega)])
  have hB2 : Below w1.heap.size w1 (w1.alloc (.cells (madeCells #[.int .u8 0] 32) 5)) := by go_grown
  clear hmk
  generalize (w1.alloc (.cells (madeCells #[.int .u8 0] 32) 5)) = w2 at *
  go_loopw [5] (fun i wr => ∃ (k : Nat), k ≤ d.length ∧ i = .int .i64 k ∧ wr.rowIs w1.heap.size 5 32 (laid d k) ∧ Below w1.heap.size w1 wr) (fun i _ => 32 - (intOf i).toNat)
  case atStart => exact ⟨0, by omega, rfl, hrow, hB2⟩
  case round =>
    obtain ⟨k, hk, rfl, hrow, hbw⟩ := hrel
    by_cases hlt : k < d.length
    · obtain ⟨b, o, rfl, hb, hcell⟩ := HC.out k hlt
      have hx := HBd.out k
      have hc1 := (hbw.cell (p := ⟨b, o + k, none⟩) hb).trans hcell
      have hc2 := World.rowIs.cell hrow (i := 31 - k) (by omega)
      have hfz := World.rowIs.frozen hrow (31 - k)
      obtain ⟨old, hold⟩ : ∃ old, laid d k (31 - k) = .int .u8 old := ⟨_, rfl⟩
      rw [hold] at hc2
      have hrow2 : Hid ((wr.setCell ⟨w1.heap.size, 31 - k, none⟩ (.int .u8 (d.getD k 0))).rowIs w1.heap.size 5 32 (laid d (k + 1))) := World.rowIs.congr (World.rowIs.set hrow (31 - k) (.int .u8 (d.getD k 0))) (fun i hi => by
        by_cases e : i = 31 - k
        · rw [if_pos e]; unfold laid; rw [if_pos (by omega), show 31 - i = k from by omega]
        · rw [if_neg e]; unfold laid
          by_cases h : 31 - i < k
          · rw [if_pos h, if_pos (by omega)]
          · rw [if_neg h, if_neg (by omega)])
      generalize d.getD k 0 = x at *
      obtain ⟨hx0, hx1⟩ := hx
      have hwx : IntKind.u8.wrap x = x := by rw [IntKind.wrap_u8]; omega
      have e31 : (31 - (k : Int)).toNat = 31 - k := by omega
      clear hold hrow
      go_wp2
      exact ⟨⟨k + 1, by omega, by go_num, hrow2.out, by go_grown⟩, by simp [intOf]; omega⟩
    · have hkl : k = d.length := by omega
      have hrow3 : Hid (wr.rowIs w1.heap.size 5 32 (fun j => .int .u8 (num a0 a1 a2 a3 / 256 ^ (31 - j) % 256))) := World.rowIs.congr hrow (fun i hi => by
        unfold laid
        rw [← P1.out.2.2, ← digit_eq d HBd.out]
        by_cases h : 31 - i < k
        · rw [if_pos h]
        · rw [if_neg h]; simp [List.getD, List.getElem?_eq_none (show d.length ≤ 31 - i by omega)])
      subst hkl
      clear hrow
      go_wp2
      go_ret
      exact ⟨w1.heap.size, rfl, hs1, hrow3.out, hB.trans (hbw.mono hs1)⟩
end Go.Proofs.Ytmnlcpfehbpogaa.Wd
