/- The document's quotients, bit by bit: plain arithmetic. -/
import Derived.Test.YtmflilgppllebaaR7
import Derived.Test.YtmflilgppllebaaR1
namespace Go.Proofs.Ytmflilgppllebaa
open Go.RowKit
set_option linter.unusedSimpArgs false
set_option maxRecDepth 20000
set_option linter.unusedVariables false
theorem i64_and1 (n : Int) : bits .and .i64 n 1 = n % 2 := by
  have h1 : (BitVec.ofInt 64 1).toNat = 2 ^ 1 - 1 := by decide
  have key : (BitVec.ofInt 64 n &&& BitVec.ofInt 64 1).toNat = (n % ((2 ^ 64 : Nat) : Int)).toNat % 2 ^ 1 := by
    rw [BitVec.toNat_and, BitVec.toNat_ofInt, h1, Nat.and_two_pow_sub_one_eq_mod]
  show IntKind.i64.wrap ((BitVec.ofInt 64 n &&& BitVec.ofInt 64 1).toNat : Nat) = n % 2
  rw [key, IntKind.wrap_i64]
  omega
theorem or_bit8 : ∀ x : Fin 256, ∀ r : Fin 8, x.val % 2 ^ (r.val + 1) = 0 → bits .or .i64 (x.val : Int) (2 ^ r.val) = (x.val : Int) + 2 ^ r.val := by decide +kernel
theorem or_bit (x : Int) (r : Nat) (h0 : 0 ≤ x) (h1 : x < 256) (hr : r < 8) (h : x % 2 ^ (r + 1) = 0) : bits .or .i64 x (2 ^ r) = x + 2 ^ r ∧ 0 ≤ x + 2 ^ r ∧ x + 2 ^ r < 256 := by
  obtain ⟨x, rfl⟩ := Int.eq_ofNat_of_zero_le h0
  have hx : x % 2 ^ (r + 1) = 0 := by
    have e : ((x % 2 ^ (r + 1) : Nat) : Int) = 0 := by rw [← h]; simp
    omega
  refine ⟨or_bit8 ⟨x, by omega⟩ ⟨r, hr⟩ hx, ?_⟩
  clear h
  rcases (by omega : r = 0 ∨ r = 1 ∨ r = 2 ∨ r = 3 ∨ r = 4 ∨ r = 5 ∨ r = 6 ∨ r = 7) with rfl | rfl | rfl | rfl | rfl | rfl | rfl | rfl <;> simp at hx ⊢ <;> omega
theorem drop_step : ∀ (d : List Int) (m : Nat), valB (d.drop m) = d.getD m 0 + 256 * valB (d.drop (m + 1))
  | [], m => by simp [valB]
  | x :: r, 0 => by simp [valB]
  | x :: r, m + 1 => by rw [List.drop_succ_cons, List.drop_succ_cons, getD_cons_succ']; exact drop_step r m
theorem pow256 (m : Nat) : (256 : Int) ^ m = 2 ^ (8 * m) := by rw [Int.pow_mul]; rfl
/-- A bit of a number, out of its digits. -/
theorem bit_valB (a : List Int) (Ba : Byt a) (m r : Nat) (hr : r < 8) : a.getD m 0 / 2 ^ r % 2 = valB a / 2 ^ (8 * m + r) % 2 := by
  have h1 := valB_split a m
  have h2 := drop_step a m
  have h3 := valB_bd (a.take m) (Ba.take m)
  have h4 : (256 : Int) ^ (a.take m).length ≤ 256 ^ m := Int.pow_le_pow_of_le_right' (by simp; omega)
  have hP : (0 : Int) < 256 ^ m := Int.pow_pos (by decide)
  have e : valB a / 256 ^ m = a.getD m 0 + 256 * valB (a.drop (m + 1)) := by
    rw [h1, Int.add_mul_ediv_left _ _ (by omega), Int.ediv_eq_zero_of_lt h3.1 (by omega), h2]; omega
  rw [Int.pow_add, ← pow256, ← Int.ediv_ediv_of_nonneg (by omega), e]
  generalize a.getD m 0 = x
  generalize valB (a.drop (m + 1)) = y
  rcases (by omega : r = 0 ∨ r = 1 ∨ r = 2 ∨ r = 3 ∨ r = 4 ∨ r = 5 ∨ r = 6 ∨ r = 7) with rfl | rfl | rfl | rfl | rfl | rfl | rfl | rfl <;> simp <;> omega
/-- The digit where the next bit goes has none below. -/
theorem digit_div (q : List Int) (Bq : Byt q) (m r : Nat) (Q : Int) (hr : r < 8) (h : valB q = 2 ^ (8 * m + r + 1) * Q) : q.getD m 0 % 2 ^ (r + 1) = 0 := by
  have h1 := valB_split q m
  have h2 := drop_step q m
  have h3 := valB_bd (q.take m) (Bq.take m)
  have h4 : (256 : Int) ^ (q.take m).length ≤ 256 ^ m := Int.pow_le_pow_of_le_right' (by simp; omega)
  have hP : (0 : Int) < 256 ^ m := Int.pow_pos (by decide)
  have e0 : valB q = 256 ^ m * (2 ^ (r + 1) * Q) := by rw [h, show 8 * m + r + 1 = 8 * m + (r + 1) from rfl, Int.pow_add, ← pow256, Int.mul_assoc]
  have e1 : valB q / 256 ^ m = q.getD m 0 + 256 * valB (q.drop (m + 1)) := by
    rw [h1, Int.add_mul_ediv_left _ _ (by omega), Int.ediv_eq_zero_of_lt h3.1 (by omega), h2]; omega
  rw [e0, Int.mul_ediv_cancel_left _ (by omega)] at e1
  generalize q.getD m 0 = x at *
  generalize valB (q.drop (m + 1)) = y at *
  clear h h1 h2 h3 h4 hP e0
  rcases (by omega : r = 0 ∨ r = 1 ∨ r = 2 ∨ r = 3 ∨ r = 4 ∨ r = 5 ∨ r = 6 ∨ r = 7) with rfl | rfl | rfl | rfl | rfl | rfl | rfl | rfl <;> simp at e1 ⊢ <;> omega
/-- What holds of quotient and rest, k bits ahead of the end. -/
def QInv (A B : Int) (k : Nat) (q r : List Int) : Prop := ∃ Q, valB q = 2 ^ k * Q ∧ A / 2 ^ k = Q * B + valB r ∧ 0 ≤ valB r ∧ valB r < B
theorem half_step (A : Int) (i : Nat) : A / 2 ^ i = 2 * (A / 2 ^ (i + 1)) + A / 2 ^ i % 2 := by
  have hP : (0 : Int) ≤ 2 ^ i := Int.le_of_lt (Int.pow_pos (by decide))
  rw [Int.pow_succ, ← Int.ediv_ediv_of_nonneg hP]; omega
theorem quo_skip {A B : Int} {i : Nat} {q r r' : List Int} (h : QInv A B (i + 1) q r) (hr : valB r' = 2 * valB r + A / 2 ^ i % 2) (hlt : valB r' < B) : QInv A B i q r' := by
  obtain ⟨Q, h1, h2, h3, h4⟩ := h
  refine ⟨2 * Q, by rw [h1, Int.pow_succ, Int.mul_assoc], ?_, by omega, hlt⟩
  have := half_step A i
  rw [Int.mul_assoc]
  omega
theorem quo_take {A B : Int} {i : Nat} {q q' r r' r2 : List Int} (h : QInv A B (i + 1) q r) (hr : valB r' = 2 * valB r + A / 2 ^ i % 2) (hle : B ≤ valB r') (hr2 : valB r2 = valB r' - B) (hq : valB q' = valB q + 2 ^ i) : QInv A B i q' r2 := by
  obtain ⟨Q, h1, h2, h3, h4⟩ := h
  refine ⟨2 * Q + 1, by rw [hq, h1, Int.pow_succ, Int.mul_assoc, Int.mul_add, Int.mul_one], ?_, by omega, by omega⟩
  have := half_step A i
  rw [Int.add_mul, Int.mul_assoc, Int.one_mul]
  omega
theorem quo_end {A B : Int} {q r : List Int} (h : QInv A B 0 q r) : valB q = A / B ∧ valB r = A % B := by
  obtain ⟨Q, h1, h2, h3, h4⟩ := h
  simp at h1 h2
  rw [h2, h1]
  refine ⟨?_, ?_⟩
  · rw [Int.add_comm, Int.add_mul_ediv_right _ _ (by omega), Int.ediv_eq_zero_of_lt h3 h4]; omega
  · rw [Int.add_comm, Int.add_mul_emod_self_right]; exact (Int.emod_eq_of_lt h3 h4).symm
theorem quo_start (a : List Int) (Ba : Byt a) (B : Int) (hB : 0 < B) (n m : Nat) : QInv (valB a) B (8 * a.length) (List.replicate n 0) (List.replicate m 0) := by
  have h := valB_bd a Ba
  rw [pow256] at h
  exact ⟨0, by rw [valB_rep0]; omega, by rw [valB_rep0, Int.ediv_eq_zero_of_lt h.1 h.2]; omega, by rw [valB_rep0]; omega, by rw [valB_rep0]; exact hB⟩
/-- One digit of a list that is walked over: c goes along. -/
theorem row_step (D P c c' x z V : Int) (hc : c' = c + x + z) (he : D + P * c = V) : D + P * (c' % 256 - x) + P * 256 * (c' / 256) = V + P * z := by
  have h1 : P * (c' % 256 - x) + P * 256 * (c' / 256) = P * (c' - x) := by
    rw [Int.mul_assoc, ← Int.mul_add]; congr 1; omega
  have h2 : P * (c' - x) = P * c + P * z := by rw [← Int.mul_add]; congr 1; omega
  omega
theorem RowD.far {w : World} {b : Nat} {d : List Int} (h : RowD w b d) {c : Nat} (e : b ≠ c) (j : Nat) (v : Value) : RowD (w.setCell ⟨c, j, none⟩ v) b d := World.rowIs.setOther h (a := ⟨c, j, none⟩) e v
theorem RowD.onto {w : World} {b : Nat} {d : List Int} (h : RowD w b d) (o : Obj) : RowD (w.alloc o) b d := World.rowIs.alloc h o
theorem below_set0 {w wr : World} (h : Below w.heap.size w wr) {c : Nat} (hc : w.heap.size ≤ c) (j : Nat) (v : Value) : Below w.heap.size w (wr.setCell ⟨c, j, none⟩ v) := by
  go_grown
theorem below_set {w wr : World} (h : Below w.heap.size w wr) (n : Nat) {c : Nat} (hc : w.heap.size ≤ c) (j : Nat) (v : Value) : Below w.heap.size w ((wr.drewN n).setCell ⟨c, j, none⟩ v) :=
  below_set0 (below_drew h n) hc j v
theorem double_end {D R c c0 B : Int} {n lb : Nat} (hn : n = lb + 1) (he : D + 256 ^ n * c = R + R + c0) (hD : 0 ≤ D ∧ D < 256 ^ n) (hc : 0 ≤ c) (h0 : 0 ≤ c0) (h1 : c0 ≤ 1) (hR : R < B) (hB : B ≤ 256 ^ lb) : D = 2 * R + c0 := by
  have hP : (0 : Int) < 256 ^ lb := Int.pow_pos (by decide)
  have e : (256 : Int) ^ n = 256 ^ lb * 256 := by rw [hn, Int.pow_succ]
  rcases (by omega : c = 0 ∨ 1 ≤ c) with h | h
  · rw [h] at he; omega
  · have : (256 : Int) ^ n * 1 ≤ 256 ^ n * c := Int.mul_le_mul_of_nonneg_left h (by omega)
    omega
theorem less_end {D V c : Int} {n : Nat} (he : D + 256 ^ n * c = V) (hD : 0 ≤ D ∧ D < 256 ^ n) (h0 : -1 ≤ c) (h1 : c ≤ 0) (hV : 0 ≤ V) : D = V := by
  rcases (by omega : c = 0 ∨ c = -1) with rfl | rfl <;> omega
end Go.Proofs.Ytmflilgppllebaa
