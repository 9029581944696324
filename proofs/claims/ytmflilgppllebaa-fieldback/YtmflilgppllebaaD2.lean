/- Walks over package word: the inner steps of long division. -/
import Derived.Test.YtmflilgppllebaaD1
namespace Go.Proofs.Ytmflilgppllebaa
open Go.RowKit
set_option linter.unusedSimpArgs false
set_option linter.unusedVariables false

/-- Only the cells of block b from lo on and below hi have turned. -/
structure Wr (b lo hi : Nat) (w w' : World) : Prop where
  os : w'.os = w.os
  tape : w'.tape = w.tape
  output : w'.output = w.output
  size : w'.heap.size = w.heap.size
  block : ∀ k, k ≠ b → w'.heap[k]? = w.heap[k]?
  cell : ∀ o, o < lo ∨ hi ≤ o → w'.cell? ⟨b, o, none⟩ = w.cell? ⟨b, o, none⟩
  frozen : ∀ a, w'.frozen? a = w.frozen? a
theorem Wr.refl (b lo hi : Nat) (w : World) : Wr b lo hi w w := ⟨rfl, rfl, rfl, rfl, fun _ _ => rfl, fun _ _ => rfl, fun _ => rfl⟩
theorem Wr.trans {b lo hi : Nat} {u v w : World} (h : Wr b lo hi u v) (k : Wr b lo hi v w) : Wr b lo hi u w :=
  ⟨k.os.trans h.os, k.tape.trans h.tape, k.output.trans h.output, k.size.trans h.size, fun i hi => (k.block i hi).trans (h.block i hi), fun o ho => (k.cell o ho).trans (h.cell o ho), fun a => (k.frozen a).trans (h.frozen a)⟩
theorem Wr.setCell {b lo hi : Nat} {u w : World} (h : Wr b lo hi u w) (o : Nat) (h1 : lo ≤ o) (h2 : o < hi) (v : Value) : Wr b lo hi u (w.setCell ⟨b, o, none⟩ v) :=
  h.trans ⟨rfl, rfl, rfl, by simp [World.setCell], fun k hk => Below.heap_setCell _ _ _ _ hk, fun p hp => World.cell?_setCell_other _ _ _ _ (by intro e; simp at e <;> omega), fun a => World.frozen?_setCell _ _ _ _⟩
theorem Wr.drew {b lo hi : Nat} {u w : World} (h : Wr b lo hi u w) : Wr b lo hi u w.drew := h.trans ⟨rfl, rfl, rfl, rfl, fun _ _ => rfl, fun _ _ => rfl, fun _ => rfl⟩
theorem Wr.drewN {b lo hi : Nat} {u w : World} (h : Wr b lo hi u w) (n : Nat) : Wr b lo hi u (w.drewN n) := h.trans ⟨rfl, rfl, rfl, rfl, fun _ _ => rfl, fun _ _ => rfl, fun _ => rfl⟩
theorem Wr.other {b lo hi : Nat} {u w : World} (h : Wr b lo hi u w) {c o : Nat} (hc : c ≠ b) : w.cell? ⟨c, o, none⟩ = u.cell? ⟨c, o, none⟩ := World.cell?_of_block (w := u) (h.block c hc)

/-- The number of the first k limbs. -/
def val (X : Nat → Int) : Nat → Int
  | 0 => 0
  | k + 1 => val X k + 18446744073709551616 ^ k * X k
theorem val_congr {X Y : Nat → Int} : ∀ {k : Nat}, (∀ i, i < k → X i = Y i) → val X k = val Y k
  | 0, _ => rfl
  | k + 1, h => by rw [val, val, val_congr (fun i hi => h i (by omega)), h k (by omega)]
/-- One limb is another one. -/
def put (X : Nat → Int) (k : Nat) (x : Int) : Nat → Int := fun i => if i = k then x else X i
theorem put_same (X : Nat → Int) (k : Nat) (x : Int) : put X k x k = x := by simp [put]
theorem put_other (X : Nat → Int) (k : Nat) (x : Int) {i : Nat} (h : i ≠ k) : put X k x i = X i := by simp [put, h]
theorem val_put (X : Nat → Int) (k : Nat) (x : Int) : val (put X k x) k = val X k := val_congr (fun i hi => put_other _ _ _ (by omega))
theorem pow_succ' (k : Nat) : (18446744073709551616 : Int) ^ (k + 1) = 18446744073709551616 * 18446744073709551616 ^ k := by rw [Int.pow_succ, Int.mul_comm]

theorem take_step {q vx pv pw P xk vk c b s c' b' part B : Int} (h : Hid (vx - q * pv = pw - P * (c + b))) (e1 : Hid (q * vk + c + 0 = part + B * c')) (e2 : Hid (xk - part - b = s - B * b')) :
    Hid ((vx + P * xk) - q * (pv + P * vk) = (pw + P * s) - (B * P) * (c' + b')) := by
  unfold Hid at *
  have e3 : xk - q * vk - c - b = s - B * c' - B * b' := by omega
  have e4 : P * (xk - q * vk - c - b) = P * (s - B * c' - B * b') := by rw [e3]
  rw [Int.mul_sub, Int.mul_sub, Int.mul_sub, Int.mul_sub, Int.mul_sub] at e4
  rw [Int.mul_add] at h
  rw [Int.mul_add q, Int.mul_left_comm q P vk, Int.mul_assoc B P, Int.mul_add P c' b', Int.mul_add B, Int.mul_left_comm B P c', Int.mul_left_comm B P b']
  omega
theorem take_last {q vx pv pw P xk c b s b' B : Int} (h : Hid (vx - q * pv = pw - P * (c + b))) (e2 : Hid (xk - c - b = s - B * b')) :
    Hid ((vx + P * xk) - q * pv = (pw + P * s) - (B * P) * b') := by
  unfold Hid at *
  have e4 : P * (xk - c - b) = P * (s - B * b') := by rw [e2]
  rw [Int.mul_sub, Int.mul_sub, Int.mul_sub] at e4
  rw [Int.mul_add] at h
  rw [Int.mul_assoc B P, Int.mul_left_comm B P b']
  omega

set_option maxHeartbeats 1000000 in
/-- word.takeTimes -/
theorem takeTimes_any (n bx ox cx bv ov cv : Nat) (X V : Nat → Int) (q : Int) (hn : n ≤ 4) (hne : bv ≠ bx) (hq : Limb q) (hX : ∀ i, Limb (X i)) (hV : ∀ i, Limb (V i)) (w : World)
    (cX : ∀ i, i ≤ n → w.cell? ⟨bx, ox + i, none⟩ = some (.int .u64 (X i))) (cV : ∀ i, i < n → w.cell? ⟨bv, ov + i, none⟩ = some (.int .u64 (V i))) (fX : ∀ i, i ≤ n → w.frozen? ⟨bx, ox + i, none⟩ = false) :
    Calls Try.prog 93 #[.slice (some ⟨bx, ox, none⟩) (n + 1) cx, .slice (some ⟨bv, ov, none⟩) n cv, .int .u64 q] w fun e w' =>
      ∃ (Y : Nat → Int) (b : Int), e = .returned (.int .u64 b) ∧ (0 ≤ b ∧ b ≤ 1) ∧ (∀ i, Limb (Y i)) ∧ Hid (val X (n + 1) - q * val V n = val Y (n + 1) - 18446744073709551616 ^ (n + 1) * b) ∧
        (∀ i, i ≤ n → w'.cell? ⟨bx, ox + i, none⟩ = some (.int .u64 (Y i))) ∧ Wr bx ox (ox + n + 1) w w' := by
  have HX : Hid _ := cX
  have HV : Hid _ := cV
  have HF : Hid _ := fX
  have HLX : Hid _ := hX
  have HLV : Hid _ := hV
  clear cX cV fX hX hV
  go_enter Try.func93, Try.ntmps93
  go_wp2
  go_loopw [8, 9, 15] (fun sc sb si wr => ∃ (k : Nat) (c b : Int) (Y : Nat → Int), k ≤ n ∧ si = .int .i64 k ∧ sc = .int .u64 c ∧ sb = .int .u64 b ∧ Limb c ∧ 0 ≤ b ∧ b ≤ 1 ∧ Hid (∀ i, Limb (Y i)) ∧ Hid (∀ i, k ≤ i → Y i = X i) ∧
      Hid (val X k - q * val V k = val Y k - 18446744073709551616 ^ k * (c + b)) ∧ Hid (∀ i, i ≤ n → wr.cell? ⟨bx, ox + i, none⟩ = some (.int .u64 (Y i))) ∧ Wr bx ox (ox + n + 1) w wr) (fun _ _ si _ => n - (intOf si).toNat)
  case atStart => exact ⟨0, 0, 0, X, Nat.zero_le _, rfl, rfl, rfl, limb0, by decide, by decide, HLX, fun _ _ => rfl, by show _ = _; simp [val], HX, Wr.refl _ _ _ _⟩
  case round =>
    obtain ⟨k, c, b, Y, hk, rfl, rfl, rfl, hc, hb0, hb1, hLY, hYX, hE, hcY, hW⟩ := hrel
    by_cases hlt : k < n
    · have hvk := (hW.other hne).trans (HV.out k hlt)
      have hxk := hcY.out k (by omega)
      have hfk := (hW.frozen _).trans (HF.out k (by omega))
      obtain ⟨part, c', r1, l1, l2, e1⟩ := mulAdd_ex q (V k) c 0 hq (HLV.out k) hc limb0
      obtain ⟨s, b', r2, l3, p3, q3, e2⟩ := sub64_ex (Y k) part b (hLY.out k) l1 hb0 hb1
      have R1 : Hid _ := r1
      clear r1
      go_wp2_with (first | (go_at_call 90; refine (R1.out _).mono ?_; rintro e w' ⟨rfl, rfl⟩))
      refine ⟨⟨k + 1, c', b', put Y k s, by omega, by go_num, rfl, rfl, l2, p3, q3, ?_, ?_, ?_, ?_, ?_⟩, by simp [intOf]; omega⟩
      · intro i
        by_cases h : i = k
        · subst h; rw [put_same]; exact l3
        · rw [put_other _ _ _ h]; exact hLY.out i
      · intro i hi
        rw [put_other _ _ _ (by omega)]; exact hYX.out i (by omega)
      · have hk' : Y k = X k := hYX.out k (Nat.le_refl _)
        rw [hk'] at e2
        have := take_step hE e1 e2
        rw [pow_succ']
        show Hid (val X k + _ - q * (val V k + _) = (val (put Y k s) k + _ * put Y k s k) - _)
        rw [val_put, put_same]
        exact this
      · intro i hi
        by_cases h : i = k
        · subst h; rw [put_same]; exact World.cell?_setCell_same _ _ _ hxk
        · rw [put_other _ _ _ h, World.cell?_setCell_other _ _ _ _ (by intro e; simp at e <;> omega)]; exact hcY.out i hi
      · exact hW.setCell _ (by omega) (by omega) _
    · have hkn : k = n := by omega
      subst hkn
      have hxk := hcY.out k (Nat.le_refl _)
      have hfk := (hW.frozen _).trans (HF.out k (Nat.le_refl _))
      obtain ⟨s, b', r2, l3, p3, q3, e2⟩ := sub64_ex (Y k) c b (hLY.out k) hc hb0 hb1
      go_wp2
      go_ret
      refine ⟨put Y k s, b', rfl, ⟨p3, q3⟩, ?_, ?_, ?_, ?_⟩
      · intro i
        by_cases h : i = k
        · subst h; rw [put_same]; exact l3
        · rw [put_other _ _ _ h]; exact hLY.out i
      · have hk' : Y k = X k := hYX.out k (Nat.le_refl _)
        rw [hk'] at e2
        have := take_last hE e2
        rw [pow_succ']
        show Hid (val X k + _ - q * val V k = (val (put Y k s) k + _ * put Y k s k) - _)
        rw [val_put, put_same]
        exact this
      · intro i hi
        by_cases h : i = k
        · subst h; rw [put_same]; exact World.cell?_setCell_same _ _ _ hxk
        · rw [put_other _ _ _ h, World.cell?_setCell_other _ _ _ _ (by intro e; simp at e <;> omega)]; exact hcY.out i hi
      · exact hW.setCell _ (by omega) (by omega) _
end Go.Proofs.Ytmflilgppllebaa
