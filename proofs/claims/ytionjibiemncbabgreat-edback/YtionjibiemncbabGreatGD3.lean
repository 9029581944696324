/- D2, D3 -/
import Derived.Test.YtionjibiemncbabGreatD1
set_option linter.unusedSimpArgs false
set_option linter.unusedVariables false
namespace Go.Proofs.YtionjibiemncbabGreat
open Go.RowKit
structure Wr (b lo hi : Nat) (w w' : World) : Prop where
  os : w'.os = w.os
  tape : w'.tape = w.tape
  output : w'.output = w.output
  size : w'.heap.size = w.heap.size
  block : ∀ k, k ≠ b → w'.heap[k]? = w.heap[k]?
  cell : ∀ o, o < lo ∨ hi ≤ o → w'.cell? ⟨b, o, none⟩ = w.cell? ⟨b, o, none⟩
  frozen : ∀ a, w'.frozen? a = w.frozen? a
theorem Wr.refl (b lo hi : Nat) (w : World) : Wr b lo hi w w := ⟨rfl, rfl, rfl, rfl, fun _ _ => rfl, fun _ _ => rfl, fun _ => rfl⟩
theorem Wr.trans {b lo hi : Nat} {u v w : World} (h : Wr b lo hi u v) (k : Wr b lo hi v w) : Wr b lo hi u w :=
  ⟨k.os.trans h.os, k.tape.trans h.tape, k.output.trans h.output, k.size.trans h.size, fun i hi => (k.block i hi).trans (h.block i hi), fun o ho => (k.cell o ho).trans (h.cell o ho), fun a => (k.frozen a).trans (h.frozen a)⟩
theorem Wr.setCell {b lo hi : Nat} {u w : World} (h : Wr b lo hi u w) (o : Nat) (h1 : lo ≤ o) (h2 : o < hi) (v : Value) : Wr b lo hi u (w.setCell ⟨b, o, none⟩ v) :=
  h.trans ⟨rfl, rfl, rfl, by simp [World.setCell], fun k hk => Below.heap_setCell _ _ _ _ hk, fun p hp => World.cell?_setCell_other _ _ _ _ (by intro e; simp at e <;> omega), fun a => World.frozen?_setCell _ _ _ _⟩
theorem Wr.drew {b lo hi : Nat} {u w : World} (h : Wr b lo hi u w) : Wr b lo hi u w.drew := h.trans ⟨rfl, rfl, rfl, rfl, fun _ _ => rfl, fun _ _ => rfl, fun _ => rfl⟩
theorem Wr.drewN {b lo hi : Nat} {u w : World} (h : Wr b lo hi u w) (n : Nat) : Wr b lo hi u (w.drewN n) := h.trans ⟨rfl, rfl, rfl, rfl, fun _ _ => rfl, fun _ _ => rfl, fun _ => rfl⟩
theorem Wr.other {b lo hi : Nat} {u w : World} (h : Wr b lo hi u w) {c o : Nat} (hc : c ≠ b) : w.cell? ⟨c, o, none⟩ = u.cell? ⟨c, o, none⟩ := World.cell?_of_block (w := u) (h.block c hc)
def val (X : Nat → Int) : Nat → Int
  | 0 => 0
  | k + 1 => val X k + 18446744073709551616 ^ k * X k
theorem val_congr {X Y : Nat → Int} : ∀ {k : Nat}, (∀ i, i < k → X i = Y i) → val X k = val Y k
  | 0, _ => rfl
  | k + 1, h => by rw [val, val, val_congr (fun i hi => h i (by omega)), h k (by omega)]
def put (X : Nat → Int) (k : Nat) (x : Int) : Nat → Int := fun i => if i = k then x else X i
theorem put_same (X : Nat → Int) (k : Nat) (x : Int) : put X k x k = x := by simp [put]
theorem put_other (X : Nat → Int) (k : Nat) (x : Int) {i : Nat} (h : i ≠ k) : put X k x i = X i := by simp [put, h]
theorem val_put (X : Nat → Int) (k : Nat) (x : Int) : val (put X k x) k = val X k := val_congr (fun i hi => put_other _ _ _ (by omega))
theorem pow_succ' (k : Nat) : (18446744073709551616 : Int) ^ (k + 1) = 18446744073709551616 * 18446744073709551616 ^ k := by rw [Int.pow_succ, Int.mul_comm]
theorem take_step {q vx pv pw P xk vk c b s c' b' part B : Int} (h : Hid (vx - q * pv = pw - P * (c + b))) (e1 : Hid (q * vk + c + 0 = part + B * c')) (e2 : Hid (xk - part - b = s - B * b')) :
    Hid ((vx + P * xk) - q * (pv + P * vk) = (pw + P * s) - (B * P) * (c' + b')) := by
  unfold Hid at *
  have e3 : xk - q * vk - c - b = s - B * c' - B * b' := by omega
  have e4 : P * (xk - q * vk - c - b) = P * (s - B * c' - B * b') := by rw [e3]
  rw [Int.mul_sub, Int.mul_sub, Int.mul_sub, Int.mul_sub, Int.mul_sub] at e4
  rw [Int.mul_add] at h
  rw [Int.mul_add q, Int.mul_left_comm q P vk, Int.mul_assoc B P, Int.mul_add P c' b', Int.mul_add B, Int.mul_left_comm B P c', Int.mul_left_comm B P b']
  omega
theorem take_last {q vx pv pw P xk c b s b' B : Int} (h : Hid (vx - q * pv = pw - P * (c + b))) (e2 : Hid (xk - c - b = s - B * b')) :
    Hid ((vx + P * xk) - q * pv = (pw + P * s) - (B * P) * b') := by
  unfold Hid at *
  have e4 : P * (xk - c - b) = P * (s - B * b') := by rw [e2]
  rw [Int.mul_sub, Int.mul_sub, Int.mul_sub] at e4
  rw [Int.mul_add] at h
  rw [Int.mul_assoc B P, Int.mul_left_comm B P b']
  omega
set_option maxHeartbeats 1000000 in
theorem takeTimes_any (n bx ox cx bv ov cv : Nat) (X V : Nat → Int) (q : Int) (hn : n ≤ 4) (hne : bv ≠ bx) (hq : Limb q) (hX : ∀ i, Limb (X i)) (hV : ∀ i, Limb (V i)) (w : World)
    (cX : ∀ i, i ≤ n → w.cell? ⟨bx, ox + i, none⟩ = some (.int .u64 (X i))) (cV : ∀ i, i < n → w.cell? ⟨bv, ov + i, none⟩ = some (.int .u64 (V i))) (fX : ∀ i, i ≤ n → w.frozen? ⟨bx, ox + i, none⟩ = false) :
    Calls Tryz.prog 95 #[.slice (some ⟨bx, ox, none⟩) (n + 1) cx, .slice (some ⟨bv, ov, none⟩) n cv, .int .u64 q] w fun e w' =>
      ∃ (Y : Nat → Int) (b : Int), e = .returned (.int .u64 b) ∧ (0 ≤ b ∧ b ≤ 1) ∧ (∀ i, Limb (Y i)) ∧ Hid (val X (n + 1) - q * val V n = val Y (n + 1) - 18446744073709551616 ^ (n + 1) * b) ∧
        (∀ i, i ≤ n → w'.cell? ⟨bx, ox + i, none⟩ = some (.int .u64 (Y i))) ∧ Wr bx ox (ox + n + 1) w w' := by
  have HX : Hid _ := cX
  have HV : Hid _ := cV
  have HF : Hid _ := fX
  have HLX : Hid _ := hX
  have HLV : Hid _ := hV
  clear cX cV fX hX hV
  go_enter Tryz.func95, Tryz.ntmps95
  go_wp2
  go_loopw [8, 9, 15] (fun sc sb si wr => ∃ (k : Nat) (c b : Int) (Y : Nat → Int), k ≤ n ∧ si = .int .i64 k ∧ sc = .int .u64 c ∧ sb = .int .u64 b ∧ Limb c ∧ 0 ≤ b ∧ b ≤ 1 ∧ Hid (∀ i, Limb (Y i)) ∧ Hid (∀ i, k ≤ i → Y i = X i) ∧
      Hid (val X k - q * val V k = val Y k - 18446744073709551616 ^ k * (c + b)) ∧ Hid (∀ i, i ≤ n → wr.cell? ⟨bx, ox + i, none⟩ = some (.int .u64 (Y i))) ∧ Wr bx ox (ox + n + 1) w wr) (fun _ _ si _ => n - (intOf si).toNat)
  case atStart => exact ⟨0, 0, 0, X, Nat.zero_le _, rfl, rfl, rfl, limb0, by decide, by decide, HLX, fun _ _ => rfl, by show _ = _; simp [val], HX, Wr.refl _ _ _ _⟩
  case round =>
    obtain ⟨k, c, b, Y, hk, rfl, rfl, rfl, hc, hb0, hb1, hLY, hYX, hE, hcY, hW⟩ := hrel
    by_cases hlt : k < n
    · have hvk := (hW.other hne).trans (HV.out k hlt)
      have hxk := hcY.out k (by omega)
      have hfk := (hW.frozen _).trans (HF.out k (by omega))
      obtain ⟨part, c', r1, l1, l2, e1⟩ := mulAdd_ex q (V k) c 0 hq (HLV.out k) hc limb0
      obtain ⟨s, b', r2, l3, p3, q3, e2⟩ := sub64_ex (Y k) part b (hLY.out k) l1 hb0 hb1
      have R1 : Hid _ := r1
      clear r1
      go_wp2_with (first | (go_at_call 91; refine (R1.out _).mono ?_; rintro e w' ⟨rfl, rfl⟩))
      refine ⟨⟨k + 1, c', b', put Y k s, by omega, by go_num, rfl, rfl, l2, p3, q3, ?_, ?_, ?_, ?_, ?_⟩, by simp [intOf]; omega⟩
      · intro i
        by_cases h : i = k
        · subst h; rw [put_same]; exact l3
        · rw [put_other _ _ _ h]; exact hLY.out i
      · intro i hi
        rw [put_other _ _ _ (by omega)]; exact hYX.out i (by omega)
      · have hk' : Y k = X k := hYX.out k (Nat.le_refl _)
        rw [hk'] at e2
        have := take_step hE e1 e2
        rw [pow_succ']
        show Hid (val X k + _ - q * (val V k + _) = (val (put Y k s) k + _ * put Y k s k) - _)
        rw [val_put, put_same]
        exact this
      · intro i hi
        by_cases h : i = k
        · subst h; rw [put_same]; exact World.cell?_setCell_same _ _ _ hxk
        · rw [put_other _ _ _ h, World.cell?_setCell_other _ _ _ _ (by intro e; simp at e <;> omega)]; exact hcY.out i hi
      · exact hW.setCell _ (by omega) (by omega) _
    · have hkn : k = n := by omega
      subst hkn
      have hxk := hcY.out k (Nat.le_refl _)
      have hfk := (hW.frozen _).trans (HF.out k (Nat.le_refl _))
      obtain ⟨s, b', r2, l3, p3, q3, e2⟩ := sub64_ex (Y k) c b (hLY.out k) hc hb0 hb1
      go_wp2
      go_ret
      refine ⟨put Y k s, b', rfl, ⟨p3, q3⟩, ?_, ?_, ?_, ?_⟩
      · intro i
        by_cases h : i = k
        · subst h; rw [put_same]; exact l3
        · rw [put_other _ _ _ h]; exact hLY.out i
      · have hk' : Y k = X k := hYX.out k (Nat.le_refl _)
        rw [hk'] at e2
        have := take_last hE e2
        rw [pow_succ']
        show Hid (val X k + _ - q * val V k = (val (put Y k s) k + _ * put Y k s k) - _)
        rw [val_put, put_same]
        exact this
      · intro i hi
        by_cases h : i = k
        · subst h; rw [put_same]; exact World.cell?_setCell_same _ _ _ hxk
        · rw [put_other _ _ _ h, World.cell?_setCell_other _ _ _ _ (by intro e; simp at e <;> omega)]; exact hcY.out i hi
      · exact hW.setCell _ (by omega) (by omega) _
end Go.Proofs.YtionjibiemncbabGreat
namespace Go.Proofs.YtionjibiemncbabGreat
open Go.RowKit
theorem back_step {vx pv pw P xk vk b s b' B : Int} (h : Hid (vx + pv = pw + P * b)) (e2 : Hid (xk + vk + b = s + B * b')) :
    Hid ((vx + P * xk) + (pv + P * vk) = (pw + P * s) + (B * P) * b') := by
  unfold Hid at *
  have e4 : P * (xk + vk + b) = P * (s + B * b') := by rw [e2]
  rw [Int.mul_add, Int.mul_add, Int.mul_add] at e4
  rw [Int.mul_assoc B P, Int.mul_left_comm B P b']
  omega
theorem back_last {vx pv pw P xk b s b' B : Int} (h : Hid (vx + pv = pw + P * b)) (e2 : Hid (xk + 0 + b = s + B * b')) :
    Hid ((vx + P * xk) + pv = (pw + P * s) + (B * P) * b') := by
  unfold Hid at *
  have e3 : xk + b = s + B * b' := by omega
  have e4 : P * (xk + b) = P * (s + B * b') := by rw [e3]
  rw [Int.mul_add, Int.mul_add] at e4
  rw [Int.mul_assoc B P, Int.mul_left_comm B P b']
  omega
set_option maxHeartbeats 1000000 in
theorem putBack_any (n bx ox cx bv ov cv : Nat) (X V : Nat → Int) (hn : n ≤ 4) (hne : bv ≠ bx) (hX : ∀ i, Limb (X i)) (hV : ∀ i, Limb (V i)) (w : World)
    (cX : ∀ i, i ≤ n → w.cell? ⟨bx, ox + i, none⟩ = some (.int .u64 (X i))) (cV : ∀ i, i < n → w.cell? ⟨bv, ov + i, none⟩ = some (.int .u64 (V i))) (fX : ∀ i, i ≤ n → w.frozen? ⟨bx, ox + i, none⟩ = false) :
    Calls Tryz.prog 96 #[.slice (some ⟨bx, ox, none⟩) (n + 1) cx, .slice (some ⟨bv, ov, none⟩) n cv] w fun e w' =>
      ∃ (Y : Nat → Int) (b : Int), e = .returned (.int .u64 b) ∧ (0 ≤ b ∧ b ≤ 1) ∧ (∀ i, Limb (Y i)) ∧ Hid (val X (n + 1) + val V n = val Y (n + 1) + 18446744073709551616 ^ (n + 1) * b) ∧
        (∀ i, i ≤ n → w'.cell? ⟨bx, ox + i, none⟩ = some (.int .u64 (Y i))) ∧ Wr bx ox (ox + n + 1) w w' := by
  have HX : Hid _ := cX
  have HV : Hid _ := cV
  have HF : Hid _ := fX
  have HLX : Hid _ := hX
  have HLV : Hid _ := hV
  clear cX cV fX hX hV
  go_enter Tryz.func96, Tryz.ntmps96
  go_wp2
  go_loopw [5, 11] (fun sb si wr => ∃ (k : Nat) (b : Int) (Y : Nat → Int), k ≤ n ∧ si = .int .i64 k ∧ sb = .int .u64 b ∧ 0 ≤ b ∧ b ≤ 1 ∧ Hid (∀ i, Limb (Y i)) ∧ Hid (∀ i, k ≤ i → Y i = X i) ∧
      Hid (val X k + val V k = val Y k + 18446744073709551616 ^ k * b) ∧ Hid (∀ i, i ≤ n → wr.cell? ⟨bx, ox + i, none⟩ = some (.int .u64 (Y i))) ∧ Wr bx ox (ox + n + 1) w wr) (fun _ si _ => n - (intOf si).toNat)
  case atStart => exact ⟨0, 0, X, Nat.zero_le _, rfl, rfl, by decide, by decide, HLX, fun _ _ => rfl, by show _ = _; simp [val], HX, Wr.refl _ _ _ _⟩
  case round =>
    obtain ⟨k, b, Y, hk, rfl, rfl, hb0, hb1, hLY, hYX, hE, hcY, hW⟩ := hrel
    by_cases hlt : k < n
    · have hvk := (hW.other hne).trans (HV.out k hlt)
      have hxk := hcY.out k (by omega)
      have hfk := (hW.frozen _).trans (HF.out k (by omega))
      obtain ⟨s, b', r2, l3, p3, q3, e2⟩ := add64_ex (Y k) (V k) b (hLY.out k) (HLV.out k) hb0 hb1
      go_wp2
      go_region
      go_wp2
      refine ⟨⟨k + 1, b', put Y k s, by omega, by go_num, rfl, p3, q3, ?_, ?_, ?_, ?_, ?_⟩, by simp [intOf]; omega⟩
      · intro i
        by_cases h : i = k
        · subst h; rw [put_same]; exact l3
        · rw [put_other _ _ _ h]; exact hLY.out i
      · intro i hi
        rw [put_other _ _ _ (by omega)]; exact hYX.out i (by omega)
      · have hk' : Y k = X k := hYX.out k (Nat.le_refl _)
        rw [hk'] at e2
        have := back_step hE e2
        rw [pow_succ']
        show Hid (val X k + _ + (val V k + _) = (val (put Y k s) k + _ * put Y k s k) + _)
        rw [val_put, put_same]
        exact this
      · intro i hi
        by_cases h : i = k
        · subst h; rw [put_same]; exact World.cell?_setCell_same _ _ _ hxk
        · rw [put_other _ _ _ h]; exact (World.cell?_setCell_other _ _ _ _ (by intro e; simp at e <;> omega)).trans (hcY.out i hi)
      · exact (hW.setCell _ (by omega) (by omega) _).drew
    · have hkn : k = n := by omega
      subst hkn
      have hxk := hcY.out k (Nat.le_refl _)
      have hfk := (hW.frozen _).trans (HF.out k (Nat.le_refl _))
      obtain ⟨s, b', r2, l3, p3, q3, e2⟩ := add64_ex (Y k) 0 b (hLY.out k) limb0 hb0 hb1
      go_wp2
      go_ret
      refine ⟨put Y k s, b', rfl, ⟨p3, q3⟩, ?_, ?_, ?_, ?_⟩
      · intro i
        by_cases h : i = k
        · subst h; rw [put_same]; exact l3
        · rw [put_other _ _ _ h]; exact hLY.out i
      · have hk' : Y k = X k := hYX.out k (Nat.le_refl _)
        rw [hk'] at e2
        have := back_last hE e2
        rw [pow_succ']
        show Hid (val X k + _ + val V k = (val (put Y k s) k + _ * put Y k s k) + _)
        rw [val_put, put_same]
        exact this
      · intro i hi
        by_cases h : i = k
        · subst h; rw [put_same]; exact World.cell?_setCell_same _ _ _ hxk
        · rw [put_other _ _ _ h, World.cell?_setCell_other _ _ _ _ (by intro e; simp at e <;> omega)]; exact hcY.out i hi
      · exact hW.setCell _ (by omega) (by omega) _
theorem pow64_pos (k : Nat) : 0 < (18446744073709551616 : Int) ^ k := Int.pow_pos (by decide)
theorem val_bd {X : Nat → Int} (h : ∀ i, Limb (X i)) : ∀ k, 0 ≤ val X k ∧ val X k < 18446744073709551616 ^ k
  | 0 => ⟨Int.le_refl _, by simp [val]⟩
  | k + 1 => by
    obtain ⟨h0, h1⟩ := val_bd h k
    obtain ⟨g0, g1⟩ := h k
    have hp := pow64_pos k
    rw [val, pow_succ']
    have a : 0 ≤ 18446744073709551616 ^ k * X k := Int.mul_nonneg (by omega) g0
    have b : 18446744073709551616 ^ k * X k ≤ 18446744073709551616 ^ k * 18446744073709551615 := Int.mul_le_mul_of_nonneg_left (by omega) (by omega)
    exact ⟨by omega, by omega⟩
theorem guess_le {X V : Nat → Int} {m : Nat} (hX : ∀ i, Limb (X i)) (hV : ∀ i, Limb (V i)) (hv : 0 < V m) :
    val X (m + 2) / val V (m + 1) ≤ (X (m + 1) * 18446744073709551616 + X m) / V m := by
  obtain ⟨a0, a1⟩ := val_bd hX m
  obtain ⟨b0, b1⟩ := val_bd hV m
  have hp := pow64_pos m
  have eV : val V (m + 1) = val V m + 18446744073709551616 ^ m * V m := rfl
  have eX : val X (m + 2) = val X m + 18446744073709551616 ^ m * (X (m + 1) * 18446744073709551616 + X m) := by
    show val X m + 18446744073709551616 ^ m * X m + 18446744073709551616 ^ (m + 1) * X (m + 1) = _
    rw [pow_succ', Int.mul_add, Int.mul_assoc, Int.mul_left_comm, Int.mul_comm 18446744073709551616 (X (m + 1))]
    omega
  have hVp : 0 < val V (m + 1) := by
    have : 0 < 18446744073709551616 ^ m * V m := Int.mul_pos hp hv
    omega
  generalize hQ : val X (m + 2) / val V (m + 1) = Q
  have hQ0 : 0 ≤ Q := by rw [← hQ]; exact Int.ediv_nonneg (val_bd hX _).1 (by omega)
  have h1 : Q * val V (m + 1) ≤ val X (m + 2) := by rw [← hQ]; exact Int.ediv_mul_le _ (by omega)
  rw [Int.le_ediv_iff_mul_le hv]
  generalize X (m + 1) * 18446744073709551616 + X m = T at *
  rw [eX, eV, Int.mul_add] at h1
  have h2 : 0 ≤ Q * val V m := Int.mul_nonneg hQ0 b0
  have h3 : 18446744073709551616 ^ m * (Q * V m) < 18446744073709551616 ^ m * (T + 1) := by
    rw [Int.mul_left_comm Q] at h1
    rw [Int.mul_add _ T]
    omega
  have := Int.lt_of_mul_lt_mul_left h3 (by omega)
  omega
end Go.Proofs.YtionjibiemncbabGreat
