/- D2, D3, D4, D5 -/
import Derived.Test.YtojfcdjgcgnajaaGreatD1
import Derived.Test.YtojfcdjgcgnajaaGreatGW4
namespace Go.Proofs.YtojfcdjgcgnajaaGreat
open Go.RowKit
set_option linter.unusedSimpArgs false
set_option linter.unusedVariables false
structure Wr (b lo hi : Nat) (w w' : World) : Prop where
 os : w'.os = w.os
 tape : w'.tape = w.tape
 output : w'.output = w.output
 size : w'.heap.size = w.heap.size
 block : ∀ k, k ≠ b → w'.heap[k]? = w.heap[k]?
 cell : ∀ o, o < lo ∨ hi ≤ o → w'.cell? ⟨b, o, none⟩ = w.cell? ⟨b, o, none⟩
 frozen : ∀ a, w'.frozen? a = w.frozen? a
theorem Wr.refl (b lo hi : Nat) (w : World) : Wr b lo hi w w := ⟨rfl, rfl, rfl, rfl, fun _ _ => rfl, fun _ _ => rfl, fun _ => rfl⟩
theorem Wr.trans {b lo hi : Nat} {u v w : World} (h : Wr b lo hi u v) (k : Wr b lo hi v w) : Wr b lo hi u w :=
 ⟨k.os.trans h.os, k.tape.trans h.tape, k.output.trans h.output, k.size.trans h.size, fun i hi => (k.block i hi).trans (h.block i hi), fun o ho => (k.cell o ho).trans (h.cell o ho), fun a => (k.frozen a).trans (h.frozen a)⟩
theorem Wr.setCell {b lo hi : Nat} {u w : World} (h : Wr b lo hi u w) (o : Nat) (h1 : lo ≤ o) (h2 : o < hi) (v : Value) : Wr b lo hi u (w.setCell ⟨b, o, none⟩ v) :=
 h.trans ⟨rfl, rfl, rfl, by simp [World.setCell], fun k hk => Below.heap_setCell _ _ _ _ hk, fun p hp => World.cell?_setCell_other _ _ _ _ (by intro e; simp at e <;> omega), fun a => World.frozen?_setCell _ _ _ _⟩
theorem Wr.drew {b lo hi : Nat} {u w : World} (h : Wr b lo hi u w) : Wr b lo hi u w.drew := h.trans ⟨rfl, rfl, rfl, rfl, fun _ _ => rfl, fun _ _ => rfl, fun _ => rfl⟩
theorem Wr.drewN {b lo hi : Nat} {u w : World} (h : Wr b lo hi u w) (n : Nat) : Wr b lo hi u (w.drewN n) := h.trans ⟨rfl, rfl, rfl, rfl, fun _ _ => rfl, fun _ _ => rfl, fun _ => rfl⟩
theorem Wr.other {b lo hi : Nat} {u w : World} (h : Wr b lo hi u w) {c o : Nat} (hc : c ≠ b) : w.cell? ⟨c, o, none⟩ = u.cell? ⟨c, o, none⟩ := World.cell?_of_block (w := u) (h.block c hc)
def val (X : Nat → Int) : Nat → Int
 | 0 => 0
 | k + 1 => val X k + 18446744073709551616 ^ k * X k
theorem val_congr {X Y : Nat → Int} : ∀ {k : Nat}, (∀ i, i < k → X i = Y i) → val X k = val Y k
 | 0, _ => rfl
 | k + 1, h => by rw [val, val, val_congr (fun i hi => h i (by omega)), h k (by omega)]
def put (X : Nat → Int) (k : Nat) (x : Int) : Nat → Int := fun i => if i = k then x else X i
theorem put_same (X : Nat → Int) (k : Nat) (x : Int) : put X k x k = x := by simp [put]
theorem put_other (X : Nat → Int) (k : Nat) (x : Int) {i : Nat} (h : i ≠ k) : put X k x i = X i := by simp [put, h]
theorem val_put (X : Nat → Int) (k : Nat) (x : Int) : val (put X k x) k = val X k := val_congr (fun i hi => put_other _ _ _ (by omega))
theorem pow_succ' (k : Nat) : (18446744073709551616 : Int) ^ (k + 1) = 18446744073709551616 * 18446744073709551616 ^ k := by rw [Int.pow_succ, Int.mul_comm]
theorem take_step {q vx pv pw P xk vk c b s c' b' part B : Int} (h : Hid (vx - q * pv = pw - P * (c + b))) (e1 : Hid (q * vk + c + 0 = part + B * c')) (e2 : Hid (xk - part - b = s - B * b')) :
 Hid ((vx + P * xk) - q * (pv + P * vk) = (pw + P * s) - (B * P) * (c' + b')) := by
 unfold Hid at *; have e3 : xk - q * vk - c - b = s - B * c' - B * b' := by omega
 have e4 : P * (xk - q * vk - c - b) = P * (s - B * c' - B * b') := by rw [e3]
 rw [Int.mul_sub, Int.mul_sub, Int.mul_sub, Int.mul_sub, Int.mul_sub] at e4; rw [Int.mul_add] at h; rw [Int.mul_add q, Int.mul_left_comm q P vk, Int.mul_assoc B P, Int.mul_add P c' b', Int.mul_add B, Int.mul_left_comm B P c', Int.mul_left_comm B P b']; omega
theorem take_last {q vx pv pw P xk c b s b' B : Int} (h : Hid (vx - q * pv = pw - P * (c + b))) (e2 : Hid (xk - c - b = s - B * b')) :
 Hid ((vx + P * xk) - q * pv = (pw + P * s) - (B * P) * b') := by
 unfold Hid at *; have e4 : P * (xk - c - b) = P * (s - B * b') := by rw [e2]
 rw [Int.mul_sub, Int.mul_sub, Int.mul_sub] at e4; rw [Int.mul_add] at h; rw [Int.mul_assoc B P, Int.mul_left_comm B P b']; omega
set_option maxHeartbeats 1000000 in
theorem takeTimes_any (n bx ox cx bv ov cv : Nat) (X V : Nat → Int) (q : Int) (hn : n ≤ 4) (hne : bv ≠ bx) (hq : Limb q) (hX : ∀ i, Limb (X i)) (hV : ∀ i, Limb (V i)) (w : World)
 (cX : ∀ i, i ≤ n → w.cell? ⟨bx, ox + i, none⟩ = some (.int .u64 (X i))) (cV : ∀ i, i < n → w.cell? ⟨bv, ov + i, none⟩ = some (.int .u64 (V i))) (fX : ∀ i, i ≤ n → w.frozen? ⟨bx, ox + i, none⟩ = false) :
 Calls Tryz.prog 132 #[.slice (some ⟨bx, ox, none⟩) (n + 1) cx, .slice (some ⟨bv, ov, none⟩) n cv, .int .u64 q] w fun e w' =>
  ∃ (Y : Nat → Int) (b : Int), e = .returned (.int .u64 b) ∧ (0 ≤ b ∧ b ≤ 1) ∧ (∀ i, Limb (Y i)) ∧ Hid (val X (n + 1) - q * val V n = val Y (n + 1) - 18446744073709551616 ^ (n + 1) * b) ∧
    (∀ i, i ≤ n → w'.cell? ⟨bx, ox + i, none⟩ = some (.int .u64 (Y i))) ∧ Wr bx ox (ox + n + 1) w w' := by
 have HX : Hid _ := cX; have HV : Hid _ := cV; have HF : Hid _ := fX; have HLX : Hid _ := hX; have HLV : Hid _ := hV; clear cX cV fX hX hV; go_enter Tryz.func132, Tryz.ntmps132; go_wp2; go_loopw [8, 9, 15] (fun sc sb si wr => ∃ (k : Nat) (c b : Int) (Y : Nat → Int), k ≤ n ∧ si = .int .i64 k ∧ sc = .int .u64 c ∧ sb = .int .u64 b ∧ Limb c ∧ 0 ≤ b ∧ b ≤ 1 ∧ Hid (∀ i, Limb (Y i)) ∧ Hid (∀ i, k ≤ i → Y i = X i) ∧
  Hid (val X k - q * val V k = val Y k - 18446744073709551616 ^ k * (c + b)) ∧ Hid (∀ i, i ≤ n → wr.cell? ⟨bx, ox + i, none⟩ = some (.int .u64 (Y i))) ∧ Wr bx ox (ox + n + 1) w wr) (fun _ _ si _ => n - (intOf si).toNat)
 case atStart => exact ⟨0, 0, 0, X, Nat.zero_le _, rfl, rfl, rfl, limb0, by decide, by decide, HLX, fun _ _ => rfl, by show _ = _; simp [val], HX, Wr.refl _ _ _ _⟩
 case round =>
  obtain ⟨k, c, b, Y, hk, rfl, rfl, rfl, hc, hb0, hb1, hLY, hYX, hE, hcY, hW⟩ := hrel; by_cases hlt : k < n
  · have hvk := (hW.other hne).trans (HV.out k hlt)
    have hxk := hcY.out k (by omega); have hfk := (hW.frozen _).trans (HF.out k (by omega)); obtain ⟨part, c', r1, l1, l2, e1⟩ := mulAdd_ex q (V k) c 0 hq (HLV.out k) hc limb0; obtain ⟨s, b', r2, l3, p3, q3, e2⟩ := sub64_ex (Y k) part b (hLY.out k) l1 hb0 hb1; have R1 : Hid _ := r1; clear r1; go_wp2_with (first | (go_at_call 103; refine (R1.out _).mono ?_; rintro e w' ⟨rfl, rfl⟩)); refine ⟨⟨k + 1, c', b', put Y k s, by omega, by go_num, rfl, rfl, l2, p3, q3, ?_, ?_, ?_, ?_, ?_⟩, by simp [intOf]; omega⟩
    · intro i
      by_cases h : i = k
      · subst h; rw [put_same]; exact l3
      · rw [put_other _ _ _ h]; exact hLY.out i
    · intro i hi
      rw [put_other _ _ _ (by omega)]; exact hYX.out i (by omega)
    · have hk' : Y k = X k := hYX.out k (Nat.le_refl _)
      rw [hk'] at e2; have := take_step hE e1 e2; rw [pow_succ']; show Hid (val X k + _ - q * (val V k + _) = (val (put Y k s) k + _ * put Y k s k) - _); rw [val_put, put_same]; exact this
    · intro i hi
      by_cases h : i = k
      · subst h; rw [put_same]; exact World.cell?_setCell_same _ _ _ hxk
      · rw [put_other _ _ _ h, World.cell?_setCell_other _ _ _ _ (by intro e; simp at e <;> omega)]; exact hcY.out i hi
    · exact hW.setCell _ (by omega) (by omega) _
  · have hkn : k = n := by omega
    subst hkn; have hxk := hcY.out k (Nat.le_refl _); have hfk := (hW.frozen _).trans (HF.out k (Nat.le_refl _)); obtain ⟨s, b', r2, l3, p3, q3, e2⟩ := sub64_ex (Y k) c b (hLY.out k) hc hb0 hb1; go_wp2; go_ret; refine ⟨put Y k s, b', rfl, ⟨p3, q3⟩, ?_, ?_, ?_, ?_⟩
    · intro i
      by_cases h : i = k
      · subst h; rw [put_same]; exact l3
      · rw [put_other _ _ _ h]; exact hLY.out i
    · have hk' : Y k = X k := hYX.out k (Nat.le_refl _)
      rw [hk'] at e2; have := take_last hE e2; rw [pow_succ']; show Hid (val X k + _ - q * val V k = (val (put Y k s) k + _ * put Y k s k) - _); rw [val_put, put_same]; exact this
    · intro i hi
      by_cases h : i = k
      · subst h; rw [put_same]; exact World.cell?_setCell_same _ _ _ hxk
      · rw [put_other _ _ _ h, World.cell?_setCell_other _ _ _ _ (by intro e; simp at e <;> omega)]; exact hcY.out i hi
    · exact hW.setCell _ (by omega) (by omega) _
end Go.Proofs.YtojfcdjgcgnajaaGreat
namespace Go.Proofs.YtojfcdjgcgnajaaGreat
open Go.RowKit
set_option linter.unusedSimpArgs false
set_option linter.unusedVariables false
theorem back_step {vx pv pw P xk vk b s b' B : Int} (h : Hid (vx + pv = pw + P * b)) (e2 : Hid (xk + vk + b = s + B * b')) :
 Hid ((vx + P * xk) + (pv + P * vk) = (pw + P * s) + (B * P) * b') := by
 unfold Hid at *; have e4 : P * (xk + vk + b) = P * (s + B * b') := by rw [e2]
 rw [Int.mul_add, Int.mul_add, Int.mul_add] at e4; rw [Int.mul_assoc B P, Int.mul_left_comm B P b']; omega
theorem back_last {vx pv pw P xk b s b' B : Int} (h : Hid (vx + pv = pw + P * b)) (e2 : Hid (xk + 0 + b = s + B * b')) :
 Hid ((vx + P * xk) + pv = (pw + P * s) + (B * P) * b') := by
 unfold Hid at *; have e3 : xk + b = s + B * b' := by omega
 have e4 : P * (xk + b) = P * (s + B * b') := by rw [e3]
 rw [Int.mul_add, Int.mul_add] at e4; rw [Int.mul_assoc B P, Int.mul_left_comm B P b']; omega
set_option maxHeartbeats 1000000 in
theorem putBack_any (n bx ox cx bv ov cv : Nat) (X V : Nat → Int) (hn : n ≤ 4) (hne : bv ≠ bx) (hX : ∀ i, Limb (X i)) (hV : ∀ i, Limb (V i)) (w : World)
 (cX : ∀ i, i ≤ n → w.cell? ⟨bx, ox + i, none⟩ = some (.int .u64 (X i))) (cV : ∀ i, i < n → w.cell? ⟨bv, ov + i, none⟩ = some (.int .u64 (V i))) (fX : ∀ i, i ≤ n → w.frozen? ⟨bx, ox + i, none⟩ = false) :
 Calls Tryz.prog 133 #[.slice (some ⟨bx, ox, none⟩) (n + 1) cx, .slice (some ⟨bv, ov, none⟩) n cv] w fun e w' =>
  ∃ (Y : Nat → Int) (b : Int), e = .returned (.int .u64 b) ∧ (0 ≤ b ∧ b ≤ 1) ∧ (∀ i, Limb (Y i)) ∧ Hid (val X (n + 1) + val V n = val Y (n + 1) + 18446744073709551616 ^ (n + 1) * b) ∧
    (∀ i, i ≤ n → w'.cell? ⟨bx, ox + i, none⟩ = some (.int .u64 (Y i))) ∧ Wr bx ox (ox + n + 1) w w' := by
 have HX : Hid _ := cX; have HV : Hid _ := cV; have HF : Hid _ := fX; have HLX : Hid _ := hX; have HLV : Hid _ := hV; clear cX cV fX hX hV; go_enter Tryz.func133, Tryz.ntmps133; go_wp2; go_loopw [5, 11] (fun sb si wr => ∃ (k : Nat) (b : Int) (Y : Nat → Int), k ≤ n ∧ si = .int .i64 k ∧ sb = .int .u64 b ∧ 0 ≤ b ∧ b ≤ 1 ∧ Hid (∀ i, Limb (Y i)) ∧ Hid (∀ i, k ≤ i → Y i = X i) ∧
  Hid (val X k + val V k = val Y k + 18446744073709551616 ^ k * b) ∧ Hid (∀ i, i ≤ n → wr.cell? ⟨bx, ox + i, none⟩ = some (.int .u64 (Y i))) ∧ Wr bx ox (ox + n + 1) w wr) (fun _ si _ => n - (intOf si).toNat)
 case atStart => exact ⟨0, 0, X, Nat.zero_le _, rfl, rfl, by decide, by decide, HLX, fun _ _ => rfl, by show _ = _; simp [val], HX, Wr.refl _ _ _ _⟩
 case round =>
  obtain ⟨k, b, Y, hk, rfl, rfl, hb0, hb1, hLY, hYX, hE, hcY, hW⟩ := hrel; by_cases hlt : k < n
  · have hvk := (hW.other hne).trans (HV.out k hlt)
    have hxk := hcY.out k (by omega); have hfk := (hW.frozen _).trans (HF.out k (by omega)); obtain ⟨s, b', r2, l3, p3, q3, e2⟩ := add64_ex (Y k) (V k) b (hLY.out k) (HLV.out k) hb0 hb1; go_wp2; go_region; go_wp2; refine ⟨⟨k + 1, b', put Y k s, by omega, by go_num, rfl, p3, q3, ?_, ?_, ?_, ?_, ?_⟩, by simp [intOf]; omega⟩
    · intro i
      by_cases h : i = k
      · subst h; rw [put_same]; exact l3
      · rw [put_other _ _ _ h]; exact hLY.out i
    · intro i hi
      rw [put_other _ _ _ (by omega)]; exact hYX.out i (by omega)
    · have hk' : Y k = X k := hYX.out k (Nat.le_refl _)
      rw [hk'] at e2; have := back_step hE e2; rw [pow_succ']; show Hid (val X k + _ + (val V k + _) = (val (put Y k s) k + _ * put Y k s k) + _); rw [val_put, put_same]; exact this
    · intro i hi
      by_cases h : i = k
      · subst h; rw [put_same]; exact World.cell?_setCell_same _ _ _ hxk
      · rw [put_other _ _ _ h]; exact (World.cell?_setCell_other _ _ _ _ (by intro e; simp at e <;> omega)).trans (hcY.out i hi)
    · exact (hW.setCell _ (by omega) (by omega) _).drew
  · have hkn : k = n := by omega
    subst hkn; have hxk := hcY.out k (Nat.le_refl _); have hfk := (hW.frozen _).trans (HF.out k (Nat.le_refl _)); obtain ⟨s, b', r2, l3, p3, q3, e2⟩ := add64_ex (Y k) 0 b (hLY.out k) limb0 hb0 hb1; go_wp2; go_ret; refine ⟨put Y k s, b', rfl, ⟨p3, q3⟩, ?_, ?_, ?_, ?_⟩
    · intro i
      by_cases h : i = k
      · subst h; rw [put_same]; exact l3
      · rw [put_other _ _ _ h]; exact hLY.out i
    · have hk' : Y k = X k := hYX.out k (Nat.le_refl _)
      rw [hk'] at e2; have := back_last hE e2; rw [pow_succ']; show Hid (val X k + _ + val V k = (val (put Y k s) k + _ * put Y k s k) + _); rw [val_put, put_same]; exact this
    · intro i hi
      by_cases h : i = k
      · subst h; rw [put_same]; exact World.cell?_setCell_same _ _ _ hxk
      · rw [put_other _ _ _ h, World.cell?_setCell_other _ _ _ _ (by intro e; simp at e <;> omega)]; exact hcY.out i hi
    · exact hW.setCell _ (by omega) (by omega) _
theorem pow64_pos (k : Nat) : 0 < (18446744073709551616 : Int) ^ k := Int.pow_pos (by decide)
theorem val_bd {X : Nat → Int} (h : ∀ i, Limb (X i)) : ∀ k, 0 ≤ val X k ∧ val X k < 18446744073709551616 ^ k
 | 0 => ⟨Int.le_refl _, by simp [val]⟩
 | k + 1 => by
   obtain ⟨h0, h1⟩ := val_bd h k; obtain ⟨g0, g1⟩ := h k; have hp := pow64_pos k; rw [val, pow_succ']; have a : 0 ≤ 18446744073709551616 ^ k * X k := Int.mul_nonneg (by omega) g0; have b : 18446744073709551616 ^ k * X k ≤ 18446744073709551616 ^ k * 18446744073709551615 := Int.mul_le_mul_of_nonneg_left (by omega) (by omega); exact ⟨by omega, by omega⟩
theorem guess_le {X V : Nat → Int} {m : Nat} (hX : ∀ i, Limb (X i)) (hV : ∀ i, Limb (V i)) (hv : 0 < V m) :
 val X (m + 2) / val V (m + 1) ≤ (X (m + 1) * 18446744073709551616 + X m) / V m := by
 obtain ⟨a0, a1⟩ := val_bd hX m; obtain ⟨b0, b1⟩ := val_bd hV m; have hp := pow64_pos m; have eV : val V (m + 1) = val V m + 18446744073709551616 ^ m * V m := rfl; have eX : val X (m + 2) = val X m + 18446744073709551616 ^ m * (X (m + 1) * 18446744073709551616 + X m) := by
  show val X m + 18446744073709551616 ^ m * X m + 18446744073709551616 ^ (m + 1) * X (m + 1) = _; rw [pow_succ', Int.mul_add, Int.mul_assoc, Int.mul_left_comm, Int.mul_comm 18446744073709551616 (X (m + 1))]; omega
 have hVp : 0 < val V (m + 1) := by
  have : 0 < 18446744073709551616 ^ m * V m := Int.mul_pos hp hv; omega
 generalize hQ : val X (m + 2) / val V (m + 1) = Q; have hQ0 : 0 ≤ Q := by rw [← hQ]; exact Int.ediv_nonneg (val_bd hX _).1 (by omega)
 have h1 : Q * val V (m + 1) ≤ val X (m + 2) := by rw [← hQ]; exact Int.ediv_mul_le _ (by omega)
 rw [Int.le_ediv_iff_mul_le hv]; generalize X (m + 1) * 18446744073709551616 + X m = T at *; rw [eX, eV, Int.mul_add] at h1; have h2 : 0 ≤ Q * val V m := Int.mul_nonneg hQ0 b0; have h3 : 18446744073709551616 ^ m * (Q * V m) < 18446744073709551616 ^ m * (T + 1) := by
  rw [Int.mul_left_comm Q] at h1; rw [Int.mul_add _ T]; omega
 have := Int.lt_of_mul_lt_mul_left h3 (by omega); omega
end Go.Proofs.YtojfcdjgcgnajaaGreat
namespace Go.Proofs.YtojfcdjgcgnajaaGreat
open Go.RowKit
set_option linter.unusedSimpArgs false
set_option linter.unusedVariables false
theorem calls_quiet2 {f : FuncId} {args : Array Value} {W : World} {q n : Nat} {v : Value} (h : ∀ w, Calls Tryz.prog f args w fun e w' => e = .returned v ∧ ∃ k, w' = w.drewN k) : Calls Tryz.prog f args (W.drewN (q + n)) fun e w'' => e = .returned v ∧ ∃ m, w'' = W.drewN (q + m) :=
 (h _).mono fun e w' ⟨he, k, hk⟩ => ⟨he, n + k, by rw [hk]; simp [World.drewN, Nat.add_assoc]⟩
theorem top_lt {x y v : Int} (h : x < v) (hy : y < 18446744073709551616) (hv : 0 < v) : (x * 18446744073709551616 + y) / v < 18446744073709551616 := by
 apply Int.ediv_lt_of_lt_mul hv
 omega
set_option maxHeartbeats 1000000 in
theorem guess_any (m bx ox cx bv ov cv : Nat) (X V : Nat → Int) (hm : m ≤ 3) (hX : ∀ i, Limb (X i)) (hV : ∀ i, Limb (V i)) (hv : 9223372036854775808 ≤ V m) (hlt : val X (m + 2) < 18446744073709551616 * val V (m + 1)) (w : World)
 (cX : ∀ i, i ≤ m + 1 → w.cell? ⟨bx, ox + i, none⟩ = some (.int .u64 (X i))) (cV : ∀ i, i < m + 1 → w.cell? ⟨bv, ov + i, none⟩ = some (.int .u64 (V i))) :
 Calls Tryz.prog 131 #[.slice (some ⟨bx, ox, none⟩) (m + 2) cx, .slice (some ⟨bv, ov, none⟩) (m + 1) cv] w fun e w' =>
  ∃ q : Int, e = .returned (.int .u64 q) ∧ Limb q ∧ val X (m + 2) / val V (m + 1) ≤ q ∧ ∃ n, w' = w.drewN n := by
 have c1 := cX (m + 1) (Nat.le_refl _); have c2 := cX m (by omega); have c3 := cV m (by omega); have hVp : 0 < val V (m + 1) := by
  have h1 := (val_bd hV m).1; have h2 : 0 < 18446744073709551616 ^ m * V m := Int.mul_pos (pow64_pos m) (by omega); show 0 < val V m + _; omega
 have hQ : val X (m + 2) / val V (m + 1) < 18446744073709551616 := Int.ediv_lt_of_lt_mul hVp hlt; have hg := guess_le hX hV (m := m) (by omega); have g1 := hX (m + 1); have g2 := hX m; have g3 := hV m; clear cX cV hX hV hlt hVp; generalize val X (m + 2) / val V (m + 1) = Q at *; generalize X (m + 1) = x1 at *; generalize X m = x0 at *; generalize V m = v at *; obtain ⟨g10, g11⟩ := g1; obtain ⟨g20, g21⟩ := g2; obtain ⟨g30, g31⟩ := g3; by_cases h : v ≤ x1
 · clear hg
   have HQ : Hid _ := hQ; clear hQ; go_enter Tryz.func131, Tryz.ntmps131; go_wp2; go_quiet (fail); go_wp2; go_ret; exact ⟨_, rfl, ⟨by decide, by decide⟩, by have := HQ.out; omega, _, rfl⟩
 · obtain ⟨u, hd⟩ := div64_ex x1 x0 v hv g31 g10 (by omega) ⟨g20, g21⟩
   have hq1 := top_lt (x := x1) (y := x0) (v := v) (by omega) g21 (by omega); have hq0 : 0 ≤ (x1 * 18446744073709551616 + x0) / v := Int.ediv_nonneg (by omega) (by omega); generalize (x1 * 18446744073709551616 + x0) / v = q at *; have HD : Hid _ := hd; have HQ : Hid _ := hg; clear hd hg hQ; go_enter Tryz.func131, Tryz.ntmps131; go_wp2; go_quiet (fail); go_wp2; go_quiet ((go_at_call 148; exact calls_quiet2 HD.out)); go_wp2; go_ret; exact ⟨_, rfl, ⟨hq0, hq1⟩, HQ.out, _, World.drewN_drewN _ _ _⟩
theorem quo_lt {x v q : Int} (hv : 0 < v) (h : x - q * v < 0) : x / v < q := Int.ediv_lt_of_lt_mul hv (by omega)
theorem quo_eq {x v q : Int} (hv : 0 < v) (h0 : 0 ≤ x - q * v) (hq : x / v ≤ q) : x - q * v < v := by
 have h1 : q ≤ x / v := (Int.le_ediv_iff_mul_le hv).2 (by omega); have h2 : x / v = q := by omega
 have := Int.lt_ediv_add_one_mul_self x hv; rw [h2, Int.add_mul] at this; omega
theorem val_top {Y : Nat → Int} {n : Nat} (hY : ∀ i, Limb (Y i)) (h : val Y (n + 1) < 18446744073709551616 ^ n) : Y n = 0 ∧ val Y (n + 1) = val Y n := by
 obtain ⟨h0, h1⟩ := val_bd hY n; have hp := pow64_pos n; have e : val Y (n + 1) = val Y n + 18446744073709551616 ^ n * Y n := rfl; have hz : Y n = 0 := by
  rcases Int.lt_or_le 0 (Y n) with g | g
  · have : 18446744073709551616 ^ n * 1 ≤ 18446744073709551616 ^ n * Y n := Int.mul_le_mul_of_nonneg_left (by omega) (by omega)
    omega
  · have := (hY n).1; omega
 refine ⟨hz, ?_⟩; rw [e, hz]; omega
theorem sub_step {x v y z P q b c : Int} (h : Hid (x - q * v = y - P * b)) (hb : b = 1) (k : Hid (y + v = z + P * c)) : Hid (x - (q - 1) * v = z - P * (b - c)) := by
 unfold Hid at *; subst hb; rw [Int.sub_mul, Int.mul_sub]; omega
set_option maxHeartbeats 1000000 in
theorem digit_any (m bx ox cx bv ov cv : Nat) (X V : Nat → Int) (hm : m ≤ 3) (hne : bv ≠ bx) (hX : ∀ i, Limb (X i)) (hV : ∀ i, Limb (V i)) (hv : 9223372036854775808 ≤ V m) (hlt : val X (m + 2) < 18446744073709551616 * val V (m + 1)) (w : World)
 (cX : ∀ i, i ≤ m + 1 → w.cell? ⟨bx, ox + i, none⟩ = some (.int .u64 (X i))) (cV : ∀ i, i < m + 1 → w.cell? ⟨bv, ov + i, none⟩ = some (.int .u64 (V i))) (fX : ∀ i, i ≤ m + 1 → w.frozen? ⟨bx, ox + i, none⟩ = false) :
 Calls Tryz.prog 101 #[.slice (some ⟨bx, ox, none⟩) (m + 2) cx, .slice (some ⟨bv, ov, none⟩) (m + 1) cv] w fun e w' =>
  ∃ (Y : Nat → Int) (q : Int), e = .returned (.int .u64 q) ∧ Limb q ∧ (∀ i, Limb (Y i)) ∧ Hid (val X (m + 2) = q * val V (m + 1) + val Y (m + 1)) ∧ Hid (val Y (m + 1) < val V (m + 1)) ∧ Hid (Y (m + 1) = 0) ∧
    (∀ i, i ≤ m + 1 → w'.cell? ⟨bx, ox + i, none⟩ = some (.int .u64 (Y i))) ∧ Wr bx ox (ox + m + 2) w w' := by
 have hVp : 0 < val V (m + 1) := by
  have h1 := (val_bd hV m).1; have h2 : 0 < 18446744073709551616 ^ m * V m := Int.mul_pos (pow64_pos m) (by omega); show 0 < val V m + _; omega
 have HG : Hid _ := guess_any m bx ox cx bv ov cv X V hm hX hV hv hlt w cX cV; have HX : Hid _ := cX; have HV : Hid _ := cV; have HF : Hid _ := fX; have HLX : Hid _ := hX; have HLV : Hid _ := hV; have HP : Hid _ := hVp; have hQ0 : 0 ≤ val X (m + 2) / val V (m + 1) := Int.ediv_nonneg (val_bd hX _).1 (by omega); clear cX cV fX hX hV hVp hlt; generalize hVV : val V (m + 1) = VV at *; generalize hXX : val X (m + 2) = XX at *; have HVV : Hid _ := hVV; have HXX : Hid _ := hXX; clear hVV hXX; generalize hQ : XX / VV = Q at *; have HQ : Hid _ := hQ; clear hQ; go_enter Tryz.func101, Tryz.ntmps101; go_wp2_with fail; refine Calls.mono HG.out ?_; rintro e w1 ⟨q, rfl, hq, hQq, n1, rfl⟩; go_wp2_with fail; refine (takeTimes_any (m + 1) bx ox cx bv ov cv X V q (by omega) hne hq HLX.out HLV.out (w.drewN n1) (fun i hi => HX.out i hi) (fun i hi => HV.out i hi) (fun i hi => HF.out i hi)).mono ?_; rintro e w2 ⟨Y, b, rfl, ⟨hb0, hb1⟩, hLY, hE, hcY, hW⟩; rw [HXX.out, HVV.out] at hE; have hW : Wr bx ox (ox + m + 2) w w2 := ((Wr.refl _ _ _ _).drewN _).trans hW; have hLY : Hid _ := hLY; have hcY : Hid _ := hcY; clear HG; go_wp2; go_loopw [5, 6] (fun sq sb wr => ∃ (q b : Int) (Y : Nat → Int), sq = .int .u64 q ∧ sb = .int .u64 b ∧ Limb q ∧ 0 ≤ b ∧ b ≤ 1 ∧ Q ≤ q ∧ Hid (∀ i, Limb (Y i)) ∧
  Hid (XX - q * VV = val Y (m + 2) - 18446744073709551616 ^ (m + 2) * b) ∧ Hid (∀ i, i ≤ m + 1 → wr.cell? ⟨bx, ox + i, none⟩ = some (.int .u64 (Y i))) ∧ Wr bx ox (ox + m + 2) w wr) (fun sq _ _ => (intOf sq).toNat)
 case atStart => exact ⟨q, b, Y, rfl, rfl, hq, hb0, hb1, hQq, hLY, hE, hcY, hW⟩
 case round =>
  clear hq hQq hb0 hb1 hLY hE hcY hW; obtain ⟨q, b, Y, rfl, rfl, hq, hb0, hb1, hQq, hLY, hE, hcY, hW⟩ := hrel; obtain ⟨hq0, hq1⟩ := hq; by_cases hb : b = 0
  · subst hb
    go_wp2; go_ret
    have hE' : XX - q * VV = val Y (m + 2) := by have := hE.out; rw [Int.mul_zero] at this; omega
    have h0 := (val_bd hLY.out (m + 2)).1; have hr := quo_eq HP.out (by omega : 0 ≤ XX - q * VV) (by have := HQ.out; omega); have hVb := (val_bd HLV.out (m + 1)).2; rw [HVV.out] at hVb; obtain ⟨hz, ht⟩ := val_top (n := m + 1) hLY.out (by show val Y (m + 2) < _; omega); have ht : val Y (m + 2) = val Y (m + 1) := ht; refine ⟨Y, q, rfl, ⟨hq0, hq1⟩, hLY.out, ?_, ?_, hz, hcY.out, hW⟩
    · show _ = _; omega
    · show _ < _; omega
  · have hb1' : b = 1 := by omega
    have hlt := quo_lt HP.out (by
     have := hE.out; rw [hb1', Int.mul_one] at this; have := (val_bd hLY.out (m + 2)).2; omega : XX - q * VV < 0)
    rw [HQ.out] at hlt; subst hb1'; go_wp2_with fail; refine (putBack_any (m + 1) bx ox cx bv ov cv Y V (by omega) hne hLY.out HLV.out _ hcY.out (fun i hi => (hW.other hne).trans (HV.out i hi)) (fun i hi => (hW.frozen _).trans (HF.out i hi))).mono ?_; rintro e w2 ⟨Z, c, rfl, ⟨hc0, hc1⟩, hLZ, hEZ, hcZ, hWZ⟩; rw [HVV.out] at hEZ; have hLZ : Hid _ := hLZ; have hcZ : Hid _ := hcZ; have hE2 := sub_step hE rfl hEZ; clear hb hb1 hb0; go_wp2; exact ⟨⟨q - 1, 1 - c, Z, rfl, rfl, ⟨by omega, by omega⟩, by omega, by omega, by omega, hLZ, hE2, hcZ, hW.trans hWZ⟩, by simp [intOf]; omega⟩
end Go.Proofs.YtojfcdjgcgnajaaGreat
namespace Go.Proofs.YtojfcdjgcgnajaaGreat
open Go.RowKit
set_option linter.unusedSimpArgs false
set_option linter.unusedVariables false
def usedN (a0 a1 a2 a3 : Int) : Int := if a3 ≠ 0 then 4 else if a2 ≠ 0 then 3 else if a1 ≠ 0 then 2 else if a0 ≠ 0 then 1 else 0
set_option maxHeartbeats 4000000 in
theorem used_any (a0 a1 a2 a3 : Int) (w : World) :
 Calls Tryz.prog 97 #[W4 a0 a1 a2 a3] w fun e w' => e = .returned (.int .i64 (usedN a0 a1 a2 a3)) ∧ ∃ c, w' = w.alloc (.cells c 51) := by
 unfold W4; by_cases h3 : a3 = 0 <;> by_cases h2 : a2 = 0 <;> by_cases h1 : a1 = 0 <;> by_cases h0 : a0 = 0
 all_goals
  have g : ∀ x : Int, ¬ x = 0 → (x != 0) = true := fun x h => by simpa using h
  simp only [usedN, h0, h1, h2, h3, ne_eq, not_true_eq_false, not_false_eq_true, if_true, if_false]; try have k0 := g a0 h0
  try have k1 := g a1 h1
  try have k2 := g a2 h2
  try have k3 := g a3 h3
  clear g; go_enter Tryz.func97, Tryz.ntmps97; go_wp2; refine wp_loop_rounds 5 ?_; iterate 5
   rw [rounds_succ]; go_wp2
  go_ret; exact ⟨rfl, _, rfl⟩
abbrev W9 (x0 x1 x2 x3 x4 x5 x6 x7 x8 : Int) : Value := .agg #[.int .u64 x0, .int .u64 x1, .int .u64 x2, .int .u64 x3, .int .u64 x4, .int .u64 x5, .int .u64 x6, .int .u64 x7, .int .u64 x8]
theorem up_or2 (x y r : Int) (h0 : 0 ≤ r) (h1 : r < 64) (hx : Limb x) (hy : Limb y) :
 bits .or .u64 (y / 2 ^ (64 - r).toNat) (IntKind.u64.wrap (x * 2 ^ r.toNat)) = IntKind.u64.wrap (x * 2 ^ r.toNat) + y / 2 ^ (64 - r).toNat := by
 rw [← up_or x y r h0 h1 hx hy]; obtain ⟨a0, a1⟩ := div_limb y (64 - r).toNat hy; obtain ⟨b0, b1⟩ := limb_wrap (x * 2 ^ r.toNat); obtain ⟨a, ha⟩ := Int.eq_ofNat_of_zero_le a0; obtain ⟨b, hb⟩ := Int.eq_ofNat_of_zero_le b0; rw [ha] at a0 a1 ⊢; rw [hb] at b0 b1 ⊢; rw [bits_or_u64_nat a b (by omega) (by omega), bits_or_u64_nat b a (by omega) (by omega), Nat.or_comm]
theorem or0' (x : Int) (h : Limb x) : bits .or .u64 0 x = x := by
 obtain ⟨x, rfl⟩ := Int.eq_ofNat_of_zero_le h.1; have := bits_or_u64_nat 0 x (by decide) (by have := h.2; omega)
 simpa using this
set_option maxHeartbeats 4000000 in
theorem shifted_walk (u0 u1 u2 u3 u4 u5 u6 u7 s : Int) (hs0 : 0 ≤ s) (hs1 : s < 64) (w : World) :
 Calls Tryz.prog 100 #[W8 u0 u1 u2 u3 u4 u5 u6 u7, .int .u64 s] w fun e w' => e = .returned (W9 (bits .or .u64 0 (IntKind.u64.wrap (u0 * 2 ^ s.toNat))) (bits .or .u64 (u0 / 2 ^ (64 - s).toNat) (IntKind.u64.wrap (u1 * 2 ^ s.toNat))) (bits .or .u64 (u1 / 2 ^ (64 - s).toNat) (IntKind.u64.wrap (u2 * 2 ^ s.toNat))) (bits .or .u64 (u2 / 2 ^ (64 - s).toNat) (IntKind.u64.wrap (u3 * 2 ^ s.toNat))) (bits .or .u64 (u3 / 2 ^ (64 - s).toNat) (IntKind.u64.wrap (u4 * 2 ^ s.toNat))) (bits .or .u64 (u4 / 2 ^ (64 - s).toNat) (IntKind.u64.wrap (u5 * 2 ^ s.toNat))) (bits .or .u64 (u5 / 2 ^ (64 - s).toNat) (IntKind.u64.wrap (u6 * 2 ^ s.toNat))) (bits .or .u64 (u6 / 2 ^ (64 - s).toNat) (IntKind.u64.wrap (u7 * 2 ^ s.toNat))) (u7 / 2 ^ (64 - s).toNat)) ∧ Below w.heap.size w w' := by
 unfold W8; go_enter Tryz.func100, Tryz.ntmps100; go_wp2; refine wp_loop_rounds 9 ?_; iterate 8
  rw [rounds_succ]; go_wp2; go_region; go_wp2
 rw [rounds_succ]; go_wp2; go_returns; exact ⟨rfl, by go_grown⟩
def num9 (x0 x1 x2 x3 x4 x5 x6 x7 x8 : Int) : Int := x0 + 18446744073709551616 * x1 + 340282366920938463463374607431768211456 * x2 + 6277101735386680763835789423207666416102355444464034512896 * x3 + 115792089237316195423570985008687907853269984665640564039457584007913129639936 * x4 + 2135987035920910082395021706169552114602704522356652769947041607822219725780640550022962086936576 * x5 + 39402006196394479212279040100143613805079739270465446667948293404245721771497210611414266254884915640806627990306816 * x6 + 726838724295606890549323807888004534353641360687318060281490199180639288113397923326191050713763565560762521606266177933534601628614656 * x7 + 13407807929942597099574024998205846127479365820592393377723561443721764030073546976801874298166903427690031858186486050853753882811946569946433649006084096 * x8
theorem shifted_num {u0 u1 u2 u3 u4 u5 u6 u7 s : Int} (h0 : 0 ≤ s) (h1 : s < 64) (hu : L4 u0 u1 u2 u3 ∧ L4 u4 u5 u6 u7) :
 num9 (bits .or .u64 0 (IntKind.u64.wrap (u0 * 2 ^ s.toNat))) (bits .or .u64 (u0 / 2 ^ (64 - s).toNat) (IntKind.u64.wrap (u1 * 2 ^ s.toNat))) (bits .or .u64 (u1 / 2 ^ (64 - s).toNat) (IntKind.u64.wrap (u2 * 2 ^ s.toNat))) (bits .or .u64 (u2 / 2 ^ (64 - s).toNat) (IntKind.u64.wrap (u3 * 2 ^ s.toNat))) (bits .or .u64 (u3 / 2 ^ (64 - s).toNat) (IntKind.u64.wrap (u4 * 2 ^ s.toNat))) (bits .or .u64 (u4 / 2 ^ (64 - s).toNat) (IntKind.u64.wrap (u5 * 2 ^ s.toNat))) (bits .or .u64 (u5 / 2 ^ (64 - s).toNat) (IntKind.u64.wrap (u6 * 2 ^ s.toNat))) (bits .or .u64 (u6 / 2 ^ (64 - s).toNat) (IntKind.u64.wrap (u7 * 2 ^ s.toNat))) (u7 / 2 ^ (64 - s).toNat) = (num u0 u1 u2 u3 + T256 * num u4 u5 u6 u7) * 2 ^ s.toNat := by
 rw [or0' _ (limb_wrap _), up_or2 u1 u0 s h0 h1 hu.1.2.1 hu.1.1, up_or2 u2 u1 s h0 h1 hu.1.2.2.1 hu.1.2.1, up_or2 u3 u2 s h0 h1 hu.1.2.2.2 hu.1.2.2.1, up_or2 u4 u3 s h0 h1 hu.2.1 hu.1.2.2.2, up_or2 u5 u4 s h0 h1 hu.2.2.1 hu.2.1, up_or2 u6 u5 s h0 h1 hu.2.2.2.1 hu.2.2.1, up_or2 u7 u6 s h0 h1 hu.2.2.2.2 hu.2.2.2.1]; have e0 := up_parts u0 s h0 h1; have e1 := up_parts u1 s h0 h1; have e2 := up_parts u2 s h0 h1; have e3 := up_parts u3 s h0 h1; have e4 := up_parts u4 s h0 h1; have e5 := up_parts u5 s h0 h1; have e6 := up_parts u6 s h0 h1; have e7 := up_parts u7 s h0 h1; rw [Int.add_mul, Int.mul_assoc, num_mul, num_mul]; generalize IntKind.u64.wrap (u0 * 2 ^ s.toNat) = m0 at *; generalize IntKind.u64.wrap (u1 * 2 ^ s.toNat) = m1 at *; generalize IntKind.u64.wrap (u2 * 2 ^ s.toNat) = m2 at *; generalize IntKind.u64.wrap (u3 * 2 ^ s.toNat) = m3 at *; generalize IntKind.u64.wrap (u4 * 2 ^ s.toNat) = m4 at *; generalize IntKind.u64.wrap (u5 * 2 ^ s.toNat) = m5 at *; generalize IntKind.u64.wrap (u6 * 2 ^ s.toNat) = m6 at *; generalize IntKind.u64.wrap (u7 * 2 ^ s.toNat) = m7 at *; generalize u0 / 2 ^ (64 - s).toNat = g0 at *; generalize u1 / 2 ^ (64 - s).toNat = g1 at *; generalize u2 / 2 ^ (64 - s).toNat = g2 at *; generalize u3 / 2 ^ (64 - s).toNat = g3 at *; generalize u4 / 2 ^ (64 - s).toNat = g4 at *; generalize u5 / 2 ^ (64 - s).toNat = g5 at *; generalize u6 / 2 ^ (64 - s).toNat = g6 at *; generalize u7 / 2 ^ (64 - s).toNat = g7 at *; rw [e0, e1, e2, e3, e4, e5, e6, e7]; clear e0 e1 e2 e3 e4 e5 e6 e7
 unfold num9 T256; omega
theorem shifted_any (u0 u1 u2 u3 u4 u5 u6 u7 s : Int) (hu : L4 u0 u1 u2 u3 ∧ L4 u4 u5 u6 u7) (hs0 : 0 ≤ s) (hs1 : s < 64) (w : World) :
 Calls Tryz.prog 100 #[W8 u0 u1 u2 u3 u4 u5 u6 u7, .int .u64 s] w fun e w' => ∃ x0 x1 x2 x3 x4 x5 x6 x7 x8 : Int, e = .returned (W9 x0 x1 x2 x3 x4 x5 x6 x7 x8) ∧ (L4 x0 x1 x2 x3 ∧ L4 x4 x5 x6 x7 ∧ Limb x8) ∧ Hid (num9 x0 x1 x2 x3 x4 x5 x6 x7 x8 = (num u0 u1 u2 u3 + T256 * num u4 u5 u6 u7) * 2 ^ s.toNat) ∧ Below w.heap.size w w' := by
 refine (shifted_walk u0 u1 u2 u3 u4 u5 u6 u7 s hs0 hs1 w).mono ?_; rintro e w' ⟨rfl, hw⟩; exact ⟨_, _, _, _, _, _, _, _, _, rfl, ⟨⟨limb_bits _ _ _, limb_bits _ _ _, limb_bits _ _ _, limb_bits _ _ _⟩, ⟨limb_bits _ _ _, limb_bits _ _ _, limb_bits _ _ _, limb_bits _ _ _⟩, div_limb _ _ hu.2.2.2.2⟩, shifted_num hs0 hs1 hu, hw⟩
end Go.Proofs.YtojfcdjgcgnajaaGreat
