/- BN, FS, O1, RB -/
import Derived.Test.YtojfcdjgcgnajaaGreatGR4
import Derived.Laws.IdiomStrings
import Derived.Test.YtojfcdjgcgnajaaGreatGW3
namespace Go.Proofs.YtojfcdjgcgnajaaGreat
open Go.RowKit
set_option linter.unusedSimpArgs false
set_option linter.unusedVariables false
def IsD (w : World) (v : Value) (d : List Int) : Prop :=
 ∃ a cap, v = .slice a d.length cap ∧ d.length ≤ cap ∧ ∀ k, k < d.length → ∃ b o, a = some ⟨b, o, none⟩ ∧ b < w.heap.size ∧ w.cell? ⟨b, o + k, none⟩ = some (.int .u8 (d.getD k 0))
theorem IsD.below {w w' : World} {v : Value} {d : List Int} (h : IsD w v d) (hb : Below w.heap.size w w') : IsD w' v d := by
 obtain ⟨a, cap, rfl, hcap, h⟩ := h; refine ⟨a, cap, rfl, hcap, fun k hk => ?_⟩; obtain ⟨b, o, rfl, hlt, hc⟩ := h k hk; exact ⟨b, o, rfl, Nat.lt_of_lt_of_le hlt hb.size, (hb.cell (p := ⟨b, o + k, none⟩) hlt).trans hc⟩
set_option maxHeartbeats 4000000 in
theorem number_any (w : World) (v : Value) (d : List Int) (h : IsD w v d) (l : d.length ≤ 32) (B : Byt d) :
 Calls Tryz.prog 57 #[v] w fun e w' => ∃ r0 r1 r2 r3, e = .returned (W4 r0 r1 r2 r3) ∧ L4 r0 r1 r2 r3 ∧ Hid (num r0 r1 r2 r3 = valB d) ∧ Below w.heap.size w w' := by
 obtain ⟨aa, ca, rfl, hca, h⟩ := h; have HC : Hid _ := h; have HB : Hid (Byt d) := B; clear h B; unfold W4; go_enter Tryz.func57, Tryz.ntmps57; go_wp2; go_loopw [7] (fun i wr => ∃ (k : Nat) (x0 x1 x2 x3 : Int) (n : Nat), k ≤ d.length ∧ i = .int .i64 k ∧ Hid (L4 x0 x1 x2 x3) ∧ Hid (num x0 x1 x2 x3 = valB (d.take k)) ∧ wr = ((w.alloc (.cells #[.int .u64 0, .int .u64 0, .int .u64 0, .int .u64 0] 51)).alloc (.cells #[.int .u64 x0, .int .u64 x1, .int .u64 x2, .int .u64 x3] 51)).drewN n) (fun i _ => 32 - (intOf i).toNat)
 case atStart => exact ⟨0, 0, 0, 0, 0, 0, by omega, rfl, ⟨⟨by decide, by decide⟩, ⟨by decide, by decide⟩, ⟨by decide, by decide⟩, ⟨by decide, by decide⟩⟩, rfl, rfl⟩
 case round =>
  obtain ⟨k, x0, x1, x2, x3, n, hkl, rfl, hL, hN, rfl⟩ := hrel; by_cases hkd : k < d.length
  · obtain ⟨b, o, rfl, hb, hcell⟩ := HC.out k hkd
    have hy := HB.out k; obtain ⟨y, hyd⟩ : ∃ y, y = d.getD k 0 := ⟨_, rfl⟩
    rw [← hyd] at hy hcell; have hlow : num x0 x1 x2 x3 < 256 ^ k := by
     rw [hN.out]; have h1 := (valB_bd (d.take k) (HB.out.take k)).2; rw [List.length_take, Nat.min_eq_left hkl] at h1; exact h1
    rcases (by omega : k < 8 ∨ (8 ≤ k ∧ k < 16) ∨ (16 ≤ k ∧ k < 24) ∨ (24 ≤ k ∧ k < 32)) with h8 | ⟨h8, h8'⟩ | ⟨h8, h8'⟩ | ⟨h8, h8'⟩
    · obtain ⟨r, hr, rfl⟩ : ∃ r, r < 8 ∧ k = 0 + r := ⟨k - 0, by omega, by omega⟩
      have e1 : ((0 + r : Nat) : Int) / 8 = 0 := by omega
      have e2 : ((0 + r : Nat) : Int) % 8 = r := by omega
      have hP := pow8_bd r hr; have hp : (256 : Int) ^ (0 + r) = 1 * 2 ^ (8 * r) := by rw [Int.pow_add, Int.pow_mul]; rfl
      have hx : 0 ≤ x0 ∧ x0 < 2 ^ (8 * r) := by
       have h1 := hlow; rw [hp] at h1; obtain ⟨⟨_, _⟩, ⟨_, _⟩, ⟨_, _⟩, ⟨_, _⟩⟩ := hL.out; unfold num at h1; omega
      obtain ⟨hor, hl4⟩ := or_add x0 y r hr hx.1 hx.2 hy.1 hy.2; have hL2 : Hid (L4 (x0 + y * 2 ^ (8 * r)) x1 x2 x3) := ⟨hl4, hL.out.2.1, hL.out.2.2.1, hL.out.2.2.2⟩
      have hN2 : Hid (num (x0 + y * 2 ^ (8 * r)) x1 x2 x3 = valB (d.take (0 + r + 1))) := by
       show _ = _; have := hN.out; rw [valB_take_succ, ← hN.out, ← hyd, hp, Int.mul_assoc, Int.mul_comm (2 ^ (8 * r)) y]; unfold num; omega
      clear hp hx hlow hl4 hN hP; have hKl : ((0 + r : Nat) : Int) < d.length := by omega
      generalize hK : ((0 + r : Nat) : Int) = K at *; have hc : ((w.alloc (.cells #[.int .u64 0, .int .u64 0, .int .u64 0, .int .u64 0] 51)).alloc (.cells #[.int .u64 x0, .int .u64 x1, .int .u64 x2, .int .u64 x3] 51)).cell? ⟨b, o + K.toNat, none⟩ = some (.int .u8 y) := by
       rw [show K.toNat = 0 + r from by omega, World.cell?_alloc_past _ _ _ (by simp; omega), World.cell?_alloc_past _ _ _ hb, hcell]
      have hwy : IntKind.u64.wrap y = y := by rw [IntKind.wrap_u64]; exact Int.emod_eq_of_lt hy.1 (by omega)
      have hK0 : 0 ≤ K := by omega
      have hK1 : K < 32 := by omega
      clear hcell hyd HC; go_wp2; go_region; go_wp2; exact ⟨⟨0 + r + 1, (x0 + y * 2 ^ (8 * r)), x1, x2, x3, _, by omega, by go_num, hL2, hN2, set_new2 _ _ _ _ _ _ _⟩, by simp [intOf]; omega⟩
    · obtain ⟨r, hr, rfl⟩ : ∃ r, r < 8 ∧ k = 8 + r := ⟨k - 8, by omega, by omega⟩
      have e1 : ((8 + r : Nat) : Int) / 8 = 1 := by omega
      have e2 : ((8 + r : Nat) : Int) % 8 = r := by omega
      have hP := pow8_bd r hr; have hp : (256 : Int) ^ (8 + r) = 18446744073709551616 * 2 ^ (8 * r) := by rw [Int.pow_add, Int.pow_mul]; rfl
      have hx : 0 ≤ x1 ∧ x1 < 2 ^ (8 * r) := by
       have h1 := hlow; rw [hp] at h1; obtain ⟨⟨_, _⟩, ⟨_, _⟩, ⟨_, _⟩, ⟨_, _⟩⟩ := hL.out; unfold num at h1; omega
      obtain ⟨hor, hl4⟩ := or_add x1 y r hr hx.1 hx.2 hy.1 hy.2; have hL2 : Hid (L4 x0 (x1 + y * 2 ^ (8 * r)) x2 x3) := ⟨hL.out.1, hl4, hL.out.2.2.1, hL.out.2.2.2⟩
      have hN2 : Hid (num x0 (x1 + y * 2 ^ (8 * r)) x2 x3 = valB (d.take (8 + r + 1))) := by
       show _ = _; have := hN.out; rw [valB_take_succ, ← hN.out, ← hyd, hp, Int.mul_assoc, Int.mul_comm (2 ^ (8 * r)) y]; unfold num; omega
      clear hp hx hlow hl4 hN hP; have hKl : ((8 + r : Nat) : Int) < d.length := by omega
      generalize hK : ((8 + r : Nat) : Int) = K at *; have hc : ((w.alloc (.cells #[.int .u64 0, .int .u64 0, .int .u64 0, .int .u64 0] 51)).alloc (.cells #[.int .u64 x0, .int .u64 x1, .int .u64 x2, .int .u64 x3] 51)).cell? ⟨b, o + K.toNat, none⟩ = some (.int .u8 y) := by
       rw [show K.toNat = 8 + r from by omega, World.cell?_alloc_past _ _ _ (by simp; omega), World.cell?_alloc_past _ _ _ hb, hcell]
      have hwy : IntKind.u64.wrap y = y := by rw [IntKind.wrap_u64]; exact Int.emod_eq_of_lt hy.1 (by omega)
      have hK0 : 0 ≤ K := by omega
      have hK1 : K < 32 := by omega
      clear hcell hyd HC; go_wp2; go_region; go_wp2; exact ⟨⟨8 + r + 1, x0, (x1 + y * 2 ^ (8 * r)), x2, x3, _, by omega, by go_num, hL2, hN2, set_new2 _ _ _ _ _ _ _⟩, by simp [intOf]; omega⟩
    · obtain ⟨r, hr, rfl⟩ : ∃ r, r < 8 ∧ k = 16 + r := ⟨k - 16, by omega, by omega⟩
      have e1 : ((16 + r : Nat) : Int) / 8 = 2 := by omega
      have e2 : ((16 + r : Nat) : Int) % 8 = r := by omega
      have hP := pow8_bd r hr; have hp : (256 : Int) ^ (16 + r) = 340282366920938463463374607431768211456 * 2 ^ (8 * r) := by rw [Int.pow_add, Int.pow_mul]; rfl
      have hx : 0 ≤ x2 ∧ x2 < 2 ^ (8 * r) := by
       have h1 := hlow; rw [hp] at h1; obtain ⟨⟨_, _⟩, ⟨_, _⟩, ⟨_, _⟩, ⟨_, _⟩⟩ := hL.out; unfold num at h1; omega
      obtain ⟨hor, hl4⟩ := or_add x2 y r hr hx.1 hx.2 hy.1 hy.2; have hL2 : Hid (L4 x0 x1 (x2 + y * 2 ^ (8 * r)) x3) := ⟨hL.out.1, hL.out.2.1, hl4, hL.out.2.2.2⟩
      have hN2 : Hid (num x0 x1 (x2 + y * 2 ^ (8 * r)) x3 = valB (d.take (16 + r + 1))) := by
       show _ = _; have := hN.out; rw [valB_take_succ, ← hN.out, ← hyd, hp, Int.mul_assoc, Int.mul_comm (2 ^ (8 * r)) y]; unfold num; omega
      clear hp hx hlow hl4 hN hP; have hKl : ((16 + r : Nat) : Int) < d.length := by omega
      generalize hK : ((16 + r : Nat) : Int) = K at *; have hc : ((w.alloc (.cells #[.int .u64 0, .int .u64 0, .int .u64 0, .int .u64 0] 51)).alloc (.cells #[.int .u64 x0, .int .u64 x1, .int .u64 x2, .int .u64 x3] 51)).cell? ⟨b, o + K.toNat, none⟩ = some (.int .u8 y) := by
       rw [show K.toNat = 16 + r from by omega, World.cell?_alloc_past _ _ _ (by simp; omega), World.cell?_alloc_past _ _ _ hb, hcell]
      have hwy : IntKind.u64.wrap y = y := by rw [IntKind.wrap_u64]; exact Int.emod_eq_of_lt hy.1 (by omega)
      have hK0 : 0 ≤ K := by omega
      have hK1 : K < 32 := by omega
      clear hcell hyd HC; go_wp2; go_region; go_wp2; exact ⟨⟨16 + r + 1, x0, x1, (x2 + y * 2 ^ (8 * r)), x3, _, by omega, by go_num, hL2, hN2, set_new2 _ _ _ _ _ _ _⟩, by simp [intOf]; omega⟩
    · obtain ⟨r, hr, rfl⟩ : ∃ r, r < 8 ∧ k = 24 + r := ⟨k - 24, by omega, by omega⟩
      have e1 : ((24 + r : Nat) : Int) / 8 = 3 := by omega
      have e2 : ((24 + r : Nat) : Int) % 8 = r := by omega
      have hP := pow8_bd r hr; have hp : (256 : Int) ^ (24 + r) = 6277101735386680763835789423207666416102355444464034512896 * 2 ^ (8 * r) := by rw [Int.pow_add, Int.pow_mul]; rfl
      have hx : 0 ≤ x3 ∧ x3 < 2 ^ (8 * r) := by
       have h1 := hlow; rw [hp] at h1; obtain ⟨⟨_, _⟩, ⟨_, _⟩, ⟨_, _⟩, ⟨_, _⟩⟩ := hL.out; unfold num at h1; omega
      obtain ⟨hor, hl4⟩ := or_add x3 y r hr hx.1 hx.2 hy.1 hy.2; have hL2 : Hid (L4 x0 x1 x2 (x3 + y * 2 ^ (8 * r))) := ⟨hL.out.1, hL.out.2.1, hL.out.2.2.1, hl4⟩
      have hN2 : Hid (num x0 x1 x2 (x3 + y * 2 ^ (8 * r)) = valB (d.take (24 + r + 1))) := by
       show _ = _; have := hN.out; rw [valB_take_succ, ← hN.out, ← hyd, hp, Int.mul_assoc, Int.mul_comm (2 ^ (8 * r)) y]; unfold num; omega
      clear hp hx hlow hl4 hN hP; have hKl : ((24 + r : Nat) : Int) < d.length := by omega
      generalize hK : ((24 + r : Nat) : Int) = K at *; have hc : ((w.alloc (.cells #[.int .u64 0, .int .u64 0, .int .u64 0, .int .u64 0] 51)).alloc (.cells #[.int .u64 x0, .int .u64 x1, .int .u64 x2, .int .u64 x3] 51)).cell? ⟨b, o + K.toNat, none⟩ = some (.int .u8 y) := by
       rw [show K.toNat = 24 + r from by omega, World.cell?_alloc_past _ _ _ (by simp; omega), World.cell?_alloc_past _ _ _ hb, hcell]
      have hwy : IntKind.u64.wrap y = y := by rw [IntKind.wrap_u64]; exact Int.emod_eq_of_lt hy.1 (by omega)
      have hK0 : 0 ≤ K := by omega
      have hK1 : K < 32 := by omega
      clear hcell hyd HC; go_wp2; go_region; go_wp2; exact ⟨⟨24 + r + 1, x0, x1, x2, (x3 + y * 2 ^ (8 * r)), _, by omega, by go_num, hL2, hN2, set_new2 _ _ _ _ _ _ _⟩, by simp [intOf]; omega⟩
  · have HE : Hid (num x0 x1 x2 x3 = valB d) := by
     show _ = _; rw [hN.out, valB_take_all d k (by omega)]
    have HL : Hid (L4 x0 x1 x2 x3) := hL; have hBW : Below w.heap.size w (((w.alloc (.cells #[.int .u64 0, .int .u64 0, .int .u64 0, .int .u64 0] 51)).alloc (.cells #[.int .u64 x0, .int .u64 x1, .int .u64 x2, .int .u64 x3] 51)).drewN n) := below_drew (by go_grown) n; have hkl : k = d.length := by omega
    subst hkl; clear hN hL; go_wp2; go_returns; exact ⟨x0, x1, x2, x3, rfl, HL.out, HE, by go_grown⟩
end Go.Proofs.YtojfcdjgcgnajaaGreat
namespace Go.Proofs.YtojfcdjgcgnajaaGreat
open Go.RowKit
set_option linter.unusedSimpArgs false
set_option linter.unusedVariables false
def dL (x : Int) : List Int := (List.range 32).map fun j => x / 256 ^ j % 256
theorem dL_len (x : Int) : (dL x).length = 32 := by simp [dL]
theorem dL_get (x : Int) (k : Nat) (hk : k < 32) : (dL x).getD k 0 = x / 256 ^ k % 256 := by
 simp [dL, List.getD_eq_getElem?_getD, hk]
theorem dL_byt (x : Int) : Byt (dL x) := fun k => by
 by_cases hk : k < 32
 · rw [dL_get x k hk]; omega
 · rw [List.getD_eq_getElem?_getD, List.getElem?_eq_none (by rw [dL_len]; omega)]; simp
theorem emod_mul' (x p : Int) (hp : 0 < p) : x % (p * 256) = x % p + p * (x / p % 256) := by
 have e1 := Int.mul_ediv_add_emod x p; have e2 := Int.mul_ediv_add_emod (x / p) 256; have hr := Int.emod_nonneg x (show p ≠ 0 by omega); have hr2 := Int.emod_lt_of_pos x hp; have hq : 0 ≤ x / p % 256 ∧ x / p % 256 < 256 := by omega
 generalize x % p = r at *; generalize hQ : x / p = q at *; generalize q % 256 = s at *; generalize q / 256 = t at *; have e : x = (r + p * s) + p * 256 * t := by rw [← e1, ← e2]; grind
 have b1 : 0 ≤ p * s := Int.mul_nonneg (by omega) hq.1; have b2 : p * s ≤ p * 255 := Int.mul_le_mul_of_nonneg_left (by omega) (by omega); rw [e, Int.add_mul_emod_self_left, Int.emod_eq_of_lt (by omega) (by omega)]
theorem valB_dL_take (x : Int) (h0 : 0 ≤ x) : ∀ k, k ≤ 32 → valB ((dL x).take k) = x % 256 ^ k
 | 0, _ => by simp [valB]
 | k + 1, hk => by
   rw [valB_take_succ, valB_dL_take x h0 k (by omega), dL_get x k (by omega)]; have hp : (0 : Int) < 256 ^ k := Int.pow_pos (by decide); rw [show (256 : Int) ^ (k + 1) = 256 ^ k * 256 from Int.pow_succ _ _]; rw [emod_mul' x (256 ^ k) hp]
theorem valB_dL (x : Int) (h0 : 0 ≤ x) (h : x < T256) : valB (dL x) = x := by
 have := valB_dL_take x h0 32 (Nat.le_refl _); rw [valB_take_all _ _ (by rw [dL_len]; exact Nat.le_refl _)] at this; rw [this, Int.emod_eq_of_lt h0 (by unfold T256 at h; omega)]
end Go.Proofs.YtojfcdjgcgnajaaGreat
namespace Go.Proofs.YtojfcdjgcgnajaaGreat
open Go.RowKit
set_option linter.unusedSimpArgs false
set_option linter.unusedVariables false
def low (a0 a1 a2 a3 : Int) : Nat → Int
 | 0 => 0
 | 1 => a0
 | 2 => a0 + 18446744073709551616 * a1
 | 3 => a0 + 18446744073709551616 * a1 + 340282366920938463463374607431768211456 * a2
 | _ => num a0 a1 a2 a3
theorem cmp_step (x y d e P : Int) (hx : 0 ≤ x) (hx' : x < P) (hy : 0 ≤ y) (hy' : y < P) : (d < e → cmpN (x + P * d) (y + P * e) = -1) ∧ (e < d → cmpN (x + P * d) (y + P * e) = 1) ∧ (d = e → cmpN (x + P * d) (y + P * e) = cmpN x y) := by
 refine ⟨fun h => ?_, fun h => ?_, fun h => ?_⟩
 · have h1 : P * (d + 1) ≤ P * e := Int.mul_le_mul_of_nonneg_left (by omega) (by omega)
   rw [Int.mul_add] at h1; unfold cmpN; rw [if_pos (by omega)]
 · have h1 : P * (e + 1) ≤ P * d := Int.mul_le_mul_of_nonneg_left (by omega) (by omega)
   rw [Int.mul_add] at h1; unfold cmpN; rw [if_neg (by omega), if_pos (by omega)]
 · subst h
   unfold cmpN; by_cases h1 : x < y
   · rw [if_pos h1, if_pos (by omega)]
   · rw [if_neg h1, if_neg (by omega)]
     by_cases h2 : y < x
     · rw [if_pos h2, if_pos (by omega)]
     · rw [if_neg h2, if_neg (by omega)]
theorem low_step0 {a0 a1 a2 a3 b0 b1 b2 b3 : Int} (ha : L4 a0 a1 a2 a3) (hb : L4 b0 b1 b2 b3) :
 (a0 < b0 → cmpN (low a0 a1 a2 a3 1) (low b0 b1 b2 b3 1) = -1) ∧ (b0 < a0 → cmpN (low a0 a1 a2 a3 1) (low b0 b1 b2 b3 1) = 1) ∧ (a0 = b0 → cmpN (low a0 a1 a2 a3 1) (low b0 b1 b2 b3 1) = cmpN (low a0 a1 a2 a3 0) (low b0 b1 b2 b3 0)) := by
 obtain ⟨⟨_, _⟩, ⟨_, _⟩, ⟨_, _⟩, ⟨_, _⟩⟩ := ha; obtain ⟨⟨_, _⟩, ⟨_, _⟩, ⟨_, _⟩, ⟨_, _⟩⟩ := hb; have h := cmp_step (low a0 a1 a2 a3 0) (low b0 b1 b2 b3 0) a0 b0 1 (by simp only [low]; omega) (by simp only [low]; omega) (by simp only [low]; omega) (by simp only [low]; omega); have ea : low a0 a1 a2 a3 0 + 1 * a0 = low a0 a1 a2 a3 1 := by simp only [low] <;> omega
 have eb : low b0 b1 b2 b3 0 + 1 * b0 = low b0 b1 b2 b3 1 := by simp only [low] <;> omega
 rw [ea, eb] at h; exact h
theorem low_step1 {a0 a1 a2 a3 b0 b1 b2 b3 : Int} (ha : L4 a0 a1 a2 a3) (hb : L4 b0 b1 b2 b3) :
 (a1 < b1 → cmpN (low a0 a1 a2 a3 2) (low b0 b1 b2 b3 2) = -1) ∧ (b1 < a1 → cmpN (low a0 a1 a2 a3 2) (low b0 b1 b2 b3 2) = 1) ∧ (a1 = b1 → cmpN (low a0 a1 a2 a3 2) (low b0 b1 b2 b3 2) = cmpN (low a0 a1 a2 a3 1) (low b0 b1 b2 b3 1)) := by
 obtain ⟨⟨_, _⟩, ⟨_, _⟩, ⟨_, _⟩, ⟨_, _⟩⟩ := ha; obtain ⟨⟨_, _⟩, ⟨_, _⟩, ⟨_, _⟩, ⟨_, _⟩⟩ := hb; have h := cmp_step (low a0 a1 a2 a3 1) (low b0 b1 b2 b3 1) a1 b1 18446744073709551616 (by simp only [low]; omega) (by simp only [low]; omega) (by simp only [low]; omega) (by simp only [low]; omega); have ea : low a0 a1 a2 a3 1 + 18446744073709551616 * a1 = low a0 a1 a2 a3 2 := by simp only [low] <;> omega
 have eb : low b0 b1 b2 b3 1 + 18446744073709551616 * b1 = low b0 b1 b2 b3 2 := by simp only [low] <;> omega
 rw [ea, eb] at h; exact h
theorem low_step2 {a0 a1 a2 a3 b0 b1 b2 b3 : Int} (ha : L4 a0 a1 a2 a3) (hb : L4 b0 b1 b2 b3) :
 (a2 < b2 → cmpN (low a0 a1 a2 a3 3) (low b0 b1 b2 b3 3) = -1) ∧ (b2 < a2 → cmpN (low a0 a1 a2 a3 3) (low b0 b1 b2 b3 3) = 1) ∧ (a2 = b2 → cmpN (low a0 a1 a2 a3 3) (low b0 b1 b2 b3 3) = cmpN (low a0 a1 a2 a3 2) (low b0 b1 b2 b3 2)) := by
 obtain ⟨⟨_, _⟩, ⟨_, _⟩, ⟨_, _⟩, ⟨_, _⟩⟩ := ha; obtain ⟨⟨_, _⟩, ⟨_, _⟩, ⟨_, _⟩, ⟨_, _⟩⟩ := hb; have h := cmp_step (low a0 a1 a2 a3 2) (low b0 b1 b2 b3 2) a2 b2 340282366920938463463374607431768211456 (by simp only [low]; omega) (by simp only [low]; omega) (by simp only [low]; omega) (by simp only [low]; omega); have ea : low a0 a1 a2 a3 2 + 340282366920938463463374607431768211456 * a2 = low a0 a1 a2 a3 3 := by simp only [low] <;> omega
 have eb : low b0 b1 b2 b3 2 + 340282366920938463463374607431768211456 * b2 = low b0 b1 b2 b3 3 := by simp only [low] <;> omega
 rw [ea, eb] at h; exact h
theorem low_step3 {a0 a1 a2 a3 b0 b1 b2 b3 : Int} (ha : L4 a0 a1 a2 a3) (hb : L4 b0 b1 b2 b3) :
 (a3 < b3 → cmpN (low a0 a1 a2 a3 4) (low b0 b1 b2 b3 4) = -1) ∧ (b3 < a3 → cmpN (low a0 a1 a2 a3 4) (low b0 b1 b2 b3 4) = 1) ∧ (a3 = b3 → cmpN (low a0 a1 a2 a3 4) (low b0 b1 b2 b3 4) = cmpN (low a0 a1 a2 a3 3) (low b0 b1 b2 b3 3)) := by
 obtain ⟨⟨_, _⟩, ⟨_, _⟩, ⟨_, _⟩, ⟨_, _⟩⟩ := ha; obtain ⟨⟨_, _⟩, ⟨_, _⟩, ⟨_, _⟩, ⟨_, _⟩⟩ := hb; have h := cmp_step (low a0 a1 a2 a3 3) (low b0 b1 b2 b3 3) a3 b3 6277101735386680763835789423207666416102355444464034512896 (by simp only [low]; omega) (by simp only [low]; omega) (by simp only [low]; omega) (by simp only [low]; omega); have ea : low a0 a1 a2 a3 3 + 6277101735386680763835789423207666416102355444464034512896 * a3 = low a0 a1 a2 a3 4 := by simp only [low]; unfold num <;> omega
 have eb : low b0 b1 b2 b3 3 + 6277101735386680763835789423207666416102355444464034512896 * b3 = low b0 b1 b2 b3 4 := by simp only [low]; unfold num <;> omega
 rw [ea, eb] at h; exact h
theorem hid_symm {a b : Int} (h : Hid (a = b)) : Hid (b = a) := Eq.symm h
theorem hid_trans {a b c : Int} (h : Hid (c = a)) (k : Hid (b = a)) : Hid (c = b) := Eq.trans h (Eq.symm k)
set_option maxHeartbeats 8000000 in
theorem cmp_walk (a0 a1 a2 a3 b0 b1 b2 b3 : Int) (ha : L4 a0 a1 a2 a3) (hb : L4 b0 b1 b2 b3) (q : ∀ w, (Op.equalIn 10000 51 (W4 a0 a1 a2 a3) (W4 b0 b1 b2 b3)).run Tryz.prog w = .ok false w) (w : World) :
 Calls Tryz.prog 82 #[W4 a0 a1 a2 a3, W4 b0 b1 b2 b3] w fun e w' => e = .returned (.int .i64 (cmpN (num a0 a1 a2 a3) (num b0 b1 b2 b3))) ∧ Below w.heap.size w w' := by
 have HA : Hid _ := ha; have HB : Hid _ := hb; clear ha hb; unfold W4 at *; go_enter Tryz.func82, Tryz.ntmps82; go_wp2; go_loopw [5, 10] (fun s i wr => ∃ (k : Nat) (c : Int), k ≤ 4 ∧ s = .int .i64 c ∧ i = .int .i64 k ∧ Hid (c = cmpN (low a0 a1 a2 a3 k) (low b0 b1 b2 b3 k)) ∧ ∃ n, wr = ((w.alloc (.cells #[.int .u64 a0, .int .u64 a1, .int .u64 a2, .int .u64 a3] 51)).alloc (.cells #[.int .u64 b0, .int .u64 b1, .int .u64 b2, .int .u64 b3] 51)).drewN n) (fun _ i _ => 4 - (intOf i).toNat)
 case atStart => exact ⟨0, 0, by omega, rfl, rfl, rfl, 0, rfl⟩
 case round =>
  obtain ⟨k, c, hk, rfl, rfl, HE, n, rfl⟩ := hrel; rcases (by omega : k = 0 ∨ k = 1 ∨ k = 2 ∨ k = 3 ∨ k = 4) with rfl | rfl | rfl | rfl | rfl
  · obtain ⟨g1, g2, g3⟩ := low_step0 HA.out HB.out
    rcases Int.lt_trichotomy a0 b0 with h | h | h
    · have HS : Hid _ := g1 h
      clear g1 g2 g3; go_wp2; go_quiet (fail); go_wp2; exact ⟨⟨1, -1, by omega, rfl, rfl, hid_symm HS, _, rfl⟩, by simp [intOf]⟩
    · have HS : Hid _ := (g3 h)
      have hd : decide (a0 < b0) = false := by simp; omega
      have hd2 : decide (b0 < a0) = false := by simp; omega
      clear g1 g2 g3 h; go_wp2; go_quiet (fail); go_wp2; go_quiet (fail); go_wp2; exact ⟨⟨1, c, by omega, rfl, rfl, hid_trans HE HS, _, rfl⟩, by simp [intOf]⟩
    · have HS : Hid _ := g2 h
      have hd : decide (a0 < b0) = false := by simp; omega
      clear g1 g2 g3; go_wp2; go_quiet (fail); go_wp2; go_quiet (fail); go_wp2; exact ⟨⟨1, 1, by omega, rfl, rfl, hid_symm HS, _, rfl⟩, by simp [intOf]⟩
  · obtain ⟨g1, g2, g3⟩ := low_step1 HA.out HB.out
    rcases Int.lt_trichotomy a1 b1 with h | h | h
    · have HS : Hid _ := g1 h
      clear g1 g2 g3; go_wp2; go_quiet (fail); go_wp2; exact ⟨⟨2, -1, by omega, rfl, rfl, hid_symm HS, _, rfl⟩, by simp [intOf]⟩
    · have HS : Hid _ := (g3 h)
      have hd : decide (a1 < b1) = false := by simp; omega
      have hd2 : decide (b1 < a1) = false := by simp; omega
      clear g1 g2 g3 h; go_wp2; go_quiet (fail); go_wp2; go_quiet (fail); go_wp2; exact ⟨⟨2, c, by omega, rfl, rfl, hid_trans HE HS, _, rfl⟩, by simp [intOf]⟩
    · have HS : Hid _ := g2 h
      have hd : decide (a1 < b1) = false := by simp; omega
      clear g1 g2 g3; go_wp2; go_quiet (fail); go_wp2; go_quiet (fail); go_wp2; exact ⟨⟨2, 1, by omega, rfl, rfl, hid_symm HS, _, rfl⟩, by simp [intOf]⟩
  · obtain ⟨g1, g2, g3⟩ := low_step2 HA.out HB.out
    rcases Int.lt_trichotomy a2 b2 with h | h | h
    · have HS : Hid _ := g1 h
      clear g1 g2 g3; go_wp2; go_quiet (fail); go_wp2; exact ⟨⟨3, -1, by omega, rfl, rfl, hid_symm HS, _, rfl⟩, by simp [intOf]⟩
    · have HS : Hid _ := (g3 h)
      have hd : decide (a2 < b2) = false := by simp; omega
      have hd2 : decide (b2 < a2) = false := by simp; omega
      clear g1 g2 g3 h; go_wp2; go_quiet (fail); go_wp2; go_quiet (fail); go_wp2; exact ⟨⟨3, c, by omega, rfl, rfl, hid_trans HE HS, _, rfl⟩, by simp [intOf]⟩
    · have HS : Hid _ := g2 h
      have hd : decide (a2 < b2) = false := by simp; omega
      clear g1 g2 g3; go_wp2; go_quiet (fail); go_wp2; go_quiet (fail); go_wp2; exact ⟨⟨3, 1, by omega, rfl, rfl, hid_symm HS, _, rfl⟩, by simp [intOf]⟩
  · obtain ⟨g1, g2, g3⟩ := low_step3 HA.out HB.out
    rcases Int.lt_trichotomy a3 b3 with h | h | h
    · have HS : Hid _ := g1 h
      clear g1 g2 g3; go_wp2; go_quiet (fail); go_wp2; exact ⟨⟨4, -1, by omega, rfl, rfl, hid_symm HS, _, rfl⟩, by simp [intOf]⟩
    · have HS : Hid _ := (g3 h)
      have hd : decide (a3 < b3) = false := by simp; omega
      have hd2 : decide (b3 < a3) = false := by simp; omega
      clear g1 g2 g3 h; go_wp2; go_quiet (fail); go_wp2; go_quiet (fail); go_wp2; exact ⟨⟨4, c, by omega, rfl, rfl, hid_trans HE HS, _, rfl⟩, by simp [intOf]⟩
    · have HS : Hid _ := g2 h
      have hd : decide (a3 < b3) = false := by simp; omega
      clear g1 g2 g3; go_wp2; go_quiet (fail); go_wp2; go_quiet (fail); go_wp2; exact ⟨⟨4, 1, by omega, rfl, rfl, hid_symm HS, _, rfl⟩, by simp [intOf]⟩
  · go_wp2
    go_ret; have e : c = cmpN (num a0 a1 a2 a3) (num b0 b1 b2 b3) := HE.out
    have hBW : Below w.heap.size w ((w.alloc (.cells #[.int .u64 a0, .int .u64 a1, .int .u64 a2, .int .u64 a3] 51)).alloc (.cells #[.int .u64 b0, .int .u64 b1, .int .u64 b2, .int .u64 b3] 51)) := by go_grown
    exact ⟨congrArg (fun z => Ending.returned (.int .i64 z)) e, hBW.trans ⟨rfl, rfl, rfl, Nat.le_refl _, fun _ _ => rfl⟩⟩
set_option maxHeartbeats 1000000 in
theorem cmp_same (a0 a1 a2 a3 : Int) (w : World) :
 Calls Tryz.prog 82 #[W4 a0 a1 a2 a3, W4 a0 a1 a2 a3] w fun e w' => e = .returned (.int .i64 0) ∧ Below w.heap.size w w' := by
 have q := eq24_same a0 a1 a2 a3; unfold W4 at *; go_enter Tryz.func82, Tryz.ntmps82; go_wp2; go_ret; exact ⟨rfl, by go_grown⟩
theorem cmp_any (a0 a1 a2 a3 b0 b1 b2 b3 : Int) (ha : L4 a0 a1 a2 a3) (hb : L4 b0 b1 b2 b3) (w : World) :
 Calls Tryz.prog 82 #[W4 a0 a1 a2 a3, W4 b0 b1 b2 b3] w fun e w' => e = .returned (.int .i64 (cmpN (num a0 a1 a2 a3) (num b0 b1 b2 b3))) ∧ Below w.heap.size w w' := by
 by_cases h : num a0 a1 a2 a3 = num b0 b1 b2 b3
 · obtain ⟨rfl, rfl, rfl, rfl⟩ := num_inj ha hb h
   have e : cmpN (num a0 a1 a2 a3) (num a0 a1 a2 a3) = 0 := by unfold cmpN; rw [if_neg (by omega), if_neg (by omega)]
   rw [e]; exact cmp_same a0 a1 a2 a3 w
 · exact cmp_walk a0 a1 a2 a3 b0 b1 b2 b3 ha hb (fun w => by rw [eq24_num ha hb]; simp [h]) w
end Go.Proofs.YtojfcdjgcgnajaaGreat
namespace Go.Proofs.YtojfcdjgcgnajaaGreat
open Go.RowKit
set_option linter.unusedSimpArgs false
set_option linter.unusedVariables false
def rdE (p : Int) (d : List Int) : Int := if d.length = 32 then (if p ≤ valB d then 20 else 0) else 1
def rdV (p : Int) (d : List Int) : Int := if d.length = 32 then (if p ≤ valB d then 0 else valB d) else 0
theorem g_cmp {va vb : Value} {x y : Int} (ha : IsW va x) (hb : IsW vb y) (w : World) : Calls Tryz.prog 82 #[va, vb] w fun e w' => e = .returned (.int .i64 (cmpN x y)) ∧ Below w.heap.size w w' := by
 obtain ⟨a0, a1, a2, a3, rfl, la, rfl⟩ := ha; obtain ⟨b0, b1, b2, b3, rfl, lb, rfl⟩ := hb; exact cmp_any a0 a1 a2 a3 b0 b1 b2 b3 la lb w
theorem g_number {w : World} {v : Value} {d : List Int} (h : IsD w v d) (l : d.length ≤ 32) (B : Byt d) : Calls Tryz.prog 57 #[v] w fun e w' => ∃ u, e = .returned u ∧ IsW u (valB d) ∧ Below w.heap.size w w' := by
 refine (number_any w v d h l B).mono ?_; rintro e w' ⟨r0, r1, r2, r3, rfl, hL, hN, hb⟩; exact ⟨_, rfl, ⟨_, _, _, _, rfl, hL, hN.out⟩, hb⟩
set_option maxHeartbeats 2000000 in
theorem rb_any {vp : Value} {p : Int} (hp : IsW vp p) (w : World) (v : Value) (d : List Int) (h : IsD w v d) (B : Byt d) (hm : d.length ≤ 9223372036854775807) :
 Calls Tryz.prog 114 #[vp, v] w fun e w' => ∃ u, e = .returned (.tuple #[u, .int .i64 (rdE p d)]) ∧ IsW u (rdV p d) ∧ Below w.heap.size w w' := by
 have HP : Hid (IsW vp p) := hp; have HD : Hid (IsD w v d) := h; have HB : Hid (Byt d) := B; obtain ⟨p0, p1, p2, p3, rfl, lp, np⟩ := hp; obtain ⟨aa, ca, rfl, hca, hc⟩ := h; have V0 : Hid (VarW ((w.alloc (.cells (C4 p0 p1 p2 p3) 51)).alloc (.cells (C4 0 0 0 0) 51)) w.heap.size (W4 p0 p1 p2 p3) ∧ VarW ((w.alloc (.cells (C4 p0 p1 p2 p3) 51)).alloc (.cells (C4 0 0 0 0) 51)) (w.heap.size + 1) (W4 0 0 0 0) ∧ Below w.heap.size w ((w.alloc (.cells (C4 p0 p1 p2 p3) 51)).alloc (.cells (C4 0 0 0 0) 51))) :=
  ⟨VarW.mk lp (heap_old _ _ _ _ (heap_alloc_new _ _)), ⟨⟨0, isw0⟩, heapAt _ _ _ (by simp)⟩, by go_grown⟩
 clear hc B np lp; by_cases hl : d.length = 32
 · have HL : Hid (d.length = 32) := hl
   have HD2 : Hid (IsD w (.slice aa 32 ca) d) := by rw [← hl]; exact HD
   rw [hl]; clear hca hm HD hl; go_enter Tryz.func114, Tryz.ntmps114; unfold W4; go_wp2_with fail; generalize (w.alloc (.cells (C4 p0 p1 p2 p3) 51)).alloc (.cells (C4 0 0 0 0) 51) = W0 at V0 ⊢; refine Calls.mono (g_number (HD2.out.below V0.out.2.2) (by rw [HL.out]; exact Nat.le_refl _) HB.out) ?_; rintro e w12 ⟨v12, rfl, h12, b12⟩; have H12 : Hid (IsW v12 (valB d)) := h12; have hn := VarW.new w12; have hs : Hid (w.heap.size + 1 < w12.heap.size ∧ w.heap.size ≤ w12.heap.size) := by
    have := (V0.out.2.1.kept b12).lt; exact ⟨by omega, by omega⟩
   have V1 : Hid (VarW ((w12.alloc (.cells (C4 0 0 0 0) 51)).setRow w12.heap.size (cw v12)) w.heap.size (W4 p0 p1 p2 p3) ∧ VarW ((w12.alloc (.cells (C4 0 0 0 0) 51)).setRow w12.heap.size (cw v12)) (w.heap.size + 1) (W4 0 0 0 0) ∧ VarW ((w12.alloc (.cells (C4 0 0 0 0) 51)).setRow w12.heap.size (cw v12)) w12.heap.size v12 ∧ Below w.heap.size w ((w12.alloc (.cells (C4 0 0 0 0) 51)).setRow w12.heap.size (cw v12))) :=
    ⟨((V0.out.1.kept b12).old _).other (by have := hs.out; omega) _, ((V0.out.2.1.kept b12).old _).other (by have := hs.out; omega) _, hn.put h12, below_setRow ((V0.out.2.2.trans (b12.mono V0.out.2.2.size)).alloc hs.out.2 _) hs.out.2 _⟩
   clear V0 b12; go_wp2_with (first | (refine wpList_store_varW rfl _ _ rfl w12.heap.size rfl rfl h12 hn ?_) | (refine wpList_load_varW rfl _ rfl w12.heap.size rfl V1.out.2.2.1 ?_) | (refine wpList_load_varW rfl _ rfl w.heap.size rfl V1.out.1 ?_)); clear hn h12; generalize (w12.alloc (.cells (C4 0 0 0 0) 51)).setRow w12.heap.size (cw v12) = W1 at V1 ⊢; generalize w12.heap.size = z at V1 hs ⊢; refine Calls.mono (g_cmp H12.out HP.out _) ?_; rintro e w15 ⟨rfl, b15⟩; have V2 : Hid (VarW w15 (w.heap.size + 1) (W4 0 0 0 0) ∧ VarW w15 z v12 ∧ Below w.heap.size w w15) := ⟨V1.out.2.1.kept b15, V1.out.2.2.1.kept b15, V1.out.2.2.2.trans (b15.mono V1.out.2.2.2.size)⟩
   clear V1 b15; by_cases hlt : p ≤ valB d
   · have HE : Hid (rdE p d = 20 ∧ rdV p d = 0) := by unfold rdE rdV; rw [if_pos HL.out, if_pos HL.out, if_pos hlt, if_pos hlt]; exact ⟨rfl, rfl⟩
     have hcm : 0 ≤ cmpN (valB d) p := by unfold cmpN; split; omega; split <;> omega
     generalize cmpN (valB d) p = cm at hcm ⊢; go_wp2_with (first | (refine wpList_build rfl 51 _ rfl (by kernel_rfl) ?_; generalize hG : (Program.built _ _ _).getD #[] = G; obtain rfl : G = C4 0 0 0 0 := by rw [← hG]; kernel_rfl) | (refine wpList_store_varW rfl _ _ rfl (w.heap.size + 1) rfl rfl isw0 V2.out.1 ?_)); try clear hG
     have hl := (V2.out.1.put isw0).load; refine bodyPost_ret (v := .tuple #[W4 0 0 0 0, .int .i64 20]) (by simp [results, Tryz.results114, asAddr, hl]) rfl ⟨_, by rw [HE.out.1], by rw [HE.out.2]; exact isw0, below_setRow V2.out.2.2 (by omega) _⟩
   · have HE : Hid (rdE p d = 0 ∧ rdV p d = valB d) := by unfold rdE rdV; rw [if_pos HL.out, if_pos HL.out, if_neg hlt, if_neg hlt]; exact ⟨rfl, rfl⟩
     have hcm : cmpN (valB d) p = -1 := by unfold cmpN; rw [if_pos (by omega)]
     rw [hcm]; go_wp2_with (first | (refine wpList_load_varW rfl _ rfl z rfl V2.out.2.1 ?_) | (refine wpList_store_varW rfl _ _ rfl (w.heap.size + 1) rfl rfl H12.out V2.out.1 ?_)); have hl := (V2.out.1.put H12.out).load; refine bodyPost_ret (v := .tuple #[v12, .int .i64 0]) (by simp [results, Tryz.results114, asAddr, hl]) rfl ⟨_, by rw [HE.out.1], by rw [HE.out.2]; exact H12.out, below_setRow V2.out.2.2 (by omega) _⟩
 · have HE : Hid (rdE p d = 1 ∧ rdV p d = 0) := by unfold rdE rdV; rw [if_neg hl, if_neg hl]; exact ⟨rfl, rfl⟩
   have hd : ((d.length : Int) = 32) = False := by simp; omega
   clear HD HB HP; go_enter Tryz.func114, Tryz.ntmps114; unfold W4; go_wp2_with (first | (refine wpList_build rfl 51 _ rfl (by kernel_rfl) ?_; generalize hG : (Program.built _ _ _).getD #[] = G; obtain rfl : G = C4 0 0 0 0 := by rw [← hG]; kernel_rfl) | (refine wpList_store_varW rfl _ _ rfl (w.heap.size + 1) rfl rfl isw0 V0.out.2.1 ?_)); have hl := (V0.out.2.1.put isw0).load; refine bodyPost_ret (v := .tuple #[W4 0 0 0 0, .int .i64 1]) (by simp [results, Tryz.results114, asAddr, hl]) rfl ⟨_, by rw [HE.out.1], by rw [HE.out.2]; exact isw0, below_setRow V0.out.2.2 (by omega) _⟩
set_option maxHeartbeats 1000000 in
theorem read_any (w : World) (v : Value) (d : List Int) (h : IsD w v d) (B : Byt d) (hm : d.length ≤ 9223372036854775807) :
 Calls Tryz.prog 110 #[v] w fun e w' => ∃ u, e = .returned (.tuple #[u, .int .i64 (rdE PP d)]) ∧ IsW u (rdV PP d) ∧ Below w.heap.size w w' := by
 have HD : Hid (IsD w v d) := h; have V0 : Hid (VarW (w.alloc (.cells (C4 0 0 0 0) 51)) w.heap.size (W4 0 0 0 0) ∧ Below w.heap.size w (w.alloc (.cells (C4 0 0 0 0) 51))) := ⟨VarW.new w, by go_grown⟩
 clear h; go_enter Tryz.func110, Tryz.ntmps110; go_wp2_with fail; generalize w.alloc (.cells (C4 0 0 0 0) 51) = W0 at V0 ⊢; refine Calls.mono (g_p _) ?_; rintro e w1 ⟨v1, rfl, h1, b1⟩; have V1 : Hid (VarW w1 w.heap.size (W4 0 0 0 0) ∧ Below w.heap.size w w1) := ⟨V0.out.1.kept b1, V0.out.2.trans (b1.mono V0.out.2.size)⟩
 clear V0 b1; go_wp2_with fail; refine Calls.mono (rb_any h1 _ v d (HD.out.below V1.out.2) B hm) ?_; rintro e w2 ⟨u, rfl, hu, b2⟩; have V2 : Hid (VarW w2 w.heap.size (W4 0 0 0 0) ∧ Below w.heap.size w w2) := ⟨V1.out.1.kept b2, V1.out.2.trans (b2.mono V1.out.2.size)⟩
 clear V1 b2; go_wp2_with (first | (refine wpList_store_varW rfl _ _ rfl w.heap.size rfl rfl hu V2.out.1 ?_)); have hl := (V2.out.1.put hu).load; refine bodyPost_ret (v := .tuple #[u, .int .i64 (rdE PP d)]) (by simp [results, Tryz.results110, asAddr, hl]) rfl ⟨_, rfl, hu, below_setRow V2.out.2 (by omega) _⟩
end Go.Proofs.YtojfcdjgcgnajaaGreat
