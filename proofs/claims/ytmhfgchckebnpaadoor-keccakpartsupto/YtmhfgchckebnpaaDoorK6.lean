/- Walks over package keccak: rho and pi taken back along the path. -/
import Derived.Test.YtmhfgchckebnpaaDoorK5
namespace Go.Proofs.YtmhfgchckebnpaaDoor
open Go.RowKit
set_option linter.unusedSimpArgs false
set_option linter.unusedVariables false

theorem backTo_start (S : Nat → BitVec 64) (j : Nat) (hj : j < 25) : backTo S 24 j = S j := by
  unfold backTo
  by_cases h0 : j = 0
  · rw [if_neg (by simp [h0])]
  · have := path_pos0 ⟨j, hj⟩ h0
    simp only at this
    rw [if_neg (by omega)]
theorem backTo_next (S : Nat → BitVec 64) (s : Nat) (hs : s < 24) : backTo S (s + 1) (path s) = S (path s) := by
  have h := pos0_path ⟨s, hs⟩
  simp only at h
  unfold backTo
  rw [if_neg (by omega)]
theorem backTo_step (S : Nat → BitVec 64) (s j : Nat) (hs : s < 24) (hj : j < 25) : backTo S s j = if j = path s then (S (path (s + 1))).rotateLeft (64 - turn s % 64) else backTo S (s + 1) j := by
  have h := pos0_path ⟨s, hs⟩
  simp only at h
  by_cases e : j = path s
  · rw [if_pos e, e]
    unfold backTo
    rw [if_pos ⟨h.2, by omega⟩, h.1]
  · rw [if_neg e]
    unfold backTo
    by_cases h0 : j = 0
    · rw [if_neg (by simp [h0]), if_neg (by simp [h0])]
    · have hp := path_pos0 ⟨j, hj⟩ h0
      simp only at hp
      have hne : pos0 j ≠ s := fun he => e (by rw [← he]; exact hp.1.symm)
      by_cases hl : s ≤ pos0 j
      · rw [if_pos ⟨h0, hl⟩, if_pos ⟨h0, by omega⟩]
      · rw [if_neg (by omega), if_neg (by omega)]
theorem back_row {S : Nat → BitVec 64} {s b p : Nat} {w : World} (hs : s < 24) (hp : p = path s) (h : w.rowIs b 38 25 (lan (backTo S (s + 1)))) {v : Value} (hv : v = .int .u64 (I ((S (path (s + 1))).rotateLeft (64 - turn s % 64)))) :
    (w.setCell ⟨b, p, none⟩ v).rowIs b 38 25 (lan (backTo S s)) := by
  refine (h.set _ _).congr ?_
  intro i hi
  subst hp hv
  simp only [lan]
  rw [backTo_step S s i hs hi]
  split <;> rfl
theorem rot_neg (x : BitVec 64) (n : Nat) : x.rotateLeft (-(n : Int) % 64).toNat = x.rotateLeft (64 - n % 64) := by
  by_cases h : n % 64 = 0
  · rw [show (-(n : Int) % 64).toNat = 64 * 0 from by omega, h, rot_64, show 64 - 0 = 64 * 1 from rfl, rot_64]
  · rw [show (-(n : Int) % 64).toNat = 64 - n % 64 from by omega]
set_option maxRecDepth 20000 in
set_option maxHeartbeats 1000000 in
/-- (*state).walkBack -/
theorem walkBack_any (S : Nat → BitVec 64) (b : Nat) (w : World) (hr : w.rowIs b 38 25 (lan S)) (hp : PathIn w) (hb : b ≠ 0) :
    Calls Tryd.prog 26 #[.pointer (some ⟨b, 0, none⟩)] w fun e w' => e = .returned (.tuple #[]) ∧ w'.rowIs b 38 25 (lan (back S)) ∧ Only b w w' := by
  have p0 : w.cell? ⟨0, 24, none⟩ = some (.int .u8 1) := hp 24 (by decide)
  have c1 := hr.cell (i := 1) (by decide)
  simp only [lan] at c1
  have HR : Hid (w.rowIs b 38 25 (lan S) ∧ PathIn w) := ⟨hr, hp⟩
  clear hr hp
  go_enter Tryd.func26, Tryd.ntmps26
  go_wp2
  go_quiet (fail)
  go_wp2
  go_loopw [2, 3] (fun l i wr => ∃ t : Nat, t ≤ 24 ∧ i = .int .i64 ((t : Int) - 1) ∧ l = .int .u64 (I (S (path t))) ∧ wr.rowIs b 38 25 (lan (backTo S t)) ∧ Only b w wr) (fun _ i _ => (intOf i + 1).toNat)
  case atStart => exact ⟨24, by omega, rfl, rfl, (row_drewN HR.out.1 _).congr (fun i hi => by simp only [lan]; rw [backTo_start S i hi]), (Only.refl _ _).drewN _⟩
  case round =>
    obtain ⟨t, ht, rfl, rfl, hrow, hon⟩ := hrel
    cases t with
    | succ s =>
      obtain ⟨p, hp⟩ : ∃ p, p = path s := ⟨_, rfl⟩
      have hpl : p < 25 := by rw [hp]; exact path_lt _
      have pc : wr.cell? ⟨0, s, none⟩ = some (.int .u8 (p : Int)) := by rw [hp]; exact (HR.out.2.only hon hb) s (by omega)
      have cc : wr.cell? ⟨b, p, none⟩ = some (.int .u64 (I (S p))) := by rw [hrow.cell hpl]; simp only [lan]; rw [hp, backTo_next S s (by omega)]
      have hf := hrow.frozen
      have H1 : Hid (wr.rowIs b 38 25 (lan (backTo S (s + 1))) ∧ Only b w wr ∧ p = path s) := ⟨hrow, hon, hp⟩
      have hsl : s < 24 := by omega
      have hsi : ((s + 1 : Nat) : Int) - 1 = (s : Int) := by omega
      clear hrow hon HR hp p0 c1 ht
      rw [hsi]
      clear hsi
      have htb : turn s ≤ 1000 := by
        unfold turn
        have : (s + 1) * (s + 2) ≤ 24 * 25 := Nat.mul_le_mul (by omega) (by omega)
        omega
      go_wp2
      go_region_with (first | (go_at_call 33; refine (turn_any _ (by omega) _).mono ?_; rintro e w' ⟨rfl, hs⟩; obtain rfl := hs.symm) | (go_at_call 32; refine (rotl_any _ _ _).mono ?_; rintro e w' ⟨rfl, hs⟩; obtain rfl := hs.symm))
      all_goals
        clear pc cc hf
        go_wp2
        go_roundw
        case rel => exact ⟨s, by omega, by go_num, by rw [H1.out.2.2], (back_row hsl H1.out.2.2 H1.out.1 (by rw [← rot_neg])).drew, (H1.out.2.1.setCell _ _).drew⟩
        case measure => first | (simp [intOf]; done) | (simp [intOf]; omega)
    | zero =>
      go_wp2
      go_returns
      exact ⟨rfl, hrow, hon⟩
end Go.Proofs.YtmhfgchckebnpaaDoor
