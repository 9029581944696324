/- Walks over package keccak: rho and pi along the path. -/
import Derived.Test.YtboeokmaepchgaaGreatDoorM12
namespace Go.Proofs.YtboeokmaepchgaaGreatDoor.Kc
open Go.RowKit
set_option linter.unusedSimpArgs false
set_option linter.unusedVariables false

/-- The package's variable path holds the path. -/
def PathIn (w : World) : Prop := ∀ t, t < 25 → w.cell? ⟨1, t, none⟩ = some (.int .u8 ((path t : Nat) : Int))
theorem PathIn.only {b : Nat} {u v : World} (h : PathIn u) (o : Only b u v) (hb : b ≠ 1) : PathIn v := fun t ht => (World.cell?_of_block (w := u) (o.block 1 (Ne.symm hb))).trans (h t ht)
theorem PathIn.below {B : Nat} {u v : World} (h : PathIn u) (o : Below B u v) (hb : 1 < B) : PathIn v := fun t ht => (World.cell?_of_block (w := u) (o.block 1 hb)).trans (h t ht)

theorem walkTo_zero (S : Nat → BitVec 64) (j : Nat) (hj : j < 25) : walkTo S 0 j = S j := by
  unfold walkTo
  by_cases h0 : j = 0
  · rw [if_neg (by simp [h0])]
  · have := path_pos ⟨j, hj⟩ h0
    simp only at this
    rw [if_neg (by omega)]
theorem walkTo_next (S : Nat → BitVec 64) (t : Nat) (ht : t < 24) : walkTo S t (path (t + 1)) = S (path (t + 1)) := by
  have h := pos_path ⟨t, ht⟩
  simp only at h
  unfold walkTo
  rw [if_neg (by omega)]
theorem walkTo_step (S : Nat → BitVec 64) (t j : Nat) (ht : t < 24) (hj : j < 25) : walkTo S (t + 1) j = if j = path (t + 1) then (S (path t)).rotateLeft (turn t % 64) else walkTo S t j := by
  have h := pos_path ⟨t, ht⟩
  simp only at h
  by_cases e : j = path (t + 1)
  · rw [if_pos e, e]
    unfold walkTo
    rw [if_pos ⟨h.2.1, by omega⟩, h.1, Nat.add_sub_cancel]
  · rw [if_neg e]
    unfold walkTo
    by_cases h0 : j = 0
    · rw [if_neg (by simp [h0]), if_neg (by simp [h0])]
    · have hp := path_pos ⟨j, hj⟩ h0
      simp only at hp
      have hne : pos j ≠ t + 1 := fun he => e (by rw [← he]; exact hp.1.symm)
      by_cases hl : pos j ≤ t
      · rw [if_pos ⟨h0, by omega⟩, if_pos ⟨h0, hl⟩]
      · rw [if_neg (by omega), if_neg (by omega)]
theorem walk_row {S : Nat → BitVec 64} {t b p : Nat} {w : World} (ht : t < 24) (hp : p = path (t + 1)) (h : w.rowIs b 260 25 (lan (walkTo S t))) {v : Value} (hv : v = .int .u64 (I ((S (path t)).rotateLeft (turn t % 64)))) :
    (w.setCell ⟨b, p, none⟩ v).rowIs b 260 25 (lan (walkTo S (t + 1))) := by
  refine (h.set _ _).congr ?_
  intro i hi
  subst hp hv
  simp only [lan]
  rw [walkTo_step S t i ht hi]
  split <;> rfl
theorem rot_val (x : BitVec 64) (n : Nat) : Value.int .u64 (I (x.rotateLeft ((n : Int) % 64).toNat)) = .int .u64 (I (x.rotateLeft (n % 64))) := by
  rw [show ((n : Int) % 64).toNat = n % 64 from by omega]
set_option maxRecDepth 20000 in
set_option maxHeartbeats 1000000 in
/-- (*state).walk -/
theorem walk_any (S : Nat → BitVec 64) (b : Nat) (w : World) (hr : w.rowIs b 260 25 (lan S)) (hp : PathIn w) (hb : b ≠ 1) :
    Calls Tryz.prog 191 #[.pointer (some ⟨b, 0, none⟩)] w fun e w' => e = .returned (.tuple #[]) ∧ w'.rowIs b 260 25 (lan (walk S)) ∧ Only b w w' := by
  have p0 : w.cell? ⟨1, 0, none⟩ = some (.int .u8 1) := hp 0 (by decide)
  have c1 := hr.cell (i := 1) (by decide)
  simp only [lan] at c1
  have HR : Hid (w.rowIs b 260 25 (lan S) ∧ PathIn w) := ⟨hr, hp⟩
  clear hr hp
  go_enter Tryz.func191, Tryz.ntmps191
  go_wp2
  go_quiet (fail)
  go_wp2

  go_loopw [2, 11] (fun l i wr => ∃ t : Nat, t ≤ 24 ∧ i = .int .i64 (t : Int) ∧ l = .int .u64 (I (S (path t))) ∧ wr.rowIs b 260 25 (lan (walkTo S t)) ∧ Only b w wr) (fun _ i _ => 24 - (intOf i).toNat)
  case atStart => exact ⟨0, by omega, rfl, rfl, (row_drewN HR.out.1 _).congr (fun i hi => by simp only [lan]; rw [walkTo_zero S i hi]), (Only.refl _ _).drewN _⟩
  case round =>
    obtain ⟨t, ht, rfl, rfl, hrow, hon⟩ := hrel
    by_cases hlt : t < 24
    · obtain ⟨p, hp⟩ : ∃ p, p = path (t + 1) := ⟨_, rfl⟩
      have hpl : p < 25 := by rw [hp]; exact path_lt _
      have pc : wr.cell? ⟨1, t + 1, none⟩ = some (.int .u8 (p : Int)) := by rw [hp]; exact (HR.out.2.only hon hb) (t + 1) (by omega)
      have cc : wr.cell? ⟨b, p, none⟩ = some (.int .u64 (I (S p))) := by rw [hrow.cell hpl]; simp only [lan]; rw [hp, walkTo_next S t hlt]
      have hf := hrow.frozen
      have H1 : Hid (wr.rowIs b 260 25 (lan (walkTo S t)) ∧ Only b w wr ∧ p = path (t + 1)) := ⟨hrow, hon, hp⟩
      clear hrow hon HR hp p0 c1
      go_wp2
      go_region_with (first | (go_at_call 215; refine (turn_any _ (by omega) _).mono ?_; rintro e w' ⟨rfl, hs⟩; obtain rfl := hs.symm) | (go_at_call 214; refine (rotl_any _ _ _).mono ?_; rintro e w' ⟨rfl, hs⟩; obtain rfl := hs.symm))
      all_goals
        clear pc cc hf
        go_wp2
        go_roundw
        case rel => exact ⟨t + 1, by omega, by go_num, by rw [H1.out.2.2], (walk_row hlt H1.out.2.2 H1.out.1 (by first | rw [rot_mod] | exact rot_val _ _)).drew, (H1.out.2.1.setCell _ _).drew⟩
        case measure => simp [intOf]; omega
    · have : t = 24 := by omega
      subst this
      go_wp2
      go_returns
      exact ⟨rfl, hrow, hon⟩
end Go.Proofs.YtboeokmaepchgaaGreatDoor.Kc
