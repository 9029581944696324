/- Walks over package keccak: chi, forth and back. -/
import Derived.Test.YtmhfgchckebnpaaDoorK3
namespace Go.Proofs.YtmhfgchckebnpaaDoor
open Go.RowKit
set_option linter.unusedSimpArgs false
set_option linter.unusedVariables false

theorem row_drewN {w : World} {b : Nat} {t : TypeId} {n : Nat} {f : Nat → Value} (h : w.rowIs b t n f) (m : Nat) : (w.drewN m).rowIs b t n f := by
  induction m with
  | zero => exact h
  | succ m ih => exact h.of_block (by simp)
theorem Only.drewN {b : Nat} {u v : World} (h : Only b u v) (m : Nat) : Only b u (v.drewN m) :=
  ⟨h.os, h.tape, h.output, h.size, h.block⟩
def mixTo (S : Nat → BitVec 64) (k j : Nat) : BitVec 64 := if j < 5 * k then mix S j else S j
theorem mix_step {S : Nat → BitVec 64} {k b : Nat} {w : World} (hk : k < 5) (h : w.rowIs b 38 25 (lan (mixTo S k)))
    {v0 v1 v2 v3 v4 : Value} (e0 : v0 = .int .u64 (I (S (5 * k) ^^^ (S (5 * k + 2) &&& ~~~ S (5 * k + 1))))) (e1 : v1 = .int .u64 (I (S (5 * k + 1) ^^^ (S (5 * k + 3) &&& ~~~ S (5 * k + 2))))) (e2 : v2 = .int .u64 (I (S (5 * k + 2) ^^^ (S (5 * k + 4) &&& ~~~ S (5 * k + 3))))) (e3 : v3 = .int .u64 (I (S (5 * k + 3) ^^^ (S (5 * k) &&& ~~~ S (5 * k + 4))))) (e4 : v4 = .int .u64 (I (S (5 * k + 4) ^^^ (S (5 * k + 1) &&& ~~~ S (5 * k))))) :
    (((((w.setCell ⟨b, 5 * k, none⟩ v0).setCell ⟨b, 5 * k + 1, none⟩ v1).setCell ⟨b, 5 * k + 2, none⟩ v2).setCell ⟨b, 5 * k + 3, none⟩ v3).setCell ⟨b, 5 * k + 4, none⟩ v4).rowIs b 38 25 (lan (mixTo S (k + 1))) := by
  refine (((((h.set _ _).set _ _).set _ _).set _ _).set _ _).congr ?_
  intro i hi
  subst e0 e1 e2 e3 e4
  have hm : ∀ r p q, r < 5 → (r + 1) % 5 = p → (r + 2) % 5 = q → I (mixTo S (k + 1) (5 * k + r)) = I (S (5 * k + r) ^^^ (S (5 * k + q) &&& ~~~ S (5 * k + p))) := fun r p q hr hp hq => by
    unfold mixTo mix; rw [if_pos (by omega), show (5 * k + r) % 5 = r from by omega, show (5 * k + r) / 5 * 5 = 5 * k from by omega, hp, hq]
  by_cases h4 : i = 5 * k + 4
  · subst h4; simp only [lan, hm 4 0 1 (by decide) rfl rfl, if_true, Nat.add_zero]
  by_cases h3 : i = 5 * k + 3
  · subst h3; simp only [lan, hm 3 4 0 (by decide) rfl rfl, if_true, if_neg h4, Nat.add_zero]
  by_cases h2 : i = 5 * k + 2
  · subst h2; simp only [lan, hm 2 3 4 (by decide) rfl rfl, if_true, if_neg h4, if_neg h3]
  by_cases h1 : i = 5 * k + 1
  · subst h1; simp only [lan, hm 1 2 3 (by decide) rfl rfl, if_true, if_neg h4, if_neg h3, if_neg h2]
  by_cases h0 : i = 5 * k
  · subst h0; have h := hm 0 1 2 (by decide) rfl rfl; simp only [Nat.add_zero] at h; simp only [lan, h, if_true, if_neg h4, if_neg h3, if_neg h2, if_neg h1]
  simp only [if_neg h0, if_neg h1, if_neg h2, if_neg h3, if_neg h4, lan, mixTo]
  by_cases hl : i < 5 * k
  · rw [if_pos hl, if_pos (by omega)]
  · rw [if_neg hl, if_neg (by omega)]
set_option maxRecDepth 20000 in
set_option maxHeartbeats 1000000 in
/-- (*state).mix -/
theorem mix_any (S : Nat → BitVec 64) (b : Nat) (w : World) (hr : w.rowIs b 38 25 (lan S)) :
    Calls Tryd.prog 20 #[.pointer (some ⟨b, 0, none⟩)] w fun e w' => e = .returned (.tuple #[]) ∧ w'.rowIs b 38 25 (lan (mix S)) ∧ Only b w w' := by
  have HR : Hid (w.rowIs b 38 25 (lan S)) := hr
  clear hr
  go_enter Tryd.func20, Tryd.ntmps20
  go_wp2
  go_loopw [2] (fun y wr => ∃ k : Nat, k ≤ 5 ∧ y = .int .i64 (5 * (k : Int)) ∧ wr.rowIs b 38 25 (lan (mixTo S k)) ∧ Only b w wr) (fun y _ => 25 - (intOf y).toNat)
  case atStart => exact ⟨0, by omega, rfl, HR.out.congr (fun i _ => by simp [lan, mixTo]), Only.refl _ _⟩
  case round =>
    obtain ⟨k, hk, rfl, hrow, hon⟩ := hrel
    by_cases hlt : k < 5
    · have c0 : wr.cell? ⟨b, 5 * k, none⟩ = some (.int .u64 (I (S (5 * k)))) := by rw [hrow.cell (by omega)]; simp only [lan, mixTo]; rw [if_neg (by omega)]
      have c1 : wr.cell? ⟨b, 5 * k + 1, none⟩ = some (.int .u64 (I (S (5 * k + 1)))) := by rw [hrow.cell (by omega)]; simp only [lan, mixTo]; rw [if_neg (by omega)]
      have c2 : wr.cell? ⟨b, 5 * k + 2, none⟩ = some (.int .u64 (I (S (5 * k + 2)))) := by rw [hrow.cell (by omega)]; simp only [lan, mixTo]; rw [if_neg (by omega)]
      have c3 : wr.cell? ⟨b, 5 * k + 3, none⟩ = some (.int .u64 (I (S (5 * k + 3)))) := by rw [hrow.cell (by omega)]; simp only [lan, mixTo]; rw [if_neg (by omega)]
      have c4 : wr.cell? ⟨b, 5 * k + 4, none⟩ = some (.int .u64 (I (S (5 * k + 4)))) := by rw [hrow.cell (by omega)]; simp only [lan, mixTo]; rw [if_neg (by omega)]
      have hf := hrow.frozen
      have H1 : Hid (wr.rowIs b 38 25 (lan (mixTo S k)) ∧ Only b w wr) := ⟨hrow, hon⟩
      clear hrow hon HR
      go_wp2
      go_quiet (fail)
      go_wp2
      go_roundw
      case rel =>
        simp only [bx, bn]
        exact ⟨k + 1, by omega, by go_num, mix_step hlt (row_drewN H1.out.1 _) rfl rfl rfl rfl rfl, (((((H1.out.2.drewN _).setCell _ _).setCell _ _).setCell _ _).setCell _ _).setCell _ _⟩
      case measure => simp [intOf]; omega
    · have : k = 5 := by omega
      subst this
      go_wp2
      go_returns
      exact ⟨rfl, hrow.congr (fun i hi => by simp only [lan, mixTo]; rw [if_pos (by omega)]), hon⟩
set_option maxHeartbeats 1000000 in
/-- (*state).unmix -/
theorem unmix_any (S : Nat → BitVec 64) (b : Nat) (w : World) (hr : w.rowIs b 38 25 (lan S)) :
    Calls Tryd.prog 25 #[.pointer (some ⟨b, 0, none⟩)] w fun e w' => e = .returned (.tuple #[]) ∧ w'.rowIs b 38 25 (lan (mix (mix (mix S)))) ∧ Only b w w' := by
  have HR : Hid (w.rowIs b 38 25 (lan S)) := hr
  clear hr
  go_enter Tryd.func25, Tryd.ntmps25
  go_wp2
  refine wp_loop_rounds 4 ?_
  rw [rounds_succ]
  go_wp2_with (go_at_call 20; refine (mix_any S b _ HR.out).mono ?_; rintro e w1 ⟨rfl, h1, o1⟩)
  have H1 : Hid (w1.rowIs b 38 25 (lan (mix S)) ∧ Only b w w1) := ⟨h1, o1⟩
  clear h1 o1 HR
  rw [rounds_succ]
  go_wp2_with (go_at_call 20; refine (mix_any (mix S) b _ H1.out.1).mono ?_; rintro e w2 ⟨rfl, h2, o2⟩)
  have H2 : Hid (w2.rowIs b 38 25 (lan (mix (mix S))) ∧ Only b w w2) := ⟨h2, H1.out.2.trans o2⟩
  clear h2 o2 H1
  rw [rounds_succ]
  go_wp2_with (go_at_call 20; refine (mix_any (mix (mix S)) b _ H2.out.1).mono ?_; rintro e w3 ⟨rfl, h3, o3⟩)
  have H3 : Hid (w3.rowIs b 38 25 (lan (mix (mix (mix S)))) ∧ Only b w w3) := ⟨h3, H2.out.2.trans o3⟩
  clear h3 o3 H2
  rw [rounds_succ]
  go_wp2
  go_returns
  exact ⟨rfl, H3.out⟩
end Go.Proofs.YtmhfgchckebnpaaDoor
