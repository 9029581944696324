/- Walks over package keccak: theta, chi: writes into one block. -/
import Derived.Test.YtmhfgchckebnpaaDoorK2
namespace Go.Proofs.YtmhfgchckebnpaaDoor
open Go.RowKit
set_option linter.unusedSimpArgs false
set_option linter.unusedVariables false

/-- Block b alone has turned; no block is new. -/
structure Only (b : Nat) (w w' : World) : Prop where
  os : w'.os = w.os
  tape : w'.tape = w.tape
  output : w'.output = w.output
  size : w'.heap.size = w.heap.size
  block : ∀ k, k ≠ b → w'.heap[k]? = w.heap[k]?
theorem Only.refl (b : Nat) (w : World) : Only b w w := ⟨rfl, rfl, rfl, rfl, fun _ _ => rfl⟩
theorem Only.trans {b : Nat} {u v w : World} (h : Only b u v) (k : Only b v w) : Only b u w :=
  ⟨k.os.trans h.os, k.tape.trans h.tape, k.output.trans h.output, k.size.trans h.size, fun i hi => (k.block i hi).trans (h.block i hi)⟩
theorem Only.drew {b : Nat} {u v : World} (h : Only b u v) : Only b u v.drew := ⟨h.os, h.tape, h.output, h.size, h.block⟩
theorem Only.setCell {b : Nat} {u v : World} (h : Only b u v) (o : Nat) (x : Value) : Only b u (v.setCell ⟨b, o, none⟩ x) :=
  h.trans ⟨rfl, rfl, rfl, by simp, fun k hk => Go.Deep.blk_setCell_other _ _ _ _ hk⟩
theorem Only.setRow {b : Nat} {u v : World} (h : Only b u v) (c : Array Value) : Only b u (v.setRow b c) :=
  h.trans ⟨rfl, rfl, rfl, by simp, fun k hk => setRow_other _ _ _ _ hk⟩
theorem Only.row {b b' : Nat} {u v : World} (h : Only b u v) (hb : b' ≠ b) {t : TypeId} {n : Nat} {f : Nat → Value} (hr : u.rowIs b' t n f) : v.rowIs b' t n f := hr.of_block (h.block _ hb)
theorem Only.below {b B : Nat} {a u v : World} (h : Only b u v) (k : Below B a u) (hb : B ≤ b) : Below B a v :=
  k.trans ⟨h.os, h.tape, h.output, by rw [h.size]; exact Nat.le_refl _, fun i hi => h.block i (by omega)⟩

def spreadTo (S c : Nat → BitVec 64) (k j : Nat) : BitVec 64 := if j < 5 * k then spread S c j else S j
theorem spread_step {S c : Nat → BitVec 64} {k b : Nat} {w : World} (hk : k < 5) (h : w.rowIs b 38 25 (lan (spreadTo S c k)))
    {v0 v1 v2 v3 v4 : Value} (e0 : v0 = .int .u64 (I (S (5 * k) ^^^ dif c 0))) (e1 : v1 = .int .u64 (I (S (5 * k + 1) ^^^ dif c 1))) (e2 : v2 = .int .u64 (I (S (5 * k + 2) ^^^ dif c 2))) (e3 : v3 = .int .u64 (I (S (5 * k + 3) ^^^ dif c 3))) (e4 : v4 = .int .u64 (I (S (5 * k + 4) ^^^ dif c 4))) :
    (((((w.setCell ⟨b, 5 * k, none⟩ v0).setCell ⟨b, 5 * k + 1, none⟩ v1).setCell ⟨b, 5 * k + 2, none⟩ v2).setCell ⟨b, 5 * k + 3, none⟩ v3).setCell ⟨b, 5 * k + 4, none⟩ v4).rowIs b 38 25 (lan (spreadTo S c (k + 1))) := by
  refine (((((h.set _ _).set _ _).set _ _).set _ _).set _ _).congr ?_
  intro i hi
  subst e0 e1 e2 e3 e4
  have hm : ∀ r, r < 5 → I (spreadTo S c (k + 1) (5 * k + r)) = I (S (5 * k + r) ^^^ dif c r) := fun r hr => by
    unfold spreadTo spread; rw [if_pos (by omega), show (5 * k + r) % 5 = r from by omega]
  by_cases h4 : i = 5 * k + 4
  · subst h4; simp only [lan, hm 4 (by decide), if_true]
  by_cases h3 : i = 5 * k + 3
  · subst h3; simp only [lan, hm 3 (by decide), if_true, if_neg h4]
  by_cases h2 : i = 5 * k + 2
  · subst h2; simp only [lan, hm 2 (by decide), if_true, if_neg h4, if_neg h3]
  by_cases h1 : i = 5 * k + 1
  · subst h1; simp only [lan, hm 1 (by decide), if_true, if_neg h4, if_neg h3, if_neg h2]
  by_cases h0 : i = 5 * k
  · subst h0; have h := hm 0 (by decide); simp only [Nat.add_zero] at h; simp only [lan, h, if_true, if_neg h4, if_neg h3, if_neg h2, if_neg h1]
  simp only [if_neg h0, if_neg h1, if_neg h2, if_neg h3, if_neg h4, lan, spreadTo]
  by_cases hl : i < 5 * k
  · rw [if_pos hl, if_pos (by omega)]
  · rw [if_neg hl, if_neg (by omega)]
set_option maxHeartbeats 1000000 in
/-- (*state).spread -/
theorem spread_any (S c : Nat → BitVec 64) (b : Nat) (w : World) (hr : w.rowIs b 38 25 (lan S)) :
    Calls Tryd.prog 17 #[.pointer (some ⟨b, 0, none⟩), .int .u64 (I (c 0)), .int .u64 (I (c 1)), .int .u64 (I (c 2)), .int .u64 (I (c 3)), .int .u64 (I (c 4))] w fun e w' => e = .returned (.tuple #[]) ∧ w'.rowIs b 38 25 (lan (spread S c)) ∧ Only b w w' := by
  have HR : Hid (w.rowIs b 38 25 (lan S)) := hr
  clear hr
  go_enter Tryd.func17, Tryd.ntmps17
  go_wp2_with (go_at_call 31; refine (between_any _ _ _).mono ?_; rintro e w' ⟨rfl, hs⟩; obtain rfl := hs.symm)
  go_loopw [12] (fun y wr => ∃ k : Nat, k ≤ 5 ∧ y = .int .i64 (5 * (k : Int)) ∧ wr.rowIs b 38 25 (lan (spreadTo S c k)) ∧ Only b w wr) (fun y _ => 25 - (intOf y).toNat)
  case atStart => exact ⟨0, by omega, rfl, HR.out.congr (fun i _ => by simp [lan, spreadTo]), Only.refl _ _⟩
  case round =>
    obtain ⟨k, hk, rfl, hrow, hon⟩ := hrel
    by_cases hlt : k < 5
    · have c0 : wr.cell? ⟨b, 5 * k, none⟩ = some (.int .u64 (I (S (5 * k)))) := by rw [hrow.cell (by omega)]; simp only [lan, spreadTo]; rw [if_neg (by omega)]
      have c1 : wr.cell? ⟨b, 5 * k + 1, none⟩ = some (.int .u64 (I (S (5 * k + 1)))) := by rw [hrow.cell (by omega)]; simp only [lan, spreadTo]; rw [if_neg (by omega)]
      have c2 : wr.cell? ⟨b, 5 * k + 2, none⟩ = some (.int .u64 (I (S (5 * k + 2)))) := by rw [hrow.cell (by omega)]; simp only [lan, spreadTo]; rw [if_neg (by omega)]
      have c3 : wr.cell? ⟨b, 5 * k + 3, none⟩ = some (.int .u64 (I (S (5 * k + 3)))) := by rw [hrow.cell (by omega)]; simp only [lan, spreadTo]; rw [if_neg (by omega)]
      have c4 : wr.cell? ⟨b, 5 * k + 4, none⟩ = some (.int .u64 (I (S (5 * k + 4)))) := by rw [hrow.cell (by omega)]; simp only [lan, spreadTo]; rw [if_neg (by omega)]
      have hf := hrow.frozen
      have H1 : Hid (wr.rowIs b 38 25 (lan (spreadTo S c k)) ∧ Only b w wr) := ⟨hrow, hon⟩
      clear hrow hon HR
      go_wp2
      go_region
      go_wp2
      go_region
      go_wp2
      go_region
      go_wp2
      go_region
      go_wp2
      go_region
      go_wp2
      go_roundw
      case rel =>
        simp only [bx]
        exact ⟨k + 1, by omega, by go_num, (spread_step hlt H1.out.1 rfl rfl rfl rfl rfl).drew.drew.drew.drew.drew, ((((((H1.out.2.setCell _ _).setCell _ _).setCell _ _).setCell _ _).setCell _ _)).drew.drew.drew.drew.drew⟩
      case measure => simp [intOf]; omega
    · have : k = 5 := by omega
      subst this
      go_wp2
      go_returns
      exact ⟨rfl, hrow.congr (fun i hi => by simp only [lan, spreadTo]; rw [if_pos (by omega)]), hon⟩
end Go.Proofs.YtmhfgchckebnpaaDoor
