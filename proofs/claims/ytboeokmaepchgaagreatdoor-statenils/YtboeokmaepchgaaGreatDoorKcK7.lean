/- Whole arrays in a walk; the round constants; the sums ahead of theta. -/
import Derived.Test.YtboeokmaepchgaaGreatDoorKcK5
import Derived.Deep.WholeRow
namespace Go.Proofs.YtboeokmaepchgaaGreatDoor.Kc
open Go.RowKit
set_option linter.unusedSimpArgs false
set_option linter.unusedVariables false

theorem run_index_vec {P : Program} (t e n : Nat) (ht : ∀ w, (underlying t).run P w = .ok (.array n e) w) (hs : ∀ w, (sizeOf e).run P w = .ok 1 w) (ha : ∀ w, (isAgg e).run P w = .ok false w) (f : Nat → Value) (i : Nat) (hi : i < n) (w : World) :
    (Instr.index t (.agg (vec n f)) (.int .i64 (i : Int))).run P w = .ok (f i) w := by
  have h1 : (0 : Int) ≤ (i : Int) ∧ (i : Int) < (n : Int) := by omega
  simp only [Instr.index, asIntOf, Sem.run_bind, Sem.run_pure, Result.andThen_ok, ht, hs, part, ha, h1, and_self, if_true, Int.toNat_natCast, Nat.mul_one, get_vec n f i hi]
  simp
/-- The round constants. -/
def RCl : List Nat := [0x0000000000000001, 0x0000000000008082, 0x800000000000808a, 0x8000000080008000, 0x000000000000808b, 0x0000000080000001, 0x8000000080008081, 0x8000000000008009, 0x000000000000008a, 0x0000000000000088, 0x0000000080008009, 0x000000008000000a, 0x000000008000808b, 0x800000000000008b, 0x8000000000008089, 0x8000000000008003, 0x8000000000008002, 0x8000000000000080, 0x000000000000800a, 0x800000008000000a, 0x8000000080008081, 0x8000000000008080, 0x0000000080000001, 0x8000000080008008]
def RC (j : Nat) : BitVec 64 := BitVec.ofNat 64 (RCl.getD j 0)
theorem info39 : (Tryz.prog.info? 261).map (·.size) = some (vec 24 (lan RC)).size := by kernel_rfl
theorem one24 : (vec 24 (lan RC)).all (·.oneCell') = true := one_lan 24 RC
set_option maxRecDepth 20000 in
set_option maxHeartbeats 1000000 in
/-- keccak.constants -/
theorem constants_any (w : World) :
    Calls Tryz.prog 188 #[] w fun e w' => e = .returned (.agg (vec 24 (lan RC))) ∧ w' = w.alloc (.cells (vec 24 (lan RC)) 261) := by
  go_enter Tryz.func188, Tryz.ntmps188
  go_wp2_with (first | (refine wpList_store_row rfl 261 _ _ rfl w.heap.size (vec 24 (lan RC)) rfl rfl 261 _ (heap_alloc_new _ _) info39 rfl one24 ?_; rw [World.setRow_alloc_new]) | (refine wpList_build rfl 261 _ rfl (by kernel_rfl) ?_; generalize hG : (Program.built _ _ _).getD #[] = G; obtain rfl : G = vec 24 (lan RC) := by rw [← hG]; kernel_rfl))
  clear hG
  exact bodyPost_ret (results_cell_row rfl _ _ _ _ _ _ _ rfl (heap_alloc_new _ _) Tryz.underlying261 rfl info39) rfl ⟨rfl, rfl⟩
end Go.Proofs.YtboeokmaepchgaaGreatDoor.Kc
