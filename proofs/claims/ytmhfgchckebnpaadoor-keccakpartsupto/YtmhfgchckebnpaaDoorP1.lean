/- KeccakParts: the parts, a nil Hasher, the walk. -/
import Derived.Test.YtmhfgchckebnpaaDoorS4
namespace Go.Proofs.YtmhfgchckebnpaaDoor
open Go.RowKit Go.Shelf
set_option linter.unusedSimpArgs false
set_option linter.unusedVariables false

/-- How many bytes the first parts have. -/
def tot (ln : Nat → Nat) : Nat → Nat
  | 0 => 0
  | i + 1 => tot ln i + ln i
/-- The first parts, one behind the other. -/
def cat (ln : Nat → Nat) (ms : Nat → Nat → BitVec 8) : Nat → Nat → BitVec 8
  | 0 => fun _ => 0#8
  | i + 1 => fun j => if j < tot ln i then cat ln ms i j else ms i (j - tot ln i)
theorem cat_old (ln : Nat → Nat) (ms : Nat → Nat → BitVec 8) (i j : Nat) (h : j < tot ln i) : cat ln ms i j = cat ln ms (i + 1) j := by
  show _ = if j < tot ln i then cat ln ms i j else ms i (j - tot ln i)
  rw [if_pos h]
theorem cat_new (ln : Nat → Nat) (ms : Nat → Nat → BitVec 8) (i j : Nat) : cat ln ms (i + 1) (tot ln i + j) = ms i j := by
  show (if tot ln i + j < tot ln i then cat ln ms i (tot ln i + j) else ms i (tot ln i + j - tot ln i)) = _
  rw [if_neg (by omega), Nat.add_sub_cancel_left]
theorem bl_add (m : Nat → BitVec 8) (a b : Nat) : bl m (a + b) = bl m a ++ bl (fun j => m (a + j)) b := by
  induction b with
  | zero => simp [bl]
  | succ b ih => rw [← Nat.add_assoc, bl_succ, ih, bl_succ, List.append_assoc]
theorem bl_cat (ln : Nat → Nat) (ms : Nat → Nat → BitVec 8) (i : Nat) : bl (cat ln ms i) (tot ln i) ++ bl (ms i) (ln i) = bl (cat ln ms (i + 1)) (tot ln i + ln i) := by
  rw [bl_add, bl_congr (fun j hj => cat_old ln ms i j hj)]
  congr 1
  exact bl_congr (fun j _ => (cat_new ln ms i j).symm)
theorem own_bytes {w : World} {base n : Nat} {v : Value} {m : Nat → BitVec 8} (h : w.ownsRow base 5 1 v n (bl m n)) (hn : n ≤ 140737488351232) : ∃ ao cap, v = .slice ao n cap ∧ Bytes w ao n cap m ∧ (ao = none → n = 0 ∧ cap = 0) := by
  rcases h.2 with ⟨rfl, rfl⟩ | ⟨g, cap, cur, rfl, hb, r, hnc, hcm, _⟩
  · exact ⟨none, 0, rfl, ⟨0, 0, fun h => absurd h (by omega), fun j hj => absurd hj (by omega), by omega, by omega, by omega⟩, fun _ => ⟨rfl, rfl⟩⟩
  · refine ⟨_, cap, rfl, ⟨g, 0, fun _ => rfl, fun j hj => ?_, hnc, by unfold maxLen at hcm; omega, hn⟩, fun h => by cases h⟩
    rw [Nat.zero_add, h.cellAt j (by omega), bl_get m n j hj]
theorem build29 {ρ : Operand → Value} {o : Oper} (ho : o.op = .build 29 #[]) (w : World) : (execOp ρ o).run Tryd.prog w = .ok (.value (.agg (vec 32 (byt fun _ => 0#8)))) w := by
  unfold execOp
  simp only [ho]
  kernel_rfl
set_option maxRecDepth 100000 in
set_option maxHeartbeats 1000000 in
theorem hsum_nil (w : World) : Calls Tryd.prog 15 #[.pointer none] w fun e w' => e = .returned (.agg (vec 32 (byt fun _ => 0#8))) ∧ Below w.heap.size w w' := by
  have hB : Below w.heap.size w (w.alloc (.cells (vec 32 (byt fun _ => 0#8)) 29)) := by go_grown
  have hr : (w.alloc (.cells (vec 32 (byt fun _ => 0#8)) 29)).rowIs w.heap.size 29 32 (byt fun _ => 0#8) := heap_row (heap_alloc_new _ _)
  obtain ⟨W, hW⟩ : ∃ W, w.alloc (.cells (vec 32 (byt fun _ => 0#8)) 29) = W := ⟨_, rfl⟩
  rw [hW] at hB hr
  have HW : Hid _ := hW
  have HB : Hid _ := hB
  have HR : Hid _ := hr
  clear hW hB hr
  go_enter Tryd.func15, Tryd.ntmps15
  go_wp2_with (first | (rw [zero32', HW.out]; refine wpList_val (by rfl) (build29 rfl _) ?_) | (refine wpList_store_row rfl 29 _ _ rfl w.heap.size _ rfl rfl 29 _ (row_heap HR.out) (info29v _) (by simp) (one_byt _ _) ?_))
  refine bodyPost_ret (results_cell_row rfl _ _ _ _ _ _ _ rfl (setRow_heap _ _ _ _ _ _ (row_heap HR.out)) Tryd.underlying29 rfl (info29v _)) rfl ⟨rfl, ?_⟩
  exact ((Only.refl _ _).setRow _).below HB.out (Nat.le_refl _)
end Go.Proofs.YtmhfgchckebnpaaDoor
