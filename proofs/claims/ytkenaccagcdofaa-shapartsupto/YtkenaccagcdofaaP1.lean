/- ShaParts: the parts, a nil Hasher. -/
import Derived.Test.YtkenaccagcdofaaS4
namespace Go.Proofs.Ytkenaccagcdofaa
open Go.RowKit Go.Shelf
set_option linter.unusedSimpArgs false
set_option linter.unusedVariables false

/-- How many bytes the first parts have. -/
def tot (ln : Nat → Nat) : Nat → Nat
  | 0 => 0
  | i + 1 => tot ln i + ln i
/-- The first parts, one behind the other. -/
def cat (ln : Nat → Nat) (ms : Nat → Nat → BitVec 8) : Nat → Nat → BitVec 8
  | 0 => fun _ => 0#8
  | i + 1 => fun j => if j < tot ln i then cat ln ms i j else ms i (j - tot ln i)
theorem cat_old (ln : Nat → Nat) (ms : Nat → Nat → BitVec 8) (i j : Nat) (h : j < tot ln i) : cat ln ms i j = cat ln ms (i + 1) j := by
  show _ = if j < tot ln i then cat ln ms i j else ms i (j - tot ln i)
  rw [if_pos h]
theorem cat_new (ln : Nat → Nat) (ms : Nat → Nat → BitVec 8) (i j : Nat) : cat ln ms (i + 1) (tot ln i + j) = ms i j := by
  show (if tot ln i + j < tot ln i then cat ln ms i (tot ln i + j) else ms i (tot ln i + j - tot ln i)) = _
  rw [if_neg (by omega), Nat.add_sub_cancel_left]
theorem bl_add (m : Nat → BitVec 8) (a b : Nat) : bl m (a + b) = bl m a ++ bl (fun j => m (a + j)) b := by
  induction b with
  | zero => simp [bl]
  | succ b ih => rw [← Nat.add_assoc, bl_succ, ih, bl_succ, List.append_assoc]
theorem bl_cat (ln : Nat → Nat) (ms : Nat → Nat → BitVec 8) (i : Nat) : bl (cat ln ms i) (tot ln i) ++ bl (ms i) (ln i) = bl (cat ln ms (i + 1)) (tot ln i + ln i) := by
  rw [bl_add, bl_congr (fun j hj => cat_old ln ms i j hj)]
  congr 1
  exact bl_congr (fun j _ => (cat_new ln ms i j).symm)
theorem own_bytes {w : World} {base n : Nat} {v : Value} {m : Nat → BitVec 8} (h : w.ownsRow base 5 1 v n (bl m n)) (hn : n ≤ 140737488351232) : ∃ ao cap, v = .slice ao n cap ∧ Bytes w ao n cap m ∧ (ao = none → n = 0 ∧ cap = 0) := by
  rcases h.2 with ⟨rfl, rfl⟩ | ⟨g, cap, cur, rfl, hb, r, hnc, hcm, _⟩
  · exact ⟨none, 0, rfl, ⟨0, 0, fun h => absurd h (by omega), fun j hj => absurd hj (by omega), by omega, by omega, by omega⟩, fun _ => ⟨rfl, rfl⟩⟩
  · refine ⟨_, cap, rfl, ⟨g, 0, fun _ => rfl, fun j hj => ?_, hnc, by unfold maxLen at hcm; omega, hn⟩, fun h => by cases h⟩
    rw [Nat.zero_add, h.cellAt j (by omega), bl_get m n j hj]
theorem wpList_val {P : Program} {ops : Array Oper} {rest : List Oper} {o : Oper} {a : Act} {w : World} {v : Value} {Q : Exit → Act → World → Prop} (hw : Region.wanted o (yielded ops a.tmps) = true) (hrun : (execOp a.eval o).run P w = .ok (.value v) w)
    (h : wpList P ops Q rest (a.put o.dst v) w) : wpList P ops Q (o :: rest) a w := by
  refine wpList_step fun K hK => ?_
  rw [if_pos hw]
  unfold Oper.wp
  rw [hrun]
  exact hK _ _ h
theorem build23 {ρ : Operand → Value} {o : Oper} (ho : o.op = .build 23 #[]) (w : World) : (execOp ρ o).run Try.prog w = .ok (.value (.agg (vec 64 (byt fun _ => 0#8)))) w := by
  unfold execOp
  simp only [ho]
  kernel_rfl
set_option maxRecDepth 100000 in
set_option maxHeartbeats 1000000 in
theorem hsum_nil (w : World) : Calls Try.prog 14 #[.pointer none] w fun e w' => e = .returned (.agg (vec 64 (byt fun _ => 0#8))) ∧ Below w.heap.size w w' := by
  have hB : Below w.heap.size w (w.alloc (.cells (vec 64 (byt fun _ => 0#8)) 23)) := by go_grown
  have hr : (w.alloc (.cells (vec 64 (byt fun _ => 0#8)) 23)).rowIs w.heap.size 23 64 (byt fun _ => 0#8) := heap_row (heap_alloc_new _ _)
  have hz := (zero_of_info zero23).1
  have HB : Hid _ := hB
  have HR : Hid _ := hr
  clear hB hr
  go_enter Try.func14, Try.ntmps14
  go_wp2_with (first | (refine wpList_val (by rfl) (build23 rfl _) ?_) | (refine wpList_store_row rfl 23 _ _ rfl w.heap.size _ rfl rfl 23 _ (row_heap HR.out) (info23v _) (by simp) (one_byt _ _) ?_))
  refine bodyPost_ret (results_cell_row rfl _ _ _ _ _ _ _ rfl (setRow_heap _ _ _ _ _ _ (row_heap HR.out)) Try.underlying23 rfl (info23v _)) rfl ⟨rfl, ?_⟩
  exact ((Only.refl _ _).setRow _).below HB.out (Nat.le_refl _)
end Go.Proofs.Ytkenaccagcdofaa
