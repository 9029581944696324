/- New, Sum. -/
import Derived.Test.YtkenaccagcdofaaH8
namespace Go.Proofs.Ytkenaccagcdofaa
open Go.RowKit Go.Shelf
set_option linter.unusedSimpArgs false
set_option linter.unusedVariables false

abbrev has0 : Nat → Value := has HH (fun _ => 0) 0
set_option maxRecDepth 100000 in
set_option maxHeartbeats 1000000 in
/-- sha.New -/
theorem new_any (w : World) : Calls Try.prog 12 #[] w fun e w' => e = .returned (.pointer (some ⟨w.heap.size + 1, 0, none⟩)) ∧ w' = (w.alloc (.cells (vec 8 (lan HH)) 38)).alloc (.cells (vec 137 has0) 52) := by
  go_enter Try.func12, Try.ntmps12
  go_wp2_with (first | (go_at_call 18; refine (firstState_any _).mono ?_; rintro e w' ⟨rfl, hs⟩; obtain rfl := hs.symm) | (refine wpList_build rfl 52 _ rfl (by kernel_rfl) ?_; generalize hG : (Program.built _ _ _).getD #[] = G; obtain rfl : G = vec 137 has0 := by rw [← hG]; kernel_rfl))
  clear hG
  go_ret
  exact ⟨rfl, rfl⟩
theorem has_new (w : World) (msg : Nat → BitVec 8) : HasIn ((w.alloc (.cells (vec 8 (lan HH)) 38)).alloc (.cells (vec 137 has0) 52)) (w.heap.size + 1) msg 0 :=
  ⟨fun _ => 0, heap_row (heap2of2 _ _ _), fun i hi => absurd hi (by omega)⟩
/-- A slice of bytes in memory. -/
def Bytes (w : World) (ao : Option Addr) (len cap : Nat) (m : Nat → BitVec 8) : Prop :=
  ∃ bb off, (0 < len → ao = some ⟨bb, off, none⟩) ∧ (∀ j, j < len → w.cell? ⟨bb, off + j, none⟩ = some (.int .u8 (I8 (m j)))) ∧ len ≤ cap ∧ cap ≤ 9223372036854775807 ∧ len ≤ 140737488351232
theorem Bytes.below {w w' : World} {ao : Option Addr} {len cap : Nat} {m : Nat → BitVec 8} (h : Bytes w ao len cap m) (hb : Below w.heap.size w w') : Bytes w' ao len cap m := by
  obtain ⟨bb, off, h1, h2, h3⟩ := h
  exact ⟨bb, off, h1, fun j hj => (hb.cell (p := ⟨bb, off + j, none⟩) (block_lt_of_cell (h2 j hj))).trans (h2 j hj), h3⟩
theorem Bytes.gb {w w' : World} {ao : Option Addr} {len cap hb : Nat} {m : Nat → BitVec 8} (h : Bytes w ao len cap m) (hg : w.grownBy w' (some hb)) (hne : ∀ bb off, 0 < len → ao = some ⟨bb, off, none⟩ → bb ≠ hb) : Bytes w' ao len cap m := by
  obtain ⟨bb, off, h1, h2, h3⟩ := h
  exact ⟨bb, off, h1, fun j hj => hg.cell (h2 j hj) (by have := hne bb off (by omega) (h1 (by omega)); simpa using this), h3⟩
set_option maxRecDepth 100000 in
set_option maxHeartbeats 1000000 in
/-- sha.Sum -/
theorem sum_any (ao : Option Addr) (len cap : Nat) (msg : Nat → BitVec 8) (w : World) (hby : Bytes w ao len cap msg) :
    Calls Try.prog 6 #[.slice ao len cap] w fun e w' => e = .returned (.agg (vec 64 (byt (digest msg len)))) ∧ Below w.heap.size w w' := by
  obtain ⟨bb, off, h1, h2, h3, h4, h5⟩ := hby
  have H0 : Hid ((0 < len → ao = some ⟨bb, off, none⟩) ∧ (∀ j, j < len → w.cell? ⟨bb, off + j, none⟩ = some (.int .u8 (I8 (msg j))))) := ⟨h1, h2⟩
  clear h1 h2
  have hz := (zero_of_info zero23).1
  go_enter Try.func6, Try.ntmps6
  go_wp2_with (first | (go_at_call 12; refine (new_any _).mono ?_; rintro e w1 ⟨rfl, rfl⟩))
  obtain ⟨W, hW⟩ : ∃ W, ((w.alloc (.cells (vec 64 (byt fun _ => 0#8)) 23)).alloc (.cells (vec 8 (lan HH)) 38)).alloc (.cells (vec 137 has0) 52) = W := ⟨_, rfl⟩
  have hWb : Below w.heap.size w W := by rw [← hW]; go_grown
  have hWh : HasIn W (w.heap.size + 2) msg 0 := by
    rw [← hW]; have := has_new (w.alloc (.cells (vec 64 (byt fun _ => 0#8)) 23)) msg; simpa using this
  have hW0 : W.rowIs w.heap.size 23 64 (byt fun _ => 0#8) := by
    rw [← hW]; exact heap_row (heap1of3 _ _ _ _)
  rw [hW]
  clear hW hz
  have hcl : ∀ j, j < len → W.cell? ⟨bb, off + j, none⟩ = some (.int .u8 (I8 (msg (0 + j)))) := fun j hj => by
    rw [Nat.zero_add]; exact (hWb.cell (p := ⟨bb, off + j, none⟩) (block_lt_of_cell (H0.out.2 j hj))).trans (H0.out.2 j hj)
  have hneb : 0 < len → bb ≠ w.heap.size + 2 := fun h => by have := block_lt_of_cell (H0.out.2 0 h); simp at this; omega
  refine (write_any (w.heap.size + 2) 0 len cap bb off ao msg W hWh H0.out.1 hcl hneb h3 h4 h5 (by omega)).mono ?_
  rintro e W2 ⟨rfl, hg, hin⟩
  have hW2 : W2.rowIs w.heap.size 23 64 (byt fun _ => 0#8) := hW0.of_block (hg.block _ hW0.lt (by simp))
  have hB2 : Below w.heap.size w W2 := hWb.grown hg hWb.size (fun k e => by cases e; omega)
  rw [Nat.zero_add] at hin
  have H2 : Hid (W2.rowIs w.heap.size 23 64 (byt fun _ => 0#8) ∧ Below w.heap.size w W2 ∧ HasIn W2 (w.heap.size + 2) msg len) := ⟨hW2, hB2, hin⟩
  clear hW2 hB2 hin hg hWb hWh hW0 hcl
  go_wp2_with fail
  refine (hsum_any (w.heap.size + 2) len msg W2 (by omega) H2.out.2.2).mono ?_
  rintro e W3 ⟨rfl, hb3⟩
  have hr3 : W3.rowIs w.heap.size 23 64 (byt fun _ => 0#8) := H2.out.1.of_block (hb3.block _ H2.out.1.lt)
  go_wp2_with (refine wpList_store_row rfl 23 _ _ rfl w.heap.size _ rfl rfl 23 _ (row_heap hr3) (info23v _) (by simp) (one_byt _ _) ?_)
  refine bodyPost_ret (results_cell_row rfl _ _ _ _ _ _ _ rfl (setRow_heap _ _ _ _ _ _ (row_heap hr3)) Try.underlying23 rfl (info23v _)) rfl ⟨rfl, ?_⟩
  exact ((Only.refl _ _).setRow _).below (H2.out.2.1.trans (hb3.mono H2.out.2.1.size)) (Nat.le_refl _)
end Go.Proofs.Ytkenaccagcdofaa
