/- New, Sum, and a nil Hasher. -/
import Derived.Test.YtboeokmaepchgaaGreatDoorKcKI
namespace Go.Proofs.YtboeokmaepchgaaGreatDoor.Kc
open Go.RowKit Go.Shelf
set_option linter.unusedSimpArgs false
set_option linter.unusedVariables false

abbrev has0 : Nat → Value := has (fun _ => 0) (fun _ => 0) 0
set_option maxRecDepth 100000 in
set_option maxHeartbeats 1000000 in
/-- keccak.New -/
theorem new_any (w : World) : Calls Tryz.prog 93 #[] w fun e w' => e = .returned (.pointer (some ⟨w.heap.size, 0, none⟩)) ∧ w' = w.alloc (.cells (vec 162 has0) 204) := by
  go_enter Tryz.func93, Tryz.ntmps93
  go_wp2_with (refine wpList_build rfl 204 _ rfl (by kernel_rfl) ?_; generalize hG : (Program.built _ _ _).getD #[] = G; obtain rfl : G = vec 162 has0 := by rw [← hG]; kernel_rfl)
  clear hG
  go_ret
  exact ⟨rfl, rfl⟩
theorem has_new (w : World) (msg : Nat → BitVec 8) : HasIn (w.alloc (.cells (vec 162 has0) 204)) w.heap.size msg 0 :=
  ⟨fun _ => 0, heap_row (heap_alloc_new _ _), fun i hi => absurd hi (by omega)⟩
theorem PathIn.gb {u v : World} {hb : Nat} (h : PathIn u) (hg : u.grownBy v (some hb)) (hne : hb ≠ 1) : PathIn v := fun t ht => hg.cell (h t ht) (by simp; omega)
/-- A slice of bytes in memory. -/
def Bytes (w : World) (ao : Option Addr) (len cap : Nat) (m : Nat → BitVec 8) : Prop :=
  ∃ bb off, (0 < len → ao = some ⟨bb, off, none⟩) ∧ (∀ j, j < len → w.cell? ⟨bb, off + j, none⟩ = some (.int .u8 (I8 (m j)))) ∧ len ≤ cap ∧ cap ≤ 9223372036854775807 ∧ len ≤ 140737488351232
theorem Bytes.below {w w' : World} {ao : Option Addr} {len cap : Nat} {m : Nat → BitVec 8} (h : Bytes w ao len cap m) (hb : Below w.heap.size w w') : Bytes w' ao len cap m := by
  obtain ⟨bb, off, h1, h2, h3⟩ := h
  exact ⟨bb, off, h1, fun j hj => (hb.cell (p := ⟨bb, off + j, none⟩) (block_lt_of_cell (h2 j hj))).trans (h2 j hj), h3⟩
theorem Bytes.gb {w w' : World} {ao : Option Addr} {len cap hb : Nat} {m : Nat → BitVec 8} (h : Bytes w ao len cap m) (hg : w.grownBy w' (some hb)) (hne : ∀ bb off, 0 < len → ao = some ⟨bb, off, none⟩ → bb ≠ hb) : Bytes w' ao len cap m := by
  obtain ⟨bb, off, h1, h2, h3⟩ := h
  exact ⟨bb, off, h1, fun j hj => hg.cell (h2 j hj) (by have := hne bb off (by omega) (h1 (by omega)); simpa using this), h3⟩
set_option maxRecDepth 100000 in
set_option maxHeartbeats 1000000 in
/-- keccak.Sum -/
theorem sum_any (ao : Option Addr) (len cap : Nat) (msg : Nat → BitVec 8) (w : World) (hp : PathIn w) (hby : Bytes w ao len cap msg) :
    Calls Tryz.prog 55 #[.slice ao len cap] w fun e w' => e = .returned (.agg (vec 32 (byt (digest msg len)))) ∧ Below w.heap.size w w' := by
  obtain ⟨bb, off, h1, h2, h3, h4, h5⟩ := hby
  have H0 : Hid (PathIn w ∧ 1 < w.heap.size ∧ (0 < len → ao = some ⟨bb, off, none⟩) ∧ (∀ j, j < len → w.cell? ⟨bb, off + j, none⟩ = some (.int .u8 (I8 (msg j))))) := ⟨hp, pathIn_pos hp, h1, h2⟩
  clear hp h1 h2
  go_enter Tryz.func55, Tryz.ntmps55
  go_wp2_with (first | (go_at_call 93; refine (new_any _).mono ?_; rintro e w1 ⟨rfl, rfl⟩))
  rw [zero32']
  obtain ⟨W, hW⟩ : ∃ W, (w.alloc (.cells (vec 32 (byt fun _ => 0#8)) 33)).alloc (.cells (vec 162 has0) 204) = W := ⟨_, rfl⟩
  have hWb : Below w.heap.size w W := by rw [← hW]; go_grown
  have hWh : HasIn W (w.heap.size + 1) msg 0 := by
    rw [← hW]; have := has_new (w.alloc (.cells (vec 32 (byt fun _ => 0#8)) 33)) msg; simpa using this
  have hW0 : W.rowIs w.heap.size 33 32 (byt fun _ => 0#8) := by
    rw [← hW]; exact (heap_row (heap_alloc_new w (.cells (vec 32 (byt fun _ => 0#8)) 33))).alloc _
  rw [hW]
  clear hW
  have hPW := H0.out.1.below hWb H0.out.2.1
  have hcl : ∀ j, j < len → W.cell? ⟨bb, off + j, none⟩ = some (.int .u8 (I8 (msg (0 + j)))) := fun j hj => by
    rw [Nat.zero_add]; exact (hWb.cell (p := ⟨bb, off + j, none⟩) (block_lt_of_cell (H0.out.2.2.2 j hj))).trans (H0.out.2.2.2 j hj)
  have hneb : 0 < len → bb ≠ w.heap.size + 1 := fun h => by have := block_lt_of_cell (H0.out.2.2.2 0 h); simp at this; omega
  refine (write_any (w.heap.size + 1) 0 len cap bb off ao msg W hPW (by have := H0.out.2.1; omega) hWh H0.out.2.2.1 hcl hneb h3 h4 h5).mono ?_
  rintro e W2 ⟨rfl, hg, hin⟩
  have hP2 : PathIn W2 := hPW.gb hg (by have := H0.out.2.1; omega)
  have hW2 : W2.rowIs w.heap.size 33 32 (byt fun _ => 0#8) := hW0.of_block (hg.block _ hW0.lt (by simp))
  have hB2 : Below w.heap.size w W2 := hWb.grown hg hWb.size (fun k e => by cases e; omega)
  rw [Nat.zero_add] at hin
  have H2 : Hid (PathIn W2 ∧ W2.rowIs w.heap.size 33 32 (byt fun _ => 0#8) ∧ Below w.heap.size w W2 ∧ HasIn W2 (w.heap.size + 1) msg len) := ⟨hP2, hW2, hB2, hin⟩
  clear hP2 hW2 hB2 hin hg hWb hWh hW0 hPW hcl
  go_wp2_with fail
  refine (hsum_any (w.heap.size + 1) len msg W2 H2.out.1 H2.out.2.2.2).mono ?_
  rintro e W3 ⟨rfl, hb3⟩
  have hr3 : W3.rowIs w.heap.size 33 32 (byt fun _ => 0#8) := H2.out.2.1.of_block (hb3.block _ H2.out.2.1.lt)
  go_wp2_with (refine wpList_store_row rfl 33 _ _ rfl w.heap.size _ rfl rfl 33 _ (row_heap hr3) (info29v _) (by simp) (one_byt _ _) ?_)
  refine bodyPost_ret (results_cell_row rfl _ _ _ _ _ _ _ rfl (setRow_heap _ _ _ _ _ _ (row_heap hr3)) Tryz.underlying33 rfl (info29v _)) rfl ⟨rfl, ?_⟩
  exact ((Only.refl _ _).setRow _).below (H2.out.2.2.1.trans (hb3.mono H2.out.2.2.1.size)) (Nat.le_refl _)
end Go.Proofs.YtboeokmaepchgaaGreatDoor.Kc
