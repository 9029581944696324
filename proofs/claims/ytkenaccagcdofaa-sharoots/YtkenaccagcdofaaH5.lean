/- conclaveref03.block. -/
import Derived.Test.YtkenaccagcdofaaH4
namespace Go.Proofs.Ytkenaccagcdofaa
open Go.RowKit Go.Shelf
set_option linter.unusedSimpArgs false
set_option linter.unusedVariables false

/-- The worlds of the loops: the state, the answer's place, the words, the table; the block itself. -/
def RbIn (s x : Nat → BitVec 64) (m : Nat → BitVec 8) (bb off : Nat) (w wr : World) : Prop :=
  wr.rowIs w.heap.size 38 8 (lan s) ∧ wr.rowIs (w.heap.size + 1) 38 8 (lan fun _ => 0#64) ∧ wr.rowIs (w.heap.size + 2) 41 80 (lan x) ∧ wr.rowIs (w.heap.size + 4) 41 80 (lan KK) ∧ Below w.heap.size w wr ∧ (∀ j, j < 128 → wr.cell? ⟨bb, off + j, none⟩ = some (.int .u8 (I8 (m j)))) ∧ bb < w.heap.size
theorem RbIn.more {s x : Nat → BitVec 64} {m : Nat → BitVec 8} {bb off : Nat} {w w1 w2 : World} (h : RbIn s x m bb off w w1) (o : Below w1.heap.size w1 w2) : RbIn s x m bb off w w2 :=
  ⟨h.1.of_block (o.block _ h.1.lt), h.2.1.of_block (o.block _ h.2.1.lt), h.2.2.1.of_block (o.block _ h.2.2.1.lt), h.2.2.2.1.of_block (o.block _ h.2.2.2.1.lt), h.2.2.2.2.1.trans (o.mono h.2.2.2.2.1.size), fun j hj => (o.cell (p := ⟨bb, off + j, none⟩) (block_lt_of_cell (h.2.2.2.2.2.1 j hj))).trans (h.2.2.2.2.2.1 j hj), h.2.2.2.2.2.2⟩
theorem RbIn.words {s x x' : Nat → BitVec 64} {m : Nat → BitVec 8} {bb off : Nat} {w w1 w2 : World} (h : RbIn s x m bb off w w1) (hr : w2.rowIs (w.heap.size + 2) 41 80 (lan x')) (o : Only (w.heap.size + 2) w1 w2) : RbIn s x' m bb off w w2 :=
  ⟨o.row (by omega) h.1, o.row (by omega) h.2.1, hr, o.row (by omega) h.2.2.2.1, o.below h.2.2.2.2.1 (by omega), fun j hj => (World.cell?_of_block (o.block _ (by have := h.2.2.2.2.2.2; show bb ≠ _; omega))).trans (h.2.2.2.2.2.1 j hj), h.2.2.2.2.2.2⟩
theorem RbIn.state {s s' x : Nat → BitVec 64} {m : Nat → BitVec 8} {bb off : Nat} {w w1 w2 : World} (h : RbIn s x m bb off w w1) (hr : w2.rowIs w.heap.size 38 8 (lan s')) (o : Only w.heap.size w1 w2) : RbIn s' x m bb off w w2 :=
  ⟨hr, o.row (by omega) h.2.1, o.row (by omega) h.2.2.1, o.row (by omega) h.2.2.2.1, o.below h.2.2.2.2.1 (by omega), fun j hj => (World.cell?_of_block (o.block _ (by have := h.2.2.2.2.2.2; show bb ≠ _; omega))).trans (h.2.2.2.2.2.1 j hj), h.2.2.2.2.2.2⟩
theorem RbIn.other {s x : Nat → BitVec 64} {m : Nat → BitVec 8} {bb off g : Nat} {w w1 w2 : World} (h : RbIn s x m bb off w w1) (hg : w.heap.size + 4 < g) (o : Only g w1 w2) : RbIn s x m bb off w w2 :=
  ⟨o.row (by omega) h.1, o.row (by omega) h.2.1, o.row (by omega) h.2.2.1, o.row (by omega) h.2.2.2.1, o.below h.2.2.2.2.1 (by omega), fun j hj => (World.cell?_of_block (o.block _ (by have := h.2.2.2.2.2.2; show bb ≠ _; omega))).trans (h.2.2.2.2.2.1 j hj), h.2.2.2.2.2.2⟩
theorem rb_start (s : Nat → BitVec 64) (m : Nat → BitVec 8) (bb off : Nat) (w : World) (hc : ∀ j, j < 128 → w.cell? ⟨bb, off + j, none⟩ = some (.int .u8 (I8 (m j)))) :
    RbIn s (wdTo m 0) m bb off w (((((w.alloc (.cells (vec 8 (lan s)) 38)).alloc (.cells (vec 8 (lan fun _ => 0#64)) 38)).alloc (.cells (vec 80 (lan fun _ => 0#64)) 41)).alloc (.cells (vec 80 (lan KK)) 41)).alloc (.cells (vec 80 (lan KK)) 41)) := by
  have hb : bb < w.heap.size := block_lt_of_cell (hc 0 (by decide))
  refine ⟨((heap_row (heap1of3 _ _ _ _)).alloc _).alloc _, ((heap_row (heap2of3 _ _ _ _)).alloc _).alloc _, ((heap_row (heap3of3 _ _ _ _)).alloc _).alloc _, heap_row (heap_n _ _ _ (by simp)), by go_grown, fun j hj => ?_, hb⟩
  have hB : Below w.heap.size w (((((w.alloc (.cells (vec 8 (lan s)) 38)).alloc (.cells (vec 8 (lan fun _ => 0#64)) 38)).alloc (.cells (vec 80 (lan fun _ => 0#64)) 41)).alloc (.cells (vec 80 (lan KK)) 41)).alloc (.cells (vec 80 (lan KK)) 41)) := by go_grown
  exact (hB.cell (p := ⟨bb, off + j, none⟩) hb).trans (hc j hj)
theorem bnot (a : BitVec 64) : bits .xor .u64 (if IntKind.u64.signed = true then -1 else IntKind.u64.max) (I a) = I (~~~ a) := by
  have h : (if IntKind.u64.signed = true then (-1 : Int) else IntKind.u64.max) = I (BitVec.allOnes 64) := by decide
  rw [h, bx, BitVec.allOnes_xor]
set_option maxRecDepth 20000 in
set_option maxHeartbeats 4000000 in
theorem rblock_any (s : Nat → BitVec 64) (m : Nat → BitVec 8) (bb off cap : Nat) (w : World) (hc : ∀ j, j < 128 → w.cell? ⟨bb, off + j, none⟩ = some (.int .u8 (I8 (m j)))) :
    Calls Try.prog 16 #[.agg (vec 8 (lan s)), .slice (some ⟨bb, off, none⟩) 128 cap] w fun e w' => e = .returned (.agg (vec 8 (lan (beh KK s m)))) ∧ Below w.heap.size w w' := by
  have hz := (zero_of_info zero38).1
  have hz1 := (zero_of_info zero41).1
  have HS : Hid _ := rb_start s m bb off w hc
  clear hc
  go_enter Try.func16, Try.ntmps16
  go_wp2_with (first | (go_at_call 29; refine (table_any _).mono ?_; rintro e w' ⟨rfl, hs⟩; obtain rfl := hs.symm) | (refine wpList_store_row rfl 41 _ _ rfl (w.heap.size + 4) _ rfl rfl 41 _ (heap_n _ _ _ (by simp)) (info41v _) (by simp) (one_lan _ _) ?_; rw [setRow_n _ _ _ _ _ (by simp)]))
  go_loopw [7] (fun i wr => ∃ k : Nat, k ≤ 128 ∧ i = .int .i64 (k : Int) ∧ RbIn s (wdTo m k) m bb off w wr) (fun i _ => 128 - (intOf i).toNat)
  case atStart => exact ⟨0, by omega, rfl, HS.out⟩
  case round =>
    obtain ⟨k, hk, rfl, hin⟩ := hrel
    clear HS hz hz1
    by_cases hlt : k < 128
    · have hbd := I8_bd (m k)
      have c0 : wr.cell? ⟨w.heap.size + 2, k / 8, none⟩ = some (.int .u64 (I (wdTo m k (k / 8)))) := hin.2.2.1.cell (by omega)
      have c1 : wr.cell? ⟨bb, off + k, none⟩ = some (.int .u8 (I8 (m k))) := hin.2.2.2.2.2.1 k hlt
      have f0 : wr.frozen? ⟨w.heap.size + 2, k / 8, none⟩ = false := hin.2.2.1.frozen _
      have H1 : Hid (RbIn s (wdTo m k) m bb off w wr) := hin
      clear hin
      obtain ⟨hb0, hb1⟩ := hbd
      go_wp2
      go_region
      go_wp2
      go_roundw
      case rel => exact ⟨k + 1, by omega, by go_num, (H1.out.words (wd_row H1.out.2.2.1 (by rw [wd_val])) ((Only.refl _ _).setCell _ _)).more (Below.drew (Below.refl _ _))⟩
      case measure => simp [intOf]; omega
    · have hk2 : k = 128 := by omega
      have H1 : Hid (RbIn s (wdTo m 128) m bb off w wr) := hk2 ▸ hin
      have hd : ¬ (k : Int) < 128 := by omega
      clear hin hk2
      go_wp2
      obtain ⟨x, hx⟩ : ∃ x, x = wdTo m 128 := ⟨_, rfl⟩
      rw [← hx] at H1
      have HX : Hid (x = wdTo m 128) := hx
      clear hx
      go_loopw [8] (fun i wr => ∃ k : Nat, k ≤ 64 ∧ i = .int .i64 ((k : Int) + 16) ∧ RbIn s (schTo x k) m bb off w wr) (fun i _ => 80 - (intOf i).toNat)
      case atStart => exact ⟨0, by omega, rfl, H1.out⟩
      case round =>
        clear hlt hk hd
        obtain ⟨k, hk, rfl, hin⟩ := hrel
        clear H1
        by_cases hlt : k < 64
        · have c0 : wr.cell? ⟨w.heap.size + 2, k + 14, none⟩ = some (.int .u64 (I (schTo x k (k + 14)))) := hin.2.2.1.cell (by omega)
          have c1 : wr.cell? ⟨w.heap.size + 2, k + 9, none⟩ = some (.int .u64 (I (schTo x k (k + 9)))) := hin.2.2.1.cell (by omega)
          have c2 : wr.cell? ⟨w.heap.size + 2, k + 1, none⟩ = some (.int .u64 (I (schTo x k (k + 1)))) := hin.2.2.1.cell (by omega)
          have c3 : wr.cell? ⟨w.heap.size + 2, k, none⟩ = some (.int .u64 (I (schTo x k k))) := hin.2.2.1.cell (by omega)
          obtain ⟨u, cu⟩ : ∃ u, wr.cell? ⟨w.heap.size + 2, k + 16, none⟩ = some u := ⟨_, hin.2.2.1.cell (by omega)⟩
          have f0 := hin.2.2.1.frozen
          have H1 : Hid (RbIn s (schTo x k) m bb off w wr) := hin
          clear hin
          have a1 : IntKind.i64.wrap ((k : Int) + 16 - 15) = (k : Int) + 1 := by rw [IntKind.wrap_i64]; omega
          have a2 : IntKind.i64.wrap ((k : Int) + 16 - 2) = (k : Int) + 14 := by rw [IntKind.wrap_i64]; omega
          have a3 : ((k : Int) + 1).toNat = k + 1 := by omega
          have a4 : ((k : Int) + 14).toNat = k + 14 := by omega
          have b1 : (0 : Int) ≤ (k : Int) + 1 := by omega
          have b2 : (k : Int) + 1 < 80 := by omega
          have b3 : (0 : Int) ≤ (k : Int) + 14 := by omega
          have b4 : (k : Int) + 14 < 80 := by omega
          go_wp2
          go_quiet (fail)
          clear a1 a2 a3 a4 b1 b2 b3 b4
          have HN : Hid (RbIn s (schTo x k) m bb off w (wr.drewN nq)) := H1.out.more (below_drewN _ _ _)
          replace c0 : (wr.drewN nq).cell? ⟨w.heap.size + 2, k + 14, none⟩ = some (.int .u64 (I (schTo x k (k + 14)))) := c0
          replace c1 : (wr.drewN nq).cell? ⟨w.heap.size + 2, k + 9, none⟩ = some (.int .u64 (I (schTo x k (k + 9)))) := c1
          replace c2 : (wr.drewN nq).cell? ⟨w.heap.size + 2, k + 1, none⟩ = some (.int .u64 (I (schTo x k (k + 1)))) := c2
          replace c3 : (wr.drewN nq).cell? ⟨w.heap.size + 2, k, none⟩ = some (.int .u64 (I (schTo x k k))) := c3
          replace cu : (wr.drewN nq).cell? ⟨w.heap.size + 2, k + 16, none⟩ = some u := cu
          replace f0 : ∀ i, (wr.drewN nq).frozen? ⟨w.heap.size + 2, i, none⟩ = false := f0
          generalize wr.drewN nq = wq at c0 c1 c2 c3 cu f0 HN ⊢
          go_wp2
          refine wp_region_held_drew (S := fun w' => w'.cell? ⟨w.heap.size + 2, k + 9, none⟩ = some (.int .u64 (I (schTo x k (k + 9)))) ∧ w'.cell? ⟨w.heap.size + 2, k, none⟩ = some (.int .u64 (I (schTo x k k)))) (by kernel_rfl) ⟨c1, c3⟩ (fun hHeld => ?_)
          refine wpAnyH_take (i := 0) (v := .int .i64 ((k : Int) + 16)) rfl (by kernel_rfl) (by kernel_rfl) (by kernel_rfl) (fun _ _ _ h => h) (Or.inl ⟨by rfl, fun w hSw => ?_⟩) hHeld ?_
          · obtain ⟨h1, h2⟩ := hSw; go_simp
          simp only [List.getElem_toArray, List.getElem_cons_succ, List.getElem_cons_zero, Act.put, List.setIfInBounds_toArray, List.set_cons_zero, List.set_cons_succ]
          refine wpAnyH_take (i := 1) (v := .int .u64 (I ((schTo x k (k + 14))))) rfl (by kernel_rfl) (by kernel_rfl) (by kernel_rfl) (fun _ _ _ h => h) (Or.inl ⟨by rfl, fun w hSw => ?_⟩) hHeld ?_
          · obtain ⟨h1, h2⟩ := hSw; go_simp
          simp only [List.getElem_toArray, List.getElem_cons_succ, List.getElem_cons_zero, Act.put, List.setIfInBounds_toArray, List.set_cons_zero, List.set_cons_succ]
          refine wpAnyH_take (i := 3) (v := .int .u64 (I ((schTo x k (k + 14))))) rfl (by kernel_rfl) (by kernel_rfl) (by kernel_rfl) (fun _ _ _ h => h) (Or.inl ⟨by rfl, fun w hSw => ?_⟩) hHeld ?_
          · obtain ⟨h1, h2⟩ := hSw; go_simp
          simp only [List.getElem_toArray, List.getElem_cons_succ, List.getElem_cons_zero, Act.put, List.setIfInBounds_toArray, List.set_cons_zero, List.set_cons_succ]
          refine wpAnyH_take (i := 6) (v := .int .u64 (I ((schTo x k (k + 14))))) rfl (by kernel_rfl) (by kernel_rfl) (by kernel_rfl) (fun _ _ _ h => h) (Or.inl ⟨by rfl, fun w hSw => ?_⟩) hHeld ?_
          · obtain ⟨h1, h2⟩ := hSw; go_simp
          simp only [List.getElem_toArray, List.getElem_cons_succ, List.getElem_cons_zero, Act.put, List.setIfInBounds_toArray, List.set_cons_zero, List.set_cons_succ]
          refine wpAnyH_take (i := 14) (v := .int .u64 (I ((schTo x k (k + 1))))) rfl (by kernel_rfl) (by kernel_rfl) (by kernel_rfl) (fun _ _ _ h => h) (Or.inl ⟨by rfl, fun w hSw => ?_⟩) hHeld ?_
          · obtain ⟨h1, h2⟩ := hSw; go_simp
          simp only [List.getElem_toArray, List.getElem_cons_succ, List.getElem_cons_zero, Act.put, List.setIfInBounds_toArray, List.set_cons_zero, List.set_cons_succ]
          refine wpAnyH_take (i := 16) (v := .int .u64 (I ((schTo x k (k + 1))))) rfl (by kernel_rfl) (by kernel_rfl) (by kernel_rfl) (fun _ _ _ h => h) (Or.inl ⟨by rfl, fun w hSw => ?_⟩) hHeld ?_
          · obtain ⟨h1, h2⟩ := hSw; go_simp
          simp only [List.getElem_toArray, List.getElem_cons_succ, List.getElem_cons_zero, Act.put, List.setIfInBounds_toArray, List.set_cons_zero, List.set_cons_succ]
          refine wpAnyH_take (i := 19) (v := .int .u64 (I ((schTo x k (k + 1))))) rfl (by kernel_rfl) (by kernel_rfl) (by kernel_rfl) (fun _ _ _ h => h) (Or.inl ⟨by rfl, fun w hSw => ?_⟩) hHeld ?_
          · obtain ⟨h1, h2⟩ := hSw; go_simp
          simp only [List.getElem_toArray, List.getElem_cons_succ, List.getElem_cons_zero, Act.put, List.setIfInBounds_toArray, List.set_cons_zero, List.set_cons_succ]
          refine wpAnyH_take (i := 7) (v := .int .u64 (I ((schTo x k (k + 14)) >>> 6))) rfl (by kernel_rfl) (by kernel_rfl) (by kernel_rfl) (fun _ _ _ h => h) (Or.inl ⟨by rfl, fun w hSw => ?_⟩) hHeld ?_
          · have a : I (schTo x k (k + 14)) / (64 : Int) = I ((schTo x k (k + 14)) >>> 6) := by rw [← I_shr]; rfl
            go_simp
          simp only [List.getElem_toArray, List.getElem_cons_succ, List.getElem_cons_zero, Act.put, List.setIfInBounds_toArray, List.set_cons_zero, List.set_cons_succ]
          refine wpAnyH_take (i := 20) (v := .int .u64 (I ((schTo x k (k + 1)) >>> 7))) rfl (by kernel_rfl) (by kernel_rfl) (by kernel_rfl) (fun _ _ _ h => h) (Or.inl ⟨by rfl, fun w hSw => ?_⟩) hHeld ?_
          · have a : I (schTo x k (k + 1)) / (128 : Int) = I ((schTo x k (k + 1)) >>> 7) := by rw [← I_shr]; rfl
            go_simp
          simp only [List.getElem_toArray, List.getElem_cons_succ, List.getElem_cons_zero, Act.put, List.setIfInBounds_toArray, List.set_cons_zero, List.set_cons_succ]
          refine wpAnyH_take (i := 9) (v := .int .i64 ((k : Int) + 16)) rfl (by kernel_rfl) (by kernel_rfl) (by kernel_rfl) (fun _ _ _ h => h) (Or.inl ⟨by rfl, fun w hSw => ?_⟩) hHeld ?_
          · obtain ⟨h1, h2⟩ := hSw; go_simp
          simp only [List.getElem_toArray, List.getElem_cons_succ, List.getElem_cons_zero, Act.put, List.setIfInBounds_toArray, List.set_cons_zero, List.set_cons_succ]
          refine wpAnyH_take (i := 10) (v := .int .i64 ((k + 9 : Nat) : Int)) rfl (by kernel_rfl) (by kernel_rfl) (by kernel_rfl) (fun _ _ _ h => h) (Or.inl ⟨by rfl, fun w hSw => ?_⟩) hHeld ?_
          · have a : IntKind.i64.wrap ((k : Int) + 16 - 7) = (k : Int) + 9 := by rw [IntKind.wrap_i64]; omega
            go_simp
          simp only [List.getElem_toArray, List.getElem_cons_succ, List.getElem_cons_zero, Act.put, List.setIfInBounds_toArray, List.set_cons_zero, List.set_cons_succ]
          refine wpAnyH_take (i := 11) (v := .pointer (some ⟨w.heap.size + 2, k + 9, none⟩)) rfl (by kernel_rfl) (by kernel_rfl) (by kernel_rfl) (fun _ _ _ h => h) (Or.inl ⟨by rfl, fun w hSw => ?_⟩) hHeld ?_
          · have a1 : (0 : Int) ≤ (k : Int) + 9 := (by omega)
            have a2 : (k : Int) + 9 < 80 := (by omega)
            have a3 : ((k : Int) + 9).toNat = k + 9 := (by omega)
            go_simp
          simp only [List.getElem_toArray, List.getElem_cons_succ, List.getElem_cons_zero, Act.put, List.setIfInBounds_toArray, List.set_cons_zero, List.set_cons_succ]
          refine wpAnyH_take (i := 12) (v := .int .u64 (I (schTo x k (k + 9)))) rfl (by kernel_rfl) (by kernel_rfl) (by kernel_rfl) (fun _ _ _ h => h) (Or.inl ⟨by rfl, fun w hSw => ?_⟩) hHeld ?_
          · obtain ⟨h1, h2⟩ := hSw; go_simp
          simp only [List.getElem_toArray, List.getElem_cons_succ, List.getElem_cons_zero, Act.put, List.setIfInBounds_toArray, List.set_cons_zero, List.set_cons_succ]
          refine wpAnyH_take (i := 23) (v := .int .i64 ((k : Int) + 16)) rfl (by kernel_rfl) (by kernel_rfl) (by kernel_rfl) (fun _ _ _ h => h) (Or.inl ⟨by rfl, fun w hSw => ?_⟩) hHeld ?_
          · obtain ⟨h1, h2⟩ := hSw; go_simp
          simp only [List.getElem_toArray, List.getElem_cons_succ, List.getElem_cons_zero, Act.put, List.setIfInBounds_toArray, List.set_cons_zero, List.set_cons_succ]
          refine wpAnyH_take (i := 24) (v := .int .i64 (k : Int)) rfl (by kernel_rfl) (by kernel_rfl) (by kernel_rfl) (fun _ _ _ h => h) (Or.inl ⟨by rfl, fun w hSw => ?_⟩) hHeld ?_
          · have a : IntKind.i64.wrap ((k : Int) + 16 - 16) = (k : Int) := (by rw [IntKind.wrap_i64]; omega)
            have a4 : (k : Int) + 16 - 16 = (k : Int) := (by omega)
            rw [a4] at a
            go_simp
          simp only [List.getElem_toArray, List.getElem_cons_succ, List.getElem_cons_zero, Act.put, List.setIfInBounds_toArray, List.set_cons_zero, List.set_cons_succ]
          refine wpAnyH_take (i := 25) (v := .pointer (some ⟨w.heap.size + 2, k, none⟩)) rfl (by kernel_rfl) (by kernel_rfl) (by kernel_rfl) (fun _ _ _ h => h) (Or.inl ⟨by rfl, fun w hSw => ?_⟩) hHeld ?_
          · have a1 : (0 : Int) ≤ (k : Int) := (by omega)
            have a2 : (k : Int) < 80 := (by omega)
            have a3 : ((k : Int)).toNat = k := (by omega)
            go_simp
          simp only [List.getElem_toArray, List.getElem_cons_succ, List.getElem_cons_zero, Act.put, List.setIfInBounds_toArray, List.set_cons_zero, List.set_cons_succ]
          refine wpAnyH_take (i := 26) (v := .int .u64 (I (schTo x k k))) rfl (by kernel_rfl) (by kernel_rfl) (by kernel_rfl) (fun _ _ _ h => h) (Or.inl ⟨by rfl, fun w hSw => ?_⟩) hHeld ?_
          · obtain ⟨h1, h2⟩ := hSw; go_simp
          simp only [List.getElem_toArray, List.getElem_cons_succ, List.getElem_cons_zero, Act.put, List.setIfInBounds_toArray, List.set_cons_zero, List.set_cons_succ]
          refine wpAnyH_ready (rs := [2]) (by kernel_rfl) (by simp) ?_
          refine AllReadyH.cons rfl (fun K hK => ?_) AllReadyH.nil
          go_simp
          refine (right_any ((schTo x k (k + 14))) 19 (by decide) (by decide) _).mono ?_
          rintro e w' ⟨rfl, hs⟩
          obtain rfl := hs.symm
          go_wp2_with fail
          refine hK.out _ _ ?_ (fun hHeld => ?_)
          · exact hHeld
          clear hK K
          try simp only [List.getElem_toArray, List.getElem_cons_succ, List.getElem_cons_zero, Act.put, List.setIfInBounds_toArray, List.set_cons_zero, List.set_cons_succ]
          refine wpAnyH_ready (rs := [4]) (by kernel_rfl) (by simp) ?_
          refine AllReadyH.cons rfl (fun K hK => ?_) AllReadyH.nil
          go_simp
          refine (right_any ((schTo x k (k + 14))) 61 (by decide) (by decide) _).mono ?_
          rintro e w' ⟨rfl, hs⟩
          obtain rfl := hs.symm
          go_wp2_with fail
          refine hK.out _ _ ?_ (fun hHeld => ?_)
          · exact hHeld
          clear hK K
          try simp only [List.getElem_toArray, List.getElem_cons_succ, List.getElem_cons_zero, Act.put, List.setIfInBounds_toArray, List.set_cons_zero, List.set_cons_succ]
          refine wpAnyH_take (i := 5) (v := .int .u64 (I (rr (schTo x k (k + 14)) 19 ^^^ rr (schTo x k (k + 14)) 61))) rfl (by kernel_rfl) (by kernel_rfl) (by kernel_rfl) (fun _ _ _ h => h) (Or.inl ⟨by rfl, fun w hSw => ?_⟩) hHeld ?_
          · have a := bx (rr (schTo x k (k + 14)) 19) (rr (schTo x k (k + 14)) 61); go_simp
          simp only [List.getElem_toArray, List.getElem_cons_succ, List.getElem_cons_zero, Act.put, List.setIfInBounds_toArray, List.set_cons_zero, List.set_cons_succ]
          refine wpAnyH_take (i := 8) (v := .int .u64 (I (sg1 (schTo x k (k + 14))))) rfl (by kernel_rfl) (by kernel_rfl) (by kernel_rfl) (fun _ _ _ h => h) (Or.inl ⟨by rfl, fun w hSw => ?_⟩) hHeld ?_
          · have a : bits .xor .u64 (I (rr (schTo x k (k + 14)) 19 ^^^ rr (schTo x k (k + 14)) 61)) (I ((schTo x k (k + 14)) >>> 6)) = I (sg1 (schTo x k (k + 14))) := bx _ _
            go_simp
          simp only [List.getElem_toArray, List.getElem_cons_succ, List.getElem_cons_zero, Act.put, List.setIfInBounds_toArray, List.set_cons_zero, List.set_cons_succ]
          refine wpAnyH_take (i := 13) (v := .int .u64 (I (sg1 (schTo x k (k + 14)) + schTo x k (k + 9)))) rfl (by kernel_rfl) (by kernel_rfl) (by kernel_rfl) (fun _ _ _ h => h) (Or.inl ⟨by rfl, fun w hSw => ?_⟩) hHeld ?_
          · have a := I_add (sg1 (schTo x k (k + 14))) (schTo x k (k + 9)); go_simp
          simp only [List.getElem_toArray, List.getElem_cons_succ, List.getElem_cons_zero, Act.put, List.setIfInBounds_toArray, List.set_cons_zero, List.set_cons_succ]
          refine wpAnyH_ready (rs := [15]) (by kernel_rfl) (by simp) ?_
          refine AllReadyH.cons rfl (fun K hK => ?_) AllReadyH.nil
          go_simp
          refine (right_any ((schTo x k (k + 1))) 1 (by decide) (by decide) _).mono ?_
          rintro e w' ⟨rfl, hs⟩
          obtain rfl := hs.symm
          go_wp2_with fail
          refine hK.out _ _ ?_ (fun hHeld => ?_)
          · exact hHeld
          clear hK K
          try simp only [List.getElem_toArray, List.getElem_cons_succ, List.getElem_cons_zero, Act.put, List.setIfInBounds_toArray, List.set_cons_zero, List.set_cons_succ]
          refine wpAnyH_ready (rs := [17]) (by kernel_rfl) (by simp) ?_
          refine AllReadyH.cons rfl (fun K hK => ?_) AllReadyH.nil
          go_simp
          refine (right_any ((schTo x k (k + 1))) 8 (by decide) (by decide) _).mono ?_
          rintro e w' ⟨rfl, hs⟩
          obtain rfl := hs.symm
          go_wp2_with fail
          refine hK.out _ _ ?_ (fun hHeld => ?_)
          · exact hHeld
          clear hK K
          try simp only [List.getElem_toArray, List.getElem_cons_succ, List.getElem_cons_zero, Act.put, List.setIfInBounds_toArray, List.set_cons_zero, List.set_cons_succ]
          refine wpAnyH_take (i := 18) (v := .int .u64 (I (rr (schTo x k (k + 1)) 1 ^^^ rr (schTo x k (k + 1)) 8))) rfl (by kernel_rfl) (by kernel_rfl) (by kernel_rfl) (fun _ _ _ h => h) (Or.inl ⟨by rfl, fun w hSw => ?_⟩) hHeld ?_
          · have a := bx (rr (schTo x k (k + 1)) 1) (rr (schTo x k (k + 1)) 8); go_simp
          simp only [List.getElem_toArray, List.getElem_cons_succ, List.getElem_cons_zero, Act.put, List.setIfInBounds_toArray, List.set_cons_zero, List.set_cons_succ]
          refine wpAnyH_take (i := 21) (v := .int .u64 (I (sg0 (schTo x k (k + 1))))) rfl (by kernel_rfl) (by kernel_rfl) (by kernel_rfl) (fun _ _ _ h => h) (Or.inl ⟨by rfl, fun w hSw => ?_⟩) hHeld ?_
          · have a : bits .xor .u64 (I (rr (schTo x k (k + 1)) 1 ^^^ rr (schTo x k (k + 1)) 8)) (I ((schTo x k (k + 1)) >>> 7)) = I (sg0 (schTo x k (k + 1))) := bx _ _
            go_simp
          simp only [List.getElem_toArray, List.getElem_cons_succ, List.getElem_cons_zero, Act.put, List.setIfInBounds_toArray, List.set_cons_zero, List.set_cons_succ]
          refine wpAnyH_take (i := 22) (v := .int .u64 (I (sg1 (schTo x k (k + 14)) + schTo x k (k + 9) + sg0 (schTo x k (k + 1))))) rfl (by kernel_rfl) (by kernel_rfl) (by kernel_rfl) (fun _ _ _ h => h) (Or.inl ⟨by rfl, fun w hSw => ?_⟩) hHeld ?_
          · have a := I_add (sg1 (schTo x k (k + 14)) + schTo x k (k + 9)) (sg0 (schTo x k (k + 1))); go_simp
          simp only [List.getElem_toArray, List.getElem_cons_succ, List.getElem_cons_zero, Act.put, List.setIfInBounds_toArray, List.set_cons_zero, List.set_cons_succ]
          refine wpAnyH_take (i := 27) (v := .int .u64 (I (sg1 (schTo x k (k + 14)) + schTo x k (k + 9) + sg0 (schTo x k (k + 1)) + schTo x k k))) rfl (by kernel_rfl) (by kernel_rfl) (by kernel_rfl) (fun _ _ _ h => h) (Or.inl ⟨by rfl, fun w hSw => ?_⟩) hHeld ?_
          · have a := I_add (sg1 (schTo x k (k + 14)) + schTo x k (k + 9) + sg0 (schTo x k (k + 1))) (schTo x k k); go_simp
          simp only [List.getElem_toArray, List.getElem_cons_succ, List.getElem_cons_zero, Act.put, List.setIfInBounds_toArray, List.set_cons_zero, List.set_cons_succ]
          refine wpAnyH_take (i := 28) (v := .pointer (some ⟨w.heap.size + 2, k + 16, none⟩)) rfl (by kernel_rfl) (by kernel_rfl) (by kernel_rfl) (fun _ _ _ h => h) (Or.inl ⟨by rfl, fun w hSw => ?_⟩) hHeld ?_
          · have a1 : (0 : Int) ≤ (k : Int) + 16 := (by omega)
            have a2 : (k : Int) + 16 < 80 := (by omega)
            have a3 : ((k : Int) + 16).toNat = k + 16 := (by omega)
            go_simp
          simp only [List.getElem_toArray, List.getElem_cons_succ, List.getElem_cons_zero, Act.put, List.setIfInBounds_toArray, List.set_cons_zero, List.set_cons_succ]
          refine wpAnyH_ready (rs := [29]) (by kernel_rfl) (by simp) ?_
          refine AllReadyH.cons rfl (fun K hK => ?_) AllReadyH.nil
          go_simp
          refine hK.out _ _ ?_ (fun hHeld => ?_)
          · have hn : ∀ j, j < k + 16 → (⟨w.heap.size + 2, k + 16, none⟩ : Addr) ≠ ⟨w.heap.size + 2, j, none⟩ := fun j hj e => by injection e with _ e2; omega
            exact ⟨(World.cell?_setCell_other _ _ _ _ (hn _ (by omega))).trans hHeld.1, (World.cell?_setCell_other _ _ _ _ (hn _ (by omega))).trans hHeld.2⟩
          clear hK K
          try simp only [List.getElem_toArray, List.getElem_cons_succ, List.getElem_cons_zero, Act.put, List.setIfInBounds_toArray, List.set_cons_zero, List.set_cons_succ]
          refine wpAnyH_done (by kernel_rfl) ?_ _
          clear hHeld c0 c1 c2 c3
          go_wp2
          go_roundw
          case rel => exact ⟨k + 1, by omega, by go_num, (HN.out.more (Below.drew (Below.refl _ _))).words (sch_row HN.out.2.2.1.drew rfl) ((Only.refl _ _).setCell _ _)⟩
          case measure => simp [intOf]; omega
        · have hk2 : k = 64 := by omega
          have H1 : Hid (RbIn s (schTo x 64) m bb off w wr) := hk2 ▸ hin
          have hd : ¬ (k : Int) + 16 < 80 := by omega
          clear hin hk2
          have HX2 : Hid (schTo x 64 = schTo (wdTo m 128) 64) := by rw [← HX.out]; exact rfl
          obtain ⟨X, hX⟩ : ∃ X, X = schTo x 64 := ⟨_, rfl⟩
          rw [← hX] at H1 HX2
          clear hX HX
          have hz := (zero_of_info zero38).1
          go_wp2_with (first | (refine wpList_load_row rfl 38 _ rfl w.heap.size rfl 38 _ (0, 0) _ (row_heap H1.out.1) Try.underlying38 rfl (info38v _) ?_) | (refine wpList_store_row rfl 38 _ _ rfl wr.heap.size _ rfl rfl 38 _ (heap_alloc_new _ _) (info38v _) (by simp) (one_lan _ _) ?_; rw [World.setRow_alloc_new]))
          have hz4 : w.heap.size + 4 < wr.heap.size := H1.out.2.2.2.1.lt
          have H2 : Hid (RbIn s X m bb off w (wr.alloc (.cells (vec 8 (lan s)) 38)) ∧ (wr.alloc (.cells (vec 8 (lan s)) 38)).rowIs wr.heap.size 38 8 (lan (stpTo KK X s 0))) := ⟨H1.out.more (by go_grown), heap_row (heap_alloc_new _ _)⟩
          clear H1 hz
          obtain ⟨z, hz⟩ : ∃ z, z = wr.heap.size := ⟨_, rfl⟩
          rw [← hz] at H2 hz4 ⊢
          generalize wr.alloc (.cells (vec 8 (lan s)) 38) = W at H2 ⊢
          clear hz
          go_loopw [12] (fun i wr => ∃ k : Nat, k ≤ 80 ∧ i = .int .i64 (k : Int) ∧ RbIn s X m bb off w wr ∧ wr.rowIs z 38 8 (lan (stpTo KK X s k))) (fun i _ => 80 - (intOf i).toNat)
          case atStart => exact ⟨0, by omega, rfl, H2.out⟩
          case round =>
            clear hlt hk hd
            obtain ⟨k, hk, rfl, hin⟩ := hrel
            clear H2
            by_cases hlt : k < 80
            · obtain ⟨v, hv⟩ : ∃ v, v = stpTo KK X s k := ⟨_, rfl⟩
              have HV : Hid (stpTo KK X s (k + 1) = stp (KK k) (X k) v) := by rw [hv]; rfl
              rw [← hv] at hin
              clear hv
              have c0 : wr.cell? ⟨z, 0, none⟩ = some (.int .u64 (I (v 0))) := hin.2.cell (by decide)
              have c4 : wr.cell? ⟨z, 4, none⟩ = some (.int .u64 (I (v 4))) := hin.2.cell (by decide)
              have H1 : Hid (RbIn s X m bb off w wr ∧ wr.rowIs z 38 8 (lan v)) := hin
              clear hin
              go_wp2
              go_quiet (fail)
              have HN : Hid (RbIn s X m bb off w (wr.drewN nq) ∧ (wr.drewN nq).rowIs z 38 8 (lan v)) := ⟨H1.out.1.more (below_drewN _ _ _), row_drewN H1.out.2 _⟩
              generalize wr.drewN nq = wq at HN ⊢
              clear c0 c4 H1
              go_wp2
              refine wp_region_held_drew (S := fun w' => RbIn s X m bb off w w' ∧ w'.rowIs z 38 8 (lan v)) (by kernel_rfl) (⟨HN.out.1.more (Below.drew (Below.refl _ _)), HN.out.2.drew⟩) (fun hHeld => ?_)
              refine wpAnyH_take (i := 0) (v := .pointer (some ⟨z, 7, none⟩)) rfl (by kernel_rfl) (by kernel_rfl) (by kernel_rfl) (fun _ _ _ h => h) (Or.inl ⟨by rfl, fun w9 hSw => ?_⟩) hHeld ?_
              · go_simp
              simp only [List.getElem_toArray, List.getElem_cons_succ, List.getElem_cons_zero, Act.put, List.setIfInBounds_toArray, List.set_cons_zero, List.set_cons_succ]
              refine wpAnyH_take (i := 1) (v := .int .u64 (I (v 7))) rfl (by kernel_rfl) (by kernel_rfl) (by kernel_rfl) (fun _ _ _ h => h) (Or.inl ⟨by rfl, fun w9 hSw => ?_⟩) hHeld ?_
              · have h1 : w9.cell? ⟨z, 7, none⟩ = some (.int .u64 (I (v 7))) := hSw.2.cell (by decide)
                go_simp
              simp only [List.getElem_toArray, List.getElem_cons_succ, List.getElem_cons_zero, Act.put, List.setIfInBounds_toArray, List.set_cons_zero, List.set_cons_succ]
              refine wpAnyH_take (i := 2) (v := .int .u64 (I (v 4))) rfl (by kernel_rfl) (by kernel_rfl) (by kernel_rfl) (fun _ _ _ h => h) (Or.inl ⟨by rfl, fun w9 hSw => ?_⟩) hHeld ?_
              · go_simp
              simp only [List.getElem_toArray, List.getElem_cons_succ, List.getElem_cons_zero, Act.put, List.setIfInBounds_toArray, List.set_cons_zero, List.set_cons_succ]
              refine wpAnyH_take (i := 4) (v := .int .u64 (I (v 4))) rfl (by kernel_rfl) (by kernel_rfl) (by kernel_rfl) (fun _ _ _ h => h) (Or.inl ⟨by rfl, fun w9 hSw => ?_⟩) hHeld ?_
              · go_simp
              simp only [List.getElem_toArray, List.getElem_cons_succ, List.getElem_cons_zero, Act.put, List.setIfInBounds_toArray, List.set_cons_zero, List.set_cons_succ]
              refine wpAnyH_take (i := 7) (v := .int .u64 (I (v 4))) rfl (by kernel_rfl) (by kernel_rfl) (by kernel_rfl) (fun _ _ _ h => h) (Or.inl ⟨by rfl, fun w9 hSw => ?_⟩) hHeld ?_
              · go_simp
              simp only [List.getElem_toArray, List.getElem_cons_succ, List.getElem_cons_zero, Act.put, List.setIfInBounds_toArray, List.set_cons_zero, List.set_cons_succ]
              refine wpAnyH_take (i := 11) (v := .int .u64 (I (v 4))) rfl (by kernel_rfl) (by kernel_rfl) (by kernel_rfl) (fun _ _ _ h => h) (Or.inl ⟨by rfl, fun w9 hSw => ?_⟩) hHeld ?_
              · go_simp
              simp only [List.getElem_toArray, List.getElem_cons_succ, List.getElem_cons_zero, Act.put, List.setIfInBounds_toArray, List.set_cons_zero, List.set_cons_succ]
              refine wpAnyH_take (i := 15) (v := .int .u64 (I (v 4))) rfl (by kernel_rfl) (by kernel_rfl) (by kernel_rfl) (fun _ _ _ h => h) (Or.inl ⟨by rfl, fun w9 hSw => ?_⟩) hHeld ?_
              · go_simp
              simp only [List.getElem_toArray, List.getElem_cons_succ, List.getElem_cons_zero, Act.put, List.setIfInBounds_toArray, List.set_cons_zero, List.set_cons_succ]
              refine wpAnyH_take (i := 12) (v := .pointer (some ⟨z, 5, none⟩)) rfl (by kernel_rfl) (by kernel_rfl) (by kernel_rfl) (fun _ _ _ h => h) (Or.inl ⟨by rfl, fun w9 hSw => ?_⟩) hHeld ?_
              · go_simp
              simp only [List.getElem_toArray, List.getElem_cons_succ, List.getElem_cons_zero, Act.put, List.setIfInBounds_toArray, List.set_cons_zero, List.set_cons_succ]
              refine wpAnyH_take (i := 13) (v := .int .u64 (I (v 5))) rfl (by kernel_rfl) (by kernel_rfl) (by kernel_rfl) (fun _ _ _ h => h) (Or.inl ⟨by rfl, fun w9 hSw => ?_⟩) hHeld ?_
              · have h1 : w9.cell? ⟨z, 5, none⟩ = some (.int .u64 (I (v 5))) := hSw.2.cell (by decide)
                go_simp
              simp only [List.getElem_toArray, List.getElem_cons_succ, List.getElem_cons_zero, Act.put, List.setIfInBounds_toArray, List.set_cons_zero, List.set_cons_succ]
              refine wpAnyH_take (i := 14) (v := .int .u64 (I (v 4 &&& v 5))) rfl (by kernel_rfl) (by kernel_rfl) (by kernel_rfl) (fun _ _ _ h => h) (Or.inl ⟨by rfl, fun w9 hSw => ?_⟩) hHeld ?_
              · have a := ba (v 4) (v 5); go_simp
              simp only [List.getElem_toArray, List.getElem_cons_succ, List.getElem_cons_zero, Act.put, List.setIfInBounds_toArray, List.set_cons_zero, List.set_cons_succ]
              refine wpAnyH_take (i := 16) (v := .int .u64 (I (~~~ (v 4)))) rfl (by kernel_rfl) (by kernel_rfl) (by kernel_rfl) (fun _ _ _ h => h) (Or.inl ⟨by rfl, fun w9 hSw => ?_⟩) hHeld ?_
              · go_simp
                exact bnot (v 4)
              simp only [List.getElem_toArray, List.getElem_cons_succ, List.getElem_cons_zero, Act.put, List.setIfInBounds_toArray, List.set_cons_zero, List.set_cons_succ]
              refine wpAnyH_take (i := 17) (v := .pointer (some ⟨z, 6, none⟩)) rfl (by kernel_rfl) (by kernel_rfl) (by kernel_rfl) (fun _ _ _ h => h) (Or.inl ⟨by rfl, fun w9 hSw => ?_⟩) hHeld ?_
              · go_simp
              simp only [List.getElem_toArray, List.getElem_cons_succ, List.getElem_cons_zero, Act.put, List.setIfInBounds_toArray, List.set_cons_zero, List.set_cons_succ]
              refine wpAnyH_take (i := 18) (v := .int .u64 (I (v 6))) rfl (by kernel_rfl) (by kernel_rfl) (by kernel_rfl) (fun _ _ _ h => h) (Or.inl ⟨by rfl, fun w9 hSw => ?_⟩) hHeld ?_
              · have h1 : w9.cell? ⟨z, 6, none⟩ = some (.int .u64 (I (v 6))) := hSw.2.cell (by decide)
                go_simp
              simp only [List.getElem_toArray, List.getElem_cons_succ, List.getElem_cons_zero, Act.put, List.setIfInBounds_toArray, List.set_cons_zero, List.set_cons_succ]
              refine wpAnyH_take (i := 19) (v := .int .u64 (I (~~~ (v 4) &&& v 6))) rfl (by kernel_rfl) (by kernel_rfl) (by kernel_rfl) (fun _ _ _ h => h) (Or.inl ⟨by rfl, fun w9 hSw => ?_⟩) hHeld ?_
              · have a := ba (~~~ (v 4)) (v 6); go_simp
              simp only [List.getElem_toArray, List.getElem_cons_succ, List.getElem_cons_zero, Act.put, List.setIfInBounds_toArray, List.set_cons_zero, List.set_cons_succ]
              refine wpAnyH_take (i := 20) (v := .int .u64 (I (((v 4 &&& v 5) ^^^ (~~~ (v 4) &&& v 6))))) rfl (by kernel_rfl) (by kernel_rfl) (by kernel_rfl) (fun _ _ _ h => h) (Or.inl ⟨by rfl, fun w9 hSw => ?_⟩) hHeld ?_
              · have a := bx (v 4 &&& v 5) (~~~ (v 4) &&& v 6); go_simp
              simp only [List.getElem_toArray, List.getElem_cons_succ, List.getElem_cons_zero, Act.put, List.setIfInBounds_toArray, List.set_cons_zero, List.set_cons_succ]
              refine wpAnyH_take (i := 22) (v := .int .i64 (k : Int)) rfl (by kernel_rfl) (by kernel_rfl) (by kernel_rfl) (fun _ _ _ h => h) (Or.inl ⟨by rfl, fun w9 hSw => ?_⟩) hHeld ?_
              · go_simp
              simp only [List.getElem_toArray, List.getElem_cons_succ, List.getElem_cons_zero, Act.put, List.setIfInBounds_toArray, List.set_cons_zero, List.set_cons_succ]
              refine wpAnyH_take (i := 23) (v := .pointer (some ⟨w.heap.size + 4, k, none⟩)) rfl (by kernel_rfl) (by kernel_rfl) (by kernel_rfl) (fun _ _ _ h => h) (Or.inl ⟨by rfl, fun w9 hSw => ?_⟩) hHeld ?_
              · go_simp
              simp only [List.getElem_toArray, List.getElem_cons_succ, List.getElem_cons_zero, Act.put, List.setIfInBounds_toArray, List.set_cons_zero, List.set_cons_succ]
              refine wpAnyH_take (i := 24) (v := .int .u64 (I (KK k))) rfl (by kernel_rfl) (by kernel_rfl) (by kernel_rfl) (fun _ _ _ h => h) (Or.inl ⟨by rfl, fun w9 hSw => ?_⟩) hHeld ?_
              · have h1 : w9.cell? ⟨w.heap.size + 4, k, none⟩ = some (.int .u64 (I (KK k))) := hSw.1.2.2.2.1.cell (by omega)
                go_simp
              simp only [List.getElem_toArray, List.getElem_cons_succ, List.getElem_cons_zero, Act.put, List.setIfInBounds_toArray, List.set_cons_zero, List.set_cons_succ]
              refine wpAnyH_take (i := 26) (v := .int .i64 (k : Int)) rfl (by kernel_rfl) (by kernel_rfl) (by kernel_rfl) (fun _ _ _ h => h) (Or.inl ⟨by rfl, fun w9 hSw => ?_⟩) hHeld ?_
              · go_simp
              simp only [List.getElem_toArray, List.getElem_cons_succ, List.getElem_cons_zero, Act.put, List.setIfInBounds_toArray, List.set_cons_zero, List.set_cons_succ]
              refine wpAnyH_take (i := 27) (v := .pointer (some ⟨w.heap.size + 2, k, none⟩)) rfl (by kernel_rfl) (by kernel_rfl) (by kernel_rfl) (fun _ _ _ h => h) (Or.inl ⟨by rfl, fun w9 hSw => ?_⟩) hHeld ?_
              · go_simp
              simp only [List.getElem_toArray, List.getElem_cons_succ, List.getElem_cons_zero, Act.put, List.setIfInBounds_toArray, List.set_cons_zero, List.set_cons_succ]
              refine wpAnyH_take (i := 28) (v := .int .u64 (I (X k))) rfl (by kernel_rfl) (by kernel_rfl) (by kernel_rfl) (fun _ _ _ h => h) (Or.inl ⟨by rfl, fun w9 hSw => ?_⟩) hHeld ?_
              · have h1 : w9.cell? ⟨w.heap.size + 2, k, none⟩ = some (.int .u64 (I (X k))) := hSw.1.2.2.1.cell (by omega)
                go_simp
              simp only [List.getElem_toArray, List.getElem_cons_succ, List.getElem_cons_zero, Act.put, List.setIfInBounds_toArray, List.set_cons_zero, List.set_cons_succ]
              refine wpAnyH_ready (rs := [3]) (by kernel_rfl) (by simp) ?_
              refine AllReadyH.cons rfl (fun K hK => ?_) AllReadyH.nil
              go_simp
              refine (right_any (v 4) 14 (by decide) (by decide) _).mono ?_
              rintro e w' ⟨rfl, hs⟩
              obtain rfl := hs.symm
              go_wp2_with fail
              refine hK.out _ _ ?_ (fun hHeld => ?_)
              · exact hHeld
              clear hK K
              try simp only [List.getElem_toArray, List.getElem_cons_succ, List.getElem_cons_zero, Act.put, List.setIfInBounds_toArray, List.set_cons_zero, List.set_cons_succ]
              refine wpAnyH_ready (rs := [5]) (by kernel_rfl) (by simp) ?_
              refine AllReadyH.cons rfl (fun K hK => ?_) AllReadyH.nil
              go_simp
              refine (right_any (v 4) 18 (by decide) (by decide) _).mono ?_
              rintro e w' ⟨rfl, hs⟩
              obtain rfl := hs.symm
              go_wp2_with fail
              refine hK.out _ _ ?_ (fun hHeld => ?_)
              · exact hHeld
              clear hK K
              try simp only [List.getElem_toArray, List.getElem_cons_succ, List.getElem_cons_zero, Act.put, List.setIfInBounds_toArray, List.set_cons_zero, List.set_cons_succ]
              refine wpAnyH_take (i := 6) (v := .int .u64 (I (rr (v 4) 14 ^^^ rr (v 4) 18))) rfl (by kernel_rfl) (by kernel_rfl) (by kernel_rfl) (fun _ _ _ h => h) (Or.inl ⟨by rfl, fun w9 hSw => ?_⟩) hHeld ?_
              · have a := bx (rr (v 4) 14) (rr (v 4) 18); go_simp
              simp only [List.getElem_toArray, List.getElem_cons_succ, List.getElem_cons_zero, Act.put, List.setIfInBounds_toArray, List.set_cons_zero, List.set_cons_succ]
              refine wpAnyH_ready (rs := [8]) (by kernel_rfl) (by simp) ?_
              refine AllReadyH.cons rfl (fun K hK => ?_) AllReadyH.nil
              go_simp
              refine (right_any (v 4) 41 (by decide) (by decide) _).mono ?_
              rintro e w' ⟨rfl, hs⟩
              obtain rfl := hs.symm
              go_wp2_with fail
              refine hK.out _ _ ?_ (fun hHeld => ?_)
              · exact hHeld
              clear hK K
              try simp only [List.getElem_toArray, List.getElem_cons_succ, List.getElem_cons_zero, Act.put, List.setIfInBounds_toArray, List.set_cons_zero, List.set_cons_succ]
              refine wpAnyH_take (i := 9) (v := .int .u64 (I (bg1 (v 4)))) rfl (by kernel_rfl) (by kernel_rfl) (by kernel_rfl) (fun _ _ _ h => h) (Or.inl ⟨by rfl, fun w9 hSw => ?_⟩) hHeld ?_
              · have a : bits .xor .u64 (I (rr (v 4) 14 ^^^ rr (v 4) 18)) (I (rr (v 4) 41)) = I (bg1 (v 4)) := bx _ _
                go_simp
              simp only [List.getElem_toArray, List.getElem_cons_succ, List.getElem_cons_zero, Act.put, List.setIfInBounds_toArray, List.set_cons_zero, List.set_cons_succ]
              refine wpAnyH_take (i := 10) (v := .int .u64 (I (v 7 + bg1 (v 4)))) rfl (by kernel_rfl) (by kernel_rfl) (by kernel_rfl) (fun _ _ _ h => h) (Or.inl ⟨by rfl, fun w9 hSw => ?_⟩) hHeld ?_
              · have a := I_add (v 7) (bg1 (v 4)); go_simp
              simp only [List.getElem_toArray, List.getElem_cons_succ, List.getElem_cons_zero, Act.put, List.setIfInBounds_toArray, List.set_cons_zero, List.set_cons_succ]
              refine wpAnyH_take (i := 21) (v := .int .u64 (I (v 7 + bg1 (v 4) + ((v 4 &&& v 5) ^^^ (~~~ (v 4) &&& v 6))))) rfl (by kernel_rfl) (by kernel_rfl) (by kernel_rfl) (fun _ _ _ h => h) (Or.inl ⟨by rfl, fun w9 hSw => ?_⟩) hHeld ?_
              · have a := I_add (v 7 + bg1 (v 4)) ((v 4 &&& v 5) ^^^ (~~~ (v 4) &&& v 6)); go_simp
              simp only [List.getElem_toArray, List.getElem_cons_succ, List.getElem_cons_zero, Act.put, List.setIfInBounds_toArray, List.set_cons_zero, List.set_cons_succ]
              refine wpAnyH_take (i := 25) (v := .int .u64 (I (v 7 + bg1 (v 4) + ((v 4 &&& v 5) ^^^ (~~~ (v 4) &&& v 6)) + KK k))) rfl (by kernel_rfl) (by kernel_rfl) (by kernel_rfl) (fun _ _ _ h => h) (Or.inl ⟨by rfl, fun w9 hSw => ?_⟩) hHeld ?_
              · have a := I_add (v 7 + bg1 (v 4) + ((v 4 &&& v 5) ^^^ (~~~ (v 4) &&& v 6))) (KK k); go_simp
              simp only [List.getElem_toArray, List.getElem_cons_succ, List.getElem_cons_zero, Act.put, List.setIfInBounds_toArray, List.set_cons_zero, List.set_cons_succ]
              refine wpAnyH_take (i := 29) (v := .int .u64 (I (v 7 + bg1 (v 4) + ((v 4 &&& v 5) ^^^ (~~~ (v 4) &&& v 6)) + KK k + X k))) rfl (by kernel_rfl) (by kernel_rfl) (by kernel_rfl) (fun _ _ _ h => h) (Or.inl ⟨by rfl, fun w9 hSw => ?_⟩) hHeld ?_
              · have a := I_add (v 7 + bg1 (v 4) + ((v 4 &&& v 5) ^^^ (~~~ (v 4) &&& v 6)) + KK k) (X k); go_simp
              simp only [List.getElem_toArray, List.getElem_cons_succ, List.getElem_cons_zero, Act.put, List.setIfInBounds_toArray, List.set_cons_zero, List.set_cons_succ]
              refine wpAnyH_take (i := 30) (v := .int .u64 (I (v 7 + bg1 (v 4) + ((v 4 &&& v 5) ^^^ (~~~ (v 4) &&& v 6)) + KK k + X k))) rfl (by kernel_rfl) (by kernel_rfl) (by kernel_rfl) (fun _ _ _ h => h) (Or.inl ⟨by rfl, fun w9 hSw => ?_⟩) hHeld ?_
              · go_simp
              simp only [List.getElem_toArray, List.getElem_cons_succ, List.getElem_cons_zero, Act.put, List.setIfInBounds_toArray, List.set_cons_zero, List.set_cons_succ]
              refine wpAnyH_done (by kernel_rfl) ?_ _
              go_wp2
              refine wp_region_held_drew (S := fun w' => RbIn s X m bb off w w' ∧ w'.rowIs z 38 8 (lan v)) (by kernel_rfl) (⟨hHeld.1.more (Below.drew (Below.refl _ _)), hHeld.2.drew⟩) (fun hHeld => ?_)
              refine wpAnyH_take (i := 0) (v := .int .u64 (I (v 0))) rfl (by kernel_rfl) (by kernel_rfl) (by kernel_rfl) (fun _ _ _ h => h) (Or.inl ⟨by rfl, fun w9 hSw => ?_⟩) hHeld ?_
              · go_simp
              simp only [List.getElem_toArray, List.getElem_cons_succ, List.getElem_cons_zero, Act.put, List.setIfInBounds_toArray, List.set_cons_zero, List.set_cons_succ]
              refine wpAnyH_take (i := 2) (v := .int .u64 (I (v 0))) rfl (by kernel_rfl) (by kernel_rfl) (by kernel_rfl) (fun _ _ _ h => h) (Or.inl ⟨by rfl, fun w9 hSw => ?_⟩) hHeld ?_
              · go_simp
              simp only [List.getElem_toArray, List.getElem_cons_succ, List.getElem_cons_zero, Act.put, List.setIfInBounds_toArray, List.set_cons_zero, List.set_cons_succ]
              refine wpAnyH_take (i := 5) (v := .int .u64 (I (v 0))) rfl (by kernel_rfl) (by kernel_rfl) (by kernel_rfl) (fun _ _ _ h => h) (Or.inl ⟨by rfl, fun w9 hSw => ?_⟩) hHeld ?_
              · go_simp
              simp only [List.getElem_toArray, List.getElem_cons_succ, List.getElem_cons_zero, Act.put, List.setIfInBounds_toArray, List.set_cons_zero, List.set_cons_succ]
              refine wpAnyH_take (i := 8) (v := .int .u64 (I (v 0))) rfl (by kernel_rfl) (by kernel_rfl) (by kernel_rfl) (fun _ _ _ h => h) (Or.inl ⟨by rfl, fun w9 hSw => ?_⟩) hHeld ?_
              · go_simp
              simp only [List.getElem_toArray, List.getElem_cons_succ, List.getElem_cons_zero, Act.put, List.setIfInBounds_toArray, List.set_cons_zero, List.set_cons_succ]
              refine wpAnyH_take (i := 12) (v := .int .u64 (I (v 0))) rfl (by kernel_rfl) (by kernel_rfl) (by kernel_rfl) (fun _ _ _ h => h) (Or.inl ⟨by rfl, fun w9 hSw => ?_⟩) hHeld ?_
              · go_simp
              simp only [List.getElem_toArray, List.getElem_cons_succ, List.getElem_cons_zero, Act.put, List.setIfInBounds_toArray, List.set_cons_zero, List.set_cons_succ]
              refine wpAnyH_take (i := 9) (v := .pointer (some ⟨z, 1, none⟩)) rfl (by kernel_rfl) (by kernel_rfl) (by kernel_rfl) (fun _ _ _ h => h) (Or.inl ⟨by rfl, fun w9 hSw => ?_⟩) hHeld ?_
              · go_simp
              simp only [List.getElem_toArray, List.getElem_cons_succ, List.getElem_cons_zero, Act.put, List.setIfInBounds_toArray, List.set_cons_zero, List.set_cons_succ]
              refine wpAnyH_take (i := 10) (v := .int .u64 (I (v 1))) rfl (by kernel_rfl) (by kernel_rfl) (by kernel_rfl) (fun _ _ _ h => h) (Or.inl ⟨by rfl, fun w9 hSw => ?_⟩) hHeld ?_
              · have h1 : w9.cell? ⟨z, 1, none⟩ = some (.int .u64 (I (v 1))) := hSw.2.cell (by decide)
                go_simp
              simp only [List.getElem_toArray, List.getElem_cons_succ, List.getElem_cons_zero, Act.put, List.setIfInBounds_toArray, List.set_cons_zero, List.set_cons_succ]
              refine wpAnyH_take (i := 11) (v := .int .u64 (I (v 0 &&& v 1))) rfl (by kernel_rfl) (by kernel_rfl) (by kernel_rfl) (fun _ _ _ h => h) (Or.inl ⟨by rfl, fun w9 hSw => ?_⟩) hHeld ?_
              · have a := ba (v 0) (v 1); go_simp
              simp only [List.getElem_toArray, List.getElem_cons_succ, List.getElem_cons_zero, Act.put, List.setIfInBounds_toArray, List.set_cons_zero, List.set_cons_succ]
              refine wpAnyH_take (i := 13) (v := .pointer (some ⟨z, 2, none⟩)) rfl (by kernel_rfl) (by kernel_rfl) (by kernel_rfl) (fun _ _ _ h => h) (Or.inl ⟨by rfl, fun w9 hSw => ?_⟩) hHeld ?_
              · go_simp
              simp only [List.getElem_toArray, List.getElem_cons_succ, List.getElem_cons_zero, Act.put, List.setIfInBounds_toArray, List.set_cons_zero, List.set_cons_succ]
              refine wpAnyH_take (i := 14) (v := .int .u64 (I (v 2))) rfl (by kernel_rfl) (by kernel_rfl) (by kernel_rfl) (fun _ _ _ h => h) (Or.inl ⟨by rfl, fun w9 hSw => ?_⟩) hHeld ?_
              · have h1 : w9.cell? ⟨z, 2, none⟩ = some (.int .u64 (I (v 2))) := hSw.2.cell (by decide)
                go_simp
              simp only [List.getElem_toArray, List.getElem_cons_succ, List.getElem_cons_zero, Act.put, List.setIfInBounds_toArray, List.set_cons_zero, List.set_cons_succ]
              refine wpAnyH_take (i := 15) (v := .int .u64 (I (v 0 &&& v 2))) rfl (by kernel_rfl) (by kernel_rfl) (by kernel_rfl) (fun _ _ _ h => h) (Or.inl ⟨by rfl, fun w9 hSw => ?_⟩) hHeld ?_
              · have a := ba (v 0) (v 2); go_simp
              simp only [List.getElem_toArray, List.getElem_cons_succ, List.getElem_cons_zero, Act.put, List.setIfInBounds_toArray, List.set_cons_zero, List.set_cons_succ]
              refine wpAnyH_take (i := 16) (v := .int .u64 (I ((v 0 &&& v 1) ^^^ (v 0 &&& v 2)))) rfl (by kernel_rfl) (by kernel_rfl) (by kernel_rfl) (fun _ _ _ h => h) (Or.inl ⟨by rfl, fun w9 hSw => ?_⟩) hHeld ?_
              · have a := bx (v 0 &&& v 1) (v 0 &&& v 2); go_simp
              simp only [List.getElem_toArray, List.getElem_cons_succ, List.getElem_cons_zero, Act.put, List.setIfInBounds_toArray, List.set_cons_zero, List.set_cons_succ]
              refine wpAnyH_take (i := 17) (v := .pointer (some ⟨z, 1, none⟩)) rfl (by kernel_rfl) (by kernel_rfl) (by kernel_rfl) (fun _ _ _ h => h) (Or.inl ⟨by rfl, fun w9 hSw => ?_⟩) hHeld ?_
              · go_simp
              simp only [List.getElem_toArray, List.getElem_cons_succ, List.getElem_cons_zero, Act.put, List.setIfInBounds_toArray, List.set_cons_zero, List.set_cons_succ]
              refine wpAnyH_take (i := 18) (v := .int .u64 (I (v 1))) rfl (by kernel_rfl) (by kernel_rfl) (by kernel_rfl) (fun _ _ _ h => h) (Or.inl ⟨by rfl, fun w9 hSw => ?_⟩) hHeld ?_
              · have h1 : w9.cell? ⟨z, 1, none⟩ = some (.int .u64 (I (v 1))) := hSw.2.cell (by decide)
                go_simp
              simp only [List.getElem_toArray, List.getElem_cons_succ, List.getElem_cons_zero, Act.put, List.setIfInBounds_toArray, List.set_cons_zero, List.set_cons_succ]
              refine wpAnyH_take (i := 19) (v := .pointer (some ⟨z, 2, none⟩)) rfl (by kernel_rfl) (by kernel_rfl) (by kernel_rfl) (fun _ _ _ h => h) (Or.inl ⟨by rfl, fun w9 hSw => ?_⟩) hHeld ?_
              · go_simp
              simp only [List.getElem_toArray, List.getElem_cons_succ, List.getElem_cons_zero, Act.put, List.setIfInBounds_toArray, List.set_cons_zero, List.set_cons_succ]
              refine wpAnyH_take (i := 20) (v := .int .u64 (I (v 2))) rfl (by kernel_rfl) (by kernel_rfl) (by kernel_rfl) (fun _ _ _ h => h) (Or.inl ⟨by rfl, fun w9 hSw => ?_⟩) hHeld ?_
              · have h1 : w9.cell? ⟨z, 2, none⟩ = some (.int .u64 (I (v 2))) := hSw.2.cell (by decide)
                go_simp
              simp only [List.getElem_toArray, List.getElem_cons_succ, List.getElem_cons_zero, Act.put, List.setIfInBounds_toArray, List.set_cons_zero, List.set_cons_succ]
              refine wpAnyH_take (i := 21) (v := .int .u64 (I (v 1 &&& v 2))) rfl (by kernel_rfl) (by kernel_rfl) (by kernel_rfl) (fun _ _ _ h => h) (Or.inl ⟨by rfl, fun w9 hSw => ?_⟩) hHeld ?_
              · have a := ba (v 1) (v 2); go_simp
              simp only [List.getElem_toArray, List.getElem_cons_succ, List.getElem_cons_zero, Act.put, List.setIfInBounds_toArray, List.set_cons_zero, List.set_cons_succ]
              refine wpAnyH_take (i := 22) (v := .int .u64 (I (((v 0 &&& v 1) ^^^ (v 0 &&& v 2) ^^^ (v 1 &&& v 2))))) rfl (by kernel_rfl) (by kernel_rfl) (by kernel_rfl) (fun _ _ _ h => h) (Or.inl ⟨by rfl, fun w9 hSw => ?_⟩) hHeld ?_
              · have a := bx ((v 0 &&& v 1) ^^^ (v 0 &&& v 2)) (v 1 &&& v 2); go_simp
              simp only [List.getElem_toArray, List.getElem_cons_succ, List.getElem_cons_zero, Act.put, List.setIfInBounds_toArray, List.set_cons_zero, List.set_cons_succ]
              refine wpAnyH_ready (rs := [1]) (by kernel_rfl) (by simp) ?_
              refine AllReadyH.cons rfl (fun K hK => ?_) AllReadyH.nil
              go_simp
              refine (right_any (v 0) 28 (by decide) (by decide) _).mono ?_
              rintro e w' ⟨rfl, hs⟩
              obtain rfl := hs.symm
              go_wp2_with fail
              refine hK.out _ _ ?_ (fun hHeld => ?_)
              · exact hHeld
              clear hK K
              try simp only [List.getElem_toArray, List.getElem_cons_succ, List.getElem_cons_zero, Act.put, List.setIfInBounds_toArray, List.set_cons_zero, List.set_cons_succ]
              refine wpAnyH_ready (rs := [3]) (by kernel_rfl) (by simp) ?_
              refine AllReadyH.cons rfl (fun K hK => ?_) AllReadyH.nil
              go_simp
              refine (right_any (v 0) 34 (by decide) (by decide) _).mono ?_
              rintro e w' ⟨rfl, hs⟩
              obtain rfl := hs.symm
              go_wp2_with fail
              refine hK.out _ _ ?_ (fun hHeld => ?_)
              · exact hHeld
              clear hK K
              try simp only [List.getElem_toArray, List.getElem_cons_succ, List.getElem_cons_zero, Act.put, List.setIfInBounds_toArray, List.set_cons_zero, List.set_cons_succ]
              refine wpAnyH_take (i := 4) (v := .int .u64 (I (rr (v 0) 28 ^^^ rr (v 0) 34))) rfl (by kernel_rfl) (by kernel_rfl) (by kernel_rfl) (fun _ _ _ h => h) (Or.inl ⟨by rfl, fun w9 hSw => ?_⟩) hHeld ?_
              · have a := bx (rr (v 0) 28) (rr (v 0) 34); go_simp
              simp only [List.getElem_toArray, List.getElem_cons_succ, List.getElem_cons_zero, Act.put, List.setIfInBounds_toArray, List.set_cons_zero, List.set_cons_succ]
              refine wpAnyH_ready (rs := [6]) (by kernel_rfl) (by simp) ?_
              refine AllReadyH.cons rfl (fun K hK => ?_) AllReadyH.nil
              go_simp
              refine (right_any (v 0) 39 (by decide) (by decide) _).mono ?_
              rintro e w' ⟨rfl, hs⟩
              obtain rfl := hs.symm
              go_wp2_with fail
              refine hK.out _ _ ?_ (fun hHeld => ?_)
              · exact hHeld
              clear hK K
              try simp only [List.getElem_toArray, List.getElem_cons_succ, List.getElem_cons_zero, Act.put, List.setIfInBounds_toArray, List.set_cons_zero, List.set_cons_succ]
              refine wpAnyH_take (i := 7) (v := .int .u64 (I (bg0 (v 0)))) rfl (by kernel_rfl) (by kernel_rfl) (by kernel_rfl) (fun _ _ _ h => h) (Or.inl ⟨by rfl, fun w9 hSw => ?_⟩) hHeld ?_
              · have a : bits .xor .u64 (I (rr (v 0) 28 ^^^ rr (v 0) 34)) (I (rr (v 0) 39)) = I (bg0 (v 0)) := bx _ _
                go_simp
              simp only [List.getElem_toArray, List.getElem_cons_succ, List.getElem_cons_zero, Act.put, List.setIfInBounds_toArray, List.set_cons_zero, List.set_cons_succ]
              refine wpAnyH_take (i := 23) (v := .int .u64 (I (bg0 (v 0) + ((v 0 &&& v 1) ^^^ (v 0 &&& v 2) ^^^ (v 1 &&& v 2))))) rfl (by kernel_rfl) (by kernel_rfl) (by kernel_rfl) (fun _ _ _ h => h) (Or.inl ⟨by rfl, fun w9 hSw => ?_⟩) hHeld ?_
              · have a := I_add (bg0 (v 0)) ((v 0 &&& v 1) ^^^ (v 0 &&& v 2) ^^^ (v 1 &&& v 2)); go_simp
              simp only [List.getElem_toArray, List.getElem_cons_succ, List.getElem_cons_zero, Act.put, List.setIfInBounds_toArray, List.set_cons_zero, List.set_cons_succ]
              refine wpAnyH_take (i := 24) (v := .int .u64 (I (bg0 (v 0) + ((v 0 &&& v 1) ^^^ (v 0 &&& v 2) ^^^ (v 1 &&& v 2))))) rfl (by kernel_rfl) (by kernel_rfl) (by kernel_rfl) (fun _ _ _ h => h) (Or.inl ⟨by rfl, fun w9 hSw => ?_⟩) hHeld ?_
              · go_simp
              simp only [List.getElem_toArray, List.getElem_cons_succ, List.getElem_cons_zero, Act.put, List.setIfInBounds_toArray, List.set_cons_zero, List.set_cons_succ]
              refine wpAnyH_done (by kernel_rfl) ?_ _
              obtain ⟨W3, hW3⟩ : ∃ W3, W3 = wq.drew.drew := ⟨_, rfl⟩
              have H3 : Hid (RbIn s X m bb off w W3 ∧ W3.rowIs z 38 8 (lan v)) := by rw [hW3]; exact hHeld
              rw [← hW3]
              clear hW3 hHeld HN
              have c0 : W3.cell? ⟨z, 0, none⟩ = some (.int .u64 (I (v 0))) := H3.out.2.cell (by decide)
              have c1 : W3.cell? ⟨z, 1, none⟩ = some (.int .u64 (I (v 1))) := H3.out.2.cell (by decide)
              have c2 : W3.cell? ⟨z, 2, none⟩ = some (.int .u64 (I (v 2))) := H3.out.2.cell (by decide)
              have c3 : W3.cell? ⟨z, 3, none⟩ = some (.int .u64 (I (v 3))) := H3.out.2.cell (by decide)
              have c4 : W3.cell? ⟨z, 4, none⟩ = some (.int .u64 (I (v 4))) := H3.out.2.cell (by decide)
              have c5 : W3.cell? ⟨z, 5, none⟩ = some (.int .u64 (I (v 5))) := H3.out.2.cell (by decide)
              have c6 : W3.cell? ⟨z, 6, none⟩ = some (.int .u64 (I (v 6))) := H3.out.2.cell (by decide)
              obtain ⟨t1, ht1⟩ : ∃ t1, t1 = v 7 + bg1 (v 4) + ((v 4 &&& v 5) ^^^ (~~~ (v 4) &&& v 6)) + KK k + X k := ⟨_, rfl⟩
              obtain ⟨t2, ht2⟩ : ∃ t2, t2 = bg0 (v 0) + ((v 0 &&& v 1) ^^^ (v 0 &&& v 2) ^^^ (v 1 &&& v 2)) := ⟨_, rfl⟩
              have a1 := I_add t1 t2
              have a2 := I_add (v 3) t1
              rw [← ht1, ← ht2]
              have HV2 : Hid ((vec 8 (lan (stpTo KK X s (k + 1)))) = #[.int .u64 (I (t1 + t2)), .int .u64 (I (v 0)), .int .u64 (I (v 1)), .int .u64 (I (v 2)), .int .u64 (I (v 3 + t1)), .int .u64 (I (v 4)), .int .u64 (I (v 5)), .int .u64 (I (v 6))]) := by
                rw [HV.out]
                show vec 8 (lan (stp (KK k) (X k) v)) = _
                have e0 : stp (KK k) (X k) v 0 = t1 + t2 := by rw [stp0, ht1, ht2]
                have e4 : stp (KK k) (X k) v 4 = v 3 + t1 := by rw [stp4, ht1]
                have ev : vec 8 (lan (stp (KK k) (X k) v)) = #[.int .u64 (I (stp (KK k) (X k) v 0)), .int .u64 (I (v 0)), .int .u64 (I (v 1)), .int .u64 (I (v 2)), .int .u64 (I (stp (KK k) (X k) v 4)), .int .u64 (I (v 4)), .int .u64 (I (v 5)), .int .u64 (I (v 6))] := rfl
                rw [ev, e0, e4]
              clear HV ht1 ht2
              go_wp2_with (first | (refine wpList_build rfl 38 _ rfl (by kernel_rfl) ?_; generalize hG : (Program.built _ _ _).getD #[] = G; obtain rfl : G = vec 8 (lan (stpTo KK X s (k + 1))) := by rw [HV2.out, ← hG]; kernel_rfl) | (refine wpList_store_row rfl 38 _ _ rfl z _ rfl rfl 38 _ (row_heap H3.out.2) (info38v _) (by simp) (one_lan _ _) ?_))
              try clear hG
              clear c0 c1 c2 c3 c4 c5 c6 a1 a2 HV2
              go_roundw
              case rel => exact ⟨k + 1, by omega, by go_num, H3.out.1.other hz4 ((Only.refl _ _).setRow _), heap_row (setRow_heap _ _ _ _ _ _ (row_heap H3.out.2))⟩
              case measure => simp [intOf]; omega
            · have hk2 : k = 80 := by omega
              have H1 : Hid (RbIn (smTo s (stpTo KK X s 80) 0) X m bb off w wr ∧ wr.rowIs z 38 8 (lan (stpTo KK X s 80))) := ⟨hin.1.state (hin.1.1.congr (fun i _ => by simp [lan, smTo])) (Only.refl _ _), hk2 ▸ hin.2⟩
              have hd : ¬ (k : Int) < 80 := by omega
              clear hin hk2
              obtain ⟨v, hv⟩ : ∃ v, v = stpTo KK X s 80 := ⟨_, rfl⟩
              have HV : Hid (v = stpTo KK X s 80) := hv
              rw [← hv] at H1
              clear hv
              go_wp2
              go_loopw [17] (fun i wr => ∃ k : Nat, k ≤ 8 ∧ i = .int .i64 (k : Int) ∧ RbIn (smTo s v k) X m bb off w wr ∧ wr.rowIs z 38 8 (lan v)) (fun i _ => 8 - (intOf i).toNat)
              case atStart => exact ⟨0, by omega, rfl, H1.out⟩
              case round =>
                clear hlt hk hd
                obtain ⟨k, hk, rfl, hin⟩ := hrel
                clear H1
                by_cases hlt : k < 8
                · have c0 : wr.cell? ⟨w.heap.size, k, none⟩ = some (.int .u64 (I (s k))) := by rw [hin.1.1.cell hlt]; simp [lan, smTo]
                  have c1 : wr.cell? ⟨z, k, none⟩ = some (.int .u64 (I (v k))) := hin.2.cell hlt
                  have f0 : wr.frozen? ⟨w.heap.size, k, none⟩ = false := hin.1.1.frozen _
                  have H1 : Hid (RbIn (smTo s v k) X m bb off w wr ∧ wr.rowIs z 38 8 (lan v)) := hin
                  have a1 := I_add (s k) (v k)
                  clear hin
                  go_wp2
                  go_region
                  go_wp2
                  go_roundw
                  case rel => exact ⟨k + 1, by omega, by go_num, (H1.out.1.state (sm_row hlt H1.out.1.1 rfl) ((Only.refl _ _).setCell _ _)).more (Below.drew (Below.refl _ _)), (H1.out.2.setOther (by show z ≠ w.heap.size; omega) _).drew⟩
                  case measure => simp [intOf]; omega
                · have : k = 8 := by omega
                  subst this
                  go_wp2_with (first | (refine wpList_load_row rfl 38 _ rfl w.heap.size rfl 38 _ (0, 0) _ (row_heap hin.1.1) Try.underlying38 rfl (info38v _) ?_) | (refine wpList_store_row rfl 38 _ _ rfl (w.heap.size + 1) _ rfl rfl 38 _ (row_heap hin.1.2.1) (info38v _) (by simp) (one_lan _ _) ?_))
                  refine bodyPost_ret (results_cell_row rfl _ _ _ _ _ _ _ rfl (setRow_heap _ _ _ _ _ _ (row_heap hin.1.2.1)) Try.underlying38 rfl (info38v _)) rfl ⟨?_, ?_⟩
                  · rw [vec_congr (g := lan (beh KK s m)) (fun i hi => by simp only [lan, smTo, beh]; rw [if_pos hi, HV.out, HX2.out])]
                  · exact ((Only.refl _ _).setRow _).below hin.1.2.2.2.2.1 (by omega)
end Go.Proofs.Ytkenaccagcdofaa
