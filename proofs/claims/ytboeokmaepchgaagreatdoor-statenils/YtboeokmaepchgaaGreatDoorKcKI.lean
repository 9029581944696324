/- (*Hasher).Sum, New, Sum. -/
import Derived.Test.YtboeokmaepchgaaGreatDoorKcKH
namespace Go.Proofs.YtboeokmaepchgaaGreatDoor.Kc
open Go.RowKit Go.Shelf
set_option linter.unusedSimpArgs false
set_option linter.unusedVariables false

theorem zero32' : (#[.int .u8 0, .int .u8 0, .int .u8 0, .int .u8 0, .int .u8 0, .int .u8 0, .int .u8 0, .int .u8 0, .int .u8 0, .int .u8 0, .int .u8 0, .int .u8 0, .int .u8 0, .int .u8 0, .int .u8 0, .int .u8 0, .int .u8 0, .int .u8 0, .int .u8 0, .int .u8 0, .int .u8 0, .int .u8 0, .int .u8 0, .int .u8 0, .int .u8 0, .int .u8 0, .int .u8 0, .int .u8 0, .int .u8 0, .int .u8 0, .int .u8 0, .int .u8 0] : Array Value) = vec 32 (byt fun _ => 0#8) := by kernel_rfl
theorem ofInt_I8 (x : BitVec 8) : BitVec.ofInt 8 (I8 x) = x := by
  unfold I8; rw [BitVec.ofInt_natCast, BitVec.ofNat_toNat, BitVec.setWidth_eq]
theorem I8_wrap (x : BitVec 8) : IntKind.u8.wrap (I8 x) = I8 x := by
  rw [IntKind.wrap_u8']; have := I8_bd x; omega
theorem bo8 (a : BitVec 8) : bits .or .u8 (I8 a) 128 = I8 (a ||| 128#8) := by
  have h : bits .or .u8 (I8 a) 128 = IntKind.u8.wrap (((BitVec.ofInt 8 (I8 a)) ||| (BitVec.ofInt 8 128)).toNat : Int) := rfl
  rw [h, ofInt_I8]; exact I8_wrap _
/-- The last block: what is held, and the padding. -/
def lastTo (msg : Nat → BitVec 8) (n : Nat) (i : Nat) : BitVec 8 := if i < n % 136 then msg (136 * (n / 136) + i) else if i = n % 136 then 1 else 0
def lastB (msg : Nat → BitVec 8) (n : Nat) (i : Nat) : BitVec 8 := if i = 135 then lastTo msg n 135 ||| 128#8 else lastTo msg n i
/-- The hash of the first n bytes of a message. -/
def digest (msg : Nat → BitVec 8) (n : Nat) : Nat → BitVec 8 := outb (permute RCs (absTo (stAfter msg (n / 136)) (lastB msg n) 136))
theorem part_upto (hb r : Nat) (hr : r < 136) (w : World) : (Instr.sliceAt 202 (.pointer (some ⟨hb, 25, none⟩)) none (some (.int .i64 (r : Int))) none).run Tryz.prog w = .ok (.slice (some ⟨hb, 25, none⟩) r 136) w := by
  have ha : Tryz.prog.arrayLen 202 = 136 := by kernel_rfl
  have he : Tryz.prog.elem 202 = 5 := by kernel_rfl
  rw [run_sliceAt_array_h w 202 ⟨hb, 25, none⟩ (by kernel_rfl) .i64 (r : Int) (by omega) (by rw [ha]; omega), he, Tryz.sizeOf5, ha]
  simp only [Result.andThen, slicedAt, Int.toNat_natCast]
  simp [Addr.add]
theorem part_all (b : Nat) (w : World) : (Instr.sliceAt 202 (.pointer (some ⟨b, 0, none⟩)) none none none).run Tryz.prog w = .ok (.slice (some ⟨b, 0, none⟩) 136 136) w := by
  have ha : Tryz.prog.arrayLen 202 = 136 := by kernel_rfl
  have he : Tryz.prog.elem 202 = 5 := by kernel_rfl
  rw [run_sliceAt_array_all w 202 ⟨b, 0, none⟩ (by kernel_rfl), he, Tryz.sizeOf5, ha]
  simp [Result.andThen, slicedAt, Addr.add]
theorem last_in {w w2 : World} {hb n q r : Nat} {msg p : Nat → BitVec 8} {v : Value} (hlt : hb < w.heap.size) (h0 : w.rowIs hb 204 162 (has (stAfter msg q) p r)) (h1 : w2.rowIs (w.heap.size + 1) 202 136 (byt (fun i => if i < r then msg (136 * q + i) else 0#8))) (hb2 : Below w.heap.size w w2) (h2 : w2.rowIs w.heap.size 33 32 (byt fun _ => 0#8))
    (hr : r = n % 136) (hq : q = n / 136) (hv : v = .int .u8 (I8 ((if r = 135 then 1#8 else 0#8) ||| 128#8))) :
    ((w2.setCell ⟨w.heap.size + 1, r, none⟩ (.int .u8 1)).setCell ⟨w.heap.size + 1, 135, none⟩ v).rowIs (w.heap.size + 1) 202 136 (byt (lastB msg n)) ∧ Below w.heap.size w ((w2.setCell ⟨w.heap.size + 1, r, none⟩ (.int .u8 1)).setCell ⟨w.heap.size + 1, 135, none⟩ v) ∧
      ((w2.setCell ⟨w.heap.size + 1, r, none⟩ (.int .u8 1)).setCell ⟨w.heap.size + 1, 135, none⟩ v).rowIs w.heap.size 33 32 (byt fun _ => 0#8) ∧ ((w2.setCell ⟨w.heap.size + 1, r, none⟩ (.int .u8 1)).setCell ⟨w.heap.size + 1, 135, none⟩ v).rowIs hb 204 162 (has (stAfter msg q) p r) := by
  have hr1 : r < 136 := by omega
  refine ⟨((h1.set _ _).set _ _).congr ?_, (hb2.setCell (by show w.heap.size ≤ w.heap.size + 1; omega) _).setCell (by show w.heap.size ≤ w.heap.size + 1; omega) _, (h2.setOther (by show w.heap.size ≠ w.heap.size + 1; omega) _).setOther (by show w.heap.size ≠ w.heap.size + 1; omega) _, ((h0.of_block (hb2.block _ hlt)).setOther (by show hb ≠ w.heap.size + 1; omega) _).setOther (by show hb ≠ w.heap.size + 1; omega) _⟩
  intro i hi
  subst hv
  have h1' : Value.int .u8 1 = .int .u8 (I8 1#8) := rfl
  by_cases e : i = 135
  · subst e
    simp only [if_true, byt, lastB, lastTo, ← hr, ← hq, if_neg (show ¬ 135 < r by omega)]
    by_cases e2 : r = 135
    · subst e2; rfl
    · rw [if_neg e2, if_neg (fun h => e2 h.symm)]; rfl
  · simp only [if_neg e, byt, lastB, lastTo, ← hr, ← hq]
    by_cases e2 : i = r
    · subst e2; rw [if_pos rfl, if_neg (by omega), if_pos rfl]; rfl
    · rw [if_neg e2]
      by_cases e3 : i < r
      · rw [if_pos e3, if_pos e3]
      · rw [if_neg e3, if_neg e3, if_neg e2]; rfl
set_option maxRecDepth 100000 in
set_option maxHeartbeats 2000000 in
/-- (*Hasher).Sum -/
theorem hsum_any (hb n : Nat) (msg : Nat → BitVec 8) (w : World) (hp : PathIn w) (hin : HasIn w hb msg n) :
    Calls Tryz.prog 95 #[.pointer (some ⟨hb, 0, none⟩)] w fun e w' => e = .returned (.agg (vec 32 (byt (digest msg n)))) ∧ Below w.heap.size w w' := by
  obtain ⟨p, hrow, hpp⟩ := hin
  obtain ⟨r, hr⟩ : ∃ r, r = n % 136 := ⟨_, rfl⟩
  obtain ⟨q, hq⟩ : ∃ q, q = n / 136 := ⟨_, rfl⟩
  rw [← hr, ← hq] at hrow
  rw [← hr, ← hq] at hpp
  have hr1 : r < 136 := by omega
  have hlt : hb < w.heap.size := hrow.lt
  have H0 : Hid (PathIn w ∧ 1 < w.heap.size ∧ w.rowIs hb 204 162 (has (stAfter msg q) p r) ∧ (∀ i, i < r → p i = msg (136 * q + i)) ∧ r = n % 136 ∧ q = n / 136) := ⟨hp, pathIn_pos hp, hrow, hpp, hr, hq⟩
  clear hp hrow hpp hr hq
  have hz := (zero_of_info zero54).1
  have hsl := part_upto hb r hr1
  have hsa := part_all (w.heap.size + 1)
  go_enter Tryz.func95, Tryz.ntmps95
  go_wp2
  obtain ⟨W, hW⟩ : ∃ W, ((w.alloc (.cells (vec 32 (byt fun _ => 0#8)) 33)).alloc (.cells (vec 136 (byt fun _ => 0#8)) 202)) = W := ⟨_, rfl⟩
  rw [zero32', hW]
  have hWb : Below w.heap.size w W := by rw [← hW]; go_grown
  have hW1 : W.rowIs (w.heap.size + 1) 202 136 (byt fun _ => 0#8) := by
    rw [← hW]; have h := heap_row (heap_alloc_new (w.alloc (.cells (vec 32 (byt fun _ => 0#8)) 33)) (.cells (vec 136 (byt fun _ => 0#8)) 202)); simpa using h
  have hW0 : W.rowIs w.heap.size 33 32 (byt fun _ => 0#8) := by
    rw [← hW]; exact (heap_row (heap_alloc_new w (.cells (vec 32 (byt fun _ => 0#8)) 33))).alloc _
  have hWr : W.rowIs hb 204 162 (has (stAfter msg q) p r) := H0.out.2.2.1.of_block (hWb.block _ hlt)
  clear hW hz
  have cH : W.cell? ⟨hb, 161, none⟩ = some (.int .i64 (r : Int)) := by rw [hWr.cell (by decide), has_held]
  have H1 : Hid (Below w.heap.size w W ∧ W.rowIs (w.heap.size + 1) 202 136 (byt fun _ => 0#8) ∧ W.rowIs w.heap.size 33 32 (byt fun _ => 0#8) ∧ W.rowIs hb 204 162 (has (stAfter msg q) p r)) := ⟨hWb, hW1, hW0, hWr⟩
  have HSC : Hid (r = Nat.min r 136 ∧ ∀ j, j < r → W.drew.cell? ((⟨hb, 25, none⟩ : Addr).add j) = some (byt p j)) := ⟨(Nat.min_eq_left (by omega)).symm, fun j hj => by
    have : (⟨hb, 25, none⟩ : Addr).add j = ⟨hb, 25 + j, none⟩ := by unfold Addr.add; simp
    rw [this]
    exact (hWr.cell (i := 25 + j) (by omega)).trans (by rw [has_part (by omega)])⟩
  clear hWb hW1 hW0 hWr
  go_region_held3 (fun w' => w'.cell? ⟨hb, 161, none⟩ = some (.int .i64 (r : Int))) (first | assumption) (first | (refine step_copy_vec rfl (.tmp 7) (.tmp 15) 22 22 rfl 5 Tryz.underlying22 (by kernel_rfl) (w.heap.size + 1) 0 136 202 _ H1.out.2.1.drew r _ _ _ _ ⟨hb, 25, none⟩ rfl rfl HSC.out.1 (byt p) HSC.out.2 (fun _ _ => rfl) (by omega) ?_; intro w2 hr2 ho2; have hS2 : w2.cell? ⟨hb, 161, none⟩ = some (.int .i64 (r : Int)) := (World.cell?_of_block (ho2.block _ (show hb ≠ w.heap.size + 1 by omega))).trans cH))
  have row2 : w2.rowIs (w.heap.size + 1) 202 136 (byt (fun i => if i < r then msg (136 * q + i) else 0#8)) := hr2.congr (fun i hi => by
    by_cases h : i < r
    · rw [if_pos ⟨by omega, by omega⟩]; simp only [byt, if_pos h, Nat.sub_zero]; rw [H0.out.2.2.2.1 i h]
    · rw [if_neg (by omega)]; simp only [byt, if_neg h])
  have hbl2 : Below w.heap.size w w2 := ho2.below (Below.drew H1.out.1) (by omega)
  have row0 : w2.rowIs w.heap.size 33 32 (byt fun _ => 0#8) := ho2.row (by omega) H1.out.2.2.1.drew
  have f1 := row2.frozen
  obtain ⟨u, cr⟩ : ∃ u, w2.cell? ⟨w.heap.size + 1, r, none⟩ = some u := ⟨_, row2.cell hr1⟩
  have H2 : Hid (w2.rowIs (w.heap.size + 1) 202 136 (byt (fun i => if i < r then msg (136 * q + i) else 0#8)) ∧ Below w.heap.size w w2 ∧ w2.rowIs w.heap.size 33 32 (byt fun _ => 0#8)) := ⟨row2, hbl2, row0⟩
  have HC : Hid (r < 135 → w2.cell? ⟨w.heap.size + 1, 135, none⟩ = some (.int .u8 0)) := fun h => by rw [row2.cell (by decide)]; simp only [byt]; rw [if_neg (by omega)]; rfl
  clear row2 hbl2 row0 hr2 ho2 cH HSC hsl hsa H1
  by_cases hr135 : r = 135
  · subst hr135
    clear HC
    go_wp2
    have H3 : Hid (((w2.setCell ⟨w.heap.size + 1, 135, none⟩ (.int .u8 1)).setCell ⟨w.heap.size + 1, 135, none⟩ (.int .u8 (bits .or .u8 1 128))).rowIs (w.heap.size + 1) 202 136 (byt (lastB msg n)) ∧ Below w.heap.size w ((w2.setCell ⟨w.heap.size + 1, 135, none⟩ (.int .u8 1)).setCell ⟨w.heap.size + 1, 135, none⟩ (.int .u8 (bits .or .u8 1 128))) ∧ ((w2.setCell ⟨w.heap.size + 1, 135, none⟩ (.int .u8 1)).setCell ⟨w.heap.size + 1, 135, none⟩ (.int .u8 (bits .or .u8 1 128))).rowIs w.heap.size 33 32 (byt fun _ => 0#8) ∧ ((w2.setCell ⟨w.heap.size + 1, 135, none⟩ (.int .u8 1)).setCell ⟨w.heap.size + 1, 135, none⟩ (.int .u8 (bits .or .u8 1 128))).rowIs hb 204 162 (has (stAfter msg q) p 135)) :=
      last_in hlt H0.out.2.2.1 H2.out.1 H2.out.2.1 H2.out.2.2 H0.out.2.2.2.2.1 H0.out.2.2.2.2.2 (by rw [if_pos rfl]; exact congrArg (Value.int .u8) (bo8 1#8))
    generalize (w2.setCell ⟨w.heap.size + 1, 135, none⟩ (.int .u8 1)).setCell ⟨w.heap.size + 1, 135, none⟩ (.int .u8 (bits .or .u8 1 128)) = w3 at H3 ⊢
    have hX : Below w.heap.size w w3 := H3.out.2.1
    refine wp_region_held_drew (S := fun w' => w'.rowIs hb 204 162 (has (stAfter msg q) p 135) ∧ w'.rowIs (w.heap.size + 1) 202 136 (byt (lastB msg n))) (by kernel_rfl) ⟨H3.out.2.2.2, H3.out.1⟩ (fun hHeld => ?_)
    refine wpAnyH_take (i := 0) (v := .pointer (some ⟨hb, 0, none⟩)) rfl (by kernel_rfl) (by kernel_rfl) (by kernel_rfl) (fun _ _ _ h => h) (Or.inl ⟨by rfl, fun w hSw => ?_⟩) hHeld ?_
    · go_simp
    simp only [List.getElem_toArray, List.getElem_cons_succ, List.getElem_cons_zero, Act.put, List.setIfInBounds_toArray, List.set_cons_zero, List.set_cons_succ]
    refine wpAnyH_take (i := 1) (v := .pointer (some ⟨hb, 0, none⟩)) rfl (by kernel_rfl) (by kernel_rfl) (by kernel_rfl) (fun _ _ _ h => h) (Or.inl ⟨by rfl, fun w hSw => ?_⟩) hHeld ?_
    · go_simp
    simp only [List.getElem_toArray, List.getElem_cons_succ, List.getElem_cons_zero, Act.put, List.setIfInBounds_toArray, List.set_cons_zero, List.set_cons_succ]
    refine wpAnyH_take (i := 2) (v := .pointer (some ⟨hb, 0, none⟩)) rfl (by kernel_rfl) (by kernel_rfl) (by kernel_rfl) (fun _ _ _ h => h) (Or.inl ⟨by rfl, fun w hSw => ?_⟩) hHeld ?_
    · go_simp
    simp only [List.getElem_toArray, List.getElem_cons_succ, List.getElem_cons_zero, Act.put, List.setIfInBounds_toArray, List.set_cons_zero, List.set_cons_succ]
    refine wpAnyH_take (i := 3) (v := .agg (vec 25 (lan (stAfter msg q)))) rfl (by kernel_rfl) (by kernel_rfl) (by kernel_rfl) (fun _ _ _ h => h) (Or.inl ⟨by rfl, fun w hSw => ?_⟩) hHeld ?_
    · exact run_load_exec 201 _ rfl _ rfl (run_loadVar_mid w hb 0 25 201 44 _ (fun j hj => by rw [Nat.zero_add]; exact (hSw.1.cell (i := j) (by omega)).trans (by rw [has_state hj])) Tryz.underlying201 (by kernel_rfl))
    simp only [List.getElem_toArray, List.getElem_cons_succ, List.getElem_cons_zero, Act.put, List.setIfInBounds_toArray, List.set_cons_zero, List.set_cons_succ]
    refine wpAnyH_take (i := 4) (v := .agg (vec 136 (byt (lastB msg n)))) rfl (by kernel_rfl) (by kernel_rfl) (by kernel_rfl) (fun _ _ _ h => h) (Or.inl ⟨by rfl, fun w hSw => ?_⟩) hHeld ?_
    · exact run_load_exec 202 _ rfl _ rfl (run_loadVar_row w _ 202 202 _ (0, 0) _ (row_heap hSw.2) Tryz.underlying202 rfl (info54v _))
    simp only [List.getElem_toArray, List.getElem_cons_succ, List.getElem_cons_zero, Act.put, List.setIfInBounds_toArray, List.set_cons_zero, List.set_cons_succ]
    refine wpAnyH_ready (rs := [5]) (by kernel_rfl) (by simp) ?_
    refine AllReadyH.cons rfl (fun K hK => ?_) AllReadyH.nil
    go_simp
    refine (absorb_any (stAfter msg q) (lastB msg n) w3.drew (H0.out.1.below (Below.drew hX) H0.out.2.1)).mono ?_
    rintro e V2 ⟨rfl, hb2⟩
    have hS2 : V2.rowIs hb 204 162 (has (stAfter msg q) p 135) ∧ V2.rowIs (w.heap.size + 1) 202 136 (byt (lastB msg n)) := ⟨hHeld.1.of_block (hb2.block _ hHeld.1.lt), hHeld.2.of_block (hb2.block _ hHeld.2.lt)⟩
    go_wp2_with fail
    refine hK.out _ _ ?_ (fun hHeld => ?_)
    · exact hS2
    clear hK K
    try simp only [List.getElem_toArray, List.getElem_cons_succ, List.getElem_cons_zero, Act.put, List.setIfInBounds_toArray, List.set_cons_zero, List.set_cons_succ]
    refine wpAnyH_ready (rs := [6]) (by kernel_rfl) (by simp) ?_
    refine AllReadyH.cons rfl (fun K hK => ?_) AllReadyH.nil
    go_simp
    refine (first_any _ V2).mono ?_
    rintro e V3 ⟨rfl, hb3⟩
    have hS3 : V3.rowIs hb 204 162 (has (stAfter msg q) p 135) ∧ V3.rowIs (w.heap.size + 1) 202 136 (byt (lastB msg n)) := ⟨hHeld.1.of_block (hb3.block _ hHeld.1.lt), hHeld.2.of_block (hb3.block _ hHeld.2.lt)⟩
    have hr3 : V3.rowIs w.heap.size 33 32 (byt fun _ => 0#8) := (H3.out.2.2.1.drew.of_block (hb2.block _ H3.out.2.2.1.lt)).of_block (hb3.block _ (Nat.lt_of_lt_of_le H3.out.2.2.1.lt hb2.size))
    go_wp2_with fail
    refine hK.out _ _ ?_ (fun hHeld => ?_)
    · exact hS3
    clear hK K
    try simp only [List.getElem_toArray, List.getElem_cons_succ, List.getElem_cons_zero, Act.put, List.setIfInBounds_toArray, List.set_cons_zero, List.set_cons_succ]
    refine wpAnyH_ready (rs := [7]) (by kernel_rfl) (by simp) ?_
    refine AllReadyH.cons rfl (fun K hK => ?_) AllReadyH.nil
    refine step_store_vec (by rfl) 33 _ _ rfl w.heap.size 0 32 32 (byt (outb (permute RCs (absTo (stAfter msg q) (lastB msg n) 136)))) _ 33 rfl rfl hr3 (by decide) (by kernel_rfl) (fun _ _ => rfl) ?_
    refine hK.out _ _ ?_ (fun hHeld => ?_)
    · exact ⟨hHeld.1.of_block (setRow_other _ _ _ _ (by omega)), hHeld.2.of_block (setRow_other _ _ _ _ (by omega))⟩
    clear hK K
    try simp only [List.getElem_toArray, List.getElem_cons_succ, List.getElem_cons_zero, Act.put, List.setIfInBounds_toArray, List.set_cons_zero, List.set_cons_succ]
    refine wpAnyH_done (by kernel_rfl) ?_ _
    go_wp2
    have hd : outb (permute RCs (absTo (stAfter msg q) (lastB msg n) 136)) = digest msg n := by unfold digest; rw [H0.out.2.2.2.2.2]
    rw [hd]
    refine bodyPost_ret (results_cell_row rfl _ _ _ _ _ _ _ rfl (setRow_heap _ _ _ _ _ _ (row_heap hr3)) Tryz.underlying33 rfl (info29v _)) rfl ⟨?_, ?_⟩
    · rw [vec_congr (g := byt (digest msg n)) (fun i hi => by rw [if_pos ⟨by omega, by omega⟩, Nat.sub_zero])]
    · exact ((Only.refl _ _).setRow _).below ((hX.trans ((Below.drew (Below.refl _ _)).trans (hb2.mono hX.size))).trans (hb3.mono (Nat.le_trans hX.size hb2.size))) (Nat.le_refl _)
  · have c135 := HC.out (by omega)
    clear HC
    go_wp2
    have H3 : Hid (((w2.setCell ⟨w.heap.size + 1, r, none⟩ (.int .u8 1)).setCell ⟨w.heap.size + 1, 135, none⟩ (.int .u8 (bits .or .u8 0 128))).rowIs (w.heap.size + 1) 202 136 (byt (lastB msg n)) ∧ Below w.heap.size w ((w2.setCell ⟨w.heap.size + 1, r, none⟩ (.int .u8 1)).setCell ⟨w.heap.size + 1, 135, none⟩ (.int .u8 (bits .or .u8 0 128))) ∧ ((w2.setCell ⟨w.heap.size + 1, r, none⟩ (.int .u8 1)).setCell ⟨w.heap.size + 1, 135, none⟩ (.int .u8 (bits .or .u8 0 128))).rowIs w.heap.size 33 32 (byt fun _ => 0#8) ∧ ((w2.setCell ⟨w.heap.size + 1, r, none⟩ (.int .u8 1)).setCell ⟨w.heap.size + 1, 135, none⟩ (.int .u8 (bits .or .u8 0 128))).rowIs hb 204 162 (has (stAfter msg q) p r)) :=
      last_in hlt H0.out.2.2.1 H2.out.1 H2.out.2.1 H2.out.2.2 H0.out.2.2.2.2.1 H0.out.2.2.2.2.2 (by rw [if_neg (by omega)]; exact congrArg (Value.int .u8) (bo8 0#8))
    generalize (w2.setCell ⟨w.heap.size + 1, r, none⟩ (.int .u8 1)).setCell ⟨w.heap.size + 1, 135, none⟩ (.int .u8 (bits .or .u8 0 128)) = w3 at H3 ⊢
    have hX : Below w.heap.size w w3 := H3.out.2.1
    refine wp_region_held_drew (S := fun w' => w'.rowIs hb 204 162 (has (stAfter msg q) p r) ∧ w'.rowIs (w.heap.size + 1) 202 136 (byt (lastB msg n))) (by kernel_rfl) ⟨H3.out.2.2.2, H3.out.1⟩ (fun hHeld => ?_)
    refine wpAnyH_take (i := 0) (v := .pointer (some ⟨hb, 0, none⟩)) rfl (by kernel_rfl) (by kernel_rfl) (by kernel_rfl) (fun _ _ _ h => h) (Or.inl ⟨by rfl, fun w hSw => ?_⟩) hHeld ?_
    · go_simp
    simp only [List.getElem_toArray, List.getElem_cons_succ, List.getElem_cons_zero, Act.put, List.setIfInBounds_toArray, List.set_cons_zero, List.set_cons_succ]
    refine wpAnyH_take (i := 1) (v := .pointer (some ⟨hb, 0, none⟩)) rfl (by kernel_rfl) (by kernel_rfl) (by kernel_rfl) (fun _ _ _ h => h) (Or.inl ⟨by rfl, fun w hSw => ?_⟩) hHeld ?_
    · go_simp
    simp only [List.getElem_toArray, List.getElem_cons_succ, List.getElem_cons_zero, Act.put, List.setIfInBounds_toArray, List.set_cons_zero, List.set_cons_succ]
    refine wpAnyH_take (i := 2) (v := .pointer (some ⟨hb, 0, none⟩)) rfl (by kernel_rfl) (by kernel_rfl) (by kernel_rfl) (fun _ _ _ h => h) (Or.inl ⟨by rfl, fun w hSw => ?_⟩) hHeld ?_
    · go_simp
    simp only [List.getElem_toArray, List.getElem_cons_succ, List.getElem_cons_zero, Act.put, List.setIfInBounds_toArray, List.set_cons_zero, List.set_cons_succ]
    refine wpAnyH_take (i := 3) (v := .agg (vec 25 (lan (stAfter msg q)))) rfl (by kernel_rfl) (by kernel_rfl) (by kernel_rfl) (fun _ _ _ h => h) (Or.inl ⟨by rfl, fun w hSw => ?_⟩) hHeld ?_
    · exact run_load_exec 201 _ rfl _ rfl (run_loadVar_mid w hb 0 25 201 44 _ (fun j hj => by rw [Nat.zero_add]; exact (hSw.1.cell (i := j) (by omega)).trans (by rw [has_state hj])) Tryz.underlying201 (by kernel_rfl))
    simp only [List.getElem_toArray, List.getElem_cons_succ, List.getElem_cons_zero, Act.put, List.setIfInBounds_toArray, List.set_cons_zero, List.set_cons_succ]
    refine wpAnyH_take (i := 4) (v := .agg (vec 136 (byt (lastB msg n)))) rfl (by kernel_rfl) (by kernel_rfl) (by kernel_rfl) (fun _ _ _ h => h) (Or.inl ⟨by rfl, fun w hSw => ?_⟩) hHeld ?_
    · exact run_load_exec 202 _ rfl _ rfl (run_loadVar_row w _ 202 202 _ (0, 0) _ (row_heap hSw.2) Tryz.underlying202 rfl (info54v _))
    simp only [List.getElem_toArray, List.getElem_cons_succ, List.getElem_cons_zero, Act.put, List.setIfInBounds_toArray, List.set_cons_zero, List.set_cons_succ]
    refine wpAnyH_ready (rs := [5]) (by kernel_rfl) (by simp) ?_
    refine AllReadyH.cons rfl (fun K hK => ?_) AllReadyH.nil
    go_simp
    refine (absorb_any (stAfter msg q) (lastB msg n) w3.drew (H0.out.1.below (Below.drew hX) H0.out.2.1)).mono ?_
    rintro e V2 ⟨rfl, hb2⟩
    have hS2 : V2.rowIs hb 204 162 (has (stAfter msg q) p r) ∧ V2.rowIs (w.heap.size + 1) 202 136 (byt (lastB msg n)) := ⟨hHeld.1.of_block (hb2.block _ hHeld.1.lt), hHeld.2.of_block (hb2.block _ hHeld.2.lt)⟩
    go_wp2_with fail
    refine hK.out _ _ ?_ (fun hHeld => ?_)
    · exact hS2
    clear hK K
    try simp only [List.getElem_toArray, List.getElem_cons_succ, List.getElem_cons_zero, Act.put, List.setIfInBounds_toArray, List.set_cons_zero, List.set_cons_succ]
    refine wpAnyH_ready (rs := [6]) (by kernel_rfl) (by simp) ?_
    refine AllReadyH.cons rfl (fun K hK => ?_) AllReadyH.nil
    go_simp
    refine (first_any _ V2).mono ?_
    rintro e V3 ⟨rfl, hb3⟩
    have hS3 : V3.rowIs hb 204 162 (has (stAfter msg q) p r) ∧ V3.rowIs (w.heap.size + 1) 202 136 (byt (lastB msg n)) := ⟨hHeld.1.of_block (hb3.block _ hHeld.1.lt), hHeld.2.of_block (hb3.block _ hHeld.2.lt)⟩
    have hr3 : V3.rowIs w.heap.size 33 32 (byt fun _ => 0#8) := (H3.out.2.2.1.drew.of_block (hb2.block _ H3.out.2.2.1.lt)).of_block (hb3.block _ (Nat.lt_of_lt_of_le H3.out.2.2.1.lt hb2.size))
    go_wp2_with fail
    refine hK.out _ _ ?_ (fun hHeld => ?_)
    · exact hS3
    clear hK K
    try simp only [List.getElem_toArray, List.getElem_cons_succ, List.getElem_cons_zero, Act.put, List.setIfInBounds_toArray, List.set_cons_zero, List.set_cons_succ]
    refine wpAnyH_ready (rs := [7]) (by kernel_rfl) (by simp) ?_
    refine AllReadyH.cons rfl (fun K hK => ?_) AllReadyH.nil
    refine step_store_vec (by rfl) 33 _ _ rfl w.heap.size 0 32 32 (byt (outb (permute RCs (absTo (stAfter msg q) (lastB msg n) 136)))) _ 33 rfl rfl hr3 (by decide) (by kernel_rfl) (fun _ _ => rfl) ?_
    refine hK.out _ _ ?_ (fun hHeld => ?_)
    · exact ⟨hHeld.1.of_block (setRow_other _ _ _ _ (by omega)), hHeld.2.of_block (setRow_other _ _ _ _ (by omega))⟩
    clear hK K
    try simp only [List.getElem_toArray, List.getElem_cons_succ, List.getElem_cons_zero, Act.put, List.setIfInBounds_toArray, List.set_cons_zero, List.set_cons_succ]
    refine wpAnyH_done (by kernel_rfl) ?_ _
    go_wp2
    have hd : outb (permute RCs (absTo (stAfter msg q) (lastB msg n) 136)) = digest msg n := by unfold digest; rw [H0.out.2.2.2.2.2]
    rw [hd]
    refine bodyPost_ret (results_cell_row rfl _ _ _ _ _ _ _ rfl (setRow_heap _ _ _ _ _ _ (row_heap hr3)) Tryz.underlying33 rfl (info29v _)) rfl ⟨?_, ?_⟩
    · rw [vec_congr (g := byt (digest msg n)) (fun i hi => by rw [if_pos ⟨by omega, by omega⟩, Nat.sub_zero])]
    · exact ((Only.refl _ _).setRow _).below ((hX.trans ((Below.drew (Below.refl _ _)).trans (hb2.mono hX.size))).trans (hb3.mono (Nat.le_trans hX.size hb2.size))) (Nat.le_refl _)
end Go.Proofs.YtboeokmaepchgaaGreatDoor.Kc
