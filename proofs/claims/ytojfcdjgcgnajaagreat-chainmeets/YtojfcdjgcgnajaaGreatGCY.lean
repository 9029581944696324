/- CX, CB, CY -/
import Derived.Test.YtojfcdjgcgnajaaGreatCW
import Derived.Great.BuildSlice
import Derived.Test.YtojfcdjgcgnajaaGreatGW1
namespace Go.Proofs.YtojfcdjgcgnajaaGreat
open Go.RowKit Go.Shelf
set_option linter.unusedSimpArgs false
set_option linter.unusedVariables false
theorem wpList_build_w {P : Program} {ops : Array Oper} {rest : List Oper} {o : Oper} {a : Act} {w : World} {Q : Exit → Act → World → Prop} {v : Value} (ty : TypeId) (parts : Array (Nat × Operand)) (ho : o.op = .build ty parts) (ps : Array (Nat × Value)) (hl : (Instr.build ty ps).run P w = .ok v w) (hps : (parts.map fun (i, x) => (i, a.eval x)) = ps) (hw : Region.wanted o (yielded ops a.tmps) = true) (h : wpList P ops Q rest (a.put o.dst v) w) : wpList P ops Q (o :: rest) a w := by
 refine wpList_step fun K hK' => ?_
 rw [if_pos hw]; unfold Oper.wp; rw [exec_build ty parts ho ps hps hl]; exact hK' _ _ h
theorem wpList_bs1_w {P : Program} {ops : Array Oper} {rest : List Oper} {o : Oper} {a : Act} {w : World} {Q : Exit → Act → World → Prop} (t : TypeId) (x : Operand) (ho : o.op = .buildSlice t 1 #[(0, x)])
 (e : TypeId) (cells : Array Value) (hx : a.eval x = .agg cells) (hrun : (Instr.buildSlice t 1 #[(0, .agg cells)]).run P w = .ok (.slice (some ⟨w.heap.size, 0, none⟩) 1 1) (w.alloc (.cells cells e))) (hw : Region.wanted o (yielded ops a.tmps) = true)
 (h : wpList P ops Q rest (a.put o.dst (.slice (some ⟨w.heap.size, 0, none⟩) 1 1)) (w.alloc (.cells cells e))) : wpList P ops Q (o :: rest) a w := by
 refine wpList_step fun K hK' => ?_
 rw [if_pos hw]; unfold Oper.wp; simp only [execOp, ho, List.map_toArray, List.map_cons, List.map_nil, hx, Sem.run_bind, Sem.run_pure, hrun, Result.andThen_ok]; exact hK' _ _ h
theorem build_one {P : Program} (w : World) (t e : TypeId) (size : Nat) (cells : Array Value) (i : TypeInfo) (z : Value) (ht : P.underlying t = some (.slice e)) (hi : P.info? e = some i) (hz : i.zero = some z) (hsize : i.size = size) (hs : cells.size = size) (h0 : 0 < size) (h1 : size ≤ 1000) :
 (Instr.buildSlice t 1 #[(0, .agg cells)]).run P w = .ok (.slice (some ⟨w.heap.size, 0, none⟩) 1 1) (w.alloc (.cells cells e)) := by
 refine run_buildSlice w t e 1 _ cells i z ht hi hz (by rw [hsize]; omega) (by rw [hsize]; omega) ?_; rw [hsize]; have := Great.fill_whole (s := size) h0 [.agg cells] ((Array.range (1 * size)).map (z.cells[· % z.cells.size]!)) (by intro v hv; simp at hv; subst hv; exact hs) (by simp); have e1 : (List.flatMap (fun v : Value => v.cells.toList) [.agg cells]).toArray = cells := by simp [Value.cells]
 rw [e1] at this; exact this
theorem info_ex {P : Program} {t : TypeId} {z : Value} {n : Nat} (h : (P.info? t).map (fun i => (i.zero, i.size)) = some (some z, n)) : ∃ i, P.info? t = some i ∧ i.zero = some z ∧ i.size = n := by
 cases e : P.info? t with
 | none => rw [e] at h; cases h
 | some i =>
   rw [e] at h; simp at h; exact ⟨i, rfl, h.1, h.2⟩
theorem bslice30 (w : World) (n : Int) : (Instr.buildSlice 34 1 #[(0, .agg (vec 32 (kb n)))]).run Tryz.prog w = .ok (.slice (some ⟨w.heap.size, 0, none⟩) 1 1) (w.alloc (.cells (vec 32 (kb n)) 30)) := by
 obtain ⟨i, h1, h2, h3⟩ := info_ex zero41; exact build_one w 34 30 32 _ i _ (by kernel_rfl) h1 h2 h3 (by simp) (by decide) (by decide)
theorem bslice42 (w : World) (f : Nat → Value) : (Instr.buildSlice 47 1 #[(0, .agg (vec 100 f))]).run Tryz.prog w = .ok (.slice (some ⟨w.heap.size, 0, none⟩) 1 1) (w.alloc (.cells (vec 100 f) 42)) := by
 obtain ⟨i, h1, h2, h3⟩ := info_ex zero42; exact build_one w 47 42 100 _ i _ (by kernel_rfl) h1 h2 h3 (by simp) (by decide) (by decide)
theorem build38v (w : World) : (Instr.build 38 #[(0, .int .u8 1)]).run Tryz.prog w = .ok (.agg (vec 32 (bI blk))) w := by kernel_rfl
theorem build42v (w : World) : (Instr.build 42 #[(0, .int .i64 2), (1, .int .u64 1), (3, .agg (vec 32 (bI blk)))]).run Tryz.prog w = .ok (.agg (vec 100 (voF (bI fun _ => 0)))) w := by kernel_rfl
theorem build49v (b : Nat) (w : World) : (Instr.build 49 #[(0, .int .u64 1), (2, .agg (vec 32 (bI blk))), (3, .slice (some ⟨b, 0, none⟩) 1 1)]).run Tryz.prog w = .ok (.agg (vec 35 (coF (.slice (some ⟨b, 0, none⟩) 1 1)))) w := by kernel_rfl
theorem mk32 (w : World) : (Instr.makeSlice 28 (.int .i64 32) (.int .i64 32)).run Tryz.prog w = .ok (.slice (some ⟨w.heap.size, 0, none⟩) 32 32) (w.alloc (.cells (vec 32 (bI fun _ => 0)) 5)) := by
 obtain ⟨i, hi, hz, hs, hb⟩ := Rl.info5c; have := run_make (P := Tryz.prog) w 28 5 i _ Tryz.underlying28 hi hz .i64 .i64 32 32 (by omega) (by omega) (by rw [hb]; omega) (by omega); rw [hs] at this; rw [this]; have e : madeCells (Value.int .u8 0).cells (Int.toNat 32 * 1) = vec 32 (bI fun _ => 0) := by kernel_rfl
 rw [e]; rfl
theorem wpList_store_vec {P : Program} {ops : Array Oper} {rest : List Oper} {o : Oper} {a : Act} {w : World} {Q : Exit → Act → World → Prop} (hw : Region.wanted o (yielded ops a.tmps) = true) (ty : TypeId) (x y : Operand) (ho : o.op = .store ty x y)
 (g off N M : Nat) (src f : Nat → Value) (t : TypeId) (hx : a.eval x = .pointer (some ⟨g, off, none⟩)) (hy : a.eval y = .agg (vec N src)) (hg : w.rowIs g t M f) (hfit : off + N ≤ M) (hi : (P.info? ty).map (·.size) = some N) (h1 : ∀ j, j < N → (src j).oneCell' = true)
 (h : wpList P ops Q rest (a.put o.dst undef) (w.setRow g (vec M (fun j => if off ≤ j ∧ j < off + N then src (j - off) else f j)))) : wpList P ops Q (o :: rest) a w :=
 wpList_step fun K hK => Sha.step_store_vec hw ty x y ho g off N M src f t hx hy hg hfit hi h1 (hK _ _ h)
theorem signed_row (sg z : Nat → Value) : vec 100 (fun j => if 36 ≤ j ∧ j < 36 + 64 then sg (j - 36) else voF z j) = vec 100 (voF sg) := by
 refine vec_congr fun j hj => ?_
 by_cases h : 36 ≤ j
 · rw [if_pos ⟨h, by omega⟩]
   unfold voF; rw [if_neg (by omega), if_neg (by omega), if_neg (by omega), if_neg (by omega), if_neg (by omega)]
 · rw [if_neg (by omega)]
   unfold voF; by_cases h0 : j = 0
   · rw [if_pos h0, if_pos h0]
   rw [if_neg h0, if_neg h0]; by_cases h1 : j = 1
   · rw [if_pos h1, if_pos h1]
   rw [if_neg h1, if_neg h1]; by_cases h2 : j = 2
   · rw [if_pos h2, if_pos h2]
   rw [if_neg h2, if_neg h2]; by_cases h3 : j < 35
   · rw [if_pos h3, if_pos h3]
   rw [if_neg h3, if_neg h3, if_pos (by omega), if_pos (by omega)]
set_option maxRecDepth 100000 in
set_option maxHeartbeats 8000000 in
theorem calive_any (w : World) : Calls Tryz.prog 11 #[] w fun e w' => e = .returned (.bool true) ∧ Below w.heap.size w w' := by
 obtain ⟨D, hD⟩ : ∃ D, D = Sha.digest (fun _ => 0#8) 32 := ⟨_, rfl⟩
 have HD : Hid (D = Sha.digest (fun _ => 0#8) 32) := hD; clear hD; have hmk := mk32 w; go_enter Tryz.func11, Tryz.ntmps11; go_wp2_with fail; obtain ⟨W0, hW0⟩ : ∃ W0, W0 = w.alloc (.cells (vec 32 (bI fun _ => 0)) 5) := ⟨_, rfl⟩
 have B0 : Hid (Sha.Bytes W0 (some ⟨w.heap.size, 0, none⟩) 32 32 (fun _ => 0#8) ∧ Below w.heap.size w W0) := by
  have hr : W0.rowIs w.heap.size 5 32 (bI fun _ => 0) := by rw [hW0]; exact heap_row (heap_alloc_new _ _)
  have hb : Below w.heap.size w W0 := by rw [hW0]; go_grown
  exact ⟨⟨w.heap.size, 0, fun _ => rfl, fun j hj => by rw [Nat.zero_add]; exact hr.cell hj, by decide, by decide, by decide⟩, hb⟩
 rw [← hW0]; clear hmk hW0; refine Calls.mono (g_public _ 32 (fun _ => 0#8) D HD.out W0 B0.out.1) ?_; rintro e w1 ⟨rfl, b1⟩; have HH : Hid ((0 ≤ pubN D ∧ pubN D < T256) ∧ (0 ≤ firN D vm vl ∧ firN D vm vl < T256) ∧ (0 ≤ secondN D vm vl ∧ secondN D vm vl < T256) ∧ Holds (pubN D) (firN D vm vl) (secondN D vm vl) vm vl) :=
  ⟨encP_bd _, encP_bd _, ⟨(second_bd _ _ _).1, Int.lt_trans (second_bd _ _ _).2 (by decide)⟩, signed_holds D vm vl⟩
 have HS : Hid (∀ (ao am : Option Addr) (cap capm : Nat) (w : World), Sha.Bytes w ao 32 cap (fun _ => 0#8) → Sha.Bytes w am vl capm vm → Calls Tryz.prog 14 #[.slice ao 32 cap, .slice am vl capm] w fun e w' => e = .returned (.tuple #[.agg (vec 64 (bI (sgB (firN D vm vl) (secondN D vm vl)))), .int .i64 0]) ∧ Below w.heap.size w w') :=
  fun ao am cap capm w h1 h2 => g_sign ao am cap vl capm (fun _ => 0#8) vm D HD.out w h1 h2
 generalize pubN D = A at *; generalize firN D vm vl = R at *; generalize secondN D vm vl = S at *; clear HD; have B1 : Hid (Sha.Bytes w1 (some ⟨w.heap.size, 0, none⟩) 32 32 (fun _ => 0#8) ∧ Below w.heap.size w w1) := ⟨B0.out.1.below b1, B0.out.2.trans (b1.mono B0.out.2.size)⟩
 clear B0 b1; have hz := (zero_of_info zero41).1; have hz2 := (zero_of_info zero42).1; have hA1 : Hid ((w1.alloc (.cells (vec 32 (kb 0)) 30)).heap[w1.heap.size]? = some (.cells (vec 32 (kb 0)) 30 (0, 0))) := heap_alloc_new _ _; obtain ⟨W2, hW2⟩ : ∃ W2, W2 = (w1.alloc (.cells (vec 32 (kb 0)) 30)).setRow w1.heap.size (vec 32 (kb A)) := ⟨_, rfl⟩
 have HW2 : Hid (W2 = (w1.alloc (.cells (vec 32 (kb 0)) 30)).setRow w1.heap.size (vec 32 (kb A))) := hW2; have R2 : Hid (W2.rowIs w1.heap.size 30 32 (kb A) ∧ Below w1.heap.size w1 W2) := by
  rw [hW2]; exact ⟨heap_row (setRow_heap _ _ _ _ _ _ hA1.out), below_setRow ((Below.refl _ _).alloc (Nat.le_refl _) _) (Nat.le_refl _) _⟩
 clear hW2; obtain ⟨W4, hW4⟩ : ∃ W4, W4 = (W2.alloc (.cells (vec 32 (kb A)) 30)).alloc (gC W2.heap.size) := ⟨_, rfl⟩
 have HW4 : Hid (W4 = (W2.alloc (.cells (vec 32 (kb A)) 30)).alloc (gC W2.heap.size)) := hW4; obtain ⟨W5, hW5⟩ : ∃ W5, W5 = (W4.alloc (.cells (vec 100 zvF) 42)).setRow W4.heap.size (vec 100 (voF (bI fun _ => 0))) := ⟨_, rfl⟩
 have HW5 : Hid (W5 = (W4.alloc (.cells (vec 100 zvF) 42)).setRow W4.heap.size (vec 100 (voF (bI fun _ => 0)))) := hW5; have hs4 : W4.heap.size = W2.heap.size + 1 + 1 := by rw [hW4]; simp
 have hA4 : Hid ((W4.alloc (.cells (vec 100 zvF) 42)).heap[W4.heap.size]? = some (.cells (vec 100 zvF) 42 (0, 0))) := heap_alloc_new _ _; have R5 : Hid (W5.rowIs W2.heap.size 30 32 (kb A) ∧ W5.heap[W2.heap.size + 1]? = some (gC W2.heap.size) ∧ W5.rowIs (W2.heap.size + 1 + 1) 42 100 (voF (bI fun _ => 0)) ∧ Below w1.heap.size w1 W5) := by
  have h4 : Below w1.heap.size w1 W4 := by rw [hW4]; exact (R2.out.2.alloc R2.out.2.size _).alloc (R2.out.2.alloc R2.out.2.size _).size _
  have r4 : W4.rowIs W2.heap.size 30 32 (kb A) := by rw [hW4]; exact rowOld (heap_row (heap_alloc_new _ _)) _
  have g4 : W4.heap[W2.heap.size + 1]? = some (gC W2.heap.size) := by rw [hW4]; exact heapAt _ _ _ (by simp)
  rw [hW5]; refine ⟨(rowOld r4 _).of_block (setRow_other _ _ _ _ (by omega)), (setRow_other _ _ _ _ (by omega)).trans ((heap_alloc_old _ _ (by omega)).trans g4), ?_, below_setRow (h4.alloc h4.size _) h4.size _⟩; rw [← hs4]; exact heap_row (setRow_heap _ _ _ _ _ _ hA4.out)
 clear hW4 hW5; have hne : ¬ vec 100 zvF = #[] := fun h => by have := congrArg Array.size h; simp at this
 unfold keyV; go_wp2_with (first
  | (rw [← HW4.out]; refine wpList_store_row rfl 42 _ _ rfl (W2.heap.size + 1 + 1) _ rfl rfl 42 (vec 100 zvF) (by rw [← hs4]; exact hA4.out) (info42 _) (by simp) (one_vo _) ?_; rw [← hs4, ← HW5.out, hs4])
  | (refine wpList_load_row rfl 42 _ rfl (W2.heap.size + 1 + 1) rfl 42 _ (0, 0) _ (row_heap R5.out.2.2.1) Tryz.underlying42 rfl (info42 _) ?_)
  | (refine wpList_store_row rfl 30 _ _ rfl w1.heap.size _ rfl rfl 30 _ hA1.out (info41v _) (by simp) (one_kb _ _) ?_; rw [← HW2.out])
  | (refine wpList_load_row rfl 30 _ rfl w1.heap.size rfl 30 _ (0, 0) _ (row_heap R2.out.1) Tryz.underlying30 rfl (info41v _) ?_)
  | (refine wpList_bs1_w 34 _ rfl 30 _ rfl (bslice30 _ _) (by rfl) ?_)
  | (refine wpList_build_w 38 _ rfl _ (build38v _) (by simp only [List.map_toArray, List.map_cons, List.map_nil]; rfl) (by rfl) ?_)
  | (refine wpList_build_w 42 _ rfl _ (build42v _) (by simp only [List.map_toArray, List.map_cons, List.map_nil]; rfl) (by rfl) ?_))
 have hX : w.heap.size ≤ W2.heap.size := Nat.le_trans B1.out.2.size R2.out.2.size; obtain ⟨X, hXX⟩ : ∃ X, X = W2.heap.size := ⟨_, rfl⟩
 rw [← hXX] at hX R5 ⊢; have H5 : Hid (W5.rowIs X 30 32 (kb A) ∧ W5.heap[X + 1]? = some (gC X) ∧ W5.rowIs (X + 1 + 1) 42 100 (voF (bI fun _ => 0)) ∧ Sha.Bytes W5 (some ⟨w.heap.size, 0, none⟩) 32 32 (fun _ => 0#8) ∧ Below w.heap.size w W5) :=
  ⟨R5.out.1, R5.out.2.1, R5.out.2.2.1, B1.out.1.below R5.out.2.2.2, B1.out.2.trans (R5.out.2.2.2.mono B1.out.2.size)⟩
 clear hz hz2 hA1 HW2 R2 HW4 HW5 hs4 hA4 R5 hne B1 hXX; refine Calls.mono (voteBytes_any _ W5) ?_; rintro e w6 ⟨v, rfl, ho, b6⟩; obtain ⟨am, cm, rfl, hm⟩ := vote_bytes ho; have H6 : Hid (w6.rowIs X 30 32 (kb A) ∧ w6.heap[X + 1]? = some (gC X) ∧ w6.rowIs (X + 1 + 1) 42 100 (voF (bI fun _ => 0)) ∧ Sha.Bytes w6 (some ⟨w.heap.size, 0, none⟩) 32 32 (fun _ => 0#8) ∧ Sha.Bytes w6 am vl cm vm ∧ Below w.heap.size w w6) :=
  ⟨H5.out.1.of_block (b6.block _ H5.out.1.lt), (b6.block _ (flt_of_some H5.out.2.1)).trans H5.out.2.1, H5.out.2.2.1.of_block (b6.block _ H5.out.2.2.1.lt), H5.out.2.2.2.1.below b6, hm, H5.out.2.2.2.2.trans (b6.mono H5.out.2.2.2.2.size)⟩
 clear ho hm b6 H5; go_wp2_with fail; refine Calls.mono (HS.out _ _ _ _ w6 H6.out.2.2.2.1 H6.out.2.2.2.2.1) ?_; rintro e w7 ⟨rfl, b7⟩; have H7 : Hid (w7.rowIs X 30 32 (kb A) ∧ w7.heap[X + 1]? = some (gC X) ∧ w7.rowIs (X + 1 + 1) 42 100 (voF (bI fun _ => 0)) ∧ Below w.heap.size w w7) :=
  ⟨H6.out.1.of_block (b7.block _ H6.out.1.lt), (b7.block _ (flt_of_some H6.out.2.1)).trans H6.out.2.1, H6.out.2.2.1.of_block (b7.block _ H6.out.2.2.1.lt), H6.out.2.2.2.2.2.trans (b7.mono H6.out.2.2.2.2.2.size)⟩
 clear b7 H6 HS; obtain ⟨W8, hW8⟩ : ∃ W8, W8 = w7.setRow (X + 1 + 1) (vec 100 (voF (bI (sgB R S)))) := ⟨_, rfl⟩
 have HW8 : Hid (W8 = w7.setRow (X + 1 + 1) (vec 100 (voF (bI (sgB R S))))) := hW8; have H8 : Hid (W8.rowIs X 30 32 (kb A) ∧ W8.heap[X + 1]? = some (gC X) ∧ W8.rowIs (X + 1 + 1) 42 100 (voF (bI (sgB R S))) ∧ Below w.heap.size w W8) := by
  rw [hW8]; exact ⟨H7.out.1.of_block (setRow_other _ _ _ _ (by omega)), (setRow_other _ _ _ _ (by omega)).trans H7.out.2.1, heap_row (setRow_heap _ _ _ _ _ _ (row_heap H7.out.2.2.1)), below_setRow H7.out.2.2.2 (by omega) _⟩
 clear hW8; go_wp2_with (first | (refine wpList_store_vec (by rfl) 40 _ _ rfl (X + 1 + 1) 36 64 100 (bI (sgB R S)) _ 42 rfl rfl H7.out.2.2.1 (by decide) (by kernel_rfl) (fun _ _ => rfl) ?_; rw [signed_row, ← HW8.out])); clear H7 HW8; have q4 : quN 4 = 3 := by decide
 have q1 : quN 1 = 1 := by decide
 have s4 : soN 4 = 2 := by decide
 have p5 : prN 5 2 4 = 3 := by decide
 refine Calls.mono (quorum_any 4 ⟨by decide, by decide⟩ W8) ?_; rintro e w' ⟨rfl, hw⟩; obtain rfl := hw.symm; rw [q4]; go_wp2_with fail; refine Calls.mono (some_any 4 ⟨by decide, by decide⟩ W8) ?_; rintro e w' ⟨rfl, hw⟩; obtain rfl := hw.symm; rw [s4]; go_wp2_with fail; refine Calls.mono (quorum_any 1 ⟨by decide, by decide⟩ W8) ?_; rintro e w' ⟨rfl, hw⟩; obtain rfl := hw.symm; rw [q1]; go_wp2_with fail; refine Calls.mono (proposer_any 5 2 4 ⟨by decide, by decide⟩ ⟨by decide, by decide⟩ ⟨by decide, by decide⟩ W8) ?_; rintro e w' ⟨rfl, hw⟩; obtain rfl := hw.symm; rw [p5]; have g0 : W8.cell? ⟨X + 1, 0, none⟩ = some (.int .u64 7) := cellAt H8.out.2.1 rfl; have g1 : W8.cell? ⟨X + 1, 1, none⟩ = some (.slice (some ⟨X, 0, none⟩) 1 1) := cellAt H8.out.2.1 rfl; have g2 : W8.cell? ⟨X + 1, 2, none⟩ = some (.slice none 0 0) := cellAt H8.out.2.1 rfl; obtain ⟨W9, hW9⟩ : ∃ W9, W9 = W8.alloc (.cells (vec 100 (voF (bI (sgB R S)))) 42) := ⟨_, rfl⟩
 have HW9 : Hid (W9 = W8.alloc (.cells (vec 100 (voF (bI (sgB R S)))) 42)) := hW9; have H9 : Hid (W9.rowIs X 30 32 (kb A) ∧ W9.rowIs W8.heap.size 42 100 (voF (bI (sgB R S))) ∧ Below w.heap.size w W9) := by
  rw [hW9]; exact ⟨rowOld H8.out.1 _, heap_row (heap_alloc_new _ _), H8.out.2.2.2.alloc H8.out.2.2.2.size _⟩
 clear hW9 q4 q1 s4 p5; go_wp2_with (first
  | (refine wpList_load_w 42 _ rfl ⟨X + 1 + 1, 0, none⟩ rfl _ (load42 H8.out.2.2.1) (by rfl) ?_)
  | (refine wpList_build_w 38 _ rfl _ (build38v _) (by simp only [List.map_toArray, List.map_cons, List.map_nil]; rfl) (by rfl) ?_)
  | (refine wpList_bs1_w 47 _ rfl 42 _ rfl (bslice42 _ _) (by rfl) ?_; rw [← HW9.out])
  | (refine wpList_build_w 49 _ rfl _ (build49v W8.heap.size _) (by simp only [List.map_toArray, List.map_cons, List.map_nil]; rfl) (by rfl) ?_))
 refine Calls.mono (checkCommit_any HH.out.1.1 HH.out.1.2 HH.out.2.1.1 HH.out.2.1.2 HH.out.2.2.1.1 HH.out.2.2.1.2 HH.out.2.2.2 X W8.heap.size W9 H9.out.1 H9.out.2.1) ?_; rintro e w10 ⟨rfl, b10⟩; have HB : Hid (Below w.heap.size w w10) := H9.out.2.2.trans (b10.mono H9.out.2.2.size); clear b10 H8 H9 HW9 g0 g1 g2; go_wp2; go_ret; exact ⟨rfl, HB.out⟩
end Go.Proofs.YtojfcdjgcgnajaaGreat
namespace Go.Proofs.YtojfcdjgcgnajaaGreat
open Go.RowKit
set_option linter.unusedSimpArgs false
set_option linter.unusedVariables false
set_option maxHeartbeats 2000000 in
theorem rproposer_any (h r n : Int) (hh : U64 h) (hr : I64 r) (hn : I64 n) (w : World) : Calls Tryz.prog 10 #[.int .u64 h, .int .i64 r, .int .i64 n] w fun e w' => e = .returned (.int .i64 (prN h r n)) ∧ Below w.heap.size w w' := by
 have HA : Hid (∀ w, _) := atLeastOne_any n hn; have hm := one1_bd hn; have hq := nn_bd hr; have E := rp_eq hh.1 hq.1 hq.2 hm.1 hm.2; have E2 : (h % one1 n + nn r) % one1 n = prN h r n := rfl; rw [E2] at E; generalize prN h r n = p at *; generalize one1 n = m at *; obtain ⟨h0, h1⟩ := hh; obtain ⟨m0, m1⟩ := hm; obtain ⟨r0, r1⟩ := hr; clear hn E2; have HE : Hid _ := E; clear E; have d1 : m ≠ 0 := by omega
 by_cases c2 : r < 0
 · have e := HE.out
   simp only [nn, if_pos c2, Int.zero_emod, Int.add_zero] at e; have HF : Hid _ := e; clear e HE; go_enter Tryz.func10, Tryz.ntmps10; go_wp2_with fail; refine (HA.out _).mono ?_; rintro e w' ⟨rfl, hw⟩; obtain rfl := hw.symm; go_wp2; go_quiet (fail); go_wp2; go_ret; exact ⟨ret_i HF.out, ⟨rfl, rfl, rfl, Nat.le_refl _, fun _ _ => rfl⟩⟩
 · have e := HE.out
   simp only [nn, if_neg c2] at e; have HF : Hid _ := e; clear e HE; go_enter Tryz.func10, Tryz.ntmps10; go_wp2_with fail; refine (HA.out _).mono ?_; rintro e w' ⟨rfl, hw⟩; obtain rfl := hw.symm; go_wp2; go_quiet (fail); go_wp2; go_ret; exact ⟨ret_i HF.out, ⟨rfl, rfl, rfl, Nat.le_refl _, fun _ _ => rfl⟩⟩
end Go.Proofs.YtojfcdjgcgnajaaGreat
namespace Go.Proofs.YtojfcdjgcgnajaaGreat
open Go.RowKit
set_option linter.unusedSimpArgs false
set_option linter.unusedVariables false
set_option maxHeartbeats 4000000 in
theorem numbers_any (n r h : Int) (hn : I64 n) (hr : I64 r) (hh : U64 h) (w : World) : Calls Tryz.prog 3 #[.int .i64 n, .int .i64 r, .int .u64 h] w fun e w' => e = .returned (.bool true) ∧ Below w.heap.size w w' := by
 have H0 : Hid (∀ w, _) := quorum_any n hn; have H1 : Hid (∀ w, _) := rquorum_any n hn; have H2 : Hid (∀ w, _) := some_any n hn; have H3 : Hid (∀ w, _) := rsome_any n hn; have H4 : Hid (∀ w, _) := proposer_any h r n hh hr hn; have H5 : Hid (∀ w, _) := rproposer_any h r n hh hr hn; generalize quN n = A at *; generalize soN n = B at *; generalize prN h r n = C at *; clear hn hr hh; go_enter Tryz.func3, Tryz.ntmps3; go_wp2_with fail; refine (H0.out _).mono ?_; rintro e w' ⟨rfl, hw⟩; obtain rfl := hw.symm; go_wp2_with fail; refine (H1.out _).mono ?_; rintro e w' ⟨rfl, hw⟩; obtain rfl := hw.symm; go_wp2_with fail; refine (H2.out _).mono ?_; rintro e w' ⟨rfl, hw⟩; obtain rfl := hw.symm; go_wp2_with fail; refine (H3.out _).mono ?_; rintro e w' ⟨rfl, hw⟩; obtain rfl := hw.symm; go_wp2_with fail; refine (H4.out _).mono ?_; rintro e w' ⟨rfl, hw⟩; obtain rfl := hw.symm; go_wp2_with fail; refine (H5.out _).mono ?_; rintro e w1 ⟨rfl, b1⟩; go_wp2_with fail; refine (calive_any w1).mono ?_; rintro e w2 ⟨rfl, b2⟩; go_wp2; go_ret; exact ⟨rfl, b1.trans (b2.mono b1.size)⟩
theorem meet_facts {n : Int} (h1 : 1 ≤ n) (h2 : n ≤ 1099511627776) : (quN n = n - (n - 1) / 3) ∧ soN n = n / 3 + 1 := by
 unfold quN soN one1; rw [if_neg (by omega)]; exact ⟨rfl, rfl⟩
set_option maxHeartbeats 4000000 in
theorem meets_any (n : Int) (hn : I64 n) (w : World) : Calls Tryz.prog 4 #[.int .i64 n] w fun e w' => e = .returned (.bool true) ∧ Below w.heap.size w w' := by
 by_cases c1 : n < 1
 · go_enter Tryz.func4, Tryz.ntmps4
   go_wp2_with fail
   refine (calive_any w).mono ?_; rintro e w1 ⟨rfl, b1⟩; go_wp2; go_ret; exact ⟨rfl, b1⟩
 · by_cases c2 : 1099511627776 < n
   · go_enter Tryz.func4, Tryz.ntmps4
     go_wp2_with fail
     refine (calive_any w).mono ?_; rintro e w1 ⟨rfl, b1⟩; go_wp2; go_ret; exact ⟨rfl, b1⟩
   · have h1 : 1 ≤ n := by omega
     have h2 : n ≤ 1099511627776 := by omega
     have hf := meet_facts h1 h2; have H0 : Hid (∀ w, _) := quorum_any n hn; have H2 : Hid (∀ w, _) := some_any n hn; generalize quN n = A at *; generalize soN n = B at *; obtain ⟨hA, hB⟩ := hf; have t : (n - 1).tdiv 3 = (n - 1) / 3 := Int.tdiv_eq_ediv_of_nonneg (by omega); clear hn; generalize hF : (n - 1) / 3 = F at *; have e0 : 0 ≤ F ∧ F ≤ n := by omega
     have e1 : B - 1 ≤ 2 * A - n := by omega
     have e2 : F < 2 * A - n := by omega
     have e3 : F < B := by omega
     have e4 : A ≤ n - F := by omega
     have e5 : 2 * n < 3 * A := by omega
     have e6 : 0 ≤ A ∧ A ≤ 1099511627776 ∧ 0 ≤ B ∧ B ≤ 1099511627776 := by omega
     obtain ⟨e6, e7, e8, e9⟩ := e6; obtain ⟨f0, f1⟩ := e0; clear hA hB hF; go_enter Tryz.func4, Tryz.ntmps4; go_wp2_with fail; refine (H0.out _).mono ?_; rintro e w' ⟨rfl, hw⟩; obtain rfl := hw.symm; go_wp2_with fail; refine (H2.out _).mono ?_; rintro e w' ⟨rfl, hw⟩; obtain rfl := hw.symm; go_wp2_with fail; refine (H0.out _).mono ?_; rintro e w' ⟨rfl, hw⟩; obtain rfl := hw.symm; go_wp2_with fail; refine (H2.out _).mono ?_; rintro e w' ⟨rfl, hw⟩; obtain rfl := hw.symm; go_wp2_with fail; refine (H0.out _).mono ?_; rintro e w' ⟨rfl, hw⟩; obtain rfl := hw.symm; go_wp2_with fail; refine (H0.out _).mono ?_; rintro e w' ⟨rfl, hw⟩; obtain rfl := hw.symm; go_wp2_with fail; refine (calive_any w).mono ?_; rintro e w1 ⟨rfl, b1⟩; go_wp2; go_ret; exact ⟨rfl, b1⟩
end Go.Proofs.YtojfcdjgcgnajaaGreat
