/- chain.CheckCommit of the example's commit. -/
import Derived.Test.YtojfcdjgcgnajaaGreatGCM
import Derived.Test.YtojfcdjgcgnajaaGreatGCV
namespace Go.Proofs.YtojfcdjgcgnajaaGreat
open Go.RowKit Go.Shelf
set_option linter.unusedSimpArgs false
set_option linter.unusedVariables false
attribute [local go_sem] Oper.semAt_some
theorem info49 (f : Nat → Value) : (Tryz.prog.info? 49).map (·.size) = some (vec 35 f).size := by rw [size_vec]; kernel_rfl
theorem load49 {w : World} {b : Nat} {f : Nat → Value} (h : w.rowIs b 49 35 f) : (loadVar 49 ⟨b, 0, none⟩).run Tryz.prog w = .ok (.agg (vec 35 f)) w :=
 run_loadVar_row w b 49 49 (vec 35 f) (0, 0) _ (row_heap h) Tryz.underlying49 rfl (info49 f)
theorem load69 {w : World} {b : Nat} {f : Nat → Value} (h : w.rowIs b 69 100 f) : (loadVar 69 ⟨b, 0, none⟩).run Tryz.prog w = .ok (.agg (vec 100 f)) w :=
 run_loadVar_row w b 69 69 (vec 100 f) (0, 0) _ (row_heap h) Tryz.underlying69 rfl (info69 f)
structure CcJ (w : World) (r : Loop) (L g : Nat) (n : Int) (cv : Nat → Value) (W : World) : Prop where
 lt : w.heap.size + 2 < L ∧ g < L
 lp : W.heap[L + 1]? = some (.loop r)
 df : W.heap[L]? = some (.deferred (some []))
 gg : W.heap[w.heap.size]? = some (gC g)
 cc : W.rowIs (w.heap.size + 1) 49 35 cv
 rr : W.heap[w.heap.size + 2]? = some (.cells #[.int .i64 0] 31)
 kk : W.rowIs g 30 32 (kb n)
 bel : Below w.heap.size w W
theorem CcJ.kept {w W W' : World} {r : Loop} {L g : Nat} {n : Int} {cv : Nat → Value} (h : CcJ w r L g n cv W) (hb : Below W.heap.size W W') : CcJ w r L g n cv W' :=
 ⟨h.lt, (hb.block _ (flt_of_some h.lp)).trans h.lp, (hb.block _ (flt_of_some h.df)).trans h.df, (hb.block _ (flt_of_some h.gg)).trans h.gg, h.cc.of_block (hb.block _ h.cc.lt), (hb.block _ (flt_of_some h.rr)).trans h.rr, h.kk.of_block (hb.block _ h.kk.lt), h.bel.trans (hb.mono h.bel.size)⟩
theorem CcJ.loop {w W : World} {r : Loop} {L g : Nat} {n : Int} {cv : Nat → Value} (h : CcJ w r L g n cv W) (r' : Loop) : CcJ w r' L g n cv (W.putObj (L + 1) (.loop r')) := by
 have hl := h.lt; have o : ∀ b, b ≠ L + 1 → (W.putObj (L + 1) (.loop r')).heap[b]? = W.heap[b]? := fun b hb => World.putObj_heap_other (by omega)
 exact ⟨h.lt, World.putObj_heap_same (flt_of_some h.lp), (o _ (by omega)).trans h.df, (o _ (by omega)).trans h.gg, h.cc.of_block (o _ (by omega)), (o _ (by omega)).trans h.rr, h.kk.of_block (o _ (by omega)), below_putObj h.bel (by omega) _⟩
def noP (Q : Exit → Act → World → Prop) : Exit → Act → World → Prop
 | .panic _, _, _ => False
 | e, a, w => Q e a w
theorem wp_noP {P : Program} {c : Code} {Q : Exit → Act → World → Prop} {a : Act} {w : World} (h : c.wp P (noP Q) a w) : c.wp P Q a w := by
 refine wp_mono h ?_; intro e a w hq; cases e <;> first | exact hq | exact hq.elim
theorem eq38z (w : World) : (Op.equalIn 10000 38 (.agg (vec 32 (bI blk))) (.agg (vec 32 (bI fun _ => 0)))).run Tryz.prog w = .ok false w := by
 have := eq_arr (P := Tryz.prog) 38 5 32 .u8 (by kernel_rfl) (fun w => by kernel_rfl) (fun w => by kernel_rfl) (by kernel_rfl) blk (fun _ => 0) w; rw [decide_eq_false (fun h => absurd (h 0 (by decide)) (by decide))] at this; exact this
theorem exec_build {P : Program} {a : Act} {o : Oper} {w : World} {v : Value} (t : TypeId) (parts : Array (Nat × Operand)) (ho : o.op = .build t parts) (ps : Array (Nat × Value)) (hps : (parts.map fun (i, x) => (i, a.eval x)) = ps) (h : (Instr.build t ps).run P w = .ok v w) : (execOp a.eval o).run P w = .ok (.value v) w := by
 unfold execOp; simp only [ho, hps, Sem.run_bind, Sem.run_pure, h, Result.andThen_ok]
theorem build38z (w : World) : (Instr.build 38 #[]).run Tryz.prog w = .ok (.agg (vec 32 (bI fun _ => 0))) w := by kernel_rfl
set_option maxRecDepth 100000 in
set_option maxHeartbeats 8000000 in
theorem checkCommit_any {n R S : Int} (n0 : 0 ≤ n) (n1 : n < T256) (r0 : 0 ≤ R) (r1 : R < T256) (s0 : 0 ≤ S) (s1 : S < T256) (hH : Holds n R S vm vl) (g hv : Nat) (w : World) (hk : w.rowIs g 30 32 (kb n)) (hr : w.rowIs hv 42 100 (voF (bI (sgB R S)))) :
 Calls Tryz.prog 16 #[gV g, .agg (vec 35 (coF (.slice (some ⟨hv, 0, none⟩) 1 1)))] w fun e w' => e = .returned (.int .i64 0) ∧ Below w.heap.size w w' := by
 have HC : Hid (∀ (w : World), w.rowIs g 30 32 (kb n) → Calls Tryz.prog 30 #[gV g, .agg (vec 100 (voF (bI (sgB R S))))] w fun e w' => e = .returned (.int .i64 0) ∧ Below w.heap.size w w') := fun w h => checkVote_any n0 n1 r0 r1 s0 s1 hH g w h
 generalize sgB R S = f at *; clear n0 n1 r0 r1 s0 s1 hH; obtain ⟨cv, hcv⟩ : ∃ cv, cv = coF (.slice (some ⟨hv, 0, none⟩) 1 1) := ⟨_, rfl⟩
 rw [← hcv]; have HCV : Hid (cv = coF (.slice (some ⟨hv, 0, none⟩) 1 1)) := hcv; obtain ⟨W, hW⟩ : ∃ W, W = ((w.alloc (gC g)).alloc (.cells (vec 35 cv) 49)).alloc (.cells #[.int .i64 0] 31) := ⟨_, rfl⟩
 have HW : Hid (W = ((w.alloc (gC g)).alloc (.cells (vec 35 cv) 49)).alloc (.cells #[.int .i64 0] 31)) := hW; have R0 : Hid (W.heap[w.heap.size]? = some (gC g) ∧ W.rowIs (w.heap.size + 1) 49 35 cv ∧ W.heap[w.heap.size + 2]? = some (.cells #[.int .i64 0] 31) ∧ W.rowIs g 30 32 (kb n) ∧ W.rowIs hv 42 100 (voF (bI f)) ∧ Below w.heap.size w W) := by
  rw [hW]; have h : Below w.heap.size w (((w.alloc (gC g)).alloc (.cells (vec 35 cv) 49)).alloc (.cells #[.int .i64 0] 31)) := by go_grown
  exact ⟨(heap_alloc_old _ _ (by simp; omega)).trans ((heap_alloc_old _ _ (by simp)).trans (heap_alloc_new _ _)), rowOld (heap_row (heapAt _ _ _ (by simp))) _, heapAt _ _ _ (by simp), rowOld (rowOld (rowOld hk _) _) _, rowOld (rowOld (rowOld hr _) _) _, h⟩
 clear hk hr hcv hW; unfold gV; refine (callsIn_wide (n := 4)).1 ?_; refine callsIn_of_wp_marks Tryz.func16 rfl trivial ?_ rfl; simp only [Tryz.ntmps16, List.size_toArray, List.length_cons, List.length_nil, Nat.reduceAdd, Nat.reduceSub, Array.replicate_succ, Array.replicate_zero, List.push_toArray, List.append_toArray, List.nil_append, List.cons_append]; gi_wp2_with fail; rw [← HW.out]; refine ⟨trivial, CallsIn.mono (callsIn_wide.2 (right_any n g _ R0.out.2.2.2.1)) ?_⟩; rintro e w1 ⟨rfl, b1⟩; have R1 : Hid (w1.heap[w.heap.size]? = some (gC g) ∧ w1.rowIs (w.heap.size + 1) 49 35 cv ∧ w1.heap[w.heap.size + 2]? = some (.cells #[.int .i64 0] 31) ∧ w1.rowIs g 30 32 (kb n) ∧ w1.rowIs hv 42 100 (voF (bI f)) ∧ Below w.heap.size w w1) :=
  ⟨(b1.block _ (flt_of_some R0.out.1)).trans R0.out.1, R0.out.2.1.of_block (b1.block _ R0.out.2.1.lt), (b1.block _ (flt_of_some R0.out.2.2.1)).trans R0.out.2.2.1, R0.out.2.2.2.1.of_block (b1.block _ R0.out.2.2.2.1.lt), R0.out.2.2.2.2.1.of_block (b1.block _ R0.out.2.2.2.2.1.lt), R0.out.2.2.2.2.2.trans (b1.mono R0.out.2.2.2.2.2.size)⟩
 clear b1 R0 HW; gi_wp2_with fail; refine wpIn_wide.2 ?_; obtain ⟨U, hU⟩ : ∃ U, U = w1.drew := ⟨_, rfl⟩
 have RU : Hid (U.heap[w.heap.size]? = some (gC g) ∧ U.rowIs (w.heap.size + 1) 49 35 cv ∧ U.heap[w.heap.size + 2]? = some (.cells #[.int .i64 0] 31) ∧ U.rowIs g 30 32 (kb n) ∧ U.rowIs hv 42 100 (voF (bI f)) ∧ Below w.heap.size w U) := by
  rw [hU]; exact ⟨R1.out.1, R1.out.2.1, R1.out.2.2.1, R1.out.2.2.2.1, R1.out.2.2.2.2.1, ⟨R1.out.2.2.2.2.2.os, R1.out.2.2.2.2.2.tape, R1.out.2.2.2.2.2.output, R1.out.2.2.2.2.2.size, R1.out.2.2.2.2.2.block⟩⟩
 refine wp_noP ?_; refine wp_region_held_drew (S := fun w' : World => w' = U) (by kernel_rfl) hU.symm (fun hHeld => ?_); rw [← hU] at hHeld ⊢; clear hU R1; refine tk 0 (.pointer (some ⟨w.heap.size + 1, 2, none⟩)) (fun w9 hSw => ?_) hHeld ?_
 · obtain rfl : w9 = U := hSw
   go_simp
 simp only [sm]; refine tk 1 (.agg (vec 32 (bI blk))) (fun w9 hSw => ?_) hHeld ?_
 · obtain rfl : w9 = U := hSw
   exact Sha.run_load_exec 38 _ rfl _ rfl (load38c (HCV.out ▸ RU.out.2.1))
 simp only [sm]; refine tk 2 (.agg (vec 32 (bI fun _ => 0))) (fun w9 hSw => ?_) hHeld ?_
 · obtain rfl : w9 = U := hSw
   exact exec_build 38 #[] rfl #[] (by simp) (build38z w9)
 simp only [sm]; refine tk 3 (.bool false) (fun w9 hSw => ?_) hHeld ?_
 · obtain rfl : w9 = U := hSw
   have hq := eq38z w9; go_simp
 simp only [sm]; refine tk 4 (.bool false) (fun w9 hSw => ?_) hHeld ?_
 · obtain rfl : w9 = U := hSw
   go_simp
 simp only [sm]; refine tk 5 (.pointer (some ⟨w.heap.size + 1, 34, none⟩)) (fun w9 hSw => ?_) hHeld ?_
 · obtain rfl : w9 = U := hSw
   go_simp
 simp only [sm]; refine tk 6 (.slice (some ⟨hv, 0, none⟩) 1 1) (fun w9 hSw => ?_) hHeld ?_
 · obtain rfl : w9 = U := hSw
   have k0 : w9.cell? ⟨w.heap.size + 1, 34, none⟩ = some (.slice (some ⟨hv, 0, none⟩) 1 1) := by
    rw [RU.out.2.1.cell (i := 34) (by decide), HCV.out]; rfl
   go_simp
 simp only [sm]; refine tk 7 (.int .i64 1) (fun w9 hSw => ?_) hHeld ?_
 · obtain rfl : w9 = U := hSw
   go_simp
 simp only [sm]; refine tk 8 (.pointer (some ⟨w.heap.size, 1, none⟩)) (fun w9 hSw => ?_) hHeld ?_
 · obtain rfl : w9 = U := hSw
   go_simp
 simp only [sm]; refine tk 9 (.slice (some ⟨g, 0, none⟩) 1 1) (fun w9 hSw => ?_) hHeld ?_
 · obtain rfl : w9 = U := hSw
   have k0 : w9.cell? ⟨w.heap.size, 1, none⟩ = some (.slice (some ⟨g, 0, none⟩) 1 1) := cellAt RU.out.1 rfl; go_simp
 simp only [sm]; refine tk 10 (.int .i64 1) (fun w9 hSw => ?_) hHeld ?_
 · obtain rfl : w9 = U := hSw
   go_simp
 simp only [sm]; refine rd 11 (fun K hK => ?_); go_simp; refine Calls.mono (quorum_any 1 ⟨by decide, by decide⟩ U) ?_; rintro e w2 ⟨rfl, hw2⟩; obtain rfl := hw2.symm; have q1 : quN 1 = 1 := by decide
 rw [q1]; go_wp2_with fail; refine hK.out _ _ rfl (fun hHeld => ?_); clear hK K; try simp only [sm]
 refine rd 12 (fun K hK => ?_); go_simp; refine hK.out _ _ rfl (fun hHeld => ?_); clear hK K; try simp only [sm]
 refine rd 13 (fun K hK => ?_); go_simp; refine hK.out _ _ rfl (fun hHeld => ?_); clear hK K; try simp only [sm]
 refine wpAnyH_done (by kernel_rfl) ?_ _; simp only [noP, Exit.then]; have k34 : U.cell? ⟨w.heap.size + 1, 34, none⟩ = some (.slice (some ⟨hv, 0, none⟩) 1 1) := by
  rw [RU.out.2.1.cell (i := 34) (by decide), HCV.out]; rfl
 gi_wp2_with fail
 refine ⟨trivial, CallsIn.mono (callsIn_wide.2 (each_any _ _ _ U)) ?_⟩; rintro e w3 ⟨rfl, hw3⟩; have h3 : Below U.heap.size U w3 := by rw [hw3]; go_grown
 have R3 : Hid (w3.heap[w.heap.size]? = some (gC g) ∧ w3.rowIs (w.heap.size + 1) 49 35 cv ∧ w3.heap[w.heap.size + 2]? = some (.cells #[.int .i64 0] 31) ∧ w3.rowIs g 30 32 (kb n) ∧ w3.rowIs hv 42 100 (voF (bI f)) ∧ Below w.heap.size w w3) :=
  ⟨(h3.block _ (flt_of_some RU.out.1)).trans RU.out.1, RU.out.2.1.of_block (h3.block _ RU.out.2.1.lt), (h3.block _ (flt_of_some RU.out.2.2.1)).trans RU.out.2.2.1, RU.out.2.2.2.1.of_block (h3.block _ RU.out.2.2.2.1.lt), RU.out.2.2.2.2.1.of_block (h3.block _ RU.out.2.2.2.2.1.lt), RU.out.2.2.2.2.2.trans (h3.mono RU.out.2.2.2.2.2.size)⟩
 have k3 : w3.heap[U.heap.size]? = some (.cells #[.slice (some ⟨hv, 0, none⟩) 1 1] 47) := by rw [hw3]; exact heap_alloc_new _ _
 have hX2 : w.heap.size + 2 < U.heap.size := flt_of_some RU.out.2.2.1; generalize U.heap.size = X at hX2 k3 ⊢; clear hw3 h3 RU k34 hHeld; gi_wp2_with fail; refine range_with (gf := 51) (lb := #[.pointer (some ⟨X, 0, none⟩)]) rfl (enters_of Tryz.func51 (by kernel_rfl) rfl) ?_; intro r W1 hst hpe htm hpar has' hbod hW1; have hgl : g < w3.heap.size := R3.out.2.2.2.1.lt; have hXl : X < w3.heap.size := flt_of_some k3; obtain ⟨L, hL⟩ : ∃ L, L = w3.heap.size := ⟨_, rfl⟩
 have hb1 : Below w3.heap.size w3 W1 := by rw [hW1]; exact ((Below.refl _ _).alloc (Nat.le_refl _) _).alloc (by simp) _
 have hl1 : W1.heap[L + 1]? = some (.loop r) := by rw [hW1, hL]; exact heap_alloc2_new _ _ _
 have hd1 : W1.heap[L]? = some (.deferred (some [])) := by rw [hW1, hL]; exact heap_alloc2_old _ _ _
 have J0 : CcJ w r L g n cv W1 := ⟨⟨by omega, by omega⟩, hl1, hd1, (hb1.block _ (flt_of_some R3.out.1)).trans R3.out.1, R3.out.2.1.of_block (hb1.block _ R3.out.2.1.lt), (hb1.block _ (flt_of_some R3.out.2.2.1)).trans R3.out.2.2.1, R3.out.2.2.2.1.of_block (hb1.block _ R3.out.2.2.2.1.lt), R3.out.2.2.2.2.2.trans (hb1.mono R3.out.2.2.2.2.2.size)⟩
 have hX1 : W1.cell? ⟨X, 0, none⟩ = some (.slice (some ⟨hv, 0, none⟩) 1 1) := cellAt ((hb1.block _ hXl).trans k3) rfl; have hv1 : W1.rowIs hv 42 100 (voF (bI f)) := R3.out.2.2.2.2.1.of_block (hb1.block _ R3.out.2.2.2.2.1.lt); rw [← hL]; clear hb1 hW1 R3 k3 hl1 hd1 hgl hXl hX2 hL; refine (each1_in 2 (L + 1) X hv f W1 (fun W' => CcJ w r L g n cv W') hX1 hv1 ?hY).mono ?_
 case hY =>
  intro W2 hb2; have J2 := J0.kept hb2; have hlt2 : W1.heap.size ≤ W2.heap.size := hb2.size; have hlw : L + 1 < W1.heap.size := flt_of_some J0.lp; clear J0 hX1 hv1 hb2; refine round_with (R := fun W' => (∀ b, W1.heap.size ≤ b → b < W2.heap.size → W'.heap[b]? = W2.heap[b]?) ∧ CcJ w r L g n cv W') J2.lp hst hpe (by rw [hpar]; rfl) ?_; intro rb hrb; rw [hpar, has', hbod, htm]; clear hpar has' hbod htm hst hpe hrb; have hz := (zero_of_info zero69).1; obtain ⟨V0, hV0⟩ : ∃ V0, V0 = (W2.alloc (.cells (vec 100 zvF) 69)).setRow W2.heap.size (vec 100 (voF (bI f))) := ⟨_, rfl⟩
  have HV0 : Hid (V0 = (W2.alloc (.cells (vec 100 zvF) 69)).setRow W2.heap.size (vec 100 (voF (bI f)))) := hV0; have hst := run_storeVar_row (P := Tryz.prog) (W2.alloc (.cells (vec 100 zvF) 69)) W2.heap.size 69 69 _ (vec 100 (voF (bI f))) (row_heap (heap_row (heap_alloc_new W2 (.cells (vec 100 zvF) 69)))) (info69 _) (by simp) (one_vo f); have hbV : Below W2.heap.size W2 V0 := by rw [hV0]; exact below_setRow ((Below.refl _ _).alloc (Nat.le_refl _) _) (Nat.le_refl _) _
  have hrV : V0.rowIs W2.heap.size 69 100 (voF (bI f)) := by rw [hV0]; exact heap_row (setRow_heap _ _ _ _ _ _ (row_heap (heap_row (heap_alloc_new W2 (.cells (vec 100 zvF) 69)))))
  have JV := J2.kept hbV; have R2 : Hid (CcJ w r L g n cv V0 ∧ V0.rowIs W2.heap.size 69 100 (voF (bI f)) ∧ Below W2.heap.size W2 V0) := ⟨JV, hrV, hbV⟩
  clear hV0 hbV hrV JV J2; simp only [List.zip_toArray, List.zip_cons_cons, List.zip_nil_right, List.foldl_toArray, List.foldl_cons, List.foldl_nil, List.setIfInBounds_toArray, List.set_cons_zero, List.set_cons_succ]; gi_wp2_with (first | (refine wpListIn_store_row (by rfl) 69 _ _ rfl W2.heap.size (vec 100 (voF (bI f))) rfl rfl hst ?_; rw [← HV0.out])); refine ⟨R2.out.1.lp, ?_⟩; have RV : Hid (CcJ w rb L g n cv (V0.putObj (L + 1) (.loop rb)) ∧ (V0.putObj (L + 1) (.loop rb)).rowIs W2.heap.size 69 100 (voF (bI f)) ∧ (∀ b, b < W2.heap.size → b ≠ L + 1 → (V0.putObj (L + 1) (.loop rb)).heap[b]? = W2.heap[b]?) ∧ W2.heap.size ≤ (V0.putObj (L + 1) (.loop rb)).heap.size) := by
   have hne : W2.heap.size ≠ L + 1 := by omega
   have hrow : (V0.putObj (L + 1) (.loop rb)).rowIs W2.heap.size 69 100 (voF (bI f)) := R2.out.2.1.of_block (World.putObj_heap_other (by omega)); exact ⟨R2.out.1.loop rb, hrow, fun b hb hn => (World.putObj_heap_other (by omega)).trans (R2.out.2.2.block b hb), Nat.le_of_lt hrow.lt⟩
  clear R2 HV0 hst hz; generalize V0.putObj (L + 1) (.loop rb) = V at RV ⊢; have HBl : Hid (∀ w : World, Calls Tryz.prog 29 #[.agg (vec 35 cv), .agg (vec 100 (voF (bI f)))] w fun e w' => e = .returned (.bool true) ∧ Below w.heap.size w w') := by
   have h := fun w => belongs_any (bI f) (.slice (some ⟨hv, 0, none⟩) 1 1) w
   rw [← HCV.out] at h; exact h
  have k35 : V.cell? ⟨W2.heap.size, 35, none⟩ = some (.int .i64 0) := RV.out.2.1.cell (i := 35) (by decide); gi_wp2_with (first | (refine wpListIn_load_run (by rfl) 49 _ rfl ⟨w.heap.size + 1, 0, none⟩ rfl (load49 RV.out.1.cc) ?_) | (refine wpListIn_load_run (by rfl) 69 _ rfl ⟨W2.heap.size, 0, none⟩ rfl (load69 RV.out.2.1) ?_)); refine ⟨trivial, CallsIn.mono (CallsIn.inRound _ (callsIn_wide.2 (HBl.out _))) ?_⟩; rintro e v1 ⟨rfl, bb⟩; have R1 : Hid (CcJ w rb L g n cv v1 ∧ v1.rowIs W2.heap.size 69 100 (voF (bI f)) ∧ (∀ b, b < W2.heap.size → b ≠ L + 1 → v1.heap[b]? = W2.heap[b]?) ∧ W2.heap.size ≤ v1.heap.size) :=
   ⟨RV.out.1.kept bb, RV.out.2.1.of_block (bb.block _ RV.out.2.1.lt), fun b hb hn => (bb.block b (Nat.lt_of_lt_of_le hb RV.out.2.2.2)).trans (RV.out.2.2.1 b hb hn), Nat.le_trans RV.out.2.2.2 bb.size⟩
  clear bb RV HBl k35; have g0 : v1.cell? ⟨w.heap.size, 0, none⟩ = some (.int .u64 7) := cellAt R1.out.1.gg rfl; have g1 : v1.cell? ⟨w.heap.size, 1, none⟩ = some (.slice (some ⟨g, 0, none⟩) 1 1) := cellAt R1.out.1.gg rfl; have g2 : v1.cell? ⟨w.heap.size, 2, none⟩ = some (.slice none 0 0) := cellAt R1.out.1.gg rfl; have HCg : Hid (Calls Tryz.prog 30 #[.agg #[.int .u64 7, .slice (some ⟨g, 0, none⟩) 1 1, .slice none 0 0], .agg (vec 100 (voF (bI f)))] v1 fun e w' => e = .returned (.int .i64 0) ∧ Below v1.heap.size v1 w') := HC.out v1 R1.out.1.kk; gi_wp2_with (first | (refine wpListIn_load_run (by rfl) 69 _ rfl ⟨W2.heap.size, 0, none⟩ rfl (load69 R1.out.2.1) ?_)); refine ⟨trivial, CallsIn.mono (CallsIn.inRound _ (callsIn_wide.2 HCg.out)) ?_⟩; rintro e v2 ⟨rfl, bb⟩; have R2 : Hid (CcJ w rb L g n cv v2 ∧ (∀ b, b < W2.heap.size → b ≠ L + 1 → v2.heap[b]? = W2.heap[b]?)) :=
   ⟨R1.out.1.kept bb, fun b hb hn => (bb.block b (Nat.lt_of_lt_of_le hb R1.out.2.2.2)).trans (R1.out.2.2.1 b hb hn)⟩
  clear bb R1 g0 g1 g2 HCg; gi_wp2; exact ⟨R2.out.1.lp, fun b h1 h2 => (World.putObj_heap_other (by omega)).trans (R2.out.2 b h2 (by omega)), R2.out.1.loop r⟩
 rintro e W' ⟨hve, hj⟩; refine ⟨hve, hj.lp, ?_⟩; obtain ⟨re, hre⟩ : ∃ re : Loop, { r with state := .exhausted } = re := ⟨_, rfl⟩
 rw [hre]; have J1 := hj.loop re; clear hj J0 hst hpe htm hpar has' hbod hre hX1 hv1; generalize W'.putObj (L + 1) (.loop re) = V at J1 ⊢; simp only [Exit.inBlock, Exit.then]; have r0 : V.cell? ⟨w.heap.size + 1 + 1, 0, none⟩ = some (.int .i64 0) := cellAt J1.rr rfl; have rf : V.frozen? ⟨w.heap.size + 1 + 1, 0, none⟩ = false := Go.Joins.unfrozen_of_block J1.rr 0; have HJ : Hid (CcJ w re L g n cv V) := J1; clear J1; gi_wp2; have hL := HJ.out.lt; have hdf : (V.setCell ⟨w.heap.size + 1 + 1, 0, none⟩ (.int .i64 0)).heap[L]? = some (.deferred (some [])) := (heap_setCell_other _ _ _ _ (by show L ≠ w.heap.size + 1 + 1; omega)).trans HJ.out.df; have hrr : (V.setCell ⟨w.heap.size + 1 + 1, 0, none⟩ (.int .i64 0)).heap[w.heap.size + 1 + 1]? = some (.cells #[.int .i64 0] 31) := by
  have h := heap_setCell_same V (w.heap.size + 1 + 1) 0 #[.int .i64 0] 31 (.int .i64 0) HJ.out.rr; exact h
 have hl : ∀ o, (loadVar 31 ⟨w.heap.size + 1 + 1, 0, none⟩).run Tryz.prog ((V.setCell ⟨w.heap.size + 1 + 1, 0, none⟩ (.int .i64 0)).putObj L o) = .ok (.int .i64 0) ((V.setCell ⟨w.heap.size + 1 + 1, 0, none⟩ (.int .i64 0)).putObj L o) := fun o => by
  have hc : ((V.setCell ⟨w.heap.size + 1 + 1, 0, none⟩ (.int .i64 0)).putObj L o).cell? ⟨w.heap.size + 1 + 1, 0, none⟩ = some (.int .i64 0) := cellAt ((World.putObj_heap_other (by omega)).trans hrr) rfl; go_simp
 have hbel : Below w.heap.size w (V.setCell ⟨w.heap.size + 1 + 1, 0, none⟩ (.int .i64 0)) := HJ.out.bel.setCell (p := ⟨w.heap.size + 1 + 1, 0, none⟩) (by show w.heap.size ≤ w.heap.size + 1 + 1; omega) _; refine ⟨by simp [Act.put], .inl ⟨_, _, rfl, run_takeDeferred hdf, ?_⟩⟩; refine ⟨.int .i64 0, ?_, rfl, ?_⟩
 · simp [results, Tryz.results16, asAddr, Act.put, hl]
 · exact below_putObj hbel (by omega) _
end Go.Proofs.YtojfcdjgcgnajaaGreat
