/- ed.Add -/
import Derived.Test.YtionjibiemncbaaGreatGShH1
import Derived.Test.YtionjibiemncbaaGreatE3
import Derived.Test.YtionjibiemncbaaGreatE4
import Derived.Test.YtionjibiemncbaaGreatGE6
import Derived.Test.YtionjibiemncbaaGreatE7
set_option linter.unusedSimpArgs false
set_option linter.unusedVariables false
namespace Go.Proofs.YtionjibiemncbaaGreat
open Go.RowKit
theorem wpList_load_want {ops : Array Oper} {rest : List Oper} {o : Oper} {a : Act} {w : World} {Q : Exit → Act → World → Prop} (hw : Region.wanted o (yielded ops a.tmps) = true) (ty : TypeId) (x : Operand) (ho : o.op = .load ty x)
    (g : Addr) (hx : a.eval x = .pointer (some g)) {v : Value} (hrun : (loadVar ty g).run Tryz.prog w = .ok v w) (h : wpList Tryz.prog ops Q rest (a.put o.dst v) w) : wpList Tryz.prog ops Q (o :: rest) a w :=
  wpList_step fun K hK => step_load_run hw ty x ho g hx hrun (hK _ _ h)
set_option maxRecDepth 20000 in
set_option maxHeartbeats 4000000 in
theorem add_n {p0 p1 q0 q1 : Value} {x0 x1 y0 y1 : Int} (hp0 : IsW p0 x0) (hp1 : IsW p1 x1) (hq0 : IsW q0 y0) (hq1 : IsW q1 y1) (ca : ∀ w, Calls Tryz.prog 9 #[.agg (catW [p0, p1])] w fun e w' => e = .returned (.bool false) ∧ Below w.heap.size w w') (w : World) : Calls Tryz.prog 13 #[.agg (catW [p0, p1]), .agg (catW [q0, q1])] w fun e w' => e = .returned (.agg (catW [W4 0 0 0 0, W4 0 0 0 0])) ∧ Below w.heap.size w w' := by
  have A0 : Hid (IsW p0 x0) := hp0
  have A1 : Hid (IsW p1 x1) := hp1
  have B0 : Hid (IsW q0 y0) := hq0
  have B1 : Hid (IsW q1 y1) := hq1
  have CA : Hid (∀ w, Calls Tryz.prog 9 #[.agg (catW [p0, p1])] w fun e w' => e = .returned (.bool false) ∧ Below w.heap.size w w') := ca
  clear ca
  obtain ⟨a0_0, a0_1, a0_2, a0_3, rfl, L0, _⟩ := hp0
  obtain ⟨a1_0, a1_1, a1_2, a1_3, rfl, L1, _⟩ := hp1
  obtain ⟨b0_0, b0_1, b0_2, b0_3, rfl, L2, _⟩ := hq0
  obtain ⟨b1_0, b1_1, b1_2, b1_3, rfl, L3, _⟩ := hq1
  clear L0 L1 L2 L3
  have V0 : Hid (VarS (((w.alloc (.cells (catW [W4 a0_0 a0_1 a0_2 a0_3, W4 a1_0 a1_1 a1_2 a1_3]) 28)).alloc (.cells (catW [W4 b0_0 b0_1 b0_2 b0_3, W4 b1_0 b1_1 b1_2 b1_3]) 28)).alloc (.cells #[.int .u64 0, .int .u64 0, .int .u64 0, .int .u64 0, .int .u64 0, .int .u64 0, .int .u64 0, .int .u64 0] 28)) w.heap.size 28 [W4 a0_0 a0_1 a0_2 a0_3, W4 a1_0 a1_1 a1_2 a1_3] ∧ VarS (((w.alloc (.cells (catW [W4 a0_0 a0_1 a0_2 a0_3, W4 a1_0 a1_1 a1_2 a1_3]) 28)).alloc (.cells (catW [W4 b0_0 b0_1 b0_2 b0_3, W4 b1_0 b1_1 b1_2 b1_3]) 28)).alloc (.cells #[.int .u64 0, .int .u64 0, .int .u64 0, .int .u64 0, .int .u64 0, .int .u64 0, .int .u64 0, .int .u64 0] 28)) (w.heap.size + 1) 28 [W4 b0_0 b0_1 b0_2 b0_3, W4 b1_0 b1_1 b1_2 b1_3] ∧ VarS (((w.alloc (.cells (catW [W4 a0_0 a0_1 a0_2 a0_3, W4 a1_0 a1_1 a1_2 a1_3]) 28)).alloc (.cells (catW [W4 b0_0 b0_1 b0_2 b0_3, W4 b1_0 b1_1 b1_2 b1_3]) 28)).alloc (.cells #[.int .u64 0, .int .u64 0, .int .u64 0, .int .u64 0, .int .u64 0, .int .u64 0, .int .u64 0, .int .u64 0] 28)) (w.heap.size + 2) 28 [W4 0 0 0 0, W4 0 0 0 0] ∧ Below w.heap.size w (((w.alloc (.cells (catW [W4 a0_0 a0_1 a0_2 a0_3, W4 a1_0 a1_1 a1_2 a1_3]) 28)).alloc (.cells (catW [W4 b0_0 b0_1 b0_2 b0_3, W4 b1_0 b1_1 b1_2 b1_3]) 28)).alloc (.cells #[.int .u64 0, .int .u64 0, .int .u64 0, .int .u64 0, .int .u64 0, .int .u64 0, .int .u64 0, .int .u64 0] 28))) := ⟨⟨words2 A0.out A1.out, heap_old _ _ _ _ (heap_old _ _ _ _ (heap_alloc_new _ _))⟩, ⟨words2 B0.out B1.out, heap_old _ _ _ _ (heapAt _ _ _ (by simp))⟩, ⟨words2 isw0 isw0, by rw [← zero8]; exact heapAt _ _ _ (by simp)⟩, by go_grown⟩
  go_enter Tryz.func13, Tryz.ntmps13
  unfold W4
  go_wp2_with (first | (refine wpList_load_run rfl 28 _ rfl _ rfl (load28 V0.out.1) ?_))
  generalize (((w.alloc (.cells (catW [W4 a0_0 a0_1 a0_2 a0_3, W4 a1_0 a1_1 a1_2 a1_3]) 28)).alloc (.cells (catW [W4 b0_0 b0_1 b0_2 b0_3, W4 b1_0 b1_1 b1_2 b1_3]) 28)).alloc (.cells #[.int .u64 0, .int .u64 0, .int .u64 0, .int .u64 0, .int .u64 0, .int .u64 0, .int .u64 0, .int .u64 0] 28)) = W0 at V0 ⊢
  refine Calls.mono (CA.out _) ?_
  rintro e w1 ⟨rfl, b1⟩
  have V1 : Hid (VarS w1 w.heap.size 28 [W4 a0_0 a0_1 a0_2 a0_3, W4 a1_0 a1_1 a1_2 a1_3] ∧ VarS w1 (w.heap.size + 1) 28 [W4 b0_0 b0_1 b0_2 b0_3, W4 b1_0 b1_1 b1_2 b1_3] ∧ VarS w1 (w.heap.size + 2) 28 [W4 0 0 0 0, W4 0 0 0 0] ∧ Below w.heap.size w w1) := ⟨V0.out.1.kept b1, V0.out.2.1.kept b1, V0.out.2.2.1.kept b1, V0.out.2.2.2.trans (b1.mono V0.out.2.2.2.size)⟩
  clear V0 b1
  have hst := V1.out.2.2.1.store (us := [W4 0 0 0 0, W4 0 0 0 0]) (words2 isw0 isw0) rfl (by kernel_rfl)
  go_wp2_with (first | (refine wpList_store_run rfl 28 _ _ rfl (w.heap.size + 2) (catW [W4 0 0 0 0, W4 0 0 0 0]) rfl (by kernel_rfl) hst ?_))
  have hl := load28 (V1.out.2.2.1.put (words2 isw0 isw0))
  exact bodyPost_ret (v := .agg (catW [W4 0 0 0 0, W4 0 0 0 0])) (by simp [results, Tryz.results13, asAddr, Act.put, hl]) rfl ⟨rfl, below_setRow V1.out.2.2.2 (by omega) _⟩
set_option maxRecDepth 20000 in
set_option maxHeartbeats 4000000 in
theorem add_yn {p0 p1 q0 q1 : Value} {x0 x1 y0 y1 : Int} (hp0 : IsW p0 x0) (hp1 : IsW p1 x1) (hq0 : IsW q0 y0) (hq1 : IsW q1 y1) (ca : ∀ w, Calls Tryz.prog 9 #[.agg (catW [p0, p1])] w fun e w' => e = .returned (.bool true) ∧ Below w.heap.size w w') (cb : ∀ w, Calls Tryz.prog 9 #[.agg (catW [q0, q1])] w fun e w' => e = .returned (.bool false) ∧ Below w.heap.size w w') (w : World) : Calls Tryz.prog 13 #[.agg (catW [p0, p1]), .agg (catW [q0, q1])] w fun e w' => e = .returned (.agg (catW [W4 0 0 0 0, W4 0 0 0 0])) ∧ Below w.heap.size w w' := by
  have A0 : Hid (IsW p0 x0) := hp0
  have A1 : Hid (IsW p1 x1) := hp1
  have B0 : Hid (IsW q0 y0) := hq0
  have B1 : Hid (IsW q1 y1) := hq1
  have CA : Hid (∀ w, Calls Tryz.prog 9 #[.agg (catW [p0, p1])] w fun e w' => e = .returned (.bool true) ∧ Below w.heap.size w w') := ca
  clear ca
  have CB : Hid (∀ w, Calls Tryz.prog 9 #[.agg (catW [q0, q1])] w fun e w' => e = .returned (.bool false) ∧ Below w.heap.size w w') := cb
  clear cb
  obtain ⟨a0_0, a0_1, a0_2, a0_3, rfl, L0, _⟩ := hp0
  obtain ⟨a1_0, a1_1, a1_2, a1_3, rfl, L1, _⟩ := hp1
  obtain ⟨b0_0, b0_1, b0_2, b0_3, rfl, L2, _⟩ := hq0
  obtain ⟨b1_0, b1_1, b1_2, b1_3, rfl, L3, _⟩ := hq1
  clear L0 L1 L2 L3
  have V0 : Hid (VarS (((w.alloc (.cells (catW [W4 a0_0 a0_1 a0_2 a0_3, W4 a1_0 a1_1 a1_2 a1_3]) 28)).alloc (.cells (catW [W4 b0_0 b0_1 b0_2 b0_3, W4 b1_0 b1_1 b1_2 b1_3]) 28)).alloc (.cells #[.int .u64 0, .int .u64 0, .int .u64 0, .int .u64 0, .int .u64 0, .int .u64 0, .int .u64 0, .int .u64 0] 28)) w.heap.size 28 [W4 a0_0 a0_1 a0_2 a0_3, W4 a1_0 a1_1 a1_2 a1_3] ∧ VarS (((w.alloc (.cells (catW [W4 a0_0 a0_1 a0_2 a0_3, W4 a1_0 a1_1 a1_2 a1_3]) 28)).alloc (.cells (catW [W4 b0_0 b0_1 b0_2 b0_3, W4 b1_0 b1_1 b1_2 b1_3]) 28)).alloc (.cells #[.int .u64 0, .int .u64 0, .int .u64 0, .int .u64 0, .int .u64 0, .int .u64 0, .int .u64 0, .int .u64 0] 28)) (w.heap.size + 1) 28 [W4 b0_0 b0_1 b0_2 b0_3, W4 b1_0 b1_1 b1_2 b1_3] ∧ VarS (((w.alloc (.cells (catW [W4 a0_0 a0_1 a0_2 a0_3, W4 a1_0 a1_1 a1_2 a1_3]) 28)).alloc (.cells (catW [W4 b0_0 b0_1 b0_2 b0_3, W4 b1_0 b1_1 b1_2 b1_3]) 28)).alloc (.cells #[.int .u64 0, .int .u64 0, .int .u64 0, .int .u64 0, .int .u64 0, .int .u64 0, .int .u64 0, .int .u64 0] 28)) (w.heap.size + 2) 28 [W4 0 0 0 0, W4 0 0 0 0] ∧ Below w.heap.size w (((w.alloc (.cells (catW [W4 a0_0 a0_1 a0_2 a0_3, W4 a1_0 a1_1 a1_2 a1_3]) 28)).alloc (.cells (catW [W4 b0_0 b0_1 b0_2 b0_3, W4 b1_0 b1_1 b1_2 b1_3]) 28)).alloc (.cells #[.int .u64 0, .int .u64 0, .int .u64 0, .int .u64 0, .int .u64 0, .int .u64 0, .int .u64 0, .int .u64 0] 28))) := ⟨⟨words2 A0.out A1.out, heap_old _ _ _ _ (heap_old _ _ _ _ (heap_alloc_new _ _))⟩, ⟨words2 B0.out B1.out, heap_old _ _ _ _ (heapAt _ _ _ (by simp))⟩, ⟨words2 isw0 isw0, by rw [← zero8]; exact heapAt _ _ _ (by simp)⟩, by go_grown⟩
  go_enter Tryz.func13, Tryz.ntmps13
  unfold W4
  go_wp2_with (first | (refine wpList_load_run rfl 28 _ rfl _ rfl (load28 V0.out.1) ?_))
  generalize (((w.alloc (.cells (catW [W4 a0_0 a0_1 a0_2 a0_3, W4 a1_0 a1_1 a1_2 a1_3]) 28)).alloc (.cells (catW [W4 b0_0 b0_1 b0_2 b0_3, W4 b1_0 b1_1 b1_2 b1_3]) 28)).alloc (.cells #[.int .u64 0, .int .u64 0, .int .u64 0, .int .u64 0, .int .u64 0, .int .u64 0, .int .u64 0, .int .u64 0] 28)) = W0 at V0 ⊢
  refine Calls.mono (CA.out _) ?_
  rintro e w1 ⟨rfl, b1⟩
  have V1 : Hid (VarS w1 w.heap.size 28 [W4 a0_0 a0_1 a0_2 a0_3, W4 a1_0 a1_1 a1_2 a1_3] ∧ VarS w1 (w.heap.size + 1) 28 [W4 b0_0 b0_1 b0_2 b0_3, W4 b1_0 b1_1 b1_2 b1_3] ∧ VarS w1 (w.heap.size + 2) 28 [W4 0 0 0 0, W4 0 0 0 0] ∧ Below w.heap.size w w1) := ⟨V0.out.1.kept b1, V0.out.2.1.kept b1, V0.out.2.2.1.kept b1, V0.out.2.2.2.trans (b1.mono V0.out.2.2.2.size)⟩
  clear V0 b1
  go_wp2_with (first | (refine wpList_load_want (by rfl) 28 _ rfl _ rfl (load28 V1.out.2.1) ?_))
  refine Calls.mono (CB.out _) ?_
  rintro e w2 ⟨rfl, b2⟩
  have V2 : Hid (VarS w2 w.heap.size 28 [W4 a0_0 a0_1 a0_2 a0_3, W4 a1_0 a1_1 a1_2 a1_3] ∧ VarS w2 (w.heap.size + 1) 28 [W4 b0_0 b0_1 b0_2 b0_3, W4 b1_0 b1_1 b1_2 b1_3] ∧ VarS w2 (w.heap.size + 2) 28 [W4 0 0 0 0, W4 0 0 0 0] ∧ Below w.heap.size w w2) := ⟨V1.out.1.kept b2, V1.out.2.1.kept b2, V1.out.2.2.1.kept b2, V1.out.2.2.2.trans (b2.mono V1.out.2.2.2.size)⟩
  clear V1 b2
  have hst := V2.out.2.2.1.store (us := [W4 0 0 0 0, W4 0 0 0 0]) (words2 isw0 isw0) rfl (by kernel_rfl)
  go_wp2_with (first | (refine wpList_store_run rfl 28 _ _ rfl (w.heap.size + 2) (catW [W4 0 0 0 0, W4 0 0 0 0]) rfl (by kernel_rfl) hst ?_))
  have hl := load28 (V2.out.2.2.1.put (words2 isw0 isw0))
  exact bodyPost_ret (v := .agg (catW [W4 0 0 0 0, W4 0 0 0 0])) (by simp [results, Tryz.results13, asAddr, Act.put, hl]) rfl ⟨rfl, below_setRow V2.out.2.2.2 (by omega) _⟩
set_option maxRecDepth 20000 in
set_option maxHeartbeats 4000000 in
theorem add_yy {p0 p1 q0 q1 : Value} {kx ky lx ly : K} (hp0 : IsF p0 kx) (hp1 : IsF p1 ky) (hq0 : IsF q0 lx) (hq1 : IsF q1 ly) (ca : ∀ w, Calls Tryz.prog 9 #[.agg (catW [p0, p1])] w fun e w' => e = .returned (.bool true) ∧ Below w.heap.size w w') (cb : ∀ w, Calls Tryz.prog 9 #[.agg (catW [q0, q1])] w fun e w' => e = .returned (.bool true) ∧ Below w.heap.size w w') (w : World) : Calls Tryz.prog 13 #[.agg (catW [p0, p1]), .agg (catW [q0, q1])] w fun e w' => ∃ v0 v1, e = .returned (.agg (catW [v0, v1])) ∧ (IsF v0 ((((((ky)) + ((kx))) * ((ly) + (lx)) - (((ky)) - ((kx))) * ((ly) - (lx))) * (((1) + (1)) - ((kx) * (ky)) * ((toF DD + toF DD) * ((lx) * (ly))))) * invK ((((1) + (1)) + ((kx) * (ky)) * ((toF DD + toF DD) * ((lx) * (ly)))) * (((1) + (1)) - ((kx) * (ky)) * ((toF DD + toF DD) * ((lx) * (ly)))))) ∧ IsF v1 ((((((ky)) + ((kx))) * ((ly) + (lx)) + (((ky)) - ((kx))) * ((ly) - (lx))) * (((1) + (1)) + ((kx) * (ky)) * ((toF DD + toF DD) * ((lx) * (ly))))) * invK ((((1) + (1)) + ((kx) * (ky)) * ((toF DD + toF DD) * ((lx) * (ly)))) * (((1) + (1)) - ((kx) * (ky)) * ((toF DD + toF DD) * ((lx) * (ly))))))) ∧ Below w.heap.size w w' := by
  have A0 : Hid (IsF p0 kx) := hp0
  have A1 : Hid (IsF p1 ky) := hp1
  have B0 : Hid (IsF q0 lx) := hq0
  have B1 : Hid (IsF q1 ly) := hq1
  have CA : Hid (∀ w, Calls Tryz.prog 9 #[.agg (catW [p0, p1])] w fun e w' => e = .returned (.bool true) ∧ Below w.heap.size w w') := ca
  clear ca
  have CB : Hid (∀ w, Calls Tryz.prog 9 #[.agg (catW [q0, q1])] w fun e w' => e = .returned (.bool true) ∧ Below w.heap.size w w') := cb
  clear cb
  obtain ⟨a0_0, a0_1, a0_2, a0_3, rfl, L0, _⟩ := hp0
  obtain ⟨a1_0, a1_1, a1_2, a1_3, rfl, L1, _⟩ := hp1
  obtain ⟨b0_0, b0_1, b0_2, b0_3, rfl, L2, _⟩ := hq0
  obtain ⟨b1_0, b1_1, b1_2, b1_3, rfl, L3, _⟩ := hq1
  clear L0 L1 L2 L3
  have V0 : Hid (VarS (((w.alloc (.cells (catW [W4 a0_0 a0_1 a0_2 a0_3, W4 a1_0 a1_1 a1_2 a1_3]) 28)).alloc (.cells (catW [W4 b0_0 b0_1 b0_2 b0_3, W4 b1_0 b1_1 b1_2 b1_3]) 28)).alloc (.cells #[.int .u64 0, .int .u64 0, .int .u64 0, .int .u64 0, .int .u64 0, .int .u64 0, .int .u64 0, .int .u64 0] 28)) w.heap.size 28 [W4 a0_0 a0_1 a0_2 a0_3, W4 a1_0 a1_1 a1_2 a1_3] ∧ VarS (((w.alloc (.cells (catW [W4 a0_0 a0_1 a0_2 a0_3, W4 a1_0 a1_1 a1_2 a1_3]) 28)).alloc (.cells (catW [W4 b0_0 b0_1 b0_2 b0_3, W4 b1_0 b1_1 b1_2 b1_3]) 28)).alloc (.cells #[.int .u64 0, .int .u64 0, .int .u64 0, .int .u64 0, .int .u64 0, .int .u64 0, .int .u64 0, .int .u64 0] 28)) (w.heap.size + 1) 28 [W4 b0_0 b0_1 b0_2 b0_3, W4 b1_0 b1_1 b1_2 b1_3] ∧ VarS (((w.alloc (.cells (catW [W4 a0_0 a0_1 a0_2 a0_3, W4 a1_0 a1_1 a1_2 a1_3]) 28)).alloc (.cells (catW [W4 b0_0 b0_1 b0_2 b0_3, W4 b1_0 b1_1 b1_2 b1_3]) 28)).alloc (.cells #[.int .u64 0, .int .u64 0, .int .u64 0, .int .u64 0, .int .u64 0, .int .u64 0, .int .u64 0, .int .u64 0] 28)) (w.heap.size + 2) 28 [W4 0 0 0 0, W4 0 0 0 0] ∧ Below w.heap.size w (((w.alloc (.cells (catW [W4 a0_0 a0_1 a0_2 a0_3, W4 a1_0 a1_1 a1_2 a1_3]) 28)).alloc (.cells (catW [W4 b0_0 b0_1 b0_2 b0_3, W4 b1_0 b1_1 b1_2 b1_3]) 28)).alloc (.cells #[.int .u64 0, .int .u64 0, .int .u64 0, .int .u64 0, .int .u64 0, .int .u64 0, .int .u64 0, .int .u64 0] 28))) := ⟨⟨words2 A0.out A1.out, heap_old _ _ _ _ (heap_old _ _ _ _ (heap_alloc_new _ _))⟩, ⟨words2 B0.out B1.out, heap_old _ _ _ _ (heapAt _ _ _ (by simp))⟩, ⟨words2 isw0 isw0, by rw [← zero8]; exact heapAt _ _ _ (by simp)⟩, by go_grown⟩
  go_enter Tryz.func13, Tryz.ntmps13
  unfold W4
  go_wp2_with (first | (refine wpList_load_run rfl 28 _ rfl _ rfl (load28 V0.out.1) ?_))
  generalize (((w.alloc (.cells (catW [W4 a0_0 a0_1 a0_2 a0_3, W4 a1_0 a1_1 a1_2 a1_3]) 28)).alloc (.cells (catW [W4 b0_0 b0_1 b0_2 b0_3, W4 b1_0 b1_1 b1_2 b1_3]) 28)).alloc (.cells #[.int .u64 0, .int .u64 0, .int .u64 0, .int .u64 0, .int .u64 0, .int .u64 0, .int .u64 0, .int .u64 0] 28)) = W0 at V0 ⊢
  refine Calls.mono (CA.out _) ?_
  rintro e w1 ⟨rfl, b1⟩
  have V1 : Hid (VarS w1 w.heap.size 28 [W4 a0_0 a0_1 a0_2 a0_3, W4 a1_0 a1_1 a1_2 a1_3] ∧ VarS w1 (w.heap.size + 1) 28 [W4 b0_0 b0_1 b0_2 b0_3, W4 b1_0 b1_1 b1_2 b1_3] ∧ VarS w1 (w.heap.size + 2) 28 [W4 0 0 0 0, W4 0 0 0 0] ∧ Below w.heap.size w w1) := ⟨V0.out.1.kept b1, V0.out.2.1.kept b1, V0.out.2.2.1.kept b1, V0.out.2.2.2.trans (b1.mono V0.out.2.2.2.size)⟩
  clear V0 b1
  go_wp2_with (first | (refine wpList_load_want (by rfl) 28 _ rfl _ rfl (load28 V1.out.2.1) ?_))
  refine Calls.mono (CB.out _) ?_
  rintro e w2 ⟨rfl, b2⟩
  have V2 : Hid (VarS w2 w.heap.size 28 [W4 a0_0 a0_1 a0_2 a0_3, W4 a1_0 a1_1 a1_2 a1_3] ∧ VarS w2 (w.heap.size + 1) 28 [W4 b0_0 b0_1 b0_2 b0_3, W4 b1_0 b1_1 b1_2 b1_3] ∧ VarS w2 (w.heap.size + 2) 28 [W4 0 0 0 0, W4 0 0 0 0] ∧ Below w.heap.size w w2) := ⟨V1.out.1.kept b2, V1.out.2.1.kept b2, V1.out.2.2.1.kept b2, V1.out.2.2.2.trans (b2.mono V1.out.2.2.2.size)⟩
  clear V1 b2
  have g0 := V2.out.1
  have g1 := V2.out.2.1
  have hres := V2.out.2.2.1
  have hB0 := V2.out.2.2.2
  clear V2 CA CB
  go_wp2
  have hw := hB0.size
  have lt0 := g0.lt
  have lt1 := g1.lt
  have ltr := hres.lt
  refine wp_region_inv (by kernel_rfl) 7 rfl (fun l a w' => ∃ (β0 β1 β2 β3 β4 β5 β6 : Bool) (x3_1_0 x3_1_1 x3_1_2 x3_1_3 x3_3_0 x3_3_1 x3_3_2 x3_4_0 x3_4_1 x3_4_2 x3_4_3 x3_5_0 x3_5_1 : Value), l = #[β0, β1, β2, β3, β4, β5, β6] ∧ a = ⟨#[.agg (catW [W4 a0_0 a0_1 a0_2 a0_3, W4 a1_0 a1_1 a1_2 a1_3]), .agg (catW [W4 b0_0 b0_1 b0_2 b0_3, W4 b1_0 b1_1 b1_2 b1_3]), .pointer (some ⟨w.heap.size, 0, none⟩), .pointer (some ⟨w.heap.size + 1, 0, none⟩), .pointer (some ⟨w.heap.size + 2, 0, none⟩), .agg (catW [W4 a0_0 a0_1 a0_2 a0_3, W4 a1_0 a1_1 a1_2 a1_3]), .bool true, .bool false, .bool false, .agg (catW [W4 b0_0 b0_1 b0_2 b0_3, W4 b1_0 b1_1 b1_2 b1_3]), .bool true, .bool false, .bool false, undef, bif β0 then .agg (catW [W4 a0_0 a0_1 a0_2 a0_3, W4 a1_0 a1_1 a1_2 a1_3]) else undef, bif β1 then .agg (catW [x3_1_0, x3_1_1, x3_1_2, x3_1_3]) else undef, bif β2 then .agg (catW [W4 b0_0 b0_1 b0_2 b0_3, W4 b1_0 b1_1 b1_2 b1_3]) else undef, bif β3 then .agg (catW [x3_3_0, x3_3_1, x3_3_2]) else undef, bif β4 then .agg (catW [x3_4_0, x3_4_1, x3_4_2, x3_4_3]) else undef, bif β5 then .agg (catW [x3_5_0, x3_5_1]) else undef], []⟩ ∧ Below (w.heap.size) w2 w' ∧ Hid (β1 = true → IsF x3_1_0 ((kx)) ∧ IsF x3_1_1 ((ky)) ∧ IsF x3_1_2 (1) ∧ IsF x3_1_3 ((kx) * (ky))) ∧ Hid (β3 = true → IsF x3_3_0 ((ly) - (lx)) ∧ IsF x3_3_1 ((ly) + (lx)) ∧ IsF x3_3_2 ((toF DD + toF DD) * ((lx) * (ly)))) ∧ Hid (β4 = true → IsF x3_4_0 (((((ky)) + ((kx))) * ((ly) + (lx)) - (((ky)) - ((kx))) * ((ly) - (lx))) * (((1) + (1)) - ((kx) * (ky)) * ((toF DD + toF DD) * ((lx) * (ly))))) ∧ IsF x3_4_1 (((((ky)) + ((kx))) * ((ly) + (lx)) + (((ky)) - ((kx))) * ((ly) - (lx))) * (((1) + (1)) + ((kx) * (ky)) * ((toF DD + toF DD) * ((lx) * (ly))))) ∧ IsF x3_4_2 ((((1) + (1)) + ((kx) * (ky)) * ((toF DD + toF DD) * ((lx) * (ly)))) * (((1) + (1)) - ((kx) * (ky)) * ((toF DD + toF DD) * ((lx) * (ly))))) ∧ IsF x3_4_3 (((((ky)) + ((kx))) * ((ly) + (lx)) - (((ky)) - ((kx))) * ((ly) - (lx))) * ((((ky)) + ((kx))) * ((ly) + (lx)) + (((ky)) - ((kx))) * ((ly) - (lx))))) ∧ Hid (β5 = true → IsF x3_5_0 ((((((ky)) + ((kx))) * ((ly) + (lx)) - (((ky)) - ((kx))) * ((ly) - (lx))) * (((1) + (1)) - ((kx) * (ky)) * ((toF DD + toF DD) * ((lx) * (ly))))) * invK ((((1) + (1)) + ((kx) * (ky)) * ((toF DD + toF DD) * ((lx) * (ly)))) * (((1) + (1)) - ((kx) * (ky)) * ((toF DD + toF DD) * ((lx) * (ly)))))) ∧ IsF x3_5_1 ((((((ky)) + ((kx))) * ((ly) + (lx)) + (((ky)) - ((kx))) * ((ly) - (lx))) * (((1) + (1)) + ((kx) * (ky)) * ((toF DD + toF DD) * ((lx) * (ly))))) * invK ((((1) + (1)) + ((kx) * (ky)) * ((toF DD + toF DD) * ((lx) * (ly)))) * (((1) + (1)) - ((kx) * (ky)) * ((toF DD + toF DD) * ((lx) * (ly))))))) ∧ Hid (β6 = true → β5 = true) ∧ VarS w' (w.heap.size) 28 [W4 a0_0 a0_1 a0_2 a0_3, W4 a1_0 a1_1 a1_2 a1_3] ∧ VarS w' (w.heap.size + 1) 28 [W4 b0_0 b0_1 b0_2 b0_3, W4 b1_0 b1_1 b1_2 b1_3] ∧ VarS w' (w.heap.size + 2) 28 (bif β6 then [x3_5_0, x3_5_1] else [W4 0 0 0 0, W4 0 0 0 0])) ?h03 ?hend3 ?hstep3
  case h03 => exact ⟨false, false, false, false, false, false, false, undef, undef, undef, undef, undef, undef, undef, undef, undef, undef, undef, undef, undef, rfl, rfl, Below.drew (Below.refl _ _), (fun h => by cases h), (fun h => by cases h), (fun h => by cases h), (fun h => by cases h), (fun h => by cases h), g0.drew, g1.drew, hres.drew⟩
  case hend3 =>
    intro l a w' hs hI hr0
    obtain ⟨β0, β1, β2, β3, β4, β5, β6, x3_1_0, x3_1_1, x3_1_2, x3_1_3, x3_3_0, x3_3_1, x3_3_2, x3_4_0, x3_4_1, x3_4_2, x3_4_3, x3_5_0, x3_5_1, rfl, rfl, hB, hc3_1, hc3_3, hc3_4, hc3_5, hm3_6_5, g0, g1, hr⟩ := hI
    have hall := ready_none (by rfl) (depsLow_spec (by kernel_rfl)) hr0
    obtain rfl : β0 = true := hall 0 (by decide)
    obtain rfl : β1 = true := hall 1 (by decide)
    obtain rfl : β2 = true := hall 2 (by decide)
    obtain rfl : β3 = true := hall 3 (by decide)
    obtain rfl : β4 = true := hall 4 (by decide)
    obtain rfl : β5 = true := hall 5 (by decide)
    obtain rfl : β6 = true := hall 6 (by decide)
    clear hall hr0 hs
    replace hc3_1 := hc3_1.out rfl
    replace hc3_3 := hc3_3.out rfl
    replace hc3_4 := hc3_4.out rfl
    replace hc3_5 := hc3_5.out rfl
    simp only [cond_true] at hr ⊢
    have hBel := hB0.trans (hB.mono (Nat.le_refl _))
    have hl := load28 hr
    go_wp2
    exact bodyPost_ret (v := .agg (catW [x3_5_0, x3_5_1])) (by simp [results, Tryz.results13, asAddr, hl]) rfl ⟨_, _, rfl, ⟨hc3_5.1, hc3_5.2⟩, hBel⟩
  case hstep3 =>
    intro i l a w' hs hI hi
    obtain ⟨β0, β1, β2, β3, β4, β5, β6, x3_1_0, x3_1_1, x3_1_2, x3_1_3, x3_3_0, x3_3_1, x3_3_2, x3_4_0, x3_4_1, x3_4_2, x3_4_3, x3_5_0, x3_5_1, rfl, rfl, hB, hc3_1, hc3_3, hc3_4, hc3_5, hm3_6_5, g0, g1, hr⟩ := hI
    obtain ⟨hlt, hun, _⟩ := ready_mem hi
    have hlt' : i < 7 := hlt
    clear hlt hs
    have hcs : i = 0 ∨ i = 1 ∨ i = 2 ∨ i = 3 ∨ i = 4 ∨ i = 5 ∨ i = 6 := by omega
    clear hlt'
    rcases hcs with rfl | rfl | rfl | rfl | rfl | rfl | rfl
    · obtain rfl : β0 = false := hun
      clear hi
      try simp only [cond_true, cond_false]
      refine ws (fun Kx hK => ?_)
      refine step_yield (v := .agg (catW [W4 a0_0 a0_1 a0_2 a0_3, W4 a1_0 a1_1 a1_2 a1_3])) (by rfl) ?_ ?_
      · exact run_load_exec 28 _ rfl _ rfl (load28 g0)
      · exact hK.out _ _ ⟨true, β1, β2, β3, β4, β5, β6, x3_1_0, x3_1_1, x3_1_2, x3_1_3, x3_3_0, x3_3_1, x3_3_2, x3_4_0, x3_4_1, x3_4_2, x3_4_3, x3_5_0, x3_5_1, rfl, rfl, hB, hc3_1, hc3_3, hc3_4, hc3_5, hm3_6_5, g0, g1, hr⟩
    · obtain rfl : β1 = false := hun
      obtain rfl : β0 = true := ready_dep (k := 0) hi rfl rfl rfl
      clear hi
      try simp only [cond_true, cond_false]
      refine ws (fun Kx hK => ?_)
      go_simp
      refine Calls.mono (f_spread A0.out A1.out _) ?_
      rintro e w2 ⟨v0, v1, v2, v3, rfl, hv, hb2⟩
      go_wp2_with fail
      exact hK.out _ _ ⟨true, true, β2, β3, β4, β5, β6, v0, v1, v2, v3, x3_3_0, x3_3_1, x3_3_2, x3_4_0, x3_4_1, x3_4_2, x3_4_3, x3_5_0, x3_5_1, rfl, rfl, (hB.trans (hb2.mono (Nat.le_trans hw hB.size))), (fun _ => hv), hc3_3, hc3_4, hc3_5, hm3_6_5, (g0.kept hb2), (g1.kept hb2), (hr.kept hb2)⟩
    · obtain rfl : β2 = false := hun
      clear hi
      try simp only [cond_true, cond_false]
      refine ws (fun Kx hK => ?_)
      refine step_yield (v := .agg (catW [W4 b0_0 b0_1 b0_2 b0_3, W4 b1_0 b1_1 b1_2 b1_3])) (by rfl) ?_ ?_
      · exact run_load_exec 28 _ rfl _ rfl (load28 g1)
      · exact hK.out _ _ ⟨β0, β1, true, β3, β4, β5, β6, x3_1_0, x3_1_1, x3_1_2, x3_1_3, x3_3_0, x3_3_1, x3_3_2, x3_4_0, x3_4_1, x3_4_2, x3_4_3, x3_5_0, x3_5_1, rfl, rfl, hB, hc3_1, hc3_3, hc3_4, hc3_5, hm3_6_5, g0, g1, hr⟩
    · obtain rfl : β3 = false := hun
      obtain rfl : β2 = true := ready_dep (k := 0) hi rfl rfl rfl
      clear hi
      try simp only [cond_true, cond_false]
      refine ws (fun Kx hK => ?_)
      go_simp
      refine Calls.mono (f_addendOf B0.out B1.out _) ?_
      rintro e w2 ⟨v0, v1, v2, rfl, hv, hb2⟩
      go_wp2_with fail
      exact hK.out _ _ ⟨β0, β1, true, true, β4, β5, β6, x3_1_0, x3_1_1, x3_1_2, x3_1_3, v0, v1, v2, x3_4_0, x3_4_1, x3_4_2, x3_4_3, x3_5_0, x3_5_1, rfl, rfl, (hB.trans (hb2.mono (Nat.le_trans hw hB.size))), hc3_1, (fun _ => hv), hc3_4, hc3_5, hm3_6_5, (g0.kept hb2), (g1.kept hb2), (hr.kept hb2)⟩
    · obtain rfl : β4 = false := hun
      obtain rfl : β1 = true := ready_dep (k := 0) hi rfl rfl rfl
      obtain rfl : β3 = true := ready_dep (k := 1) hi rfl rfl rfl
      clear hi
      try simp only [cond_true, cond_false]
      refine ws (fun Kx hK => ?_)
      replace hc3_1 := hc3_1.out rfl
      replace hc3_3 := hc3_3.out rfl
      go_simp
      refine Calls.mono (f_plus hc3_1.1 hc3_1.2.1 hc3_1.2.2.1 hc3_1.2.2.2 hc3_3.1 hc3_3.2.1 hc3_3.2.2 _) ?_
      rintro e w2 ⟨v0, v1, v2, v3, rfl, hv, hb2⟩
      go_wp2_with fail
      exact hK.out _ _ ⟨β0, true, β2, true, true, β5, β6, x3_1_0, x3_1_1, x3_1_2, x3_1_3, x3_3_0, x3_3_1, x3_3_2, v0, v1, v2, v3, x3_5_0, x3_5_1, rfl, rfl, (hB.trans (hb2.mono (Nat.le_trans hw hB.size))), (fun _ => hc3_1), (fun _ => hc3_3), (fun _ => hv), hc3_5, hm3_6_5, (g0.kept hb2), (g1.kept hb2), (hr.kept hb2)⟩
    · obtain rfl : β5 = false := hun
      obtain rfl : β4 = true := ready_dep (k := 0) hi rfl rfl rfl
      obtain rfl : β6 = false := Bool.eq_false_iff.2 (fun h => by have := hm3_6_5.out h; cases this)
      clear hi
      try simp only [cond_true, cond_false]
      refine ws (fun Kx hK => ?_)
      replace hc3_4 := hc3_4.out rfl
      go_simp
      refine Calls.mono (f_flat hc3_4.1 hc3_4.2.1 hc3_4.2.2.1 hc3_4.2.2.2 _) ?_
      rintro e w2 ⟨v0, v1, rfl, hv, hb2⟩
      go_wp2_with fail
      exact hK.out _ _ ⟨β0, β1, β2, β3, true, true, false, x3_1_0, x3_1_1, x3_1_2, x3_1_3, x3_3_0, x3_3_1, x3_3_2, x3_4_0, x3_4_1, x3_4_2, x3_4_3, v0, v1, rfl, rfl, (hB.trans (hb2.mono (Nat.le_trans hw hB.size))), hc3_1, hc3_3, (fun _ => hc3_4), (fun _ => hv), (fun _ => rfl), (g0.kept hb2), (g1.kept hb2), (hr.kept hb2)⟩
    · obtain rfl : β6 = false := hun
      obtain rfl : β5 = true := ready_dep (k := 0) hi rfl rfl rfl
      clear hi
      try simp only [cond_true, cond_false]
      refine ws (fun Kx hK => ?_)
      refine step_store_S (us := [x3_5_0, x3_5_1]) (vs := [W4 0 0 0 0, W4 0 0 0 0]) (by rfl) 28 _ _ rfl (w.heap.size + 2) rfl rfl (words2 (hc3_5.out rfl).1 (hc3_5.out rfl).2) rfl (by kernel_rfl) hr ?_
      exact hK.out _ _ ⟨β0, β1, β2, β3, β4, true, true, x3_1_0, x3_1_1, x3_1_2, x3_1_3, x3_3_0, x3_3_1, x3_3_2, x3_4_0, x3_4_1, x3_4_2, x3_4_3, x3_5_0, x3_5_1, rfl, rfl, (below_setRow hB (by omega) _), hc3_1, hc3_3, hc3_4, hc3_5, (fun _ => rfl), (g0.other (by omega) _), (g1.other (by omega) _), (hr.put (words2 (hc3_5.out rfl).1 (hc3_5.out rfl).2))⟩
end Go.Proofs.YtionjibiemncbaaGreat
