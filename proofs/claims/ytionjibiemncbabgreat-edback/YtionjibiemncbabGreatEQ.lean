/- ed.both -/
import Derived.Test.YtionjibiemncbabGreatGShH1
import Derived.Test.YtionjibiemncbabGreatGEQ0
set_option linter.unusedSimpArgs false
set_option linter.unusedVariables false
namespace Go.Proofs.YtionjibiemncbabGreat
open Go.RowKit
attribute [local go_sem] Oper.semAt_some
theorem wpListIn_store_run {F : Fence} {n : Nat} {P : Program} {ops : Array Oper} {rest : List Oper} {o : Oper} {a : Act} {w : World} {Q : Exit → Act → World → Prop} (hw : Region.wanted o (yielded ops a.tmps) = true) (ty : TypeId) (x y : Operand) (ho : o.op = .store ty x y)
    (g : Nat) (c : Array Value) (hx : a.eval x = .pointer (some ⟨g, 0, none⟩)) (hy : a.eval y = .agg c) (hrun : (storeVar ty ⟨g, 0, none⟩ (.agg c)).run P w = .ok () (w.setRow g c))
    (h : wpListIn F n P ops Q rest (a.put o.dst undef) (w.setRow g c)) : wpListIn F n P ops Q (o :: rest) a w := by
  refine wpListIn_step fun K hK' => ?_
  rw [if_pos hw]
  unfold Oper.wpIn
  refine ⟨?_, ?_⟩
  · simp [Oper.about, ho]
  · rw [Oper.semAt_plain F _ _ (by rw [ho]; intro c hc'; cases hc')]
    unfold execOp
    simp only [ho, hx, hy, Instr.storeAt, Instr.sureAddr, Sem.run_bind, Sem.run_pure, Result.andThen_ok, hrun]
    exact hK' _ _ h
theorem VarS.new80 (w : World) : VarS (w.alloc (.cells #[.int .u64 0, .int .u64 0, .int .u64 0, .int .u64 0, .int .u64 0, .int .u64 0, .int .u64 0, .int .u64 0, .int .u64 0, .int .u64 0, .int .u64 0, .int .u64 0] 84)) w.heap.size 84 [W4 0 0 0 0, W4 0 0 0 0, W4 0 0 0 0] := ⟨words3 isw0 isw0 isw0, by rw [← zero12]; exact heap_alloc_new _ _⟩
theorem VarS.new76 (w : World) : VarS (w.alloc (.cells #[.int .u64 0, .int .u64 0, .int .u64 0, .int .u64 0, .int .u64 0, .int .u64 0, .int .u64 0, .int .u64 0, .int .u64 0, .int .u64 0, .int .u64 0, .int .u64 0, .int .u64 0, .int .u64 0, .int .u64 0, .int .u64 0] 87)) w.heap.size 87 [W4 0 0 0 0, W4 0 0 0 0, W4 0 0 0 0, W4 0 0 0 0] := ⟨words4 isw0 isw0 isw0 isw0, by rw [← zero16w]; exact heap_alloc_new _ _⟩
set_option maxRecDepth 20000 in
set_option maxHeartbeats 4000000 in
theorem both_any {va vb p0 p1 q0 q1 : Value} {x y : Int} {p q : Pt} (ha : IsW va x) (hb : IsW vb y) (hp0 : IsF p0 p.x) (hp1 : IsF p1 p.y) (hq0 : IsF q0 q.x) (hq1 : IsF q1 q.y) (w : World) :
    Calls Tryz.prog 47 #[va, .agg (catW [p0, p1]), vb, .agg (catW [q0, q1])] w fun e w' => ∃ v0 v1, e = .returned (.agg (catW [v0, v1])) ∧ (IsF v0 ((Pt.mul x.toNat p).add (Pt.mul y.toNat q)).x ∧ IsF v1 ((Pt.mul x.toNat p).add (Pt.mul y.toNat q)).y) ∧ Below w.heap.size w w' := by
  have A0 : Hid (IsW va x) := ha
  have B0 : Hid (IsW vb y) := hb
  have P0 : Hid (IsF p0 p.x) := hp0
  have P1 : Hid (IsF p1 p.y) := hp1
  have Q0 : Hid (IsF q0 q.x) := hq0
  have Q1 : Hid (IsF q1 q.y) := hq1
  obtain ⟨a0_0, a0_1, a0_2, a0_3, rfl, La0, _⟩ := ha
  clear La0
  obtain ⟨b0_0, b0_1, b0_2, b0_3, rfl, Lb0, _⟩ := hb
  clear Lb0
  obtain ⟨p0_0, p0_1, p0_2, p0_3, rfl, Lp0, _⟩ := hp0
  clear Lp0
  obtain ⟨p1_0, p1_1, p1_2, p1_3, rfl, Lp1, _⟩ := hp1
  clear Lp1
  obtain ⟨q0_0, q0_1, q0_2, q0_3, rfl, Lq0, _⟩ := hq0
  clear Lq0
  obtain ⟨q1_0, q1_1, q1_2, q1_3, rfl, Lq1, _⟩ := hq1
  clear Lq1
  have V0 : Hid (VarS (((((w.alloc (.cells (C4 a0_0 a0_1 a0_2 a0_3) 24)).alloc (.cells (catW [W4 p0_0 p0_1 p0_2 p0_3, W4 p1_0 p1_1 p1_2 p1_3]) 29)).alloc (.cells (C4 b0_0 b0_1 b0_2 b0_3) 24)).alloc (.cells (catW [W4 q0_0 q0_1 q0_2 q0_3, W4 q1_0 q1_1 q1_2 q1_3]) 29)).alloc (.cells #[.int .u64 0, .int .u64 0, .int .u64 0, .int .u64 0, .int .u64 0, .int .u64 0, .int .u64 0, .int .u64 0] 29)) w.heap.size 24 [W4 a0_0 a0_1 a0_2 a0_3] ∧ VarS (((((w.alloc (.cells (C4 a0_0 a0_1 a0_2 a0_3) 24)).alloc (.cells (catW [W4 p0_0 p0_1 p0_2 p0_3, W4 p1_0 p1_1 p1_2 p1_3]) 29)).alloc (.cells (C4 b0_0 b0_1 b0_2 b0_3) 24)).alloc (.cells (catW [W4 q0_0 q0_1 q0_2 q0_3, W4 q1_0 q1_1 q1_2 q1_3]) 29)).alloc (.cells #[.int .u64 0, .int .u64 0, .int .u64 0, .int .u64 0, .int .u64 0, .int .u64 0, .int .u64 0, .int .u64 0] 29)) (w.heap.size + 1) 29 [W4 p0_0 p0_1 p0_2 p0_3, W4 p1_0 p1_1 p1_2 p1_3] ∧ VarS (((((w.alloc (.cells (C4 a0_0 a0_1 a0_2 a0_3) 24)).alloc (.cells (catW [W4 p0_0 p0_1 p0_2 p0_3, W4 p1_0 p1_1 p1_2 p1_3]) 29)).alloc (.cells (C4 b0_0 b0_1 b0_2 b0_3) 24)).alloc (.cells (catW [W4 q0_0 q0_1 q0_2 q0_3, W4 q1_0 q1_1 q1_2 q1_3]) 29)).alloc (.cells #[.int .u64 0, .int .u64 0, .int .u64 0, .int .u64 0, .int .u64 0, .int .u64 0, .int .u64 0, .int .u64 0] 29)) (w.heap.size + 2) 24 [W4 b0_0 b0_1 b0_2 b0_3] ∧ VarS (((((w.alloc (.cells (C4 a0_0 a0_1 a0_2 a0_3) 24)).alloc (.cells (catW [W4 p0_0 p0_1 p0_2 p0_3, W4 p1_0 p1_1 p1_2 p1_3]) 29)).alloc (.cells (C4 b0_0 b0_1 b0_2 b0_3) 24)).alloc (.cells (catW [W4 q0_0 q0_1 q0_2 q0_3, W4 q1_0 q1_1 q1_2 q1_3]) 29)).alloc (.cells #[.int .u64 0, .int .u64 0, .int .u64 0, .int .u64 0, .int .u64 0, .int .u64 0, .int .u64 0, .int .u64 0] 29)) (w.heap.size + 3) 29 [W4 q0_0 q0_1 q0_2 q0_3, W4 q1_0 q1_1 q1_2 q1_3] ∧ VarS (((((w.alloc (.cells (C4 a0_0 a0_1 a0_2 a0_3) 24)).alloc (.cells (catW [W4 p0_0 p0_1 p0_2 p0_3, W4 p1_0 p1_1 p1_2 p1_3]) 29)).alloc (.cells (C4 b0_0 b0_1 b0_2 b0_3) 24)).alloc (.cells (catW [W4 q0_0 q0_1 q0_2 q0_3, W4 q1_0 q1_1 q1_2 q1_3]) 29)).alloc (.cells #[.int .u64 0, .int .u64 0, .int .u64 0, .int .u64 0, .int .u64 0, .int .u64 0, .int .u64 0, .int .u64 0] 29)) (w.heap.size + 4) 29 [W4 0 0 0 0, W4 0 0 0 0] ∧ Below w.heap.size w (((((w.alloc (.cells (C4 a0_0 a0_1 a0_2 a0_3) 24)).alloc (.cells (catW [W4 p0_0 p0_1 p0_2 p0_3, W4 p1_0 p1_1 p1_2 p1_3]) 29)).alloc (.cells (C4 b0_0 b0_1 b0_2 b0_3) 24)).alloc (.cells (catW [W4 q0_0 q0_1 q0_2 q0_3, W4 q1_0 q1_1 q1_2 q1_3]) 29)).alloc (.cells #[.int .u64 0, .int .u64 0, .int .u64 0, .int .u64 0, .int .u64 0, .int .u64 0, .int .u64 0, .int .u64 0] 29))) := ⟨⟨words1 A0.out, heap_old _ _ _ _ (heap_old _ _ _ _ (heap_old _ _ _ _ (heap_old _ _ _ _ (heap_alloc_new _ _))))⟩, ⟨words2 P0.out P1.out, heap_old _ _ _ _ (heap_old _ _ _ _ (heap_old _ _ _ _ (heapAt _ _ _ (by simp))))⟩, ⟨words1 B0.out, heap_old _ _ _ _ (heap_old _ _ _ _ (heapAt _ _ _ (by simp)))⟩, ⟨words2 Q0.out Q1.out, heap_old _ _ _ _ (heapAt _ _ _ (by simp))⟩, ⟨words2 isw0 isw0, by rw [← zero8]; exact heapAt _ _ _ (by simp)⟩, by go_grown⟩
  refine (callsIn_wide (n := 4)).1 ?_
  refine callsIn_of_wp_marks Tryz.func47 rfl trivial ?_ rfl
  simp only [Tryz.ntmps47, List.size_toArray, List.length_cons, List.length_nil, Nat.reduceAdd, Nat.reduceSub, Array.replicate_succ, Array.replicate_zero, List.push_toArray, List.append_toArray, List.nil_append, List.cons_append]
  unfold W4
  gi_wp2
  generalize (((((w.alloc (.cells (C4 a0_0 a0_1 a0_2 a0_3) 24)).alloc (.cells (catW [W4 p0_0 p0_1 p0_2 p0_3, W4 p1_0 p1_1 p1_2 p1_3]) 29)).alloc (.cells (C4 b0_0 b0_1 b0_2 b0_3) 24)).alloc (.cells (catW [W4 q0_0 q0_1 q0_2 q0_3, W4 q1_0 q1_1 q1_2 q1_3]) 29)).alloc (.cells #[.int .u64 0, .int .u64 0, .int .u64 0, .int .u64 0, .int .u64 0, .int .u64 0, .int .u64 0, .int .u64 0] 29)) = W0 at V0 ⊢
  have g0 := V0.out.1
  have g1 := V0.out.2.1
  have g2 := V0.out.2.2.1
  have g3 := V0.out.2.2.2.1
  have hres := V0.out.2.2.2.2.1
  have hB0 := V0.out.2.2.2.2.2
  clear V0
  have hw := hB0.size
  have lt0 := g0.lt
  have lt1 := g1.lt
  have lt2 := g2.lt
  have lt3 := g3.lt
  have ltr := hres.lt
  refine wpIn_wide.2 ?_
  refine wp_region_inv (by kernel_rfl) 8 rfl (fun l a w' => ∃ (β0 β1 β2 β3 β4 β5 β6 β7 : Bool) (x1_1_0 x1_1_1 x1_1_2 x1_3_0 x1_3_1 x1_3_2 : Value) (z1_4 z1_5 : Nat), l = #[β0, β1, β2, β3, β4, β5, β6, β7] ∧ a = ⟨#[W4 a0_0 a0_1 a0_2 a0_3, .agg (catW [W4 p0_0 p0_1 p0_2 p0_3, W4 p1_0 p1_1 p1_2 p1_3]), W4 b0_0 b0_1 b0_2 b0_3, .agg (catW [W4 q0_0 q0_1 q0_2 q0_3, W4 q1_0 q1_1 q1_2 q1_3]), .pointer (some ⟨w.heap.size, 0, none⟩), .pointer (some ⟨w.heap.size + 1, 0, none⟩), .pointer (some ⟨w.heap.size + 2, 0, none⟩), .pointer (some ⟨w.heap.size + 3, 0, none⟩), .pointer (some ⟨w.heap.size + 4, 0, none⟩), bif β4 then .pointer (some ⟨z1_4, 0, none⟩) else undef, bif β5 then .pointer (some ⟨z1_5, 0, none⟩) else undef, undef, undef, undef, bif β0 then .agg (catW [W4 p0_0 p0_1 p0_2 p0_3, W4 p1_0 p1_1 p1_2 p1_3]) else undef, bif β1 then .agg (catW [x1_1_0, x1_1_1, x1_1_2]) else undef, bif β2 then .agg (catW [W4 q0_0 q0_1 q0_2 q0_3, W4 q1_0 q1_1 q1_2 q1_3]) else undef, bif β3 then .agg (catW [x1_3_0, x1_3_1, x1_3_2]) else undef, undef, undef, undef, undef, undef, undef, undef, undef, undef, undef, undef, undef, undef, undef, undef, undef, undef, undef, undef], []⟩ ∧ Below (w.heap.size) W0 w' ∧ Hid (β1 = true → IsF x1_1_0 ((p.y) - (p.x)) ∧ IsF x1_1_1 ((p.y) + (p.x)) ∧ IsF x1_1_2 ((toF DD + toF DD) * ((p.x) * (p.y)))) ∧ Hid (β3 = true → IsF x1_3_0 ((q.y) - (q.x)) ∧ IsF x1_3_1 ((q.y) + (q.x)) ∧ IsF x1_3_2 ((toF DD + toF DD) * ((q.x) * (q.y)))) ∧ Hid (β4 = true → W0.heap.size ≤ z1_4 ∧ VarS w' z1_4 84 (bif β6 then [x1_1_0, x1_1_1, x1_1_2] else [W4 0 0 0 0, W4 0 0 0 0, W4 0 0 0 0])) ∧ Hid (β5 = true → W0.heap.size ≤ z1_5 ∧ VarS w' z1_5 84 (bif β7 then [x1_3_0, x1_3_1, x1_3_2] else [W4 0 0 0 0, W4 0 0 0 0, W4 0 0 0 0])) ∧ Hid (β4 = true → β5 = true → z1_4 ≠ z1_5) ∧ Hid (β6 = true → β1 = true) ∧ Hid (β6 = true → β4 = true) ∧ Hid (β7 = true → β3 = true) ∧ Hid (β7 = true → β5 = true) ∧ VarS w' (w.heap.size) 24 [W4 a0_0 a0_1 a0_2 a0_3] ∧ VarS w' (w.heap.size + 1) 29 [W4 p0_0 p0_1 p0_2 p0_3, W4 p1_0 p1_1 p1_2 p1_3] ∧ VarS w' (w.heap.size + 2) 24 [W4 b0_0 b0_1 b0_2 b0_3] ∧ VarS w' (w.heap.size + 3) 29 [W4 q0_0 q0_1 q0_2 q0_3, W4 q1_0 q1_1 q1_2 q1_3] ∧ VarS w' (w.heap.size + 4) 29 [W4 0 0 0 0, W4 0 0 0 0]) ?h01 ?hend1 ?hstep1
  case h01 => exact ⟨false, false, false, false, false, false, false, false, undef, undef, undef, undef, undef, undef, 0, 0, rfl, rfl, Below.drew (Below.refl _ _), (fun h => by cases h), (fun h => by cases h), (fun h => by cases h), (fun h => by cases h), (fun h => by cases h), (fun h => by cases h), (fun h => by cases h), (fun h => by cases h), (fun h => by cases h), g0.drew, g1.drew, g2.drew, g3.drew, hres.drew⟩
  case hend1 =>
    intro l a w' hs hI hr0
    obtain ⟨β0, β1, β2, β3, β4, β5, β6, β7, x1_1_0, x1_1_1, x1_1_2, x1_3_0, x1_3_1, x1_3_2, z1_4, z1_5, rfl, rfl, hB, hc1_1, hc1_3, ha1_4, ha1_5, hd1_4_5, hm1_6_1, hm1_6_4, hm1_7_3, hm1_7_5, g0, g1, g2, g3, hr⟩ := hI
    have hall := ready_none (by rfl) (depsLow_spec (by kernel_rfl)) hr0
    obtain rfl : β0 = true := hall 0 (by decide)
    obtain rfl : β1 = true := hall 1 (by decide)
    obtain rfl : β2 = true := hall 2 (by decide)
    obtain rfl : β3 = true := hall 3 (by decide)
    obtain rfl : β4 = true := hall 4 (by decide)
    obtain rfl : β5 = true := hall 5 (by decide)
    obtain rfl : β6 = true := hall 6 (by decide)
    obtain rfl : β7 = true := hall 7 (by decide)
    clear hall hr0 hs
    replace hc1_1 := hc1_1.out rfl
    replace hc1_3 := hc1_3.out rfl
    replace ha1_4 := ha1_4.out rfl
    replace ha1_5 := ha1_5.out rfl
    simp only [cond_true] at ha1_4 ha1_5 hr ⊢
    have hB0 := hB0.trans (hB.mono (Nat.le_refl _))
    have G4 : Hid (VarS w' z1_4 84 [x1_1_0, x1_1_1, x1_1_2]) := ha1_4.2
    have G5 : Hid (VarS w' z1_5 84 [x1_3_0, x1_3_1, x1_3_2]) := ha1_5.2
    have gl4 := ha1_4.1
    have gl5 := ha1_5.1
    have hd45 : Hid (z1_4 ≠ z1_5) := hd1_4_5.out rfl rfl
    clear ha1_4 ha1_5
    clear hd1_4_5
    have F1 : Hid _ := hc1_1
    have F3 : Hid _ := hc1_3
    clear hc1_1 hc1_3
    generalize w' = W1 at *
    gi_wp2_with fail
    refine ⟨trivial, CallsIn.mono (callsIn_wide.2 (f_neutral _)) ?_⟩
    rintro e w2 ⟨n0, n1, rfl, hn, b2⟩
    gi_wp2_with fail
    refine ⟨trivial, CallsIn.mono (callsIn_wide.2 (f_spread hn.1 hn.2 _)) ?_⟩
    rintro e w3 ⟨s0, s1, s2, s3, rfl, hs, b3⟩
    have bb := b2.trans (b3.mono b2.size)
    clear b2 b3 hn
    have S0 : Hid (IsF s0 0 ∧ IsF s1 1 ∧ IsF s2 1 ∧ IsF s3 (0 * 1)) := hs
    clear hs
    have hst := (VarS.new76 w3).store (words4 S0.out.1 S0.out.2.1 S0.out.2.2.1 S0.out.2.2.2) rfl (by kernel_rfl)
    have hB3 := hB0.trans (bb.mono hB0.size)
    have hsep : w.heap.size + 4 < w3.heap.size := (hr.kept bb).lt
    have hs4 : z1_4 < w3.heap.size := (G4.out.kept bb).lt
    have hs5 : z1_5 < w3.heap.size := (G5.out.kept bb).lt
    have V2 : Hid (VarS ((w3.alloc (.cells #[.int .u64 0, .int .u64 0, .int .u64 0, .int .u64 0, .int .u64 0, .int .u64 0, .int .u64 0, .int .u64 0, .int .u64 0, .int .u64 0, .int .u64 0, .int .u64 0, .int .u64 0, .int .u64 0, .int .u64 0, .int .u64 0] 87)).setRow w3.heap.size (catW [s0, s1, s2, s3])) w.heap.size 24 [W4 a0_0 a0_1 a0_2 a0_3] ∧ VarS ((w3.alloc (.cells #[.int .u64 0, .int .u64 0, .int .u64 0, .int .u64 0, .int .u64 0, .int .u64 0, .int .u64 0, .int .u64 0, .int .u64 0, .int .u64 0, .int .u64 0, .int .u64 0, .int .u64 0, .int .u64 0, .int .u64 0, .int .u64 0] 87)).setRow w3.heap.size (catW [s0, s1, s2, s3])) (w.heap.size + 2) 24 [W4 b0_0 b0_1 b0_2 b0_3] ∧ VarS ((w3.alloc (.cells #[.int .u64 0, .int .u64 0, .int .u64 0, .int .u64 0, .int .u64 0, .int .u64 0, .int .u64 0, .int .u64 0, .int .u64 0, .int .u64 0, .int .u64 0, .int .u64 0, .int .u64 0, .int .u64 0, .int .u64 0, .int .u64 0] 87)).setRow w3.heap.size (catW [s0, s1, s2, s3])) (w.heap.size + 4) 29 [W4 0 0 0 0, W4 0 0 0 0] ∧ VarS ((w3.alloc (.cells #[.int .u64 0, .int .u64 0, .int .u64 0, .int .u64 0, .int .u64 0, .int .u64 0, .int .u64 0, .int .u64 0, .int .u64 0, .int .u64 0, .int .u64 0, .int .u64 0, .int .u64 0, .int .u64 0, .int .u64 0, .int .u64 0] 87)).setRow w3.heap.size (catW [s0, s1, s2, s3])) z1_4 84 [x1_1_0, x1_1_1, x1_1_2] ∧ VarS ((w3.alloc (.cells #[.int .u64 0, .int .u64 0, .int .u64 0, .int .u64 0, .int .u64 0, .int .u64 0, .int .u64 0, .int .u64 0, .int .u64 0, .int .u64 0, .int .u64 0, .int .u64 0, .int .u64 0, .int .u64 0, .int .u64 0, .int .u64 0] 87)).setRow w3.heap.size (catW [s0, s1, s2, s3])) z1_5 84 [x1_3_0, x1_3_1, x1_3_2] ∧ VarS ((w3.alloc (.cells #[.int .u64 0, .int .u64 0, .int .u64 0, .int .u64 0, .int .u64 0, .int .u64 0, .int .u64 0, .int .u64 0, .int .u64 0, .int .u64 0, .int .u64 0, .int .u64 0, .int .u64 0, .int .u64 0, .int .u64 0, .int .u64 0] 87)).setRow w3.heap.size (catW [s0, s1, s2, s3])) w3.heap.size 87 [s0, s1, s2, s3] ∧ Below w.heap.size w ((w3.alloc (.cells #[.int .u64 0, .int .u64 0, .int .u64 0, .int .u64 0, .int .u64 0, .int .u64 0, .int .u64 0, .int .u64 0, .int .u64 0, .int .u64 0, .int .u64 0, .int .u64 0, .int .u64 0, .int .u64 0, .int .u64 0, .int .u64 0] 87)).setRow w3.heap.size (catW [s0, s1, s2, s3]))) :=
      ⟨((g0.kept bb).old _).other (Nat.ne_of_lt (g0.kept bb).lt) _, ((g2.kept bb).old _).other (Nat.ne_of_lt (g2.kept bb).lt) _, ((hr.kept bb).old _).other (Nat.ne_of_lt hsep) _, ((G4.out.kept bb).old _).other (Nat.ne_of_lt hs4) _, ((G5.out.kept bb).old _).other (Nat.ne_of_lt hs5) _, (VarS.new76 w3).put (words4 S0.out.1 S0.out.2.1 S0.out.2.2.1 S0.out.2.2.2), below_setRow (hB3.alloc hB3.size _) hB3.size _⟩
    clear g0 g1 g2 g3 hr G4 G5 hB0 hB3 hB bb lt0 lt1 lt2 lt3 ltr hw hres
    gi_wp2_with (first | (refine wpListIn_store_run (by rfl) 87 _ _ rfl w3.heap.size (catW [s0, s1, s2, s3]) rfl rfl hst ?_) | (refine wpListIn_load_run (by rfl) 24 _ rfl _ rfl (V2.out.1.part 0 rfl) ?_) | (refine wpListIn_load_run (by rfl) 24 _ rfl _ rfl (V2.out.2.1.part 0 rfl) ?_))
    clear hst
    generalize ((w3.alloc (.cells #[.int .u64 0, .int .u64 0, .int .u64 0, .int .u64 0, .int .u64 0, .int .u64 0, .int .u64 0, .int .u64 0, .int .u64 0, .int .u64 0, .int .u64 0, .int .u64 0, .int .u64 0, .int .u64 0, .int .u64 0, .int .u64 0] 87)).setRow w3.heap.size (catW [s0, s1, s2, s3])) = W2 at V2 ⊢
    generalize w3.heap.size = z6 at V2 hsep hs4 hs5 ⊢
    refine ⟨trivial, CallsIn.mono (callsIn_wide.2 (g_bits A0.out B0.out _)) ?_⟩
    rintro e w4 ⟨rfl, hva, hvb, b4⟩
    gi_wp2_with fail
    have V3 : Hid (VarW w4 W2.heap.size (W4 a0_0 a0_1 a0_2 a0_3) ∧ VarW w4 (W2.heap.size + 1) (W4 b0_0 b0_1 b0_2 b0_3) ∧ VarS w4 (w.heap.size + 4) 29 [W4 0 0 0 0, W4 0 0 0 0] ∧ VarS w4 z1_4 84 [x1_1_0, x1_1_1, x1_1_2] ∧ VarS w4 z1_5 84 [x1_3_0, x1_3_1, x1_3_2] ∧ VarS w4 z6 87 [s0, s1, s2, s3] ∧ Below w.heap.size w w4) :=
      ⟨hva, hvb, V2.out.2.2.1.kept b4, V2.out.2.2.2.1.kept b4, V2.out.2.2.2.2.1.kept b4, V2.out.2.2.2.2.2.1.kept b4, V2.out.2.2.2.2.2.2.trans (b4.mono V2.out.2.2.2.2.2.2.size)⟩
    have lt6 : z6 < W2.heap.size := V2.out.2.2.2.2.2.1.lt
    have lt7 : W2.heap.size + 1 < w4.heap.size := hvb.lt
    have lt8 : w.heap.size ≤ z6 := by omega
    clear V2 hva hvb b4
    generalize W2.heap.size = X1 at V3 lt6 lt7 ⊢
    obtain ⟨va, hva⟩ : ∃ va, va = W4 a0_0 a0_1 a0_2 a0_3 := ⟨_, rfl⟩
    obtain ⟨vb, hvb⟩ : ∃ vb, vb = W4 b0_0 b0_1 b0_2 b0_3 := ⟨_, rfl⟩
    have A1 : Hid (IsW va x) := by rw [hva]; exact A0.out
    have B1 : Hid (IsW vb y) := by rw [hvb]; exact B0.out
    rw [← hva, ← hvb] at V3
    clear A0 B0 P0 P1 Q0 Q1
    refine range_with (gf := 75) (lb := #[.pointer (some ⟨X1, 0, none⟩), .pointer (some ⟨X1 + 1, 0, none⟩)]) rfl (enters_of Tryz.func75 (by kernel_rfl) rfl) ?_
    intro r W1' hst hpe htm hpar has' hbod hW1
    have hl1 : W1'.heap[w4.heap.size + 1]? = some (.loop r) := by rw [hW1]; exact heap_alloc2_new _ _ _
    have hd1 : W1'.heap[w4.heap.size]? = some (.deferred (some [])) := by rw [hW1]; exact heap_alloc2_old _ _ _
    have hbl1 : Below w4.heap.size w4 W1' := by rw [hW1]; exact ((Below.refl _ _).alloc (Nat.le_refl _) _).alloc (by simp) _
    clear hW1
    have J0 : BothJ w r w4.heap.size X1 (w.heap.size + 4) z1_4 z1_5 z6 va vb [x1_1_0, x1_1_1, x1_1_2] [x1_3_0, x1_3_1, x1_3_2] Pt.zero W1' :=
      ⟨⟨hsep, hs4, hs5, lt6, lt7, lt8⟩, hl1, hd1, V3.out.1.kept hbl1, V3.out.2.1.kept hbl1, V3.out.2.2.1.kept hbl1, V3.out.2.2.2.1.kept hbl1, V3.out.2.2.2.2.1.kept hbl1, V3.out.2.2.2.2.2.2.trans (hbl1.mono V3.out.2.2.2.2.2.2.size), s0, s1, s2, s3, 0, 1, 1, 0 * 1, V3.out.2.2.2.2.2.1.kept hbl1, S0.out, repP_spread Pt.zero⟩
    clear hl1 hd1 hbl1 V3 S0
    have hx0 : 0 ≤ x := isW_nn A1.out
    have hy0 : 0 ≤ y := isW_nn B1.out
    refine (bits1_in 2 (w4.heap.size + 1) X1 (X1 + 1) A1.out B1.out (fun k => BothJ w r w4.heap.size X1 (w.heap.size + 4) z1_4 z1_5 z6 va vb [x1_1_0, x1_1_1, x1_1_2] [x1_3_0, x1_3_1, x1_3_2] ((Pt.mul (x.toNat / 2 ^ k) p).add (Pt.mul (y.toNat / 2 ^ k) q))) W1' (fun k W h => ⟨h.v1, h.v2⟩) (fun k W W' h hb => h.kept hb) ?h0 ?hs ?hY).mono ?_
    case h0 =>
      intro n hn hxn hyn
      show BothJ _ _ _ _ _ _ _ _ _ _ _ _ _ _
      rw [mul_small hx0 hxn, mul_small hy0 hyn, add_zero]
      exact J0
    case hs =>
      show BothJ _ _ _ _ _ _ _ _ _ _ _ _ _ _
      rw [mul_small hx0 (isW_lt A1.out), mul_small hy0 (isW_lt B1.out), add_zero]
      exact J0
    case hY =>
      intro k W hk hj
      clear J0
      refine round_with hj.lp hst hpe (by rw [hpar]; rfl) ?_
      intro rb hrb
      rw [hpar, has', hbod, htm]
      clear hpar has' hbod htm hst hpe hrb
      have hbx := bit_next hx0 k
      have hby := bit_next hy0 k
      generalize decide (x / 2 ^ k % 2 = 1) = b1 at hbx ⊢
      generalize decide (y / 2 ^ k % 2 = 1) = b2 at hby ⊢
      generalize x.toNat / 2 ^ k = nx0 at hbx ⊢
      generalize y.toNat / 2 ^ k = ny0 at hby ⊢
      have hbx' : Hid _ := hbx
      have hby' : Hid _ := hby
      clear hbx hby
      have hj' : Hid (BothJ w r w4.heap.size X1 (w.heap.size + 4) z1_4 z1_5 z6 va vb [x1_1_0, x1_1_1, x1_1_2] [x1_3_0, x1_3_1, x1_3_2] ((Pt.mul (x.toNat / 2 ^ (k + 1)) p).add (Pt.mul (y.toNat / 2 ^ (k + 1)) q)) W) := hj
      clear hj
      generalize x.toNat / 2 ^ (k + 1) = nx1 at hbx' hj'
      generalize y.toNat / 2 ^ (k + 1) = ny1 at hby' hj'
      simp only [List.zip_toArray, List.zip_cons_cons, List.zip_nil_right, List.foldl_toArray, List.foldl_cons, List.foldl_nil, List.setIfInBounds_toArray, List.set_cons_zero, List.set_cons_succ]
      gi_wp2
      refine ⟨hj'.out.lp, ?_⟩
      have J1 : Hid (BothJ w rb w4.heap.size X1 (w.heap.size + 4) z1_4 z1_5 z6 va vb [x1_1_0, x1_1_1, x1_1_2] [x1_3_0, x1_3_1, x1_3_2] ((Pt.mul nx1 p).add (Pt.mul ny1 q)) (W.putObj (w4.heap.size + 1) (.loop rb))) := hj'.out.loop rb
      clear hj'
      generalize W.putObj (w4.heap.size + 1) (.loop rb) = V at J1 ⊢
      have hgoal := both_round nx1 ny1 b1 b2 p q
      rw [← hbx'.out, ← hby'.out] at hgoal
      rw [← hgoal]
      clear hgoal hbx' hby'
      generalize (Pt.mul nx1 p).add (Pt.mul ny1 q) = S at J1 ⊢
      cases b1
      · cases b2
        · obtain ⟨t0, t1, t2, t3, ka, kb, kc, kd, hT, hF, hR⟩ := J1.out.pt
          have hT0 : Hid (VarS V z6 87 [t0, t1, t2, t3]) := hT
          have hF0 : Hid (IsF t0 ka ∧ IsF t1 kb ∧ IsF t2 kc ∧ IsF t3 kd) := hF
          have hR0 : Hid (RepP ka kb kc kd S) := hR
          clear hT hF hR
          gi_wp2_with (first | (refine wpListIn_load_run (by rfl) 87 _ rfl _ rfl (load76 hT0.out) ?_))
          refine ⟨trivial, CallsIn.mono (CallsIn.inRound _ (callsIn_wide.2 (f_twice hF0.out.1 hF0.out.2.1 hF0.out.2.2.1 hF0.out.2.2.2 _))) ?_⟩
          rintro e VX0 ⟨u00, u01, u02, u03, rfl, hu, bx⟩
          obtain ⟨ea0, eb0, ec0, ed0, hu, hr⟩ : ∃ a b c d, (IsF u00 a ∧ IsF u01 b ∧ IsF u02 c ∧ IsF u03 d) ∧ RepP a b c d (S.add S) := ⟨_, _, _, _, hu, repP_twice hR0.out⟩
          have hst := (J1.out.kept bx).store hu
          have hR1 : Hid (RepP ea0 eb0 ec0 ed0 (S.add S)) := hr
          clear hr
          have J2 : Hid (BothJ w rb w4.heap.size X1 (w.heap.size + 4) z1_4 z1_5 z6 va vb [x1_1_0, x1_1_1, x1_1_2] [x1_3_0, x1_3_1, x1_3_2] (S.add S) (VX0.setRow z6 (catW [u00, u01, u02, u03]))) := (J1.out.kept bx).put hu hR1.out
          have hT1 : Hid (VarS (VX0.setRow z6 (catW [u00, u01, u02, u03])) z6 87 [u00, u01, u02, u03]) := (J1.out.kept bx).putS hu
          have hF1 : Hid _ := hu
          clear J1 bx hu hT0 hF0 hR0
          obtain ⟨Vn1, hV⟩ : ∃ Vn1, Vn1 = VX0.setRow z6 (catW [u00, u01, u02, u03]) := ⟨_, rfl⟩
          have HV0 : Hid (Vn1 = VX0.setRow z6 (catW [u00, u01, u02, u03])) := hV
          rw [← hV] at J2 hT1
          clear hV
          gi_wp2_with (first | (refine wpListIn_store_run (by rfl) 87 _ _ rfl z6 (catW [u00, u01, u02, u03]) rfl rfl hst ?_; rw [← HV0.out]))
          clear hst
          exact ⟨J2.out.lp, J2.out.loop r⟩
        · obtain ⟨t0, t1, t2, t3, ka, kb, kc, kd, hT, hF, hR⟩ := J1.out.pt
          have hT0 : Hid (VarS V z6 87 [t0, t1, t2, t3]) := hT
          have hF0 : Hid (IsF t0 ka ∧ IsF t1 kb ∧ IsF t2 kc ∧ IsF t3 kd) := hF
          have hR0 : Hid (RepP ka kb kc kd S) := hR
          clear hT hF hR
          gi_wp2_with (first | (refine wpListIn_load_run (by rfl) 87 _ rfl _ rfl (load76 hT0.out) ?_))
          refine ⟨trivial, CallsIn.mono (CallsIn.inRound _ (callsIn_wide.2 (f_twice hF0.out.1 hF0.out.2.1 hF0.out.2.2.1 hF0.out.2.2.2 _))) ?_⟩
          rintro e VX0 ⟨u00, u01, u02, u03, rfl, hu, bx⟩
          obtain ⟨ea0, eb0, ec0, ed0, hu, hr⟩ : ∃ a b c d, (IsF u00 a ∧ IsF u01 b ∧ IsF u02 c ∧ IsF u03 d) ∧ RepP a b c d (S.add S) := ⟨_, _, _, _, hu, repP_twice hR0.out⟩
          have hst := (J1.out.kept bx).store hu
          have hR1 : Hid (RepP ea0 eb0 ec0 ed0 (S.add S)) := hr
          clear hr
          have J2 : Hid (BothJ w rb w4.heap.size X1 (w.heap.size + 4) z1_4 z1_5 z6 va vb [x1_1_0, x1_1_1, x1_1_2] [x1_3_0, x1_3_1, x1_3_2] (S.add S) (VX0.setRow z6 (catW [u00, u01, u02, u03]))) := (J1.out.kept bx).put hu hR1.out
          have hT1 : Hid (VarS (VX0.setRow z6 (catW [u00, u01, u02, u03])) z6 87 [u00, u01, u02, u03]) := (J1.out.kept bx).putS hu
          have hF1 : Hid _ := hu
          clear J1 bx hu hT0 hF0 hR0
          obtain ⟨Vn1, hV⟩ : ∃ Vn1, Vn1 = VX0.setRow z6 (catW [u00, u01, u02, u03]) := ⟨_, rfl⟩
          have HV0 : Hid (Vn1 = VX0.setRow z6 (catW [u00, u01, u02, u03])) := hV
          rw [← hV] at J2 hT1
          clear hV
          gi_wp2_with (first | (refine wpListIn_store_run (by rfl) 87 _ _ rfl z6 (catW [u00, u01, u02, u03]) rfl rfl hst ?_; rw [← HV0.out]) | (refine wpListIn_load_run (by rfl) 87 _ rfl _ rfl (load76 hT1.out) ?_) | (refine wpListIn_load_run (by rfl) 84 _ rfl _ rfl (load80 J2.out.vb) ?_))
          clear hst
          refine ⟨trivial, CallsIn.mono (CallsIn.inRound _ (callsIn_wide.2 (f_plus hF1.out.1 hF1.out.2.1 hF1.out.2.2.1 hF1.out.2.2.2 F3.out.1 F3.out.2.1 F3.out.2.2 _))) ?_⟩
          rintro e VX1 ⟨u10, u11, u12, u13, rfl, hu, bx⟩
          obtain ⟨ea1, eb1, ec1, ed1, hu, hr⟩ : ∃ a b c d, (IsF u10 a ∧ IsF u11 b ∧ IsF u12 c ∧ IsF u13 d) ∧ RepP a b c d ((S.add S).add q) := ⟨_, _, _, _, hu, repP_plus (p := q) hR1.out⟩
          have hst := (J2.out.kept bx).store hu
          have hR2 : Hid (RepP ea1 eb1 ec1 ed1 ((S.add S).add q)) := hr
          clear hr
          have J3 : Hid (BothJ w rb w4.heap.size X1 (w.heap.size + 4) z1_4 z1_5 z6 va vb [x1_1_0, x1_1_1, x1_1_2] [x1_3_0, x1_3_1, x1_3_2] ((S.add S).add q) (VX1.setRow z6 (catW [u10, u11, u12, u13]))) := (J2.out.kept bx).put hu hR2.out
          have hT2 : Hid (VarS (VX1.setRow z6 (catW [u10, u11, u12, u13])) z6 87 [u10, u11, u12, u13]) := (J2.out.kept bx).putS hu
          have hF2 : Hid _ := hu
          clear J2 bx hu hT1 hF1 hR1
          obtain ⟨Vn2, hV⟩ : ∃ Vn2, Vn2 = VX1.setRow z6 (catW [u10, u11, u12, u13]) := ⟨_, rfl⟩
          have HV1 : Hid (Vn2 = VX1.setRow z6 (catW [u10, u11, u12, u13])) := hV
          rw [← hV] at J3 hT2
          clear hV
          gi_wp2_with (first | (refine wpListIn_store_run (by rfl) 87 _ _ rfl z6 (catW [u10, u11, u12, u13]) rfl rfl hst ?_; rw [← HV1.out]))
          clear hst
          exact ⟨J3.out.lp, J3.out.loop r⟩
      · cases b2
        · obtain ⟨t0, t1, t2, t3, ka, kb, kc, kd, hT, hF, hR⟩ := J1.out.pt
          have hT0 : Hid (VarS V z6 87 [t0, t1, t2, t3]) := hT
          have hF0 : Hid (IsF t0 ka ∧ IsF t1 kb ∧ IsF t2 kc ∧ IsF t3 kd) := hF
          have hR0 : Hid (RepP ka kb kc kd S) := hR
          clear hT hF hR
          gi_wp2_with (first | (refine wpListIn_load_run (by rfl) 87 _ rfl _ rfl (load76 hT0.out) ?_))
          refine ⟨trivial, CallsIn.mono (CallsIn.inRound _ (callsIn_wide.2 (f_twice hF0.out.1 hF0.out.2.1 hF0.out.2.2.1 hF0.out.2.2.2 _))) ?_⟩
          rintro e VX0 ⟨u00, u01, u02, u03, rfl, hu, bx⟩
          obtain ⟨ea0, eb0, ec0, ed0, hu, hr⟩ : ∃ a b c d, (IsF u00 a ∧ IsF u01 b ∧ IsF u02 c ∧ IsF u03 d) ∧ RepP a b c d (S.add S) := ⟨_, _, _, _, hu, repP_twice hR0.out⟩
          have hst := (J1.out.kept bx).store hu
          have hR1 : Hid (RepP ea0 eb0 ec0 ed0 (S.add S)) := hr
          clear hr
          have J2 : Hid (BothJ w rb w4.heap.size X1 (w.heap.size + 4) z1_4 z1_5 z6 va vb [x1_1_0, x1_1_1, x1_1_2] [x1_3_0, x1_3_1, x1_3_2] (S.add S) (VX0.setRow z6 (catW [u00, u01, u02, u03]))) := (J1.out.kept bx).put hu hR1.out
          have hT1 : Hid (VarS (VX0.setRow z6 (catW [u00, u01, u02, u03])) z6 87 [u00, u01, u02, u03]) := (J1.out.kept bx).putS hu
          have hF1 : Hid _ := hu
          clear J1 bx hu hT0 hF0 hR0
          obtain ⟨Vn1, hV⟩ : ∃ Vn1, Vn1 = VX0.setRow z6 (catW [u00, u01, u02, u03]) := ⟨_, rfl⟩
          have HV0 : Hid (Vn1 = VX0.setRow z6 (catW [u00, u01, u02, u03])) := hV
          rw [← hV] at J2 hT1
          clear hV
          gi_wp2_with (first | (refine wpListIn_store_run (by rfl) 87 _ _ rfl z6 (catW [u00, u01, u02, u03]) rfl rfl hst ?_; rw [← HV0.out]) | (refine wpListIn_load_run (by rfl) 87 _ rfl _ rfl (load76 hT1.out) ?_) | (refine wpListIn_load_run (by rfl) 84 _ rfl _ rfl (load80 J2.out.va) ?_))
          clear hst
          refine ⟨trivial, CallsIn.mono (CallsIn.inRound _ (callsIn_wide.2 (f_plus hF1.out.1 hF1.out.2.1 hF1.out.2.2.1 hF1.out.2.2.2 F1.out.1 F1.out.2.1 F1.out.2.2 _))) ?_⟩
          rintro e VX1 ⟨u10, u11, u12, u13, rfl, hu, bx⟩
          obtain ⟨ea1, eb1, ec1, ed1, hu, hr⟩ : ∃ a b c d, (IsF u10 a ∧ IsF u11 b ∧ IsF u12 c ∧ IsF u13 d) ∧ RepP a b c d ((S.add S).add p) := ⟨_, _, _, _, hu, repP_plus (p := p) hR1.out⟩
          have hst := (J2.out.kept bx).store hu
          have hR2 : Hid (RepP ea1 eb1 ec1 ed1 ((S.add S).add p)) := hr
          clear hr
          have J3 : Hid (BothJ w rb w4.heap.size X1 (w.heap.size + 4) z1_4 z1_5 z6 va vb [x1_1_0, x1_1_1, x1_1_2] [x1_3_0, x1_3_1, x1_3_2] ((S.add S).add p) (VX1.setRow z6 (catW [u10, u11, u12, u13]))) := (J2.out.kept bx).put hu hR2.out
          have hT2 : Hid (VarS (VX1.setRow z6 (catW [u10, u11, u12, u13])) z6 87 [u10, u11, u12, u13]) := (J2.out.kept bx).putS hu
          have hF2 : Hid _ := hu
          clear J2 bx hu hT1 hF1 hR1
          obtain ⟨Vn2, hV⟩ : ∃ Vn2, Vn2 = VX1.setRow z6 (catW [u10, u11, u12, u13]) := ⟨_, rfl⟩
          have HV1 : Hid (Vn2 = VX1.setRow z6 (catW [u10, u11, u12, u13])) := hV
          rw [← hV] at J3 hT2
          clear hV
          gi_wp2_with (first | (refine wpListIn_store_run (by rfl) 87 _ _ rfl z6 (catW [u10, u11, u12, u13]) rfl rfl hst ?_; rw [← HV1.out]))
          clear hst
          exact ⟨J3.out.lp, J3.out.loop r⟩
        · obtain ⟨t0, t1, t2, t3, ka, kb, kc, kd, hT, hF, hR⟩ := J1.out.pt
          have hT0 : Hid (VarS V z6 87 [t0, t1, t2, t3]) := hT
          have hF0 : Hid (IsF t0 ka ∧ IsF t1 kb ∧ IsF t2 kc ∧ IsF t3 kd) := hF
          have hR0 : Hid (RepP ka kb kc kd S) := hR
          clear hT hF hR
          gi_wp2_with (first | (refine wpListIn_load_run (by rfl) 87 _ rfl _ rfl (load76 hT0.out) ?_))
          refine ⟨trivial, CallsIn.mono (CallsIn.inRound _ (callsIn_wide.2 (f_twice hF0.out.1 hF0.out.2.1 hF0.out.2.2.1 hF0.out.2.2.2 _))) ?_⟩
          rintro e VX0 ⟨u00, u01, u02, u03, rfl, hu, bx⟩
          obtain ⟨ea0, eb0, ec0, ed0, hu, hr⟩ : ∃ a b c d, (IsF u00 a ∧ IsF u01 b ∧ IsF u02 c ∧ IsF u03 d) ∧ RepP a b c d (S.add S) := ⟨_, _, _, _, hu, repP_twice hR0.out⟩
          have hst := (J1.out.kept bx).store hu
          have hR1 : Hid (RepP ea0 eb0 ec0 ed0 (S.add S)) := hr
          clear hr
          have J2 : Hid (BothJ w rb w4.heap.size X1 (w.heap.size + 4) z1_4 z1_5 z6 va vb [x1_1_0, x1_1_1, x1_1_2] [x1_3_0, x1_3_1, x1_3_2] (S.add S) (VX0.setRow z6 (catW [u00, u01, u02, u03]))) := (J1.out.kept bx).put hu hR1.out
          have hT1 : Hid (VarS (VX0.setRow z6 (catW [u00, u01, u02, u03])) z6 87 [u00, u01, u02, u03]) := (J1.out.kept bx).putS hu
          have hF1 : Hid _ := hu
          clear J1 bx hu hT0 hF0 hR0
          obtain ⟨Vn1, hV⟩ : ∃ Vn1, Vn1 = VX0.setRow z6 (catW [u00, u01, u02, u03]) := ⟨_, rfl⟩
          have HV0 : Hid (Vn1 = VX0.setRow z6 (catW [u00, u01, u02, u03])) := hV
          rw [← hV] at J2 hT1
          clear hV
          gi_wp2_with (first | (refine wpListIn_store_run (by rfl) 87 _ _ rfl z6 (catW [u00, u01, u02, u03]) rfl rfl hst ?_; rw [← HV0.out]) | (refine wpListIn_load_run (by rfl) 87 _ rfl _ rfl (load76 hT1.out) ?_) | (refine wpListIn_load_run (by rfl) 84 _ rfl _ rfl (load80 J2.out.va) ?_))
          clear hst
          refine ⟨trivial, CallsIn.mono (CallsIn.inRound _ (callsIn_wide.2 (f_plus hF1.out.1 hF1.out.2.1 hF1.out.2.2.1 hF1.out.2.2.2 F1.out.1 F1.out.2.1 F1.out.2.2 _))) ?_⟩
          rintro e VX1 ⟨u10, u11, u12, u13, rfl, hu, bx⟩
          obtain ⟨ea1, eb1, ec1, ed1, hu, hr⟩ : ∃ a b c d, (IsF u10 a ∧ IsF u11 b ∧ IsF u12 c ∧ IsF u13 d) ∧ RepP a b c d ((S.add S).add p) := ⟨_, _, _, _, hu, repP_plus (p := p) hR1.out⟩
          have hst := (J2.out.kept bx).store hu
          have hR2 : Hid (RepP ea1 eb1 ec1 ed1 ((S.add S).add p)) := hr
          clear hr
          have J3 : Hid (BothJ w rb w4.heap.size X1 (w.heap.size + 4) z1_4 z1_5 z6 va vb [x1_1_0, x1_1_1, x1_1_2] [x1_3_0, x1_3_1, x1_3_2] ((S.add S).add p) (VX1.setRow z6 (catW [u10, u11, u12, u13]))) := (J2.out.kept bx).put hu hR2.out
          have hT2 : Hid (VarS (VX1.setRow z6 (catW [u10, u11, u12, u13])) z6 87 [u10, u11, u12, u13]) := (J2.out.kept bx).putS hu
          have hF2 : Hid _ := hu
          clear J2 bx hu hT1 hF1 hR1
          obtain ⟨Vn2, hV⟩ : ∃ Vn2, Vn2 = VX1.setRow z6 (catW [u10, u11, u12, u13]) := ⟨_, rfl⟩
          have HV1 : Hid (Vn2 = VX1.setRow z6 (catW [u10, u11, u12, u13])) := hV
          rw [← hV] at J3 hT2
          clear hV
          gi_wp2_with (first | (refine wpListIn_store_run (by rfl) 87 _ _ rfl z6 (catW [u10, u11, u12, u13]) rfl rfl hst ?_; rw [← HV1.out]) | (refine wpListIn_load_run (by rfl) 87 _ rfl _ rfl (load76 hT2.out) ?_) | (refine wpListIn_load_run (by rfl) 84 _ rfl _ rfl (load80 J3.out.vb) ?_))
          clear hst
          refine ⟨trivial, CallsIn.mono (CallsIn.inRound _ (callsIn_wide.2 (f_plus hF2.out.1 hF2.out.2.1 hF2.out.2.2.1 hF2.out.2.2.2 F3.out.1 F3.out.2.1 F3.out.2.2 _))) ?_⟩
          rintro e VX2 ⟨u20, u21, u22, u23, rfl, hu, bx⟩
          obtain ⟨ea2, eb2, ec2, ed2, hu, hr⟩ : ∃ a b c d, (IsF u20 a ∧ IsF u21 b ∧ IsF u22 c ∧ IsF u23 d) ∧ RepP a b c d (((S.add S).add p).add q) := ⟨_, _, _, _, hu, repP_plus (p := q) hR2.out⟩
          have hst := (J3.out.kept bx).store hu
          have hR3 : Hid (RepP ea2 eb2 ec2 ed2 (((S.add S).add p).add q)) := hr
          clear hr
          have J4 : Hid (BothJ w rb w4.heap.size X1 (w.heap.size + 4) z1_4 z1_5 z6 va vb [x1_1_0, x1_1_1, x1_1_2] [x1_3_0, x1_3_1, x1_3_2] (((S.add S).add p).add q) (VX2.setRow z6 (catW [u20, u21, u22, u23]))) := (J3.out.kept bx).put hu hR3.out
          have hT3 : Hid (VarS (VX2.setRow z6 (catW [u20, u21, u22, u23])) z6 87 [u20, u21, u22, u23]) := (J3.out.kept bx).putS hu
          have hF3 : Hid _ := hu
          clear J3 bx hu hT2 hF2 hR2
          obtain ⟨Vn3, hV⟩ : ∃ Vn3, Vn3 = VX2.setRow z6 (catW [u20, u21, u22, u23]) := ⟨_, rfl⟩
          have HV2 : Hid (Vn3 = VX2.setRow z6 (catW [u20, u21, u22, u23])) := hV
          rw [← hV] at J4 hT3
          clear hV
          gi_wp2_with (first | (refine wpListIn_store_run (by rfl) 87 _ _ rfl z6 (catW [u20, u21, u22, u23]) rfl rfl hst ?_; rw [← HV2.out]))
          clear hst
          exact ⟨J4.out.lp, J4.out.loop r⟩
    rintro e W' ⟨hv, hj⟩
    refine ⟨hv, hj.lp, ?_⟩
    simp only [Nat.pow_zero, Nat.div_one] at hj
    obtain ⟨re, hre⟩ : ∃ re : Loop, { r with state := .exhausted } = re := ⟨_, rfl⟩
    rw [hre]
    have J1 := hj.loop re
    clear hj J0 hst hpe htm hpar has' hbod hre
    generalize W'.putObj (w4.heap.size + 1) (.loop re) = V at J1 ⊢
    obtain ⟨t0, t1, t2, t3, ka, kb, kc, kd, hT, hF, hR⟩ := J1.pt
    have hT' : Hid (VarS V z6 87 [t0, t1, t2, t3]) := hT
    have hR' : Hid _ := hR
    have J1' : Hid _ := J1
    have hF' : Hid (IsF t0 ka ∧ IsF t1 kb ∧ IsF t2 kc ∧ IsF t3 kd) := hF
    clear hT hF hR J1
    gi_wp2_with (first | (refine wpListIn_load_run (by rfl) 87 _ rfl _ rfl (load76 hT'.out) ?_))
    refine ⟨trivial, CallsIn.mono (callsIn_wide.2 (f_flat hF'.out.1 hF'.out.2.1 hF'.out.2.2.1 hF'.out.2.2.2 _)) ?_⟩
    rintro e V1 ⟨v0, v1, rfl, hv01, bx⟩
    rw [(repP_flat hR'.out).1, (repP_flat hR'.out).2] at hv01
    have J2 := J1'.out.kept bx
    clear J1' bx hT' hF' hR'
    have hrs := J2.res.store (words2 hv01.1 hv01.2) rfl (by kernel_rfl)
    have hrp := J2.res.put (words2 hv01.1 hv01.2)
    have hbel := below_setRow J2.bel (Nat.le_add_right w.heap.size 4) (catW [v0, v1])
    have hdf : (V1.setRow (w.heap.size + 4) (catW [v0, v1])).heap[w4.heap.size]? = some (.deferred (some [])) := (setRow_other _ _ _ _ (by omega)).trans J2.df
    clear J2
    gi_wp2_with (first | (refine wpListIn_store_run (by rfl) 29 _ _ rfl (w.heap.size + 4) (catW [v0, v1]) rfl rfl hrs ?_))
    clear hrs
    generalize V1.setRow (w.heap.size + 4) (catW [v0, v1]) = V2 at hrp hbel hdf ⊢
    have hne48 : w.heap.size + 4 ≠ w4.heap.size := by omega
    have hl : ∀ o, (loadVar 29 ⟨w.heap.size + 4, 0, none⟩).run Tryz.prog (V2.putObj w4.heap.size o) = .ok (.agg (catW [v0, v1])) (V2.putObj w4.heap.size o) := fun o => load28 (hrp.obj hne48 o)
    refine ⟨by simp [Act.put], .inl ⟨_, _, rfl, run_takeDeferred hdf, ?_⟩⟩
    refine ⟨.agg (catW [v0, v1]), ?_, v0, v1, rfl, hv01, ?_⟩
    · simp [results, Tryz.results47, asAddr, Act.put, hl]
    · exact below_putObj hbel (by omega) _
  case hstep1 =>
    intro i l a w' hs hI hi
    obtain ⟨β0, β1, β2, β3, β4, β5, β6, β7, x1_1_0, x1_1_1, x1_1_2, x1_3_0, x1_3_1, x1_3_2, z1_4, z1_5, rfl, rfl, hB, hc1_1, hc1_3, ha1_4, ha1_5, hd1_4_5, hm1_6_1, hm1_6_4, hm1_7_3, hm1_7_5, g0, g1, g2, g3, hr⟩ := hI
    obtain ⟨hlt, hun, _⟩ := ready_mem hi
    have hlt' : i < 8 := hlt
    clear hlt hs
    have hcs : i = 0 ∨ i = 1 ∨ i = 2 ∨ i = 3 ∨ i = 4 ∨ i = 5 ∨ i = 6 ∨ i = 7 := by omega
    clear hlt'
    rcases hcs with rfl | rfl | rfl | rfl | rfl | rfl | rfl | rfl
    · obtain rfl : β0 = false := hun
      clear hi
      try simp only [cond_true, cond_false]
      refine ws (fun Kx hK => ?_)
      refine step_yield (v := .agg (catW [W4 p0_0 p0_1 p0_2 p0_3, W4 p1_0 p1_1 p1_2 p1_3])) (by rfl) ?_ ?_
      · exact run_load_exec 29 _ rfl _ rfl (load28 g1)
      · exact hK.out _ _ ⟨true, β1, β2, β3, β4, β5, β6, β7, x1_1_0, x1_1_1, x1_1_2, x1_3_0, x1_3_1, x1_3_2, z1_4, z1_5, rfl, rfl, hB, hc1_1, hc1_3, ha1_4, ha1_5, hd1_4_5, hm1_6_1, hm1_6_4, hm1_7_3, hm1_7_5, g0, g1, g2, g3, hr⟩
    · obtain rfl : β1 = false := hun
      obtain rfl : β0 = true := ready_dep (k := 0) hi rfl rfl rfl
      obtain rfl : β6 = false := Bool.eq_false_iff.2 (fun h => by have := hm1_6_1.out h; cases this)
      clear hi
      try simp only [cond_true, cond_false]
      refine ws (fun Kx hK => ?_)
      go_simp
      refine Calls.mono (f_addendOf P0.out P1.out _) ?_
      rintro e w2 ⟨v0, v1, v2, rfl, hv, hb2⟩
      go_wp2_with fail
      exact hK.out _ _ ⟨true, true, β2, β3, β4, β5, false, β7, v0, v1, v2, x1_3_0, x1_3_1, x1_3_2, z1_4, z1_5, rfl, rfl, (hB.trans (hb2.mono (Nat.le_trans hw hB.size))), (fun _ => hv), hc1_3, (fun h => ⟨(ha1_4.out h).1, (ha1_4.out h).2.kept hb2⟩), (fun h => ⟨(ha1_5.out h).1, (ha1_5.out h).2.kept hb2⟩), hd1_4_5, (fun _ => rfl), hm1_6_4, hm1_7_3, hm1_7_5, (g0.kept hb2), (g1.kept hb2), (g2.kept hb2), (g3.kept hb2), (hr.kept hb2)⟩
    · obtain rfl : β2 = false := hun
      clear hi
      try simp only [cond_true, cond_false]
      refine ws (fun Kx hK => ?_)
      refine step_yield (v := .agg (catW [W4 q0_0 q0_1 q0_2 q0_3, W4 q1_0 q1_1 q1_2 q1_3])) (by rfl) ?_ ?_
      · exact run_load_exec 29 _ rfl _ rfl (load28 g3)
      · exact hK.out _ _ ⟨β0, β1, true, β3, β4, β5, β6, β7, x1_1_0, x1_1_1, x1_1_2, x1_3_0, x1_3_1, x1_3_2, z1_4, z1_5, rfl, rfl, hB, hc1_1, hc1_3, ha1_4, ha1_5, hd1_4_5, hm1_6_1, hm1_6_4, hm1_7_3, hm1_7_5, g0, g1, g2, g3, hr⟩
    · obtain rfl : β3 = false := hun
      obtain rfl : β2 = true := ready_dep (k := 0) hi rfl rfl rfl
      obtain rfl : β7 = false := Bool.eq_false_iff.2 (fun h => by have := hm1_7_3.out h; cases this)
      clear hi
      try simp only [cond_true, cond_false]
      refine ws (fun Kx hK => ?_)
      go_simp
      refine Calls.mono (f_addendOf Q0.out Q1.out _) ?_
      rintro e w2 ⟨v0, v1, v2, rfl, hv, hb2⟩
      go_wp2_with fail
      exact hK.out _ _ ⟨β0, β1, true, true, β4, β5, β6, false, x1_1_0, x1_1_1, x1_1_2, v0, v1, v2, z1_4, z1_5, rfl, rfl, (hB.trans (hb2.mono (Nat.le_trans hw hB.size))), hc1_1, (fun _ => hv), (fun h => ⟨(ha1_4.out h).1, (ha1_4.out h).2.kept hb2⟩), (fun h => ⟨(ha1_5.out h).1, (ha1_5.out h).2.kept hb2⟩), hd1_4_5, hm1_6_1, hm1_6_4, (fun _ => rfl), hm1_7_5, (g0.kept hb2), (g1.kept hb2), (g2.kept hb2), (g3.kept hb2), (hr.kept hb2)⟩
    · obtain rfl : β4 = false := hun
      obtain rfl : β6 = false := Bool.eq_false_iff.2 (fun h => by have := hm1_6_4.out h; cases this)
      clear hi
      try simp only [cond_true, cond_false]
      refine ws (fun Kx hK => ?_)
      go_simp
      exact hK.out _ _ ⟨β0, β1, β2, β3, true, β5, false, β7, x1_1_0, x1_1_1, x1_1_2, x1_3_0, x1_3_1, x1_3_2, w'.heap.size, z1_5, rfl, rfl, (hB.alloc (Nat.le_trans hw hB.size) _), hc1_1, hc1_3, (fun _ => ⟨hB.size, VarS.new80 _⟩), (fun h => ⟨(ha1_5.out h).1, (ha1_5.out h).2.old _⟩), (fun _ h => Nat.ne_of_gt (ha1_5.out h).2.lt), hm1_6_1, (fun _ => rfl), hm1_7_3, hm1_7_5, (g0.old _), (g1.old _), (g2.old _), (g3.old _), (hr.old _)⟩
    · obtain rfl : β5 = false := hun
      obtain rfl : β7 = false := Bool.eq_false_iff.2 (fun h => by have := hm1_7_5.out h; cases this)
      clear hi
      try simp only [cond_true, cond_false]
      refine ws (fun Kx hK => ?_)
      go_simp
      exact hK.out _ _ ⟨β0, β1, β2, β3, β4, true, β6, false, x1_1_0, x1_1_1, x1_1_2, x1_3_0, x1_3_1, x1_3_2, z1_4, w'.heap.size, rfl, rfl, (hB.alloc (Nat.le_trans hw hB.size) _), hc1_1, hc1_3, (fun h => ⟨(ha1_4.out h).1, (ha1_4.out h).2.old _⟩), (fun _ => ⟨hB.size, VarS.new80 _⟩), (fun h _ => Nat.ne_of_lt (ha1_4.out h).2.lt), hm1_6_1, hm1_6_4, hm1_7_3, (fun _ => rfl), (g0.old _), (g1.old _), (g2.old _), (g3.old _), (hr.old _)⟩
    · obtain rfl : β6 = false := hun
      obtain rfl : β1 = true := ready_dep (k := 1) hi rfl rfl rfl
      obtain rfl : β4 = true := ready_dep (k := 0) hi rfl rfl rfl
      clear hi
      try simp only [cond_true, cond_false]
      refine ws (fun Kx hK => ?_)
      refine step_store_S (us := [x1_1_0, x1_1_1, x1_1_2]) (vs := [W4 0 0 0 0, W4 0 0 0 0, W4 0 0 0 0]) (by rfl) 84 _ _ rfl z1_4 rfl rfl (words3 (hc1_1.out rfl).1 (hc1_1.out rfl).2.1 (hc1_1.out rfl).2.2) rfl (by kernel_rfl) (ha1_4.out rfl).2 ?_
      exact hK.out _ _ ⟨β0, true, β2, β3, true, β5, true, β7, x1_1_0, x1_1_1, x1_1_2, x1_3_0, x1_3_1, x1_3_2, z1_4, z1_5, rfl, rfl, (below_setRow hB (Nat.le_trans hw (ha1_4.out rfl).1) _), hc1_1, hc1_3, (fun _ => ⟨(ha1_4.out rfl).1, ((ha1_4.out rfl).2.put (words3 (hc1_1.out rfl).1 (hc1_1.out rfl).2.1 (hc1_1.out rfl).2.2))⟩), (fun h => ⟨(ha1_5.out h).1, (ha1_5.out h).2.other (Ne.symm (hd1_4_5.out rfl h)) _⟩), hd1_4_5, (fun _ => rfl), (fun _ => rfl), hm1_7_3, hm1_7_5, (g0.other (Nat.ne_of_lt (Nat.lt_of_lt_of_le lt0 (ha1_4.out rfl).1)) _), (g1.other (Nat.ne_of_lt (Nat.lt_of_lt_of_le lt1 (ha1_4.out rfl).1)) _), (g2.other (Nat.ne_of_lt (Nat.lt_of_lt_of_le lt2 (ha1_4.out rfl).1)) _), (g3.other (Nat.ne_of_lt (Nat.lt_of_lt_of_le lt3 (ha1_4.out rfl).1)) _), (hr.other (Nat.ne_of_lt (Nat.lt_of_lt_of_le ltr (ha1_4.out rfl).1)) _)⟩
    · obtain rfl : β7 = false := hun
      obtain rfl : β3 = true := ready_dep (k := 1) hi rfl rfl rfl
      obtain rfl : β5 = true := ready_dep (k := 0) hi rfl rfl rfl
      clear hi
      try simp only [cond_true, cond_false]
      refine ws (fun Kx hK => ?_)
      refine step_store_S (us := [x1_3_0, x1_3_1, x1_3_2]) (vs := [W4 0 0 0 0, W4 0 0 0 0, W4 0 0 0 0]) (by rfl) 84 _ _ rfl z1_5 rfl rfl (words3 (hc1_3.out rfl).1 (hc1_3.out rfl).2.1 (hc1_3.out rfl).2.2) rfl (by kernel_rfl) (ha1_5.out rfl).2 ?_
      exact hK.out _ _ ⟨β0, β1, β2, true, β4, true, β6, true, x1_1_0, x1_1_1, x1_1_2, x1_3_0, x1_3_1, x1_3_2, z1_4, z1_5, rfl, rfl, (below_setRow hB (Nat.le_trans hw (ha1_5.out rfl).1) _), hc1_1, hc1_3, (fun h => ⟨(ha1_4.out h).1, (ha1_4.out h).2.other (hd1_4_5.out h rfl) _⟩), (fun _ => ⟨(ha1_5.out rfl).1, ((ha1_5.out rfl).2.put (words3 (hc1_3.out rfl).1 (hc1_3.out rfl).2.1 (hc1_3.out rfl).2.2))⟩), hd1_4_5, hm1_6_1, hm1_6_4, (fun _ => rfl), (fun _ => rfl), (g0.other (Nat.ne_of_lt (Nat.lt_of_lt_of_le lt0 (ha1_5.out rfl).1)) _), (g1.other (Nat.ne_of_lt (Nat.lt_of_lt_of_le lt1 (ha1_5.out rfl).1)) _), (g2.other (Nat.ne_of_lt (Nat.lt_of_lt_of_le lt2 (ha1_5.out rfl).1)) _), (g3.other (Nat.ne_of_lt (Nat.lt_of_lt_of_le lt3 (ha1_5.out rfl).1)) _), (hr.other (Nat.ne_of_lt (Nat.lt_of_lt_of_le ltr (ha1_5.out rfl).1)) _)⟩
end Go.Proofs.YtionjibiemncbabGreat
