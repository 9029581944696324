/- ER, EZ, EX -/
import Derived.Test.YtojfcdjgcgnajaaGreatGCM
import Derived.Test.YtojfcdjgcgnajaaGreatEQ
import Derived.Test.YtojfcdjgcgnajaaGreatHS
import Derived.Test.YtojfcdjgcgnajaaGreatGEK
import Derived.Test.YtojfcdjgcgnajaaGreatGEQ0
namespace Go.Proofs.YtojfcdjgcgnajaaGreat
open Go.RowKit
set_option linter.unusedSimpArgs false
set_option linter.unusedVariables false
set_option maxRecDepth 20000 in
set_option maxHeartbeats 4000000 in
theorem mul_n {vn p0 p1 : Value} {x x0 x1 : Int} (hn : IsW vn x) (hp0 : IsW p0 x0) (hp1 : IsW p1 x1) (ca : ∀ w, Calls Tryz.prog 59 #[.agg (catW [p0, p1])] w fun e w' => e = .returned (.bool false) ∧ Below w.heap.size w w') (w : World) : Calls Tryz.prog 34 #[vn, .agg (catW [p0, p1])] w fun e w' => e = .returned (.agg (catW [W4 0 0 0 0, W4 0 0 0 0])) ∧ Below w.heap.size w w' := by
 have N0 : Hid (IsW vn x) := hn; have A0 : Hid (IsW p0 x0) := hp0; have A1 : Hid (IsW p1 x1) := hp1; have CA : Hid (∀ w, Calls Tryz.prog 59 #[.agg (catW [p0, p1])] w fun e w' => e = .returned (.bool false) ∧ Below w.heap.size w w') := ca; clear ca; obtain ⟨n0_0, n0_1, n0_2, n0_3, rfl, LN, _⟩ := hn; obtain ⟨a0_0, a0_1, a0_2, a0_3, rfl, L0, _⟩ := hp0; obtain ⟨a1_0, a1_1, a1_2, a1_3, rfl, L1, _⟩ := hp1; clear L0 L1 LN; have V0 : Hid (VarS (((w.alloc (.cells (C4 n0_0 n0_1 n0_2 n0_3) 51)).alloc (.cells (catW [W4 a0_0 a0_1 a0_2 a0_3, W4 a1_0 a1_1 a1_2 a1_3]) 77)).alloc (.cells #[.int .u64 0, .int .u64 0, .int .u64 0, .int .u64 0, .int .u64 0, .int .u64 0, .int .u64 0, .int .u64 0] 77)) w.heap.size 51 [W4 n0_0 n0_1 n0_2 n0_3] ∧ VarS (((w.alloc (.cells (C4 n0_0 n0_1 n0_2 n0_3) 51)).alloc (.cells (catW [W4 a0_0 a0_1 a0_2 a0_3, W4 a1_0 a1_1 a1_2 a1_3]) 77)).alloc (.cells #[.int .u64 0, .int .u64 0, .int .u64 0, .int .u64 0, .int .u64 0, .int .u64 0, .int .u64 0, .int .u64 0] 77)) (w.heap.size + 1) 77 [W4 a0_0 a0_1 a0_2 a0_3, W4 a1_0 a1_1 a1_2 a1_3] ∧ VarS (((w.alloc (.cells (C4 n0_0 n0_1 n0_2 n0_3) 51)).alloc (.cells (catW [W4 a0_0 a0_1 a0_2 a0_3, W4 a1_0 a1_1 a1_2 a1_3]) 77)).alloc (.cells #[.int .u64 0, .int .u64 0, .int .u64 0, .int .u64 0, .int .u64 0, .int .u64 0, .int .u64 0, .int .u64 0] 77)) (w.heap.size + 2) 77 [W4 0 0 0 0, W4 0 0 0 0] ∧ Below w.heap.size w (((w.alloc (.cells (C4 n0_0 n0_1 n0_2 n0_3) 51)).alloc (.cells (catW [W4 a0_0 a0_1 a0_2 a0_3, W4 a1_0 a1_1 a1_2 a1_3]) 77)).alloc (.cells #[.int .u64 0, .int .u64 0, .int .u64 0, .int .u64 0, .int .u64 0, .int .u64 0, .int .u64 0, .int .u64 0] 77))) := ⟨⟨words1 N0.out, heap_old _ _ _ _ (heap_old _ _ _ _ (heap_alloc_new _ _))⟩, ⟨words2 A0.out A1.out, heap_old _ _ _ _ (heapAt _ _ _ (by simp))⟩, ⟨words2 isw0 isw0, by rw [← zero8]; exact heapAt _ _ _ (by simp)⟩, by go_grown⟩
 go_enter Tryz.func34, Tryz.ntmps34
 unfold W4; go_wp2_with (first | (refine wpList_load_run rfl 77 _ rfl _ rfl (load28 V0.out.2.1) ?_)); generalize (((w.alloc (.cells (C4 n0_0 n0_1 n0_2 n0_3) 51)).alloc (.cells (catW [W4 a0_0 a0_1 a0_2 a0_3, W4 a1_0 a1_1 a1_2 a1_3]) 77)).alloc (.cells #[.int .u64 0, .int .u64 0, .int .u64 0, .int .u64 0, .int .u64 0, .int .u64 0, .int .u64 0, .int .u64 0] 77)) = W0 at V0 ⊢; refine Calls.mono (CA.out _) ?_; rintro e w1 ⟨rfl, b1⟩; have V1 : Hid (VarS w1 w.heap.size 51 [W4 n0_0 n0_1 n0_2 n0_3] ∧ VarS w1 (w.heap.size + 1) 77 [W4 a0_0 a0_1 a0_2 a0_3, W4 a1_0 a1_1 a1_2 a1_3] ∧ VarS w1 (w.heap.size + 2) 77 [W4 0 0 0 0, W4 0 0 0 0] ∧ Below w.heap.size w w1) := ⟨V0.out.1.kept b1, V0.out.2.1.kept b1, V0.out.2.2.1.kept b1, V0.out.2.2.2.trans (b1.mono V0.out.2.2.2.size)⟩
 clear V0 b1; have hst := V1.out.2.2.1.store (us := [W4 0 0 0 0, W4 0 0 0 0]) (words2 isw0 isw0) rfl (by kernel_rfl); go_wp2_with (first | (refine wpList_store_run rfl 77 _ _ rfl (w.heap.size + 2) (catW [W4 0 0 0 0, W4 0 0 0 0]) rfl (by kernel_rfl) hst ?_)); have hl := load28 (V1.out.2.2.1.put (words2 isw0 isw0)); exact bodyPost_ret (v := .agg (catW [W4 0 0 0 0, W4 0 0 0 0])) (by simp [results, Tryz.results34, asAddr, Act.put, hl]) rfl ⟨rfl, below_setRow V1.out.2.2.2 (by omega) _⟩
set_option maxRecDepth 20000 in
set_option maxHeartbeats 4000000 in
theorem mul_y {vn p0 p1 : Value} {x : Int} {p : Pt} (hn : IsW vn x) (hp0 : IsF p0 p.x) (hp1 : IsF p1 p.y) (ca : ∀ w, Calls Tryz.prog 59 #[.agg (catW [p0, p1])] w fun e w' => e = .returned (.bool true) ∧ Below w.heap.size w w') (w : World) : Calls Tryz.prog 34 #[vn, .agg (catW [p0, p1])] w fun e w' => ∃ v0 v1, e = .returned (.agg (catW [v0, v1])) ∧ (IsF v0 (Pt.mul x.toNat p).x ∧ IsF v1 (Pt.mul x.toNat p).y) ∧ Below w.heap.size w w' := by
 have N0 : Hid (IsW vn x) := hn; have A0 : Hid (IsF p0 p.x) := hp0; have A1 : Hid (IsF p1 p.y) := hp1; have CA : Hid (∀ w, Calls Tryz.prog 59 #[.agg (catW [p0, p1])] w fun e w' => e = .returned (.bool true) ∧ Below w.heap.size w w') := ca; clear ca; obtain ⟨n0_0, n0_1, n0_2, n0_3, rfl, LN, _⟩ := hn; obtain ⟨a0_0, a0_1, a0_2, a0_3, rfl, L0, _⟩ := hp0; obtain ⟨a1_0, a1_1, a1_2, a1_3, rfl, L1, _⟩ := hp1; clear L0 L1 LN; have V0 : Hid (VarS (((w.alloc (.cells (C4 n0_0 n0_1 n0_2 n0_3) 51)).alloc (.cells (catW [W4 a0_0 a0_1 a0_2 a0_3, W4 a1_0 a1_1 a1_2 a1_3]) 77)).alloc (.cells #[.int .u64 0, .int .u64 0, .int .u64 0, .int .u64 0, .int .u64 0, .int .u64 0, .int .u64 0, .int .u64 0] 77)) w.heap.size 51 [W4 n0_0 n0_1 n0_2 n0_3] ∧ VarS (((w.alloc (.cells (C4 n0_0 n0_1 n0_2 n0_3) 51)).alloc (.cells (catW [W4 a0_0 a0_1 a0_2 a0_3, W4 a1_0 a1_1 a1_2 a1_3]) 77)).alloc (.cells #[.int .u64 0, .int .u64 0, .int .u64 0, .int .u64 0, .int .u64 0, .int .u64 0, .int .u64 0, .int .u64 0] 77)) (w.heap.size + 1) 77 [W4 a0_0 a0_1 a0_2 a0_3, W4 a1_0 a1_1 a1_2 a1_3] ∧ VarS (((w.alloc (.cells (C4 n0_0 n0_1 n0_2 n0_3) 51)).alloc (.cells (catW [W4 a0_0 a0_1 a0_2 a0_3, W4 a1_0 a1_1 a1_2 a1_3]) 77)).alloc (.cells #[.int .u64 0, .int .u64 0, .int .u64 0, .int .u64 0, .int .u64 0, .int .u64 0, .int .u64 0, .int .u64 0] 77)) (w.heap.size + 2) 77 [W4 0 0 0 0, W4 0 0 0 0] ∧ Below w.heap.size w (((w.alloc (.cells (C4 n0_0 n0_1 n0_2 n0_3) 51)).alloc (.cells (catW [W4 a0_0 a0_1 a0_2 a0_3, W4 a1_0 a1_1 a1_2 a1_3]) 77)).alloc (.cells #[.int .u64 0, .int .u64 0, .int .u64 0, .int .u64 0, .int .u64 0, .int .u64 0, .int .u64 0, .int .u64 0] 77))) := ⟨⟨words1 N0.out, heap_old _ _ _ _ (heap_old _ _ _ _ (heap_alloc_new _ _))⟩, ⟨words2 A0.out A1.out, heap_old _ _ _ _ (heapAt _ _ _ (by simp))⟩, ⟨words2 isw0 isw0, by rw [← zero8]; exact heapAt _ _ _ (by simp)⟩, by go_grown⟩
 go_enter Tryz.func34, Tryz.ntmps34
 unfold W4; go_wp2_with (first | (refine wpList_load_run rfl 77 _ rfl _ rfl (load28 V0.out.2.1) ?_)); generalize (((w.alloc (.cells (C4 n0_0 n0_1 n0_2 n0_3) 51)).alloc (.cells (catW [W4 a0_0 a0_1 a0_2 a0_3, W4 a1_0 a1_1 a1_2 a1_3]) 77)).alloc (.cells #[.int .u64 0, .int .u64 0, .int .u64 0, .int .u64 0, .int .u64 0, .int .u64 0, .int .u64 0, .int .u64 0] 77)) = W0 at V0 ⊢; refine Calls.mono (CA.out _) ?_; rintro e w1 ⟨rfl, b1⟩; have V1 : Hid (VarS w1 w.heap.size 51 [W4 n0_0 n0_1 n0_2 n0_3] ∧ VarS w1 (w.heap.size + 1) 77 [W4 a0_0 a0_1 a0_2 a0_3, W4 a1_0 a1_1 a1_2 a1_3] ∧ VarS w1 (w.heap.size + 2) 77 [W4 0 0 0 0, W4 0 0 0 0] ∧ Below w.heap.size w w1) := ⟨V0.out.1.kept b1, V0.out.2.1.kept b1, V0.out.2.2.1.kept b1, V0.out.2.2.2.trans (b1.mono V0.out.2.2.2.size)⟩
 clear V0 b1; have g0 := V1.out.1; have g1 := V1.out.2.1; have hres := V1.out.2.2.1; have hB0 := V1.out.2.2.2; clear V1 CA; go_wp2; have hw := hB0.size; have lt0 := g0.lt; have lt1 := g1.lt; have ltr := hres.lt; refine wp_region_inv (by kernel_rfl) 6 rfl (fun l a w' => ∃ (β0 β1 β2 β3 β4 β5 : Bool) (x3_3_0 x3_3_1 x3_4_0 x3_4_1 : Value), l = #[β0, β1, β2, β3, β4, β5] ∧ a = ⟨#[W4 n0_0 n0_1 n0_2 n0_3, .agg (catW [W4 a0_0 a0_1 a0_2 a0_3, W4 a1_0 a1_1 a1_2 a1_3]), .pointer (some ⟨w.heap.size, 0, none⟩), .pointer (some ⟨w.heap.size + 1, 0, none⟩), .pointer (some ⟨w.heap.size + 2, 0, none⟩), .agg (catW [W4 a0_0 a0_1 a0_2 a0_3, W4 a1_0 a1_1 a1_2 a1_3]), .bool true, .bool false, undef, bif β0 then W4 n0_0 n0_1 n0_2 n0_3 else undef, bif β1 then .agg (catW [W4 a0_0 a0_1 a0_2 a0_3, W4 a1_0 a1_1 a1_2 a1_3]) else undef, bif β2 then W4 0 0 0 0 else undef, bif β3 then .agg (catW [x3_3_0, x3_3_1]) else undef, bif β4 then .agg (catW [x3_4_0, x3_4_1]) else undef], []⟩ ∧ Below (w.heap.size) w1 w' ∧ Hid (β3 = true → IsF x3_3_0 (0) ∧ IsF x3_3_1 (1)) ∧ Hid (β4 = true → IsF x3_4_0 (((Pt.mul x.toNat p).add (Pt.mul (0 : Int).toNat Pt.zero)).x) ∧ IsF x3_4_1 (((Pt.mul x.toNat p).add (Pt.mul (0 : Int).toNat Pt.zero)).y)) ∧ Hid (β5 = true → β4 = true) ∧ VarS w' (w.heap.size) 51 [W4 n0_0 n0_1 n0_2 n0_3] ∧ VarS w' (w.heap.size + 1) 77 [W4 a0_0 a0_1 a0_2 a0_3, W4 a1_0 a1_1 a1_2 a1_3] ∧ VarS w' (w.heap.size + 2) 77 (bif β5 then [x3_4_0, x3_4_1] else [W4 0 0 0 0, W4 0 0 0 0])) ?h03 ?hend3 ?hstep3
 case h03 => exact ⟨false, false, false, false, false, false, undef, undef, undef, undef, rfl, rfl, Below.drew (Below.refl _ _), (fun h => by cases h), (fun h => by cases h), (fun h => by cases h), g0.drew, g1.drew, hres.drew⟩
 case hend3 =>
  intro l a w' hs hI hr0; obtain ⟨β0, β1, β2, β3, β4, β5, x3_3_0, x3_3_1, x3_4_0, x3_4_1, rfl, rfl, hB, hc3_3, hc3_4, hm3_5_4, g0, g1, hr⟩ := hI; have hall := ready_none (by rfl) (depsLow_spec (by kernel_rfl)) hr0; obtain rfl : β0 = true := hall 0 (by decide); obtain rfl : β1 = true := hall 1 (by decide); obtain rfl : β2 = true := hall 2 (by decide); obtain rfl : β3 = true := hall 3 (by decide); obtain rfl : β4 = true := hall 4 (by decide); obtain rfl : β5 = true := hall 5 (by decide); clear hall hr0 hs
  replace hc3_3 := hc3_3.out rfl
  replace hc3_4 := hc3_4.out rfl
  simp only [cond_true] at hr ⊢; have hBel := hB0.trans (hB.mono (Nat.le_refl _)); have hl := load28 hr; have e0 : ((Pt.mul x.toNat p).add (Pt.mul (0 : Int).toNat Pt.zero)) = Pt.mul x.toNat p := by rw [mul_zero, add_zero]
  have q0 := hc3_4.1; have q1 := hc3_4.2; rw [e0] at q0 q1; clear e0; go_wp2; exact bodyPost_ret (v := .agg (catW [x3_4_0, x3_4_1])) (by simp [results, Tryz.results34, asAddr, hl]) rfl ⟨_, _, rfl, ⟨q0, q1⟩, hBel⟩
 case hstep3 =>
  intro i l a w' hs hI hi; obtain ⟨β0, β1, β2, β3, β4, β5, x3_3_0, x3_3_1, x3_4_0, x3_4_1, rfl, rfl, hB, hc3_3, hc3_4, hm3_5_4, g0, g1, hr⟩ := hI; obtain ⟨hlt, hun, _⟩ := ready_mem hi; have hlt' : i < 6 := hlt; clear hlt hs; have hcs : i = 0 ∨ i = 1 ∨ i = 2 ∨ i = 3 ∨ i = 4 ∨ i = 5 := by omega
  clear hlt'; rcases hcs with rfl | rfl | rfl | rfl | rfl | rfl
  · obtain rfl : β0 = false := hun
    clear hi; try simp only [cond_true, cond_false]
    refine ws (fun Kx hK => ?_); refine step_yield (v := W4 n0_0 n0_1 n0_2 n0_3) (by rfl) ?_ ?_
    · exact run_load_exec 51 _ rfl _ rfl (g0.part 0 rfl)
    · exact hK.out _ _ ⟨true, β1, β2, β3, β4, β5, x3_3_0, x3_3_1, x3_4_0, x3_4_1, rfl, rfl, hB, hc3_3, hc3_4, hm3_5_4, g0, g1, hr⟩
  · obtain rfl : β1 = false := hun
    clear hi; try simp only [cond_true, cond_false]
    refine ws (fun Kx hK => ?_); refine step_yield (v := .agg (catW [W4 a0_0 a0_1 a0_2 a0_3, W4 a1_0 a1_1 a1_2 a1_3])) (by rfl) ?_ ?_
    · exact run_load_exec 77 _ rfl _ rfl (load28 g1)
    · exact hK.out _ _ ⟨β0, true, β2, β3, β4, β5, x3_3_0, x3_3_1, x3_4_0, x3_4_1, rfl, rfl, hB, hc3_3, hc3_4, hm3_5_4, g0, g1, hr⟩
  · obtain rfl : β2 = false := hun
    clear hi; try simp only [cond_true, cond_false]
    refine ws (fun Kx hK => ?_); refine step_yield (v := W4 0 0 0 0) (by rfl) ?_ ?_
    · go_simp
    · exact hK.out _ _ ⟨β0, β1, true, β3, β4, β5, x3_3_0, x3_3_1, x3_4_0, x3_4_1, rfl, rfl, hB, hc3_3, hc3_4, hm3_5_4, g0, g1, hr⟩
  · obtain rfl : β3 = false := hun
    clear hi; try simp only [cond_true, cond_false]
    refine ws (fun Kx hK => ?_); go_simp; refine Calls.mono (f_neutral _) ?_; rintro e w2 ⟨v0, v1, rfl, hv, hb2⟩; go_wp2_with fail; exact hK.out _ _ ⟨β0, β1, β2, true, β4, β5, v0, v1, x3_4_0, x3_4_1, rfl, rfl, (hB.trans (hb2.mono (Nat.le_trans hw hB.size))), (fun _ => hv), hc3_4, hm3_5_4, (g0.kept hb2), (g1.kept hb2), (hr.kept hb2)⟩
  · obtain rfl : β4 = false := hun
    obtain rfl : β0 = true := ready_dep (k := 0) hi rfl rfl rfl; obtain rfl : β1 = true := ready_dep (k := 1) hi rfl rfl rfl; obtain rfl : β2 = true := ready_dep (k := 2) hi rfl rfl rfl; obtain rfl : β3 = true := ready_dep (k := 3) hi rfl rfl rfl; obtain rfl : β5 = false := Bool.eq_false_iff.2 (fun h => by have := hm3_5_4.out h; cases this); clear hi; try simp only [cond_true, cond_false]
    refine ws (fun Kx hK => ?_)
    replace hc3_3 := hc3_3.out rfl
    go_simp; refine Calls.mono (both_any (y := 0) (q := Pt.zero) N0.out isw0 A0.out A1.out hc3_3.1 hc3_3.2 _) ?_
    rintro e w2 ⟨v0, v1, rfl, hv, hb2⟩; go_wp2_with fail; exact hK.out _ _ ⟨true, true, true, true, true, false, x3_3_0, x3_3_1, v0, v1, rfl, rfl, (hB.trans (hb2.mono (Nat.le_trans hw hB.size))), (fun _ => hc3_3), (fun _ => hv), (fun _ => rfl), (g0.kept hb2), (g1.kept hb2), (hr.kept hb2)⟩
  · obtain rfl : β5 = false := hun
    obtain rfl : β4 = true := ready_dep (k := 0) hi rfl rfl rfl; clear hi; try simp only [cond_true, cond_false]
    refine ws (fun Kx hK => ?_); refine step_store_S (us := [x3_4_0, x3_4_1]) (vs := [W4 0 0 0 0, W4 0 0 0 0]) (by rfl) 77 _ _ rfl (w.heap.size + 2) rfl rfl (words2 (hc3_4.out rfl).1 (hc3_4.out rfl).2) rfl (by kernel_rfl) hr ?_; exact hK.out _ _ ⟨β0, β1, β2, β3, true, true, x3_3_0, x3_3_1, x3_4_0, x3_4_1, rfl, rfl, (below_setRow hB (by omega) _), hc3_3, hc3_4, (fun _ => rfl), (g0.other (by omega) _), (g1.other (by omega) _), (hr.put (words2 (hc3_4.out rfl).1 (hc3_4.out rfl).2))⟩
def mulV (n : Nat) : Option Pt → K × K
 | some p => ((Pt.mul n p).x, (Pt.mul n p).y)
 | none => (0, 0)
theorem g_pmul {vn p0 p1 : Value} {n x y : Int} (hn : IsW vn n) (hp0 : IsW p0 x) (hp1 : IsW p1 y) (w : World) : Calls Tryz.prog 34 #[vn, .agg (catW [p0, p1])] w fun e w' => ∃ v0 v1, e = .returned (.agg (catW [v0, v1])) ∧ (IsF v0 (mulV n.toNat (ptOf x y)).1 ∧ IsF v1 (mulV n.toNat (ptOf x y)).2) ∧ Below w.heap.size w w' := by
 have ca := fun w => g_on hp0 hp1 w
 cases ha : ptOf x y with
 | none =>
   rw [ha] at ca; refine (mul_n hn hp0 hp1 ca w).mono ?_; rintro e w' ⟨rfl, h⟩; exact ⟨_, _, rfl, ⟨isF0, isF0⟩, h⟩
 | some p =>
   rw [ha] at ca; obtain ⟨⟨l0, l1⟩, e0, e1⟩ := ptOf_some ha; have hpx : IsF p0 p.x := by rw [e0]; exact isF_lt hp0 l0
   have hpy : IsF p1 p.y := by rw [e1]; exact isF_lt hp1 l1
   exact mul_y hn hpx hpy ca w
end Go.Proofs.YtojfcdjgcgnajaaGreat
namespace Go.Proofs.YtojfcdjgcgnajaaGreat
open Go.RowKit
set_option linter.unusedSimpArgs false
set_option linter.unusedVariables false
def VarR (w : World) (z : Nat) (ty : TypeId) (n : Nat) (f : Nat → Value) : Prop := w.rowIs z ty n f
theorem VarR.row {w : World} {z : Nat} {ty : TypeId} {n : Nat} {f : Nat → Value} (h : VarR w z ty n f) : w.rowIs z ty n f := h
theorem VarR.lt {w : World} {z : Nat} {ty : TypeId} {n : Nat} {f : Nat → Value} (h : VarR w z ty n f) : z < w.heap.size := h.row.lt
theorem VarR.kept {w w' : World} {z : Nat} {ty : TypeId} {n : Nat} {f : Nat → Value} (h : VarR w z ty n f) (hb : Below w.heap.size w w') : VarR w' z ty n f := h.row.of_block (hb.block _ h.lt)
theorem VarR.drew {w : World} {z : Nat} {ty : TypeId} {n : Nat} {f : Nat → Value} (h : VarR w z ty n f) : VarR w.drew z ty n f := h
theorem VarR.old {w : World} {z : Nat} {ty : TypeId} {n : Nat} {f : Nat → Value} (h : VarR w z ty n f) (o : Obj) : VarR (w.alloc o) z ty n f := rowOld h.row o
theorem VarR.other {w : World} {z y : Nat} {ty : TypeId} {n : Nat} {f : Nat → Value} (h : VarR w z ty n f) (hn : z ≠ y) (c : Array Value) : VarR (w.setRow y c) z ty n f := h.row.of_block (setRow_other _ _ _ _ hn)
theorem VarR.put {w : World} {z : Nat} {ty : TypeId} {n : Nat} {f g : Nat → Value} (h : VarR w z ty n f) : VarR (w.setRow z (vec n g)) z ty n g := heap_row (setRow_heap _ _ _ _ _ _ (row_heap h.row))
theorem VarR.new (w : World) (ty : TypeId) (n : Nat) (f : Nat → Value) : VarR (w.alloc (.cells (vec n f) ty)) w.heap.size ty n f := heap_row (heap_alloc_new _ _)
def VarC (w : World) (z : Nat) (c : Array Value) : Prop := w.heap[z]? = some (.cells c 28 (0, 0))
theorem VarC.lt {w : World} {z : Nat} {c : Array Value} (h : VarC w z c) : z < w.heap.size := flt_of_some h
theorem VarC.kept {w w' : World} {z : Nat} {c : Array Value} (h : VarC w z c) (hb : Below w.heap.size w w') : VarC w' z c := Go.Proofs.YtojfcdjgcgnajaaGreat.kept h hb
theorem VarC.old {w : World} {z : Nat} {c : Array Value} (h : VarC w z c) (o : Obj) : VarC (w.alloc o) z c := heap_old _ _ _ _ h
theorem VarC.other {w : World} {z y : Nat} {c : Array Value} (h : VarC w z c) (hn : z ≠ y) (c' : Array Value) : VarC (w.setRow y c') z c := (setRow_other _ _ _ _ hn).trans h
theorem VarC.new (w : World) (c : Array Value) : VarC (w.alloc (.cells c 28)) w.heap.size c := heap_alloc_new _ _
theorem bytes_row {w : World} {z : Nat} {ty : TypeId} {f : Nat → Int} (h : w.rowIs z ty 32 (bI f)) (hf : ∀ j, j < 32 → 0 ≤ f j ∧ f j < 256) {m : Nat → BitVec 8} (hm : ∀ j, j < 32 → m j = bv (f j)) : Sha.Bytes w (some ⟨z, 0, none⟩) 32 32 m :=
 ⟨z, 0, fun _ => rfl, fun j hj => by
  rw [Nat.zero_add, hm j hj, I8_bv _ (hf j hj).1 (hf j hj).2]; exact h.cell hj, by decide, by decide, by decide⟩
def cat2 (f : Nat → Int) (m : Nat → BitVec 8) (i : Nat) : BitVec 8 := if i < 32 then bv (f i) else m (i - 32)
def cat3 (f g : Nat → Int) (m : Nat → BitVec 8) (i : Nat) : BitVec 8 := if i < 32 then bv (f i) else if i < 64 then bv (g (i - 32)) else m (i - 64)
theorem Sha.Bytes.congr {w : World} {ao : Option Addr} {len cap : Nat} {m m' : Nat → BitVec 8} (h : Sha.Bytes w ao len cap m) (e : ∀ j, j < len → m j = m' j) : Sha.Bytes w ao len cap m' := by
 obtain ⟨bb, off, h1, h2, h3⟩ := h; exact ⟨bb, off, h1, fun j hj => by rw [← e j hj]; exact h2 j hj, h3⟩
theorem cellC {w : World} {z i : Nat} {c : Array Value} {v : Value} (h : VarC w z c) (hi : c[i]? = some v) : w.cell? ⟨z, i, none⟩ = some v := by
 rw [cell_of_row _ _ i _ _ _ h]; exact hi
theorem number2 {W : World} {lb z len cap : Nat} {ty : TypeId} {ao : Option Addr} {f : Nat → Int} {m : Nat → BitVec 8} (hr : W.rowIs z ty 32 (bI f)) (hf : ∀ j, j < 32 → 0 ≤ f j ∧ f j < 256) (hm : Sha.Bytes W ao len cap m) (hc : VarC W lb #[.slice (some ⟨z, 0, none⟩) 32 32, .slice ao len cap]) :
 Calls Tryz.prog 19 #[.slice (some ⟨lb, 0, none⟩) 2 2] W fun e w' => ∃ v, e = .returned v ∧ IsW v (hnum (Sha.digest (cat2 f m) (32 + len)) % LL) ∧ Below W.heap.size W w' := by
 obtain ⟨bb, off, h1, h2, h3, h4, h5⟩ := hm; exact number_h lb 2 2 (fun i => if i = 0 then some ⟨z, 0, none⟩ else ao) (fun i => if i = 0 then 32 else len) (fun i => if i = 0 then 32 else cap) (fun i => if i = 0 then 0 else if i = 1 then 32 else 32 + len) (cat2 f m) W
  ⟨fun i hi => by
   rcases (by omega : i = 0 ∨ i = 1) with rfl | rfl
   · exact cellC hc rfl
   · exact cellC hc rfl, fun i hi => by
   rcases (by omega : i = 0 ∨ i = 1) with rfl | rfl
   · simp only [if_true]
     exact bytes_row hr hf (fun j hj => by unfold cat2; rw [Nat.zero_add, if_pos hj])
   · simp only [Nat.one_ne_zero, if_false, if_true]
     exact Sha.Bytes.congr ⟨bb, off, h1, h2, h3, h4, h5⟩ (fun j hj => by unfold cat2; rw [if_neg (by omega), Nat.add_sub_cancel_left]), rfl, fun i hi => by
   rcases (by omega : i = 0 ∨ i = 1) with rfl | rfl
   · simp
   · simp, fun i hi => by
   rcases (by omega : i = 0 ∨ i = 1 ∨ i = 2) with rfl | rfl | rfl
   · simp
   · simp
   · simp; omega⟩ (by decide) (by decide) (by decide)
theorem number3 {W : World} {lb z y len cap : Nat} {ty ty' : TypeId} {ao : Option Addr} {f g : Nat → Int} {m : Nat → BitVec 8} (hr : W.rowIs z ty 32 (bI f)) (hf : ∀ j, j < 32 → 0 ≤ f j ∧ f j < 256) (hr' : W.rowIs y ty' 32 (bI g)) (hg : ∀ j, j < 32 → 0 ≤ g j ∧ g j < 256) (hm : Sha.Bytes W ao len cap m) (hc : VarC W lb #[.slice (some ⟨z, 0, none⟩) 32 32, .slice (some ⟨y, 0, none⟩) 32 32, .slice ao len cap]) :
 Calls Tryz.prog 19 #[.slice (some ⟨lb, 0, none⟩) 3 3] W fun e w' => ∃ v, e = .returned v ∧ IsW v (hnum (Sha.digest (cat3 f g m) (64 + len)) % LL) ∧ Below W.heap.size W w' := by
 obtain ⟨bb, off, h1, h2, h3, h4, h5⟩ := hm; exact number_h lb 3 3 (fun i => if i = 0 then some ⟨z, 0, none⟩ else if i = 1 then some ⟨y, 0, none⟩ else ao) (fun i => if i = 0 then 32 else if i = 1 then 32 else len) (fun i => if i = 0 then 32 else if i = 1 then 32 else cap) (fun i => if i = 0 then 0 else if i = 1 then 32 else if i = 2 then 64 else 64 + len) (cat3 f g m) W
  ⟨fun i hi => by
   rcases (by omega : i = 0 ∨ i = 1 ∨ i = 2) with rfl | rfl | rfl
   · exact cellC hc rfl
   · exact cellC hc rfl
   · exact cellC hc rfl, fun i hi => by
   rcases (by omega : i = 0 ∨ i = 1 ∨ i = 2) with rfl | rfl | rfl
   · exact bytes_row hr hf (fun j hj => by unfold cat3; rw [if_pos rfl, Nat.zero_add, if_pos hj])
   · exact bytes_row hr' hg (fun j hj => by
      show cat3 f g m (32 + j) = bv (g j); unfold cat3; rw [if_neg (by omega), if_pos (by omega), Nat.add_sub_cancel_left])
   · exact Sha.Bytes.congr ⟨bb, off, h1, h2, h3, h4, h5⟩ (fun j hj => by
      show m j = cat3 f g m (64 + j); unfold cat3; rw [if_neg (by omega), if_neg (by omega), Nat.add_sub_cancel_left]), rfl, fun i hi => by
   rcases (by omega : i = 0 ∨ i = 1 ∨ i = 2) with rfl | rfl | rfl
   · simp
   · simp
   · simp, fun i hi => by
   rcases (by omega : i = 0 ∨ i = 1 ∨ i = 2 ∨ i = 3) with rfl | rfl | rfl | rfl
   · simp
   · simp
   · simp
   · simp; omega⟩ (by decide) (by decide) (by decide)
theorem kb_bd (n : Int) (j : Nat) : 0 ≤ n / 256 ^ j % 256 ∧ n / 256 ^ j % 256 < 256 := by omega
end Go.Proofs.YtojfcdjgcgnajaaGreat
namespace Go.Proofs.YtojfcdjgcgnajaaGreat
set_option linter.unusedSimpArgs false
set_option linter.unusedVariables false
def LN : Nat := 7237005577332262213973186563042994240857116359379907606001950938285454250989
def force {α : Type} (n : Nat) (f : Nat → α) : α := Nat.rec (f 0) (fun m _ => f (m + 1)) n
theorem force_eq {α : Type} (n : Nat) (f : Nat → α) : force n f = f n := by cases n <;> rfl
def nadd (a b : Nat) : Nat := (a + b) % PN
def nmul (a b : Nat) : Nat := a * b % PN
def nsub (a b : Nat) : Nat := (a + (PN - b % PN)) % PN
def toK (n : Nat) : K := toF (n : Int)
theorem toK_mod (n : Nat) : toK (n % PN) = toK n := by
 unfold toK; rw [Int.natCast_emod, ← PP_nat, toF_mod]
theorem toK_add (a b : Nat) : toK (nadd a b) = toK a + toK b := by
 unfold nadd; rw [toK_mod]; unfold toK; rw [Int.natCast_add, toF_add]
theorem toK_mul (a b : Nat) : toK (nmul a b) = toK a * toK b := by
 unfold nmul; rw [toK_mod]; unfold toK; rw [Int.natCast_mul, toF_mul]
theorem toK_sub (a b : Nat) : toK (nsub a b) = toK a - toK b := by
 unfold nsub; rw [toK_mod]; have h : b % PN ≤ PN := Nat.le_of_lt (Nat.mod_lt _ (by decide)); unfold toK; rw [Int.natCast_add, Int.ofNat_sub h, Int.natCast_emod, ← PP_nat, toF_add, toF_sub, toF_mod, show toF PP = 0 from by rw [toF_nz]; decide]
 grind
def twN {α : Type} (x y z : Nat) (k : Nat → Nat → Nat → Nat → α) : α :=
 force (nmul x x) fun a => force (nmul y y) fun b => force (nmul z z) fun c => force (nadd x y) fun e => force (nadd b a) fun m => force (nsub b a) fun l => force (nsub (nmul e e) m) fun g => force (nsub (nadd c c) l) fun h =>
  force (nmul g h) fun X => force (nmul m l) fun Y => force (nmul l h) fun Z => force (nmul g m) fun T => k X Y Z T
def plN {α : Type} (x y z t pl pm pw : Nat) (k : Nat → Nat → Nat → Nat → α) : α :=
 force (nmul (nadd y x) pm) fun a => force (nmul (nsub y x) pl) fun b => force (nadd z z) fun c => force (nmul t pw) fun e => force (nsub a b) fun g => force (nadd a b) fun m => force (nsub c e) fun h => force (nadd c e) fun l =>
  force (nmul g h) fun X => force (nmul m l) fun Y => force (nmul l h) fun Z => force (nmul g m) fun T => k X Y Z T
theorem twN_rep {α : Type} {x y z t : Nat} {s : Pt} (h : RepP (toK x) (toK y) (toK z) (toK t) s) (k : Nat → Nat → Nat → Nat → α) : ∃ X Y Z T, twN x y z k = k X Y Z T ∧ RepP (toK X) (toK Y) (toK Z) (toK T) (s.add s) := by
 unfold twN; simp only [force_eq]; refine ⟨_, _, _, _, rfl, ?_⟩
 · simp only [toK_mul, toK_add, toK_sub]
   exact repP_twice h
theorem plN_rep {α : Type} {x y z t pl pm pw : Nat} {s p : Pt} (h : RepP (toK x) (toK y) (toK z) (toK t) s) (h0 : toK pl = p.y - p.x) (h1 : toK pm = p.y + p.x) (h2 : toK pw = (toF DD + toF DD) * (p.x * p.y)) (k : Nat → Nat → Nat → Nat → α) :
 ∃ X Y Z T, plN x y z t pl pm pw k = k X Y Z T ∧ RepP (toK X) (toK Y) (toK Z) (toK T) (s.add p) := by
 unfold plN; simp only [force_eq]; refine ⟨_, _, _, _, rfl, ?_⟩
 · simp only [toK_mul, toK_add, toK_sub, h0, h1, h2]
   exact repP_plus h
def bitsN : List Bool → Nat → Nat
 | [], n => n
 | b :: l, n => bitsN l (2 * n + b.toNat)
def runN (pl pm pw : Nat) (k : Nat → Nat → Nat → Nat → Bool) : List Bool → Nat → Nat → Nat → Nat → Bool
 | [], x, y, z, t => k x y z t
 | false :: l, x, y, z, t => twN x y z fun X Y Z T => runN pl pm pw k l X Y Z T
 | true :: l, x, y, z, t => twN x y z fun X Y Z T => plN X Y Z T pl pm pw fun X Y Z T => runN pl pm pw k l X Y Z T
theorem runN_rep {pl pm pw : Nat} {p : Pt} (h0 : toK pl = p.y - p.x) (h1 : toK pm = p.y + p.x) (h2 : toK pw = (toF DD + toF DD) * (p.x * p.y)) (k : Nat → Nat → Nat → Nat → Bool) :
 ∀ (l : List Bool) (n x y z t : Nat), RepP (toK x) (toK y) (toK z) (toK t) (Pt.mul n p) → ∃ X Y Z T, runN pl pm pw k l x y z t = k X Y Z T ∧ RepP (toK X) (toK Y) (toK Z) (toK T) (Pt.mul (bitsN l n) p)
 | [], n, x, y, z, t, h => ⟨x, y, z, t, rfl, h⟩
 | false :: l, n, x, y, z, t, h => by
   obtain ⟨X, Y, Z, T, e, hr⟩ := twN_rep h (fun X Y Z T => runN pl pm pw k l X Y Z T); rw [← mul_add, ← Nat.two_mul] at hr; obtain ⟨X', Y', Z', T', e', hr'⟩ := runN_rep h0 h1 h2 k l (2 * n) X Y Z T hr; exact ⟨X', Y', Z', T', by show twN x y z _ = _; rw [e, e'], hr'⟩
 | true :: l, n, x, y, z, t, h => by
   obtain ⟨X, Y, Z, T, e, hr⟩ := twN_rep h (fun X Y Z T => plN X Y Z T pl pm pw fun X Y Z T => runN pl pm pw k l X Y Z T); rw [← mul_add, ← Nat.two_mul] at hr; obtain ⟨X1, Y1, Z1, T1, e1, hr1⟩ := plN_rep hr h0 h1 h2 (fun X Y Z T => runN pl pm pw k l X Y Z T); rw [← mul_next] at hr1; obtain ⟨X', Y', Z', T', e', hr'⟩ := runN_rep h0 h1 h2 k l (2 * n + 1) X1 Y1 Z1 T1 hr1; exact ⟨X', Y', Z', T', by show twN x y z _ = _; rw [e, e1, e'], hr'⟩
def isN (qx qy : Nat) (X Y Z T : Nat) : Bool := Nat.beq (nmul qx Z) (X % PN) && Nat.beq (nmul qy Z) (Y % PN)
theorem mul_of_run {px py pl pm pw : Nat} {p : Pt} (hx : p.x = toK px) (hy : p.y = toK py) (h0 : pl = nsub py px) (h1 : pm = nadd py px) (h2 : pw = nmul (nadd DD.toNat DD.toNat) (nmul px py)) (l : List Bool) (n qx qy : Nat) (hn : bitsN l 0 = n)
 (h : runN pl pm pw (isN qx qy) l 0 1 1 0 = true) : (Pt.mul n p).x = toK qx ∧ (Pt.mul n p).y = toK qy := by
 have z0 : toK 0 = 0 := toF_zero; have z1 : toK 1 = 1 := toF_one; have hD : toK DD.toNat = toF DD := by unfold toK; rw [Int.toNat_of_nonneg (by decide)]
 obtain ⟨X, Y, Z, T, e, hr⟩ := runN_rep (p := p) (pl := pl) (pm := pm) (pw := pw) (by rw [h0, toK_sub, hx, hy]) (by rw [h1, toK_add, hx, hy]) (by rw [h2, toK_mul, toK_mul, toK_add, hD, hx, hy]) (isN qx qy) l 0 0 1 1 0 (by
  rw [mul_nought, z0, z1]; have := repP_spread Pt.zero; have e0 : Pt.zero.x = 0 := rfl; have e1 : Pt.zero.y = 1 := rfl; rw [e0, e1] at this; have e2 : (0 : K) * 1 = 0 := by grind
  rw [e2] at this; exact this)
 rw [hn] at hr; rw [e] at h; unfold isN at h; rw [Bool.and_eq_true, Nat.beq_eq, Nat.beq_eq] at h; have ex : toK qx * toK Z = toK X := by rw [← toK_mul, ← toK_mod X, ← h.1]
 have ey : toK qy * toK Z = toK Y := by rw [← toK_mul, ← toK_mod Y, ← h.2]
 have hf := repP_flat hr; have hz : toK Z ≠ 0 := hr.1; have hi := invK_mul hz; rw [← hf.1, ← hf.2, ← ex, ← ey]; generalize invK (toK Z) = c at *; generalize toK Z = z at *; constructor <;> grind
def bx : Nat := 15112221349535400772501151409588531511454012693041857206046113283949847762202
def bY : Nat := 46316835694926478169428394003475163141307993866256225615783033603165251855960
theorem onB : OnC (toF DD) (toF BX) (toF BY) := by unfold OnC; decide +kernel
def Pt.base : Pt := ⟨toF BX, toF BY, onB⟩
theorem base_x : Pt.base.x = toK bx := by decide +kernel
theorem base_y : Pt.base.y = toK bY := by decide +kernel
def bpl : Nat := 31204614345391077396927242593886631629853981173214368409736920319215404093758
def bpm : Nat := 3533012425803781230144052908719740726127014226477800802100354883158534798213
def bpw : Nat := 50237614328228664512531835696112167678046477356841409204013502641986506238568
theorem base_mul (l : List Bool) (n qx qy : Nat) (hn : bitsN l 0 = n) (h : runN bpl bpm bpw (isN qx qy) l 0 1 1 0 = true) : (Pt.mul n Pt.base).x = toK qx ∧ (Pt.mul n Pt.base).y = toK qy :=
 mul_of_run base_x base_y (by decide +kernel) (by decide +kernel) (by decide +kernel) l n qx qy hn h
def Lbits : List Bool := [true, false, false, false, false, false, false, false, false, false, false, false, false, false, false, false, false, false, false, false, false, false, false, false, false, false, false, false, false, false, false, false, false, false, false, false, false, false, false, false, false, false, false, false, false, false, false, false, false, false, false, false, false, false, false, false, false, false, false, false, false, false, false, false, false, false, false, false, false, false, false, false, false, false, false, false, false, false, false, false, false, false, false, false, false, false, false, false, false, false, false, false, false, false, false, false, false, false, false, false, false, false, false, false, false, false, false, false, false, false, false, false, false, false, false, false, false, false, false, false, false, false, false, false, false, false, false, false, true, false, true, false, false, true, true, false, true, true, true, true, false, true, true, true, true, true, false, false, true, true, true, false, true, true, true, true, false, true, false, true, false, false, false, true, false, true, true, true, true, false, true, true, true, true, false, false, true, true, true, false, false, true, true, false, true, false, true, true, false, false, true, false, true, true, false, false, false, false, false, false, true, false, false, true, false, false, true, true, false, false, false, true, true, false, false, false, true, true, false, true, false, false, true, false, true, true, true, false, false, true, true, true, true, false, true, false, true, true, true, false, true, false, false, true, true, true, true, true, false, true, true, false, true]
theorem base_L : Pt.mul LN Pt.base = Pt.zero := by
 have h := base_mul Lbits LN 0 1 (by decide +kernel) (by decide +kernel); refine Pt.same (h.1.trans ?_) (h.2.trans ?_)
 · exact toF_zero
 · exact toF_one
theorem mul_LN (k : Nat) : Pt.mul (k * LN) Pt.base = Pt.zero := by rw [mul_mul, base_L, mul_zero]
theorem mul_modL (n : Nat) : Pt.mul (n % LN) Pt.base = Pt.mul n Pt.base := by
 conv => rhs; rw [← Nat.div_add_mod n LN, mul_add, Nat.mul_comm, mul_LN, zero_add]
end Go.Proofs.YtojfcdjgcgnajaaGreat
