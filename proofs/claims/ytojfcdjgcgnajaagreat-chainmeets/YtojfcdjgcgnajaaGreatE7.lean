/- ed.addendOf -/
import Derived.Test.YtojfcdjgcgnajaaGreatGCM
import Derived.Test.YtojfcdjgcgnajaaGreatGEO
namespace Go.Proofs.YtojfcdjgcgnajaaGreat
open Go.RowKit
set_option linter.unusedSimpArgs false
set_option linter.unusedVariables false
set_option maxRecDepth 20000 in
set_option maxHeartbeats 4000000 in
theorem f_addendOf {p00 p01 : Value} {kx ky : K} (h00 : IsF p00 kx) (h01 : IsF p01 ky) : Gives3 89 #[.agg (catW [p00, p01])] (ky - kx) (ky + kx) ((toF DD + toF DD) * (kx * ky)) := fun w => by
 have H00 : Hid (IsF p00 kx) := h00; have H01 : Hid (IsF p01 ky) := h01; obtain ⟨l00_0, l00_1, l00_2, l00_3, rfl, L00, _⟩ := h00; clear L00; obtain ⟨l01_0, l01_1, l01_2, l01_3, rfl, L01, _⟩ := h01; clear L01; have V0 : Hid (VarS ((w.alloc (.cells (catW [W4 l00_0 l00_1 l00_2 l00_3, W4 l01_0 l01_1 l01_2 l01_3]) 77)).alloc (.cells #[.int .u64 0, .int .u64 0, .int .u64 0, .int .u64 0, .int .u64 0, .int .u64 0, .int .u64 0, .int .u64 0, .int .u64 0, .int .u64 0, .int .u64 0, .int .u64 0] 142)) (w.heap.size) 77 [W4 l00_0 l00_1 l00_2 l00_3, W4 l01_0 l01_1 l01_2 l01_3] ∧ VarS ((w.alloc (.cells (catW [W4 l00_0 l00_1 l00_2 l00_3, W4 l01_0 l01_1 l01_2 l01_3]) 77)).alloc (.cells #[.int .u64 0, .int .u64 0, .int .u64 0, .int .u64 0, .int .u64 0, .int .u64 0, .int .u64 0, .int .u64 0, .int .u64 0, .int .u64 0, .int .u64 0, .int .u64 0] 142)) (w.heap.size + 1) 142 [W4 0 0 0 0, W4 0 0 0 0, W4 0 0 0 0] ∧ Below w.heap.size w ((w.alloc (.cells (catW [W4 l00_0 l00_1 l00_2 l00_3, W4 l01_0 l01_1 l01_2 l01_3]) 77)).alloc (.cells #[.int .u64 0, .int .u64 0, .int .u64 0, .int .u64 0, .int .u64 0, .int .u64 0, .int .u64 0, .int .u64 0, .int .u64 0, .int .u64 0, .int .u64 0, .int .u64 0] 142))) :=
  ⟨⟨words2 H00.out H01.out, heap_old _ _ _ _ (heap_alloc_new _ _)⟩, ⟨words3 isw0 isw0 isw0, by rw [← zero12]; exact heapAt _ _ _ (by simp)⟩, by go_grown⟩
 go_enter Tryz.func89, Tryz.ntmps89
 unfold W4; go_wp2_with fail; generalize ((w.alloc (.cells (catW [W4 l00_0 l00_1 l00_2 l00_3, W4 l01_0 l01_1 l01_2 l01_3]) 77)).alloc (.cells #[.int .u64 0, .int .u64 0, .int .u64 0, .int .u64 0, .int .u64 0, .int .u64 0, .int .u64 0, .int .u64 0, .int .u64 0, .int .u64 0, .int .u64 0, .int .u64 0] 142)) = W0 at V0 ⊢; refine Calls.mono (f_curve _) ?_; rintro e w1 ⟨v1, rfl, h1, b1⟩; have H1 : Hid (IsF v1 (toF DD)) := h1; clear h1; have hb1 := V0.out.2.2.trans (b1.mono V0.out.2.2.size); have hsep : w.heap.size + 1 < w1.heap.size := (V0.out.2.1.kept b1).lt; have V1 : Hid (VarS ((w1.alloc (.cells #[.int .u64 0, .int .u64 0, .int .u64 0, .int .u64 0] 51)).setRow w1.heap.size (catW [v1])) (w.heap.size) 77 [W4 l00_0 l00_1 l00_2 l00_3, W4 l01_0 l01_1 l01_2 l01_3] ∧ VarS ((w1.alloc (.cells #[.int .u64 0, .int .u64 0, .int .u64 0, .int .u64 0] 51)).setRow w1.heap.size (catW [v1])) (w.heap.size + 1) 142 [W4 0 0 0 0, W4 0 0 0 0, W4 0 0 0 0] ∧ VarS ((w1.alloc (.cells #[.int .u64 0, .int .u64 0, .int .u64 0, .int .u64 0] 51)).setRow w1.heap.size (catW [v1])) w1.heap.size 51 [v1] ∧ Below w.heap.size w ((w1.alloc (.cells #[.int .u64 0, .int .u64 0, .int .u64 0, .int .u64 0] 51)).setRow w1.heap.size (catW [v1]))) :=
  ⟨((V0.out.1.kept b1).old _).other (Nat.ne_of_lt (V0.out.1.kept b1).lt) _, ((V0.out.2.1.kept b1).old _).other (Nat.ne_of_lt (V0.out.2.1.kept b1).lt) _, (VarS.new24 w1).put (words1 H1.out), below_setRow (hb1.alloc hb1.size _) hb1.size _⟩
 clear V0 b1 hb1; have hst := (VarS.new24 w1).store (words1 H1.out) rfl info24w; go_wp2_with (first | (refine wpList_store_run rfl 51 _ _ rfl w1.heap.size (catW [v1]) rfl (IsW.cat H1.out) hst ?_)); clear hst; generalize ((w1.alloc (.cells #[.int .u64 0, .int .u64 0, .int .u64 0, .int .u64 0] 51)).setRow w1.heap.size (catW [v1])) = W0 at V1 ⊢; have V0 := V1; clear V1; have g0 := V0.out.1; have hres := V0.out.2.1; have g2 := V0.out.2.2.1; have hBel := V0.out.2.2.2; clear V0; have hw0 : w.heap.size ≤ W0.heap.size := Nat.le_of_lt (Nat.lt_of_le_of_lt (by omega) hres.lt); have lt_g00 := g0.lt; have lt_g20 := g2.lt; have ltr0 := hres.lt; refine wp_region_inv (by kernel_rfl) 21 rfl (fun l a w' => ∃ (β0 β1 β2 β3 β4 β5 β6 β7 β8 β9 β10 β11 β12 β13 β14 β15 β16 β17 β18 β19 β20 : Bool) (x0_4 x0_9 x0_12 x0_17 x0_18 : Value), l = #[β0, β1, β2, β3, β4, β5, β6, β7, β8, β9, β10, β11, β12, β13, β14, β15, β16, β17, β18, β19, β20] ∧ a = ⟨#[.agg (catW [W4 l00_0 l00_1 l00_2 l00_3, W4 l01_0 l01_1 l01_2 l01_3]), .pointer (some ⟨w.heap.size, 0, none⟩), .pointer (some ⟨w.heap.size + 1, 0, none⟩), .pointer (some ⟨w1.heap.size, 0, none⟩), v1, bif β0 then .pointer (some ⟨w.heap.size, 4, none⟩) else undef, bif β1 then W4 l01_0 l01_1 l01_2 l01_3 else undef, bif β2 then .pointer (some ⟨w.heap.size, 0, none⟩) else undef, bif β3 then W4 l00_0 l00_1 l00_2 l00_3 else undef, bif β4 then x0_4 else undef, bif β5 then .pointer (some ⟨w.heap.size, 4, none⟩) else undef, bif β6 then W4 l01_0 l01_1 l01_2 l01_3 else undef, bif β7 then .pointer (some ⟨w.heap.size, 0, none⟩) else undef, bif β8 then W4 l00_0 l00_1 l00_2 l00_3 else undef, bif β9 then x0_9 else undef, bif β10 then v1 else undef, bif β11 then v1 else undef, bif β12 then x0_12 else undef, bif β13 then .pointer (some ⟨w.heap.size, 0, none⟩) else undef, bif β14 then W4 l00_0 l00_1 l00_2 l00_3 else undef, bif β15 then .pointer (some ⟨w.heap.size, 4, none⟩) else undef, bif β16 then W4 l01_0 l01_1 l01_2 l01_3 else undef, bif β17 then x0_17 else undef, bif β18 then x0_18 else undef, bif β19 then .agg (catW [x0_4, x0_9, x0_18]) else undef], []⟩ ∧ Below (w.heap.size) W0 w' ∧ Hid (β4 = true → IsF x0_4 ((ky) - (kx))) ∧ Hid (β9 = true → IsF x0_9 ((ky) + (kx))) ∧ Hid (β12 = true → IsF x0_12 ((toF DD) + (toF DD))) ∧ Hid (β17 = true → IsF x0_17 ((kx) * (ky))) ∧ Hid (β18 = true → IsF x0_18 (((toF DD) + (toF DD)) * ((kx) * (ky)))) ∧ Hid (β19 = true → β4 = true) ∧ Hid (β19 = true → β9 = true) ∧ Hid (β19 = true → β18 = true) ∧ Hid (β20 = true → β4 = true) ∧ Hid (β20 = true → β9 = true) ∧ Hid (β20 = true → β18 = true) ∧ VarS w' (w.heap.size) 77 [W4 l00_0 l00_1 l00_2 l00_3, W4 l01_0 l01_1 l01_2 l01_3] ∧ VarS w' (w1.heap.size) 51 [v1] ∧ VarS w' (w.heap.size + 1) 142 (bif β20 then [x0_4, x0_9, x0_18] else [W4 0 0 0 0, W4 0 0 0 0, W4 0 0 0 0])) ?h00 ?hend0 ?hstep0
 case h00 => exact ⟨false, false, false, false, false, false, false, false, false, false, false, false, false, false, false, false, false, false, false, false, false, undef, undef, undef, undef, undef, rfl, rfl, Below.drew (Below.refl _ _), (fun h => by cases h), (fun h => by cases h), (fun h => by cases h), (fun h => by cases h), (fun h => by cases h), (fun h => by cases h), (fun h => by cases h), (fun h => by cases h), (fun h => by cases h), (fun h => by cases h), (fun h => by cases h), g0.drew, g2.drew, hres.drew⟩
 case hend0 =>
  intro l a w' hs hI hr0; obtain ⟨β0, β1, β2, β3, β4, β5, β6, β7, β8, β9, β10, β11, β12, β13, β14, β15, β16, β17, β18, β19, β20, x0_4, x0_9, x0_12, x0_17, x0_18, rfl, rfl, hB, hc0_4, hc0_9, hc0_12, hc0_17, hc0_18, hm0_19_4, hm0_19_9, hm0_19_18, hm0_20_4, hm0_20_9, hm0_20_18, g0, g2, hr⟩ := hI; have hall := ready_none (by rfl) (depsLow_spec (by kernel_rfl)) hr0; obtain rfl : β0 = true := hall 0 (by decide); obtain rfl : β1 = true := hall 1 (by decide); obtain rfl : β2 = true := hall 2 (by decide); obtain rfl : β3 = true := hall 3 (by decide); obtain rfl : β4 = true := hall 4 (by decide); obtain rfl : β5 = true := hall 5 (by decide); obtain rfl : β6 = true := hall 6 (by decide); obtain rfl : β7 = true := hall 7 (by decide); obtain rfl : β8 = true := hall 8 (by decide); obtain rfl : β9 = true := hall 9 (by decide); obtain rfl : β10 = true := hall 10 (by decide); obtain rfl : β11 = true := hall 11 (by decide); obtain rfl : β12 = true := hall 12 (by decide); obtain rfl : β13 = true := hall 13 (by decide); obtain rfl : β14 = true := hall 14 (by decide); obtain rfl : β15 = true := hall 15 (by decide); obtain rfl : β16 = true := hall 16 (by decide); obtain rfl : β17 = true := hall 17 (by decide); obtain rfl : β18 = true := hall 18 (by decide); obtain rfl : β19 = true := hall 19 (by decide); obtain rfl : β20 = true := hall 20 (by decide); clear hall hr0 hs
  replace hc0_4 := hc0_4.out rfl
  replace hc0_9 := hc0_9.out rfl
  replace hc0_12 := hc0_12.out rfl
  replace hc0_17 := hc0_17.out rfl
  replace hc0_18 := hc0_18.out rfl
  simp only [cond_true] at hr ⊢; have hBel := hBel.trans (hB.mono (Nat.le_refl _)); have hl := load80 hr; go_wp2; exact bodyPost_ret (v := .agg (catW [x0_4, x0_9, x0_18])) (by simp [results, Tryz.results89, asAddr, hl]) rfl ⟨_, _, _, rfl, ⟨hc0_4, hc0_9, hc0_18⟩, hBel⟩
 case hstep0 =>
  intro i l a w' hs hI hi; obtain ⟨β0, β1, β2, β3, β4, β5, β6, β7, β8, β9, β10, β11, β12, β13, β14, β15, β16, β17, β18, β19, β20, x0_4, x0_9, x0_12, x0_17, x0_18, rfl, rfl, hB, hc0_4, hc0_9, hc0_12, hc0_17, hc0_18, hm0_19_4, hm0_19_9, hm0_19_18, hm0_20_4, hm0_20_9, hm0_20_18, g0, g2, hr⟩ := hI; obtain ⟨hlt, hun, _⟩ := ready_mem hi; have hlt' : i < 21 := hlt; clear hlt hs; have hcs : i = 0 ∨ i = 1 ∨ i = 2 ∨ i = 3 ∨ i = 4 ∨ i = 5 ∨ i = 6 ∨ i = 7 ∨ i = 8 ∨ i = 9 ∨ i = 10 ∨ i = 11 ∨ i = 12 ∨ i = 13 ∨ i = 14 ∨ i = 15 ∨ i = 16 ∨ i = 17 ∨ i = 18 ∨ i = 19 ∨ i = 20 := by omega
  clear hlt'; rcases hcs with rfl | rfl | rfl | rfl | rfl | rfl | rfl | rfl | rfl | rfl | rfl | rfl | rfl | rfl | rfl | rfl | rfl | rfl | rfl | rfl | rfl
  · obtain rfl : β0 = false := hun
    clear hi; try simp only [cond_true, cond_false]
    refine ws (fun Kx hK => ?_); refine step_yield (v := .pointer (some ⟨w.heap.size, 4, none⟩)) (by rfl) ?_ ?_
    · go_simp
    · exact hK.out _ _ ⟨true, β1, β2, β3, β4, β5, β6, β7, β8, β9, β10, β11, β12, β13, β14, β15, β16, β17, β18, β19, β20, x0_4, x0_9, x0_12, x0_17, x0_18, rfl, rfl, hB, hc0_4, hc0_9, hc0_12, hc0_17, hc0_18, hm0_19_4, hm0_19_9, hm0_19_18, hm0_20_4, hm0_20_9, hm0_20_18, g0, g2, hr⟩
  · obtain rfl : β1 = false := hun
    obtain rfl : β0 = true := ready_dep (k := 0) hi rfl rfl rfl; clear hi; try simp only [cond_true, cond_false]
    refine ws (fun Kx hK => ?_); refine step_yield (v := W4 l01_0 l01_1 l01_2 l01_3) (by rfl) ?_ ?_
    · exact run_load_exec 51 _ rfl _ rfl (g0.part 1 rfl)
    · exact hK.out _ _ ⟨true, true, β2, β3, β4, β5, β6, β7, β8, β9, β10, β11, β12, β13, β14, β15, β16, β17, β18, β19, β20, x0_4, x0_9, x0_12, x0_17, x0_18, rfl, rfl, hB, hc0_4, hc0_9, hc0_12, hc0_17, hc0_18, hm0_19_4, hm0_19_9, hm0_19_18, hm0_20_4, hm0_20_9, hm0_20_18, g0, g2, hr⟩
  · obtain rfl : β2 = false := hun
    clear hi; try simp only [cond_true, cond_false]
    refine ws (fun Kx hK => ?_); refine step_yield (v := .pointer (some ⟨w.heap.size, 0, none⟩)) (by rfl) ?_ ?_
    · go_simp
    · exact hK.out _ _ ⟨β0, β1, true, β3, β4, β5, β6, β7, β8, β9, β10, β11, β12, β13, β14, β15, β16, β17, β18, β19, β20, x0_4, x0_9, x0_12, x0_17, x0_18, rfl, rfl, hB, hc0_4, hc0_9, hc0_12, hc0_17, hc0_18, hm0_19_4, hm0_19_9, hm0_19_18, hm0_20_4, hm0_20_9, hm0_20_18, g0, g2, hr⟩
  · obtain rfl : β3 = false := hun
    obtain rfl : β2 = true := ready_dep (k := 0) hi rfl rfl rfl; clear hi; try simp only [cond_true, cond_false]
    refine ws (fun Kx hK => ?_); refine step_yield (v := W4 l00_0 l00_1 l00_2 l00_3) (by rfl) ?_ ?_
    · exact run_load_exec 51 _ rfl _ rfl (g0.part 0 rfl)
    · exact hK.out _ _ ⟨β0, β1, true, true, β4, β5, β6, β7, β8, β9, β10, β11, β12, β13, β14, β15, β16, β17, β18, β19, β20, x0_4, x0_9, x0_12, x0_17, x0_18, rfl, rfl, hB, hc0_4, hc0_9, hc0_12, hc0_17, hc0_18, hm0_19_4, hm0_19_9, hm0_19_18, hm0_20_4, hm0_20_9, hm0_20_18, g0, g2, hr⟩
  · obtain rfl : β4 = false := hun
    obtain rfl : β1 = true := ready_dep (k := 0) hi rfl rfl rfl; obtain rfl : β3 = true := ready_dep (k := 1) hi rfl rfl rfl; obtain rfl : β19 = false := Bool.eq_false_iff.2 (fun h => by have := hm0_19_4.out h; cases this); obtain rfl : β20 = false := Bool.eq_false_iff.2 (fun h => by have := hm0_20_4.out h; cases this); clear hi; try simp only [cond_true, cond_false]
    refine ws (fun Kx hK => ?_); go_simp; refine Calls.mono (f_sub H01.out H00.out _) ?_; rintro e w2 ⟨v, rfl, hv, hb2⟩; go_wp2_with fail; exact hK.out _ _ ⟨β0, true, β2, true, true, β5, β6, β7, β8, β9, β10, β11, β12, β13, β14, β15, β16, β17, β18, false, false, v, x0_9, x0_12, x0_17, x0_18, rfl, rfl, (hB.trans (hb2.mono (Nat.le_trans hw0 hB.size))), (fun _ => hv), hc0_9, hc0_12, hc0_17, hc0_18, (fun _ => rfl), hm0_19_9, hm0_19_18, (fun _ => rfl), hm0_20_9, hm0_20_18, (g0.kept hb2), (g2.kept hb2), (hr.kept hb2)⟩
  · obtain rfl : β5 = false := hun
    clear hi; try simp only [cond_true, cond_false]
    refine ws (fun Kx hK => ?_); refine step_yield (v := .pointer (some ⟨w.heap.size, 4, none⟩)) (by rfl) ?_ ?_
    · go_simp
    · exact hK.out _ _ ⟨β0, β1, β2, β3, β4, true, β6, β7, β8, β9, β10, β11, β12, β13, β14, β15, β16, β17, β18, β19, β20, x0_4, x0_9, x0_12, x0_17, x0_18, rfl, rfl, hB, hc0_4, hc0_9, hc0_12, hc0_17, hc0_18, hm0_19_4, hm0_19_9, hm0_19_18, hm0_20_4, hm0_20_9, hm0_20_18, g0, g2, hr⟩
  · obtain rfl : β6 = false := hun
    obtain rfl : β5 = true := ready_dep (k := 0) hi rfl rfl rfl; clear hi; try simp only [cond_true, cond_false]
    refine ws (fun Kx hK => ?_); refine step_yield (v := W4 l01_0 l01_1 l01_2 l01_3) (by rfl) ?_ ?_
    · exact run_load_exec 51 _ rfl _ rfl (g0.part 1 rfl)
    · exact hK.out _ _ ⟨β0, β1, β2, β3, β4, true, true, β7, β8, β9, β10, β11, β12, β13, β14, β15, β16, β17, β18, β19, β20, x0_4, x0_9, x0_12, x0_17, x0_18, rfl, rfl, hB, hc0_4, hc0_9, hc0_12, hc0_17, hc0_18, hm0_19_4, hm0_19_9, hm0_19_18, hm0_20_4, hm0_20_9, hm0_20_18, g0, g2, hr⟩
  · obtain rfl : β7 = false := hun
    clear hi; try simp only [cond_true, cond_false]
    refine ws (fun Kx hK => ?_); refine step_yield (v := .pointer (some ⟨w.heap.size, 0, none⟩)) (by rfl) ?_ ?_
    · go_simp
    · exact hK.out _ _ ⟨β0, β1, β2, β3, β4, β5, β6, true, β8, β9, β10, β11, β12, β13, β14, β15, β16, β17, β18, β19, β20, x0_4, x0_9, x0_12, x0_17, x0_18, rfl, rfl, hB, hc0_4, hc0_9, hc0_12, hc0_17, hc0_18, hm0_19_4, hm0_19_9, hm0_19_18, hm0_20_4, hm0_20_9, hm0_20_18, g0, g2, hr⟩
  · obtain rfl : β8 = false := hun
    obtain rfl : β7 = true := ready_dep (k := 0) hi rfl rfl rfl; clear hi; try simp only [cond_true, cond_false]
    refine ws (fun Kx hK => ?_); refine step_yield (v := W4 l00_0 l00_1 l00_2 l00_3) (by rfl) ?_ ?_
    · exact run_load_exec 51 _ rfl _ rfl (g0.part 0 rfl)
    · exact hK.out _ _ ⟨β0, β1, β2, β3, β4, β5, β6, true, true, β9, β10, β11, β12, β13, β14, β15, β16, β17, β18, β19, β20, x0_4, x0_9, x0_12, x0_17, x0_18, rfl, rfl, hB, hc0_4, hc0_9, hc0_12, hc0_17, hc0_18, hm0_19_4, hm0_19_9, hm0_19_18, hm0_20_4, hm0_20_9, hm0_20_18, g0, g2, hr⟩
  · obtain rfl : β9 = false := hun
    obtain rfl : β6 = true := ready_dep (k := 0) hi rfl rfl rfl; obtain rfl : β8 = true := ready_dep (k := 1) hi rfl rfl rfl; obtain rfl : β19 = false := Bool.eq_false_iff.2 (fun h => by have := hm0_19_9.out h; cases this); obtain rfl : β20 = false := Bool.eq_false_iff.2 (fun h => by have := hm0_20_9.out h; cases this); clear hi; try simp only [cond_true, cond_false]
    refine ws (fun Kx hK => ?_); go_simp; refine Calls.mono (f_add H01.out H00.out _) ?_; rintro e w2 ⟨v, rfl, hv, hb2⟩; go_wp2_with fail; exact hK.out _ _ ⟨β0, β1, β2, β3, β4, β5, true, β7, true, true, β10, β11, β12, β13, β14, β15, β16, β17, β18, false, false, x0_4, v, x0_12, x0_17, x0_18, rfl, rfl, (hB.trans (hb2.mono (Nat.le_trans hw0 hB.size))), hc0_4, (fun _ => hv), hc0_12, hc0_17, hc0_18, hm0_19_4, (fun _ => rfl), hm0_19_18, hm0_20_4, (fun _ => rfl), hm0_20_18, (g0.kept hb2), (g2.kept hb2), (hr.kept hb2)⟩
  · obtain rfl : β10 = false := hun
    clear hi; try simp only [cond_true, cond_false]
    refine ws (fun Kx hK => ?_); refine step_yield (v := v1) (by rfl) ?_ ?_
    · exact run_load_exec 51 _ rfl _ rfl (g2.part 0 rfl)
    · exact hK.out _ _ ⟨β0, β1, β2, β3, β4, β5, β6, β7, β8, β9, true, β11, β12, β13, β14, β15, β16, β17, β18, β19, β20, x0_4, x0_9, x0_12, x0_17, x0_18, rfl, rfl, hB, hc0_4, hc0_9, hc0_12, hc0_17, hc0_18, hm0_19_4, hm0_19_9, hm0_19_18, hm0_20_4, hm0_20_9, hm0_20_18, g0, g2, hr⟩
  · obtain rfl : β11 = false := hun
    clear hi; try simp only [cond_true, cond_false]
    refine ws (fun Kx hK => ?_); refine step_yield (v := v1) (by rfl) ?_ ?_
    · exact run_load_exec 51 _ rfl _ rfl (g2.part 0 rfl)
    · exact hK.out _ _ ⟨β0, β1, β2, β3, β4, β5, β6, β7, β8, β9, β10, true, β12, β13, β14, β15, β16, β17, β18, β19, β20, x0_4, x0_9, x0_12, x0_17, x0_18, rfl, rfl, hB, hc0_4, hc0_9, hc0_12, hc0_17, hc0_18, hm0_19_4, hm0_19_9, hm0_19_18, hm0_20_4, hm0_20_9, hm0_20_18, g0, g2, hr⟩
  · obtain rfl : β12 = false := hun
    obtain rfl : β10 = true := ready_dep (k := 0) hi rfl rfl rfl; obtain rfl : β11 = true := ready_dep (k := 1) hi rfl rfl rfl; clear hi; try simp only [cond_true, cond_false]
    refine ws (fun Kx hK => ?_); go_simp; refine Calls.mono (f_add H1.out H1.out _) ?_; rintro e w2 ⟨v, rfl, hv, hb2⟩; go_wp2_with fail; exact hK.out _ _ ⟨β0, β1, β2, β3, β4, β5, β6, β7, β8, β9, true, true, true, β13, β14, β15, β16, β17, β18, β19, β20, x0_4, x0_9, v, x0_17, x0_18, rfl, rfl, (hB.trans (hb2.mono (Nat.le_trans hw0 hB.size))), hc0_4, hc0_9, (fun _ => hv), hc0_17, hc0_18, hm0_19_4, hm0_19_9, hm0_19_18, hm0_20_4, hm0_20_9, hm0_20_18, (g0.kept hb2), (g2.kept hb2), (hr.kept hb2)⟩
  · obtain rfl : β13 = false := hun
    clear hi; try simp only [cond_true, cond_false]
    refine ws (fun Kx hK => ?_); refine step_yield (v := .pointer (some ⟨w.heap.size, 0, none⟩)) (by rfl) ?_ ?_
    · go_simp
    · exact hK.out _ _ ⟨β0, β1, β2, β3, β4, β5, β6, β7, β8, β9, β10, β11, β12, true, β14, β15, β16, β17, β18, β19, β20, x0_4, x0_9, x0_12, x0_17, x0_18, rfl, rfl, hB, hc0_4, hc0_9, hc0_12, hc0_17, hc0_18, hm0_19_4, hm0_19_9, hm0_19_18, hm0_20_4, hm0_20_9, hm0_20_18, g0, g2, hr⟩
  · obtain rfl : β14 = false := hun
    obtain rfl : β13 = true := ready_dep (k := 0) hi rfl rfl rfl; clear hi; try simp only [cond_true, cond_false]
    refine ws (fun Kx hK => ?_); refine step_yield (v := W4 l00_0 l00_1 l00_2 l00_3) (by rfl) ?_ ?_
    · exact run_load_exec 51 _ rfl _ rfl (g0.part 0 rfl)
    · exact hK.out _ _ ⟨β0, β1, β2, β3, β4, β5, β6, β7, β8, β9, β10, β11, β12, true, true, β15, β16, β17, β18, β19, β20, x0_4, x0_9, x0_12, x0_17, x0_18, rfl, rfl, hB, hc0_4, hc0_9, hc0_12, hc0_17, hc0_18, hm0_19_4, hm0_19_9, hm0_19_18, hm0_20_4, hm0_20_9, hm0_20_18, g0, g2, hr⟩
  · obtain rfl : β15 = false := hun
    clear hi; try simp only [cond_true, cond_false]
    refine ws (fun Kx hK => ?_); refine step_yield (v := .pointer (some ⟨w.heap.size, 4, none⟩)) (by rfl) ?_ ?_
    · go_simp
    · exact hK.out _ _ ⟨β0, β1, β2, β3, β4, β5, β6, β7, β8, β9, β10, β11, β12, β13, β14, true, β16, β17, β18, β19, β20, x0_4, x0_9, x0_12, x0_17, x0_18, rfl, rfl, hB, hc0_4, hc0_9, hc0_12, hc0_17, hc0_18, hm0_19_4, hm0_19_9, hm0_19_18, hm0_20_4, hm0_20_9, hm0_20_18, g0, g2, hr⟩
  · obtain rfl : β16 = false := hun
    obtain rfl : β15 = true := ready_dep (k := 0) hi rfl rfl rfl; clear hi; try simp only [cond_true, cond_false]
    refine ws (fun Kx hK => ?_); refine step_yield (v := W4 l01_0 l01_1 l01_2 l01_3) (by rfl) ?_ ?_
    · exact run_load_exec 51 _ rfl _ rfl (g0.part 1 rfl)
    · exact hK.out _ _ ⟨β0, β1, β2, β3, β4, β5, β6, β7, β8, β9, β10, β11, β12, β13, β14, true, true, β17, β18, β19, β20, x0_4, x0_9, x0_12, x0_17, x0_18, rfl, rfl, hB, hc0_4, hc0_9, hc0_12, hc0_17, hc0_18, hm0_19_4, hm0_19_9, hm0_19_18, hm0_20_4, hm0_20_9, hm0_20_18, g0, g2, hr⟩
  · obtain rfl : β17 = false := hun
    obtain rfl : β14 = true := ready_dep (k := 0) hi rfl rfl rfl; obtain rfl : β16 = true := ready_dep (k := 1) hi rfl rfl rfl; clear hi; try simp only [cond_true, cond_false]
    refine ws (fun Kx hK => ?_); go_simp; refine Calls.mono (f_mul H00.out H01.out _) ?_; rintro e w2 ⟨v, rfl, hv, hb2⟩; go_wp2_with fail; exact hK.out _ _ ⟨β0, β1, β2, β3, β4, β5, β6, β7, β8, β9, β10, β11, β12, β13, true, β15, true, true, β18, β19, β20, x0_4, x0_9, x0_12, v, x0_18, rfl, rfl, (hB.trans (hb2.mono (Nat.le_trans hw0 hB.size))), hc0_4, hc0_9, hc0_12, (fun _ => hv), hc0_18, hm0_19_4, hm0_19_9, hm0_19_18, hm0_20_4, hm0_20_9, hm0_20_18, (g0.kept hb2), (g2.kept hb2), (hr.kept hb2)⟩
  · obtain rfl : β18 = false := hun
    obtain rfl : β12 = true := ready_dep (k := 0) hi rfl rfl rfl; obtain rfl : β17 = true := ready_dep (k := 1) hi rfl rfl rfl; obtain rfl : β19 = false := Bool.eq_false_iff.2 (fun h => by have := hm0_19_18.out h; cases this); obtain rfl : β20 = false := Bool.eq_false_iff.2 (fun h => by have := hm0_20_18.out h; cases this); clear hi; try simp only [cond_true, cond_false]
    refine ws (fun Kx hK => ?_)
    replace hc0_17 := hc0_17.out rfl
    replace hc0_12 := hc0_12.out rfl
    go_simp; refine Calls.mono (f_mul hc0_12 hc0_17 _) ?_
    rintro e w2 ⟨v, rfl, hv, hb2⟩; go_wp2_with fail; exact hK.out _ _ ⟨β0, β1, β2, β3, β4, β5, β6, β7, β8, β9, β10, β11, true, β13, β14, β15, β16, true, true, false, false, x0_4, x0_9, x0_12, x0_17, v, rfl, rfl, (hB.trans (hb2.mono (Nat.le_trans hw0 hB.size))), hc0_4, hc0_9, (fun _ => hc0_12), (fun _ => hc0_17), (fun _ => hv), hm0_19_4, hm0_19_9, (fun _ => rfl), hm0_20_4, hm0_20_9, (fun _ => rfl), (g0.kept hb2), (g2.kept hb2), (hr.kept hb2)⟩
  · obtain rfl : β19 = false := hun
    obtain rfl : β4 = true := ready_dep (k := 0) hi rfl rfl rfl; obtain rfl : β9 = true := ready_dep (k := 1) hi rfl rfl rfl; obtain rfl : β18 = true := ready_dep (k := 2) hi rfl rfl rfl; clear hi; try simp only [cond_true, cond_false]
    refine ws (fun Kx hK => ?_); refine step_yield (v := .agg (catW [x0_4, x0_9, x0_18])) (by rfl) ?_ ?_
    · obtain ⟨p00, p01, p02, p03, rfl, _, _⟩ := (hc0_4.out rfl)
      obtain ⟨p10, p11, p12, p13, rfl, _, _⟩ := (hc0_9.out rfl)
      obtain ⟨p20, p21, p22, p23, rfl, _, _⟩ := (hc0_18.out rfl)
      go_simp
      kernel_rfl
    · exact hK.out _ _ ⟨β0, β1, β2, β3, true, β5, β6, β7, β8, true, β10, β11, β12, β13, β14, β15, β16, β17, true, true, β20, x0_4, x0_9, x0_12, x0_17, x0_18, rfl, rfl, hB, hc0_4, hc0_9, hc0_12, hc0_17, hc0_18, (fun _ => rfl), (fun _ => rfl), (fun _ => rfl), (fun _ => rfl), (fun _ => rfl), (fun _ => rfl), g0, g2, hr⟩
  · obtain rfl : β20 = false := hun
    obtain rfl : β4 = true := ready_dep (k := 6) hi rfl rfl rfl; obtain rfl : β9 = true := ready_dep (k := 11) hi rfl rfl rfl; obtain rfl : β18 = true := ready_dep (k := 1) hi rfl rfl rfl; obtain rfl : β19 = true := ready_dep (k := 0) hi rfl rfl rfl; clear hi; try simp only [cond_true, cond_false]
    refine ws (fun Kx hK => ?_); refine step_store_S (us := [x0_4, x0_9, x0_18]) (vs := [W4 0 0 0 0, W4 0 0 0 0, W4 0 0 0 0]) (by rfl) 142 _ _ rfl (w.heap.size + 1) rfl rfl (words3 (hc0_4.out rfl) (hc0_9.out rfl) (hc0_18.out rfl)) rfl (by kernel_rfl) hr ?_; exact hK.out _ _ ⟨β0, β1, β2, β3, true, β5, β6, β7, β8, true, β10, β11, β12, β13, β14, β15, β16, β17, true, true, true, x0_4, x0_9, x0_12, x0_17, x0_18, rfl, rfl, (below_setRow hB (by omega) _), hc0_4, hc0_9, hc0_12, hc0_17, hc0_18, (fun _ => rfl), (fun _ => rfl), (fun _ => rfl), (fun _ => rfl), (fun _ => rfl), (fun _ => rfl), (g0.other (by omega) _), (g2.other (by omega) _), (hr.put (words3 (hc0_4.out rfl) (hc0_9.out rfl) (hc0_18.out rfl)))⟩
end Go.Proofs.YtojfcdjgcgnajaaGreat
