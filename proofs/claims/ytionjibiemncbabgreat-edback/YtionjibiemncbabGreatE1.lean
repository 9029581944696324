/- ed.joined -/
import Derived.Test.YtionjibiemncbabGreatGShH1
import Derived.Test.YtionjibiemncbabGreatGE0
set_option linter.unusedSimpArgs false
set_option linter.unusedVariables false
namespace Go.Proofs.YtionjibiemncbabGreat
open Go.RowKit
set_option maxRecDepth 20000 in
set_option maxHeartbeats 4000000 in
theorem f_joined {p00 p10 p20 p30 : Value} {ka kb kc kd : K} (h00 : IsF p00 ka) (h10 : IsF p10 kb) (h20 : IsF p20 kc) (h30 : IsF p30 kd) : Gives4 79 #[p00, p10, p20, p30] (ka * kd) (kb * kc) (kc * kd) (ka * kb) := fun w => by
  have H00 : Hid (IsF p00 ka) := h00
  have H10 : Hid (IsF p10 kb) := h10
  have H20 : Hid (IsF p20 kc) := h20
  have H30 : Hid (IsF p30 kd) := h30
  obtain ⟨l00_0, l00_1, l00_2, l00_3, rfl, L00, _⟩ := h00
  clear L00
  obtain ⟨l10_0, l10_1, l10_2, l10_3, rfl, L10, _⟩ := h10
  clear L10
  obtain ⟨l20_0, l20_1, l20_2, l20_3, rfl, L20, _⟩ := h20
  clear L20
  obtain ⟨l30_0, l30_1, l30_2, l30_3, rfl, L30, _⟩ := h30
  clear L30
  have V0 : Hid (VarS (((((w.alloc (.cells (C4 l00_0 l00_1 l00_2 l00_3) 24)).alloc (.cells (C4 l10_0 l10_1 l10_2 l10_3) 24)).alloc (.cells (C4 l20_0 l20_1 l20_2 l20_3) 24)).alloc (.cells (C4 l30_0 l30_1 l30_2 l30_3) 24)).alloc (.cells #[.int .u64 0, .int .u64 0, .int .u64 0, .int .u64 0, .int .u64 0, .int .u64 0, .int .u64 0, .int .u64 0, .int .u64 0, .int .u64 0, .int .u64 0, .int .u64 0, .int .u64 0, .int .u64 0, .int .u64 0, .int .u64 0] 87)) (w.heap.size) 24 [W4 l00_0 l00_1 l00_2 l00_3] ∧ VarS (((((w.alloc (.cells (C4 l00_0 l00_1 l00_2 l00_3) 24)).alloc (.cells (C4 l10_0 l10_1 l10_2 l10_3) 24)).alloc (.cells (C4 l20_0 l20_1 l20_2 l20_3) 24)).alloc (.cells (C4 l30_0 l30_1 l30_2 l30_3) 24)).alloc (.cells #[.int .u64 0, .int .u64 0, .int .u64 0, .int .u64 0, .int .u64 0, .int .u64 0, .int .u64 0, .int .u64 0, .int .u64 0, .int .u64 0, .int .u64 0, .int .u64 0, .int .u64 0, .int .u64 0, .int .u64 0, .int .u64 0] 87)) (w.heap.size + 1) 24 [W4 l10_0 l10_1 l10_2 l10_3] ∧ VarS (((((w.alloc (.cells (C4 l00_0 l00_1 l00_2 l00_3) 24)).alloc (.cells (C4 l10_0 l10_1 l10_2 l10_3) 24)).alloc (.cells (C4 l20_0 l20_1 l20_2 l20_3) 24)).alloc (.cells (C4 l30_0 l30_1 l30_2 l30_3) 24)).alloc (.cells #[.int .u64 0, .int .u64 0, .int .u64 0, .int .u64 0, .int .u64 0, .int .u64 0, .int .u64 0, .int .u64 0, .int .u64 0, .int .u64 0, .int .u64 0, .int .u64 0, .int .u64 0, .int .u64 0, .int .u64 0, .int .u64 0] 87)) (w.heap.size + 2) 24 [W4 l20_0 l20_1 l20_2 l20_3] ∧ VarS (((((w.alloc (.cells (C4 l00_0 l00_1 l00_2 l00_3) 24)).alloc (.cells (C4 l10_0 l10_1 l10_2 l10_3) 24)).alloc (.cells (C4 l20_0 l20_1 l20_2 l20_3) 24)).alloc (.cells (C4 l30_0 l30_1 l30_2 l30_3) 24)).alloc (.cells #[.int .u64 0, .int .u64 0, .int .u64 0, .int .u64 0, .int .u64 0, .int .u64 0, .int .u64 0, .int .u64 0, .int .u64 0, .int .u64 0, .int .u64 0, .int .u64 0, .int .u64 0, .int .u64 0, .int .u64 0, .int .u64 0] 87)) (w.heap.size + 3) 24 [W4 l30_0 l30_1 l30_2 l30_3] ∧ VarS (((((w.alloc (.cells (C4 l00_0 l00_1 l00_2 l00_3) 24)).alloc (.cells (C4 l10_0 l10_1 l10_2 l10_3) 24)).alloc (.cells (C4 l20_0 l20_1 l20_2 l20_3) 24)).alloc (.cells (C4 l30_0 l30_1 l30_2 l30_3) 24)).alloc (.cells #[.int .u64 0, .int .u64 0, .int .u64 0, .int .u64 0, .int .u64 0, .int .u64 0, .int .u64 0, .int .u64 0, .int .u64 0, .int .u64 0, .int .u64 0, .int .u64 0, .int .u64 0, .int .u64 0, .int .u64 0, .int .u64 0] 87)) (w.heap.size + 4) 87 [W4 0 0 0 0, W4 0 0 0 0, W4 0 0 0 0, W4 0 0 0 0] ∧ Below w.heap.size w (((((w.alloc (.cells (C4 l00_0 l00_1 l00_2 l00_3) 24)).alloc (.cells (C4 l10_0 l10_1 l10_2 l10_3) 24)).alloc (.cells (C4 l20_0 l20_1 l20_2 l20_3) 24)).alloc (.cells (C4 l30_0 l30_1 l30_2 l30_3) 24)).alloc (.cells #[.int .u64 0, .int .u64 0, .int .u64 0, .int .u64 0, .int .u64 0, .int .u64 0, .int .u64 0, .int .u64 0, .int .u64 0, .int .u64 0, .int .u64 0, .int .u64 0, .int .u64 0, .int .u64 0, .int .u64 0, .int .u64 0] 87))) :=
    ⟨⟨words1 H00.out, heap_old _ _ _ _ (heap_old _ _ _ _ (heap_old _ _ _ _ (heap_old _ _ _ _ (heap_alloc_new _ _))))⟩, ⟨words1 H10.out, heap_old _ _ _ _ (heap_old _ _ _ _ (heap_old _ _ _ _ (heapAt _ _ _ (by simp))))⟩, ⟨words1 H20.out, heap_old _ _ _ _ (heap_old _ _ _ _ (heapAt _ _ _ (by simp)))⟩, ⟨words1 H30.out, heap_old _ _ _ _ (heapAt _ _ _ (by simp))⟩, ⟨words4 isw0 isw0 isw0 isw0, by rw [← zero16w]; exact heapAt _ _ _ (by simp)⟩, by go_grown⟩
  go_enter Tryz.func79, Tryz.ntmps79
  unfold W4
  go_wp2
  generalize (((((w.alloc (.cells (C4 l00_0 l00_1 l00_2 l00_3) 24)).alloc (.cells (C4 l10_0 l10_1 l10_2 l10_3) 24)).alloc (.cells (C4 l20_0 l20_1 l20_2 l20_3) 24)).alloc (.cells (C4 l30_0 l30_1 l30_2 l30_3) 24)).alloc (.cells #[.int .u64 0, .int .u64 0, .int .u64 0, .int .u64 0, .int .u64 0, .int .u64 0, .int .u64 0, .int .u64 0, .int .u64 0, .int .u64 0, .int .u64 0, .int .u64 0, .int .u64 0, .int .u64 0, .int .u64 0, .int .u64 0] 87)) = W0 at V0 ⊢
  have g0 := V0.out.1
  have g1 := V0.out.2.1
  have g2 := V0.out.2.2.1
  have g3 := V0.out.2.2.2.1
  have hres := V0.out.2.2.2.2.1
  have hBel := V0.out.2.2.2.2.2
  clear V0
  have hw0 : w.heap.size ≤ W0.heap.size := Nat.le_of_lt (Nat.lt_of_le_of_lt (by omega) hres.lt)
  have lt_g00 := g0.lt
  have lt_g10 := g1.lt
  have lt_g20 := g2.lt
  have lt_g30 := g3.lt
  have ltr0 := hres.lt
  refine wp_region_inv (by kernel_rfl) 14 rfl (fun l a w' => ∃ (β0 β1 β2 β3 β4 β5 β6 β7 β8 β9 β10 β11 β12 β13 : Bool) (x0_2 x0_5 x0_8 x0_11 : Value), l = #[β0, β1, β2, β3, β4, β5, β6, β7, β8, β9, β10, β11, β12, β13] ∧ a = ⟨#[W4 l00_0 l00_1 l00_2 l00_3, W4 l10_0 l10_1 l10_2 l10_3, W4 l20_0 l20_1 l20_2 l20_3, W4 l30_0 l30_1 l30_2 l30_3, .pointer (some ⟨w.heap.size, 0, none⟩), .pointer (some ⟨w.heap.size + 1, 0, none⟩), .pointer (some ⟨w.heap.size + 2, 0, none⟩), .pointer (some ⟨w.heap.size + 3, 0, none⟩), .pointer (some ⟨w.heap.size + 4, 0, none⟩), bif β0 then W4 l00_0 l00_1 l00_2 l00_3 else undef, bif β1 then W4 l30_0 l30_1 l30_2 l30_3 else undef, bif β2 then x0_2 else undef, bif β3 then W4 l10_0 l10_1 l10_2 l10_3 else undef, bif β4 then W4 l20_0 l20_1 l20_2 l20_3 else undef, bif β5 then x0_5 else undef, bif β6 then W4 l20_0 l20_1 l20_2 l20_3 else undef, bif β7 then W4 l30_0 l30_1 l30_2 l30_3 else undef, bif β8 then x0_8 else undef, bif β9 then W4 l00_0 l00_1 l00_2 l00_3 else undef, bif β10 then W4 l10_0 l10_1 l10_2 l10_3 else undef, bif β11 then x0_11 else undef, bif β12 then .agg (catW [x0_2, x0_5, x0_8, x0_11]) else undef], []⟩ ∧ Below (w.heap.size) W0 w' ∧ (β2 = true → IsF x0_2 ((ka) * (kd))) ∧ (β5 = true → IsF x0_5 ((kb) * (kc))) ∧ (β8 = true → IsF x0_8 ((kc) * (kd))) ∧ (β11 = true → IsF x0_11 ((ka) * (kb))) ∧ (β12 = true → β2 = true) ∧ (β12 = true → β5 = true) ∧ (β12 = true → β8 = true) ∧ (β12 = true → β11 = true) ∧ (β13 = true → β2 = true) ∧ (β13 = true → β5 = true) ∧ (β13 = true → β8 = true) ∧ (β13 = true → β11 = true) ∧ VarS w' (w.heap.size) 24 [W4 l00_0 l00_1 l00_2 l00_3] ∧ VarS w' (w.heap.size + 1) 24 [W4 l10_0 l10_1 l10_2 l10_3] ∧ VarS w' (w.heap.size + 2) 24 [W4 l20_0 l20_1 l20_2 l20_3] ∧ VarS w' (w.heap.size + 3) 24 [W4 l30_0 l30_1 l30_2 l30_3] ∧ VarS w' (w.heap.size + 4) 87 (bif β13 then [x0_2, x0_5, x0_8, x0_11] else [W4 0 0 0 0, W4 0 0 0 0, W4 0 0 0 0, W4 0 0 0 0])) ?h0 ?hend ?hstep
  case h0 => exact ⟨false, false, false, false, false, false, false, false, false, false, false, false, false, false, undef, undef, undef, undef, rfl, rfl, Below.drew (Below.refl _ _), (fun h => by cases h), (fun h => by cases h), (fun h => by cases h), (fun h => by cases h), (fun h => by cases h), (fun h => by cases h), (fun h => by cases h), (fun h => by cases h), (fun h => by cases h), (fun h => by cases h), (fun h => by cases h), (fun h => by cases h), g0.drew, g1.drew, g2.drew, g3.drew, hres.drew⟩
  case hend =>
    intro l a w' hs hI hr0
    obtain ⟨β0, β1, β2, β3, β4, β5, β6, β7, β8, β9, β10, β11, β12, β13, x0_2, x0_5, x0_8, x0_11, rfl, rfl, hB, hc0_2, hc0_5, hc0_8, hc0_11, hm0_12_2, hm0_12_5, hm0_12_8, hm0_12_11, hm0_13_2, hm0_13_5, hm0_13_8, hm0_13_11, g0, g1, g2, g3, hr⟩ := hI
    have hall := ready_none (by rfl) (depsLow_spec (by kernel_rfl)) hr0
    obtain rfl : β0 = true := hall 0 (by decide)
    obtain rfl : β1 = true := hall 1 (by decide)
    obtain rfl : β2 = true := hall 2 (by decide)
    obtain rfl : β3 = true := hall 3 (by decide)
    obtain rfl : β4 = true := hall 4 (by decide)
    obtain rfl : β5 = true := hall 5 (by decide)
    obtain rfl : β6 = true := hall 6 (by decide)
    obtain rfl : β7 = true := hall 7 (by decide)
    obtain rfl : β8 = true := hall 8 (by decide)
    obtain rfl : β9 = true := hall 9 (by decide)
    obtain rfl : β10 = true := hall 10 (by decide)
    obtain rfl : β11 = true := hall 11 (by decide)
    obtain rfl : β12 = true := hall 12 (by decide)
    obtain rfl : β13 = true := hall 13 (by decide)
    clear hall hr0 hs
    replace hc0_2 := hc0_2 rfl
    replace hc0_5 := hc0_5 rfl
    replace hc0_8 := hc0_8 rfl
    replace hc0_11 := hc0_11 rfl
    simp only [cond_true] at hr ⊢
    have hBel := hBel.trans (hB.mono (Nat.le_refl _))
    have hl := load76 hr
    go_wp2
    exact bodyPost_ret (v := .agg (catW [x0_2, x0_5, x0_8, x0_11])) (by simp [results, Tryz.results79, asAddr, hl]) rfl ⟨_, _, _, _, rfl, ⟨hc0_2, hc0_5, hc0_8, hc0_11⟩, hBel⟩
  case hstep =>
    intro i l a w' hs hI hi
    obtain ⟨β0, β1, β2, β3, β4, β5, β6, β7, β8, β9, β10, β11, β12, β13, x0_2, x0_5, x0_8, x0_11, rfl, rfl, hB, hc0_2, hc0_5, hc0_8, hc0_11, hm0_12_2, hm0_12_5, hm0_12_8, hm0_12_11, hm0_13_2, hm0_13_5, hm0_13_8, hm0_13_11, g0, g1, g2, g3, hr⟩ := hI
    obtain ⟨hlt, hun, _⟩ := ready_mem hi
    have hlt' : i < 14 := hlt
    clear hlt hs
    have hcs : i = 0 ∨ i = 1 ∨ i = 2 ∨ i = 3 ∨ i = 4 ∨ i = 5 ∨ i = 6 ∨ i = 7 ∨ i = 8 ∨ i = 9 ∨ i = 10 ∨ i = 11 ∨ i = 12 ∨ i = 13 := by omega
    clear hlt'
    rcases hcs with rfl | rfl | rfl | rfl | rfl | rfl | rfl | rfl | rfl | rfl | rfl | rfl | rfl | rfl
    · obtain rfl : β0 = false := hun
      clear hi
      try simp only [cond_true, cond_false]
      refine ws (fun Kx hK => ?_)
      refine step_yield (v := W4 l00_0 l00_1 l00_2 l00_3) (by rfl) ?_ ?_
      · exact run_load_exec 24 _ rfl _ rfl (g0.part 0 rfl)
      · exact hK.out _ _ ⟨true, β1, β2, β3, β4, β5, β6, β7, β8, β9, β10, β11, β12, β13, x0_2, x0_5, x0_8, x0_11, rfl, rfl, hB, hc0_2, hc0_5, hc0_8, hc0_11, hm0_12_2, hm0_12_5, hm0_12_8, hm0_12_11, hm0_13_2, hm0_13_5, hm0_13_8, hm0_13_11, g0, g1, g2, g3, hr⟩
    · obtain rfl : β1 = false := hun
      clear hi
      try simp only [cond_true, cond_false]
      refine ws (fun Kx hK => ?_)
      refine step_yield (v := W4 l30_0 l30_1 l30_2 l30_3) (by rfl) ?_ ?_
      · exact run_load_exec 24 _ rfl _ rfl (g3.part 0 rfl)
      · exact hK.out _ _ ⟨β0, true, β2, β3, β4, β5, β6, β7, β8, β9, β10, β11, β12, β13, x0_2, x0_5, x0_8, x0_11, rfl, rfl, hB, hc0_2, hc0_5, hc0_8, hc0_11, hm0_12_2, hm0_12_5, hm0_12_8, hm0_12_11, hm0_13_2, hm0_13_5, hm0_13_8, hm0_13_11, g0, g1, g2, g3, hr⟩
    · obtain rfl : β2 = false := hun
      obtain rfl : β0 = true := ready_dep (k := 0) hi rfl rfl rfl
      obtain rfl : β1 = true := ready_dep (k := 1) hi rfl rfl rfl
      obtain rfl : β12 = false := Bool.eq_false_iff.2 (fun h => by have := hm0_12_2 h; cases this)
      obtain rfl : β13 = false := Bool.eq_false_iff.2 (fun h => by have := hm0_13_2 h; cases this)
      clear hi
      try simp only [cond_true, cond_false]
      refine ws (fun Kx hK => ?_)
      go_simp
      refine Calls.mono (f_mul H00.out H30.out _) ?_
      rintro e w2 ⟨v, rfl, hv, hb2⟩
      go_wp2_with fail
      exact hK.out _ _ ⟨true, true, true, β3, β4, β5, β6, β7, β8, β9, β10, β11, false, false, v, x0_5, x0_8, x0_11, rfl, rfl, (hB.trans (hb2.mono (Nat.le_trans hw0 hB.size))), (fun _ => hv), hc0_5, hc0_8, hc0_11, (fun _ => rfl), hm0_12_5, hm0_12_8, hm0_12_11, (fun _ => rfl), hm0_13_5, hm0_13_8, hm0_13_11, (g0.kept hb2), (g1.kept hb2), (g2.kept hb2), (g3.kept hb2), (hr.kept hb2)⟩
    · obtain rfl : β3 = false := hun
      clear hi
      try simp only [cond_true, cond_false]
      refine ws (fun Kx hK => ?_)
      refine step_yield (v := W4 l10_0 l10_1 l10_2 l10_3) (by rfl) ?_ ?_
      · exact run_load_exec 24 _ rfl _ rfl (g1.part 0 rfl)
      · exact hK.out _ _ ⟨β0, β1, β2, true, β4, β5, β6, β7, β8, β9, β10, β11, β12, β13, x0_2, x0_5, x0_8, x0_11, rfl, rfl, hB, hc0_2, hc0_5, hc0_8, hc0_11, hm0_12_2, hm0_12_5, hm0_12_8, hm0_12_11, hm0_13_2, hm0_13_5, hm0_13_8, hm0_13_11, g0, g1, g2, g3, hr⟩
    · obtain rfl : β4 = false := hun
      clear hi
      try simp only [cond_true, cond_false]
      refine ws (fun Kx hK => ?_)
      refine step_yield (v := W4 l20_0 l20_1 l20_2 l20_3) (by rfl) ?_ ?_
      · exact run_load_exec 24 _ rfl _ rfl (g2.part 0 rfl)
      · exact hK.out _ _ ⟨β0, β1, β2, β3, true, β5, β6, β7, β8, β9, β10, β11, β12, β13, x0_2, x0_5, x0_8, x0_11, rfl, rfl, hB, hc0_2, hc0_5, hc0_8, hc0_11, hm0_12_2, hm0_12_5, hm0_12_8, hm0_12_11, hm0_13_2, hm0_13_5, hm0_13_8, hm0_13_11, g0, g1, g2, g3, hr⟩
    · obtain rfl : β5 = false := hun
      obtain rfl : β3 = true := ready_dep (k := 0) hi rfl rfl rfl
      obtain rfl : β4 = true := ready_dep (k := 1) hi rfl rfl rfl
      obtain rfl : β12 = false := Bool.eq_false_iff.2 (fun h => by have := hm0_12_5 h; cases this)
      obtain rfl : β13 = false := Bool.eq_false_iff.2 (fun h => by have := hm0_13_5 h; cases this)
      clear hi
      try simp only [cond_true, cond_false]
      refine ws (fun Kx hK => ?_)
      go_simp
      refine Calls.mono (f_mul H10.out H20.out _) ?_
      rintro e w2 ⟨v, rfl, hv, hb2⟩
      go_wp2_with fail
      exact hK.out _ _ ⟨β0, β1, β2, true, true, true, β6, β7, β8, β9, β10, β11, false, false, x0_2, v, x0_8, x0_11, rfl, rfl, (hB.trans (hb2.mono (Nat.le_trans hw0 hB.size))), hc0_2, (fun _ => hv), hc0_8, hc0_11, hm0_12_2, (fun _ => rfl), hm0_12_8, hm0_12_11, hm0_13_2, (fun _ => rfl), hm0_13_8, hm0_13_11, (g0.kept hb2), (g1.kept hb2), (g2.kept hb2), (g3.kept hb2), (hr.kept hb2)⟩
    · obtain rfl : β6 = false := hun
      clear hi
      try simp only [cond_true, cond_false]
      refine ws (fun Kx hK => ?_)
      refine step_yield (v := W4 l20_0 l20_1 l20_2 l20_3) (by rfl) ?_ ?_
      · exact run_load_exec 24 _ rfl _ rfl (g2.part 0 rfl)
      · exact hK.out _ _ ⟨β0, β1, β2, β3, β4, β5, true, β7, β8, β9, β10, β11, β12, β13, x0_2, x0_5, x0_8, x0_11, rfl, rfl, hB, hc0_2, hc0_5, hc0_8, hc0_11, hm0_12_2, hm0_12_5, hm0_12_8, hm0_12_11, hm0_13_2, hm0_13_5, hm0_13_8, hm0_13_11, g0, g1, g2, g3, hr⟩
    · obtain rfl : β7 = false := hun
      clear hi
      try simp only [cond_true, cond_false]
      refine ws (fun Kx hK => ?_)
      refine step_yield (v := W4 l30_0 l30_1 l30_2 l30_3) (by rfl) ?_ ?_
      · exact run_load_exec 24 _ rfl _ rfl (g3.part 0 rfl)
      · exact hK.out _ _ ⟨β0, β1, β2, β3, β4, β5, β6, true, β8, β9, β10, β11, β12, β13, x0_2, x0_5, x0_8, x0_11, rfl, rfl, hB, hc0_2, hc0_5, hc0_8, hc0_11, hm0_12_2, hm0_12_5, hm0_12_8, hm0_12_11, hm0_13_2, hm0_13_5, hm0_13_8, hm0_13_11, g0, g1, g2, g3, hr⟩
    · obtain rfl : β8 = false := hun
      obtain rfl : β6 = true := ready_dep (k := 0) hi rfl rfl rfl
      obtain rfl : β7 = true := ready_dep (k := 1) hi rfl rfl rfl
      obtain rfl : β12 = false := Bool.eq_false_iff.2 (fun h => by have := hm0_12_8 h; cases this)
      obtain rfl : β13 = false := Bool.eq_false_iff.2 (fun h => by have := hm0_13_8 h; cases this)
      clear hi
      try simp only [cond_true, cond_false]
      refine ws (fun Kx hK => ?_)
      go_simp
      refine Calls.mono (f_mul H20.out H30.out _) ?_
      rintro e w2 ⟨v, rfl, hv, hb2⟩
      go_wp2_with fail
      exact hK.out _ _ ⟨β0, β1, β2, β3, β4, β5, true, true, true, β9, β10, β11, false, false, x0_2, x0_5, v, x0_11, rfl, rfl, (hB.trans (hb2.mono (Nat.le_trans hw0 hB.size))), hc0_2, hc0_5, (fun _ => hv), hc0_11, hm0_12_2, hm0_12_5, (fun _ => rfl), hm0_12_11, hm0_13_2, hm0_13_5, (fun _ => rfl), hm0_13_11, (g0.kept hb2), (g1.kept hb2), (g2.kept hb2), (g3.kept hb2), (hr.kept hb2)⟩
    · obtain rfl : β9 = false := hun
      clear hi
      try simp only [cond_true, cond_false]
      refine ws (fun Kx hK => ?_)
      refine step_yield (v := W4 l00_0 l00_1 l00_2 l00_3) (by rfl) ?_ ?_
      · exact run_load_exec 24 _ rfl _ rfl (g0.part 0 rfl)
      · exact hK.out _ _ ⟨β0, β1, β2, β3, β4, β5, β6, β7, β8, true, β10, β11, β12, β13, x0_2, x0_5, x0_8, x0_11, rfl, rfl, hB, hc0_2, hc0_5, hc0_8, hc0_11, hm0_12_2, hm0_12_5, hm0_12_8, hm0_12_11, hm0_13_2, hm0_13_5, hm0_13_8, hm0_13_11, g0, g1, g2, g3, hr⟩
    · obtain rfl : β10 = false := hun
      clear hi
      try simp only [cond_true, cond_false]
      refine ws (fun Kx hK => ?_)
      refine step_yield (v := W4 l10_0 l10_1 l10_2 l10_3) (by rfl) ?_ ?_
      · exact run_load_exec 24 _ rfl _ rfl (g1.part 0 rfl)
      · exact hK.out _ _ ⟨β0, β1, β2, β3, β4, β5, β6, β7, β8, β9, true, β11, β12, β13, x0_2, x0_5, x0_8, x0_11, rfl, rfl, hB, hc0_2, hc0_5, hc0_8, hc0_11, hm0_12_2, hm0_12_5, hm0_12_8, hm0_12_11, hm0_13_2, hm0_13_5, hm0_13_8, hm0_13_11, g0, g1, g2, g3, hr⟩
    · obtain rfl : β11 = false := hun
      obtain rfl : β9 = true := ready_dep (k := 0) hi rfl rfl rfl
      obtain rfl : β10 = true := ready_dep (k := 1) hi rfl rfl rfl
      obtain rfl : β12 = false := Bool.eq_false_iff.2 (fun h => by have := hm0_12_11 h; cases this)
      obtain rfl : β13 = false := Bool.eq_false_iff.2 (fun h => by have := hm0_13_11 h; cases this)
      clear hi
      try simp only [cond_true, cond_false]
      refine ws (fun Kx hK => ?_)
      go_simp
      refine Calls.mono (f_mul H00.out H10.out _) ?_
      rintro e w2 ⟨v, rfl, hv, hb2⟩
      go_wp2_with fail
      exact hK.out _ _ ⟨β0, β1, β2, β3, β4, β5, β6, β7, β8, true, true, true, false, false, x0_2, x0_5, x0_8, v, rfl, rfl, (hB.trans (hb2.mono (Nat.le_trans hw0 hB.size))), hc0_2, hc0_5, hc0_8, (fun _ => hv), hm0_12_2, hm0_12_5, hm0_12_8, (fun _ => rfl), hm0_13_2, hm0_13_5, hm0_13_8, (fun _ => rfl), (g0.kept hb2), (g1.kept hb2), (g2.kept hb2), (g3.kept hb2), (hr.kept hb2)⟩
    · obtain rfl : β12 = false := hun
      obtain rfl : β2 = true := ready_dep (k := 0) hi rfl rfl rfl
      obtain rfl : β5 = true := ready_dep (k := 1) hi rfl rfl rfl
      obtain rfl : β8 = true := ready_dep (k := 2) hi rfl rfl rfl
      obtain rfl : β11 = true := ready_dep (k := 3) hi rfl rfl rfl
      clear hi
      try simp only [cond_true, cond_false]
      refine ws (fun Kx hK => ?_)
      refine step_yield (v := .agg (catW [x0_2, x0_5, x0_8, x0_11])) (by rfl) ?_ ?_
      · obtain ⟨p00, p01, p02, p03, rfl, _, _⟩ := (hc0_2 rfl)
        obtain ⟨p10, p11, p12, p13, rfl, _, _⟩ := (hc0_5 rfl)
        obtain ⟨p20, p21, p22, p23, rfl, _, _⟩ := (hc0_8 rfl)
        obtain ⟨p30, p31, p32, p33, rfl, _, _⟩ := (hc0_11 rfl)
        go_simp
        kernel_rfl
      · exact hK.out _ _ ⟨β0, β1, true, β3, β4, true, β6, β7, true, β9, β10, true, true, β13, x0_2, x0_5, x0_8, x0_11, rfl, rfl, hB, hc0_2, hc0_5, hc0_8, hc0_11, (fun _ => rfl), (fun _ => rfl), (fun _ => rfl), (fun _ => rfl), (fun _ => rfl), (fun _ => rfl), (fun _ => rfl), (fun _ => rfl), g0, g1, g2, g3, hr⟩
    · obtain rfl : β13 = false := hun
      obtain rfl : β2 = true := ready_dep (k := 4) hi rfl rfl rfl
      obtain rfl : β5 = true := ready_dep (k := 7) hi rfl rfl rfl
      obtain rfl : β8 = true := ready_dep (k := 10) hi rfl rfl rfl
      obtain rfl : β11 = true := ready_dep (k := 1) hi rfl rfl rfl
      obtain rfl : β12 = true := ready_dep (k := 0) hi rfl rfl rfl
      clear hi
      try simp only [cond_true, cond_false]
      refine ws (fun Kx hK => ?_)
      refine step_store_S (us := [x0_2, x0_5, x0_8, x0_11]) (vs := [W4 0 0 0 0, W4 0 0 0 0, W4 0 0 0 0, W4 0 0 0 0]) (by rfl) 87 _ _ rfl (w.heap.size + 4) rfl rfl (words4 (hc0_2 rfl) (hc0_5 rfl) (hc0_8 rfl) (hc0_11 rfl)) rfl (by kernel_rfl) hr ?_
      exact hK.out _ _ ⟨β0, β1, true, β3, β4, true, β6, β7, true, β9, β10, true, true, true, x0_2, x0_5, x0_8, x0_11, rfl, rfl, (below_setRow hB (by omega) _), hc0_2, hc0_5, hc0_8, hc0_11, (fun _ => rfl), (fun _ => rfl), (fun _ => rfl), (fun _ => rfl), (fun _ => rfl), (fun _ => rfl), (fun _ => rfl), (fun _ => rfl), (g0.other (by omega) _), (g1.other (by omega) _), (g2.other (by omega) _), (g3.other (by omega) _), (hr.put (words4 (hc0_2 rfl) (hc0_5 rfl) (hc0_8 rfl) (hc0_11 rfl)))⟩
end Go.Proofs.YtionjibiemncbabGreat
