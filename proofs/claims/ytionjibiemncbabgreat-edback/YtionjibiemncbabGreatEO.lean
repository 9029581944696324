/- ed.squareOfX -/
import Derived.Test.YtionjibiemncbabGreatGShH1
import Derived.Test.YtionjibiemncbabGreatGE0
set_option linter.unusedSimpArgs false
set_option linter.unusedVariables false
namespace Go.Proofs.YtionjibiemncbabGreat
open Go.RowKit
set_option maxRecDepth 20000 in
set_option maxHeartbeats 4000000 in
theorem f_squareOfX {p00 : Value} {ky : K} (h00 : IsF p00 ky) : GivesF 11 #[p00] ((ky * ky - 1) * invK (toF DD * (ky * ky) + 1)) := fun w => by
  have H00 : Hid (IsF p00 ky) := h00
  obtain ⟨l00_0, l00_1, l00_2, l00_3, rfl, L00, _⟩ := h00
  clear L00
  have V0 : Hid (VarS ((w.alloc (.cells (C4 l00_0 l00_1 l00_2 l00_3) 24)).alloc (.cells #[.int .u64 0, .int .u64 0, .int .u64 0, .int .u64 0] 24)) (w.heap.size) 24 [W4 l00_0 l00_1 l00_2 l00_3] ∧ VarS ((w.alloc (.cells (C4 l00_0 l00_1 l00_2 l00_3) 24)).alloc (.cells #[.int .u64 0, .int .u64 0, .int .u64 0, .int .u64 0] 24)) (w.heap.size + 1) 24 [W4 0 0 0 0] ∧ Below w.heap.size w ((w.alloc (.cells (C4 l00_0 l00_1 l00_2 l00_3) 24)).alloc (.cells #[.int .u64 0, .int .u64 0, .int .u64 0, .int .u64 0] 24))) :=
    ⟨⟨words1 H00.out, heap_old _ _ _ _ (heap_alloc_new _ _)⟩, ⟨words1 isw0, by rw [← zero4]; exact heapAt _ _ _ (by simp)⟩, by go_grown⟩
  go_enter Tryz.func11, Tryz.ntmps11
  unfold W4
  go_wp2_with (first | (refine wpList_load_run rfl 24 _ rfl _ rfl (V0.out.1.part 0 rfl) ?_) | (refine wpList_load_run rfl 24 _ rfl _ rfl (V0.out.1.part 0 rfl) ?_))
  generalize ((w.alloc (.cells (C4 l00_0 l00_1 l00_2 l00_3) 24)).alloc (.cells #[.int .u64 0, .int .u64 0, .int .u64 0, .int .u64 0] 24)) = W0 at V0 ⊢
  refine Calls.mono (f_mul H00.out H00.out _) ?_
  rintro e w1 ⟨v1, rfl, h1, b1⟩
  have H1 : Hid (IsF v1 ((ky) * (ky))) := h1
  clear h1
  have hb1 := V0.out.2.2.trans (b1.mono V0.out.2.2.size)
  have hsep : w.heap.size + 1 < w1.heap.size := (V0.out.2.1.kept b1).lt
  have V1 : Hid (VarS ((w1.alloc (.cells #[.int .u64 0, .int .u64 0, .int .u64 0, .int .u64 0] 24)).setRow w1.heap.size (catW [v1])) (w.heap.size) 24 [W4 l00_0 l00_1 l00_2 l00_3] ∧ VarS ((w1.alloc (.cells #[.int .u64 0, .int .u64 0, .int .u64 0, .int .u64 0] 24)).setRow w1.heap.size (catW [v1])) (w.heap.size + 1) 24 [W4 0 0 0 0] ∧ VarS ((w1.alloc (.cells #[.int .u64 0, .int .u64 0, .int .u64 0, .int .u64 0] 24)).setRow w1.heap.size (catW [v1])) w1.heap.size 24 [v1] ∧ Below w.heap.size w ((w1.alloc (.cells #[.int .u64 0, .int .u64 0, .int .u64 0, .int .u64 0] 24)).setRow w1.heap.size (catW [v1]))) :=
    ⟨((V0.out.1.kept b1).old _).other (Nat.ne_of_lt (V0.out.1.kept b1).lt) _, ((V0.out.2.1.kept b1).old _).other (Nat.ne_of_lt (V0.out.2.1.kept b1).lt) _, (VarS.new24 w1).put (words1 H1.out), below_setRow (hb1.alloc hb1.size _) hb1.size _⟩
  clear V0 b1 hb1
  have hst := (VarS.new24 w1).store (words1 H1.out) rfl info24w
  go_wp2_with (first | (refine wpList_store_run rfl 24 _ _ rfl w1.heap.size (catW [v1]) rfl (IsW.cat H1.out) hst ?_))
  clear hst
  generalize ((w1.alloc (.cells #[.int .u64 0, .int .u64 0, .int .u64 0, .int .u64 0] 24)).setRow w1.heap.size (catW [v1])) = W0 at V1 ⊢
  have V0 := V1
  clear V1
  have g0 := V0.out.1
  have hres := V0.out.2.1
  have g2 := V0.out.2.2.1
  have hBel := V0.out.2.2.2
  clear V0
  have hw0 : w.heap.size ≤ W0.heap.size := Nat.le_of_lt (Nat.lt_of_le_of_lt (by omega) hres.lt)
  have lt_g00 := g0.lt
  have lt_g20 := g2.lt
  have ltr0 := hres.lt
  refine wp_region_inv (by kernel_rfl) 11 rfl (fun l a w' => ∃ (β0 β1 β2 β3 β4 β5 β6 β7 β8 β9 β10 : Bool) (x0_1 x0_2 x0_3 x0_5 x0_6 x0_7 x0_8 x0_9 : Value), l = #[β0, β1, β2, β3, β4, β5, β6, β7, β8, β9, β10] ∧ a = ⟨#[W4 l00_0 l00_1 l00_2 l00_3, .pointer (some ⟨w.heap.size, 0, none⟩), .pointer (some ⟨w.heap.size + 1, 0, none⟩), .pointer (some ⟨w1.heap.size, 0, none⟩), W4 l00_0 l00_1 l00_2 l00_3, W4 l00_0 l00_1 l00_2 l00_3, v1, bif β0 then v1 else undef, bif β1 then x0_1 else undef, bif β2 then x0_2 else undef, bif β3 then x0_3 else undef, bif β4 then v1 else undef, bif β5 then x0_5 else undef, bif β6 then x0_6 else undef, bif β7 then x0_7 else undef, bif β8 then x0_8 else undef, bif β9 then x0_9 else undef], []⟩ ∧ Below (w.heap.size) W0 w' ∧ Hid (β1 = true → IsF x0_1 (1)) ∧ Hid (β2 = true → IsF x0_2 (((ky) * (ky)) - (1))) ∧ Hid (β3 = true → IsF x0_3 (toF DD)) ∧ Hid (β5 = true → IsF x0_5 ((toF DD) * ((ky) * (ky)))) ∧ Hid (β6 = true → IsF x0_6 (1)) ∧ Hid (β7 = true → IsF x0_7 (((toF DD) * ((ky) * (ky))) + (1))) ∧ Hid (β8 = true → IsF x0_8 (invK (((toF DD) * ((ky) * (ky))) + (1)))) ∧ Hid (β9 = true → IsF x0_9 ((((ky) * (ky)) - (1)) * (invK (((toF DD) * ((ky) * (ky))) + (1))))) ∧ Hid (β10 = true → β9 = true) ∧ VarS w' (w.heap.size) 24 [W4 l00_0 l00_1 l00_2 l00_3] ∧ VarS w' (w1.heap.size) 24 [v1] ∧ VarS w' (w.heap.size + 1) 24 (bif β10 then [x0_9] else [W4 0 0 0 0])) ?h00 ?hend0 ?hstep0
  case h00 => exact ⟨false, false, false, false, false, false, false, false, false, false, false, undef, undef, undef, undef, undef, undef, undef, undef, rfl, rfl, Below.drew (Below.refl _ _), (fun h => by cases h), (fun h => by cases h), (fun h => by cases h), (fun h => by cases h), (fun h => by cases h), (fun h => by cases h), (fun h => by cases h), (fun h => by cases h), (fun h => by cases h), g0.drew, g2.drew, hres.drew⟩
  case hend0 =>
    intro l a w' hs hI hr0
    obtain ⟨β0, β1, β2, β3, β4, β5, β6, β7, β8, β9, β10, x0_1, x0_2, x0_3, x0_5, x0_6, x0_7, x0_8, x0_9, rfl, rfl, hB, hc0_1, hc0_2, hc0_3, hc0_5, hc0_6, hc0_7, hc0_8, hc0_9, hm0_10_9, g0, g2, hr⟩ := hI
    have hall := ready_none (by rfl) (depsLow_spec (by kernel_rfl)) hr0
    obtain rfl : β0 = true := hall 0 (by decide)
    obtain rfl : β1 = true := hall 1 (by decide)
    obtain rfl : β2 = true := hall 2 (by decide)
    obtain rfl : β3 = true := hall 3 (by decide)
    obtain rfl : β4 = true := hall 4 (by decide)
    obtain rfl : β5 = true := hall 5 (by decide)
    obtain rfl : β6 = true := hall 6 (by decide)
    obtain rfl : β7 = true := hall 7 (by decide)
    obtain rfl : β8 = true := hall 8 (by decide)
    obtain rfl : β9 = true := hall 9 (by decide)
    obtain rfl : β10 = true := hall 10 (by decide)
    clear hall hr0 hs
    replace hc0_1 := hc0_1.out rfl
    replace hc0_2 := hc0_2.out rfl
    replace hc0_3 := hc0_3.out rfl
    replace hc0_5 := hc0_5.out rfl
    replace hc0_6 := hc0_6.out rfl
    replace hc0_7 := hc0_7.out rfl
    replace hc0_8 := hc0_8.out rfl
    replace hc0_9 := hc0_9.out rfl
    simp only [cond_true] at hr ⊢
    have hBel := hBel.trans (hB.mono (Nat.le_refl _))
    have hl := hr.part 0 rfl
    go_wp2
    exact bodyPost_ret (v := x0_9) (by simp [results, Tryz.results11, asAddr, hl]) rfl ⟨_, rfl, hc0_9, hBel⟩
  case hstep0 =>
    intro i l a w' hs hI hi
    obtain ⟨β0, β1, β2, β3, β4, β5, β6, β7, β8, β9, β10, x0_1, x0_2, x0_3, x0_5, x0_6, x0_7, x0_8, x0_9, rfl, rfl, hB, hc0_1, hc0_2, hc0_3, hc0_5, hc0_6, hc0_7, hc0_8, hc0_9, hm0_10_9, g0, g2, hr⟩ := hI
    obtain ⟨hlt, hun, _⟩ := ready_mem hi
    have hlt' : i < 11 := hlt
    clear hlt hs
    have hcs : i = 0 ∨ i = 1 ∨ i = 2 ∨ i = 3 ∨ i = 4 ∨ i = 5 ∨ i = 6 ∨ i = 7 ∨ i = 8 ∨ i = 9 ∨ i = 10 := by omega
    clear hlt'
    rcases hcs with rfl | rfl | rfl | rfl | rfl | rfl | rfl | rfl | rfl | rfl | rfl
    · obtain rfl : β0 = false := hun
      clear hi
      try simp only [cond_true, cond_false]
      refine ws (fun Kx hK => ?_)
      refine step_yield (v := v1) (by rfl) ?_ ?_
      · exact run_load_exec 24 _ rfl _ rfl (g2.part 0 rfl)
      · exact hK.out _ _ ⟨true, β1, β2, β3, β4, β5, β6, β7, β8, β9, β10, x0_1, x0_2, x0_3, x0_5, x0_6, x0_7, x0_8, x0_9, rfl, rfl, hB, hc0_1, hc0_2, hc0_3, hc0_5, hc0_6, hc0_7, hc0_8, hc0_9, hm0_10_9, g0, g2, hr⟩
    · obtain rfl : β1 = false := hun
      clear hi
      try simp only [cond_true, cond_false]
      refine ws (fun Kx hK => ?_)
      go_simp
      refine Calls.mono (f_one _) ?_
      rintro e w2 ⟨v, rfl, hv, hb2⟩
      go_wp2_with fail
      exact hK.out _ _ ⟨β0, true, β2, β3, β4, β5, β6, β7, β8, β9, β10, v, x0_2, x0_3, x0_5, x0_6, x0_7, x0_8, x0_9, rfl, rfl, (hB.trans (hb2.mono (Nat.le_trans hw0 hB.size))), (fun _ => hv), hc0_2, hc0_3, hc0_5, hc0_6, hc0_7, hc0_8, hc0_9, hm0_10_9, (g0.kept hb2), (g2.kept hb2), (hr.kept hb2)⟩
    · obtain rfl : β2 = false := hun
      obtain rfl : β0 = true := ready_dep (k := 0) hi rfl rfl rfl
      obtain rfl : β1 = true := ready_dep (k := 1) hi rfl rfl rfl
      clear hi
      try simp only [cond_true, cond_false]
      refine ws (fun Kx hK => ?_)
      replace hc0_1 := hc0_1.out rfl
      go_simp
      refine Calls.mono (f_sub H1.out hc0_1 _) ?_
      rintro e w2 ⟨v, rfl, hv, hb2⟩
      go_wp2_with fail
      exact hK.out _ _ ⟨true, true, true, β3, β4, β5, β6, β7, β8, β9, β10, x0_1, v, x0_3, x0_5, x0_6, x0_7, x0_8, x0_9, rfl, rfl, (hB.trans (hb2.mono (Nat.le_trans hw0 hB.size))), (fun _ => hc0_1), (fun _ => hv), hc0_3, hc0_5, hc0_6, hc0_7, hc0_8, hc0_9, hm0_10_9, (g0.kept hb2), (g2.kept hb2), (hr.kept hb2)⟩
    · obtain rfl : β3 = false := hun
      clear hi
      try simp only [cond_true, cond_false]
      refine ws (fun Kx hK => ?_)
      go_simp
      refine Calls.mono (f_curve _) ?_
      rintro e w2 ⟨v, rfl, hv, hb2⟩
      go_wp2_with fail
      exact hK.out _ _ ⟨β0, β1, β2, true, β4, β5, β6, β7, β8, β9, β10, x0_1, x0_2, v, x0_5, x0_6, x0_7, x0_8, x0_9, rfl, rfl, (hB.trans (hb2.mono (Nat.le_trans hw0 hB.size))), hc0_1, hc0_2, (fun _ => hv), hc0_5, hc0_6, hc0_7, hc0_8, hc0_9, hm0_10_9, (g0.kept hb2), (g2.kept hb2), (hr.kept hb2)⟩
    · obtain rfl : β4 = false := hun
      clear hi
      try simp only [cond_true, cond_false]
      refine ws (fun Kx hK => ?_)
      refine step_yield (v := v1) (by rfl) ?_ ?_
      · exact run_load_exec 24 _ rfl _ rfl (g2.part 0 rfl)
      · exact hK.out _ _ ⟨β0, β1, β2, β3, true, β5, β6, β7, β8, β9, β10, x0_1, x0_2, x0_3, x0_5, x0_6, x0_7, x0_8, x0_9, rfl, rfl, hB, hc0_1, hc0_2, hc0_3, hc0_5, hc0_6, hc0_7, hc0_8, hc0_9, hm0_10_9, g0, g2, hr⟩
    · obtain rfl : β5 = false := hun
      obtain rfl : β3 = true := ready_dep (k := 0) hi rfl rfl rfl
      obtain rfl : β4 = true := ready_dep (k := 1) hi rfl rfl rfl
      clear hi
      try simp only [cond_true, cond_false]
      refine ws (fun Kx hK => ?_)
      replace hc0_3 := hc0_3.out rfl
      go_simp
      refine Calls.mono (f_mul hc0_3 H1.out _) ?_
      rintro e w2 ⟨v, rfl, hv, hb2⟩
      go_wp2_with fail
      exact hK.out _ _ ⟨β0, β1, β2, true, true, true, β6, β7, β8, β9, β10, x0_1, x0_2, x0_3, v, x0_6, x0_7, x0_8, x0_9, rfl, rfl, (hB.trans (hb2.mono (Nat.le_trans hw0 hB.size))), hc0_1, hc0_2, (fun _ => hc0_3), (fun _ => hv), hc0_6, hc0_7, hc0_8, hc0_9, hm0_10_9, (g0.kept hb2), (g2.kept hb2), (hr.kept hb2)⟩
    · obtain rfl : β6 = false := hun
      clear hi
      try simp only [cond_true, cond_false]
      refine ws (fun Kx hK => ?_)
      go_simp
      refine Calls.mono (f_one _) ?_
      rintro e w2 ⟨v, rfl, hv, hb2⟩
      go_wp2_with fail
      exact hK.out _ _ ⟨β0, β1, β2, β3, β4, β5, true, β7, β8, β9, β10, x0_1, x0_2, x0_3, x0_5, v, x0_7, x0_8, x0_9, rfl, rfl, (hB.trans (hb2.mono (Nat.le_trans hw0 hB.size))), hc0_1, hc0_2, hc0_3, hc0_5, (fun _ => hv), hc0_7, hc0_8, hc0_9, hm0_10_9, (g0.kept hb2), (g2.kept hb2), (hr.kept hb2)⟩
    · obtain rfl : β7 = false := hun
      obtain rfl : β5 = true := ready_dep (k := 0) hi rfl rfl rfl
      obtain rfl : β6 = true := ready_dep (k := 1) hi rfl rfl rfl
      clear hi
      try simp only [cond_true, cond_false]
      refine ws (fun Kx hK => ?_)
      replace hc0_5 := hc0_5.out rfl
      replace hc0_6 := hc0_6.out rfl
      go_simp
      refine Calls.mono (f_add hc0_5 hc0_6 _) ?_
      rintro e w2 ⟨v, rfl, hv, hb2⟩
      go_wp2_with fail
      exact hK.out _ _ ⟨β0, β1, β2, β3, β4, true, true, true, β8, β9, β10, x0_1, x0_2, x0_3, x0_5, x0_6, v, x0_8, x0_9, rfl, rfl, (hB.trans (hb2.mono (Nat.le_trans hw0 hB.size))), hc0_1, hc0_2, hc0_3, (fun _ => hc0_5), (fun _ => hc0_6), (fun _ => hv), hc0_8, hc0_9, hm0_10_9, (g0.kept hb2), (g2.kept hb2), (hr.kept hb2)⟩
    · obtain rfl : β8 = false := hun
      obtain rfl : β7 = true := ready_dep (k := 0) hi rfl rfl rfl
      clear hi
      try simp only [cond_true, cond_false]
      refine ws (fun Kx hK => ?_)
      replace hc0_7 := hc0_7.out rfl
      go_simp
      refine Calls.mono (f_inv hc0_7 _) ?_
      rintro e w2 ⟨v, rfl, hv, hb2⟩
      go_wp2_with fail
      exact hK.out _ _ ⟨β0, β1, β2, β3, β4, β5, β6, true, true, β9, β10, x0_1, x0_2, x0_3, x0_5, x0_6, x0_7, v, x0_9, rfl, rfl, (hB.trans (hb2.mono (Nat.le_trans hw0 hB.size))), hc0_1, hc0_2, hc0_3, hc0_5, hc0_6, (fun _ => hc0_7), (fun _ => hv), hc0_9, hm0_10_9, (g0.kept hb2), (g2.kept hb2), (hr.kept hb2)⟩
    · obtain rfl : β9 = false := hun
      obtain rfl : β2 = true := ready_dep (k := 0) hi rfl rfl rfl
      obtain rfl : β8 = true := ready_dep (k := 1) hi rfl rfl rfl
      obtain rfl : β10 = false := Bool.eq_false_iff.2 (fun h => by have := hm0_10_9.out h; cases this)
      clear hi
      try simp only [cond_true, cond_false]
      refine ws (fun Kx hK => ?_)
      replace hc0_8 := hc0_8.out rfl
      replace hc0_2 := hc0_2.out rfl
      go_simp
      refine Calls.mono (f_mul hc0_2 hc0_8 _) ?_
      rintro e w2 ⟨v, rfl, hv, hb2⟩
      go_wp2_with fail
      exact hK.out _ _ ⟨β0, β1, true, β3, β4, β5, β6, β7, true, true, false, x0_1, x0_2, x0_3, x0_5, x0_6, x0_7, x0_8, v, rfl, rfl, (hB.trans (hb2.mono (Nat.le_trans hw0 hB.size))), hc0_1, (fun _ => hc0_2), hc0_3, hc0_5, hc0_6, hc0_7, (fun _ => hc0_8), (fun _ => hv), (fun _ => rfl), (g0.kept hb2), (g2.kept hb2), (hr.kept hb2)⟩
    · obtain rfl : β10 = false := hun
      obtain rfl : β9 = true := ready_dep (k := 0) hi rfl rfl rfl
      clear hi
      try simp only [cond_true, cond_false]
      refine ws (fun Kx hK => ?_)
      refine step_store_wordS (u := x0_9) (v := W4 0 0 0 0) (by rfl) _ _ rfl (w.heap.size + 1) rfl rfl (hc0_9.out rfl) hr ?_
      exact hK.out _ _ ⟨β0, β1, β2, β3, β4, β5, β6, β7, β8, true, true, x0_1, x0_2, x0_3, x0_5, x0_6, x0_7, x0_8, x0_9, rfl, rfl, (below_setRow hB (by omega) _), hc0_1, hc0_2, hc0_3, hc0_5, hc0_6, hc0_7, hc0_8, hc0_9, (fun _ => rfl), (g0.other (by omega) _), (g2.other (by omega) _), (hr.put (words1 (hc0_9.out rfl)))⟩
end Go.Proofs.YtionjibiemncbabGreat
