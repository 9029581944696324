/- ed.twice -/
import Derived.Test.YtionjibiemncbabGreatGShH1
import Derived.Test.YtionjibiemncbabGreatE1
set_option linter.unusedSimpArgs false
set_option linter.unusedVariables false
namespace Go.Proofs.YtionjibiemncbabGreat
open Go.RowKit
set_option maxRecDepth 20000 in
set_option maxHeartbeats 4000000 in
theorem f_twice {p00 p01 p02 p03 : Value} {kx ky kz kt : K} (h00 : IsF p00 kx) (h01 : IsF p01 ky) (h02 : IsF p02 kz) (h03 : IsF p03 kt) : Gives4 63 #[.agg (catW [p00, p01, p02, p03])] (((kx + ky) * (kx + ky) - (ky * ky + kx * kx)) * ((kz * kz + kz * kz) - (ky * ky - kx * kx))) ((ky * ky + kx * kx) * (ky * ky - kx * kx)) ((ky * ky - kx * kx) * ((kz * kz + kz * kz) - (ky * ky - kx * kx))) (((kx + ky) * (kx + ky) - (ky * ky + kx * kx)) * (ky * ky + kx * kx)) := fun w => by
  have H00 : Hid (IsF p00 kx) := h00
  have H01 : Hid (IsF p01 ky) := h01
  have H02 : Hid (IsF p02 kz) := h02
  have H03 : Hid (IsF p03 kt) := h03
  obtain ⟨l00_0, l00_1, l00_2, l00_3, rfl, L00, _⟩ := h00
  clear L00
  obtain ⟨l01_0, l01_1, l01_2, l01_3, rfl, L01, _⟩ := h01
  clear L01
  obtain ⟨l02_0, l02_1, l02_2, l02_3, rfl, L02, _⟩ := h02
  clear L02
  obtain ⟨l03_0, l03_1, l03_2, l03_3, rfl, L03, _⟩ := h03
  clear L03
  have V0 : Hid (VarS ((w.alloc (.cells (catW [W4 l00_0 l00_1 l00_2 l00_3, W4 l01_0 l01_1 l01_2 l01_3, W4 l02_0 l02_1 l02_2 l02_3, W4 l03_0 l03_1 l03_2 l03_3]) 87)).alloc (.cells #[.int .u64 0, .int .u64 0, .int .u64 0, .int .u64 0, .int .u64 0, .int .u64 0, .int .u64 0, .int .u64 0, .int .u64 0, .int .u64 0, .int .u64 0, .int .u64 0, .int .u64 0, .int .u64 0, .int .u64 0, .int .u64 0] 87)) (w.heap.size) 87 [W4 l00_0 l00_1 l00_2 l00_3, W4 l01_0 l01_1 l01_2 l01_3, W4 l02_0 l02_1 l02_2 l02_3, W4 l03_0 l03_1 l03_2 l03_3] ∧ VarS ((w.alloc (.cells (catW [W4 l00_0 l00_1 l00_2 l00_3, W4 l01_0 l01_1 l01_2 l01_3, W4 l02_0 l02_1 l02_2 l02_3, W4 l03_0 l03_1 l03_2 l03_3]) 87)).alloc (.cells #[.int .u64 0, .int .u64 0, .int .u64 0, .int .u64 0, .int .u64 0, .int .u64 0, .int .u64 0, .int .u64 0, .int .u64 0, .int .u64 0, .int .u64 0, .int .u64 0, .int .u64 0, .int .u64 0, .int .u64 0, .int .u64 0] 87)) (w.heap.size + 1) 87 [W4 0 0 0 0, W4 0 0 0 0, W4 0 0 0 0, W4 0 0 0 0] ∧ Below w.heap.size w ((w.alloc (.cells (catW [W4 l00_0 l00_1 l00_2 l00_3, W4 l01_0 l01_1 l01_2 l01_3, W4 l02_0 l02_1 l02_2 l02_3, W4 l03_0 l03_1 l03_2 l03_3]) 87)).alloc (.cells #[.int .u64 0, .int .u64 0, .int .u64 0, .int .u64 0, .int .u64 0, .int .u64 0, .int .u64 0, .int .u64 0, .int .u64 0, .int .u64 0, .int .u64 0, .int .u64 0, .int .u64 0, .int .u64 0, .int .u64 0, .int .u64 0] 87))) :=
    ⟨⟨words4 H00.out H01.out H02.out H03.out, heap_old _ _ _ _ (heap_alloc_new _ _)⟩, ⟨words4 isw0 isw0 isw0 isw0, by rw [← zero16w]; exact heapAt _ _ _ (by simp)⟩, by go_grown⟩
  go_enter Tryz.func63, Tryz.ntmps63
  unfold W4
  go_wp2
  generalize ((w.alloc (.cells (catW [W4 l00_0 l00_1 l00_2 l00_3, W4 l01_0 l01_1 l01_2 l01_3, W4 l02_0 l02_1 l02_2 l02_3, W4 l03_0 l03_1 l03_2 l03_3]) 87)).alloc (.cells #[.int .u64 0, .int .u64 0, .int .u64 0, .int .u64 0, .int .u64 0, .int .u64 0, .int .u64 0, .int .u64 0, .int .u64 0, .int .u64 0, .int .u64 0, .int .u64 0, .int .u64 0, .int .u64 0, .int .u64 0, .int .u64 0] 87)) = W0 at V0 ⊢
  have g0 := V0.out.1
  have hres := V0.out.2.1
  have hBel := V0.out.2.2
  clear V0
  have hw0 : w.heap.size ≤ W0.heap.size := Nat.le_of_lt (Nat.lt_of_le_of_lt (by omega) hres.lt)
  have lt_g00 := g0.lt
  have ltr0 := hres.lt
  refine wp_region_inv (by kernel_rfl) 28 rfl (fun l a w' => ∃ (β0 β1 β2 β3 β4 β5 β6 β7 β8 β9 β10 β11 β12 β13 β14 β15 β16 β17 β18 β19 β20 β21 β22 β23 β24 β25 β26 β27 : Bool) (x0_4 x0_9 x0_14 x0_19 : Value) (z0_20 z0_21 z0_22 z0_23 : Nat), l = #[β0, β1, β2, β3, β4, β5, β6, β7, β8, β9, β10, β11, β12, β13, β14, β15, β16, β17, β18, β19, β20, β21, β22, β23, β24, β25, β26, β27] ∧ a = ⟨#[.agg (catW [W4 l00_0 l00_1 l00_2 l00_3, W4 l01_0 l01_1 l01_2 l01_3, W4 l02_0 l02_1 l02_2 l02_3, W4 l03_0 l03_1 l03_2 l03_3]), .pointer (some ⟨w.heap.size, 0, none⟩), .pointer (some ⟨w.heap.size + 1, 0, none⟩), bif β20 then .pointer (some ⟨z0_20, 0, none⟩) else undef, bif β21 then .pointer (some ⟨z0_21, 0, none⟩) else undef, bif β22 then .pointer (some ⟨z0_22, 0, none⟩) else undef, bif β23 then .pointer (some ⟨z0_23, 0, none⟩) else undef, undef, undef, undef, bif β0 then .pointer (some ⟨w.heap.size, 0, none⟩) else undef, bif β1 then W4 l00_0 l00_1 l00_2 l00_3 else undef, bif β2 then .pointer (some ⟨w.heap.size, 0, none⟩) else undef, bif β3 then W4 l00_0 l00_1 l00_2 l00_3 else undef, bif β4 then x0_4 else undef, bif β5 then .pointer (some ⟨w.heap.size, 4, none⟩) else undef, bif β6 then W4 l01_0 l01_1 l01_2 l01_3 else undef, bif β7 then .pointer (some ⟨w.heap.size, 4, none⟩) else undef, bif β8 then W4 l01_0 l01_1 l01_2 l01_3 else undef, bif β9 then x0_9 else undef, bif β10 then .pointer (some ⟨w.heap.size, 8, none⟩) else undef, bif β11 then W4 l02_0 l02_1 l02_2 l02_3 else undef, bif β12 then .pointer (some ⟨w.heap.size, 8, none⟩) else undef, bif β13 then W4 l02_0 l02_1 l02_2 l02_3 else undef, bif β14 then x0_14 else undef, bif β15 then .pointer (some ⟨w.heap.size, 0, none⟩) else undef, bif β16 then W4 l00_0 l00_1 l00_2 l00_3 else undef, bif β17 then .pointer (some ⟨w.heap.size, 4, none⟩) else undef, bif β18 then W4 l01_0 l01_1 l01_2 l01_3 else undef, bif β19 then x0_19 else undef, undef, undef, undef, undef, undef, undef, undef, undef, undef, undef, undef, undef, undef, undef, undef, undef, undef, undef, undef, undef], []⟩ ∧ Below (w.heap.size) W0 w' ∧ Hid (β4 = true → IsF x0_4 ((kx) * (kx))) ∧ Hid (β9 = true → IsF x0_9 ((ky) * (ky))) ∧ Hid (β14 = true → IsF x0_14 ((kz) * (kz))) ∧ Hid (β19 = true → IsF x0_19 ((kx) + (ky))) ∧ Hid (β20 = true → W0.heap.size ≤ z0_20 ∧ VarS w' z0_20 24 (bif β24 then [x0_4] else [W4 0 0 0 0])) ∧ Hid (β21 = true → W0.heap.size ≤ z0_21 ∧ VarS w' z0_21 24 (bif β25 then [x0_9] else [W4 0 0 0 0])) ∧ Hid (β22 = true → W0.heap.size ≤ z0_22 ∧ VarS w' z0_22 24 (bif β26 then [x0_14] else [W4 0 0 0 0])) ∧ Hid (β23 = true → W0.heap.size ≤ z0_23 ∧ VarS w' z0_23 24 (bif β27 then [x0_19] else [W4 0 0 0 0])) ∧ Hid (β20 = true → β21 = true → z0_20 ≠ z0_21) ∧ Hid (β20 = true → β22 = true → z0_20 ≠ z0_22) ∧ Hid (β20 = true → β23 = true → z0_20 ≠ z0_23) ∧ Hid (β21 = true → β22 = true → z0_21 ≠ z0_22) ∧ Hid (β21 = true → β23 = true → z0_21 ≠ z0_23) ∧ Hid (β22 = true → β23 = true → z0_22 ≠ z0_23) ∧ Hid (β24 = true → β4 = true) ∧ Hid (β24 = true → β20 = true) ∧ Hid (β25 = true → β9 = true) ∧ Hid (β25 = true → β21 = true) ∧ Hid (β26 = true → β14 = true) ∧ Hid (β26 = true → β22 = true) ∧ Hid (β27 = true → β19 = true) ∧ Hid (β27 = true → β23 = true) ∧ VarS w' (w.heap.size) 87 [W4 l00_0 l00_1 l00_2 l00_3, W4 l01_0 l01_1 l01_2 l01_3, W4 l02_0 l02_1 l02_2 l02_3, W4 l03_0 l03_1 l03_2 l03_3] ∧ VarS w' (w.heap.size + 1) 87 [W4 0 0 0 0, W4 0 0 0 0, W4 0 0 0 0, W4 0 0 0 0]) ?h00 ?hend0 ?hstep0
  case h00 => exact ⟨false, false, false, false, false, false, false, false, false, false, false, false, false, false, false, false, false, false, false, false, false, false, false, false, false, false, false, false, undef, undef, undef, undef, 0, 0, 0, 0, rfl, rfl, Below.drew (Below.refl _ _), (fun h => by cases h), (fun h => by cases h), (fun h => by cases h), (fun h => by cases h), (fun h => by cases h), (fun h => by cases h), (fun h => by cases h), (fun h => by cases h), (fun h => by cases h), (fun h => by cases h), (fun h => by cases h), (fun h => by cases h), (fun h => by cases h), (fun h => by cases h), (fun h => by cases h), (fun h => by cases h), (fun h => by cases h), (fun h => by cases h), (fun h => by cases h), (fun h => by cases h), (fun h => by cases h), (fun h => by cases h), g0.drew, hres.drew⟩
  case hend0 =>
    intro l a w' hs hI hr0
    obtain ⟨β0, β1, β2, β3, β4, β5, β6, β7, β8, β9, β10, β11, β12, β13, β14, β15, β16, β17, β18, β19, β20, β21, β22, β23, β24, β25, β26, β27, x0_4, x0_9, x0_14, x0_19, z0_20, z0_21, z0_22, z0_23, rfl, rfl, hB, hc0_4, hc0_9, hc0_14, hc0_19, ha0_20, ha0_21, ha0_22, ha0_23, hd0_20_21, hd0_20_22, hd0_20_23, hd0_21_22, hd0_21_23, hd0_22_23, hm0_24_4, hm0_24_20, hm0_25_9, hm0_25_21, hm0_26_14, hm0_26_22, hm0_27_19, hm0_27_23, g0, hr⟩ := hI
    have hall := ready_none (by rfl) (depsLow_spec (by kernel_rfl)) hr0
    obtain rfl : β0 = true := hall 0 (by decide)
    obtain rfl : β1 = true := hall 1 (by decide)
    obtain rfl : β2 = true := hall 2 (by decide)
    obtain rfl : β3 = true := hall 3 (by decide)
    obtain rfl : β4 = true := hall 4 (by decide)
    obtain rfl : β5 = true := hall 5 (by decide)
    obtain rfl : β6 = true := hall 6 (by decide)
    obtain rfl : β7 = true := hall 7 (by decide)
    obtain rfl : β8 = true := hall 8 (by decide)
    obtain rfl : β9 = true := hall 9 (by decide)
    obtain rfl : β10 = true := hall 10 (by decide)
    obtain rfl : β11 = true := hall 11 (by decide)
    obtain rfl : β12 = true := hall 12 (by decide)
    obtain rfl : β13 = true := hall 13 (by decide)
    obtain rfl : β14 = true := hall 14 (by decide)
    obtain rfl : β15 = true := hall 15 (by decide)
    obtain rfl : β16 = true := hall 16 (by decide)
    obtain rfl : β17 = true := hall 17 (by decide)
    obtain rfl : β18 = true := hall 18 (by decide)
    obtain rfl : β19 = true := hall 19 (by decide)
    obtain rfl : β20 = true := hall 20 (by decide)
    obtain rfl : β21 = true := hall 21 (by decide)
    obtain rfl : β22 = true := hall 22 (by decide)
    obtain rfl : β23 = true := hall 23 (by decide)
    obtain rfl : β24 = true := hall 24 (by decide)
    obtain rfl : β25 = true := hall 25 (by decide)
    obtain rfl : β26 = true := hall 26 (by decide)
    obtain rfl : β27 = true := hall 27 (by decide)
    clear hall hr0 hs
    replace hc0_4 := hc0_4.out rfl
    replace hc0_9 := hc0_9.out rfl
    replace hc0_14 := hc0_14.out rfl
    replace hc0_19 := hc0_19.out rfl
    replace ha0_20 := ha0_20.out rfl
    replace ha0_21 := ha0_21.out rfl
    replace ha0_22 := ha0_22.out rfl
    replace ha0_23 := ha0_23.out rfl
    simp only [cond_true] at ha0_20 ha0_21 ha0_22 ha0_23 hr ⊢
    have hBel := hBel.trans (hB.mono (Nat.le_refl _))
    have gz20_0 := ha0_20.2
    have gl20_0 := ha0_20.1
    have gz21_0 := ha0_21.2
    have gl21_0 := ha0_21.1
    have gz22_0 := ha0_22.2
    have gl22_0 := ha0_22.1
    have gz23_0 := ha0_23.2
    have gl23_0 := ha0_23.1
    have hres := hr
    generalize w' = W1 at *
    go_wp2
    have hw1 : w.heap.size ≤ W1.heap.size := Nat.le_of_lt (Nat.lt_of_le_of_lt (by omega) hres.lt)
    have lt_g01 := g0.lt
    have lt_gz20_01 := gz20_0.lt
    have lt_gz21_01 := gz21_0.lt
    have lt_gz22_01 := gz22_0.lt
    have lt_gz23_01 := gz23_0.lt
    have ltr1 := hres.lt
    refine wp_region_inv (by kernel_rfl) 10 rfl (fun l a w' => ∃ (β0 β1 β2 β3 β4 β5 β6 β7 β8 β9 : Bool) (x1_2 x1_5 : Value) (z1_6 z1_7 : Nat), l = #[β0, β1, β2, β3, β4, β5, β6, β7, β8, β9] ∧ a = ⟨#[.agg (catW [W4 l00_0 l00_1 l00_2 l00_3, W4 l01_0 l01_1 l01_2 l01_3, W4 l02_0 l02_1 l02_2 l02_3, W4 l03_0 l03_1 l03_2 l03_3]), .pointer (some ⟨w.heap.size, 0, none⟩), .pointer (some ⟨w.heap.size + 1, 0, none⟩), .pointer (some ⟨z0_20, 0, none⟩), .pointer (some ⟨z0_21, 0, none⟩), .pointer (some ⟨z0_22, 0, none⟩), .pointer (some ⟨z0_23, 0, none⟩), bif β6 then .pointer (some ⟨z1_6, 0, none⟩) else undef, bif β7 then .pointer (some ⟨z1_7, 0, none⟩) else undef, undef, .pointer (some ⟨w.heap.size, 0, none⟩), W4 l00_0 l00_1 l00_2 l00_3, .pointer (some ⟨w.heap.size, 0, none⟩), W4 l00_0 l00_1 l00_2 l00_3, x0_4, .pointer (some ⟨w.heap.size, 4, none⟩), W4 l01_0 l01_1 l01_2 l01_3, .pointer (some ⟨w.heap.size, 4, none⟩), W4 l01_0 l01_1 l01_2 l01_3, x0_9, .pointer (some ⟨w.heap.size, 8, none⟩), W4 l02_0 l02_1 l02_2 l02_3, .pointer (some ⟨w.heap.size, 8, none⟩), W4 l02_0 l02_1 l02_2 l02_3, x0_14, .pointer (some ⟨w.heap.size, 0, none⟩), W4 l00_0 l00_1 l00_2 l00_3, .pointer (some ⟨w.heap.size, 4, none⟩), W4 l01_0 l01_1 l01_2 l01_3, x0_19, bif β0 then x0_9 else undef, bif β1 then x0_4 else undef, bif β2 then x1_2 else undef, bif β3 then x0_9 else undef, bif β4 then x0_4 else undef, bif β5 then x1_5 else undef, undef, undef, undef, undef, undef, undef, undef, undef, undef, undef, undef, undef, undef, undef], []⟩ ∧ Below (w.heap.size) W1 w' ∧ Hid (β2 = true → IsF x1_2 (((ky) * (ky)) + ((kx) * (kx)))) ∧ Hid (β5 = true → IsF x1_5 (((ky) * (ky)) - ((kx) * (kx)))) ∧ Hid (β6 = true → W1.heap.size ≤ z1_6 ∧ VarS w' z1_6 24 (bif β8 then [x1_2] else [W4 0 0 0 0])) ∧ Hid (β7 = true → W1.heap.size ≤ z1_7 ∧ VarS w' z1_7 24 (bif β9 then [x1_5] else [W4 0 0 0 0])) ∧ Hid (β6 = true → β7 = true → z1_6 ≠ z1_7) ∧ Hid (β8 = true → β2 = true) ∧ Hid (β8 = true → β6 = true) ∧ Hid (β9 = true → β5 = true) ∧ Hid (β9 = true → β7 = true) ∧ VarS w' (w.heap.size) 87 [W4 l00_0 l00_1 l00_2 l00_3, W4 l01_0 l01_1 l01_2 l01_3, W4 l02_0 l02_1 l02_2 l02_3, W4 l03_0 l03_1 l03_2 l03_3] ∧ VarS w' (z0_20) 24 [x0_4] ∧ VarS w' (z0_21) 24 [x0_9] ∧ VarS w' (z0_22) 24 [x0_14] ∧ VarS w' (z0_23) 24 [x0_19] ∧ VarS w' (w.heap.size + 1) 87 [W4 0 0 0 0, W4 0 0 0 0, W4 0 0 0 0, W4 0 0 0 0]) ?h01 ?hend1 ?hstep1
    case h01 => exact ⟨false, false, false, false, false, false, false, false, false, false, undef, undef, 0, 0, rfl, rfl, Below.drew (Below.refl _ _), (fun h => by cases h), (fun h => by cases h), (fun h => by cases h), (fun h => by cases h), (fun h => by cases h), (fun h => by cases h), (fun h => by cases h), (fun h => by cases h), (fun h => by cases h), g0.drew, gz20_0.drew, gz21_0.drew, gz22_0.drew, gz23_0.drew, hres.drew⟩
    case hend1 =>
      intro l a w' hs hI hr0
      obtain ⟨β0, β1, β2, β3, β4, β5, β6, β7, β8, β9, x1_2, x1_5, z1_6, z1_7, rfl, rfl, hB, hc1_2, hc1_5, ha1_6, ha1_7, hd1_6_7, hm1_8_2, hm1_8_6, hm1_9_5, hm1_9_7, g0, gz20_0, gz21_0, gz22_0, gz23_0, hr⟩ := hI
      have hall := ready_none (by rfl) (depsLow_spec (by kernel_rfl)) hr0
      obtain rfl : β0 = true := hall 0 (by decide)
      obtain rfl : β1 = true := hall 1 (by decide)
      obtain rfl : β2 = true := hall 2 (by decide)
      obtain rfl : β3 = true := hall 3 (by decide)
      obtain rfl : β4 = true := hall 4 (by decide)
      obtain rfl : β5 = true := hall 5 (by decide)
      obtain rfl : β6 = true := hall 6 (by decide)
      obtain rfl : β7 = true := hall 7 (by decide)
      obtain rfl : β8 = true := hall 8 (by decide)
      obtain rfl : β9 = true := hall 9 (by decide)
      clear hall hr0 hs
      replace hc1_2 := hc1_2.out rfl
      replace hc1_5 := hc1_5.out rfl
      replace ha1_6 := ha1_6.out rfl
      replace ha1_7 := ha1_7.out rfl
      simp only [cond_true] at ha1_6 ha1_7 hr ⊢
      have hBel := hBel.trans (hB.mono (Nat.le_refl _))
      have gz6_1 := ha1_6.2
      have gl6_1 := ha1_6.1
      have gz7_1 := ha1_7.2
      have gl7_1 := ha1_7.1
      have hres := hr
      generalize w' = W2 at *
      go_wp2
      have hw2 : w.heap.size ≤ W2.heap.size := Nat.le_of_lt (Nat.lt_of_le_of_lt (by omega) hres.lt)
      have lt_g02 := g0.lt
      have lt_gz20_02 := gz20_0.lt
      have lt_gz21_02 := gz21_0.lt
      have lt_gz22_02 := gz22_0.lt
      have lt_gz23_02 := gz23_0.lt
      have lt_gz6_12 := gz6_1.lt
      have lt_gz7_12 := gz7_1.lt
      have ltr2 := hres.lt
      refine wp_region_inv (by kernel_rfl) 7 rfl (fun l a w' => ∃ (β0 β1 β2 β3 β4 β5 β6 : Bool) (x2_2 x2_4 : Value) (z2_5 : Nat), l = #[β0, β1, β2, β3, β4, β5, β6] ∧ a = ⟨#[.agg (catW [W4 l00_0 l00_1 l00_2 l00_3, W4 l01_0 l01_1 l01_2 l01_3, W4 l02_0 l02_1 l02_2 l02_3, W4 l03_0 l03_1 l03_2 l03_3]), .pointer (some ⟨w.heap.size, 0, none⟩), .pointer (some ⟨w.heap.size + 1, 0, none⟩), .pointer (some ⟨z0_20, 0, none⟩), .pointer (some ⟨z0_21, 0, none⟩), .pointer (some ⟨z0_22, 0, none⟩), .pointer (some ⟨z0_23, 0, none⟩), .pointer (some ⟨z1_6, 0, none⟩), .pointer (some ⟨z1_7, 0, none⟩), bif β5 then .pointer (some ⟨z2_5, 0, none⟩) else undef, .pointer (some ⟨w.heap.size, 0, none⟩), W4 l00_0 l00_1 l00_2 l00_3, .pointer (some ⟨w.heap.size, 0, none⟩), W4 l00_0 l00_1 l00_2 l00_3, x0_4, .pointer (some ⟨w.heap.size, 4, none⟩), W4 l01_0 l01_1 l01_2 l01_3, .pointer (some ⟨w.heap.size, 4, none⟩), W4 l01_0 l01_1 l01_2 l01_3, x0_9, .pointer (some ⟨w.heap.size, 8, none⟩), W4 l02_0 l02_1 l02_2 l02_3, .pointer (some ⟨w.heap.size, 8, none⟩), W4 l02_0 l02_1 l02_2 l02_3, x0_14, .pointer (some ⟨w.heap.size, 0, none⟩), W4 l00_0 l00_1 l00_2 l00_3, .pointer (some ⟨w.heap.size, 4, none⟩), W4 l01_0 l01_1 l01_2 l01_3, x0_19, x0_9, x0_4, x1_2, x0_9, x0_4, x1_5, bif β0 then x0_19 else undef, bif β1 then x0_19 else undef, bif β2 then x2_2 else undef, bif β3 then x1_2 else undef, bif β4 then x2_4 else undef, undef, undef, undef, undef, undef, undef, undef, undef, undef], []⟩ ∧ Below (w.heap.size) W2 w' ∧ Hid (β2 = true → IsF x2_2 (((kx) + (ky)) * ((kx) + (ky)))) ∧ Hid (β4 = true → IsF x2_4 ((((kx) + (ky)) * ((kx) + (ky))) - (((ky) * (ky)) + ((kx) * (kx))))) ∧ Hid (β5 = true → W2.heap.size ≤ z2_5 ∧ VarS w' z2_5 24 (bif β6 then [x2_4] else [W4 0 0 0 0])) ∧ Hid (β6 = true → β4 = true) ∧ Hid (β6 = true → β5 = true) ∧ VarS w' (w.heap.size) 87 [W4 l00_0 l00_1 l00_2 l00_3, W4 l01_0 l01_1 l01_2 l01_3, W4 l02_0 l02_1 l02_2 l02_3, W4 l03_0 l03_1 l03_2 l03_3] ∧ VarS w' (z0_20) 24 [x0_4] ∧ VarS w' (z0_21) 24 [x0_9] ∧ VarS w' (z0_22) 24 [x0_14] ∧ VarS w' (z0_23) 24 [x0_19] ∧ VarS w' (z1_6) 24 [x1_2] ∧ VarS w' (z1_7) 24 [x1_5] ∧ VarS w' (w.heap.size + 1) 87 [W4 0 0 0 0, W4 0 0 0 0, W4 0 0 0 0, W4 0 0 0 0]) ?h02 ?hend2 ?hstep2
      case h02 => exact ⟨false, false, false, false, false, false, false, undef, undef, 0, rfl, rfl, Below.drew (Below.refl _ _), (fun h => by cases h), (fun h => by cases h), (fun h => by cases h), (fun h => by cases h), (fun h => by cases h), g0.drew, gz20_0.drew, gz21_0.drew, gz22_0.drew, gz23_0.drew, gz6_1.drew, gz7_1.drew, hres.drew⟩
      case hend2 =>
        intro l a w' hs hI hr0
        obtain ⟨β0, β1, β2, β3, β4, β5, β6, x2_2, x2_4, z2_5, rfl, rfl, hB, hc2_2, hc2_4, ha2_5, hm2_6_4, hm2_6_5, g0, gz20_0, gz21_0, gz22_0, gz23_0, gz6_1, gz7_1, hr⟩ := hI
        have hall := ready_none (by rfl) (depsLow_spec (by kernel_rfl)) hr0
        obtain rfl : β0 = true := hall 0 (by decide)
        obtain rfl : β1 = true := hall 1 (by decide)
        obtain rfl : β2 = true := hall 2 (by decide)
        obtain rfl : β3 = true := hall 3 (by decide)
        obtain rfl : β4 = true := hall 4 (by decide)
        obtain rfl : β5 = true := hall 5 (by decide)
        obtain rfl : β6 = true := hall 6 (by decide)
        clear hall hr0 hs
        replace hc2_2 := hc2_2.out rfl
        replace hc2_4 := hc2_4.out rfl
        replace ha2_5 := ha2_5.out rfl
        simp only [cond_true] at ha2_5 hr ⊢
        have hBel := hBel.trans (hB.mono (Nat.le_refl _))
        have gz5_2 := ha2_5.2
        have gl5_2 := ha2_5.1
        have hres := hr
        generalize w' = W3 at *
        go_wp2
        have hw3 : w.heap.size ≤ W3.heap.size := Nat.le_of_lt (Nat.lt_of_le_of_lt (by omega) hres.lt)
        have lt_g03 := g0.lt
        have lt_gz20_03 := gz20_0.lt
        have lt_gz21_03 := gz21_0.lt
        have lt_gz22_03 := gz22_0.lt
        have lt_gz23_03 := gz23_0.lt
        have lt_gz6_13 := gz6_1.lt
        have lt_gz7_13 := gz7_1.lt
        have lt_gz5_23 := gz5_2.lt
        have ltr3 := hres.lt
        refine wp_region_inv (by kernel_rfl) 10 rfl (fun l a w' => ∃ (β0 β1 β2 β3 β4 β5 β6 β7 β8 β9 : Bool) (x3_5 x3_7 x3_8_0 x3_8_1 x3_8_2 x3_8_3 : Value), l = #[β0, β1, β2, β3, β4, β5, β6, β7, β8, β9] ∧ a = ⟨#[.agg (catW [W4 l00_0 l00_1 l00_2 l00_3, W4 l01_0 l01_1 l01_2 l01_3, W4 l02_0 l02_1 l02_2 l02_3, W4 l03_0 l03_1 l03_2 l03_3]), .pointer (some ⟨w.heap.size, 0, none⟩), .pointer (some ⟨w.heap.size + 1, 0, none⟩), .pointer (some ⟨z0_20, 0, none⟩), .pointer (some ⟨z0_21, 0, none⟩), .pointer (some ⟨z0_22, 0, none⟩), .pointer (some ⟨z0_23, 0, none⟩), .pointer (some ⟨z1_6, 0, none⟩), .pointer (some ⟨z1_7, 0, none⟩), .pointer (some ⟨z2_5, 0, none⟩), .pointer (some ⟨w.heap.size, 0, none⟩), W4 l00_0 l00_1 l00_2 l00_3, .pointer (some ⟨w.heap.size, 0, none⟩), W4 l00_0 l00_1 l00_2 l00_3, x0_4, .pointer (some ⟨w.heap.size, 4, none⟩), W4 l01_0 l01_1 l01_2 l01_3, .pointer (some ⟨w.heap.size, 4, none⟩), W4 l01_0 l01_1 l01_2 l01_3, x0_9, .pointer (some ⟨w.heap.size, 8, none⟩), W4 l02_0 l02_1 l02_2 l02_3, .pointer (some ⟨w.heap.size, 8, none⟩), W4 l02_0 l02_1 l02_2 l02_3, x0_14, .pointer (some ⟨w.heap.size, 0, none⟩), W4 l00_0 l00_1 l00_2 l00_3, .pointer (some ⟨w.heap.size, 4, none⟩), W4 l01_0 l01_1 l01_2 l01_3, x0_19, x0_9, x0_4, x1_2, x0_9, x0_4, x1_5, x0_19, x0_19, x2_2, x1_2, x2_4, bif β0 then x2_4 else undef, bif β1 then x1_2 else undef, bif β2 then x1_5 else undef, bif β3 then x0_14 else undef, bif β4 then x0_14 else undef, bif β5 then x3_5 else undef, bif β6 then x1_5 else undef, bif β7 then x3_7 else undef, bif β8 then .agg (catW [x3_8_0, x3_8_1, x3_8_2, x3_8_3]) else undef], []⟩ ∧ Below (w.heap.size) W3 w' ∧ Hid (β5 = true → IsF x3_5 (((kz) * (kz)) + ((kz) * (kz)))) ∧ Hid (β7 = true → IsF x3_7 ((((kz) * (kz)) + ((kz) * (kz))) - (((ky) * (ky)) - ((kx) * (kx))))) ∧ Hid (β8 = true → IsF x3_8_0 (((((kx) + (ky)) * ((kx) + (ky))) - (((ky) * (ky)) + ((kx) * (kx)))) * ((((kz) * (kz)) + ((kz) * (kz))) - (((ky) * (ky)) - ((kx) * (kx))))) ∧ IsF x3_8_1 ((((ky) * (ky)) + ((kx) * (kx))) * (((ky) * (ky)) - ((kx) * (kx)))) ∧ IsF x3_8_2 ((((ky) * (ky)) - ((kx) * (kx))) * ((((kz) * (kz)) + ((kz) * (kz))) - (((ky) * (ky)) - ((kx) * (kx))))) ∧ IsF x3_8_3 (((((kx) + (ky)) * ((kx) + (ky))) - (((ky) * (ky)) + ((kx) * (kx)))) * (((ky) * (ky)) + ((kx) * (kx))))) ∧ Hid (β9 = true → β8 = true) ∧ VarS w' (w.heap.size) 87 [W4 l00_0 l00_1 l00_2 l00_3, W4 l01_0 l01_1 l01_2 l01_3, W4 l02_0 l02_1 l02_2 l02_3, W4 l03_0 l03_1 l03_2 l03_3] ∧ VarS w' (z0_20) 24 [x0_4] ∧ VarS w' (z0_21) 24 [x0_9] ∧ VarS w' (z0_22) 24 [x0_14] ∧ VarS w' (z0_23) 24 [x0_19] ∧ VarS w' (z1_6) 24 [x1_2] ∧ VarS w' (z1_7) 24 [x1_5] ∧ VarS w' (z2_5) 24 [x2_4] ∧ VarS w' (w.heap.size + 1) 87 (bif β9 then [x3_8_0, x3_8_1, x3_8_2, x3_8_3] else [W4 0 0 0 0, W4 0 0 0 0, W4 0 0 0 0, W4 0 0 0 0])) ?h03 ?hend3 ?hstep3
        case h03 => exact ⟨false, false, false, false, false, false, false, false, false, false, undef, undef, undef, undef, undef, undef, rfl, rfl, Below.drew (Below.refl _ _), (fun h => by cases h), (fun h => by cases h), (fun h => by cases h), (fun h => by cases h), g0.drew, gz20_0.drew, gz21_0.drew, gz22_0.drew, gz23_0.drew, gz6_1.drew, gz7_1.drew, gz5_2.drew, hres.drew⟩
        case hend3 =>
          intro l a w' hs hI hr0
          obtain ⟨β0, β1, β2, β3, β4, β5, β6, β7, β8, β9, x3_5, x3_7, x3_8_0, x3_8_1, x3_8_2, x3_8_3, rfl, rfl, hB, hc3_5, hc3_7, hc3_8, hm3_9_8, g0, gz20_0, gz21_0, gz22_0, gz23_0, gz6_1, gz7_1, gz5_2, hr⟩ := hI
          have hall := ready_none (by rfl) (depsLow_spec (by kernel_rfl)) hr0
          obtain rfl : β0 = true := hall 0 (by decide)
          obtain rfl : β1 = true := hall 1 (by decide)
          obtain rfl : β2 = true := hall 2 (by decide)
          obtain rfl : β3 = true := hall 3 (by decide)
          obtain rfl : β4 = true := hall 4 (by decide)
          obtain rfl : β5 = true := hall 5 (by decide)
          obtain rfl : β6 = true := hall 6 (by decide)
          obtain rfl : β7 = true := hall 7 (by decide)
          obtain rfl : β8 = true := hall 8 (by decide)
          obtain rfl : β9 = true := hall 9 (by decide)
          clear hall hr0 hs
          replace hc3_5 := hc3_5.out rfl
          replace hc3_7 := hc3_7.out rfl
          replace hc3_8 := hc3_8.out rfl
          simp only [cond_true] at hr ⊢
          have hBel := hBel.trans (hB.mono (Nat.le_refl _))
          have hl := load76 hr
          go_wp2
          exact bodyPost_ret (v := .agg (catW [x3_8_0, x3_8_1, x3_8_2, x3_8_3])) (by simp [results, Tryz.results63, asAddr, hl]) rfl ⟨_, _, _, _, rfl, ⟨hc3_8.1, hc3_8.2.1, hc3_8.2.2.1, hc3_8.2.2.2⟩, hBel⟩
        case hstep3 =>
          intro i l a w' hs hI hi
          obtain ⟨β0, β1, β2, β3, β4, β5, β6, β7, β8, β9, x3_5, x3_7, x3_8_0, x3_8_1, x3_8_2, x3_8_3, rfl, rfl, hB, hc3_5, hc3_7, hc3_8, hm3_9_8, g0, gz20_0, gz21_0, gz22_0, gz23_0, gz6_1, gz7_1, gz5_2, hr⟩ := hI
          obtain ⟨hlt, hun, _⟩ := ready_mem hi
          have hlt' : i < 10 := hlt
          clear hlt hs
          have hcs : i = 0 ∨ i = 1 ∨ i = 2 ∨ i = 3 ∨ i = 4 ∨ i = 5 ∨ i = 6 ∨ i = 7 ∨ i = 8 ∨ i = 9 := by omega
          clear hlt'
          rcases hcs with rfl | rfl | rfl | rfl | rfl | rfl | rfl | rfl | rfl | rfl
          · obtain rfl : β0 = false := hun
            clear hi
            try simp only [cond_true, cond_false]
            refine ws (fun Kx hK => ?_)
            refine step_yield (v := x2_4) (by rfl) ?_ ?_
            · exact run_load_exec 24 _ rfl _ rfl (gz5_2.part 0 rfl)
            · exact hK.out _ _ ⟨true, β1, β2, β3, β4, β5, β6, β7, β8, β9, x3_5, x3_7, x3_8_0, x3_8_1, x3_8_2, x3_8_3, rfl, rfl, hB, hc3_5, hc3_7, hc3_8, hm3_9_8, g0, gz20_0, gz21_0, gz22_0, gz23_0, gz6_1, gz7_1, gz5_2, hr⟩
          · obtain rfl : β1 = false := hun
            clear hi
            try simp only [cond_true, cond_false]
            refine ws (fun Kx hK => ?_)
            refine step_yield (v := x1_2) (by rfl) ?_ ?_
            · exact run_load_exec 24 _ rfl _ rfl (gz6_1.part 0 rfl)
            · exact hK.out _ _ ⟨β0, true, β2, β3, β4, β5, β6, β7, β8, β9, x3_5, x3_7, x3_8_0, x3_8_1, x3_8_2, x3_8_3, rfl, rfl, hB, hc3_5, hc3_7, hc3_8, hm3_9_8, g0, gz20_0, gz21_0, gz22_0, gz23_0, gz6_1, gz7_1, gz5_2, hr⟩
          · obtain rfl : β2 = false := hun
            clear hi
            try simp only [cond_true, cond_false]
            refine ws (fun Kx hK => ?_)
            refine step_yield (v := x1_5) (by rfl) ?_ ?_
            · exact run_load_exec 24 _ rfl _ rfl (gz7_1.part 0 rfl)
            · exact hK.out _ _ ⟨β0, β1, true, β3, β4, β5, β6, β7, β8, β9, x3_5, x3_7, x3_8_0, x3_8_1, x3_8_2, x3_8_3, rfl, rfl, hB, hc3_5, hc3_7, hc3_8, hm3_9_8, g0, gz20_0, gz21_0, gz22_0, gz23_0, gz6_1, gz7_1, gz5_2, hr⟩
          · obtain rfl : β3 = false := hun
            clear hi
            try simp only [cond_true, cond_false]
            refine ws (fun Kx hK => ?_)
            refine step_yield (v := x0_14) (by rfl) ?_ ?_
            · exact run_load_exec 24 _ rfl _ rfl (gz22_0.part 0 rfl)
            · exact hK.out _ _ ⟨β0, β1, β2, true, β4, β5, β6, β7, β8, β9, x3_5, x3_7, x3_8_0, x3_8_1, x3_8_2, x3_8_3, rfl, rfl, hB, hc3_5, hc3_7, hc3_8, hm3_9_8, g0, gz20_0, gz21_0, gz22_0, gz23_0, gz6_1, gz7_1, gz5_2, hr⟩
          · obtain rfl : β4 = false := hun
            clear hi
            try simp only [cond_true, cond_false]
            refine ws (fun Kx hK => ?_)
            refine step_yield (v := x0_14) (by rfl) ?_ ?_
            · exact run_load_exec 24 _ rfl _ rfl (gz22_0.part 0 rfl)
            · exact hK.out _ _ ⟨β0, β1, β2, β3, true, β5, β6, β7, β8, β9, x3_5, x3_7, x3_8_0, x3_8_1, x3_8_2, x3_8_3, rfl, rfl, hB, hc3_5, hc3_7, hc3_8, hm3_9_8, g0, gz20_0, gz21_0, gz22_0, gz23_0, gz6_1, gz7_1, gz5_2, hr⟩
          · obtain rfl : β5 = false := hun
            obtain rfl : β3 = true := ready_dep (k := 0) hi rfl rfl rfl
            obtain rfl : β4 = true := ready_dep (k := 1) hi rfl rfl rfl
            clear hi
            try simp only [cond_true, cond_false]
            refine ws (fun Kx hK => ?_)
            go_simp
            refine Calls.mono (f_add hc0_14 hc0_14 _) ?_
            rintro e w2 ⟨v, rfl, hv, hb2⟩
            go_wp2_with fail
            exact hK.out _ _ ⟨β0, β1, β2, true, true, true, β6, β7, β8, β9, v, x3_7, x3_8_0, x3_8_1, x3_8_2, x3_8_3, rfl, rfl, (hB.trans (hb2.mono (Nat.le_trans hw3 hB.size))), (fun _ => hv), hc3_7, hc3_8, hm3_9_8, (g0.kept hb2), (gz20_0.kept hb2), (gz21_0.kept hb2), (gz22_0.kept hb2), (gz23_0.kept hb2), (gz6_1.kept hb2), (gz7_1.kept hb2), (gz5_2.kept hb2), (hr.kept hb2)⟩
          · obtain rfl : β6 = false := hun
            clear hi
            try simp only [cond_true, cond_false]
            refine ws (fun Kx hK => ?_)
            refine step_yield (v := x1_5) (by rfl) ?_ ?_
            · exact run_load_exec 24 _ rfl _ rfl (gz7_1.part 0 rfl)
            · exact hK.out _ _ ⟨β0, β1, β2, β3, β4, β5, true, β7, β8, β9, x3_5, x3_7, x3_8_0, x3_8_1, x3_8_2, x3_8_3, rfl, rfl, hB, hc3_5, hc3_7, hc3_8, hm3_9_8, g0, gz20_0, gz21_0, gz22_0, gz23_0, gz6_1, gz7_1, gz5_2, hr⟩
          · obtain rfl : β7 = false := hun
            obtain rfl : β5 = true := ready_dep (k := 0) hi rfl rfl rfl
            obtain rfl : β6 = true := ready_dep (k := 1) hi rfl rfl rfl
            clear hi
            try simp only [cond_true, cond_false]
            refine ws (fun Kx hK => ?_)
            replace hc3_5 := hc3_5.out rfl
            go_simp
            refine Calls.mono (f_sub hc3_5 hc1_5 _) ?_
            rintro e w2 ⟨v, rfl, hv, hb2⟩
            go_wp2_with fail
            exact hK.out _ _ ⟨β0, β1, β2, β3, β4, true, true, true, β8, β9, x3_5, v, x3_8_0, x3_8_1, x3_8_2, x3_8_3, rfl, rfl, (hB.trans (hb2.mono (Nat.le_trans hw3 hB.size))), (fun _ => hc3_5), (fun _ => hv), hc3_8, hm3_9_8, (g0.kept hb2), (gz20_0.kept hb2), (gz21_0.kept hb2), (gz22_0.kept hb2), (gz23_0.kept hb2), (gz6_1.kept hb2), (gz7_1.kept hb2), (gz5_2.kept hb2), (hr.kept hb2)⟩
          · obtain rfl : β8 = false := hun
            obtain rfl : β0 = true := ready_dep (k := 0) hi rfl rfl rfl
            obtain rfl : β1 = true := ready_dep (k := 1) hi rfl rfl rfl
            obtain rfl : β2 = true := ready_dep (k := 2) hi rfl rfl rfl
            obtain rfl : β7 = true := ready_dep (k := 3) hi rfl rfl rfl
            obtain rfl : β9 = false := Bool.eq_false_iff.2 (fun h => by have := hm3_9_8.out h; cases this)
            clear hi
            try simp only [cond_true, cond_false]
            refine ws (fun Kx hK => ?_)
            replace hc3_7 := hc3_7.out rfl
            go_simp
            refine Calls.mono (f_joined hc2_4 hc1_2 hc1_5 hc3_7 _) ?_
            rintro e w2 ⟨v0, v1, v2, v3, rfl, hv, hb2⟩
            go_wp2_with fail
            exact hK.out _ _ ⟨true, true, true, β3, β4, β5, β6, true, true, false, x3_5, x3_7, v0, v1, v2, v3, rfl, rfl, (hB.trans (hb2.mono (Nat.le_trans hw3 hB.size))), hc3_5, (fun _ => hc3_7), (fun _ => hv), (fun _ => rfl), (g0.kept hb2), (gz20_0.kept hb2), (gz21_0.kept hb2), (gz22_0.kept hb2), (gz23_0.kept hb2), (gz6_1.kept hb2), (gz7_1.kept hb2), (gz5_2.kept hb2), (hr.kept hb2)⟩
          · obtain rfl : β9 = false := hun
            obtain rfl : β8 = true := ready_dep (k := 0) hi rfl rfl rfl
            clear hi
            try simp only [cond_true, cond_false]
            refine ws (fun Kx hK => ?_)
            refine step_store_S (us := [x3_8_0, x3_8_1, x3_8_2, x3_8_3]) (vs := [W4 0 0 0 0, W4 0 0 0 0, W4 0 0 0 0, W4 0 0 0 0]) (by rfl) 87 _ _ rfl (w.heap.size + 1) rfl rfl (words4 (hc3_8.out rfl).1 (hc3_8.out rfl).2.1 (hc3_8.out rfl).2.2.1 (hc3_8.out rfl).2.2.2) rfl (by kernel_rfl) hr ?_
            exact hK.out _ _ ⟨β0, β1, β2, β3, β4, β5, β6, β7, true, true, x3_5, x3_7, x3_8_0, x3_8_1, x3_8_2, x3_8_3, rfl, rfl, (below_setRow hB (by omega) _), hc3_5, hc3_7, hc3_8, (fun _ => rfl), (g0.other (by omega) _), (gz20_0.other (by omega) _), (gz21_0.other (by omega) _), (gz22_0.other (by omega) _), (gz23_0.other (by omega) _), (gz6_1.other (by omega) _), (gz7_1.other (by omega) _), (gz5_2.other (by omega) _), (hr.put (words4 (hc3_8.out rfl).1 (hc3_8.out rfl).2.1 (hc3_8.out rfl).2.2.1 (hc3_8.out rfl).2.2.2))⟩
      case hstep2 =>
        intro i l a w' hs hI hi
        obtain ⟨β0, β1, β2, β3, β4, β5, β6, x2_2, x2_4, z2_5, rfl, rfl, hB, hc2_2, hc2_4, ha2_5, hm2_6_4, hm2_6_5, g0, gz20_0, gz21_0, gz22_0, gz23_0, gz6_1, gz7_1, hr⟩ := hI
        obtain ⟨hlt, hun, _⟩ := ready_mem hi
        have hlt' : i < 7 := hlt
        clear hlt hs
        have hcs : i = 0 ∨ i = 1 ∨ i = 2 ∨ i = 3 ∨ i = 4 ∨ i = 5 ∨ i = 6 := by omega
        clear hlt'
        rcases hcs with rfl | rfl | rfl | rfl | rfl | rfl | rfl
        · obtain rfl : β0 = false := hun
          clear hi
          try simp only [cond_true, cond_false]
          refine ws (fun Kx hK => ?_)
          refine step_yield (v := x0_19) (by rfl) ?_ ?_
          · exact run_load_exec 24 _ rfl _ rfl (gz23_0.part 0 rfl)
          · exact hK.out _ _ ⟨true, β1, β2, β3, β4, β5, β6, x2_2, x2_4, z2_5, rfl, rfl, hB, hc2_2, hc2_4, ha2_5, hm2_6_4, hm2_6_5, g0, gz20_0, gz21_0, gz22_0, gz23_0, gz6_1, gz7_1, hr⟩
        · obtain rfl : β1 = false := hun
          clear hi
          try simp only [cond_true, cond_false]
          refine ws (fun Kx hK => ?_)
          refine step_yield (v := x0_19) (by rfl) ?_ ?_
          · exact run_load_exec 24 _ rfl _ rfl (gz23_0.part 0 rfl)
          · exact hK.out _ _ ⟨β0, true, β2, β3, β4, β5, β6, x2_2, x2_4, z2_5, rfl, rfl, hB, hc2_2, hc2_4, ha2_5, hm2_6_4, hm2_6_5, g0, gz20_0, gz21_0, gz22_0, gz23_0, gz6_1, gz7_1, hr⟩
        · obtain rfl : β2 = false := hun
          obtain rfl : β0 = true := ready_dep (k := 0) hi rfl rfl rfl
          obtain rfl : β1 = true := ready_dep (k := 1) hi rfl rfl rfl
          clear hi
          try simp only [cond_true, cond_false]
          refine ws (fun Kx hK => ?_)
          go_simp
          refine Calls.mono (f_mul hc0_19 hc0_19 _) ?_
          rintro e w2 ⟨v, rfl, hv, hb2⟩
          go_wp2_with fail
          exact hK.out _ _ ⟨true, true, true, β3, β4, β5, β6, v, x2_4, z2_5, rfl, rfl, (hB.trans (hb2.mono (Nat.le_trans hw2 hB.size))), (fun _ => hv), hc2_4, (fun h => ⟨(ha2_5.out h).1, (ha2_5.out h).2.kept hb2⟩), hm2_6_4, hm2_6_5, (g0.kept hb2), (gz20_0.kept hb2), (gz21_0.kept hb2), (gz22_0.kept hb2), (gz23_0.kept hb2), (gz6_1.kept hb2), (gz7_1.kept hb2), (hr.kept hb2)⟩
        · obtain rfl : β3 = false := hun
          clear hi
          try simp only [cond_true, cond_false]
          refine ws (fun Kx hK => ?_)
          refine step_yield (v := x1_2) (by rfl) ?_ ?_
          · exact run_load_exec 24 _ rfl _ rfl (gz6_1.part 0 rfl)
          · exact hK.out _ _ ⟨β0, β1, β2, true, β4, β5, β6, x2_2, x2_4, z2_5, rfl, rfl, hB, hc2_2, hc2_4, ha2_5, hm2_6_4, hm2_6_5, g0, gz20_0, gz21_0, gz22_0, gz23_0, gz6_1, gz7_1, hr⟩
        · obtain rfl : β4 = false := hun
          obtain rfl : β2 = true := ready_dep (k := 0) hi rfl rfl rfl
          obtain rfl : β3 = true := ready_dep (k := 1) hi rfl rfl rfl
          obtain rfl : β6 = false := Bool.eq_false_iff.2 (fun h => by have := hm2_6_4.out h; cases this)
          clear hi
          try simp only [cond_true, cond_false]
          refine ws (fun Kx hK => ?_)
          replace hc2_2 := hc2_2.out rfl
          go_simp
          refine Calls.mono (f_sub hc2_2 hc1_2 _) ?_
          rintro e w2 ⟨v, rfl, hv, hb2⟩
          go_wp2_with fail
          exact hK.out _ _ ⟨β0, β1, true, true, true, β5, false, x2_2, v, z2_5, rfl, rfl, (hB.trans (hb2.mono (Nat.le_trans hw2 hB.size))), (fun _ => hc2_2), (fun _ => hv), (fun h => ⟨(ha2_5.out h).1, (ha2_5.out h).2.kept hb2⟩), (fun _ => rfl), hm2_6_5, (g0.kept hb2), (gz20_0.kept hb2), (gz21_0.kept hb2), (gz22_0.kept hb2), (gz23_0.kept hb2), (gz6_1.kept hb2), (gz7_1.kept hb2), (hr.kept hb2)⟩
        · obtain rfl : β5 = false := hun
          obtain rfl : β6 = false := Bool.eq_false_iff.2 (fun h => by have := hm2_6_5.out h; cases this)
          clear hi
          try simp only [cond_true, cond_false]
          refine ws (fun Kx hK => ?_)
          go_simp
          exact hK.out _ _ ⟨β0, β1, β2, β3, β4, true, false, x2_2, x2_4, w'.heap.size, rfl, rfl, (hB.alloc (Nat.le_trans hw2 hB.size) _), hc2_2, hc2_4, (fun _ => ⟨hB.size, VarS.new24 _⟩), hm2_6_4, (fun _ => rfl), (g0.old _), (gz20_0.old _), (gz21_0.old _), (gz22_0.old _), (gz23_0.old _), (gz6_1.old _), (gz7_1.old _), (hr.old _)⟩
        · obtain rfl : β6 = false := hun
          obtain rfl : β4 = true := ready_dep (k := 1) hi rfl rfl rfl
          obtain rfl : β5 = true := ready_dep (k := 0) hi rfl rfl rfl
          clear hi
          try simp only [cond_true, cond_false]
          refine ws (fun Kx hK => ?_)
          refine step_store_wordS (u := x2_4) (v := W4 0 0 0 0) (by rfl) _ _ rfl z2_5 rfl rfl (hc2_4.out rfl) (ha2_5.out rfl).2 ?_
          exact hK.out _ _ ⟨β0, β1, β2, β3, true, true, true, x2_2, x2_4, z2_5, rfl, rfl, (below_setRow hB (Nat.le_trans hw2 (ha2_5.out rfl).1) _), hc2_2, hc2_4, (fun _ => ⟨(ha2_5.out rfl).1, ((ha2_5.out rfl).2.put (words1 (hc2_4.out rfl)))⟩), (fun _ => rfl), (fun _ => rfl), (g0.other (Nat.ne_of_lt (Nat.lt_of_lt_of_le lt_g02 (ha2_5.out rfl).1)) _), (gz20_0.other (Nat.ne_of_lt (Nat.lt_of_lt_of_le lt_gz20_02 (ha2_5.out rfl).1)) _), (gz21_0.other (Nat.ne_of_lt (Nat.lt_of_lt_of_le lt_gz21_02 (ha2_5.out rfl).1)) _), (gz22_0.other (Nat.ne_of_lt (Nat.lt_of_lt_of_le lt_gz22_02 (ha2_5.out rfl).1)) _), (gz23_0.other (Nat.ne_of_lt (Nat.lt_of_lt_of_le lt_gz23_02 (ha2_5.out rfl).1)) _), (gz6_1.other (Nat.ne_of_lt (Nat.lt_of_lt_of_le lt_gz6_12 (ha2_5.out rfl).1)) _), (gz7_1.other (Nat.ne_of_lt (Nat.lt_of_lt_of_le lt_gz7_12 (ha2_5.out rfl).1)) _), (hr.other (Nat.ne_of_lt (Nat.lt_of_lt_of_le ltr2 (ha2_5.out rfl).1)) _)⟩
    case hstep1 =>
      intro i l a w' hs hI hi
      obtain ⟨β0, β1, β2, β3, β4, β5, β6, β7, β8, β9, x1_2, x1_5, z1_6, z1_7, rfl, rfl, hB, hc1_2, hc1_5, ha1_6, ha1_7, hd1_6_7, hm1_8_2, hm1_8_6, hm1_9_5, hm1_9_7, g0, gz20_0, gz21_0, gz22_0, gz23_0, hr⟩ := hI
      obtain ⟨hlt, hun, _⟩ := ready_mem hi
      have hlt' : i < 10 := hlt
      clear hlt hs
      have hcs : i = 0 ∨ i = 1 ∨ i = 2 ∨ i = 3 ∨ i = 4 ∨ i = 5 ∨ i = 6 ∨ i = 7 ∨ i = 8 ∨ i = 9 := by omega
      clear hlt'
      rcases hcs with rfl | rfl | rfl | rfl | rfl | rfl | rfl | rfl | rfl | rfl
      · obtain rfl : β0 = false := hun
        clear hi
        try simp only [cond_true, cond_false]
        refine ws (fun Kx hK => ?_)
        refine step_yield (v := x0_9) (by rfl) ?_ ?_
        · exact run_load_exec 24 _ rfl _ rfl (gz21_0.part 0 rfl)
        · exact hK.out _ _ ⟨true, β1, β2, β3, β4, β5, β6, β7, β8, β9, x1_2, x1_5, z1_6, z1_7, rfl, rfl, hB, hc1_2, hc1_5, ha1_6, ha1_7, hd1_6_7, hm1_8_2, hm1_8_6, hm1_9_5, hm1_9_7, g0, gz20_0, gz21_0, gz22_0, gz23_0, hr⟩
      · obtain rfl : β1 = false := hun
        clear hi
        try simp only [cond_true, cond_false]
        refine ws (fun Kx hK => ?_)
        refine step_yield (v := x0_4) (by rfl) ?_ ?_
        · exact run_load_exec 24 _ rfl _ rfl (gz20_0.part 0 rfl)
        · exact hK.out _ _ ⟨β0, true, β2, β3, β4, β5, β6, β7, β8, β9, x1_2, x1_5, z1_6, z1_7, rfl, rfl, hB, hc1_2, hc1_5, ha1_6, ha1_7, hd1_6_7, hm1_8_2, hm1_8_6, hm1_9_5, hm1_9_7, g0, gz20_0, gz21_0, gz22_0, gz23_0, hr⟩
      · obtain rfl : β2 = false := hun
        obtain rfl : β0 = true := ready_dep (k := 0) hi rfl rfl rfl
        obtain rfl : β1 = true := ready_dep (k := 1) hi rfl rfl rfl
        obtain rfl : β8 = false := Bool.eq_false_iff.2 (fun h => by have := hm1_8_2.out h; cases this)
        clear hi
        try simp only [cond_true, cond_false]
        refine ws (fun Kx hK => ?_)
        go_simp
        refine Calls.mono (f_add hc0_9 hc0_4 _) ?_
        rintro e w2 ⟨v, rfl, hv, hb2⟩
        go_wp2_with fail
        exact hK.out _ _ ⟨true, true, true, β3, β4, β5, β6, β7, false, β9, v, x1_5, z1_6, z1_7, rfl, rfl, (hB.trans (hb2.mono (Nat.le_trans hw1 hB.size))), (fun _ => hv), hc1_5, (fun h => ⟨(ha1_6.out h).1, (ha1_6.out h).2.kept hb2⟩), (fun h => ⟨(ha1_7.out h).1, (ha1_7.out h).2.kept hb2⟩), hd1_6_7, (fun _ => rfl), hm1_8_6, hm1_9_5, hm1_9_7, (g0.kept hb2), (gz20_0.kept hb2), (gz21_0.kept hb2), (gz22_0.kept hb2), (gz23_0.kept hb2), (hr.kept hb2)⟩
      · obtain rfl : β3 = false := hun
        clear hi
        try simp only [cond_true, cond_false]
        refine ws (fun Kx hK => ?_)
        refine step_yield (v := x0_9) (by rfl) ?_ ?_
        · exact run_load_exec 24 _ rfl _ rfl (gz21_0.part 0 rfl)
        · exact hK.out _ _ ⟨β0, β1, β2, true, β4, β5, β6, β7, β8, β9, x1_2, x1_5, z1_6, z1_7, rfl, rfl, hB, hc1_2, hc1_5, ha1_6, ha1_7, hd1_6_7, hm1_8_2, hm1_8_6, hm1_9_5, hm1_9_7, g0, gz20_0, gz21_0, gz22_0, gz23_0, hr⟩
      · obtain rfl : β4 = false := hun
        clear hi
        try simp only [cond_true, cond_false]
        refine ws (fun Kx hK => ?_)
        refine step_yield (v := x0_4) (by rfl) ?_ ?_
        · exact run_load_exec 24 _ rfl _ rfl (gz20_0.part 0 rfl)
        · exact hK.out _ _ ⟨β0, β1, β2, β3, true, β5, β6, β7, β8, β9, x1_2, x1_5, z1_6, z1_7, rfl, rfl, hB, hc1_2, hc1_5, ha1_6, ha1_7, hd1_6_7, hm1_8_2, hm1_8_6, hm1_9_5, hm1_9_7, g0, gz20_0, gz21_0, gz22_0, gz23_0, hr⟩
      · obtain rfl : β5 = false := hun
        obtain rfl : β3 = true := ready_dep (k := 0) hi rfl rfl rfl
        obtain rfl : β4 = true := ready_dep (k := 1) hi rfl rfl rfl
        obtain rfl : β9 = false := Bool.eq_false_iff.2 (fun h => by have := hm1_9_5.out h; cases this)
        clear hi
        try simp only [cond_true, cond_false]
        refine ws (fun Kx hK => ?_)
        go_simp
        refine Calls.mono (f_sub hc0_9 hc0_4 _) ?_
        rintro e w2 ⟨v, rfl, hv, hb2⟩
        go_wp2_with fail
        exact hK.out _ _ ⟨β0, β1, β2, true, true, true, β6, β7, β8, false, x1_2, v, z1_6, z1_7, rfl, rfl, (hB.trans (hb2.mono (Nat.le_trans hw1 hB.size))), hc1_2, (fun _ => hv), (fun h => ⟨(ha1_6.out h).1, (ha1_6.out h).2.kept hb2⟩), (fun h => ⟨(ha1_7.out h).1, (ha1_7.out h).2.kept hb2⟩), hd1_6_7, hm1_8_2, hm1_8_6, (fun _ => rfl), hm1_9_7, (g0.kept hb2), (gz20_0.kept hb2), (gz21_0.kept hb2), (gz22_0.kept hb2), (gz23_0.kept hb2), (hr.kept hb2)⟩
      · obtain rfl : β6 = false := hun
        obtain rfl : β8 = false := Bool.eq_false_iff.2 (fun h => by have := hm1_8_6.out h; cases this)
        clear hi
        try simp only [cond_true, cond_false]
        refine ws (fun Kx hK => ?_)
        go_simp
        exact hK.out _ _ ⟨β0, β1, β2, β3, β4, β5, true, β7, false, β9, x1_2, x1_5, w'.heap.size, z1_7, rfl, rfl, (hB.alloc (Nat.le_trans hw1 hB.size) _), hc1_2, hc1_5, (fun _ => ⟨hB.size, VarS.new24 _⟩), (fun h => ⟨(ha1_7.out h).1, (ha1_7.out h).2.old _⟩), (fun _ h => Nat.ne_of_gt (ha1_7.out h).2.lt), hm1_8_2, (fun _ => rfl), hm1_9_5, hm1_9_7, (g0.old _), (gz20_0.old _), (gz21_0.old _), (gz22_0.old _), (gz23_0.old _), (hr.old _)⟩
      · obtain rfl : β7 = false := hun
        obtain rfl : β9 = false := Bool.eq_false_iff.2 (fun h => by have := hm1_9_7.out h; cases this)
        clear hi
        try simp only [cond_true, cond_false]
        refine ws (fun Kx hK => ?_)
        go_simp
        exact hK.out _ _ ⟨β0, β1, β2, β3, β4, β5, β6, true, β8, false, x1_2, x1_5, z1_6, w'.heap.size, rfl, rfl, (hB.alloc (Nat.le_trans hw1 hB.size) _), hc1_2, hc1_5, (fun h => ⟨(ha1_6.out h).1, (ha1_6.out h).2.old _⟩), (fun _ => ⟨hB.size, VarS.new24 _⟩), (fun h _ => Nat.ne_of_lt (ha1_6.out h).2.lt), hm1_8_2, hm1_8_6, hm1_9_5, (fun _ => rfl), (g0.old _), (gz20_0.old _), (gz21_0.old _), (gz22_0.old _), (gz23_0.old _), (hr.old _)⟩
      · obtain rfl : β8 = false := hun
        obtain rfl : β2 = true := ready_dep (k := 1) hi rfl rfl rfl
        obtain rfl : β6 = true := ready_dep (k := 0) hi rfl rfl rfl
        clear hi
        try simp only [cond_true, cond_false]
        refine ws (fun Kx hK => ?_)
        refine step_store_wordS (u := x1_2) (v := W4 0 0 0 0) (by rfl) _ _ rfl z1_6 rfl rfl (hc1_2.out rfl) (ha1_6.out rfl).2 ?_
        exact hK.out _ _ ⟨β0, β1, true, β3, β4, β5, true, β7, true, β9, x1_2, x1_5, z1_6, z1_7, rfl, rfl, (below_setRow hB (Nat.le_trans hw1 (ha1_6.out rfl).1) _), hc1_2, hc1_5, (fun _ => ⟨(ha1_6.out rfl).1, ((ha1_6.out rfl).2.put (words1 (hc1_2.out rfl)))⟩), (fun h => ⟨(ha1_7.out h).1, (ha1_7.out h).2.other (Ne.symm (hd1_6_7.out rfl h)) _⟩), hd1_6_7, (fun _ => rfl), (fun _ => rfl), hm1_9_5, hm1_9_7, (g0.other (Nat.ne_of_lt (Nat.lt_of_lt_of_le lt_g01 (ha1_6.out rfl).1)) _), (gz20_0.other (Nat.ne_of_lt (Nat.lt_of_lt_of_le lt_gz20_01 (ha1_6.out rfl).1)) _), (gz21_0.other (Nat.ne_of_lt (Nat.lt_of_lt_of_le lt_gz21_01 (ha1_6.out rfl).1)) _), (gz22_0.other (Nat.ne_of_lt (Nat.lt_of_lt_of_le lt_gz22_01 (ha1_6.out rfl).1)) _), (gz23_0.other (Nat.ne_of_lt (Nat.lt_of_lt_of_le lt_gz23_01 (ha1_6.out rfl).1)) _), (hr.other (Nat.ne_of_lt (Nat.lt_of_lt_of_le ltr1 (ha1_6.out rfl).1)) _)⟩
      · obtain rfl : β9 = false := hun
        obtain rfl : β5 = true := ready_dep (k := 1) hi rfl rfl rfl
        obtain rfl : β7 = true := ready_dep (k := 0) hi rfl rfl rfl
        clear hi
        try simp only [cond_true, cond_false]
        refine ws (fun Kx hK => ?_)
        refine step_store_wordS (u := x1_5) (v := W4 0 0 0 0) (by rfl) _ _ rfl z1_7 rfl rfl (hc1_5.out rfl) (ha1_7.out rfl).2 ?_
        exact hK.out _ _ ⟨β0, β1, β2, β3, β4, true, β6, true, β8, true, x1_2, x1_5, z1_6, z1_7, rfl, rfl, (below_setRow hB (Nat.le_trans hw1 (ha1_7.out rfl).1) _), hc1_2, hc1_5, (fun h => ⟨(ha1_6.out h).1, (ha1_6.out h).2.other (hd1_6_7.out h rfl) _⟩), (fun _ => ⟨(ha1_7.out rfl).1, ((ha1_7.out rfl).2.put (words1 (hc1_5.out rfl)))⟩), hd1_6_7, hm1_8_2, hm1_8_6, (fun _ => rfl), (fun _ => rfl), (g0.other (Nat.ne_of_lt (Nat.lt_of_lt_of_le lt_g01 (ha1_7.out rfl).1)) _), (gz20_0.other (Nat.ne_of_lt (Nat.lt_of_lt_of_le lt_gz20_01 (ha1_7.out rfl).1)) _), (gz21_0.other (Nat.ne_of_lt (Nat.lt_of_lt_of_le lt_gz21_01 (ha1_7.out rfl).1)) _), (gz22_0.other (Nat.ne_of_lt (Nat.lt_of_lt_of_le lt_gz22_01 (ha1_7.out rfl).1)) _), (gz23_0.other (Nat.ne_of_lt (Nat.lt_of_lt_of_le lt_gz23_01 (ha1_7.out rfl).1)) _), (hr.other (Nat.ne_of_lt (Nat.lt_of_lt_of_le ltr1 (ha1_7.out rfl).1)) _)⟩
  case hstep0 =>
    intro i l a w' hs hI hi
    obtain ⟨β0, β1, β2, β3, β4, β5, β6, β7, β8, β9, β10, β11, β12, β13, β14, β15, β16, β17, β18, β19, β20, β21, β22, β23, β24, β25, β26, β27, x0_4, x0_9, x0_14, x0_19, z0_20, z0_21, z0_22, z0_23, rfl, rfl, hB, hc0_4, hc0_9, hc0_14, hc0_19, ha0_20, ha0_21, ha0_22, ha0_23, hd0_20_21, hd0_20_22, hd0_20_23, hd0_21_22, hd0_21_23, hd0_22_23, hm0_24_4, hm0_24_20, hm0_25_9, hm0_25_21, hm0_26_14, hm0_26_22, hm0_27_19, hm0_27_23, g0, hr⟩ := hI
    obtain ⟨hlt, hun, _⟩ := ready_mem hi
    have hlt' : i < 28 := hlt
    clear hlt hs
    have hcs : i = 0 ∨ i = 1 ∨ i = 2 ∨ i = 3 ∨ i = 4 ∨ i = 5 ∨ i = 6 ∨ i = 7 ∨ i = 8 ∨ i = 9 ∨ i = 10 ∨ i = 11 ∨ i = 12 ∨ i = 13 ∨ i = 14 ∨ i = 15 ∨ i = 16 ∨ i = 17 ∨ i = 18 ∨ i = 19 ∨ i = 20 ∨ i = 21 ∨ i = 22 ∨ i = 23 ∨ i = 24 ∨ i = 25 ∨ i = 26 ∨ i = 27 := by omega
    clear hlt'
    rcases hcs with rfl | rfl | rfl | rfl | rfl | rfl | rfl | rfl | rfl | rfl | rfl | rfl | rfl | rfl | rfl | rfl | rfl | rfl | rfl | rfl | rfl | rfl | rfl | rfl | rfl | rfl | rfl | rfl
    · obtain rfl : β0 = false := hun
      clear hi
      try simp only [cond_true, cond_false]
      refine ws (fun Kx hK => ?_)
      refine step_yield (v := .pointer (some ⟨w.heap.size, 0, none⟩)) (by rfl) ?_ ?_
      · go_simp
      · exact hK.out _ _ ⟨true, β1, β2, β3, β4, β5, β6, β7, β8, β9, β10, β11, β12, β13, β14, β15, β16, β17, β18, β19, β20, β21, β22, β23, β24, β25, β26, β27, x0_4, x0_9, x0_14, x0_19, z0_20, z0_21, z0_22, z0_23, rfl, rfl, hB, hc0_4, hc0_9, hc0_14, hc0_19, ha0_20, ha0_21, ha0_22, ha0_23, hd0_20_21, hd0_20_22, hd0_20_23, hd0_21_22, hd0_21_23, hd0_22_23, hm0_24_4, hm0_24_20, hm0_25_9, hm0_25_21, hm0_26_14, hm0_26_22, hm0_27_19, hm0_27_23, g0, hr⟩
    · obtain rfl : β1 = false := hun
      obtain rfl : β0 = true := ready_dep (k := 0) hi rfl rfl rfl
      clear hi
      try simp only [cond_true, cond_false]
      refine ws (fun Kx hK => ?_)
      refine step_yield (v := W4 l00_0 l00_1 l00_2 l00_3) (by rfl) ?_ ?_
      · exact run_load_exec 24 _ rfl _ rfl (g0.part 0 rfl)
      · exact hK.out _ _ ⟨true, true, β2, β3, β4, β5, β6, β7, β8, β9, β10, β11, β12, β13, β14, β15, β16, β17, β18, β19, β20, β21, β22, β23, β24, β25, β26, β27, x0_4, x0_9, x0_14, x0_19, z0_20, z0_21, z0_22, z0_23, rfl, rfl, hB, hc0_4, hc0_9, hc0_14, hc0_19, ha0_20, ha0_21, ha0_22, ha0_23, hd0_20_21, hd0_20_22, hd0_20_23, hd0_21_22, hd0_21_23, hd0_22_23, hm0_24_4, hm0_24_20, hm0_25_9, hm0_25_21, hm0_26_14, hm0_26_22, hm0_27_19, hm0_27_23, g0, hr⟩
    · obtain rfl : β2 = false := hun
      clear hi
      try simp only [cond_true, cond_false]
      refine ws (fun Kx hK => ?_)
      refine step_yield (v := .pointer (some ⟨w.heap.size, 0, none⟩)) (by rfl) ?_ ?_
      · go_simp
      · exact hK.out _ _ ⟨β0, β1, true, β3, β4, β5, β6, β7, β8, β9, β10, β11, β12, β13, β14, β15, β16, β17, β18, β19, β20, β21, β22, β23, β24, β25, β26, β27, x0_4, x0_9, x0_14, x0_19, z0_20, z0_21, z0_22, z0_23, rfl, rfl, hB, hc0_4, hc0_9, hc0_14, hc0_19, ha0_20, ha0_21, ha0_22, ha0_23, hd0_20_21, hd0_20_22, hd0_20_23, hd0_21_22, hd0_21_23, hd0_22_23, hm0_24_4, hm0_24_20, hm0_25_9, hm0_25_21, hm0_26_14, hm0_26_22, hm0_27_19, hm0_27_23, g0, hr⟩
    · obtain rfl : β3 = false := hun
      obtain rfl : β2 = true := ready_dep (k := 0) hi rfl rfl rfl
      clear hi
      try simp only [cond_true, cond_false]
      refine ws (fun Kx hK => ?_)
      refine step_yield (v := W4 l00_0 l00_1 l00_2 l00_3) (by rfl) ?_ ?_
      · exact run_load_exec 24 _ rfl _ rfl (g0.part 0 rfl)
      · exact hK.out _ _ ⟨β0, β1, true, true, β4, β5, β6, β7, β8, β9, β10, β11, β12, β13, β14, β15, β16, β17, β18, β19, β20, β21, β22, β23, β24, β25, β26, β27, x0_4, x0_9, x0_14, x0_19, z0_20, z0_21, z0_22, z0_23, rfl, rfl, hB, hc0_4, hc0_9, hc0_14, hc0_19, ha0_20, ha0_21, ha0_22, ha0_23, hd0_20_21, hd0_20_22, hd0_20_23, hd0_21_22, hd0_21_23, hd0_22_23, hm0_24_4, hm0_24_20, hm0_25_9, hm0_25_21, hm0_26_14, hm0_26_22, hm0_27_19, hm0_27_23, g0, hr⟩
    · obtain rfl : β4 = false := hun
      obtain rfl : β1 = true := ready_dep (k := 0) hi rfl rfl rfl
      obtain rfl : β3 = true := ready_dep (k := 1) hi rfl rfl rfl
      obtain rfl : β24 = false := Bool.eq_false_iff.2 (fun h => by have := hm0_24_4.out h; cases this)
      clear hi
      try simp only [cond_true, cond_false]
      refine ws (fun Kx hK => ?_)
      go_simp
      refine Calls.mono (f_mul H00.out H00.out _) ?_
      rintro e w2 ⟨v, rfl, hv, hb2⟩
      go_wp2_with fail
      exact hK.out _ _ ⟨β0, true, β2, true, true, β5, β6, β7, β8, β9, β10, β11, β12, β13, β14, β15, β16, β17, β18, β19, β20, β21, β22, β23, false, β25, β26, β27, v, x0_9, x0_14, x0_19, z0_20, z0_21, z0_22, z0_23, rfl, rfl, (hB.trans (hb2.mono (Nat.le_trans hw0 hB.size))), (fun _ => hv), hc0_9, hc0_14, hc0_19, (fun h => ⟨(ha0_20.out h).1, (ha0_20.out h).2.kept hb2⟩), (fun h => ⟨(ha0_21.out h).1, (ha0_21.out h).2.kept hb2⟩), (fun h => ⟨(ha0_22.out h).1, (ha0_22.out h).2.kept hb2⟩), (fun h => ⟨(ha0_23.out h).1, (ha0_23.out h).2.kept hb2⟩), hd0_20_21, hd0_20_22, hd0_20_23, hd0_21_22, hd0_21_23, hd0_22_23, (fun _ => rfl), hm0_24_20, hm0_25_9, hm0_25_21, hm0_26_14, hm0_26_22, hm0_27_19, hm0_27_23, (g0.kept hb2), (hr.kept hb2)⟩
    · obtain rfl : β5 = false := hun
      clear hi
      try simp only [cond_true, cond_false]
      refine ws (fun Kx hK => ?_)
      refine step_yield (v := .pointer (some ⟨w.heap.size, 4, none⟩)) (by rfl) ?_ ?_
      · go_simp
      · exact hK.out _ _ ⟨β0, β1, β2, β3, β4, true, β6, β7, β8, β9, β10, β11, β12, β13, β14, β15, β16, β17, β18, β19, β20, β21, β22, β23, β24, β25, β26, β27, x0_4, x0_9, x0_14, x0_19, z0_20, z0_21, z0_22, z0_23, rfl, rfl, hB, hc0_4, hc0_9, hc0_14, hc0_19, ha0_20, ha0_21, ha0_22, ha0_23, hd0_20_21, hd0_20_22, hd0_20_23, hd0_21_22, hd0_21_23, hd0_22_23, hm0_24_4, hm0_24_20, hm0_25_9, hm0_25_21, hm0_26_14, hm0_26_22, hm0_27_19, hm0_27_23, g0, hr⟩
    · obtain rfl : β6 = false := hun
      obtain rfl : β5 = true := ready_dep (k := 0) hi rfl rfl rfl
      clear hi
      try simp only [cond_true, cond_false]
      refine ws (fun Kx hK => ?_)
      refine step_yield (v := W4 l01_0 l01_1 l01_2 l01_3) (by rfl) ?_ ?_
      · exact run_load_exec 24 _ rfl _ rfl (g0.part 1 rfl)
      · exact hK.out _ _ ⟨β0, β1, β2, β3, β4, true, true, β7, β8, β9, β10, β11, β12, β13, β14, β15, β16, β17, β18, β19, β20, β21, β22, β23, β24, β25, β26, β27, x0_4, x0_9, x0_14, x0_19, z0_20, z0_21, z0_22, z0_23, rfl, rfl, hB, hc0_4, hc0_9, hc0_14, hc0_19, ha0_20, ha0_21, ha0_22, ha0_23, hd0_20_21, hd0_20_22, hd0_20_23, hd0_21_22, hd0_21_23, hd0_22_23, hm0_24_4, hm0_24_20, hm0_25_9, hm0_25_21, hm0_26_14, hm0_26_22, hm0_27_19, hm0_27_23, g0, hr⟩
    · obtain rfl : β7 = false := hun
      clear hi
      try simp only [cond_true, cond_false]
      refine ws (fun Kx hK => ?_)
      refine step_yield (v := .pointer (some ⟨w.heap.size, 4, none⟩)) (by rfl) ?_ ?_
      · go_simp
      · exact hK.out _ _ ⟨β0, β1, β2, β3, β4, β5, β6, true, β8, β9, β10, β11, β12, β13, β14, β15, β16, β17, β18, β19, β20, β21, β22, β23, β24, β25, β26, β27, x0_4, x0_9, x0_14, x0_19, z0_20, z0_21, z0_22, z0_23, rfl, rfl, hB, hc0_4, hc0_9, hc0_14, hc0_19, ha0_20, ha0_21, ha0_22, ha0_23, hd0_20_21, hd0_20_22, hd0_20_23, hd0_21_22, hd0_21_23, hd0_22_23, hm0_24_4, hm0_24_20, hm0_25_9, hm0_25_21, hm0_26_14, hm0_26_22, hm0_27_19, hm0_27_23, g0, hr⟩
    · obtain rfl : β8 = false := hun
      obtain rfl : β7 = true := ready_dep (k := 0) hi rfl rfl rfl
      clear hi
      try simp only [cond_true, cond_false]
      refine ws (fun Kx hK => ?_)
      refine step_yield (v := W4 l01_0 l01_1 l01_2 l01_3) (by rfl) ?_ ?_
      · exact run_load_exec 24 _ rfl _ rfl (g0.part 1 rfl)
      · exact hK.out _ _ ⟨β0, β1, β2, β3, β4, β5, β6, true, true, β9, β10, β11, β12, β13, β14, β15, β16, β17, β18, β19, β20, β21, β22, β23, β24, β25, β26, β27, x0_4, x0_9, x0_14, x0_19, z0_20, z0_21, z0_22, z0_23, rfl, rfl, hB, hc0_4, hc0_9, hc0_14, hc0_19, ha0_20, ha0_21, ha0_22, ha0_23, hd0_20_21, hd0_20_22, hd0_20_23, hd0_21_22, hd0_21_23, hd0_22_23, hm0_24_4, hm0_24_20, hm0_25_9, hm0_25_21, hm0_26_14, hm0_26_22, hm0_27_19, hm0_27_23, g0, hr⟩
    · obtain rfl : β9 = false := hun
      obtain rfl : β6 = true := ready_dep (k := 0) hi rfl rfl rfl
      obtain rfl : β8 = true := ready_dep (k := 1) hi rfl rfl rfl
      obtain rfl : β25 = false := Bool.eq_false_iff.2 (fun h => by have := hm0_25_9.out h; cases this)
      clear hi
      try simp only [cond_true, cond_false]
      refine ws (fun Kx hK => ?_)
      go_simp
      refine Calls.mono (f_mul H01.out H01.out _) ?_
      rintro e w2 ⟨v, rfl, hv, hb2⟩
      go_wp2_with fail
      exact hK.out _ _ ⟨β0, β1, β2, β3, β4, β5, true, β7, true, true, β10, β11, β12, β13, β14, β15, β16, β17, β18, β19, β20, β21, β22, β23, β24, false, β26, β27, x0_4, v, x0_14, x0_19, z0_20, z0_21, z0_22, z0_23, rfl, rfl, (hB.trans (hb2.mono (Nat.le_trans hw0 hB.size))), hc0_4, (fun _ => hv), hc0_14, hc0_19, (fun h => ⟨(ha0_20.out h).1, (ha0_20.out h).2.kept hb2⟩), (fun h => ⟨(ha0_21.out h).1, (ha0_21.out h).2.kept hb2⟩), (fun h => ⟨(ha0_22.out h).1, (ha0_22.out h).2.kept hb2⟩), (fun h => ⟨(ha0_23.out h).1, (ha0_23.out h).2.kept hb2⟩), hd0_20_21, hd0_20_22, hd0_20_23, hd0_21_22, hd0_21_23, hd0_22_23, hm0_24_4, hm0_24_20, (fun _ => rfl), hm0_25_21, hm0_26_14, hm0_26_22, hm0_27_19, hm0_27_23, (g0.kept hb2), (hr.kept hb2)⟩
    · obtain rfl : β10 = false := hun
      clear hi
      try simp only [cond_true, cond_false]
      refine ws (fun Kx hK => ?_)
      refine step_yield (v := .pointer (some ⟨w.heap.size, 8, none⟩)) (by rfl) ?_ ?_
      · go_simp
      · exact hK.out _ _ ⟨β0, β1, β2, β3, β4, β5, β6, β7, β8, β9, true, β11, β12, β13, β14, β15, β16, β17, β18, β19, β20, β21, β22, β23, β24, β25, β26, β27, x0_4, x0_9, x0_14, x0_19, z0_20, z0_21, z0_22, z0_23, rfl, rfl, hB, hc0_4, hc0_9, hc0_14, hc0_19, ha0_20, ha0_21, ha0_22, ha0_23, hd0_20_21, hd0_20_22, hd0_20_23, hd0_21_22, hd0_21_23, hd0_22_23, hm0_24_4, hm0_24_20, hm0_25_9, hm0_25_21, hm0_26_14, hm0_26_22, hm0_27_19, hm0_27_23, g0, hr⟩
    · obtain rfl : β11 = false := hun
      obtain rfl : β10 = true := ready_dep (k := 0) hi rfl rfl rfl
      clear hi
      try simp only [cond_true, cond_false]
      refine ws (fun Kx hK => ?_)
      refine step_yield (v := W4 l02_0 l02_1 l02_2 l02_3) (by rfl) ?_ ?_
      · exact run_load_exec 24 _ rfl _ rfl (g0.part 2 rfl)
      · exact hK.out _ _ ⟨β0, β1, β2, β3, β4, β5, β6, β7, β8, β9, true, true, β12, β13, β14, β15, β16, β17, β18, β19, β20, β21, β22, β23, β24, β25, β26, β27, x0_4, x0_9, x0_14, x0_19, z0_20, z0_21, z0_22, z0_23, rfl, rfl, hB, hc0_4, hc0_9, hc0_14, hc0_19, ha0_20, ha0_21, ha0_22, ha0_23, hd0_20_21, hd0_20_22, hd0_20_23, hd0_21_22, hd0_21_23, hd0_22_23, hm0_24_4, hm0_24_20, hm0_25_9, hm0_25_21, hm0_26_14, hm0_26_22, hm0_27_19, hm0_27_23, g0, hr⟩
    · obtain rfl : β12 = false := hun
      clear hi
      try simp only [cond_true, cond_false]
      refine ws (fun Kx hK => ?_)
      refine step_yield (v := .pointer (some ⟨w.heap.size, 8, none⟩)) (by rfl) ?_ ?_
      · go_simp
      · exact hK.out _ _ ⟨β0, β1, β2, β3, β4, β5, β6, β7, β8, β9, β10, β11, true, β13, β14, β15, β16, β17, β18, β19, β20, β21, β22, β23, β24, β25, β26, β27, x0_4, x0_9, x0_14, x0_19, z0_20, z0_21, z0_22, z0_23, rfl, rfl, hB, hc0_4, hc0_9, hc0_14, hc0_19, ha0_20, ha0_21, ha0_22, ha0_23, hd0_20_21, hd0_20_22, hd0_20_23, hd0_21_22, hd0_21_23, hd0_22_23, hm0_24_4, hm0_24_20, hm0_25_9, hm0_25_21, hm0_26_14, hm0_26_22, hm0_27_19, hm0_27_23, g0, hr⟩
    · obtain rfl : β13 = false := hun
      obtain rfl : β12 = true := ready_dep (k := 0) hi rfl rfl rfl
      clear hi
      try simp only [cond_true, cond_false]
      refine ws (fun Kx hK => ?_)
      refine step_yield (v := W4 l02_0 l02_1 l02_2 l02_3) (by rfl) ?_ ?_
      · exact run_load_exec 24 _ rfl _ rfl (g0.part 2 rfl)
      · exact hK.out _ _ ⟨β0, β1, β2, β3, β4, β5, β6, β7, β8, β9, β10, β11, true, true, β14, β15, β16, β17, β18, β19, β20, β21, β22, β23, β24, β25, β26, β27, x0_4, x0_9, x0_14, x0_19, z0_20, z0_21, z0_22, z0_23, rfl, rfl, hB, hc0_4, hc0_9, hc0_14, hc0_19, ha0_20, ha0_21, ha0_22, ha0_23, hd0_20_21, hd0_20_22, hd0_20_23, hd0_21_22, hd0_21_23, hd0_22_23, hm0_24_4, hm0_24_20, hm0_25_9, hm0_25_21, hm0_26_14, hm0_26_22, hm0_27_19, hm0_27_23, g0, hr⟩
    · obtain rfl : β14 = false := hun
      obtain rfl : β11 = true := ready_dep (k := 0) hi rfl rfl rfl
      obtain rfl : β13 = true := ready_dep (k := 1) hi rfl rfl rfl
      obtain rfl : β26 = false := Bool.eq_false_iff.2 (fun h => by have := hm0_26_14.out h; cases this)
      clear hi
      try simp only [cond_true, cond_false]
      refine ws (fun Kx hK => ?_)
      go_simp
      refine Calls.mono (f_mul H02.out H02.out _) ?_
      rintro e w2 ⟨v, rfl, hv, hb2⟩
      go_wp2_with fail
      exact hK.out _ _ ⟨β0, β1, β2, β3, β4, β5, β6, β7, β8, β9, β10, true, β12, true, true, β15, β16, β17, β18, β19, β20, β21, β22, β23, β24, β25, false, β27, x0_4, x0_9, v, x0_19, z0_20, z0_21, z0_22, z0_23, rfl, rfl, (hB.trans (hb2.mono (Nat.le_trans hw0 hB.size))), hc0_4, hc0_9, (fun _ => hv), hc0_19, (fun h => ⟨(ha0_20.out h).1, (ha0_20.out h).2.kept hb2⟩), (fun h => ⟨(ha0_21.out h).1, (ha0_21.out h).2.kept hb2⟩), (fun h => ⟨(ha0_22.out h).1, (ha0_22.out h).2.kept hb2⟩), (fun h => ⟨(ha0_23.out h).1, (ha0_23.out h).2.kept hb2⟩), hd0_20_21, hd0_20_22, hd0_20_23, hd0_21_22, hd0_21_23, hd0_22_23, hm0_24_4, hm0_24_20, hm0_25_9, hm0_25_21, (fun _ => rfl), hm0_26_22, hm0_27_19, hm0_27_23, (g0.kept hb2), (hr.kept hb2)⟩
    · obtain rfl : β15 = false := hun
      clear hi
      try simp only [cond_true, cond_false]
      refine ws (fun Kx hK => ?_)
      refine step_yield (v := .pointer (some ⟨w.heap.size, 0, none⟩)) (by rfl) ?_ ?_
      · go_simp
      · exact hK.out _ _ ⟨β0, β1, β2, β3, β4, β5, β6, β7, β8, β9, β10, β11, β12, β13, β14, true, β16, β17, β18, β19, β20, β21, β22, β23, β24, β25, β26, β27, x0_4, x0_9, x0_14, x0_19, z0_20, z0_21, z0_22, z0_23, rfl, rfl, hB, hc0_4, hc0_9, hc0_14, hc0_19, ha0_20, ha0_21, ha0_22, ha0_23, hd0_20_21, hd0_20_22, hd0_20_23, hd0_21_22, hd0_21_23, hd0_22_23, hm0_24_4, hm0_24_20, hm0_25_9, hm0_25_21, hm0_26_14, hm0_26_22, hm0_27_19, hm0_27_23, g0, hr⟩
    · obtain rfl : β16 = false := hun
      obtain rfl : β15 = true := ready_dep (k := 0) hi rfl rfl rfl
      clear hi
      try simp only [cond_true, cond_false]
      refine ws (fun Kx hK => ?_)
      refine step_yield (v := W4 l00_0 l00_1 l00_2 l00_3) (by rfl) ?_ ?_
      · exact run_load_exec 24 _ rfl _ rfl (g0.part 0 rfl)
      · exact hK.out _ _ ⟨β0, β1, β2, β3, β4, β5, β6, β7, β8, β9, β10, β11, β12, β13, β14, true, true, β17, β18, β19, β20, β21, β22, β23, β24, β25, β26, β27, x0_4, x0_9, x0_14, x0_19, z0_20, z0_21, z0_22, z0_23, rfl, rfl, hB, hc0_4, hc0_9, hc0_14, hc0_19, ha0_20, ha0_21, ha0_22, ha0_23, hd0_20_21, hd0_20_22, hd0_20_23, hd0_21_22, hd0_21_23, hd0_22_23, hm0_24_4, hm0_24_20, hm0_25_9, hm0_25_21, hm0_26_14, hm0_26_22, hm0_27_19, hm0_27_23, g0, hr⟩
    · obtain rfl : β17 = false := hun
      clear hi
      try simp only [cond_true, cond_false]
      refine ws (fun Kx hK => ?_)
      refine step_yield (v := .pointer (some ⟨w.heap.size, 4, none⟩)) (by rfl) ?_ ?_
      · go_simp
      · exact hK.out _ _ ⟨β0, β1, β2, β3, β4, β5, β6, β7, β8, β9, β10, β11, β12, β13, β14, β15, β16, true, β18, β19, β20, β21, β22, β23, β24, β25, β26, β27, x0_4, x0_9, x0_14, x0_19, z0_20, z0_21, z0_22, z0_23, rfl, rfl, hB, hc0_4, hc0_9, hc0_14, hc0_19, ha0_20, ha0_21, ha0_22, ha0_23, hd0_20_21, hd0_20_22, hd0_20_23, hd0_21_22, hd0_21_23, hd0_22_23, hm0_24_4, hm0_24_20, hm0_25_9, hm0_25_21, hm0_26_14, hm0_26_22, hm0_27_19, hm0_27_23, g0, hr⟩
    · obtain rfl : β18 = false := hun
      obtain rfl : β17 = true := ready_dep (k := 0) hi rfl rfl rfl
      clear hi
      try simp only [cond_true, cond_false]
      refine ws (fun Kx hK => ?_)
      refine step_yield (v := W4 l01_0 l01_1 l01_2 l01_3) (by rfl) ?_ ?_
      · exact run_load_exec 24 _ rfl _ rfl (g0.part 1 rfl)
      · exact hK.out _ _ ⟨β0, β1, β2, β3, β4, β5, β6, β7, β8, β9, β10, β11, β12, β13, β14, β15, β16, true, true, β19, β20, β21, β22, β23, β24, β25, β26, β27, x0_4, x0_9, x0_14, x0_19, z0_20, z0_21, z0_22, z0_23, rfl, rfl, hB, hc0_4, hc0_9, hc0_14, hc0_19, ha0_20, ha0_21, ha0_22, ha0_23, hd0_20_21, hd0_20_22, hd0_20_23, hd0_21_22, hd0_21_23, hd0_22_23, hm0_24_4, hm0_24_20, hm0_25_9, hm0_25_21, hm0_26_14, hm0_26_22, hm0_27_19, hm0_27_23, g0, hr⟩
    · obtain rfl : β19 = false := hun
      obtain rfl : β16 = true := ready_dep (k := 0) hi rfl rfl rfl
      obtain rfl : β18 = true := ready_dep (k := 1) hi rfl rfl rfl
      obtain rfl : β27 = false := Bool.eq_false_iff.2 (fun h => by have := hm0_27_19.out h; cases this)
      clear hi
      try simp only [cond_true, cond_false]
      refine ws (fun Kx hK => ?_)
      go_simp
      refine Calls.mono (f_add H00.out H01.out _) ?_
      rintro e w2 ⟨v, rfl, hv, hb2⟩
      go_wp2_with fail
      exact hK.out _ _ ⟨β0, β1, β2, β3, β4, β5, β6, β7, β8, β9, β10, β11, β12, β13, β14, β15, true, β17, true, true, β20, β21, β22, β23, β24, β25, β26, false, x0_4, x0_9, x0_14, v, z0_20, z0_21, z0_22, z0_23, rfl, rfl, (hB.trans (hb2.mono (Nat.le_trans hw0 hB.size))), hc0_4, hc0_9, hc0_14, (fun _ => hv), (fun h => ⟨(ha0_20.out h).1, (ha0_20.out h).2.kept hb2⟩), (fun h => ⟨(ha0_21.out h).1, (ha0_21.out h).2.kept hb2⟩), (fun h => ⟨(ha0_22.out h).1, (ha0_22.out h).2.kept hb2⟩), (fun h => ⟨(ha0_23.out h).1, (ha0_23.out h).2.kept hb2⟩), hd0_20_21, hd0_20_22, hd0_20_23, hd0_21_22, hd0_21_23, hd0_22_23, hm0_24_4, hm0_24_20, hm0_25_9, hm0_25_21, hm0_26_14, hm0_26_22, (fun _ => rfl), hm0_27_23, (g0.kept hb2), (hr.kept hb2)⟩
    · obtain rfl : β20 = false := hun
      obtain rfl : β24 = false := Bool.eq_false_iff.2 (fun h => by have := hm0_24_20.out h; cases this)
      clear hi
      try simp only [cond_true, cond_false]
      refine ws (fun Kx hK => ?_)
      go_simp
      exact hK.out _ _ ⟨β0, β1, β2, β3, β4, β5, β6, β7, β8, β9, β10, β11, β12, β13, β14, β15, β16, β17, β18, β19, true, β21, β22, β23, false, β25, β26, β27, x0_4, x0_9, x0_14, x0_19, w'.heap.size, z0_21, z0_22, z0_23, rfl, rfl, (hB.alloc (Nat.le_trans hw0 hB.size) _), hc0_4, hc0_9, hc0_14, hc0_19, (fun _ => ⟨hB.size, VarS.new24 _⟩), (fun h => ⟨(ha0_21.out h).1, (ha0_21.out h).2.old _⟩), (fun h => ⟨(ha0_22.out h).1, (ha0_22.out h).2.old _⟩), (fun h => ⟨(ha0_23.out h).1, (ha0_23.out h).2.old _⟩), (fun _ h => Nat.ne_of_gt (ha0_21.out h).2.lt), (fun _ h => Nat.ne_of_gt (ha0_22.out h).2.lt), (fun _ h => Nat.ne_of_gt (ha0_23.out h).2.lt), hd0_21_22, hd0_21_23, hd0_22_23, hm0_24_4, (fun _ => rfl), hm0_25_9, hm0_25_21, hm0_26_14, hm0_26_22, hm0_27_19, hm0_27_23, (g0.old _), (hr.old _)⟩
    · obtain rfl : β21 = false := hun
      obtain rfl : β25 = false := Bool.eq_false_iff.2 (fun h => by have := hm0_25_21.out h; cases this)
      clear hi
      try simp only [cond_true, cond_false]
      refine ws (fun Kx hK => ?_)
      go_simp
      exact hK.out _ _ ⟨β0, β1, β2, β3, β4, β5, β6, β7, β8, β9, β10, β11, β12, β13, β14, β15, β16, β17, β18, β19, β20, true, β22, β23, β24, false, β26, β27, x0_4, x0_9, x0_14, x0_19, z0_20, w'.heap.size, z0_22, z0_23, rfl, rfl, (hB.alloc (Nat.le_trans hw0 hB.size) _), hc0_4, hc0_9, hc0_14, hc0_19, (fun h => ⟨(ha0_20.out h).1, (ha0_20.out h).2.old _⟩), (fun _ => ⟨hB.size, VarS.new24 _⟩), (fun h => ⟨(ha0_22.out h).1, (ha0_22.out h).2.old _⟩), (fun h => ⟨(ha0_23.out h).1, (ha0_23.out h).2.old _⟩), (fun h _ => Nat.ne_of_lt (ha0_20.out h).2.lt), hd0_20_22, hd0_20_23, (fun _ h => Nat.ne_of_gt (ha0_22.out h).2.lt), (fun _ h => Nat.ne_of_gt (ha0_23.out h).2.lt), hd0_22_23, hm0_24_4, hm0_24_20, hm0_25_9, (fun _ => rfl), hm0_26_14, hm0_26_22, hm0_27_19, hm0_27_23, (g0.old _), (hr.old _)⟩
    · obtain rfl : β22 = false := hun
      obtain rfl : β26 = false := Bool.eq_false_iff.2 (fun h => by have := hm0_26_22.out h; cases this)
      clear hi
      try simp only [cond_true, cond_false]
      refine ws (fun Kx hK => ?_)
      go_simp
      exact hK.out _ _ ⟨β0, β1, β2, β3, β4, β5, β6, β7, β8, β9, β10, β11, β12, β13, β14, β15, β16, β17, β18, β19, β20, β21, true, β23, β24, β25, false, β27, x0_4, x0_9, x0_14, x0_19, z0_20, z0_21, w'.heap.size, z0_23, rfl, rfl, (hB.alloc (Nat.le_trans hw0 hB.size) _), hc0_4, hc0_9, hc0_14, hc0_19, (fun h => ⟨(ha0_20.out h).1, (ha0_20.out h).2.old _⟩), (fun h => ⟨(ha0_21.out h).1, (ha0_21.out h).2.old _⟩), (fun _ => ⟨hB.size, VarS.new24 _⟩), (fun h => ⟨(ha0_23.out h).1, (ha0_23.out h).2.old _⟩), hd0_20_21, (fun h _ => Nat.ne_of_lt (ha0_20.out h).2.lt), hd0_20_23, (fun h _ => Nat.ne_of_lt (ha0_21.out h).2.lt), hd0_21_23, (fun _ h => Nat.ne_of_gt (ha0_23.out h).2.lt), hm0_24_4, hm0_24_20, hm0_25_9, hm0_25_21, hm0_26_14, (fun _ => rfl), hm0_27_19, hm0_27_23, (g0.old _), (hr.old _)⟩
    · obtain rfl : β23 = false := hun
      obtain rfl : β27 = false := Bool.eq_false_iff.2 (fun h => by have := hm0_27_23.out h; cases this)
      clear hi
      try simp only [cond_true, cond_false]
      refine ws (fun Kx hK => ?_)
      go_simp
      exact hK.out _ _ ⟨β0, β1, β2, β3, β4, β5, β6, β7, β8, β9, β10, β11, β12, β13, β14, β15, β16, β17, β18, β19, β20, β21, β22, true, β24, β25, β26, false, x0_4, x0_9, x0_14, x0_19, z0_20, z0_21, z0_22, w'.heap.size, rfl, rfl, (hB.alloc (Nat.le_trans hw0 hB.size) _), hc0_4, hc0_9, hc0_14, hc0_19, (fun h => ⟨(ha0_20.out h).1, (ha0_20.out h).2.old _⟩), (fun h => ⟨(ha0_21.out h).1, (ha0_21.out h).2.old _⟩), (fun h => ⟨(ha0_22.out h).1, (ha0_22.out h).2.old _⟩), (fun _ => ⟨hB.size, VarS.new24 _⟩), hd0_20_21, hd0_20_22, (fun h _ => Nat.ne_of_lt (ha0_20.out h).2.lt), hd0_21_22, (fun h _ => Nat.ne_of_lt (ha0_21.out h).2.lt), (fun h _ => Nat.ne_of_lt (ha0_22.out h).2.lt), hm0_24_4, hm0_24_20, hm0_25_9, hm0_25_21, hm0_26_14, hm0_26_22, hm0_27_19, (fun _ => rfl), (g0.old _), (hr.old _)⟩
    · obtain rfl : β24 = false := hun
      obtain rfl : β4 = true := ready_dep (k := 1) hi rfl rfl rfl
      obtain rfl : β20 = true := ready_dep (k := 0) hi rfl rfl rfl
      clear hi
      try simp only [cond_true, cond_false]
      refine ws (fun Kx hK => ?_)
      refine step_store_wordS (u := x0_4) (v := W4 0 0 0 0) (by rfl) _ _ rfl z0_20 rfl rfl (hc0_4.out rfl) (ha0_20.out rfl).2 ?_
      exact hK.out _ _ ⟨β0, β1, β2, β3, true, β5, β6, β7, β8, β9, β10, β11, β12, β13, β14, β15, β16, β17, β18, β19, true, β21, β22, β23, true, β25, β26, β27, x0_4, x0_9, x0_14, x0_19, z0_20, z0_21, z0_22, z0_23, rfl, rfl, (below_setRow hB (Nat.le_trans hw0 (ha0_20.out rfl).1) _), hc0_4, hc0_9, hc0_14, hc0_19, (fun _ => ⟨(ha0_20.out rfl).1, ((ha0_20.out rfl).2.put (words1 (hc0_4.out rfl)))⟩), (fun h => ⟨(ha0_21.out h).1, (ha0_21.out h).2.other (Ne.symm (hd0_20_21.out rfl h)) _⟩), (fun h => ⟨(ha0_22.out h).1, (ha0_22.out h).2.other (Ne.symm (hd0_20_22.out rfl h)) _⟩), (fun h => ⟨(ha0_23.out h).1, (ha0_23.out h).2.other (Ne.symm (hd0_20_23.out rfl h)) _⟩), hd0_20_21, hd0_20_22, hd0_20_23, hd0_21_22, hd0_21_23, hd0_22_23, (fun _ => rfl), (fun _ => rfl), hm0_25_9, hm0_25_21, hm0_26_14, hm0_26_22, hm0_27_19, hm0_27_23, (g0.other (Nat.ne_of_lt (Nat.lt_of_lt_of_le lt_g00 (ha0_20.out rfl).1)) _), (hr.other (Nat.ne_of_lt (Nat.lt_of_lt_of_le ltr0 (ha0_20.out rfl).1)) _)⟩
    · obtain rfl : β25 = false := hun
      obtain rfl : β9 = true := ready_dep (k := 1) hi rfl rfl rfl
      obtain rfl : β21 = true := ready_dep (k := 0) hi rfl rfl rfl
      clear hi
      try simp only [cond_true, cond_false]
      refine ws (fun Kx hK => ?_)
      refine step_store_wordS (u := x0_9) (v := W4 0 0 0 0) (by rfl) _ _ rfl z0_21 rfl rfl (hc0_9.out rfl) (ha0_21.out rfl).2 ?_
      exact hK.out _ _ ⟨β0, β1, β2, β3, β4, β5, β6, β7, β8, true, β10, β11, β12, β13, β14, β15, β16, β17, β18, β19, β20, true, β22, β23, β24, true, β26, β27, x0_4, x0_9, x0_14, x0_19, z0_20, z0_21, z0_22, z0_23, rfl, rfl, (below_setRow hB (Nat.le_trans hw0 (ha0_21.out rfl).1) _), hc0_4, hc0_9, hc0_14, hc0_19, (fun h => ⟨(ha0_20.out h).1, (ha0_20.out h).2.other (hd0_20_21.out h rfl) _⟩), (fun _ => ⟨(ha0_21.out rfl).1, ((ha0_21.out rfl).2.put (words1 (hc0_9.out rfl)))⟩), (fun h => ⟨(ha0_22.out h).1, (ha0_22.out h).2.other (Ne.symm (hd0_21_22.out rfl h)) _⟩), (fun h => ⟨(ha0_23.out h).1, (ha0_23.out h).2.other (Ne.symm (hd0_21_23.out rfl h)) _⟩), hd0_20_21, hd0_20_22, hd0_20_23, hd0_21_22, hd0_21_23, hd0_22_23, hm0_24_4, hm0_24_20, (fun _ => rfl), (fun _ => rfl), hm0_26_14, hm0_26_22, hm0_27_19, hm0_27_23, (g0.other (Nat.ne_of_lt (Nat.lt_of_lt_of_le lt_g00 (ha0_21.out rfl).1)) _), (hr.other (Nat.ne_of_lt (Nat.lt_of_lt_of_le ltr0 (ha0_21.out rfl).1)) _)⟩
    · obtain rfl : β26 = false := hun
      obtain rfl : β14 = true := ready_dep (k := 1) hi rfl rfl rfl
      obtain rfl : β22 = true := ready_dep (k := 0) hi rfl rfl rfl
      clear hi
      try simp only [cond_true, cond_false]
      refine ws (fun Kx hK => ?_)
      refine step_store_wordS (u := x0_14) (v := W4 0 0 0 0) (by rfl) _ _ rfl z0_22 rfl rfl (hc0_14.out rfl) (ha0_22.out rfl).2 ?_
      exact hK.out _ _ ⟨β0, β1, β2, β3, β4, β5, β6, β7, β8, β9, β10, β11, β12, β13, true, β15, β16, β17, β18, β19, β20, β21, true, β23, β24, β25, true, β27, x0_4, x0_9, x0_14, x0_19, z0_20, z0_21, z0_22, z0_23, rfl, rfl, (below_setRow hB (Nat.le_trans hw0 (ha0_22.out rfl).1) _), hc0_4, hc0_9, hc0_14, hc0_19, (fun h => ⟨(ha0_20.out h).1, (ha0_20.out h).2.other (hd0_20_22.out h rfl) _⟩), (fun h => ⟨(ha0_21.out h).1, (ha0_21.out h).2.other (hd0_21_22.out h rfl) _⟩), (fun _ => ⟨(ha0_22.out rfl).1, ((ha0_22.out rfl).2.put (words1 (hc0_14.out rfl)))⟩), (fun h => ⟨(ha0_23.out h).1, (ha0_23.out h).2.other (Ne.symm (hd0_22_23.out rfl h)) _⟩), hd0_20_21, hd0_20_22, hd0_20_23, hd0_21_22, hd0_21_23, hd0_22_23, hm0_24_4, hm0_24_20, hm0_25_9, hm0_25_21, (fun _ => rfl), (fun _ => rfl), hm0_27_19, hm0_27_23, (g0.other (Nat.ne_of_lt (Nat.lt_of_lt_of_le lt_g00 (ha0_22.out rfl).1)) _), (hr.other (Nat.ne_of_lt (Nat.lt_of_lt_of_le ltr0 (ha0_22.out rfl).1)) _)⟩
    · obtain rfl : β27 = false := hun
      obtain rfl : β19 = true := ready_dep (k := 1) hi rfl rfl rfl
      obtain rfl : β23 = true := ready_dep (k := 0) hi rfl rfl rfl
      clear hi
      try simp only [cond_true, cond_false]
      refine ws (fun Kx hK => ?_)
      refine step_store_wordS (u := x0_19) (v := W4 0 0 0 0) (by rfl) _ _ rfl z0_23 rfl rfl (hc0_19.out rfl) (ha0_23.out rfl).2 ?_
      exact hK.out _ _ ⟨β0, β1, β2, β3, β4, β5, β6, β7, β8, β9, β10, β11, β12, β13, β14, β15, β16, β17, β18, true, β20, β21, β22, true, β24, β25, β26, true, x0_4, x0_9, x0_14, x0_19, z0_20, z0_21, z0_22, z0_23, rfl, rfl, (below_setRow hB (Nat.le_trans hw0 (ha0_23.out rfl).1) _), hc0_4, hc0_9, hc0_14, hc0_19, (fun h => ⟨(ha0_20.out h).1, (ha0_20.out h).2.other (hd0_20_23.out h rfl) _⟩), (fun h => ⟨(ha0_21.out h).1, (ha0_21.out h).2.other (hd0_21_23.out h rfl) _⟩), (fun h => ⟨(ha0_22.out h).1, (ha0_22.out h).2.other (hd0_22_23.out h rfl) _⟩), (fun _ => ⟨(ha0_23.out rfl).1, ((ha0_23.out rfl).2.put (words1 (hc0_19.out rfl)))⟩), hd0_20_21, hd0_20_22, hd0_20_23, hd0_21_22, hd0_21_23, hd0_22_23, hm0_24_4, hm0_24_20, hm0_25_9, hm0_25_21, hm0_26_14, hm0_26_22, (fun _ => rfl), (fun _ => rfl), (g0.other (Nat.ne_of_lt (Nat.lt_of_lt_of_le lt_g00 (ha0_23.out rfl).1)) _), (hr.other (Nat.ne_of_lt (Nat.lt_of_lt_of_le ltr0 (ha0_23.out rfl).1)) _)⟩
end Go.Proofs.YtionjibiemncbabGreat
