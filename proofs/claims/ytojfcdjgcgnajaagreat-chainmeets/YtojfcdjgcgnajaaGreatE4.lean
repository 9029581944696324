/- ed.plus -/
import Derived.Test.YtojfcdjgcgnajaaGreatGCM
import Derived.Test.YtojfcdjgcgnajaaGreatE1
namespace Go.Proofs.YtojfcdjgcgnajaaGreat
open Go.RowKit
set_option linter.unusedSimpArgs false
set_option linter.unusedVariables false
set_option maxRecDepth 20000 in
set_option maxHeartbeats 4000000 in
theorem f_plus {p00 p01 p02 p03 p10 p11 p12 : Value} {kx ky kz kt kl km kw : K} (h00 : IsF p00 kx) (h01 : IsF p01 ky) (h02 : IsF p02 kz) (h03 : IsF p03 kt) (h10 : IsF p10 kl) (h11 : IsF p11 km) (h12 : IsF p12 kw) : Gives4 93 #[.agg (catW [p00, p01, p02, p03]), .agg (catW [p10, p11, p12])] (((ky + kx) * km - (ky - kx) * kl) * ((kz + kz) - kt * kw)) (((ky + kx) * km + (ky - kx) * kl) * ((kz + kz) + kt * kw)) (((kz + kz) + kt * kw) * ((kz + kz) - kt * kw)) (((ky + kx) * km - (ky - kx) * kl) * ((ky + kx) * km + (ky - kx) * kl)) := fun w => by
 have H00 : Hid (IsF p00 kx) := h00; have H01 : Hid (IsF p01 ky) := h01; have H02 : Hid (IsF p02 kz) := h02; have H03 : Hid (IsF p03 kt) := h03; have H10 : Hid (IsF p10 kl) := h10; have H11 : Hid (IsF p11 km) := h11; have H12 : Hid (IsF p12 kw) := h12; obtain ⟨l00_0, l00_1, l00_2, l00_3, rfl, L00, _⟩ := h00; clear L00; obtain ⟨l01_0, l01_1, l01_2, l01_3, rfl, L01, _⟩ := h01; clear L01; obtain ⟨l02_0, l02_1, l02_2, l02_3, rfl, L02, _⟩ := h02; clear L02; obtain ⟨l03_0, l03_1, l03_2, l03_3, rfl, L03, _⟩ := h03; clear L03; obtain ⟨l10_0, l10_1, l10_2, l10_3, rfl, L10, _⟩ := h10; clear L10; obtain ⟨l11_0, l11_1, l11_2, l11_3, rfl, L11, _⟩ := h11; clear L11; obtain ⟨l12_0, l12_1, l12_2, l12_3, rfl, L12, _⟩ := h12; clear L12; have V0 : Hid (VarS (((w.alloc (.cells (catW [W4 l00_0 l00_1 l00_2 l00_3, W4 l01_0 l01_1 l01_2 l01_3, W4 l02_0 l02_1 l02_2 l02_3, W4 l03_0 l03_1 l03_2 l03_3]) 145)).alloc (.cells (catW [W4 l10_0 l10_1 l10_2 l10_3, W4 l11_0 l11_1 l11_2 l11_3, W4 l12_0 l12_1 l12_2 l12_3]) 142)).alloc (.cells #[.int .u64 0, .int .u64 0, .int .u64 0, .int .u64 0, .int .u64 0, .int .u64 0, .int .u64 0, .int .u64 0, .int .u64 0, .int .u64 0, .int .u64 0, .int .u64 0, .int .u64 0, .int .u64 0, .int .u64 0, .int .u64 0] 145)) (w.heap.size) 145 [W4 l00_0 l00_1 l00_2 l00_3, W4 l01_0 l01_1 l01_2 l01_3, W4 l02_0 l02_1 l02_2 l02_3, W4 l03_0 l03_1 l03_2 l03_3] ∧ VarS (((w.alloc (.cells (catW [W4 l00_0 l00_1 l00_2 l00_3, W4 l01_0 l01_1 l01_2 l01_3, W4 l02_0 l02_1 l02_2 l02_3, W4 l03_0 l03_1 l03_2 l03_3]) 145)).alloc (.cells (catW [W4 l10_0 l10_1 l10_2 l10_3, W4 l11_0 l11_1 l11_2 l11_3, W4 l12_0 l12_1 l12_2 l12_3]) 142)).alloc (.cells #[.int .u64 0, .int .u64 0, .int .u64 0, .int .u64 0, .int .u64 0, .int .u64 0, .int .u64 0, .int .u64 0, .int .u64 0, .int .u64 0, .int .u64 0, .int .u64 0, .int .u64 0, .int .u64 0, .int .u64 0, .int .u64 0] 145)) (w.heap.size + 1) 142 [W4 l10_0 l10_1 l10_2 l10_3, W4 l11_0 l11_1 l11_2 l11_3, W4 l12_0 l12_1 l12_2 l12_3] ∧ VarS (((w.alloc (.cells (catW [W4 l00_0 l00_1 l00_2 l00_3, W4 l01_0 l01_1 l01_2 l01_3, W4 l02_0 l02_1 l02_2 l02_3, W4 l03_0 l03_1 l03_2 l03_3]) 145)).alloc (.cells (catW [W4 l10_0 l10_1 l10_2 l10_3, W4 l11_0 l11_1 l11_2 l11_3, W4 l12_0 l12_1 l12_2 l12_3]) 142)).alloc (.cells #[.int .u64 0, .int .u64 0, .int .u64 0, .int .u64 0, .int .u64 0, .int .u64 0, .int .u64 0, .int .u64 0, .int .u64 0, .int .u64 0, .int .u64 0, .int .u64 0, .int .u64 0, .int .u64 0, .int .u64 0, .int .u64 0] 145)) (w.heap.size + 2) 145 [W4 0 0 0 0, W4 0 0 0 0, W4 0 0 0 0, W4 0 0 0 0] ∧ Below w.heap.size w (((w.alloc (.cells (catW [W4 l00_0 l00_1 l00_2 l00_3, W4 l01_0 l01_1 l01_2 l01_3, W4 l02_0 l02_1 l02_2 l02_3, W4 l03_0 l03_1 l03_2 l03_3]) 145)).alloc (.cells (catW [W4 l10_0 l10_1 l10_2 l10_3, W4 l11_0 l11_1 l11_2 l11_3, W4 l12_0 l12_1 l12_2 l12_3]) 142)).alloc (.cells #[.int .u64 0, .int .u64 0, .int .u64 0, .int .u64 0, .int .u64 0, .int .u64 0, .int .u64 0, .int .u64 0, .int .u64 0, .int .u64 0, .int .u64 0, .int .u64 0, .int .u64 0, .int .u64 0, .int .u64 0, .int .u64 0] 145))) :=
  ⟨⟨words4 H00.out H01.out H02.out H03.out, heap_old _ _ _ _ (heap_old _ _ _ _ (heap_alloc_new _ _))⟩, ⟨words3 H10.out H11.out H12.out, heap_old _ _ _ _ (heapAt _ _ _ (by simp))⟩, ⟨words4 isw0 isw0 isw0 isw0, by rw [← zero16w]; exact heapAt _ _ _ (by simp)⟩, by go_grown⟩
 go_enter Tryz.func93, Tryz.ntmps93
 unfold W4; go_wp2; generalize (((w.alloc (.cells (catW [W4 l00_0 l00_1 l00_2 l00_3, W4 l01_0 l01_1 l01_2 l01_3, W4 l02_0 l02_1 l02_2 l02_3, W4 l03_0 l03_1 l03_2 l03_3]) 145)).alloc (.cells (catW [W4 l10_0 l10_1 l10_2 l10_3, W4 l11_0 l11_1 l11_2 l11_3, W4 l12_0 l12_1 l12_2 l12_3]) 142)).alloc (.cells #[.int .u64 0, .int .u64 0, .int .u64 0, .int .u64 0, .int .u64 0, .int .u64 0, .int .u64 0, .int .u64 0, .int .u64 0, .int .u64 0, .int .u64 0, .int .u64 0, .int .u64 0, .int .u64 0, .int .u64 0, .int .u64 0] 145)) = W0 at V0 ⊢; have g0 := V0.out.1; have g1 := V0.out.2.1; have hres := V0.out.2.2.1; have hBel := V0.out.2.2.2; clear V0; have hw0 : w.heap.size ≤ W0.heap.size := Nat.le_of_lt (Nat.lt_of_le_of_lt (by omega) hres.lt); have lt_g00 := g0.lt; have lt_g10 := g1.lt; have ltr0 := hres.lt; refine wp_region_inv (by kernel_rfl) 10 rfl (fun l a w' => ∃ (β0 β1 β2 β3 β4 β5 β6 β7 β8 β9 : Bool) (x0_4 x0_7 : Value) (z0_8 : Nat), l = #[β0, β1, β2, β3, β4, β5, β6, β7, β8, β9] ∧ a = ⟨#[.agg (catW [W4 l00_0 l00_1 l00_2 l00_3, W4 l01_0 l01_1 l01_2 l01_3, W4 l02_0 l02_1 l02_2 l02_3, W4 l03_0 l03_1 l03_2 l03_3]), .agg (catW [W4 l10_0 l10_1 l10_2 l10_3, W4 l11_0 l11_1 l11_2 l11_3, W4 l12_0 l12_1 l12_2 l12_3]), .pointer (some ⟨w.heap.size, 0, none⟩), .pointer (some ⟨w.heap.size + 1, 0, none⟩), .pointer (some ⟨w.heap.size + 2, 0, none⟩), bif β8 then .pointer (some ⟨z0_8, 0, none⟩) else undef, undef, undef, undef, bif β0 then .pointer (some ⟨w.heap.size, 4, none⟩) else undef, bif β1 then W4 l01_0 l01_1 l01_2 l01_3 else undef, bif β2 then .pointer (some ⟨w.heap.size, 0, none⟩) else undef, bif β3 then W4 l00_0 l00_1 l00_2 l00_3 else undef, bif β4 then x0_4 else undef, bif β5 then .pointer (some ⟨w.heap.size + 1, 0, none⟩) else undef, bif β6 then W4 l10_0 l10_1 l10_2 l10_3 else undef, bif β7 then x0_7 else undef, undef, undef, undef, undef, undef, undef, undef, undef, undef, undef, undef, undef, undef, undef, undef, undef, undef, undef, undef, undef, undef, undef, undef, undef, undef, undef, undef, undef, undef, undef, undef], []⟩ ∧ Below (w.heap.size) W0 w' ∧ Hid (β4 = true → IsF x0_4 ((ky) - (kx))) ∧ Hid (β7 = true → IsF x0_7 (((ky) - (kx)) * (kl))) ∧ Hid (β8 = true → W0.heap.size ≤ z0_8 ∧ VarS w' z0_8 51 (bif β9 then [x0_7] else [W4 0 0 0 0])) ∧ Hid (β9 = true → β7 = true) ∧ Hid (β9 = true → β8 = true) ∧ VarS w' (w.heap.size) 145 [W4 l00_0 l00_1 l00_2 l00_3, W4 l01_0 l01_1 l01_2 l01_3, W4 l02_0 l02_1 l02_2 l02_3, W4 l03_0 l03_1 l03_2 l03_3] ∧ VarS w' (w.heap.size + 1) 142 [W4 l10_0 l10_1 l10_2 l10_3, W4 l11_0 l11_1 l11_2 l11_3, W4 l12_0 l12_1 l12_2 l12_3] ∧ VarS w' (w.heap.size + 2) 145 [W4 0 0 0 0, W4 0 0 0 0, W4 0 0 0 0, W4 0 0 0 0]) ?h00 ?hend0 ?hstep0
 case h00 => exact ⟨false, false, false, false, false, false, false, false, false, false, undef, undef, 0, rfl, rfl, Below.drew (Below.refl _ _), (fun h => by cases h), (fun h => by cases h), (fun h => by cases h), (fun h => by cases h), (fun h => by cases h), g0.drew, g1.drew, hres.drew⟩
 case hend0 =>
  intro l a w' hs hI hr0; obtain ⟨β0, β1, β2, β3, β4, β5, β6, β7, β8, β9, x0_4, x0_7, z0_8, rfl, rfl, hB, hc0_4, hc0_7, ha0_8, hm0_9_7, hm0_9_8, g0, g1, hr⟩ := hI; have hall := ready_none (by rfl) (depsLow_spec (by kernel_rfl)) hr0; obtain rfl : β0 = true := hall 0 (by decide); obtain rfl : β1 = true := hall 1 (by decide); obtain rfl : β2 = true := hall 2 (by decide); obtain rfl : β3 = true := hall 3 (by decide); obtain rfl : β4 = true := hall 4 (by decide); obtain rfl : β5 = true := hall 5 (by decide); obtain rfl : β6 = true := hall 6 (by decide); obtain rfl : β7 = true := hall 7 (by decide); obtain rfl : β8 = true := hall 8 (by decide); obtain rfl : β9 = true := hall 9 (by decide); clear hall hr0 hs
  replace hc0_4 := hc0_4.out rfl
  replace hc0_7 := hc0_7.out rfl
  replace ha0_8 := ha0_8.out rfl
  simp only [cond_true] at ha0_8 hr ⊢; have hBel := hBel.trans (hB.mono (Nat.le_refl _)); have gz8_0 := ha0_8.2; have gl8_0 := ha0_8.1; have hres := hr; generalize w' = W1 at *; go_wp2; have hw1 : w.heap.size ≤ W1.heap.size := Nat.le_of_lt (Nat.lt_of_le_of_lt (by omega) hres.lt); have lt_g01 := g0.lt; have lt_g11 := g1.lt; have lt_gz8_01 := gz8_0.lt; have ltr1 := hres.lt; refine wp_region_inv (by kernel_rfl) 10 rfl (fun l a w' => ∃ (β0 β1 β2 β3 β4 β5 β6 β7 β8 β9 : Bool) (x1_4 x1_7 : Value) (z1_8 : Nat), l = #[β0, β1, β2, β3, β4, β5, β6, β7, β8, β9] ∧ a = ⟨#[.agg (catW [W4 l00_0 l00_1 l00_2 l00_3, W4 l01_0 l01_1 l01_2 l01_3, W4 l02_0 l02_1 l02_2 l02_3, W4 l03_0 l03_1 l03_2 l03_3]), .agg (catW [W4 l10_0 l10_1 l10_2 l10_3, W4 l11_0 l11_1 l11_2 l11_3, W4 l12_0 l12_1 l12_2 l12_3]), .pointer (some ⟨w.heap.size, 0, none⟩), .pointer (some ⟨w.heap.size + 1, 0, none⟩), .pointer (some ⟨w.heap.size + 2, 0, none⟩), .pointer (some ⟨z0_8, 0, none⟩), bif β8 then .pointer (some ⟨z1_8, 0, none⟩) else undef, undef, undef, .pointer (some ⟨w.heap.size, 4, none⟩), W4 l01_0 l01_1 l01_2 l01_3, .pointer (some ⟨w.heap.size, 0, none⟩), W4 l00_0 l00_1 l00_2 l00_3, x0_4, .pointer (some ⟨w.heap.size + 1, 0, none⟩), W4 l10_0 l10_1 l10_2 l10_3, x0_7, bif β0 then .pointer (some ⟨w.heap.size, 4, none⟩) else undef, bif β1 then W4 l01_0 l01_1 l01_2 l01_3 else undef, bif β2 then .pointer (some ⟨w.heap.size, 0, none⟩) else undef, bif β3 then W4 l00_0 l00_1 l00_2 l00_3 else undef, bif β4 then x1_4 else undef, bif β5 then .pointer (some ⟨w.heap.size + 1, 4, none⟩) else undef, bif β6 then W4 l11_0 l11_1 l11_2 l11_3 else undef, bif β7 then x1_7 else undef, undef, undef, undef, undef, undef, undef, undef, undef, undef, undef, undef, undef, undef, undef, undef, undef, undef, undef, undef, undef, undef, undef, undef], []⟩ ∧ Below (w.heap.size) W1 w' ∧ Hid (β4 = true → IsF x1_4 ((ky) + (kx))) ∧ Hid (β7 = true → IsF x1_7 (((ky) + (kx)) * (km))) ∧ Hid (β8 = true → W1.heap.size ≤ z1_8 ∧ VarS w' z1_8 51 (bif β9 then [x1_7] else [W4 0 0 0 0])) ∧ Hid (β9 = true → β7 = true) ∧ Hid (β9 = true → β8 = true) ∧ VarS w' (w.heap.size) 145 [W4 l00_0 l00_1 l00_2 l00_3, W4 l01_0 l01_1 l01_2 l01_3, W4 l02_0 l02_1 l02_2 l02_3, W4 l03_0 l03_1 l03_2 l03_3] ∧ VarS w' (w.heap.size + 1) 142 [W4 l10_0 l10_1 l10_2 l10_3, W4 l11_0 l11_1 l11_2 l11_3, W4 l12_0 l12_1 l12_2 l12_3] ∧ VarS w' (z0_8) 51 [x0_7] ∧ VarS w' (w.heap.size + 2) 145 [W4 0 0 0 0, W4 0 0 0 0, W4 0 0 0 0, W4 0 0 0 0]) ?h01 ?hend1 ?hstep1
  case h01 => exact ⟨false, false, false, false, false, false, false, false, false, false, undef, undef, 0, rfl, rfl, Below.drew (Below.refl _ _), (fun h => by cases h), (fun h => by cases h), (fun h => by cases h), (fun h => by cases h), (fun h => by cases h), g0.drew, g1.drew, gz8_0.drew, hres.drew⟩
  case hend1 =>
   intro l a w' hs hI hr0; obtain ⟨β0, β1, β2, β3, β4, β5, β6, β7, β8, β9, x1_4, x1_7, z1_8, rfl, rfl, hB, hc1_4, hc1_7, ha1_8, hm1_9_7, hm1_9_8, g0, g1, gz8_0, hr⟩ := hI; have hall := ready_none (by rfl) (depsLow_spec (by kernel_rfl)) hr0; obtain rfl : β0 = true := hall 0 (by decide); obtain rfl : β1 = true := hall 1 (by decide); obtain rfl : β2 = true := hall 2 (by decide); obtain rfl : β3 = true := hall 3 (by decide); obtain rfl : β4 = true := hall 4 (by decide); obtain rfl : β5 = true := hall 5 (by decide); obtain rfl : β6 = true := hall 6 (by decide); obtain rfl : β7 = true := hall 7 (by decide); obtain rfl : β8 = true := hall 8 (by decide); obtain rfl : β9 = true := hall 9 (by decide); clear hall hr0 hs
   replace hc1_4 := hc1_4.out rfl
   replace hc1_7 := hc1_7.out rfl
   replace ha1_8 := ha1_8.out rfl
   simp only [cond_true] at ha1_8 hr ⊢; have hBel := hBel.trans (hB.mono (Nat.le_refl _)); have gz8_1 := ha1_8.2; have gl8_1 := ha1_8.1; have hres := hr; generalize w' = W2 at *; go_wp2; have hw2 : w.heap.size ≤ W2.heap.size := Nat.le_of_lt (Nat.lt_of_le_of_lt (by omega) hres.lt); have lt_g02 := g0.lt; have lt_g12 := g1.lt; have lt_gz8_02 := gz8_0.lt; have lt_gz8_12 := gz8_1.lt; have ltr2 := hres.lt; refine wp_region_inv (by kernel_rfl) 14 rfl (fun l a w' => ∃ (β0 β1 β2 β3 β4 β5 β6 β7 β8 β9 β10 β11 β12 β13 : Bool) (x2_4 x2_9 : Value) (z2_10 z2_11 : Nat), l = #[β0, β1, β2, β3, β4, β5, β6, β7, β8, β9, β10, β11, β12, β13] ∧ a = ⟨#[.agg (catW [W4 l00_0 l00_1 l00_2 l00_3, W4 l01_0 l01_1 l01_2 l01_3, W4 l02_0 l02_1 l02_2 l02_3, W4 l03_0 l03_1 l03_2 l03_3]), .agg (catW [W4 l10_0 l10_1 l10_2 l10_3, W4 l11_0 l11_1 l11_2 l11_3, W4 l12_0 l12_1 l12_2 l12_3]), .pointer (some ⟨w.heap.size, 0, none⟩), .pointer (some ⟨w.heap.size + 1, 0, none⟩), .pointer (some ⟨w.heap.size + 2, 0, none⟩), .pointer (some ⟨z0_8, 0, none⟩), .pointer (some ⟨z1_8, 0, none⟩), bif β10 then .pointer (some ⟨z2_10, 0, none⟩) else undef, bif β11 then .pointer (some ⟨z2_11, 0, none⟩) else undef, .pointer (some ⟨w.heap.size, 4, none⟩), W4 l01_0 l01_1 l01_2 l01_3, .pointer (some ⟨w.heap.size, 0, none⟩), W4 l00_0 l00_1 l00_2 l00_3, x0_4, .pointer (some ⟨w.heap.size + 1, 0, none⟩), W4 l10_0 l10_1 l10_2 l10_3, x0_7, .pointer (some ⟨w.heap.size, 4, none⟩), W4 l01_0 l01_1 l01_2 l01_3, .pointer (some ⟨w.heap.size, 0, none⟩), W4 l00_0 l00_1 l00_2 l00_3, x1_4, .pointer (some ⟨w.heap.size + 1, 4, none⟩), W4 l11_0 l11_1 l11_2 l11_3, x1_7, bif β0 then .pointer (some ⟨w.heap.size, 12, none⟩) else undef, bif β1 then W4 l03_0 l03_1 l03_2 l03_3 else undef, bif β2 then .pointer (some ⟨w.heap.size + 1, 8, none⟩) else undef, bif β3 then W4 l12_0 l12_1 l12_2 l12_3 else undef, bif β4 then x2_4 else undef, bif β5 then .pointer (some ⟨w.heap.size, 8, none⟩) else undef, bif β6 then W4 l02_0 l02_1 l02_2 l02_3 else undef, bif β7 then .pointer (some ⟨w.heap.size, 8, none⟩) else undef, bif β8 then W4 l02_0 l02_1 l02_2 l02_3 else undef, bif β9 then x2_9 else undef, undef, undef, undef, undef, undef, undef, undef, undef, undef, undef, undef, undef, undef], []⟩ ∧ Below (w.heap.size) W2 w' ∧ Hid (β4 = true → IsF x2_4 ((kt) * (kw))) ∧ Hid (β9 = true → IsF x2_9 ((kz) + (kz))) ∧ Hid (β10 = true → W2.heap.size ≤ z2_10 ∧ VarS w' z2_10 51 (bif β12 then [x2_4] else [W4 0 0 0 0])) ∧ Hid (β11 = true → W2.heap.size ≤ z2_11 ∧ VarS w' z2_11 51 (bif β13 then [x2_9] else [W4 0 0 0 0])) ∧ Hid (β10 = true → β11 = true → z2_10 ≠ z2_11) ∧ Hid (β12 = true → β4 = true) ∧ Hid (β12 = true → β10 = true) ∧ Hid (β13 = true → β9 = true) ∧ Hid (β13 = true → β11 = true) ∧ VarS w' (w.heap.size) 145 [W4 l00_0 l00_1 l00_2 l00_3, W4 l01_0 l01_1 l01_2 l01_3, W4 l02_0 l02_1 l02_2 l02_3, W4 l03_0 l03_1 l03_2 l03_3] ∧ VarS w' (w.heap.size + 1) 142 [W4 l10_0 l10_1 l10_2 l10_3, W4 l11_0 l11_1 l11_2 l11_3, W4 l12_0 l12_1 l12_2 l12_3] ∧ VarS w' (z0_8) 51 [x0_7] ∧ VarS w' (z1_8) 51 [x1_7] ∧ VarS w' (w.heap.size + 2) 145 [W4 0 0 0 0, W4 0 0 0 0, W4 0 0 0 0, W4 0 0 0 0]) ?h02 ?hend2 ?hstep2
   case h02 => exact ⟨false, false, false, false, false, false, false, false, false, false, false, false, false, false, undef, undef, 0, 0, rfl, rfl, Below.drew (Below.refl _ _), (fun h => by cases h), (fun h => by cases h), (fun h => by cases h), (fun h => by cases h), (fun h => by cases h), (fun h => by cases h), (fun h => by cases h), (fun h => by cases h), (fun h => by cases h), g0.drew, g1.drew, gz8_0.drew, gz8_1.drew, hres.drew⟩
   case hend2 =>
    intro l a w' hs hI hr0; obtain ⟨β0, β1, β2, β3, β4, β5, β6, β7, β8, β9, β10, β11, β12, β13, x2_4, x2_9, z2_10, z2_11, rfl, rfl, hB, hc2_4, hc2_9, ha2_10, ha2_11, hd2_10_11, hm2_12_4, hm2_12_10, hm2_13_9, hm2_13_11, g0, g1, gz8_0, gz8_1, hr⟩ := hI; have hall := ready_none (by rfl) (depsLow_spec (by kernel_rfl)) hr0; obtain rfl : β0 = true := hall 0 (by decide); obtain rfl : β1 = true := hall 1 (by decide); obtain rfl : β2 = true := hall 2 (by decide); obtain rfl : β3 = true := hall 3 (by decide); obtain rfl : β4 = true := hall 4 (by decide); obtain rfl : β5 = true := hall 5 (by decide); obtain rfl : β6 = true := hall 6 (by decide); obtain rfl : β7 = true := hall 7 (by decide); obtain rfl : β8 = true := hall 8 (by decide); obtain rfl : β9 = true := hall 9 (by decide); obtain rfl : β10 = true := hall 10 (by decide); obtain rfl : β11 = true := hall 11 (by decide); obtain rfl : β12 = true := hall 12 (by decide); obtain rfl : β13 = true := hall 13 (by decide); clear hall hr0 hs
    replace hc2_4 := hc2_4.out rfl
    replace hc2_9 := hc2_9.out rfl
    replace ha2_10 := ha2_10.out rfl
    replace ha2_11 := ha2_11.out rfl
    simp only [cond_true] at ha2_10 ha2_11 hr ⊢; have hBel := hBel.trans (hB.mono (Nat.le_refl _)); have gz10_2 := ha2_10.2; have gl10_2 := ha2_10.1; have gz11_2 := ha2_11.2; have gl11_2 := ha2_11.1; have hres := hr; generalize w' = W3 at *; go_wp2; have hw3 : w.heap.size ≤ W3.heap.size := Nat.le_of_lt (Nat.lt_of_le_of_lt (by omega) hres.lt); have lt_g03 := g0.lt; have lt_g13 := g1.lt; have lt_gz8_03 := gz8_0.lt; have lt_gz8_13 := gz8_1.lt; have lt_gz10_23 := gz10_2.lt; have lt_gz11_23 := gz11_2.lt; have ltr3 := hres.lt; refine wp_region_inv (by kernel_rfl) 14 rfl (fun l a w' => ∃ (β0 β1 β2 β3 β4 β5 β6 β7 β8 β9 β10 β11 β12 β13 : Bool) (x3_2 x3_5 x3_8 x3_11 x3_12_0 x3_12_1 x3_12_2 x3_12_3 : Value), l = #[β0, β1, β2, β3, β4, β5, β6, β7, β8, β9, β10, β11, β12, β13] ∧ a = ⟨#[.agg (catW [W4 l00_0 l00_1 l00_2 l00_3, W4 l01_0 l01_1 l01_2 l01_3, W4 l02_0 l02_1 l02_2 l02_3, W4 l03_0 l03_1 l03_2 l03_3]), .agg (catW [W4 l10_0 l10_1 l10_2 l10_3, W4 l11_0 l11_1 l11_2 l11_3, W4 l12_0 l12_1 l12_2 l12_3]), .pointer (some ⟨w.heap.size, 0, none⟩), .pointer (some ⟨w.heap.size + 1, 0, none⟩), .pointer (some ⟨w.heap.size + 2, 0, none⟩), .pointer (some ⟨z0_8, 0, none⟩), .pointer (some ⟨z1_8, 0, none⟩), .pointer (some ⟨z2_10, 0, none⟩), .pointer (some ⟨z2_11, 0, none⟩), .pointer (some ⟨w.heap.size, 4, none⟩), W4 l01_0 l01_1 l01_2 l01_3, .pointer (some ⟨w.heap.size, 0, none⟩), W4 l00_0 l00_1 l00_2 l00_3, x0_4, .pointer (some ⟨w.heap.size + 1, 0, none⟩), W4 l10_0 l10_1 l10_2 l10_3, x0_7, .pointer (some ⟨w.heap.size, 4, none⟩), W4 l01_0 l01_1 l01_2 l01_3, .pointer (some ⟨w.heap.size, 0, none⟩), W4 l00_0 l00_1 l00_2 l00_3, x1_4, .pointer (some ⟨w.heap.size + 1, 4, none⟩), W4 l11_0 l11_1 l11_2 l11_3, x1_7, .pointer (some ⟨w.heap.size, 12, none⟩), W4 l03_0 l03_1 l03_2 l03_3, .pointer (some ⟨w.heap.size + 1, 8, none⟩), W4 l12_0 l12_1 l12_2 l12_3, x2_4, .pointer (some ⟨w.heap.size, 8, none⟩), W4 l02_0 l02_1 l02_2 l02_3, .pointer (some ⟨w.heap.size, 8, none⟩), W4 l02_0 l02_1 l02_2 l02_3, x2_9, bif β0 then x1_7 else undef, bif β1 then x0_7 else undef, bif β2 then x3_2 else undef, bif β3 then x1_7 else undef, bif β4 then x0_7 else undef, bif β5 then x3_5 else undef, bif β6 then x2_9 else undef, bif β7 then x2_4 else undef, bif β8 then x3_8 else undef, bif β9 then x2_9 else undef, bif β10 then x2_4 else undef, bif β11 then x3_11 else undef, bif β12 then .agg (catW [x3_12_0, x3_12_1, x3_12_2, x3_12_3]) else undef], []⟩ ∧ Below (w.heap.size) W3 w' ∧ Hid (β2 = true → IsF x3_2 ((((ky) + (kx)) * (km)) - (((ky) - (kx)) * (kl)))) ∧ Hid (β5 = true → IsF x3_5 ((((ky) + (kx)) * (km)) + (((ky) - (kx)) * (kl)))) ∧ Hid (β8 = true → IsF x3_8 (((kz) + (kz)) + ((kt) * (kw)))) ∧ Hid (β11 = true → IsF x3_11 (((kz) + (kz)) - ((kt) * (kw)))) ∧ Hid (β12 = true → IsF x3_12_0 (((((ky) + (kx)) * (km)) - (((ky) - (kx)) * (kl))) * (((kz) + (kz)) - ((kt) * (kw)))) ∧ IsF x3_12_1 (((((ky) + (kx)) * (km)) + (((ky) - (kx)) * (kl))) * (((kz) + (kz)) + ((kt) * (kw)))) ∧ IsF x3_12_2 ((((kz) + (kz)) + ((kt) * (kw))) * (((kz) + (kz)) - ((kt) * (kw)))) ∧ IsF x3_12_3 (((((ky) + (kx)) * (km)) - (((ky) - (kx)) * (kl))) * ((((ky) + (kx)) * (km)) + (((ky) - (kx)) * (kl))))) ∧ Hid (β13 = true → β12 = true) ∧ VarS w' (w.heap.size) 145 [W4 l00_0 l00_1 l00_2 l00_3, W4 l01_0 l01_1 l01_2 l01_3, W4 l02_0 l02_1 l02_2 l02_3, W4 l03_0 l03_1 l03_2 l03_3] ∧ VarS w' (w.heap.size + 1) 142 [W4 l10_0 l10_1 l10_2 l10_3, W4 l11_0 l11_1 l11_2 l11_3, W4 l12_0 l12_1 l12_2 l12_3] ∧ VarS w' (z0_8) 51 [x0_7] ∧ VarS w' (z1_8) 51 [x1_7] ∧ VarS w' (z2_10) 51 [x2_4] ∧ VarS w' (z2_11) 51 [x2_9] ∧ VarS w' (w.heap.size + 2) 145 (bif β13 then [x3_12_0, x3_12_1, x3_12_2, x3_12_3] else [W4 0 0 0 0, W4 0 0 0 0, W4 0 0 0 0, W4 0 0 0 0])) ?h03 ?hend3 ?hstep3
    case h03 => exact ⟨false, false, false, false, false, false, false, false, false, false, false, false, false, false, undef, undef, undef, undef, undef, undef, undef, undef, rfl, rfl, Below.drew (Below.refl _ _), (fun h => by cases h), (fun h => by cases h), (fun h => by cases h), (fun h => by cases h), (fun h => by cases h), (fun h => by cases h), g0.drew, g1.drew, gz8_0.drew, gz8_1.drew, gz10_2.drew, gz11_2.drew, hres.drew⟩
    case hend3 =>
     intro l a w' hs hI hr0; obtain ⟨β0, β1, β2, β3, β4, β5, β6, β7, β8, β9, β10, β11, β12, β13, x3_2, x3_5, x3_8, x3_11, x3_12_0, x3_12_1, x3_12_2, x3_12_3, rfl, rfl, hB, hc3_2, hc3_5, hc3_8, hc3_11, hc3_12, hm3_13_12, g0, g1, gz8_0, gz8_1, gz10_2, gz11_2, hr⟩ := hI; have hall := ready_none (by rfl) (depsLow_spec (by kernel_rfl)) hr0; obtain rfl : β0 = true := hall 0 (by decide); obtain rfl : β1 = true := hall 1 (by decide); obtain rfl : β2 = true := hall 2 (by decide); obtain rfl : β3 = true := hall 3 (by decide); obtain rfl : β4 = true := hall 4 (by decide); obtain rfl : β5 = true := hall 5 (by decide); obtain rfl : β6 = true := hall 6 (by decide); obtain rfl : β7 = true := hall 7 (by decide); obtain rfl : β8 = true := hall 8 (by decide); obtain rfl : β9 = true := hall 9 (by decide); obtain rfl : β10 = true := hall 10 (by decide); obtain rfl : β11 = true := hall 11 (by decide); obtain rfl : β12 = true := hall 12 (by decide); obtain rfl : β13 = true := hall 13 (by decide); clear hall hr0 hs
     replace hc3_2 := hc3_2.out rfl
     replace hc3_5 := hc3_5.out rfl
     replace hc3_8 := hc3_8.out rfl
     replace hc3_11 := hc3_11.out rfl
     replace hc3_12 := hc3_12.out rfl
     simp only [cond_true] at hr ⊢; have hBel := hBel.trans (hB.mono (Nat.le_refl _)); have hl := load76 hr; go_wp2; exact bodyPost_ret (v := .agg (catW [x3_12_0, x3_12_1, x3_12_2, x3_12_3])) (by simp [results, Tryz.results93, asAddr, hl]) rfl ⟨_, _, _, _, rfl, ⟨hc3_12.1, hc3_12.2.1, hc3_12.2.2.1, hc3_12.2.2.2⟩, hBel⟩
    case hstep3 =>
     intro i l a w' hs hI hi; obtain ⟨β0, β1, β2, β3, β4, β5, β6, β7, β8, β9, β10, β11, β12, β13, x3_2, x3_5, x3_8, x3_11, x3_12_0, x3_12_1, x3_12_2, x3_12_3, rfl, rfl, hB, hc3_2, hc3_5, hc3_8, hc3_11, hc3_12, hm3_13_12, g0, g1, gz8_0, gz8_1, gz10_2, gz11_2, hr⟩ := hI; obtain ⟨hlt, hun, _⟩ := ready_mem hi; have hlt' : i < 14 := hlt; clear hlt hs; have hcs : i = 0 ∨ i = 1 ∨ i = 2 ∨ i = 3 ∨ i = 4 ∨ i = 5 ∨ i = 6 ∨ i = 7 ∨ i = 8 ∨ i = 9 ∨ i = 10 ∨ i = 11 ∨ i = 12 ∨ i = 13 := by omega
     clear hlt'; rcases hcs with rfl | rfl | rfl | rfl | rfl | rfl | rfl | rfl | rfl | rfl | rfl | rfl | rfl | rfl
     · obtain rfl : β0 = false := hun
       clear hi; try simp only [cond_true, cond_false]
       refine ws (fun Kx hK => ?_); refine step_yield (v := x1_7) (by rfl) ?_ ?_
       · exact run_load_exec 51 _ rfl _ rfl (gz8_1.part 0 rfl)
       · exact hK.out _ _ ⟨true, β1, β2, β3, β4, β5, β6, β7, β8, β9, β10, β11, β12, β13, x3_2, x3_5, x3_8, x3_11, x3_12_0, x3_12_1, x3_12_2, x3_12_3, rfl, rfl, hB, hc3_2, hc3_5, hc3_8, hc3_11, hc3_12, hm3_13_12, g0, g1, gz8_0, gz8_1, gz10_2, gz11_2, hr⟩
     · obtain rfl : β1 = false := hun
       clear hi; try simp only [cond_true, cond_false]
       refine ws (fun Kx hK => ?_); refine step_yield (v := x0_7) (by rfl) ?_ ?_
       · exact run_load_exec 51 _ rfl _ rfl (gz8_0.part 0 rfl)
       · exact hK.out _ _ ⟨β0, true, β2, β3, β4, β5, β6, β7, β8, β9, β10, β11, β12, β13, x3_2, x3_5, x3_8, x3_11, x3_12_0, x3_12_1, x3_12_2, x3_12_3, rfl, rfl, hB, hc3_2, hc3_5, hc3_8, hc3_11, hc3_12, hm3_13_12, g0, g1, gz8_0, gz8_1, gz10_2, gz11_2, hr⟩
     · obtain rfl : β2 = false := hun
       obtain rfl : β0 = true := ready_dep (k := 0) hi rfl rfl rfl; obtain rfl : β1 = true := ready_dep (k := 1) hi rfl rfl rfl; clear hi; try simp only [cond_true, cond_false]
       refine ws (fun Kx hK => ?_); go_simp; refine Calls.mono (f_sub hc1_7 hc0_7 _) ?_; rintro e w2 ⟨v, rfl, hv, hb2⟩; go_wp2_with fail; exact hK.out _ _ ⟨true, true, true, β3, β4, β5, β6, β7, β8, β9, β10, β11, β12, β13, v, x3_5, x3_8, x3_11, x3_12_0, x3_12_1, x3_12_2, x3_12_3, rfl, rfl, (hB.trans (hb2.mono (Nat.le_trans hw3 hB.size))), (fun _ => hv), hc3_5, hc3_8, hc3_11, hc3_12, hm3_13_12, (g0.kept hb2), (g1.kept hb2), (gz8_0.kept hb2), (gz8_1.kept hb2), (gz10_2.kept hb2), (gz11_2.kept hb2), (hr.kept hb2)⟩
     · obtain rfl : β3 = false := hun
       clear hi; try simp only [cond_true, cond_false]
       refine ws (fun Kx hK => ?_); refine step_yield (v := x1_7) (by rfl) ?_ ?_
       · exact run_load_exec 51 _ rfl _ rfl (gz8_1.part 0 rfl)
       · exact hK.out _ _ ⟨β0, β1, β2, true, β4, β5, β6, β7, β8, β9, β10, β11, β12, β13, x3_2, x3_5, x3_8, x3_11, x3_12_0, x3_12_1, x3_12_2, x3_12_3, rfl, rfl, hB, hc3_2, hc3_5, hc3_8, hc3_11, hc3_12, hm3_13_12, g0, g1, gz8_0, gz8_1, gz10_2, gz11_2, hr⟩
     · obtain rfl : β4 = false := hun
       clear hi; try simp only [cond_true, cond_false]
       refine ws (fun Kx hK => ?_); refine step_yield (v := x0_7) (by rfl) ?_ ?_
       · exact run_load_exec 51 _ rfl _ rfl (gz8_0.part 0 rfl)
       · exact hK.out _ _ ⟨β0, β1, β2, β3, true, β5, β6, β7, β8, β9, β10, β11, β12, β13, x3_2, x3_5, x3_8, x3_11, x3_12_0, x3_12_1, x3_12_2, x3_12_3, rfl, rfl, hB, hc3_2, hc3_5, hc3_8, hc3_11, hc3_12, hm3_13_12, g0, g1, gz8_0, gz8_1, gz10_2, gz11_2, hr⟩
     · obtain rfl : β5 = false := hun
       obtain rfl : β3 = true := ready_dep (k := 0) hi rfl rfl rfl; obtain rfl : β4 = true := ready_dep (k := 1) hi rfl rfl rfl; clear hi; try simp only [cond_true, cond_false]
       refine ws (fun Kx hK => ?_); go_simp; refine Calls.mono (f_add hc1_7 hc0_7 _) ?_; rintro e w2 ⟨v, rfl, hv, hb2⟩; go_wp2_with fail; exact hK.out _ _ ⟨β0, β1, β2, true, true, true, β6, β7, β8, β9, β10, β11, β12, β13, x3_2, v, x3_8, x3_11, x3_12_0, x3_12_1, x3_12_2, x3_12_3, rfl, rfl, (hB.trans (hb2.mono (Nat.le_trans hw3 hB.size))), hc3_2, (fun _ => hv), hc3_8, hc3_11, hc3_12, hm3_13_12, (g0.kept hb2), (g1.kept hb2), (gz8_0.kept hb2), (gz8_1.kept hb2), (gz10_2.kept hb2), (gz11_2.kept hb2), (hr.kept hb2)⟩
     · obtain rfl : β6 = false := hun
       clear hi; try simp only [cond_true, cond_false]
       refine ws (fun Kx hK => ?_); refine step_yield (v := x2_9) (by rfl) ?_ ?_
       · exact run_load_exec 51 _ rfl _ rfl (gz11_2.part 0 rfl)
       · exact hK.out _ _ ⟨β0, β1, β2, β3, β4, β5, true, β7, β8, β9, β10, β11, β12, β13, x3_2, x3_5, x3_8, x3_11, x3_12_0, x3_12_1, x3_12_2, x3_12_3, rfl, rfl, hB, hc3_2, hc3_5, hc3_8, hc3_11, hc3_12, hm3_13_12, g0, g1, gz8_0, gz8_1, gz10_2, gz11_2, hr⟩
     · obtain rfl : β7 = false := hun
       clear hi; try simp only [cond_true, cond_false]
       refine ws (fun Kx hK => ?_); refine step_yield (v := x2_4) (by rfl) ?_ ?_
       · exact run_load_exec 51 _ rfl _ rfl (gz10_2.part 0 rfl)
       · exact hK.out _ _ ⟨β0, β1, β2, β3, β4, β5, β6, true, β8, β9, β10, β11, β12, β13, x3_2, x3_5, x3_8, x3_11, x3_12_0, x3_12_1, x3_12_2, x3_12_3, rfl, rfl, hB, hc3_2, hc3_5, hc3_8, hc3_11, hc3_12, hm3_13_12, g0, g1, gz8_0, gz8_1, gz10_2, gz11_2, hr⟩
     · obtain rfl : β8 = false := hun
       obtain rfl : β6 = true := ready_dep (k := 0) hi rfl rfl rfl; obtain rfl : β7 = true := ready_dep (k := 1) hi rfl rfl rfl; clear hi; try simp only [cond_true, cond_false]
       refine ws (fun Kx hK => ?_); go_simp; refine Calls.mono (f_add hc2_9 hc2_4 _) ?_; rintro e w2 ⟨v, rfl, hv, hb2⟩; go_wp2_with fail; exact hK.out _ _ ⟨β0, β1, β2, β3, β4, β5, true, true, true, β9, β10, β11, β12, β13, x3_2, x3_5, v, x3_11, x3_12_0, x3_12_1, x3_12_2, x3_12_3, rfl, rfl, (hB.trans (hb2.mono (Nat.le_trans hw3 hB.size))), hc3_2, hc3_5, (fun _ => hv), hc3_11, hc3_12, hm3_13_12, (g0.kept hb2), (g1.kept hb2), (gz8_0.kept hb2), (gz8_1.kept hb2), (gz10_2.kept hb2), (gz11_2.kept hb2), (hr.kept hb2)⟩
     · obtain rfl : β9 = false := hun
       clear hi; try simp only [cond_true, cond_false]
       refine ws (fun Kx hK => ?_); refine step_yield (v := x2_9) (by rfl) ?_ ?_
       · exact run_load_exec 51 _ rfl _ rfl (gz11_2.part 0 rfl)
       · exact hK.out _ _ ⟨β0, β1, β2, β3, β4, β5, β6, β7, β8, true, β10, β11, β12, β13, x3_2, x3_5, x3_8, x3_11, x3_12_0, x3_12_1, x3_12_2, x3_12_3, rfl, rfl, hB, hc3_2, hc3_5, hc3_8, hc3_11, hc3_12, hm3_13_12, g0, g1, gz8_0, gz8_1, gz10_2, gz11_2, hr⟩
     · obtain rfl : β10 = false := hun
       clear hi; try simp only [cond_true, cond_false]
       refine ws (fun Kx hK => ?_); refine step_yield (v := x2_4) (by rfl) ?_ ?_
       · exact run_load_exec 51 _ rfl _ rfl (gz10_2.part 0 rfl)
       · exact hK.out _ _ ⟨β0, β1, β2, β3, β4, β5, β6, β7, β8, β9, true, β11, β12, β13, x3_2, x3_5, x3_8, x3_11, x3_12_0, x3_12_1, x3_12_2, x3_12_3, rfl, rfl, hB, hc3_2, hc3_5, hc3_8, hc3_11, hc3_12, hm3_13_12, g0, g1, gz8_0, gz8_1, gz10_2, gz11_2, hr⟩
     · obtain rfl : β11 = false := hun
       obtain rfl : β9 = true := ready_dep (k := 0) hi rfl rfl rfl; obtain rfl : β10 = true := ready_dep (k := 1) hi rfl rfl rfl; clear hi; try simp only [cond_true, cond_false]
       refine ws (fun Kx hK => ?_); go_simp; refine Calls.mono (f_sub hc2_9 hc2_4 _) ?_; rintro e w2 ⟨v, rfl, hv, hb2⟩; go_wp2_with fail; exact hK.out _ _ ⟨β0, β1, β2, β3, β4, β5, β6, β7, β8, true, true, true, β12, β13, x3_2, x3_5, x3_8, v, x3_12_0, x3_12_1, x3_12_2, x3_12_3, rfl, rfl, (hB.trans (hb2.mono (Nat.le_trans hw3 hB.size))), hc3_2, hc3_5, hc3_8, (fun _ => hv), hc3_12, hm3_13_12, (g0.kept hb2), (g1.kept hb2), (gz8_0.kept hb2), (gz8_1.kept hb2), (gz10_2.kept hb2), (gz11_2.kept hb2), (hr.kept hb2)⟩
     · obtain rfl : β12 = false := hun
       obtain rfl : β2 = true := ready_dep (k := 0) hi rfl rfl rfl; obtain rfl : β5 = true := ready_dep (k := 1) hi rfl rfl rfl; obtain rfl : β8 = true := ready_dep (k := 2) hi rfl rfl rfl; obtain rfl : β11 = true := ready_dep (k := 3) hi rfl rfl rfl; obtain rfl : β13 = false := Bool.eq_false_iff.2 (fun h => by have := hm3_13_12.out h; cases this); clear hi; try simp only [cond_true, cond_false]
       refine ws (fun Kx hK => ?_)
       replace hc3_8 := hc3_8.out rfl
       replace hc3_2 := hc3_2.out rfl
       replace hc3_11 := hc3_11.out rfl
       replace hc3_5 := hc3_5.out rfl
       go_simp; refine Calls.mono (f_joined hc3_2 hc3_5 hc3_8 hc3_11 _) ?_
       rintro e w2 ⟨v0, v1, v2, v3, rfl, hv, hb2⟩; go_wp2_with fail; exact hK.out _ _ ⟨β0, β1, true, β3, β4, true, β6, β7, true, β9, β10, true, true, false, x3_2, x3_5, x3_8, x3_11, v0, v1, v2, v3, rfl, rfl, (hB.trans (hb2.mono (Nat.le_trans hw3 hB.size))), (fun _ => hc3_2), (fun _ => hc3_5), (fun _ => hc3_8), (fun _ => hc3_11), (fun _ => hv), (fun _ => rfl), (g0.kept hb2), (g1.kept hb2), (gz8_0.kept hb2), (gz8_1.kept hb2), (gz10_2.kept hb2), (gz11_2.kept hb2), (hr.kept hb2)⟩
     · obtain rfl : β13 = false := hun
       obtain rfl : β12 = true := ready_dep (k := 0) hi rfl rfl rfl; clear hi; try simp only [cond_true, cond_false]
       refine ws (fun Kx hK => ?_); refine step_store_S (us := [x3_12_0, x3_12_1, x3_12_2, x3_12_3]) (vs := [W4 0 0 0 0, W4 0 0 0 0, W4 0 0 0 0, W4 0 0 0 0]) (by rfl) 145 _ _ rfl (w.heap.size + 2) rfl rfl (words4 (hc3_12.out rfl).1 (hc3_12.out rfl).2.1 (hc3_12.out rfl).2.2.1 (hc3_12.out rfl).2.2.2) rfl (by kernel_rfl) hr ?_; exact hK.out _ _ ⟨β0, β1, β2, β3, β4, β5, β6, β7, β8, β9, β10, β11, true, true, x3_2, x3_5, x3_8, x3_11, x3_12_0, x3_12_1, x3_12_2, x3_12_3, rfl, rfl, (below_setRow hB (by omega) _), hc3_2, hc3_5, hc3_8, hc3_11, hc3_12, (fun _ => rfl), (g0.other (by omega) _), (g1.other (by omega) _), (gz8_0.other (by omega) _), (gz8_1.other (by omega) _), (gz10_2.other (by omega) _), (gz11_2.other (by omega) _), (hr.put (words4 (hc3_12.out rfl).1 (hc3_12.out rfl).2.1 (hc3_12.out rfl).2.2.1 (hc3_12.out rfl).2.2.2))⟩
   case hstep2 =>
    intro i l a w' hs hI hi; obtain ⟨β0, β1, β2, β3, β4, β5, β6, β7, β8, β9, β10, β11, β12, β13, x2_4, x2_9, z2_10, z2_11, rfl, rfl, hB, hc2_4, hc2_9, ha2_10, ha2_11, hd2_10_11, hm2_12_4, hm2_12_10, hm2_13_9, hm2_13_11, g0, g1, gz8_0, gz8_1, hr⟩ := hI; obtain ⟨hlt, hun, _⟩ := ready_mem hi; have hlt' : i < 14 := hlt; clear hlt hs; have hcs : i = 0 ∨ i = 1 ∨ i = 2 ∨ i = 3 ∨ i = 4 ∨ i = 5 ∨ i = 6 ∨ i = 7 ∨ i = 8 ∨ i = 9 ∨ i = 10 ∨ i = 11 ∨ i = 12 ∨ i = 13 := by omega
    clear hlt'; rcases hcs with rfl | rfl | rfl | rfl | rfl | rfl | rfl | rfl | rfl | rfl | rfl | rfl | rfl | rfl
    · obtain rfl : β0 = false := hun
      clear hi; try simp only [cond_true, cond_false]
      refine ws (fun Kx hK => ?_); refine step_yield (v := .pointer (some ⟨w.heap.size, 12, none⟩)) (by rfl) ?_ ?_
      · go_simp
      · exact hK.out _ _ ⟨true, β1, β2, β3, β4, β5, β6, β7, β8, β9, β10, β11, β12, β13, x2_4, x2_9, z2_10, z2_11, rfl, rfl, hB, hc2_4, hc2_9, ha2_10, ha2_11, hd2_10_11, hm2_12_4, hm2_12_10, hm2_13_9, hm2_13_11, g0, g1, gz8_0, gz8_1, hr⟩
    · obtain rfl : β1 = false := hun
      obtain rfl : β0 = true := ready_dep (k := 0) hi rfl rfl rfl; clear hi; try simp only [cond_true, cond_false]
      refine ws (fun Kx hK => ?_); refine step_yield (v := W4 l03_0 l03_1 l03_2 l03_3) (by rfl) ?_ ?_
      · exact run_load_exec 51 _ rfl _ rfl (g0.part 3 rfl)
      · exact hK.out _ _ ⟨true, true, β2, β3, β4, β5, β6, β7, β8, β9, β10, β11, β12, β13, x2_4, x2_9, z2_10, z2_11, rfl, rfl, hB, hc2_4, hc2_9, ha2_10, ha2_11, hd2_10_11, hm2_12_4, hm2_12_10, hm2_13_9, hm2_13_11, g0, g1, gz8_0, gz8_1, hr⟩
    · obtain rfl : β2 = false := hun
      clear hi; try simp only [cond_true, cond_false]
      refine ws (fun Kx hK => ?_); refine step_yield (v := .pointer (some ⟨w.heap.size + 1, 8, none⟩)) (by rfl) ?_ ?_
      · go_simp
      · exact hK.out _ _ ⟨β0, β1, true, β3, β4, β5, β6, β7, β8, β9, β10, β11, β12, β13, x2_4, x2_9, z2_10, z2_11, rfl, rfl, hB, hc2_4, hc2_9, ha2_10, ha2_11, hd2_10_11, hm2_12_4, hm2_12_10, hm2_13_9, hm2_13_11, g0, g1, gz8_0, gz8_1, hr⟩
    · obtain rfl : β3 = false := hun
      obtain rfl : β2 = true := ready_dep (k := 0) hi rfl rfl rfl; clear hi; try simp only [cond_true, cond_false]
      refine ws (fun Kx hK => ?_); refine step_yield (v := W4 l12_0 l12_1 l12_2 l12_3) (by rfl) ?_ ?_
      · exact run_load_exec 51 _ rfl _ rfl (g1.part 2 rfl)
      · exact hK.out _ _ ⟨β0, β1, true, true, β4, β5, β6, β7, β8, β9, β10, β11, β12, β13, x2_4, x2_9, z2_10, z2_11, rfl, rfl, hB, hc2_4, hc2_9, ha2_10, ha2_11, hd2_10_11, hm2_12_4, hm2_12_10, hm2_13_9, hm2_13_11, g0, g1, gz8_0, gz8_1, hr⟩
    · obtain rfl : β4 = false := hun
      obtain rfl : β1 = true := ready_dep (k := 0) hi rfl rfl rfl; obtain rfl : β3 = true := ready_dep (k := 1) hi rfl rfl rfl; obtain rfl : β12 = false := Bool.eq_false_iff.2 (fun h => by have := hm2_12_4.out h; cases this); clear hi; try simp only [cond_true, cond_false]
      refine ws (fun Kx hK => ?_); go_simp; refine Calls.mono (f_mul H03.out H12.out _) ?_; rintro e w2 ⟨v, rfl, hv, hb2⟩; go_wp2_with fail; exact hK.out _ _ ⟨β0, true, β2, true, true, β5, β6, β7, β8, β9, β10, β11, false, β13, v, x2_9, z2_10, z2_11, rfl, rfl, (hB.trans (hb2.mono (Nat.le_trans hw2 hB.size))), (fun _ => hv), hc2_9, (fun h => ⟨(ha2_10.out h).1, (ha2_10.out h).2.kept hb2⟩), (fun h => ⟨(ha2_11.out h).1, (ha2_11.out h).2.kept hb2⟩), hd2_10_11, (fun _ => rfl), hm2_12_10, hm2_13_9, hm2_13_11, (g0.kept hb2), (g1.kept hb2), (gz8_0.kept hb2), (gz8_1.kept hb2), (hr.kept hb2)⟩
    · obtain rfl : β5 = false := hun
      clear hi; try simp only [cond_true, cond_false]
      refine ws (fun Kx hK => ?_); refine step_yield (v := .pointer (some ⟨w.heap.size, 8, none⟩)) (by rfl) ?_ ?_
      · go_simp
      · exact hK.out _ _ ⟨β0, β1, β2, β3, β4, true, β6, β7, β8, β9, β10, β11, β12, β13, x2_4, x2_9, z2_10, z2_11, rfl, rfl, hB, hc2_4, hc2_9, ha2_10, ha2_11, hd2_10_11, hm2_12_4, hm2_12_10, hm2_13_9, hm2_13_11, g0, g1, gz8_0, gz8_1, hr⟩
    · obtain rfl : β6 = false := hun
      obtain rfl : β5 = true := ready_dep (k := 0) hi rfl rfl rfl; clear hi; try simp only [cond_true, cond_false]
      refine ws (fun Kx hK => ?_); refine step_yield (v := W4 l02_0 l02_1 l02_2 l02_3) (by rfl) ?_ ?_
      · exact run_load_exec 51 _ rfl _ rfl (g0.part 2 rfl)
      · exact hK.out _ _ ⟨β0, β1, β2, β3, β4, true, true, β7, β8, β9, β10, β11, β12, β13, x2_4, x2_9, z2_10, z2_11, rfl, rfl, hB, hc2_4, hc2_9, ha2_10, ha2_11, hd2_10_11, hm2_12_4, hm2_12_10, hm2_13_9, hm2_13_11, g0, g1, gz8_0, gz8_1, hr⟩
    · obtain rfl : β7 = false := hun
      clear hi; try simp only [cond_true, cond_false]
      refine ws (fun Kx hK => ?_); refine step_yield (v := .pointer (some ⟨w.heap.size, 8, none⟩)) (by rfl) ?_ ?_
      · go_simp
      · exact hK.out _ _ ⟨β0, β1, β2, β3, β4, β5, β6, true, β8, β9, β10, β11, β12, β13, x2_4, x2_9, z2_10, z2_11, rfl, rfl, hB, hc2_4, hc2_9, ha2_10, ha2_11, hd2_10_11, hm2_12_4, hm2_12_10, hm2_13_9, hm2_13_11, g0, g1, gz8_0, gz8_1, hr⟩
    · obtain rfl : β8 = false := hun
      obtain rfl : β7 = true := ready_dep (k := 0) hi rfl rfl rfl; clear hi; try simp only [cond_true, cond_false]
      refine ws (fun Kx hK => ?_); refine step_yield (v := W4 l02_0 l02_1 l02_2 l02_3) (by rfl) ?_ ?_
      · exact run_load_exec 51 _ rfl _ rfl (g0.part 2 rfl)
      · exact hK.out _ _ ⟨β0, β1, β2, β3, β4, β5, β6, true, true, β9, β10, β11, β12, β13, x2_4, x2_9, z2_10, z2_11, rfl, rfl, hB, hc2_4, hc2_9, ha2_10, ha2_11, hd2_10_11, hm2_12_4, hm2_12_10, hm2_13_9, hm2_13_11, g0, g1, gz8_0, gz8_1, hr⟩
    · obtain rfl : β9 = false := hun
      obtain rfl : β6 = true := ready_dep (k := 0) hi rfl rfl rfl; obtain rfl : β8 = true := ready_dep (k := 1) hi rfl rfl rfl; obtain rfl : β13 = false := Bool.eq_false_iff.2 (fun h => by have := hm2_13_9.out h; cases this); clear hi; try simp only [cond_true, cond_false]
      refine ws (fun Kx hK => ?_); go_simp; refine Calls.mono (f_add H02.out H02.out _) ?_; rintro e w2 ⟨v, rfl, hv, hb2⟩; go_wp2_with fail; exact hK.out _ _ ⟨β0, β1, β2, β3, β4, β5, true, β7, true, true, β10, β11, β12, false, x2_4, v, z2_10, z2_11, rfl, rfl, (hB.trans (hb2.mono (Nat.le_trans hw2 hB.size))), hc2_4, (fun _ => hv), (fun h => ⟨(ha2_10.out h).1, (ha2_10.out h).2.kept hb2⟩), (fun h => ⟨(ha2_11.out h).1, (ha2_11.out h).2.kept hb2⟩), hd2_10_11, hm2_12_4, hm2_12_10, (fun _ => rfl), hm2_13_11, (g0.kept hb2), (g1.kept hb2), (gz8_0.kept hb2), (gz8_1.kept hb2), (hr.kept hb2)⟩
    · obtain rfl : β10 = false := hun
      obtain rfl : β12 = false := Bool.eq_false_iff.2 (fun h => by have := hm2_12_10.out h; cases this); clear hi; try simp only [cond_true, cond_false]
      refine ws (fun Kx hK => ?_); go_simp; exact hK.out _ _ ⟨β0, β1, β2, β3, β4, β5, β6, β7, β8, β9, true, β11, false, β13, x2_4, x2_9, w'.heap.size, z2_11, rfl, rfl, (hB.alloc (Nat.le_trans hw2 hB.size) _), hc2_4, hc2_9, (fun _ => ⟨hB.size, VarS.new24 _⟩), (fun h => ⟨(ha2_11.out h).1, (ha2_11.out h).2.old _⟩), (fun _ h => Nat.ne_of_gt (ha2_11.out h).2.lt), hm2_12_4, (fun _ => rfl), hm2_13_9, hm2_13_11, (g0.old _), (g1.old _), (gz8_0.old _), (gz8_1.old _), (hr.old _)⟩
    · obtain rfl : β11 = false := hun
      obtain rfl : β13 = false := Bool.eq_false_iff.2 (fun h => by have := hm2_13_11.out h; cases this); clear hi; try simp only [cond_true, cond_false]
      refine ws (fun Kx hK => ?_); go_simp; exact hK.out _ _ ⟨β0, β1, β2, β3, β4, β5, β6, β7, β8, β9, β10, true, β12, false, x2_4, x2_9, z2_10, w'.heap.size, rfl, rfl, (hB.alloc (Nat.le_trans hw2 hB.size) _), hc2_4, hc2_9, (fun h => ⟨(ha2_10.out h).1, (ha2_10.out h).2.old _⟩), (fun _ => ⟨hB.size, VarS.new24 _⟩), (fun h _ => Nat.ne_of_lt (ha2_10.out h).2.lt), hm2_12_4, hm2_12_10, hm2_13_9, (fun _ => rfl), (g0.old _), (g1.old _), (gz8_0.old _), (gz8_1.old _), (hr.old _)⟩
    · obtain rfl : β12 = false := hun
      obtain rfl : β4 = true := ready_dep (k := 1) hi rfl rfl rfl; obtain rfl : β10 = true := ready_dep (k := 0) hi rfl rfl rfl; clear hi; try simp only [cond_true, cond_false]
      refine ws (fun Kx hK => ?_); refine step_store_wordS (u := x2_4) (v := W4 0 0 0 0) (by rfl) _ _ rfl z2_10 rfl rfl (hc2_4.out rfl) (ha2_10.out rfl).2 ?_; exact hK.out _ _ ⟨β0, β1, β2, β3, true, β5, β6, β7, β8, β9, true, β11, true, β13, x2_4, x2_9, z2_10, z2_11, rfl, rfl, (below_setRow hB (Nat.le_trans hw2 (ha2_10.out rfl).1) _), hc2_4, hc2_9, (fun _ => ⟨(ha2_10.out rfl).1, ((ha2_10.out rfl).2.put (words1 (hc2_4.out rfl)))⟩), (fun h => ⟨(ha2_11.out h).1, (ha2_11.out h).2.other (Ne.symm (hd2_10_11.out rfl h)) _⟩), hd2_10_11, (fun _ => rfl), (fun _ => rfl), hm2_13_9, hm2_13_11, (g0.other (Nat.ne_of_lt (Nat.lt_of_lt_of_le lt_g02 (ha2_10.out rfl).1)) _), (g1.other (Nat.ne_of_lt (Nat.lt_of_lt_of_le lt_g12 (ha2_10.out rfl).1)) _), (gz8_0.other (Nat.ne_of_lt (Nat.lt_of_lt_of_le lt_gz8_02 (ha2_10.out rfl).1)) _), (gz8_1.other (Nat.ne_of_lt (Nat.lt_of_lt_of_le lt_gz8_12 (ha2_10.out rfl).1)) _), (hr.other (Nat.ne_of_lt (Nat.lt_of_lt_of_le ltr2 (ha2_10.out rfl).1)) _)⟩
    · obtain rfl : β13 = false := hun
      obtain rfl : β9 = true := ready_dep (k := 1) hi rfl rfl rfl; obtain rfl : β11 = true := ready_dep (k := 0) hi rfl rfl rfl; clear hi; try simp only [cond_true, cond_false]
      refine ws (fun Kx hK => ?_); refine step_store_wordS (u := x2_9) (v := W4 0 0 0 0) (by rfl) _ _ rfl z2_11 rfl rfl (hc2_9.out rfl) (ha2_11.out rfl).2 ?_; exact hK.out _ _ ⟨β0, β1, β2, β3, β4, β5, β6, β7, β8, true, β10, true, β12, true, x2_4, x2_9, z2_10, z2_11, rfl, rfl, (below_setRow hB (Nat.le_trans hw2 (ha2_11.out rfl).1) _), hc2_4, hc2_9, (fun h => ⟨(ha2_10.out h).1, (ha2_10.out h).2.other (hd2_10_11.out h rfl) _⟩), (fun _ => ⟨(ha2_11.out rfl).1, ((ha2_11.out rfl).2.put (words1 (hc2_9.out rfl)))⟩), hd2_10_11, hm2_12_4, hm2_12_10, (fun _ => rfl), (fun _ => rfl), (g0.other (Nat.ne_of_lt (Nat.lt_of_lt_of_le lt_g02 (ha2_11.out rfl).1)) _), (g1.other (Nat.ne_of_lt (Nat.lt_of_lt_of_le lt_g12 (ha2_11.out rfl).1)) _), (gz8_0.other (Nat.ne_of_lt (Nat.lt_of_lt_of_le lt_gz8_02 (ha2_11.out rfl).1)) _), (gz8_1.other (Nat.ne_of_lt (Nat.lt_of_lt_of_le lt_gz8_12 (ha2_11.out rfl).1)) _), (hr.other (Nat.ne_of_lt (Nat.lt_of_lt_of_le ltr2 (ha2_11.out rfl).1)) _)⟩
  case hstep1 =>
   intro i l a w' hs hI hi; obtain ⟨β0, β1, β2, β3, β4, β5, β6, β7, β8, β9, x1_4, x1_7, z1_8, rfl, rfl, hB, hc1_4, hc1_7, ha1_8, hm1_9_7, hm1_9_8, g0, g1, gz8_0, hr⟩ := hI; obtain ⟨hlt, hun, _⟩ := ready_mem hi; have hlt' : i < 10 := hlt; clear hlt hs; have hcs : i = 0 ∨ i = 1 ∨ i = 2 ∨ i = 3 ∨ i = 4 ∨ i = 5 ∨ i = 6 ∨ i = 7 ∨ i = 8 ∨ i = 9 := by omega
   clear hlt'; rcases hcs with rfl | rfl | rfl | rfl | rfl | rfl | rfl | rfl | rfl | rfl
   · obtain rfl : β0 = false := hun
     clear hi; try simp only [cond_true, cond_false]
     refine ws (fun Kx hK => ?_); refine step_yield (v := .pointer (some ⟨w.heap.size, 4, none⟩)) (by rfl) ?_ ?_
     · go_simp
     · exact hK.out _ _ ⟨true, β1, β2, β3, β4, β5, β6, β7, β8, β9, x1_4, x1_7, z1_8, rfl, rfl, hB, hc1_4, hc1_7, ha1_8, hm1_9_7, hm1_9_8, g0, g1, gz8_0, hr⟩
   · obtain rfl : β1 = false := hun
     obtain rfl : β0 = true := ready_dep (k := 0) hi rfl rfl rfl; clear hi; try simp only [cond_true, cond_false]
     refine ws (fun Kx hK => ?_); refine step_yield (v := W4 l01_0 l01_1 l01_2 l01_3) (by rfl) ?_ ?_
     · exact run_load_exec 51 _ rfl _ rfl (g0.part 1 rfl)
     · exact hK.out _ _ ⟨true, true, β2, β3, β4, β5, β6, β7, β8, β9, x1_4, x1_7, z1_8, rfl, rfl, hB, hc1_4, hc1_7, ha1_8, hm1_9_7, hm1_9_8, g0, g1, gz8_0, hr⟩
   · obtain rfl : β2 = false := hun
     clear hi; try simp only [cond_true, cond_false]
     refine ws (fun Kx hK => ?_); refine step_yield (v := .pointer (some ⟨w.heap.size, 0, none⟩)) (by rfl) ?_ ?_
     · go_simp
     · exact hK.out _ _ ⟨β0, β1, true, β3, β4, β5, β6, β7, β8, β9, x1_4, x1_7, z1_8, rfl, rfl, hB, hc1_4, hc1_7, ha1_8, hm1_9_7, hm1_9_8, g0, g1, gz8_0, hr⟩
   · obtain rfl : β3 = false := hun
     obtain rfl : β2 = true := ready_dep (k := 0) hi rfl rfl rfl; clear hi; try simp only [cond_true, cond_false]
     refine ws (fun Kx hK => ?_); refine step_yield (v := W4 l00_0 l00_1 l00_2 l00_3) (by rfl) ?_ ?_
     · exact run_load_exec 51 _ rfl _ rfl (g0.part 0 rfl)
     · exact hK.out _ _ ⟨β0, β1, true, true, β4, β5, β6, β7, β8, β9, x1_4, x1_7, z1_8, rfl, rfl, hB, hc1_4, hc1_7, ha1_8, hm1_9_7, hm1_9_8, g0, g1, gz8_0, hr⟩
   · obtain rfl : β4 = false := hun
     obtain rfl : β1 = true := ready_dep (k := 0) hi rfl rfl rfl; obtain rfl : β3 = true := ready_dep (k := 1) hi rfl rfl rfl; clear hi; try simp only [cond_true, cond_false]
     refine ws (fun Kx hK => ?_); go_simp; refine Calls.mono (f_add H01.out H00.out _) ?_; rintro e w2 ⟨v, rfl, hv, hb2⟩; go_wp2_with fail; exact hK.out _ _ ⟨β0, true, β2, true, true, β5, β6, β7, β8, β9, v, x1_7, z1_8, rfl, rfl, (hB.trans (hb2.mono (Nat.le_trans hw1 hB.size))), (fun _ => hv), hc1_7, (fun h => ⟨(ha1_8.out h).1, (ha1_8.out h).2.kept hb2⟩), hm1_9_7, hm1_9_8, (g0.kept hb2), (g1.kept hb2), (gz8_0.kept hb2), (hr.kept hb2)⟩
   · obtain rfl : β5 = false := hun
     clear hi; try simp only [cond_true, cond_false]
     refine ws (fun Kx hK => ?_); refine step_yield (v := .pointer (some ⟨w.heap.size + 1, 4, none⟩)) (by rfl) ?_ ?_
     · go_simp
     · exact hK.out _ _ ⟨β0, β1, β2, β3, β4, true, β6, β7, β8, β9, x1_4, x1_7, z1_8, rfl, rfl, hB, hc1_4, hc1_7, ha1_8, hm1_9_7, hm1_9_8, g0, g1, gz8_0, hr⟩
   · obtain rfl : β6 = false := hun
     obtain rfl : β5 = true := ready_dep (k := 0) hi rfl rfl rfl; clear hi; try simp only [cond_true, cond_false]
     refine ws (fun Kx hK => ?_); refine step_yield (v := W4 l11_0 l11_1 l11_2 l11_3) (by rfl) ?_ ?_
     · exact run_load_exec 51 _ rfl _ rfl (g1.part 1 rfl)
     · exact hK.out _ _ ⟨β0, β1, β2, β3, β4, true, true, β7, β8, β9, x1_4, x1_7, z1_8, rfl, rfl, hB, hc1_4, hc1_7, ha1_8, hm1_9_7, hm1_9_8, g0, g1, gz8_0, hr⟩
   · obtain rfl : β7 = false := hun
     obtain rfl : β4 = true := ready_dep (k := 0) hi rfl rfl rfl; obtain rfl : β6 = true := ready_dep (k := 1) hi rfl rfl rfl; obtain rfl : β9 = false := Bool.eq_false_iff.2 (fun h => by have := hm1_9_7.out h; cases this); clear hi; try simp only [cond_true, cond_false]
     refine ws (fun Kx hK => ?_)
     replace hc1_4 := hc1_4.out rfl
     go_simp; refine Calls.mono (f_mul hc1_4 H11.out _) ?_
     rintro e w2 ⟨v, rfl, hv, hb2⟩; go_wp2_with fail; exact hK.out _ _ ⟨β0, β1, β2, β3, true, β5, true, true, β8, false, x1_4, v, z1_8, rfl, rfl, (hB.trans (hb2.mono (Nat.le_trans hw1 hB.size))), (fun _ => hc1_4), (fun _ => hv), (fun h => ⟨(ha1_8.out h).1, (ha1_8.out h).2.kept hb2⟩), (fun _ => rfl), hm1_9_8, (g0.kept hb2), (g1.kept hb2), (gz8_0.kept hb2), (hr.kept hb2)⟩
   · obtain rfl : β8 = false := hun
     obtain rfl : β9 = false := Bool.eq_false_iff.2 (fun h => by have := hm1_9_8.out h; cases this); clear hi; try simp only [cond_true, cond_false]
     refine ws (fun Kx hK => ?_); go_simp; exact hK.out _ _ ⟨β0, β1, β2, β3, β4, β5, β6, β7, true, false, x1_4, x1_7, w'.heap.size, rfl, rfl, (hB.alloc (Nat.le_trans hw1 hB.size) _), hc1_4, hc1_7, (fun _ => ⟨hB.size, VarS.new24 _⟩), hm1_9_7, (fun _ => rfl), (g0.old _), (g1.old _), (gz8_0.old _), (hr.old _)⟩
   · obtain rfl : β9 = false := hun
     obtain rfl : β7 = true := ready_dep (k := 1) hi rfl rfl rfl; obtain rfl : β8 = true := ready_dep (k := 0) hi rfl rfl rfl; clear hi; try simp only [cond_true, cond_false]
     refine ws (fun Kx hK => ?_); refine step_store_wordS (u := x1_7) (v := W4 0 0 0 0) (by rfl) _ _ rfl z1_8 rfl rfl (hc1_7.out rfl) (ha1_8.out rfl).2 ?_; exact hK.out _ _ ⟨β0, β1, β2, β3, β4, β5, β6, true, true, true, x1_4, x1_7, z1_8, rfl, rfl, (below_setRow hB (Nat.le_trans hw1 (ha1_8.out rfl).1) _), hc1_4, hc1_7, (fun _ => ⟨(ha1_8.out rfl).1, ((ha1_8.out rfl).2.put (words1 (hc1_7.out rfl)))⟩), (fun _ => rfl), (fun _ => rfl), (g0.other (Nat.ne_of_lt (Nat.lt_of_lt_of_le lt_g01 (ha1_8.out rfl).1)) _), (g1.other (Nat.ne_of_lt (Nat.lt_of_lt_of_le lt_g11 (ha1_8.out rfl).1)) _), (gz8_0.other (Nat.ne_of_lt (Nat.lt_of_lt_of_le lt_gz8_01 (ha1_8.out rfl).1)) _), (hr.other (Nat.ne_of_lt (Nat.lt_of_lt_of_le ltr1 (ha1_8.out rfl).1)) _)⟩
 case hstep0 =>
  intro i l a w' hs hI hi; obtain ⟨β0, β1, β2, β3, β4, β5, β6, β7, β8, β9, x0_4, x0_7, z0_8, rfl, rfl, hB, hc0_4, hc0_7, ha0_8, hm0_9_7, hm0_9_8, g0, g1, hr⟩ := hI; obtain ⟨hlt, hun, _⟩ := ready_mem hi; have hlt' : i < 10 := hlt; clear hlt hs; have hcs : i = 0 ∨ i = 1 ∨ i = 2 ∨ i = 3 ∨ i = 4 ∨ i = 5 ∨ i = 6 ∨ i = 7 ∨ i = 8 ∨ i = 9 := by omega
  clear hlt'; rcases hcs with rfl | rfl | rfl | rfl | rfl | rfl | rfl | rfl | rfl | rfl
  · obtain rfl : β0 = false := hun
    clear hi; try simp only [cond_true, cond_false]
    refine ws (fun Kx hK => ?_); refine step_yield (v := .pointer (some ⟨w.heap.size, 4, none⟩)) (by rfl) ?_ ?_
    · go_simp
    · exact hK.out _ _ ⟨true, β1, β2, β3, β4, β5, β6, β7, β8, β9, x0_4, x0_7, z0_8, rfl, rfl, hB, hc0_4, hc0_7, ha0_8, hm0_9_7, hm0_9_8, g0, g1, hr⟩
  · obtain rfl : β1 = false := hun
    obtain rfl : β0 = true := ready_dep (k := 0) hi rfl rfl rfl; clear hi; try simp only [cond_true, cond_false]
    refine ws (fun Kx hK => ?_); refine step_yield (v := W4 l01_0 l01_1 l01_2 l01_3) (by rfl) ?_ ?_
    · exact run_load_exec 51 _ rfl _ rfl (g0.part 1 rfl)
    · exact hK.out _ _ ⟨true, true, β2, β3, β4, β5, β6, β7, β8, β9, x0_4, x0_7, z0_8, rfl, rfl, hB, hc0_4, hc0_7, ha0_8, hm0_9_7, hm0_9_8, g0, g1, hr⟩
  · obtain rfl : β2 = false := hun
    clear hi; try simp only [cond_true, cond_false]
    refine ws (fun Kx hK => ?_); refine step_yield (v := .pointer (some ⟨w.heap.size, 0, none⟩)) (by rfl) ?_ ?_
    · go_simp
    · exact hK.out _ _ ⟨β0, β1, true, β3, β4, β5, β6, β7, β8, β9, x0_4, x0_7, z0_8, rfl, rfl, hB, hc0_4, hc0_7, ha0_8, hm0_9_7, hm0_9_8, g0, g1, hr⟩
  · obtain rfl : β3 = false := hun
    obtain rfl : β2 = true := ready_dep (k := 0) hi rfl rfl rfl; clear hi; try simp only [cond_true, cond_false]
    refine ws (fun Kx hK => ?_); refine step_yield (v := W4 l00_0 l00_1 l00_2 l00_3) (by rfl) ?_ ?_
    · exact run_load_exec 51 _ rfl _ rfl (g0.part 0 rfl)
    · exact hK.out _ _ ⟨β0, β1, true, true, β4, β5, β6, β7, β8, β9, x0_4, x0_7, z0_8, rfl, rfl, hB, hc0_4, hc0_7, ha0_8, hm0_9_7, hm0_9_8, g0, g1, hr⟩
  · obtain rfl : β4 = false := hun
    obtain rfl : β1 = true := ready_dep (k := 0) hi rfl rfl rfl; obtain rfl : β3 = true := ready_dep (k := 1) hi rfl rfl rfl; clear hi; try simp only [cond_true, cond_false]
    refine ws (fun Kx hK => ?_); go_simp; refine Calls.mono (f_sub H01.out H00.out _) ?_; rintro e w2 ⟨v, rfl, hv, hb2⟩; go_wp2_with fail; exact hK.out _ _ ⟨β0, true, β2, true, true, β5, β6, β7, β8, β9, v, x0_7, z0_8, rfl, rfl, (hB.trans (hb2.mono (Nat.le_trans hw0 hB.size))), (fun _ => hv), hc0_7, (fun h => ⟨(ha0_8.out h).1, (ha0_8.out h).2.kept hb2⟩), hm0_9_7, hm0_9_8, (g0.kept hb2), (g1.kept hb2), (hr.kept hb2)⟩
  · obtain rfl : β5 = false := hun
    clear hi; try simp only [cond_true, cond_false]
    refine ws (fun Kx hK => ?_); refine step_yield (v := .pointer (some ⟨w.heap.size + 1, 0, none⟩)) (by rfl) ?_ ?_
    · go_simp
    · exact hK.out _ _ ⟨β0, β1, β2, β3, β4, true, β6, β7, β8, β9, x0_4, x0_7, z0_8, rfl, rfl, hB, hc0_4, hc0_7, ha0_8, hm0_9_7, hm0_9_8, g0, g1, hr⟩
  · obtain rfl : β6 = false := hun
    obtain rfl : β5 = true := ready_dep (k := 0) hi rfl rfl rfl; clear hi; try simp only [cond_true, cond_false]
    refine ws (fun Kx hK => ?_); refine step_yield (v := W4 l10_0 l10_1 l10_2 l10_3) (by rfl) ?_ ?_
    · exact run_load_exec 51 _ rfl _ rfl (g1.part 0 rfl)
    · exact hK.out _ _ ⟨β0, β1, β2, β3, β4, true, true, β7, β8, β9, x0_4, x0_7, z0_8, rfl, rfl, hB, hc0_4, hc0_7, ha0_8, hm0_9_7, hm0_9_8, g0, g1, hr⟩
  · obtain rfl : β7 = false := hun
    obtain rfl : β4 = true := ready_dep (k := 0) hi rfl rfl rfl; obtain rfl : β6 = true := ready_dep (k := 1) hi rfl rfl rfl; obtain rfl : β9 = false := Bool.eq_false_iff.2 (fun h => by have := hm0_9_7.out h; cases this); clear hi; try simp only [cond_true, cond_false]
    refine ws (fun Kx hK => ?_)
    replace hc0_4 := hc0_4.out rfl
    go_simp; refine Calls.mono (f_mul hc0_4 H10.out _) ?_
    rintro e w2 ⟨v, rfl, hv, hb2⟩; go_wp2_with fail; exact hK.out _ _ ⟨β0, β1, β2, β3, true, β5, true, true, β8, false, x0_4, v, z0_8, rfl, rfl, (hB.trans (hb2.mono (Nat.le_trans hw0 hB.size))), (fun _ => hc0_4), (fun _ => hv), (fun h => ⟨(ha0_8.out h).1, (ha0_8.out h).2.kept hb2⟩), (fun _ => rfl), hm0_9_8, (g0.kept hb2), (g1.kept hb2), (hr.kept hb2)⟩
  · obtain rfl : β8 = false := hun
    obtain rfl : β9 = false := Bool.eq_false_iff.2 (fun h => by have := hm0_9_8.out h; cases this); clear hi; try simp only [cond_true, cond_false]
    refine ws (fun Kx hK => ?_); go_simp; exact hK.out _ _ ⟨β0, β1, β2, β3, β4, β5, β6, β7, true, false, x0_4, x0_7, w'.heap.size, rfl, rfl, (hB.alloc (Nat.le_trans hw0 hB.size) _), hc0_4, hc0_7, (fun _ => ⟨hB.size, VarS.new24 _⟩), hm0_9_7, (fun _ => rfl), (g0.old _), (g1.old _), (hr.old _)⟩
  · obtain rfl : β9 = false := hun
    obtain rfl : β7 = true := ready_dep (k := 1) hi rfl rfl rfl; obtain rfl : β8 = true := ready_dep (k := 0) hi rfl rfl rfl; clear hi; try simp only [cond_true, cond_false]
    refine ws (fun Kx hK => ?_); refine step_store_wordS (u := x0_7) (v := W4 0 0 0 0) (by rfl) _ _ rfl z0_8 rfl rfl (hc0_7.out rfl) (ha0_8.out rfl).2 ?_; exact hK.out _ _ ⟨β0, β1, β2, β3, β4, β5, β6, true, true, true, x0_4, x0_7, z0_8, rfl, rfl, (below_setRow hB (Nat.le_trans hw0 (ha0_8.out rfl).1) _), hc0_4, hc0_7, (fun _ => ⟨(ha0_8.out rfl).1, ((ha0_8.out rfl).2.put (words1 (hc0_7.out rfl)))⟩), (fun _ => rfl), (fun _ => rfl), (g0.other (Nat.ne_of_lt (Nat.lt_of_lt_of_le lt_g00 (ha0_8.out rfl).1)) _), (g1.other (Nat.ne_of_lt (Nat.lt_of_lt_of_le lt_g10 (ha0_8.out rfl).1)) _), (hr.other (Nat.ne_of_lt (Nat.lt_of_lt_of_le ltr0 (ha0_8.out rfl).1)) _)⟩
end Go.Proofs.YtojfcdjgcgnajaaGreat
