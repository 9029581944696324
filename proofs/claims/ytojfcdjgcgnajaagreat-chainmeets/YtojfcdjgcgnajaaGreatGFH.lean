/- EN, GD, FH -/
import Derived.Test.YtojfcdjgcgnajaaGreatGCM
import Derived.Test.YtojfcdjgcgnajaaGreatGEO
import Derived.Test.YtojfcdjgcgnajaaGreatGFE
import Derived.Test.YtojfcdjgcgnajaaGreatGW4
import Derived.Test.YtojfcdjgcgnajaaGreatGR4
import Derived.Test.YtojfcdjgcgnajaaGreatGRB
namespace Go.Proofs.YtojfcdjgcgnajaaGreat
open Go.RowKit
set_option linter.unusedSimpArgs false
set_option linter.unusedVariables false
set_option maxRecDepth 20000 in
set_option maxHeartbeats 4000000 in
theorem f_opposite {p00 p01 : Value} {kx ky : K} (h00 : IsF p00 kx) (h01 : IsF p01 ky) : Gives2 75 #[.agg (catW [p00, p01])] (0 - kx) (ky) := fun w => by
 have H00 : Hid (IsF p00 kx) := h00; have H01 : Hid (IsF p01 ky) := h01; obtain ⟨l00_0, l00_1, l00_2, l00_3, rfl, L00, _⟩ := h00; clear L00; obtain ⟨l01_0, l01_1, l01_2, l01_3, rfl, L01, _⟩ := h01; clear L01; have V0 : Hid (VarS ((w.alloc (.cells (catW [W4 l00_0 l00_1 l00_2 l00_3, W4 l01_0 l01_1 l01_2 l01_3]) 77)).alloc (.cells #[.int .u64 0, .int .u64 0, .int .u64 0, .int .u64 0, .int .u64 0, .int .u64 0, .int .u64 0, .int .u64 0] 77)) (w.heap.size) 77 [W4 l00_0 l00_1 l00_2 l00_3, W4 l01_0 l01_1 l01_2 l01_3] ∧ VarS ((w.alloc (.cells (catW [W4 l00_0 l00_1 l00_2 l00_3, W4 l01_0 l01_1 l01_2 l01_3]) 77)).alloc (.cells #[.int .u64 0, .int .u64 0, .int .u64 0, .int .u64 0, .int .u64 0, .int .u64 0, .int .u64 0, .int .u64 0] 77)) (w.heap.size + 1) 77 [W4 0 0 0 0, W4 0 0 0 0] ∧ Below w.heap.size w ((w.alloc (.cells (catW [W4 l00_0 l00_1 l00_2 l00_3, W4 l01_0 l01_1 l01_2 l01_3]) 77)).alloc (.cells #[.int .u64 0, .int .u64 0, .int .u64 0, .int .u64 0, .int .u64 0, .int .u64 0, .int .u64 0, .int .u64 0] 77))) :=
  ⟨⟨words2 H00.out H01.out, heap_old _ _ _ _ (heap_alloc_new _ _)⟩, ⟨words2 isw0 isw0, by rw [← zero8]; exact heapAt _ _ _ (by simp)⟩, by go_grown⟩
 go_enter Tryz.func75, Tryz.ntmps75
 unfold W4; go_wp2; generalize ((w.alloc (.cells (catW [W4 l00_0 l00_1 l00_2 l00_3, W4 l01_0 l01_1 l01_2 l01_3]) 77)).alloc (.cells #[.int .u64 0, .int .u64 0, .int .u64 0, .int .u64 0, .int .u64 0, .int .u64 0, .int .u64 0, .int .u64 0] 77)) = W0 at V0 ⊢; have g0 := V0.out.1; have hres := V0.out.2.1; have hBel := V0.out.2.2; clear V0; have hw0 : w.heap.size ≤ W0.heap.size := Nat.le_of_lt (Nat.lt_of_le_of_lt (by omega) hres.lt); have lt_g00 := g0.lt; have ltr0 := hres.lt; refine wp_region_inv (by kernel_rfl) 8 rfl (fun l a w' => ∃ (β0 β1 β2 β3 β4 β5 β6 β7 : Bool) (x0_3 : Value), l = #[β0, β1, β2, β3, β4, β5, β6, β7] ∧ a = ⟨#[.agg (catW [W4 l00_0 l00_1 l00_2 l00_3, W4 l01_0 l01_1 l01_2 l01_3]), .pointer (some ⟨w.heap.size, 0, none⟩), .pointer (some ⟨w.heap.size + 1, 0, none⟩), bif β0 then W4 0 0 0 0 else undef, bif β1 then .pointer (some ⟨w.heap.size, 0, none⟩) else undef, bif β2 then W4 l00_0 l00_1 l00_2 l00_3 else undef, bif β3 then x0_3 else undef, bif β4 then .pointer (some ⟨w.heap.size, 4, none⟩) else undef, bif β5 then W4 l01_0 l01_1 l01_2 l01_3 else undef, bif β6 then .agg (catW [x0_3, W4 l01_0 l01_1 l01_2 l01_3]) else undef], []⟩ ∧ Below (w.heap.size) W0 w' ∧ Hid (β3 = true → IsF x0_3 ((0) - (kx))) ∧ Hid (β6 = true → β3 = true) ∧ Hid (β7 = true → β3 = true) ∧ VarS w' (w.heap.size) 77 [W4 l00_0 l00_1 l00_2 l00_3, W4 l01_0 l01_1 l01_2 l01_3] ∧ VarS w' (w.heap.size + 1) 77 (bif β7 then [x0_3, W4 l01_0 l01_1 l01_2 l01_3] else [W4 0 0 0 0, W4 0 0 0 0])) ?h00 ?hend0 ?hstep0
 case h00 => exact ⟨false, false, false, false, false, false, false, false, undef, rfl, rfl, Below.drew (Below.refl _ _), (fun h => by cases h), (fun h => by cases h), (fun h => by cases h), g0.drew, hres.drew⟩
 case hend0 =>
  intro l a w' hs hI hr0; obtain ⟨β0, β1, β2, β3, β4, β5, β6, β7, x0_3, rfl, rfl, hB, hc0_3, hm0_6_3, hm0_7_3, g0, hr⟩ := hI; have hall := ready_none (by rfl) (depsLow_spec (by kernel_rfl)) hr0; obtain rfl : β0 = true := hall 0 (by decide); obtain rfl : β1 = true := hall 1 (by decide); obtain rfl : β2 = true := hall 2 (by decide); obtain rfl : β3 = true := hall 3 (by decide); obtain rfl : β4 = true := hall 4 (by decide); obtain rfl : β5 = true := hall 5 (by decide); obtain rfl : β6 = true := hall 6 (by decide); obtain rfl : β7 = true := hall 7 (by decide); clear hall hr0 hs
  replace hc0_3 := hc0_3.out rfl
  simp only [cond_true] at hr ⊢; have hBel := hBel.trans (hB.mono (Nat.le_refl _)); have hl := load28 hr; go_wp2; exact bodyPost_ret (v := .agg (catW [x0_3, W4 l01_0 l01_1 l01_2 l01_3])) (by simp [results, Tryz.results75, asAddr, hl]) rfl ⟨_, _, rfl, ⟨hc0_3, H01.out⟩, hBel⟩
 case hstep0 =>
  intro i l a w' hs hI hi; obtain ⟨β0, β1, β2, β3, β4, β5, β6, β7, x0_3, rfl, rfl, hB, hc0_3, hm0_6_3, hm0_7_3, g0, hr⟩ := hI; obtain ⟨hlt, hun, _⟩ := ready_mem hi; have hlt' : i < 8 := hlt; clear hlt hs; have hcs : i = 0 ∨ i = 1 ∨ i = 2 ∨ i = 3 ∨ i = 4 ∨ i = 5 ∨ i = 6 ∨ i = 7 := by omega
  clear hlt'; rcases hcs with rfl | rfl | rfl | rfl | rfl | rfl | rfl | rfl
  · obtain rfl : β0 = false := hun
    clear hi; try simp only [cond_true, cond_false]
    refine ws (fun Kx hK => ?_); refine step_yield (v := W4 0 0 0 0) (by rfl) ?_ ?_
    · go_simp
    · exact hK.out _ _ ⟨true, β1, β2, β3, β4, β5, β6, β7, x0_3, rfl, rfl, hB, hc0_3, hm0_6_3, hm0_7_3, g0, hr⟩
  · obtain rfl : β1 = false := hun
    clear hi; try simp only [cond_true, cond_false]
    refine ws (fun Kx hK => ?_); refine step_yield (v := .pointer (some ⟨w.heap.size, 0, none⟩)) (by rfl) ?_ ?_
    · go_simp
    · exact hK.out _ _ ⟨β0, true, β2, β3, β4, β5, β6, β7, x0_3, rfl, rfl, hB, hc0_3, hm0_6_3, hm0_7_3, g0, hr⟩
  · obtain rfl : β2 = false := hun
    obtain rfl : β1 = true := ready_dep (k := 0) hi rfl rfl rfl; clear hi; try simp only [cond_true, cond_false]
    refine ws (fun Kx hK => ?_); refine step_yield (v := W4 l00_0 l00_1 l00_2 l00_3) (by rfl) ?_ ?_
    · exact run_load_exec 51 _ rfl _ rfl (g0.part 0 rfl)
    · exact hK.out _ _ ⟨β0, true, true, β3, β4, β5, β6, β7, x0_3, rfl, rfl, hB, hc0_3, hm0_6_3, hm0_7_3, g0, hr⟩
  · obtain rfl : β3 = false := hun
    obtain rfl : β0 = true := ready_dep (k := 0) hi rfl rfl rfl; obtain rfl : β2 = true := ready_dep (k := 1) hi rfl rfl rfl; obtain rfl : β6 = false := Bool.eq_false_iff.2 (fun h => by have := hm0_6_3.out h; cases this); obtain rfl : β7 = false := Bool.eq_false_iff.2 (fun h => by have := hm0_7_3.out h; cases this); clear hi; try simp only [cond_true, cond_false]
    refine ws (fun Kx hK => ?_); go_simp; refine Calls.mono (f_sub isF0 H00.out _) ?_; rintro e w2 ⟨v, rfl, hv, hb2⟩; go_wp2_with fail; exact hK.out _ _ ⟨true, β1, true, true, β4, β5, false, false, v, rfl, rfl, (hB.trans (hb2.mono (Nat.le_trans hw0 hB.size))), (fun _ => hv), (fun _ => rfl), (fun _ => rfl), (g0.kept hb2), (hr.kept hb2)⟩
  · obtain rfl : β4 = false := hun
    clear hi; try simp only [cond_true, cond_false]
    refine ws (fun Kx hK => ?_); refine step_yield (v := .pointer (some ⟨w.heap.size, 4, none⟩)) (by rfl) ?_ ?_
    · go_simp
    · exact hK.out _ _ ⟨β0, β1, β2, β3, true, β5, β6, β7, x0_3, rfl, rfl, hB, hc0_3, hm0_6_3, hm0_7_3, g0, hr⟩
  · obtain rfl : β5 = false := hun
    obtain rfl : β4 = true := ready_dep (k := 0) hi rfl rfl rfl; clear hi; try simp only [cond_true, cond_false]
    refine ws (fun Kx hK => ?_); refine step_yield (v := W4 l01_0 l01_1 l01_2 l01_3) (by rfl) ?_ ?_
    · exact run_load_exec 51 _ rfl _ rfl (g0.part 1 rfl)
    · exact hK.out _ _ ⟨β0, β1, β2, β3, true, true, β6, β7, x0_3, rfl, rfl, hB, hc0_3, hm0_6_3, hm0_7_3, g0, hr⟩
  · obtain rfl : β6 = false := hun
    obtain rfl : β3 = true := ready_dep (k := 0) hi rfl rfl rfl; obtain rfl : β5 = true := ready_dep (k := 1) hi rfl rfl rfl; clear hi; try simp only [cond_true, cond_false]
    refine ws (fun Kx hK => ?_); refine step_yield (v := .agg (catW [x0_3, W4 l01_0 l01_1 l01_2 l01_3])) (by rfl) ?_ ?_
    · obtain ⟨p00, p01, p02, p03, rfl, _, _⟩ := (hc0_3.out rfl)
      go_simp
      kernel_rfl
    · exact hK.out _ _ ⟨β0, β1, β2, true, β4, true, true, β7, x0_3, rfl, rfl, hB, hc0_3, (fun _ => rfl), (fun _ => rfl), g0, hr⟩
  · obtain rfl : β7 = false := hun
    obtain rfl : β3 = true := ready_dep (k := 1) hi rfl rfl rfl; obtain rfl : β6 = true := ready_dep (k := 0) hi rfl rfl rfl; clear hi; try simp only [cond_true, cond_false]
    refine ws (fun Kx hK => ?_); refine step_store_S (us := [x0_3, W4 l01_0 l01_1 l01_2 l01_3]) (vs := [W4 0 0 0 0, W4 0 0 0 0]) (by rfl) 77 _ _ rfl (w.heap.size + 1) rfl rfl (words2 (hc0_3.out rfl) H01.out) rfl (by kernel_rfl) hr ?_; exact hK.out _ _ ⟨β0, β1, β2, true, β4, β5, true, true, x0_3, rfl, rfl, (below_setRow hB (by omega) _), hc0_3, (fun _ => rfl), (fun _ => rfl), (g0.other (by omega) _), (hr.put (words2 (hc0_3.out rfl) H01.out))⟩
end Go.Proofs.YtojfcdjgcgnajaaGreat
namespace Go.Proofs.YtojfcdjgcgnajaaGreat
open Go.RowKit
set_option linter.unusedSimpArgs false
set_option linter.unusedVariables false
theorem fcell_of {w : World} {z : Nat} {y0 y1 y2 y3 : Int} (h : w.heap[z]? = some (.cells (C4 y0 y1 y2 y3) 51 (0, 0))) (q : Nat) (hq : q < 4) : w.cell? ⟨z, q, none⟩ = some (.int .u64 (limbOf y0 y1 y2 y3 q)) := by
 rw [cell_of_row _ z q _ 51 (0, 0) h]
 match q, hq with
 | 0, _ => rfl
 | 1, _ => rfl
 | 2, _ => rfl
 | 3, _ => rfl
end Go.Proofs.YtojfcdjgcgnajaaGreat
namespace Go.Proofs.YtojfcdjgcgnajaaGreat
open Go.RowKit
set_option linter.unusedSimpArgs false
set_option linter.unusedVariables false
theorem fpow256 (m : Nat) : (256 : Int) ^ m = 2 ^ (8 * m) := by rw [Int.pow_mul]; rfl
theorem flow_byte (x y : Int) (r : Nat) (hr : r ≤ 56) : ((x + 18446744073709551616 * y) / 2 ^ r) % 256 = (x / 2 ^ r) % 256 := by
 have e : (18446744073709551616 : Int) = 2 ^ r * (256 * 2 ^ (56 - r)) := by
  have h : (2 : Int) ^ r * (256 * 2 ^ (56 - r)) = 2 ^ (r + 8 + (56 - r)) := by rw [Int.pow_add, Int.pow_add, Int.mul_assoc]; rfl
  rw [h, show r + 8 + (56 - r) = 64 from by omega]; decide
 rw [e, Int.mul_assoc, Int.mul_assoc, Int.add_mul_ediv_left _ _ (by have := fpow_pos r; omega)]; omega
theorem fbyte_num (a0 a1 a2 a3 : Int) (ha : L4 a0 a1 a2 a3) (j : Nat) (hj : j < 32) : (num a0 a1 a2 a3 / 256 ^ j) % 256 = (limbOf a0 a1 a2 a3 (j / 8) / 2 ^ (8 * (j % 8))) % 256 := by
 have n0 : num a0 a1 a2 a3 = a0 + 18446744073709551616 * (a1 + 18446744073709551616 * (a2 + 18446744073709551616 * a3)) := by unfold num; omega
 rw [n0, fpow256]; obtain ⟨h0, h1, h2, h3⟩ := ha; have hr : 8 * (j % 8) ≤ 56 := by omega
 have q : j / 8 = 0 ∨ j / 8 = 1 ∨ j / 8 = 2 ∨ j / 8 = 3 := by omega
 rcases q with q | q | q | q <;> rw [q]
 · have e : 8 * j = 8 * (j % 8) := by omega
   rw [show limbOf a0 a1 a2 a3 0 = a0 from rfl, ← flow_byte a0 _ (8 * (j % 8)) hr, ← e]
 · have e : 8 * j = 64 + 8 * (j % 8) := by omega
   rw [show limbOf a0 a1 a2 a3 1 = a1 from rfl, ← flow_byte a1 _ (8 * (j % 8)) hr]; conv => lhs; rw [e]
   rw [fshift_down _ _ h0]
 · have e : 8 * j = 64 + (64 + 8 * (j % 8)) := by omega
   rw [show limbOf a0 a1 a2 a3 2 = a2 from rfl, ← flow_byte a2 _ (8 * (j % 8)) hr]; conv => lhs; rw [e]
   rw [fshift_down _ _ h0, fshift_down _ _ h1]
 · have e : 8 * j = 64 + (64 + (64 + 8 * (j % 8))) := by omega
   rw [show limbOf a0 a1 a2 a3 3 = a3 from rfl]; conv => lhs; rw [e]
   rw [fshift_down _ _ h0, fshift_down _ _ h1, fshift_down _ _ h2]
theorem finfo5 : (Tryz.prog.info? 5).map (fun i => (i.zero, i.size, i.bytes)) = some (some (.int .u8 0), 1, 1) := by kernel_rfl
def laidF (X : Int) (k : Nat) (j : Nat) : Value := .int .u8 (if j < k then X / 256 ^ j % 256 else 0)
theorem laidF_step {w : World} {c : Nat} {X : Int} {k : Nat} (h : w.rowIs c 5 32 (laidF X k)) (hk : k < 32) : (w.setCell ⟨c, k, none⟩ (.int .u8 (X / 256 ^ k % 256))).rowIs c 5 32 (laidF X (k + 1)) :=
 World.rowIs.congr (World.rowIs.set h k (.int .u8 (X / 256 ^ k % 256))) (fun i hi => by
  unfold laidF; by_cases e : i = k
  · subst e; simp
  · rw [if_neg (by omega)]
    by_cases h2 : i < k
    · rw [if_pos h2, if_pos (by omega)]
    · rw [if_neg h2, if_neg (by omega)])
theorem VarW.far {w : World} {z c : Nat} {v : Value} (h : VarW w z v) (hn : c ≠ z) (o : Nat) (u : Value) : VarW (w.setCell ⟨c, o, none⟩ u) z v := ⟨h.1, (heap_setCell_other _ _ _ _ (Ne.symm hn)).trans h.2⟩
set_option maxHeartbeats 4000000 in
theorem fbytes_any {va : Value} {x : Int} (ha : IsW va x) (w : World) :
 Calls Tryz.prog 20 #[va] w fun e w' => ∃ b, e = .returned (.slice (some ⟨b, 0, none⟩) 32 32) ∧ w.heap.size ≤ b ∧ w'.rowIs b 5 32 (fun j => .int .u8 ((x % PP) / 256 ^ j % 256)) ∧ Below w.heap.size w w' := by
 have HX : Hid (IsW va x) := ha; have HG : Hid (∀ w, Calls Tryz.prog 36 #[va] w fun e w' => ∃ v, e = .returned v ∧ IsW v (x % PP) ∧ Below w.heap.size w w') := g_fbelow ha; obtain ⟨a0, a1, a2, a3, rfl, la, na⟩ := ha; clear na HX; generalize x % PP = X at HG ⊢; have hmk : ∀ w : World, (Instr.makeSlice 28 (.int .i64 32) (.int .i64 32)).run Tryz.prog w = .ok (.slice (some ⟨w.heap.size, 0, none⟩) 32 32) (w.alloc (.cells (madeCells #[.int .u8 0] 32) 5)) := run_make_row' (P := Tryz.prog) 28 5 (.int .u8 0) 1 Tryz.underlying28 finfo5 rfl .i64 .i64 32 (by omega) (by omega); have V0 : Hid (VarW (w.alloc (.cells (C4 a0 a1 a2 a3) 51)) w.heap.size (W4 a0 a1 a2 a3) ∧ Below w.heap.size w (w.alloc (.cells (C4 a0 a1 a2 a3) 51))) := ⟨VarW.new1 la w, by go_grown⟩
 clear la; go_enter Tryz.func20, Tryz.ntmps20; unfold W4; go_wp2_with fail; generalize w.alloc (.cells (C4 a0 a1 a2 a3) 51) = W0 at V0 ⊢; refine Calls.mono (HG.out _) ?_; rintro e w1 ⟨vy, rfl, hy, b1⟩; have V1 : Hid (VarW w1 w.heap.size (W4 a0 a1 a2 a3) ∧ Below w.heap.size w w1) := ⟨V0.out.1.kept b1, V0.out.2.trans (b1.mono V0.out.2.size)⟩
 clear V0 b1; go_wp2_with (first | (refine wpList_store_varW rfl _ _ rfl w.heap.size rfl rfl hy V1.out.1 ?_)); have hn : vy = .agg (cw vy) := hy.agg.1; obtain ⟨y0, y1, y2, y3, rfl, ly, ny⟩ := hy; have V2 : Hid (VarW ((w1.setRow w.heap.size (cw (W4 y0 y1 y2 y3))).alloc (.cells (madeCells #[.int .u8 0] 32) 5)) w.heap.size (W4 y0 y1 y2 y3) ∧ Below w.heap.size w ((w1.setRow w.heap.size (cw (W4 y0 y1 y2 y3))).alloc (.cells (madeCells #[.int .u8 0] 32) 5)) ∧ w.heap.size < (w1.setRow w.heap.size (cw (W4 y0 y1 y2 y3))).heap.size) :=
  ⟨(V1.out.1.put (IsW.mk ly)).old _, (below_setRow V1.out.2 (Nat.le_refl _) _).alloc (below_setRow V1.out.2 (Nat.le_refl _) _).size _, (V1.out.1.put (IsW.mk ly)).lt⟩
 clear V1 hn; have hsz : (w1.setRow w.heap.size (cw (W4 y0 y1 y2 y3))).heap.size = w1.heap.size := by simp
 generalize w1.setRow w.heap.size (cw (W4 y0 y1 y2 y3)) = w2 at V2 hsz ⊢; have hrow : (w2.alloc (.cells (madeCells #[.int .u8 0] 32) 5)).rowIs w2.heap.size 5 32 (laidF X 0) := World.rowIs.congr (World.rowIs_made w2 (.int .u8 0) 32 5) (fun i hi => by simp [laidF]); obtain ⟨hV, hB, hlt0⟩ := V2.out; clear V2 hmk; rw [hsz] at hrow hlt0; clear hsz; generalize w2.alloc (.cells (madeCells #[.int .u8 0] 32) 5) = w3 at *; generalize w1.heap.size = c at *; have HL : Hid (L4 y0 y1 y2 y3) := ly; have NY : Hid (num y0 y1 y2 y3 = X) := ny; clear ly ny HG; have hcw : w.heap.size ≤ c := by omega
 have hne : c ≠ w.heap.size := by omega
 go_loopw [8] (fun i wr => ∃ (k : Nat), k ≤ 32 ∧ i = .int .i64 k ∧ wr.rowIs c 5 32 (laidF X k) ∧ Hid (VarW wr w.heap.size (W4 y0 y1 y2 y3)) ∧ Below w.heap.size w wr) (fun i _ => 32 - (intOf i).toNat)
 case atStart => exact ⟨0, by omega, rfl, hrow, hV, hB⟩
 case round =>
  clear hrow hV hB; obtain ⟨k, hk, rfl, hrow, KW, hB⟩ := hrel; by_cases hlt : k < 32
  · have hx : 0 ≤ X / 256 ^ k % 256 ∧ X / 256 ^ k % 256 < 256 := by omega
    have hrow2 : Hid ((wr.setCell ⟨c, k, none⟩ (.int .u8 (X / 256 ^ k % 256))).rowIs c 5 32 (laidF X (k + 1))) := laidF_step hrow hlt; have hcl := World.rowIs.lt hrow; have hc2 : wr.cell? ⟨c, k, none⟩ = some (laidF X k k) := World.rowIs.cell hrow (by omega); have hfz : wr.frozen? ⟨c, k, none⟩ = false := World.rowIs.frozen hrow _; obtain ⟨old, hold⟩ : ∃ old, laidF X k k = .int .u8 old := ⟨_, rfl⟩
    rw [hold] at hc2; have hl := fcell_of KW.out.2 (k / 8) (by omega); have hL := limbOf_limb HL.out (k / 8); have hd := fdiv_limb hL (8 * (k % 8)); have hnum := fbyte_num y0 y1 y2 y3 HL.out k hlt; rw [NY.out] at hnum; generalize X / 256 ^ k % 256 = x at *; generalize limbOf y0 y1 y2 y3 (k / 8) = lm at *; clear hold hrow; go_wp2; rw [← hnum]; exact ⟨⟨k + 1, by omega, by go_num, hrow2.out, KW.out.far hne _ _, hB.setCell hcw _⟩, by simp [intOf]; omega⟩
  · have hkl : k = 32 := by omega
    have hrow3 : Hid (wr.rowIs c 5 32 (fun j => .int .u8 (X / 256 ^ j % 256))) := World.rowIs.congr hrow (fun i hi => by
     unfold laidF; rw [if_pos (by omega)])
    clear hrow hkl; have hd' : decide ((k : Int) < 32) = false := by simp; omega
    go_wp2; go_ret
    exact ⟨c, rfl, hcw, hrow3.out, hB⟩
end Go.Proofs.YtojfcdjgcgnajaaGreat
