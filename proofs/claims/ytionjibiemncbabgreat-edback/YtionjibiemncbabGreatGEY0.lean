/- EN, GD, FH, EU, EY0 -/
import Derived.Test.YtionjibiemncbabGreatGShH1
import Derived.Test.YtionjibiemncbabGreatGE0
import Derived.Test.YtionjibiemncbabGreatGFE
import Derived.Test.YtionjibiemncbabGreatGW4
import Derived.Test.YtionjibiemncbabGreatGR4
import Derived.Test.YtionjibiemncbabGreatGFS
import Derived.Test.YtionjibiemncbabGreatEO
import Derived.Test.YtionjibiemncbabGreatGRB
import Derived.Test.YtionjibiemncbabGreatBL
import Derived.Test.YtionjibiemncbabGreatGShH2
set_option linter.unusedSimpArgs false
set_option linter.unusedVariables false
namespace Go.Proofs.YtionjibiemncbabGreat
open Go.RowKit
set_option maxRecDepth 20000 in
set_option maxHeartbeats 4000000 in
theorem f_opposite {p00 p01 : Value} {kx ky : K} (h00 : IsF p00 kx) (h01 : IsF p01 ky) : Gives2 13 #[.agg (catW [p00, p01])] (0 - kx) (ky) := fun w => by
  have H00 : Hid (IsF p00 kx) := h00
  have H01 : Hid (IsF p01 ky) := h01
  obtain ⟨l00_0, l00_1, l00_2, l00_3, rfl, L00, _⟩ := h00
  clear L00
  obtain ⟨l01_0, l01_1, l01_2, l01_3, rfl, L01, _⟩ := h01
  clear L01
  have V0 : Hid (VarS ((w.alloc (.cells (catW [W4 l00_0 l00_1 l00_2 l00_3, W4 l01_0 l01_1 l01_2 l01_3]) 29)).alloc (.cells #[.int .u64 0, .int .u64 0, .int .u64 0, .int .u64 0, .int .u64 0, .int .u64 0, .int .u64 0, .int .u64 0] 29)) (w.heap.size) 29 [W4 l00_0 l00_1 l00_2 l00_3, W4 l01_0 l01_1 l01_2 l01_3] ∧ VarS ((w.alloc (.cells (catW [W4 l00_0 l00_1 l00_2 l00_3, W4 l01_0 l01_1 l01_2 l01_3]) 29)).alloc (.cells #[.int .u64 0, .int .u64 0, .int .u64 0, .int .u64 0, .int .u64 0, .int .u64 0, .int .u64 0, .int .u64 0] 29)) (w.heap.size + 1) 29 [W4 0 0 0 0, W4 0 0 0 0] ∧ Below w.heap.size w ((w.alloc (.cells (catW [W4 l00_0 l00_1 l00_2 l00_3, W4 l01_0 l01_1 l01_2 l01_3]) 29)).alloc (.cells #[.int .u64 0, .int .u64 0, .int .u64 0, .int .u64 0, .int .u64 0, .int .u64 0, .int .u64 0, .int .u64 0] 29))) :=
    ⟨⟨words2 H00.out H01.out, heap_old _ _ _ _ (heap_alloc_new _ _)⟩, ⟨words2 isw0 isw0, by rw [← zero8]; exact heapAt _ _ _ (by simp)⟩, by go_grown⟩
  go_enter Tryz.func13, Tryz.ntmps13
  unfold W4
  go_wp2
  generalize ((w.alloc (.cells (catW [W4 l00_0 l00_1 l00_2 l00_3, W4 l01_0 l01_1 l01_2 l01_3]) 29)).alloc (.cells #[.int .u64 0, .int .u64 0, .int .u64 0, .int .u64 0, .int .u64 0, .int .u64 0, .int .u64 0, .int .u64 0] 29)) = W0 at V0 ⊢
  have g0 := V0.out.1
  have hres := V0.out.2.1
  have hBel := V0.out.2.2
  clear V0
  have hw0 : w.heap.size ≤ W0.heap.size := Nat.le_of_lt (Nat.lt_of_le_of_lt (by omega) hres.lt)
  have lt_g00 := g0.lt
  have ltr0 := hres.lt
  refine wp_region_inv (by kernel_rfl) 8 rfl (fun l a w' => ∃ (β0 β1 β2 β3 β4 β5 β6 β7 : Bool) (x0_3 : Value), l = #[β0, β1, β2, β3, β4, β5, β6, β7] ∧ a = ⟨#[.agg (catW [W4 l00_0 l00_1 l00_2 l00_3, W4 l01_0 l01_1 l01_2 l01_3]), .pointer (some ⟨w.heap.size, 0, none⟩), .pointer (some ⟨w.heap.size + 1, 0, none⟩), bif β0 then W4 0 0 0 0 else undef, bif β1 then .pointer (some ⟨w.heap.size, 0, none⟩) else undef, bif β2 then W4 l00_0 l00_1 l00_2 l00_3 else undef, bif β3 then x0_3 else undef, bif β4 then .pointer (some ⟨w.heap.size, 4, none⟩) else undef, bif β5 then W4 l01_0 l01_1 l01_2 l01_3 else undef, bif β6 then .agg (catW [x0_3, W4 l01_0 l01_1 l01_2 l01_3]) else undef], []⟩ ∧ Below (w.heap.size) W0 w' ∧ Hid (β3 = true → IsF x0_3 ((0) - (kx))) ∧ Hid (β6 = true → β3 = true) ∧ Hid (β7 = true → β3 = true) ∧ VarS w' (w.heap.size) 29 [W4 l00_0 l00_1 l00_2 l00_3, W4 l01_0 l01_1 l01_2 l01_3] ∧ VarS w' (w.heap.size + 1) 29 (bif β7 then [x0_3, W4 l01_0 l01_1 l01_2 l01_3] else [W4 0 0 0 0, W4 0 0 0 0])) ?h00 ?hend0 ?hstep0
  case h00 => exact ⟨false, false, false, false, false, false, false, false, undef, rfl, rfl, Below.drew (Below.refl _ _), (fun h => by cases h), (fun h => by cases h), (fun h => by cases h), g0.drew, hres.drew⟩
  case hend0 =>
    intro l a w' hs hI hr0
    obtain ⟨β0, β1, β2, β3, β4, β5, β6, β7, x0_3, rfl, rfl, hB, hc0_3, hm0_6_3, hm0_7_3, g0, hr⟩ := hI
    have hall := ready_none (by rfl) (depsLow_spec (by kernel_rfl)) hr0
    obtain rfl : β0 = true := hall 0 (by decide)
    obtain rfl : β1 = true := hall 1 (by decide)
    obtain rfl : β2 = true := hall 2 (by decide)
    obtain rfl : β3 = true := hall 3 (by decide)
    obtain rfl : β4 = true := hall 4 (by decide)
    obtain rfl : β5 = true := hall 5 (by decide)
    obtain rfl : β6 = true := hall 6 (by decide)
    obtain rfl : β7 = true := hall 7 (by decide)
    clear hall hr0 hs
    replace hc0_3 := hc0_3.out rfl
    simp only [cond_true] at hr ⊢
    have hBel := hBel.trans (hB.mono (Nat.le_refl _))
    have hl := load28 hr
    go_wp2
    exact bodyPost_ret (v := .agg (catW [x0_3, W4 l01_0 l01_1 l01_2 l01_3])) (by simp [results, Tryz.results13, asAddr, hl]) rfl ⟨_, _, rfl, ⟨hc0_3, H01.out⟩, hBel⟩
  case hstep0 =>
    intro i l a w' hs hI hi
    obtain ⟨β0, β1, β2, β3, β4, β5, β6, β7, x0_3, rfl, rfl, hB, hc0_3, hm0_6_3, hm0_7_3, g0, hr⟩ := hI
    obtain ⟨hlt, hun, _⟩ := ready_mem hi
    have hlt' : i < 8 := hlt
    clear hlt hs
    have hcs : i = 0 ∨ i = 1 ∨ i = 2 ∨ i = 3 ∨ i = 4 ∨ i = 5 ∨ i = 6 ∨ i = 7 := by omega
    clear hlt'
    rcases hcs with rfl | rfl | rfl | rfl | rfl | rfl | rfl | rfl
    · obtain rfl : β0 = false := hun
      clear hi
      try simp only [cond_true, cond_false]
      refine ws (fun Kx hK => ?_)
      refine step_yield (v := W4 0 0 0 0) (by rfl) ?_ ?_
      · go_simp
      · exact hK.out _ _ ⟨true, β1, β2, β3, β4, β5, β6, β7, x0_3, rfl, rfl, hB, hc0_3, hm0_6_3, hm0_7_3, g0, hr⟩
    · obtain rfl : β1 = false := hun
      clear hi
      try simp only [cond_true, cond_false]
      refine ws (fun Kx hK => ?_)
      refine step_yield (v := .pointer (some ⟨w.heap.size, 0, none⟩)) (by rfl) ?_ ?_
      · go_simp
      · exact hK.out _ _ ⟨β0, true, β2, β3, β4, β5, β6, β7, x0_3, rfl, rfl, hB, hc0_3, hm0_6_3, hm0_7_3, g0, hr⟩
    · obtain rfl : β2 = false := hun
      obtain rfl : β1 = true := ready_dep (k := 0) hi rfl rfl rfl
      clear hi
      try simp only [cond_true, cond_false]
      refine ws (fun Kx hK => ?_)
      refine step_yield (v := W4 l00_0 l00_1 l00_2 l00_3) (by rfl) ?_ ?_
      · exact run_load_exec 24 _ rfl _ rfl (g0.part 0 rfl)
      · exact hK.out _ _ ⟨β0, true, true, β3, β4, β5, β6, β7, x0_3, rfl, rfl, hB, hc0_3, hm0_6_3, hm0_7_3, g0, hr⟩
    · obtain rfl : β3 = false := hun
      obtain rfl : β0 = true := ready_dep (k := 0) hi rfl rfl rfl
      obtain rfl : β2 = true := ready_dep (k := 1) hi rfl rfl rfl
      obtain rfl : β6 = false := Bool.eq_false_iff.2 (fun h => by have := hm0_6_3.out h; cases this)
      obtain rfl : β7 = false := Bool.eq_false_iff.2 (fun h => by have := hm0_7_3.out h; cases this)
      clear hi
      try simp only [cond_true, cond_false]
      refine ws (fun Kx hK => ?_)
      go_simp
      refine Calls.mono (f_sub isF0 H00.out _) ?_
      rintro e w2 ⟨v, rfl, hv, hb2⟩
      go_wp2_with fail
      exact hK.out _ _ ⟨true, β1, true, true, β4, β5, false, false, v, rfl, rfl, (hB.trans (hb2.mono (Nat.le_trans hw0 hB.size))), (fun _ => hv), (fun _ => rfl), (fun _ => rfl), (g0.kept hb2), (hr.kept hb2)⟩
    · obtain rfl : β4 = false := hun
      clear hi
      try simp only [cond_true, cond_false]
      refine ws (fun Kx hK => ?_)
      refine step_yield (v := .pointer (some ⟨w.heap.size, 4, none⟩)) (by rfl) ?_ ?_
      · go_simp
      · exact hK.out _ _ ⟨β0, β1, β2, β3, true, β5, β6, β7, x0_3, rfl, rfl, hB, hc0_3, hm0_6_3, hm0_7_3, g0, hr⟩
    · obtain rfl : β5 = false := hun
      obtain rfl : β4 = true := ready_dep (k := 0) hi rfl rfl rfl
      clear hi
      try simp only [cond_true, cond_false]
      refine ws (fun Kx hK => ?_)
      refine step_yield (v := W4 l01_0 l01_1 l01_2 l01_3) (by rfl) ?_ ?_
      · exact run_load_exec 24 _ rfl _ rfl (g0.part 1 rfl)
      · exact hK.out _ _ ⟨β0, β1, β2, β3, true, true, β6, β7, x0_3, rfl, rfl, hB, hc0_3, hm0_6_3, hm0_7_3, g0, hr⟩
    · obtain rfl : β6 = false := hun
      obtain rfl : β3 = true := ready_dep (k := 0) hi rfl rfl rfl
      obtain rfl : β5 = true := ready_dep (k := 1) hi rfl rfl rfl
      clear hi
      try simp only [cond_true, cond_false]
      refine ws (fun Kx hK => ?_)
      refine step_yield (v := .agg (catW [x0_3, W4 l01_0 l01_1 l01_2 l01_3])) (by rfl) ?_ ?_
      · obtain ⟨p00, p01, p02, p03, rfl, _, _⟩ := (hc0_3.out rfl)
        go_simp
        kernel_rfl
      · exact hK.out _ _ ⟨β0, β1, β2, true, β4, true, true, β7, x0_3, rfl, rfl, hB, hc0_3, (fun _ => rfl), (fun _ => rfl), g0, hr⟩
    · obtain rfl : β7 = false := hun
      obtain rfl : β3 = true := ready_dep (k := 1) hi rfl rfl rfl
      obtain rfl : β6 = true := ready_dep (k := 0) hi rfl rfl rfl
      clear hi
      try simp only [cond_true, cond_false]
      refine ws (fun Kx hK => ?_)
      refine step_store_S (us := [x0_3, W4 l01_0 l01_1 l01_2 l01_3]) (vs := [W4 0 0 0 0, W4 0 0 0 0]) (by rfl) 29 _ _ rfl (w.heap.size + 1) rfl rfl (words2 (hc0_3.out rfl) H01.out) rfl (by kernel_rfl) hr ?_
      exact hK.out _ _ ⟨β0, β1, β2, true, β4, β5, true, true, x0_3, rfl, rfl, (below_setRow hB (by omega) _), hc0_3, (fun _ => rfl), (fun _ => rfl), (g0.other (by omega) _), (hr.put (words2 (hc0_3.out rfl) H01.out))⟩
end Go.Proofs.YtionjibiemncbabGreat
namespace Go.Proofs.YtionjibiemncbabGreat
open Go.RowKit
def dig (x : Int) (j : Nat) : Int := x / 65536 ^ j % 65536
theorem fcell_of {w : World} {z : Nat} {y0 y1 y2 y3 : Int} (h : w.heap[z]? = some (.cells (C4 y0 y1 y2 y3) 24 (0, 0))) (q : Nat) (hq : q < 4) : w.cell? ⟨z, q, none⟩ = some (.int .u64 (limbOf y0 y1 y2 y3 q)) := by
  rw [cell_of_row _ z q _ 24 (0, 0) h]
  match q, hq with
  | 0, _ => rfl
  | 1, _ => rfl
  | 2, _ => rfl
  | 3, _ => rfl
end Go.Proofs.YtionjibiemncbabGreat
namespace Go.Proofs.YtionjibiemncbabGreat
open Go.RowKit
theorem fpow256 (m : Nat) : (256 : Int) ^ m = 2 ^ (8 * m) := by rw [Int.pow_mul]; rfl
theorem flow_byte (x y : Int) (r : Nat) (hr : r ≤ 56) : ((x + 18446744073709551616 * y) / 2 ^ r) % 256 = (x / 2 ^ r) % 256 := by
  have e : (18446744073709551616 : Int) = 2 ^ r * (256 * 2 ^ (56 - r)) := by
    have h : (2 : Int) ^ r * (256 * 2 ^ (56 - r)) = 2 ^ (r + 8 + (56 - r)) := by rw [Int.pow_add, Int.pow_add, Int.mul_assoc]; rfl
    rw [h, show r + 8 + (56 - r) = 64 from by omega]
    decide
  rw [e, Int.mul_assoc, Int.mul_assoc, Int.add_mul_ediv_left _ _ (by have := fpow_pos r; omega)]
  omega
theorem fbyte_num (a0 a1 a2 a3 : Int) (ha : L4 a0 a1 a2 a3) (j : Nat) (hj : j < 32) : (num a0 a1 a2 a3 / 256 ^ j) % 256 = (limbOf a0 a1 a2 a3 (j / 8) / 2 ^ (8 * (j % 8))) % 256 := by
  have n0 : num a0 a1 a2 a3 = a0 + 18446744073709551616 * (a1 + 18446744073709551616 * (a2 + 18446744073709551616 * a3)) := by unfold num; omega
  rw [n0, fpow256]
  obtain ⟨h0, h1, h2, h3⟩ := ha
  have hr : 8 * (j % 8) ≤ 56 := by omega
  have q : j / 8 = 0 ∨ j / 8 = 1 ∨ j / 8 = 2 ∨ j / 8 = 3 := by omega
  rcases q with q | q | q | q <;> rw [q]
  · have e : 8 * j = 8 * (j % 8) := by omega
    rw [show limbOf a0 a1 a2 a3 0 = a0 from rfl, ← flow_byte a0 _ (8 * (j % 8)) hr, ← e]
  · have e : 8 * j = 64 + 8 * (j % 8) := by omega
    rw [show limbOf a0 a1 a2 a3 1 = a1 from rfl, ← flow_byte a1 _ (8 * (j % 8)) hr]
    conv => lhs; rw [e]
    rw [fshift_down _ _ h0]
  · have e : 8 * j = 64 + (64 + 8 * (j % 8)) := by omega
    rw [show limbOf a0 a1 a2 a3 2 = a2 from rfl, ← flow_byte a2 _ (8 * (j % 8)) hr]
    conv => lhs; rw [e]
    rw [fshift_down _ _ h0, fshift_down _ _ h1]
  · have e : 8 * j = 64 + (64 + (64 + 8 * (j % 8))) := by omega
    rw [show limbOf a0 a1 a2 a3 3 = a3 from rfl]
    conv => lhs; rw [e]
    rw [fshift_down _ _ h0, fshift_down _ _ h1, fshift_down _ _ h2]
theorem finfo5 : (Tryz.prog.info? 5).map (fun i => (i.zero, i.size, i.bytes)) = some (some (.int .u8 0), 1, 1) := by kernel_rfl
def laidF (X : Int) (k : Nat) (j : Nat) : Value := .int .u8 (if j < k then X / 256 ^ j % 256 else 0)
theorem laidF_step {w : World} {c : Nat} {X : Int} {k : Nat} (h : w.rowIs c 5 32 (laidF X k)) (hk : k < 32) : (w.setCell ⟨c, k, none⟩ (.int .u8 (X / 256 ^ k % 256))).rowIs c 5 32 (laidF X (k + 1)) :=
  World.rowIs.congr (World.rowIs.set h k (.int .u8 (X / 256 ^ k % 256))) (fun i hi => by
    unfold laidF
    by_cases e : i = k
    · subst e; simp
    · rw [if_neg (by omega)]
      by_cases h2 : i < k
      · rw [if_pos h2, if_pos (by omega)]
      · rw [if_neg h2, if_neg (by omega)])
theorem VarW.far {w : World} {z c : Nat} {v : Value} (h : VarW w z v) (hn : c ≠ z) (o : Nat) (u : Value) : VarW (w.setCell ⟨c, o, none⟩ u) z v := ⟨h.1, (heap_setCell_other _ _ _ _ (Ne.symm hn)).trans h.2⟩
set_option maxHeartbeats 4000000 in
theorem fbytes_any {va : Value} {x : Int} (ha : IsW va x) (w : World) :
    Calls Tryz.prog 21 #[va] w fun e w' => ∃ b, e = .returned (.slice (some ⟨b, 0, none⟩) 32 32) ∧ w.heap.size ≤ b ∧ w'.rowIs b 5 32 (fun j => .int .u8 ((x % PP) / 256 ^ j % 256)) ∧ Below w.heap.size w w' := by
  have HX : Hid (IsW va x) := ha
  have HG : Hid (∀ w, Calls Tryz.prog 28 #[va] w fun e w' => ∃ v, e = .returned v ∧ IsW v (x % PP) ∧ Below w.heap.size w w') := g_fbelow ha
  obtain ⟨a0, a1, a2, a3, rfl, la, na⟩ := ha
  clear na HX
  generalize x % PP = X at HG ⊢
  have hmk : ∀ w : World, (Instr.makeSlice 40 (.int .i64 32) (.int .i64 32)).run Tryz.prog w = .ok (.slice (some ⟨w.heap.size, 0, none⟩) 32 32) (w.alloc (.cells (madeCells #[.int .u8 0] 32) 5)) := run_make_row' (P := Tryz.prog) 40 5 (.int .u8 0) 1 Tryz.underlying40 finfo5 rfl .i64 .i64 32 (by omega) (by omega)
  have V0 : Hid (VarW (w.alloc (.cells (C4 a0 a1 a2 a3) 24)) w.heap.size (W4 a0 a1 a2 a3) ∧ Below w.heap.size w (w.alloc (.cells (C4 a0 a1 a2 a3) 24))) := ⟨VarW.new1 la w, by go_grown⟩
  clear la
  go_enter Tryz.func21, Tryz.ntmps21
  unfold W4
  go_wp2_with fail
  generalize w.alloc (.cells (C4 a0 a1 a2 a3) 24) = W0 at V0 ⊢
  refine Calls.mono (HG.out _) ?_
  rintro e w1 ⟨vy, rfl, hy, b1⟩
  have V1 : Hid (VarW w1 w.heap.size (W4 a0 a1 a2 a3) ∧ Below w.heap.size w w1) := ⟨V0.out.1.kept b1, V0.out.2.trans (b1.mono V0.out.2.size)⟩
  clear V0 b1
  go_wp2_with (first | (refine wpList_store_varW rfl _ _ rfl w.heap.size rfl rfl hy V1.out.1 ?_))
  have hn : vy = .agg (cw vy) := hy.agg.1
  obtain ⟨y0, y1, y2, y3, rfl, ly, ny⟩ := hy
  have V2 : Hid (VarW ((w1.setRow w.heap.size (cw (W4 y0 y1 y2 y3))).alloc (.cells (madeCells #[.int .u8 0] 32) 5)) w.heap.size (W4 y0 y1 y2 y3) ∧ Below w.heap.size w ((w1.setRow w.heap.size (cw (W4 y0 y1 y2 y3))).alloc (.cells (madeCells #[.int .u8 0] 32) 5)) ∧ w.heap.size < (w1.setRow w.heap.size (cw (W4 y0 y1 y2 y3))).heap.size) :=
    ⟨(V1.out.1.put (IsW.mk ly)).old _, (below_setRow V1.out.2 (Nat.le_refl _) _).alloc (below_setRow V1.out.2 (Nat.le_refl _) _).size _, (V1.out.1.put (IsW.mk ly)).lt⟩
  clear V1 hn
  have hsz : (w1.setRow w.heap.size (cw (W4 y0 y1 y2 y3))).heap.size = w1.heap.size := by simp
  generalize w1.setRow w.heap.size (cw (W4 y0 y1 y2 y3)) = w2 at V2 hsz ⊢
  have hrow : (w2.alloc (.cells (madeCells #[.int .u8 0] 32) 5)).rowIs w2.heap.size 5 32 (laidF X 0) := World.rowIs.congr (World.rowIs_made w2 (.int .u8 0) 32 5) (fun i hi => by simp [laidF])
  obtain ⟨hV, hB, hlt0⟩ := V2.out
  clear V2 hmk
  rw [hsz] at hrow hlt0
  clear hsz
  generalize w2.alloc (.cells (madeCells #[.int .u8 0] 32) 5) = w3 at *
  generalize w1.heap.size = c at *
  have HL : Hid (L4 y0 y1 y2 y3) := ly
  have NY : Hid (num y0 y1 y2 y3 = X) := ny
  clear ly ny HG
  have hcw : w.heap.size ≤ c := by omega
  have hne : c ≠ w.heap.size := by omega
  go_loopw [8] (fun i wr => ∃ (k : Nat), k ≤ 32 ∧ i = .int .i64 k ∧ wr.rowIs c 5 32 (laidF X k) ∧ Hid (VarW wr w.heap.size (W4 y0 y1 y2 y3)) ∧ Below w.heap.size w wr) (fun i _ => 32 - (intOf i).toNat)
  case atStart => exact ⟨0, by omega, rfl, hrow, hV, hB⟩
  case round =>
    clear hrow hV hB
    obtain ⟨k, hk, rfl, hrow, KW, hB⟩ := hrel
    by_cases hlt : k < 32
    · have hx : 0 ≤ X / 256 ^ k % 256 ∧ X / 256 ^ k % 256 < 256 := by omega
      have hrow2 : Hid ((wr.setCell ⟨c, k, none⟩ (.int .u8 (X / 256 ^ k % 256))).rowIs c 5 32 (laidF X (k + 1))) := laidF_step hrow hlt
      have hcl := World.rowIs.lt hrow
      have hc2 : wr.cell? ⟨c, k, none⟩ = some (laidF X k k) := World.rowIs.cell hrow (by omega)
      have hfz : wr.frozen? ⟨c, k, none⟩ = false := World.rowIs.frozen hrow _
      obtain ⟨old, hold⟩ : ∃ old, laidF X k k = .int .u8 old := ⟨_, rfl⟩
      rw [hold] at hc2
      have hl := fcell_of KW.out.2 (k / 8) (by omega)
      have hL := limbOf_limb HL.out (k / 8)
      have hd := fdiv_limb hL (8 * (k % 8))
      have hnum := fbyte_num y0 y1 y2 y3 HL.out k hlt
      rw [NY.out] at hnum
      generalize X / 256 ^ k % 256 = x at *
      generalize limbOf y0 y1 y2 y3 (k / 8) = lm at *
      clear hold hrow
      go_wp2
      rw [← hnum]
      exact ⟨⟨k + 1, by omega, by go_num, hrow2.out, KW.out.far hne _ _, hB.setCell hcw _⟩, by simp [intOf]; omega⟩
    · have hkl : k = 32 := by omega
      have hrow3 : Hid (wr.rowIs c 5 32 (fun j => .int .u8 (X / 256 ^ j % 256))) := World.rowIs.congr hrow (fun i hi => by
        unfold laidF; rw [if_pos (by omega)])
      clear hrow hkl
      have hd' : decide ((k : Int) < 32) = false := by simp; omega
      go_wp2
      go_ret
      exact ⟨c, rfl, hcw, hrow3.out, hB⟩
end Go.Proofs.YtionjibiemncbabGreat
namespace Go.Proofs.YtionjibiemncbabGreat
open Go.RowKit
def kb (n : Int) : Nat → Value := fun j => .int .u8 (n / 256 ^ j % 256)
def keyV (n : Int) : Value := .agg (vec 32 (kb n))
theorem u8_all {f g : Int → Int} (h : ∀ b : Fin 256, f (b.val : Int) = g (b.val : Int)) (b : Int) (h0 : 0 ≤ b) (h1 : b < 256) : f b = g b := by
  have := h ⟨b.toNat, by omega⟩
  rwa [show (((⟨b.toNat, by omega⟩ : Fin 256).val : Nat) : Int) = b from by show ((b.toNat : Nat) : Int) = b; omega] at this
theorem u8_and128 (b : Int) (h0 : 0 ≤ b) (h1 : b < 256) : bits .and .u8 b 128 = 128 * (b / 128) := u8_all (f := fun b => bits .and .u8 b 128) (g := fun b => 128 * (b / 128)) (by decide +kernel) b h0 h1
theorem u8_andNot128 (b : Int) (h0 : 0 ≤ b) (h1 : b < 256) : bits .andNot .u8 b 128 = b % 128 := u8_all (f := fun b => bits .andNot .u8 b 128) (g := fun b => b % 128) (by decide +kernel) b h0 h1
theorem u8_or128 (b : Int) (h0 : 0 ≤ b) (h1 : b < 256) : bits .or .u8 b 128 = b % 128 + 128 := u8_all (f := fun b => bits .or .u8 b 128) (g := fun b => b % 128 + 128) (by decide +kernel) b h0 h1
theorem u8_and1 (b : Int) (h0 : 0 ≤ b) (h1 : b < 256) : bits .and .u8 b 1 = b % 2 := u8_all (f := fun b => bits .and .u8 b 1) (g := fun b => b % 2) (by decide +kernel) b h0 h1
theorem u8_andNot7 (b : Int) (h0 : 0 ≤ b) (h1 : b < 256) : bits .andNot .u8 b 7 = b - b % 8 := u8_all (f := fun b => bits .andNot .u8 b 7) (g := fun b => b - b % 8) (by decide +kernel) b h0 h1
theorem u8_clamp (b : Int) (h0 : 0 ≤ b) (h1 : b < 256) : bits .or .u8 (bits .and .u8 b 127) 64 = b % 64 + 64 := u8_all (f := fun b => bits .or .u8 (bits .and .u8 b 127) 64) (g := fun b => b % 64 + 64) (by decide +kernel) b h0 h1
def H255 : Int := 57896044618658097711785492504343953926634992332820282019728792003956564819968
theorem H255_pow (j : Nat) (hj : j < 31) : (57896044618658097711785492504343953926634992332820282019728792003956564819968 : Nat) = 256 ^ j * (256 * 2 ^ (247 - 8 * j)) := by
  rw [show (256 : Nat) = 2 ^ 8 from rfl, ← Nat.pow_mul, ← Nat.pow_add, ← Nat.pow_add, show 8 * j + (8 + (247 - 8 * j)) = 255 from by omega]
theorem kb_low {m : Int} (h0 : 0 ≤ m) (j : Nat) (hj : j < 31) : kb (m + H255) j = kb m j := by
  obtain ⟨k, rfl⟩ := Int.eq_ofNat_of_zero_le h0
  unfold kb
  congr 1
  have e : (k + 57896044618658097711785492504343953926634992332820282019728792003956564819968) / 256 ^ j % 256 = k / 256 ^ j % 256 := by
    rw [H255_pow j hj, Nat.add_mul_div_left _ _ (Nat.pow_pos (by decide)), Nat.add_mul_mod_self_left]
  unfold H255
  have e2 := congrArg (fun x : Nat => (x : Int)) e
  simp only [Int.natCast_emod, Int.natCast_ediv, Int.natCast_add, Int.natCast_pow] at e2
  exact e2
theorem kb_top {m : Int} (h0 : 0 ≤ m) (h1 : m < H255) : kb m 31 = .int .u8 (m / 256 ^ 31) ∧ kb (m + H255) 31 = .int .u8 (m / 256 ^ 31 + 128) ∧ 0 ≤ m / 256 ^ 31 ∧ m / 256 ^ 31 < 128 := by
  unfold kb
  unfold H255 at *
  rw [show ((256 : Int) ^ 31) = 452312848583266388373324160190187140051835877600158453279131187530910662656 from by decide]
  refine ⟨?_, ?_, by omega, by omega⟩ <;> congr 1 <;> omega
theorem kb_set {w : World} {b : Nat} {t : TypeId} {m : Int} (h0 : 0 ≤ m) (h1 : m < H255) (h : w.rowIs b t 32 (kb m)) : (w.setCell ⟨b, 31, none⟩ (.int .u8 (m / 256 ^ 31 + 128))).rowIs b t 32 (kb (m + H255)) :=
  World.rowIs.congr (World.rowIs.set h 31 _) (fun i hi => by
    by_cases e : i = 31
    · subst e; rw [(kb_top h0 h1).2.1]; simp
    · rw [if_neg e, kb_low h0 i (by omega)])
theorem dL_kb (n : Int) (j : Nat) (hj : j < 32) : Value.int .u8 ((dL n).getD j 0) = kb n j := by rw [dL_get n j hj]; rfl
theorem isD_kb {w : World} {b : Nat} {t : TypeId} {n : Int} (h : w.rowIs b t 32 (kb n)) : IsD w (.slice (some ⟨b, 0, none⟩) 32 32) (dL n) := by
  refine ⟨some ⟨b, 0, none⟩, 32, by rw [dL_len], by rw [dL_len]; omega, fun k hk => ⟨b, 0, rfl, h.lt, ?_⟩⟩
  rw [dL_len] at hk
  rw [Nat.zero_add, dL_kb n k hk]
  exact h.cell hk
def encN (x y : K) : Int := (y.val : Int) + (if (x.val : Int) % 2 = 1 then H255 else 0)
def sqx (y : K) : K := (y * y - 1) * invK (toF DD * (y * y) + 1)
def rootX (y : Int) : Int := sqrtR ((sqx (toF y)).val : Int)
def decY (y : Int) (odd : Bool) : Option (K × K) :=
  if PP ≤ y then none else if sqrtB ((sqx (toF y)).val : Int) = false then none else if odd = true then (if rootX y = 0 then none else some (0 - toF (rootX y), toF y)) else some (toF (rootX y), toF y)
def decK (n : Int) : Option (K × K) := decY (n % H255) (decide (n / H255 = 1))
def decE : Option (K × K) → Int
  | none => 20
  | some _ => 0
def decV : Option (K × K) → K × K
  | none => (0, 0)
  | some p => p
theorem sqrtR_bd (x : Int) : 0 ≤ sqrtR x ∧ sqrtR x < PP := by
  have hp : PP = 57896044618658097711785492504343953926634992332820282019728792003956564819949 := rfl
  have ev : ∀ r : Int, 0 ≤ r → r < PP → 0 ≤ evenR r ∧ evenR r < PP := fun r h0 h1 => by
    unfold evenR
    split
    · omega
    · omega
  have m1 : 0 ≤ rt1 x ∧ rt1 x < PP := mod_PP _
  have m2 : 0 ≤ rt2 x ∧ rt2 x < PP := mod_PP _
  unfold sqrtR
  split
  · exact ev _ m1.1 m1.2
  · split
    · exact ev _ m2.1 m2.2
    · rw [hp]; decide
end Go.Proofs.YtionjibiemncbabGreat
namespace Go.Proofs.YtionjibiemncbabGreat
open Go.RowKit
def bI (f : Nat → Int) : Nat → Value := fun j => .int .u8 (f j)
def lsI (f : Nat → Int) (n : Nat) : List Int := (List.range n).map f
theorem lsI_len (f : Nat → Int) (n : Nat) : (lsI f n).length = n := by simp [lsI]
theorem lsI_get (f : Nat → Int) (n k : Nat) (hk : k < n) : (lsI f n).getD k 0 = f k := by simp [lsI, List.getD, hk]
theorem lsI_byt {f : Nat → Int} {n : Nat} (h : ∀ j, j < n → 0 ≤ f j ∧ f j < 256) : Byt (lsI f n) := fun k => by
  by_cases hk : k < n
  · rw [lsI_get f n k hk]; exact h k hk
  · rw [List.getD_eq_getElem?_getD, List.getElem?_eq_none (by rw [lsI_len]; omega)]; decide
theorem lsI_congr {f g : Nat → Int} {n : Nat} (h : ∀ j, j < n → f j = g j) : lsI f n = lsI g n := List.map_congr_left fun j hj => h j (by simpa using hj)
theorem isD_bI {w : World} {b N : Nat} {t : TypeId} {f : Nat → Int} (h : w.rowIs b t N (bI f)) (off n cap : Nat) (hf : off + n ≤ N) (hc : n ≤ cap) : IsD w (.slice (some ⟨b, off, none⟩) n cap) (lsI (fun j => f (off + j)) n) := by
  refine ⟨some ⟨b, off, none⟩, cap, by rw [lsI_len], by rw [lsI_len]; exact hc, fun k hk => ⟨b, off, rfl, h.lt, ?_⟩⟩
  rw [lsI_len] at hk
  rw [lsI_get _ n k hk]
  exact h.cell (by omega)
theorem one_bI (n : Nat) (f : Nat → Int) : (vec n (bI f)).all (·.oneCell') = true := by
  rw [Array.all_eq_true]
  intro i hi
  simp [vec, bI, Value.oneCell']
theorem arr41 (b : Nat) (w : World) : (Instr.sliceAt 28 (.pointer (some ⟨b, 0, none⟩)) none none none).run Tryz.prog w = .ok (.slice (some ⟨b, 0, none⟩) 32 32) w := by
  have ha : Tryz.prog.arrayLen 28 = 32 := by kernel_rfl
  have he : Tryz.prog.elem 28 = 5 := by kernel_rfl
  rw [run_sliceAt_array_all w 28 ⟨b, 0, none⟩ (by kernel_rfl), he, Tryz.sizeOf5, ha]
  simp [Result.andThen, slicedAt, Addr.add]
theorem arr40 (b : Nat) (w : World) : (Instr.sliceAt 27 (.pointer (some ⟨b, 0, none⟩)) none none none).run Tryz.prog w = .ok (.slice (some ⟨b, 0, none⟩) 32 32) w := by
  have ha : Tryz.prog.arrayLen 27 = 32 := by kernel_rfl
  have he : Tryz.prog.elem 27 = 5 := by kernel_rfl
  rw [run_sliceAt_array_all w 27 ⟨b, 0, none⟩ (by kernel_rfl), he, Tryz.sizeOf5, ha]
  simp [Result.andThen, slicedAt, Addr.add]
theorem arr53 (b : Nat) (w : World) : (Instr.sliceAt 53 (.pointer (some ⟨b, 0, none⟩)) none none none).run Tryz.prog w = .ok (.slice (some ⟨b, 0, none⟩) 64 64) w := by
  have ha : Tryz.prog.arrayLen 53 = 64 := by kernel_rfl
  have he : Tryz.prog.elem 53 = 5 := by kernel_rfl
  rw [run_sliceAt_array_all w 53 ⟨b, 0, none⟩ (by kernel_rfl), he, Tryz.sizeOf5, ha]
  simp [Result.andThen, slicedAt, Addr.add]
theorem upto53 (b r : Nat) (hr : r < 64) (w : World) : (Instr.sliceAt 53 (.pointer (some ⟨b, 0, none⟩)) none (some (.int .i64 (r : Int))) none).run Tryz.prog w = .ok (.slice (some ⟨b, 0, none⟩) r 64) w := by
  have ha : Tryz.prog.arrayLen 53 = 64 := by kernel_rfl
  have he : Tryz.prog.elem 53 = 5 := by kernel_rfl
  rw [run_sliceAt_array_h w 53 ⟨b, 0, none⟩ (by kernel_rfl) .i64 (r : Int) (by omega) (by rw [ha]; omega), he, Tryz.sizeOf5, ha]
  simp only [Result.andThen, slicedAt, Int.toNat_natCast]
  simp [Addr.add]
theorem from53 (b r : Nat) (hr : r < 64) (w : World) : (Instr.sliceAt 53 (.pointer (some ⟨b, 0, none⟩)) (some (.int .i64 (r : Int))) none none).run Tryz.prog w = .ok (.slice (some ⟨b, r, none⟩) (64 - r) (64 - r)) w := by
  have ha : Tryz.prog.arrayLen 53 = 64 := by kernel_rfl
  have he : Tryz.prog.elem 53 = 5 := by kernel_rfl
  rw [run_sliceAt_array_l w 53 ⟨b, 0, none⟩ (by kernel_rfl) .i64 (r : Int) (by omega) (by rw [ha]; omega), he, Tryz.sizeOf5, ha]
  simp only [Result.andThen, slicedAt, Int.toNat_natCast, if_neg (show ¬ 64 = r by omega)]
  simp [Addr.add]
  omega
theorem upto54 (b r : Nat) (hr : r < 64) (w : World) : (Instr.sliceAt 54 (.pointer (some ⟨b, 0, none⟩)) none (some (.int .i64 (r : Int))) none).run Tryz.prog w = .ok (.slice (some ⟨b, 0, none⟩) r 64) w := by
  have ha : Tryz.prog.arrayLen 54 = 64 := by kernel_rfl
  have he : Tryz.prog.elem 54 = 5 := by kernel_rfl
  rw [run_sliceAt_array_h w 54 ⟨b, 0, none⟩ (by kernel_rfl) .i64 (r : Int) (by omega) (by rw [ha]; omega), he, Tryz.sizeOf5, ha]
  simp only [Result.andThen, slicedAt, Int.toNat_natCast]
  simp [Addr.add]
theorem from54 (b r : Nat) (hr : r < 64) (w : World) : (Instr.sliceAt 54 (.pointer (some ⟨b, 0, none⟩)) (some (.int .i64 (r : Int))) none none).run Tryz.prog w = .ok (.slice (some ⟨b, r, none⟩) (64 - r) (64 - r)) w := by
  have ha : Tryz.prog.arrayLen 54 = 64 := by kernel_rfl
  have he : Tryz.prog.elem 54 = 5 := by kernel_rfl
  rw [run_sliceAt_array_l w 54 ⟨b, 0, none⟩ (by kernel_rfl) .i64 (r : Int) (by omega) (by rw [ha]; omega), he, Tryz.sizeOf5, ha]
  simp only [Result.andThen, slicedAt, Int.toNat_natCast, if_neg (show ¬ 64 = r by omega)]
  simp [Addr.add]
  omega
def bv (x : Int) : BitVec 8 := BitVec.ofInt 8 x
theorem I8_bv (x : Int) (h0 : 0 ≤ x) (h1 : x < 256) : Sha.I8 (bv x) = x := by
  unfold Sha.I8 bv
  rw [BitVec.toNat_ofInt]
  omega
theorem bv_I8 (x : BitVec 8) : bv (Sha.I8 x) = x := Sha.ofInt_I8 x
end Go.Proofs.YtionjibiemncbabGreat
