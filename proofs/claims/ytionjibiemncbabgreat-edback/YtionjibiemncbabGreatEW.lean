/- ed.Decode -/
import Derived.Test.YtionjibiemncbabGreatGEV
import Derived.Test.YtionjibiemncbabGreatGED
set_option linter.unusedSimpArgs false
set_option linter.unusedVariables false
namespace Go.Proofs.YtionjibiemncbabGreat
open Go.RowKit
set_option maxHeartbeats 1000000 in
theorem g_zero {va : Value} {x : Int} (ha : IsW va x) (w : World) : Calls Tryz.prog 12 #[va] w fun e w' => e = .returned (.bool (decide (x = 0))) ∧ Below w.heap.size w w' := by
  have he : ∀ w, (Op.equalIn 10000 24 va (W4 0 0 0 0)).run Tryz.prog w = .ok (decide (x = 0)) w := fun w => by
    rw [eqW ha isw0 w]; congr 1
  generalize decide (x = 0) = B at he ⊢
  obtain ⟨a0, a1, a2, a3, rfl, la, _⟩ := ha
  have V0 : Hid (VarW (w.alloc (.cells (C4 a0 a1 a2 a3) 24)) w.heap.size (W4 a0 a1 a2 a3)) := VarW.new1 la w
  clear la
  unfold W4 at he
  go_enter Tryz.func12, Tryz.ntmps12
  unfold W4
  go_wp2_with (first | (refine wpList_load_varW rfl _ rfl w.heap.size rfl V0.out ?_) | (refine wpList_build rfl 24 _ rfl (by kernel_rfl) ?_; generalize hG : (Program.built _ _ _).getD #[] = G; obtain rfl : G = C4 0 0 0 0 := by rw [← hG]; kernel_rfl))
  go_ret
  exact ⟨rfl, by go_grown⟩
theorem kb_vec {m n : Int} (h0 : 0 ≤ m) (h1 : m < H255) (hn : n = m ∨ n = m + H255) : (vec 32 (kb n)).setIfInBounds 31 (.int .u8 (m / 256 ^ 31)) = vec 32 (kb m) := vec_eq (by simp) (fun i hi => by
  rw [Array.getElem?_setIfInBounds]
  by_cases e : 31 = i
  · subst e
    rw [if_pos rfl, if_pos (by simp), (kb_top h0 h1).1]
  · rw [if_neg e, get_vec 32 _ i hi]
    rcases hn with rfl | rfl
    · rfl
    · rw [kb_low h0 i (by omega)])
theorem decTop {m : Int} (h0 : 0 ≤ m) (h1 : m < H255) : 0 ≤ m / 256 ^ 31 ∧ m / 256 ^ 31 < 128 := (kb_top h0 h1).2.2
set_option maxRecDepth 100000 in
set_option maxHeartbeats 2000000 in
theorem dec_A0 {m : Int} (h0 : 0 ≤ m) (h1 : m < H255) (hP : PP ≤ m) (w : World) : Calls Tryz.prog 4 #[keyV (m)] w fun e w' => e = .returned (.tuple #[.agg (catW [W4 0 0 0 0, W4 0 0 0 0]), .int .i64 20]) ∧ Below w.heap.size w w' := by
  have hrow : ((w.alloc (.cells (vec 32 (kb (m))) 28)).alloc (.cells #[.int .u64 0, .int .u64 0, .int .u64 0, .int .u64 0, .int .u64 0, .int .u64 0, .int .u64 0, .int .u64 0] 29)).rowIs w.heap.size 28 32 (kb (m)) := heap_row (heap_old _ _ _ _ (heap_alloc_new _ _))
  have hv : VarS ((w.alloc (.cells (vec 32 (kb (m))) 28)).alloc (.cells #[.int .u64 0, .int .u64 0, .int .u64 0, .int .u64 0, .int .u64 0, .int .u64 0, .int .u64 0, .int .u64 0] 29)) (w.heap.size + 1) 29 [W4 0 0 0 0, W4 0 0 0 0] := ⟨words2 isw0 isw0, by rw [← zero8]; exact heapAt _ _ _ (by simp)⟩
  have hc : ((w.alloc (.cells (vec 32 (kb (m))) 28)).alloc (.cells #[.int .u64 0, .int .u64 0, .int .u64 0, .int .u64 0, .int .u64 0, .int .u64 0, .int .u64 0, .int .u64 0] 29)).cell? ⟨w.heap.size, 31, none⟩ = some (.int .u8 (m / 256 ^ 31)) := by
    have := hrow.cell (i := 31) (by decide)
    rwa [(kb_top h0 h1).1] at this
  have hfz : ((w.alloc (.cells (vec 32 (kb (m))) 28)).alloc (.cells #[.int .u64 0, .int .u64 0, .int .u64 0, .int .u64 0, .int .u64 0, .int .u64 0, .int .u64 0, .int .u64 0] 29)).frozen? ⟨w.heap.size, 31, none⟩ = false := hrow.frozen _
  have htop := decTop h0 h1
  have hand := u8_and128 (m / 256 ^ 31) (by omega) (by omega)
  have hnot := u8_andNot128 (m / 256 ^ 31) (by omega) (by omega)
  rw [show 128 * ((m / 256 ^ 31) / 128) = 0 from by generalize m / 256 ^ 31 = q at *; omega] at hand
  rw [show (m / 256 ^ 31) % 128 = m / 256 ^ 31 from by generalize m / 256 ^ 31 = q at *; omega] at hnot
  have hvec := kb_vec (n := m) h0 h1 (Or.inl rfl)
  have V1 : Hid (((w.alloc (.cells (vec 32 (kb m)) 28)).alloc (.cells #[.int .u64 0, .int .u64 0, .int .u64 0, .int .u64 0, .int .u64 0, .int .u64 0, .int .u64 0, .int .u64 0] 29)).rowIs w.heap.size 28 32 (kb m) ∧ VarS ((w.alloc (.cells (vec 32 (kb m)) 28)).alloc (.cells #[.int .u64 0, .int .u64 0, .int .u64 0, .int .u64 0, .int .u64 0, .int .u64 0, .int .u64 0, .int .u64 0] 29)) (w.heap.size + 1) 29 [W4 0 0 0 0, W4 0 0 0 0] ∧ Below w.heap.size w ((w.alloc (.cells (vec 32 (kb m)) 28)).alloc (.cells #[.int .u64 0, .int .u64 0, .int .u64 0, .int .u64 0, .int .u64 0, .int .u64 0, .int .u64 0, .int .u64 0] 29))) :=
    ⟨heap_row (heap_old _ _ _ _ (heap_alloc_new _ _)), ⟨words2 isw0 isw0, by rw [← zero8]; exact heapAt _ _ _ (by simp)⟩, by go_grown⟩
  have HV : Hid _ := hvec
  have HM : Hid (0 ≤ m ∧ m < H255) := ⟨h0, h1⟩
  clear hrow hv htop hvec
  have hs1 := arr41 w.heap.size
  have HP : Hid (PP ≤ m) := hP
  clear hP h0 h1
  unfold keyV
  generalize hq : m / 256 ^ 31 = q at *
  clear hq
  go_enter Tryz.func4, Tryz.ntmps4
  go_wp2_with fail
  clear hc hfz hand hnot hs1
  rw [HV.out]
  clear HV
  generalize ((w.alloc (.cells (vec 32 (kb m)) 28)).alloc (.cells #[.int .u64 0, .int .u64 0, .int .u64 0, .int .u64 0, .int .u64 0, .int .u64 0, .int .u64 0, .int .u64 0] 29)) = w1 at V1 ⊢
  have hval : valB (dL m) = m := valB_dL m HM.out.1 (Int.lt_trans HM.out.2 (by decide))
  have hE : rdE PP (dL m) = 20 := by
    unfold rdE; rw [dL_len, if_pos rfl, hval, if_pos HP.out]
  have hV : rdV PP (dL m) = 0 := by
    unfold rdV; rw [dL_len, if_pos rfl, hval, if_pos HP.out]
  refine Calls.mono (read_any _ _ _ (isD_kb V1.out.1) (dL_byt m) (by rw [dL_len]; decide)) ?_
  rintro e w2 ⟨u, rfl, hu, b2⟩
  rw [hE]
  rw [hV] at hu
  have HU : Hid (IsW u 0) := hu
  have V2 : Hid (VarS w2 (w.heap.size + 1) 29 [W4 0 0 0 0, W4 0 0 0 0] ∧ Below w.heap.size w w2) := ⟨V1.out.2.1.kept b2, V1.out.2.2.trans (b2.mono V1.out.2.2.size)⟩
  clear hu V1 b2 hE hV hval
  have hn := VarW.new w2
  have V3 : Hid (VarW ((w2.alloc (.cells (C4 0 0 0 0) 24)).setRow w2.heap.size (cw u)) w2.heap.size u ∧ VarS ((w2.alloc (.cells (C4 0 0 0 0) 24)).setRow w2.heap.size (cw u)) (w.heap.size + 1) 29 [W4 0 0 0 0, W4 0 0 0 0] ∧ Below w.heap.size w ((w2.alloc (.cells (C4 0 0 0 0) 24)).setRow w2.heap.size (cw u))) :=
    ⟨hn.put HU.out, (V2.out.1.old _).other (Nat.ne_of_lt V2.out.1.lt) _, below_setRow (V2.out.2.alloc V2.out.2.size _) V2.out.2.size _⟩
  have hlt : w.heap.size + 1 < w2.heap.size := V2.out.1.lt
  clear V2
  have hst := V3.out.2.1.store (us := [W4 0 0 0 0, W4 0 0 0 0]) (words2 isw0 isw0) rfl (by kernel_rfl)
  go_wp2_with (first | (refine wpList_store_varW (u := u) rfl _ _ rfl w2.heap.size rfl rfl HU.out hn ?_) | (refine wpList_store_run rfl 29 _ _ rfl (w.heap.size + 1) (catW [W4 0 0 0 0, W4 0 0 0 0]) rfl (by kernel_rfl) hst ?_))
  have hl := load28 (V3.out.2.1.put (words2 isw0 isw0))
  exact bodyPost_ret (v := .tuple #[.agg (catW [W4 0 0 0 0, W4 0 0 0 0]), .int .i64 20]) (by simp [results, Tryz.results4, asAddr, Act.put, hl]) rfl ⟨rfl, below_setRow V3.out.2.2 (by omega) _⟩
set_option maxRecDepth 100000 in
set_option maxHeartbeats 2000000 in
theorem dec_A1 {m : Int} (h0 : 0 ≤ m) (h1 : m < H255) (hP : PP ≤ m) (w : World) : Calls Tryz.prog 4 #[keyV (m + H255)] w fun e w' => e = .returned (.tuple #[.agg (catW [W4 0 0 0 0, W4 0 0 0 0]), .int .i64 20]) ∧ Below w.heap.size w w' := by
  have hrow : ((w.alloc (.cells (vec 32 (kb (m + H255))) 28)).alloc (.cells #[.int .u64 0, .int .u64 0, .int .u64 0, .int .u64 0, .int .u64 0, .int .u64 0, .int .u64 0, .int .u64 0] 29)).rowIs w.heap.size 28 32 (kb (m + H255)) := heap_row (heap_old _ _ _ _ (heap_alloc_new _ _))
  have hv : VarS ((w.alloc (.cells (vec 32 (kb (m + H255))) 28)).alloc (.cells #[.int .u64 0, .int .u64 0, .int .u64 0, .int .u64 0, .int .u64 0, .int .u64 0, .int .u64 0, .int .u64 0] 29)) (w.heap.size + 1) 29 [W4 0 0 0 0, W4 0 0 0 0] := ⟨words2 isw0 isw0, by rw [← zero8]; exact heapAt _ _ _ (by simp)⟩
  have hc : ((w.alloc (.cells (vec 32 (kb (m + H255))) 28)).alloc (.cells #[.int .u64 0, .int .u64 0, .int .u64 0, .int .u64 0, .int .u64 0, .int .u64 0, .int .u64 0, .int .u64 0] 29)).cell? ⟨w.heap.size, 31, none⟩ = some (.int .u8 (m / 256 ^ 31 + 128)) := by
    have := hrow.cell (i := 31) (by decide)
    rwa [(kb_top h0 h1).2.1] at this
  have hfz : ((w.alloc (.cells (vec 32 (kb (m + H255))) 28)).alloc (.cells #[.int .u64 0, .int .u64 0, .int .u64 0, .int .u64 0, .int .u64 0, .int .u64 0, .int .u64 0, .int .u64 0] 29)).frozen? ⟨w.heap.size, 31, none⟩ = false := hrow.frozen _
  have htop := decTop h0 h1
  have hand := u8_and128 (m / 256 ^ 31 + 128) (by omega) (by omega)
  have hnot := u8_andNot128 (m / 256 ^ 31 + 128) (by omega) (by omega)
  rw [show 128 * ((m / 256 ^ 31 + 128) / 128) = 128 from by generalize m / 256 ^ 31 = q at *; omega] at hand
  rw [show (m / 256 ^ 31 + 128) % 128 = m / 256 ^ 31 from by generalize m / 256 ^ 31 = q at *; omega] at hnot
  have hvec := kb_vec (n := m + H255) h0 h1 (Or.inr rfl)
  have V1 : Hid (((w.alloc (.cells (vec 32 (kb m)) 28)).alloc (.cells #[.int .u64 0, .int .u64 0, .int .u64 0, .int .u64 0, .int .u64 0, .int .u64 0, .int .u64 0, .int .u64 0] 29)).rowIs w.heap.size 28 32 (kb m) ∧ VarS ((w.alloc (.cells (vec 32 (kb m)) 28)).alloc (.cells #[.int .u64 0, .int .u64 0, .int .u64 0, .int .u64 0, .int .u64 0, .int .u64 0, .int .u64 0, .int .u64 0] 29)) (w.heap.size + 1) 29 [W4 0 0 0 0, W4 0 0 0 0] ∧ Below w.heap.size w ((w.alloc (.cells (vec 32 (kb m)) 28)).alloc (.cells #[.int .u64 0, .int .u64 0, .int .u64 0, .int .u64 0, .int .u64 0, .int .u64 0, .int .u64 0, .int .u64 0] 29))) :=
    ⟨heap_row (heap_old _ _ _ _ (heap_alloc_new _ _)), ⟨words2 isw0 isw0, by rw [← zero8]; exact heapAt _ _ _ (by simp)⟩, by go_grown⟩
  have HV : Hid _ := hvec
  have HM : Hid (0 ≤ m ∧ m < H255) := ⟨h0, h1⟩
  clear hrow hv htop hvec
  have hs1 := arr41 w.heap.size
  have HP : Hid (PP ≤ m) := hP
  clear hP h0 h1
  unfold keyV
  generalize hq : m / 256 ^ 31 = q at *
  clear hq
  go_enter Tryz.func4, Tryz.ntmps4
  go_wp2_with fail
  clear hc hfz hand hnot hs1
  rw [HV.out]
  clear HV
  generalize ((w.alloc (.cells (vec 32 (kb m)) 28)).alloc (.cells #[.int .u64 0, .int .u64 0, .int .u64 0, .int .u64 0, .int .u64 0, .int .u64 0, .int .u64 0, .int .u64 0] 29)) = w1 at V1 ⊢
  have hval : valB (dL m) = m := valB_dL m HM.out.1 (Int.lt_trans HM.out.2 (by decide))
  have hE : rdE PP (dL m) = 20 := by
    unfold rdE; rw [dL_len, if_pos rfl, hval, if_pos HP.out]
  have hV : rdV PP (dL m) = 0 := by
    unfold rdV; rw [dL_len, if_pos rfl, hval, if_pos HP.out]
  refine Calls.mono (read_any _ _ _ (isD_kb V1.out.1) (dL_byt m) (by rw [dL_len]; decide)) ?_
  rintro e w2 ⟨u, rfl, hu, b2⟩
  rw [hE]
  rw [hV] at hu
  have HU : Hid (IsW u 0) := hu
  have V2 : Hid (VarS w2 (w.heap.size + 1) 29 [W4 0 0 0 0, W4 0 0 0 0] ∧ Below w.heap.size w w2) := ⟨V1.out.2.1.kept b2, V1.out.2.2.trans (b2.mono V1.out.2.2.size)⟩
  clear hu V1 b2 hE hV hval
  have hn := VarW.new w2
  have V3 : Hid (VarW ((w2.alloc (.cells (C4 0 0 0 0) 24)).setRow w2.heap.size (cw u)) w2.heap.size u ∧ VarS ((w2.alloc (.cells (C4 0 0 0 0) 24)).setRow w2.heap.size (cw u)) (w.heap.size + 1) 29 [W4 0 0 0 0, W4 0 0 0 0] ∧ Below w.heap.size w ((w2.alloc (.cells (C4 0 0 0 0) 24)).setRow w2.heap.size (cw u))) :=
    ⟨hn.put HU.out, (V2.out.1.old _).other (Nat.ne_of_lt V2.out.1.lt) _, below_setRow (V2.out.2.alloc V2.out.2.size _) V2.out.2.size _⟩
  have hlt : w.heap.size + 1 < w2.heap.size := V2.out.1.lt
  clear V2
  have hst := V3.out.2.1.store (us := [W4 0 0 0 0, W4 0 0 0 0]) (words2 isw0 isw0) rfl (by kernel_rfl)
  go_wp2_with (first | (refine wpList_store_varW (u := u) rfl _ _ rfl w2.heap.size rfl rfl HU.out hn ?_) | (refine wpList_store_run rfl 29 _ _ rfl (w.heap.size + 1) (catW [W4 0 0 0 0, W4 0 0 0 0]) rfl (by kernel_rfl) hst ?_))
  have hl := load28 (V3.out.2.1.put (words2 isw0 isw0))
  exact bodyPost_ret (v := .tuple #[.agg (catW [W4 0 0 0 0, W4 0 0 0 0]), .int .i64 20]) (by simp [results, Tryz.results4, asAddr, Act.put, hl]) rfl ⟨rfl, below_setRow V3.out.2.2 (by omega) _⟩
set_option maxRecDepth 100000 in
set_option maxHeartbeats 2000000 in
theorem dec_B0 {m : Int} (h0 : 0 ≤ m) (h1 : m < H255) (hP : m < PP) (hs : sqrtB ((sqx (toF m)).val : Int) = false) (w : World) : Calls Tryz.prog 4 #[keyV (m)] w fun e w' => e = .returned (.tuple #[.agg (catW [W4 0 0 0 0, W4 0 0 0 0]), .int .i64 20]) ∧ Below w.heap.size w w' := by
  have hrow : ((w.alloc (.cells (vec 32 (kb (m))) 28)).alloc (.cells #[.int .u64 0, .int .u64 0, .int .u64 0, .int .u64 0, .int .u64 0, .int .u64 0, .int .u64 0, .int .u64 0] 29)).rowIs w.heap.size 28 32 (kb (m)) := heap_row (heap_old _ _ _ _ (heap_alloc_new _ _))
  have hv : VarS ((w.alloc (.cells (vec 32 (kb (m))) 28)).alloc (.cells #[.int .u64 0, .int .u64 0, .int .u64 0, .int .u64 0, .int .u64 0, .int .u64 0, .int .u64 0, .int .u64 0] 29)) (w.heap.size + 1) 29 [W4 0 0 0 0, W4 0 0 0 0] := ⟨words2 isw0 isw0, by rw [← zero8]; exact heapAt _ _ _ (by simp)⟩
  have hc : ((w.alloc (.cells (vec 32 (kb (m))) 28)).alloc (.cells #[.int .u64 0, .int .u64 0, .int .u64 0, .int .u64 0, .int .u64 0, .int .u64 0, .int .u64 0, .int .u64 0] 29)).cell? ⟨w.heap.size, 31, none⟩ = some (.int .u8 (m / 256 ^ 31)) := by
    have := hrow.cell (i := 31) (by decide)
    rwa [(kb_top h0 h1).1] at this
  have hfz : ((w.alloc (.cells (vec 32 (kb (m))) 28)).alloc (.cells #[.int .u64 0, .int .u64 0, .int .u64 0, .int .u64 0, .int .u64 0, .int .u64 0, .int .u64 0, .int .u64 0] 29)).frozen? ⟨w.heap.size, 31, none⟩ = false := hrow.frozen _
  have htop := decTop h0 h1
  have hand := u8_and128 (m / 256 ^ 31) (by omega) (by omega)
  have hnot := u8_andNot128 (m / 256 ^ 31) (by omega) (by omega)
  rw [show 128 * ((m / 256 ^ 31) / 128) = 0 from by generalize m / 256 ^ 31 = q at *; omega] at hand
  rw [show (m / 256 ^ 31) % 128 = m / 256 ^ 31 from by generalize m / 256 ^ 31 = q at *; omega] at hnot
  have hvec := kb_vec (n := m) h0 h1 (Or.inl rfl)
  have V1 : Hid (((w.alloc (.cells (vec 32 (kb m)) 28)).alloc (.cells #[.int .u64 0, .int .u64 0, .int .u64 0, .int .u64 0, .int .u64 0, .int .u64 0, .int .u64 0, .int .u64 0] 29)).rowIs w.heap.size 28 32 (kb m) ∧ VarS ((w.alloc (.cells (vec 32 (kb m)) 28)).alloc (.cells #[.int .u64 0, .int .u64 0, .int .u64 0, .int .u64 0, .int .u64 0, .int .u64 0, .int .u64 0, .int .u64 0] 29)) (w.heap.size + 1) 29 [W4 0 0 0 0, W4 0 0 0 0] ∧ Below w.heap.size w ((w.alloc (.cells (vec 32 (kb m)) 28)).alloc (.cells #[.int .u64 0, .int .u64 0, .int .u64 0, .int .u64 0, .int .u64 0, .int .u64 0, .int .u64 0, .int .u64 0] 29))) :=
    ⟨heap_row (heap_old _ _ _ _ (heap_alloc_new _ _)), ⟨words2 isw0 isw0, by rw [← zero8]; exact heapAt _ _ _ (by simp)⟩, by go_grown⟩
  have HV : Hid _ := hvec
  have HM : Hid (0 ≤ m ∧ m < H255) := ⟨h0, h1⟩
  clear hrow hv htop hvec
  have hs1 := arr41 w.heap.size
  have HP : Hid (m < PP) := hP
  clear hP h0 h1
  have HS : Hid (sqrtB ((sqx (toF m)).val : Int) = false) := hs
  clear hs
  unfold keyV
  generalize hq : m / 256 ^ 31 = q at *
  clear hq
  go_enter Tryz.func4, Tryz.ntmps4
  go_wp2_with fail
  clear hc hfz hand hnot hs1
  rw [HV.out]
  clear HV
  generalize ((w.alloc (.cells (vec 32 (kb m)) 28)).alloc (.cells #[.int .u64 0, .int .u64 0, .int .u64 0, .int .u64 0, .int .u64 0, .int .u64 0, .int .u64 0, .int .u64 0] 29)) = w1 at V1 ⊢
  have hval : valB (dL m) = m := valB_dL m HM.out.1 (Int.lt_trans HM.out.2 (by decide))
  have hE : rdE PP (dL m) = 0 := by
    unfold rdE; rw [dL_len, if_pos rfl, hval, if_neg (Int.not_le.2 HP.out)]
  have hV : rdV PP (dL m) = m := by
    unfold rdV; rw [dL_len, if_pos rfl, hval, if_neg (Int.not_le.2 HP.out)]
  refine Calls.mono (read_any _ _ _ (isD_kb V1.out.1) (dL_byt m) (by rw [dL_len]; decide)) ?_
  rintro e w2 ⟨u, rfl, hu, b2⟩
  rw [hE]
  rw [hV] at hu
  have HU : Hid (IsW u m) := hu
  have V2 : Hid (VarS w2 (w.heap.size + 1) 29 [W4 0 0 0 0, W4 0 0 0 0] ∧ Below w.heap.size w w2) := ⟨V1.out.2.1.kept b2, V1.out.2.2.trans (b2.mono V1.out.2.2.size)⟩
  clear hu V1 b2 hE hV hval
  have hn := VarW.new w2
  have V3 : Hid (VarW ((w2.alloc (.cells (C4 0 0 0 0) 24)).setRow w2.heap.size (cw u)) w2.heap.size u ∧ VarS ((w2.alloc (.cells (C4 0 0 0 0) 24)).setRow w2.heap.size (cw u)) (w.heap.size + 1) 29 [W4 0 0 0 0, W4 0 0 0 0] ∧ Below w.heap.size w ((w2.alloc (.cells (C4 0 0 0 0) 24)).setRow w2.heap.size (cw u))) :=
    ⟨hn.put HU.out, (V2.out.1.old _).other (Nat.ne_of_lt V2.out.1.lt) _, below_setRow (V2.out.2.alloc V2.out.2.size _) V2.out.2.size _⟩
  have hlt : w.heap.size + 1 < w2.heap.size := V2.out.1.lt
  clear V2
  go_wp2_with (first | (refine wpList_store_varW (u := u) rfl _ _ rfl w2.heap.size rfl rfl HU.out hn ?_) | (refine wpList_load_varW rfl _ rfl w2.heap.size rfl V3.out.1 ?_))
  clear hn
  generalize ((w2.alloc (.cells (C4 0 0 0 0) 24)).setRow w2.heap.size (cw u)) = w3 at V3 ⊢
  refine Calls.mono (f_squareOfX (isF_lt HU.out HP.out) _) ?_
  rintro e w4 ⟨v4, rfl, h4, b4⟩
  have H4 : Hid (IsF v4 (sqx (toF m))) := h4
  clear h4
  go_wp2_with fail
  refine Calls.mono (g_sqrt H4.out _) ?_
  rintro e w5 ⟨v5, rfl, h5, b5⟩
  rw [HS.out]
  have H5 : Hid (IsW v5 (rootX m)) := h5
  have V5 : Hid (VarW w5 w2.heap.size u ∧ VarS w5 (w.heap.size + 1) 29 [W4 0 0 0 0, W4 0 0 0 0] ∧ Below w.heap.size w w5) := ⟨(V3.out.1.kept b4).kept b5, (V3.out.2.1.kept b4).kept b5, (V3.out.2.2.trans (b4.mono V3.out.2.2.size)).trans (b5.mono (V3.out.2.2.trans (b4.mono V3.out.2.2.size)).size)⟩
  have hlt5 : w2.heap.size < w5.heap.size := V5.out.1.lt
  clear h5 V3 b4 b5 H4
  have hn := VarW.new w5
  have V6 : Hid (VarW ((w5.alloc (.cells (C4 0 0 0 0) 24)).setRow w5.heap.size (cw v5)) w5.heap.size v5 ∧ VarW ((w5.alloc (.cells (C4 0 0 0 0) 24)).setRow w5.heap.size (cw v5)) w2.heap.size u ∧ VarS ((w5.alloc (.cells (C4 0 0 0 0) 24)).setRow w5.heap.size (cw v5)) (w.heap.size + 1) 29 [W4 0 0 0 0, W4 0 0 0 0] ∧ Below w.heap.size w ((w5.alloc (.cells (C4 0 0 0 0) 24)).setRow w5.heap.size (cw v5))) :=
    ⟨hn.put H5.out, (V5.out.1.old _).other (Nat.ne_of_lt V5.out.1.lt) _, (V5.out.2.1.old _).other (Nat.ne_of_lt V5.out.2.1.lt) _, below_setRow (V5.out.2.2.alloc V5.out.2.2.size _) V5.out.2.2.size _⟩
  clear V5
  have hst := V6.out.2.2.1.store (us := [W4 0 0 0 0, W4 0 0 0 0]) (words2 isw0 isw0) rfl (by kernel_rfl)
  go_wp2_with (first | (refine wpList_store_varW (u := v5) rfl _ _ rfl w5.heap.size rfl rfl H5.out hn ?_) | (refine wpList_store_run rfl 29 _ _ rfl (w.heap.size + 1) (catW [W4 0 0 0 0, W4 0 0 0 0]) rfl (by kernel_rfl) hst ?_))
  have hl := load28 (V6.out.2.2.1.put (words2 isw0 isw0))
  exact bodyPost_ret (v := .tuple #[.agg (catW [W4 0 0 0 0, W4 0 0 0 0]), .int .i64 20]) (by simp [results, Tryz.results4, asAddr, Act.put, hl]) rfl ⟨rfl, below_setRow V6.out.2.2.2 (by omega) _⟩
set_option maxRecDepth 100000 in
set_option maxHeartbeats 2000000 in
theorem dec_B1 {m : Int} (h0 : 0 ≤ m) (h1 : m < H255) (hP : m < PP) (hs : sqrtB ((sqx (toF m)).val : Int) = false) (w : World) : Calls Tryz.prog 4 #[keyV (m + H255)] w fun e w' => e = .returned (.tuple #[.agg (catW [W4 0 0 0 0, W4 0 0 0 0]), .int .i64 20]) ∧ Below w.heap.size w w' := by
  have hrow : ((w.alloc (.cells (vec 32 (kb (m + H255))) 28)).alloc (.cells #[.int .u64 0, .int .u64 0, .int .u64 0, .int .u64 0, .int .u64 0, .int .u64 0, .int .u64 0, .int .u64 0] 29)).rowIs w.heap.size 28 32 (kb (m + H255)) := heap_row (heap_old _ _ _ _ (heap_alloc_new _ _))
  have hv : VarS ((w.alloc (.cells (vec 32 (kb (m + H255))) 28)).alloc (.cells #[.int .u64 0, .int .u64 0, .int .u64 0, .int .u64 0, .int .u64 0, .int .u64 0, .int .u64 0, .int .u64 0] 29)) (w.heap.size + 1) 29 [W4 0 0 0 0, W4 0 0 0 0] := ⟨words2 isw0 isw0, by rw [← zero8]; exact heapAt _ _ _ (by simp)⟩
  have hc : ((w.alloc (.cells (vec 32 (kb (m + H255))) 28)).alloc (.cells #[.int .u64 0, .int .u64 0, .int .u64 0, .int .u64 0, .int .u64 0, .int .u64 0, .int .u64 0, .int .u64 0] 29)).cell? ⟨w.heap.size, 31, none⟩ = some (.int .u8 (m / 256 ^ 31 + 128)) := by
    have := hrow.cell (i := 31) (by decide)
    rwa [(kb_top h0 h1).2.1] at this
  have hfz : ((w.alloc (.cells (vec 32 (kb (m + H255))) 28)).alloc (.cells #[.int .u64 0, .int .u64 0, .int .u64 0, .int .u64 0, .int .u64 0, .int .u64 0, .int .u64 0, .int .u64 0] 29)).frozen? ⟨w.heap.size, 31, none⟩ = false := hrow.frozen _
  have htop := decTop h0 h1
  have hand := u8_and128 (m / 256 ^ 31 + 128) (by omega) (by omega)
  have hnot := u8_andNot128 (m / 256 ^ 31 + 128) (by omega) (by omega)
  rw [show 128 * ((m / 256 ^ 31 + 128) / 128) = 128 from by generalize m / 256 ^ 31 = q at *; omega] at hand
  rw [show (m / 256 ^ 31 + 128) % 128 = m / 256 ^ 31 from by generalize m / 256 ^ 31 = q at *; omega] at hnot
  have hvec := kb_vec (n := m + H255) h0 h1 (Or.inr rfl)
  have V1 : Hid (((w.alloc (.cells (vec 32 (kb m)) 28)).alloc (.cells #[.int .u64 0, .int .u64 0, .int .u64 0, .int .u64 0, .int .u64 0, .int .u64 0, .int .u64 0, .int .u64 0] 29)).rowIs w.heap.size 28 32 (kb m) ∧ VarS ((w.alloc (.cells (vec 32 (kb m)) 28)).alloc (.cells #[.int .u64 0, .int .u64 0, .int .u64 0, .int .u64 0, .int .u64 0, .int .u64 0, .int .u64 0, .int .u64 0] 29)) (w.heap.size + 1) 29 [W4 0 0 0 0, W4 0 0 0 0] ∧ Below w.heap.size w ((w.alloc (.cells (vec 32 (kb m)) 28)).alloc (.cells #[.int .u64 0, .int .u64 0, .int .u64 0, .int .u64 0, .int .u64 0, .int .u64 0, .int .u64 0, .int .u64 0] 29))) :=
    ⟨heap_row (heap_old _ _ _ _ (heap_alloc_new _ _)), ⟨words2 isw0 isw0, by rw [← zero8]; exact heapAt _ _ _ (by simp)⟩, by go_grown⟩
  have HV : Hid _ := hvec
  have HM : Hid (0 ≤ m ∧ m < H255) := ⟨h0, h1⟩
  clear hrow hv htop hvec
  have hs1 := arr41 w.heap.size
  have HP : Hid (m < PP) := hP
  clear hP h0 h1
  have HS : Hid (sqrtB ((sqx (toF m)).val : Int) = false) := hs
  clear hs
  unfold keyV
  generalize hq : m / 256 ^ 31 = q at *
  clear hq
  go_enter Tryz.func4, Tryz.ntmps4
  go_wp2_with fail
  clear hc hfz hand hnot hs1
  rw [HV.out]
  clear HV
  generalize ((w.alloc (.cells (vec 32 (kb m)) 28)).alloc (.cells #[.int .u64 0, .int .u64 0, .int .u64 0, .int .u64 0, .int .u64 0, .int .u64 0, .int .u64 0, .int .u64 0] 29)) = w1 at V1 ⊢
  have hval : valB (dL m) = m := valB_dL m HM.out.1 (Int.lt_trans HM.out.2 (by decide))
  have hE : rdE PP (dL m) = 0 := by
    unfold rdE; rw [dL_len, if_pos rfl, hval, if_neg (Int.not_le.2 HP.out)]
  have hV : rdV PP (dL m) = m := by
    unfold rdV; rw [dL_len, if_pos rfl, hval, if_neg (Int.not_le.2 HP.out)]
  refine Calls.mono (read_any _ _ _ (isD_kb V1.out.1) (dL_byt m) (by rw [dL_len]; decide)) ?_
  rintro e w2 ⟨u, rfl, hu, b2⟩
  rw [hE]
  rw [hV] at hu
  have HU : Hid (IsW u m) := hu
  have V2 : Hid (VarS w2 (w.heap.size + 1) 29 [W4 0 0 0 0, W4 0 0 0 0] ∧ Below w.heap.size w w2) := ⟨V1.out.2.1.kept b2, V1.out.2.2.trans (b2.mono V1.out.2.2.size)⟩
  clear hu V1 b2 hE hV hval
  have hn := VarW.new w2
  have V3 : Hid (VarW ((w2.alloc (.cells (C4 0 0 0 0) 24)).setRow w2.heap.size (cw u)) w2.heap.size u ∧ VarS ((w2.alloc (.cells (C4 0 0 0 0) 24)).setRow w2.heap.size (cw u)) (w.heap.size + 1) 29 [W4 0 0 0 0, W4 0 0 0 0] ∧ Below w.heap.size w ((w2.alloc (.cells (C4 0 0 0 0) 24)).setRow w2.heap.size (cw u))) :=
    ⟨hn.put HU.out, (V2.out.1.old _).other (Nat.ne_of_lt V2.out.1.lt) _, below_setRow (V2.out.2.alloc V2.out.2.size _) V2.out.2.size _⟩
  have hlt : w.heap.size + 1 < w2.heap.size := V2.out.1.lt
  clear V2
  go_wp2_with (first | (refine wpList_store_varW (u := u) rfl _ _ rfl w2.heap.size rfl rfl HU.out hn ?_) | (refine wpList_load_varW rfl _ rfl w2.heap.size rfl V3.out.1 ?_))
  clear hn
  generalize ((w2.alloc (.cells (C4 0 0 0 0) 24)).setRow w2.heap.size (cw u)) = w3 at V3 ⊢
  refine Calls.mono (f_squareOfX (isF_lt HU.out HP.out) _) ?_
  rintro e w4 ⟨v4, rfl, h4, b4⟩
  have H4 : Hid (IsF v4 (sqx (toF m))) := h4
  clear h4
  go_wp2_with fail
  refine Calls.mono (g_sqrt H4.out _) ?_
  rintro e w5 ⟨v5, rfl, h5, b5⟩
  rw [HS.out]
  have H5 : Hid (IsW v5 (rootX m)) := h5
  have V5 : Hid (VarW w5 w2.heap.size u ∧ VarS w5 (w.heap.size + 1) 29 [W4 0 0 0 0, W4 0 0 0 0] ∧ Below w.heap.size w w5) := ⟨(V3.out.1.kept b4).kept b5, (V3.out.2.1.kept b4).kept b5, (V3.out.2.2.trans (b4.mono V3.out.2.2.size)).trans (b5.mono (V3.out.2.2.trans (b4.mono V3.out.2.2.size)).size)⟩
  have hlt5 : w2.heap.size < w5.heap.size := V5.out.1.lt
  clear h5 V3 b4 b5 H4
  have hn := VarW.new w5
  have V6 : Hid (VarW ((w5.alloc (.cells (C4 0 0 0 0) 24)).setRow w5.heap.size (cw v5)) w5.heap.size v5 ∧ VarW ((w5.alloc (.cells (C4 0 0 0 0) 24)).setRow w5.heap.size (cw v5)) w2.heap.size u ∧ VarS ((w5.alloc (.cells (C4 0 0 0 0) 24)).setRow w5.heap.size (cw v5)) (w.heap.size + 1) 29 [W4 0 0 0 0, W4 0 0 0 0] ∧ Below w.heap.size w ((w5.alloc (.cells (C4 0 0 0 0) 24)).setRow w5.heap.size (cw v5))) :=
    ⟨hn.put H5.out, (V5.out.1.old _).other (Nat.ne_of_lt V5.out.1.lt) _, (V5.out.2.1.old _).other (Nat.ne_of_lt V5.out.2.1.lt) _, below_setRow (V5.out.2.2.alloc V5.out.2.2.size _) V5.out.2.2.size _⟩
  clear V5
  have hst := V6.out.2.2.1.store (us := [W4 0 0 0 0, W4 0 0 0 0]) (words2 isw0 isw0) rfl (by kernel_rfl)
  go_wp2_with (first | (refine wpList_store_varW (u := v5) rfl _ _ rfl w5.heap.size rfl rfl H5.out hn ?_) | (refine wpList_store_run rfl 29 _ _ rfl (w.heap.size + 1) (catW [W4 0 0 0 0, W4 0 0 0 0]) rfl (by kernel_rfl) hst ?_))
  have hl := load28 (V6.out.2.2.1.put (words2 isw0 isw0))
  exact bodyPost_ret (v := .tuple #[.agg (catW [W4 0 0 0 0, W4 0 0 0 0]), .int .i64 20]) (by simp [results, Tryz.results4, asAddr, Act.put, hl]) rfl ⟨rfl, below_setRow V6.out.2.2.2 (by omega) _⟩
set_option maxRecDepth 100000 in
set_option maxHeartbeats 2000000 in
theorem dec_C1 {m : Int} (h0 : 0 ≤ m) (h1 : m < H255) (hP : m < PP) (hs : sqrtB ((sqx (toF m)).val : Int) = true) (hr : rootX m = 0) (w : World) : Calls Tryz.prog 4 #[keyV (m + H255)] w fun e w' => e = .returned (.tuple #[.agg (catW [W4 0 0 0 0, W4 0 0 0 0]), .int .i64 20]) ∧ Below w.heap.size w w' := by
  have hrow : ((w.alloc (.cells (vec 32 (kb (m + H255))) 28)).alloc (.cells #[.int .u64 0, .int .u64 0, .int .u64 0, .int .u64 0, .int .u64 0, .int .u64 0, .int .u64 0, .int .u64 0] 29)).rowIs w.heap.size 28 32 (kb (m + H255)) := heap_row (heap_old _ _ _ _ (heap_alloc_new _ _))
  have hv : VarS ((w.alloc (.cells (vec 32 (kb (m + H255))) 28)).alloc (.cells #[.int .u64 0, .int .u64 0, .int .u64 0, .int .u64 0, .int .u64 0, .int .u64 0, .int .u64 0, .int .u64 0] 29)) (w.heap.size + 1) 29 [W4 0 0 0 0, W4 0 0 0 0] := ⟨words2 isw0 isw0, by rw [← zero8]; exact heapAt _ _ _ (by simp)⟩
  have hc : ((w.alloc (.cells (vec 32 (kb (m + H255))) 28)).alloc (.cells #[.int .u64 0, .int .u64 0, .int .u64 0, .int .u64 0, .int .u64 0, .int .u64 0, .int .u64 0, .int .u64 0] 29)).cell? ⟨w.heap.size, 31, none⟩ = some (.int .u8 (m / 256 ^ 31 + 128)) := by
    have := hrow.cell (i := 31) (by decide)
    rwa [(kb_top h0 h1).2.1] at this
  have hfz : ((w.alloc (.cells (vec 32 (kb (m + H255))) 28)).alloc (.cells #[.int .u64 0, .int .u64 0, .int .u64 0, .int .u64 0, .int .u64 0, .int .u64 0, .int .u64 0, .int .u64 0] 29)).frozen? ⟨w.heap.size, 31, none⟩ = false := hrow.frozen _
  have htop := decTop h0 h1
  have hand := u8_and128 (m / 256 ^ 31 + 128) (by omega) (by omega)
  have hnot := u8_andNot128 (m / 256 ^ 31 + 128) (by omega) (by omega)
  rw [show 128 * ((m / 256 ^ 31 + 128) / 128) = 128 from by generalize m / 256 ^ 31 = q at *; omega] at hand
  rw [show (m / 256 ^ 31 + 128) % 128 = m / 256 ^ 31 from by generalize m / 256 ^ 31 = q at *; omega] at hnot
  have hvec := kb_vec (n := m + H255) h0 h1 (Or.inr rfl)
  have V1 : Hid (((w.alloc (.cells (vec 32 (kb m)) 28)).alloc (.cells #[.int .u64 0, .int .u64 0, .int .u64 0, .int .u64 0, .int .u64 0, .int .u64 0, .int .u64 0, .int .u64 0] 29)).rowIs w.heap.size 28 32 (kb m) ∧ VarS ((w.alloc (.cells (vec 32 (kb m)) 28)).alloc (.cells #[.int .u64 0, .int .u64 0, .int .u64 0, .int .u64 0, .int .u64 0, .int .u64 0, .int .u64 0, .int .u64 0] 29)) (w.heap.size + 1) 29 [W4 0 0 0 0, W4 0 0 0 0] ∧ Below w.heap.size w ((w.alloc (.cells (vec 32 (kb m)) 28)).alloc (.cells #[.int .u64 0, .int .u64 0, .int .u64 0, .int .u64 0, .int .u64 0, .int .u64 0, .int .u64 0, .int .u64 0] 29))) :=
    ⟨heap_row (heap_old _ _ _ _ (heap_alloc_new _ _)), ⟨words2 isw0 isw0, by rw [← zero8]; exact heapAt _ _ _ (by simp)⟩, by go_grown⟩
  have HV : Hid _ := hvec
  have HM : Hid (0 ≤ m ∧ m < H255) := ⟨h0, h1⟩
  clear hrow hv htop hvec
  have hs1 := arr41 w.heap.size
  have HP : Hid (m < PP) := hP
  clear hP h0 h1
  have HS : Hid (sqrtB ((sqx (toF m)).val : Int) = true) := hs
  clear hs
  have HR : Hid (rootX m = 0) := hr
  clear hr
  unfold keyV
  generalize hq : m / 256 ^ 31 = q at *
  clear hq
  go_enter Tryz.func4, Tryz.ntmps4
  go_wp2_with fail
  clear hc hfz hand hnot hs1
  rw [HV.out]
  clear HV
  generalize ((w.alloc (.cells (vec 32 (kb m)) 28)).alloc (.cells #[.int .u64 0, .int .u64 0, .int .u64 0, .int .u64 0, .int .u64 0, .int .u64 0, .int .u64 0, .int .u64 0] 29)) = w1 at V1 ⊢
  have hval : valB (dL m) = m := valB_dL m HM.out.1 (Int.lt_trans HM.out.2 (by decide))
  have hE : rdE PP (dL m) = 0 := by
    unfold rdE; rw [dL_len, if_pos rfl, hval, if_neg (Int.not_le.2 HP.out)]
  have hV : rdV PP (dL m) = m := by
    unfold rdV; rw [dL_len, if_pos rfl, hval, if_neg (Int.not_le.2 HP.out)]
  refine Calls.mono (read_any _ _ _ (isD_kb V1.out.1) (dL_byt m) (by rw [dL_len]; decide)) ?_
  rintro e w2 ⟨u, rfl, hu, b2⟩
  rw [hE]
  rw [hV] at hu
  have HU : Hid (IsW u m) := hu
  have V2 : Hid (VarS w2 (w.heap.size + 1) 29 [W4 0 0 0 0, W4 0 0 0 0] ∧ Below w.heap.size w w2) := ⟨V1.out.2.1.kept b2, V1.out.2.2.trans (b2.mono V1.out.2.2.size)⟩
  clear hu V1 b2 hE hV hval
  have hn := VarW.new w2
  have V3 : Hid (VarW ((w2.alloc (.cells (C4 0 0 0 0) 24)).setRow w2.heap.size (cw u)) w2.heap.size u ∧ VarS ((w2.alloc (.cells (C4 0 0 0 0) 24)).setRow w2.heap.size (cw u)) (w.heap.size + 1) 29 [W4 0 0 0 0, W4 0 0 0 0] ∧ Below w.heap.size w ((w2.alloc (.cells (C4 0 0 0 0) 24)).setRow w2.heap.size (cw u))) :=
    ⟨hn.put HU.out, (V2.out.1.old _).other (Nat.ne_of_lt V2.out.1.lt) _, below_setRow (V2.out.2.alloc V2.out.2.size _) V2.out.2.size _⟩
  have hlt : w.heap.size + 1 < w2.heap.size := V2.out.1.lt
  clear V2
  go_wp2_with (first | (refine wpList_store_varW (u := u) rfl _ _ rfl w2.heap.size rfl rfl HU.out hn ?_) | (refine wpList_load_varW rfl _ rfl w2.heap.size rfl V3.out.1 ?_))
  clear hn
  generalize ((w2.alloc (.cells (C4 0 0 0 0) 24)).setRow w2.heap.size (cw u)) = w3 at V3 ⊢
  refine Calls.mono (f_squareOfX (isF_lt HU.out HP.out) _) ?_
  rintro e w4 ⟨v4, rfl, h4, b4⟩
  have H4 : Hid (IsF v4 (sqx (toF m))) := h4
  clear h4
  go_wp2_with fail
  refine Calls.mono (g_sqrt H4.out _) ?_
  rintro e w5 ⟨v5, rfl, h5, b5⟩
  rw [HS.out]
  have H5 : Hid (IsW v5 (rootX m)) := h5
  have V5 : Hid (VarW w5 w2.heap.size u ∧ VarS w5 (w.heap.size + 1) 29 [W4 0 0 0 0, W4 0 0 0 0] ∧ Below w.heap.size w w5) := ⟨(V3.out.1.kept b4).kept b5, (V3.out.2.1.kept b4).kept b5, (V3.out.2.2.trans (b4.mono V3.out.2.2.size)).trans (b5.mono (V3.out.2.2.trans (b4.mono V3.out.2.2.size)).size)⟩
  have hlt5 : w2.heap.size < w5.heap.size := V5.out.1.lt
  clear h5 V3 b4 b5 H4
  have hn := VarW.new w5
  have V6 : Hid (VarW ((w5.alloc (.cells (C4 0 0 0 0) 24)).setRow w5.heap.size (cw v5)) w5.heap.size v5 ∧ VarW ((w5.alloc (.cells (C4 0 0 0 0) 24)).setRow w5.heap.size (cw v5)) w2.heap.size u ∧ VarS ((w5.alloc (.cells (C4 0 0 0 0) 24)).setRow w5.heap.size (cw v5)) (w.heap.size + 1) 29 [W4 0 0 0 0, W4 0 0 0 0] ∧ Below w.heap.size w ((w5.alloc (.cells (C4 0 0 0 0) 24)).setRow w5.heap.size (cw v5))) :=
    ⟨hn.put H5.out, (V5.out.1.old _).other (Nat.ne_of_lt V5.out.1.lt) _, (V5.out.2.1.old _).other (Nat.ne_of_lt V5.out.2.1.lt) _, below_setRow (V5.out.2.2.alloc V5.out.2.2.size _) V5.out.2.2.size _⟩
  clear V5
  go_wp2_with (first | (refine wpList_store_varW (u := v5) rfl _ _ rfl w5.heap.size rfl rfl H5.out hn ?_) | (refine wpList_load_want (by rfl) 24 _ rfl _ rfl V6.out.1.load ?_))
  clear hn
  generalize ((w5.alloc (.cells (C4 0 0 0 0) 24)).setRow w5.heap.size (cw v5)) = w6 at V6 ⊢
  refine Calls.mono (g_zero H5.out _) ?_
  rintro e w7 ⟨rfl, b7⟩
  rw [decide_eq_true HR.out]
  have V7 : Hid (VarW w7 w5.heap.size v5 ∧ VarW w7 w2.heap.size u ∧ VarS w7 (w.heap.size + 1) 29 [W4 0 0 0 0, W4 0 0 0 0] ∧ Below w.heap.size w w7) := ⟨V6.out.1.kept b7, V6.out.2.1.kept b7, V6.out.2.2.1.kept b7, V6.out.2.2.2.trans (b7.mono V6.out.2.2.2.size)⟩
  clear V6 b7
  have hst := V7.out.2.2.1.store (us := [W4 0 0 0 0, W4 0 0 0 0]) (words2 isw0 isw0) rfl (by kernel_rfl)
  go_wp2_with (first | (refine wpList_store_run rfl 29 _ _ rfl (w.heap.size + 1) (catW [W4 0 0 0 0, W4 0 0 0 0]) rfl (by kernel_rfl) hst ?_))
  have hl := load28 (V7.out.2.2.1.put (words2 isw0 isw0))
  exact bodyPost_ret (v := .tuple #[.agg (catW [W4 0 0 0 0, W4 0 0 0 0]), .int .i64 20]) (by simp [results, Tryz.results4, asAddr, Act.put, hl]) rfl ⟨rfl, below_setRow V7.out.2.2.2 (by omega) _⟩
set_option maxRecDepth 100000 in
set_option maxHeartbeats 2000000 in
theorem dec_D1 {m : Int} (h0 : 0 ≤ m) (h1 : m < H255) (hP : m < PP) (hs : sqrtB ((sqx (toF m)).val : Int) = true) (hr : ¬ rootX m = 0) (w : World) : Calls Tryz.prog 4 #[keyV (m + H255)] w fun e w' => ∃ v0 v1, e = .returned (.tuple #[.agg (catW [v0, v1]), .int .i64 0]) ∧ (IsF v0 (0 - toF (rootX m)) ∧ IsF v1 (toF m)) ∧ Below w.heap.size w w' := by
  have hrow : ((w.alloc (.cells (vec 32 (kb (m + H255))) 28)).alloc (.cells #[.int .u64 0, .int .u64 0, .int .u64 0, .int .u64 0, .int .u64 0, .int .u64 0, .int .u64 0, .int .u64 0] 29)).rowIs w.heap.size 28 32 (kb (m + H255)) := heap_row (heap_old _ _ _ _ (heap_alloc_new _ _))
  have hv : VarS ((w.alloc (.cells (vec 32 (kb (m + H255))) 28)).alloc (.cells #[.int .u64 0, .int .u64 0, .int .u64 0, .int .u64 0, .int .u64 0, .int .u64 0, .int .u64 0, .int .u64 0] 29)) (w.heap.size + 1) 29 [W4 0 0 0 0, W4 0 0 0 0] := ⟨words2 isw0 isw0, by rw [← zero8]; exact heapAt _ _ _ (by simp)⟩
  have hc : ((w.alloc (.cells (vec 32 (kb (m + H255))) 28)).alloc (.cells #[.int .u64 0, .int .u64 0, .int .u64 0, .int .u64 0, .int .u64 0, .int .u64 0, .int .u64 0, .int .u64 0] 29)).cell? ⟨w.heap.size, 31, none⟩ = some (.int .u8 (m / 256 ^ 31 + 128)) := by
    have := hrow.cell (i := 31) (by decide)
    rwa [(kb_top h0 h1).2.1] at this
  have hfz : ((w.alloc (.cells (vec 32 (kb (m + H255))) 28)).alloc (.cells #[.int .u64 0, .int .u64 0, .int .u64 0, .int .u64 0, .int .u64 0, .int .u64 0, .int .u64 0, .int .u64 0] 29)).frozen? ⟨w.heap.size, 31, none⟩ = false := hrow.frozen _
  have htop := decTop h0 h1
  have hand := u8_and128 (m / 256 ^ 31 + 128) (by omega) (by omega)
  have hnot := u8_andNot128 (m / 256 ^ 31 + 128) (by omega) (by omega)
  rw [show 128 * ((m / 256 ^ 31 + 128) / 128) = 128 from by generalize m / 256 ^ 31 = q at *; omega] at hand
  rw [show (m / 256 ^ 31 + 128) % 128 = m / 256 ^ 31 from by generalize m / 256 ^ 31 = q at *; omega] at hnot
  have hvec := kb_vec (n := m + H255) h0 h1 (Or.inr rfl)
  have V1 : Hid (((w.alloc (.cells (vec 32 (kb m)) 28)).alloc (.cells #[.int .u64 0, .int .u64 0, .int .u64 0, .int .u64 0, .int .u64 0, .int .u64 0, .int .u64 0, .int .u64 0] 29)).rowIs w.heap.size 28 32 (kb m) ∧ VarS ((w.alloc (.cells (vec 32 (kb m)) 28)).alloc (.cells #[.int .u64 0, .int .u64 0, .int .u64 0, .int .u64 0, .int .u64 0, .int .u64 0, .int .u64 0, .int .u64 0] 29)) (w.heap.size + 1) 29 [W4 0 0 0 0, W4 0 0 0 0] ∧ Below w.heap.size w ((w.alloc (.cells (vec 32 (kb m)) 28)).alloc (.cells #[.int .u64 0, .int .u64 0, .int .u64 0, .int .u64 0, .int .u64 0, .int .u64 0, .int .u64 0, .int .u64 0] 29))) :=
    ⟨heap_row (heap_old _ _ _ _ (heap_alloc_new _ _)), ⟨words2 isw0 isw0, by rw [← zero8]; exact heapAt _ _ _ (by simp)⟩, by go_grown⟩
  have HV : Hid _ := hvec
  have HM : Hid (0 ≤ m ∧ m < H255) := ⟨h0, h1⟩
  clear hrow hv htop hvec
  have hs1 := arr41 w.heap.size
  have HP : Hid (m < PP) := hP
  clear hP h0 h1
  have HS : Hid (sqrtB ((sqx (toF m)).val : Int) = true) := hs
  clear hs
  have HR : Hid (¬ rootX m = 0) := hr
  clear hr
  unfold keyV
  generalize hq : m / 256 ^ 31 = q at *
  clear hq
  go_enter Tryz.func4, Tryz.ntmps4
  go_wp2_with fail
  clear hc hfz hand hnot hs1
  rw [HV.out]
  clear HV
  generalize ((w.alloc (.cells (vec 32 (kb m)) 28)).alloc (.cells #[.int .u64 0, .int .u64 0, .int .u64 0, .int .u64 0, .int .u64 0, .int .u64 0, .int .u64 0, .int .u64 0] 29)) = w1 at V1 ⊢
  have hval : valB (dL m) = m := valB_dL m HM.out.1 (Int.lt_trans HM.out.2 (by decide))
  have hE : rdE PP (dL m) = 0 := by
    unfold rdE; rw [dL_len, if_pos rfl, hval, if_neg (Int.not_le.2 HP.out)]
  have hV : rdV PP (dL m) = m := by
    unfold rdV; rw [dL_len, if_pos rfl, hval, if_neg (Int.not_le.2 HP.out)]
  refine Calls.mono (read_any _ _ _ (isD_kb V1.out.1) (dL_byt m) (by rw [dL_len]; decide)) ?_
  rintro e w2 ⟨u, rfl, hu, b2⟩
  rw [hE]
  rw [hV] at hu
  have HU : Hid (IsW u m) := hu
  have V2 : Hid (VarS w2 (w.heap.size + 1) 29 [W4 0 0 0 0, W4 0 0 0 0] ∧ Below w.heap.size w w2) := ⟨V1.out.2.1.kept b2, V1.out.2.2.trans (b2.mono V1.out.2.2.size)⟩
  clear hu V1 b2 hE hV hval
  have hn := VarW.new w2
  have V3 : Hid (VarW ((w2.alloc (.cells (C4 0 0 0 0) 24)).setRow w2.heap.size (cw u)) w2.heap.size u ∧ VarS ((w2.alloc (.cells (C4 0 0 0 0) 24)).setRow w2.heap.size (cw u)) (w.heap.size + 1) 29 [W4 0 0 0 0, W4 0 0 0 0] ∧ Below w.heap.size w ((w2.alloc (.cells (C4 0 0 0 0) 24)).setRow w2.heap.size (cw u))) :=
    ⟨hn.put HU.out, (V2.out.1.old _).other (Nat.ne_of_lt V2.out.1.lt) _, below_setRow (V2.out.2.alloc V2.out.2.size _) V2.out.2.size _⟩
  have hlt : w.heap.size + 1 < w2.heap.size := V2.out.1.lt
  clear V2
  go_wp2_with (first | (refine wpList_store_varW (u := u) rfl _ _ rfl w2.heap.size rfl rfl HU.out hn ?_) | (refine wpList_load_varW rfl _ rfl w2.heap.size rfl V3.out.1 ?_))
  clear hn
  generalize ((w2.alloc (.cells (C4 0 0 0 0) 24)).setRow w2.heap.size (cw u)) = w3 at V3 ⊢
  refine Calls.mono (f_squareOfX (isF_lt HU.out HP.out) _) ?_
  rintro e w4 ⟨v4, rfl, h4, b4⟩
  have H4 : Hid (IsF v4 (sqx (toF m))) := h4
  clear h4
  go_wp2_with fail
  refine Calls.mono (g_sqrt H4.out _) ?_
  rintro e w5 ⟨v5, rfl, h5, b5⟩
  rw [HS.out]
  have H5 : Hid (IsW v5 (rootX m)) := h5
  have V5 : Hid (VarW w5 w2.heap.size u ∧ VarS w5 (w.heap.size + 1) 29 [W4 0 0 0 0, W4 0 0 0 0] ∧ Below w.heap.size w w5) := ⟨(V3.out.1.kept b4).kept b5, (V3.out.2.1.kept b4).kept b5, (V3.out.2.2.trans (b4.mono V3.out.2.2.size)).trans (b5.mono (V3.out.2.2.trans (b4.mono V3.out.2.2.size)).size)⟩
  have hlt5 : w2.heap.size < w5.heap.size := V5.out.1.lt
  clear h5 V3 b4 b5 H4
  have hn := VarW.new w5
  have V6 : Hid (VarW ((w5.alloc (.cells (C4 0 0 0 0) 24)).setRow w5.heap.size (cw v5)) w5.heap.size v5 ∧ VarW ((w5.alloc (.cells (C4 0 0 0 0) 24)).setRow w5.heap.size (cw v5)) w2.heap.size u ∧ VarS ((w5.alloc (.cells (C4 0 0 0 0) 24)).setRow w5.heap.size (cw v5)) (w.heap.size + 1) 29 [W4 0 0 0 0, W4 0 0 0 0] ∧ Below w.heap.size w ((w5.alloc (.cells (C4 0 0 0 0) 24)).setRow w5.heap.size (cw v5))) :=
    ⟨hn.put H5.out, (V5.out.1.old _).other (Nat.ne_of_lt V5.out.1.lt) _, (V5.out.2.1.old _).other (Nat.ne_of_lt V5.out.2.1.lt) _, below_setRow (V5.out.2.2.alloc V5.out.2.2.size _) V5.out.2.2.size _⟩
  clear V5
  go_wp2_with (first | (refine wpList_store_varW (u := v5) rfl _ _ rfl w5.heap.size rfl rfl H5.out hn ?_) | (refine wpList_load_want (by rfl) 24 _ rfl _ rfl V6.out.1.load ?_))
  clear hn
  generalize ((w5.alloc (.cells (C4 0 0 0 0) 24)).setRow w5.heap.size (cw v5)) = w6 at V6 ⊢
  refine Calls.mono (g_zero H5.out _) ?_
  rintro e w7 ⟨rfl, b7⟩
  rw [decide_eq_false HR.out]
  have V7 : Hid (VarW w7 w5.heap.size v5 ∧ VarW w7 w2.heap.size u ∧ VarS w7 (w.heap.size + 1) 29 [W4 0 0 0 0, W4 0 0 0 0] ∧ Below w.heap.size w w7) := ⟨V6.out.1.kept b7, V6.out.2.1.kept b7, V6.out.2.2.1.kept b7, V6.out.2.2.2.trans (b7.mono V6.out.2.2.2.size)⟩
  clear V6 b7
  have hnp : VarS (w7.alloc (.cells #[.int .u64 0, .int .u64 0, .int .u64 0, .int .u64 0, .int .u64 0, .int .u64 0, .int .u64 0, .int .u64 0] 29)) w7.heap.size 29 [W4 0 0 0 0, W4 0 0 0 0] := ⟨words2 isw0 isw0, by rw [← zero8]; exact heap_alloc_new _ _⟩
  have hstp := hnp.store (us := [v5, u]) (words2 H5.out HU.out) rfl (by kernel_rfl)
  have V8 : Hid (VarS ((w7.alloc (.cells #[.int .u64 0, .int .u64 0, .int .u64 0, .int .u64 0, .int .u64 0, .int .u64 0, .int .u64 0, .int .u64 0] 29)).setRow w7.heap.size (catW [v5, u])) w7.heap.size 29 [v5, u] ∧ VarS ((w7.alloc (.cells #[.int .u64 0, .int .u64 0, .int .u64 0, .int .u64 0, .int .u64 0, .int .u64 0, .int .u64 0, .int .u64 0] 29)).setRow w7.heap.size (catW [v5, u])) (w.heap.size + 1) 29 [W4 0 0 0 0, W4 0 0 0 0] ∧ Below w.heap.size w ((w7.alloc (.cells #[.int .u64 0, .int .u64 0, .int .u64 0, .int .u64 0, .int .u64 0, .int .u64 0, .int .u64 0, .int .u64 0] 29)).setRow w7.heap.size (catW [v5, u]))) :=
    ⟨hnp.put (words2 H5.out HU.out), (V7.out.2.2.1.old _).other (Nat.ne_of_lt V7.out.2.2.1.lt) _, below_setRow (V7.out.2.2.2.alloc V7.out.2.2.2.size _) V7.out.2.2.2.size _⟩
  have hx : IsF v5 (toF (rootX m)) := isF_lt H5.out (sqrtR_bd _).2
  have hy : IsF u (toF m) := isF_lt HU.out HP.out
  have HX : Hid (IsF v5 (toF (rootX m))) := hx
  have HY : Hid (IsF u (toF m)) := hy
  clear hx hy
  obtain ⟨x0, x1, x2, x3, rfl, _, _⟩ := H5.out
  obtain ⟨y0, y1, y2, y3, rfl, _, _⟩ := HU.out
  go_wp2_with (first | (refine wpList_load_varW rfl _ rfl w5.heap.size rfl V7.out.1 ?_) | (refine wpList_load_varW rfl _ rfl w2.heap.size rfl V7.out.2.1 ?_) | (refine wpList_build rfl 29 _ rfl (by kernel_rfl) ?_; generalize hG : (Program.built _ _ _).getD #[] = G; obtain rfl : G = catW [W4 x0 x1 x2 x3, W4 y0 y1 y2 y3] := by rw [← hG]; kernel_rfl) | (refine wpList_store_run rfl 29 _ _ rfl _ (catW [W4 x0 x1 x2 x3, W4 y0 y1 y2 y3]) rfl (by kernel_rfl) hstp ?_) | (refine wpList_load_run rfl 29 _ rfl _ rfl (load28 V8.out.1) ?_))
  clear hnp hstp
  generalize ((w7.alloc (.cells #[.int .u64 0, .int .u64 0, .int .u64 0, .int .u64 0, .int .u64 0, .int .u64 0, .int .u64 0, .int .u64 0] 29)).setRow w7.heap.size (catW [W4 x0 x1 x2 x3, W4 y0 y1 y2 y3])) = w8 at V8 ⊢
  refine Calls.mono (f_opposite HX.out HY.out _) ?_
  rintro e w9 ⟨z0, z1, rfl, hz, b9⟩
  have V9 : Hid (VarS w9 (w.heap.size + 1) 29 [W4 0 0 0 0, W4 0 0 0 0] ∧ Below w.heap.size w w9) := ⟨V8.out.2.1.kept b9, V8.out.2.2.trans (b9.mono V8.out.2.2.size)⟩
  have hst := V9.out.1.store (us := [z0, z1]) (words2 hz.1 hz.2) rfl (by kernel_rfl)
  go_wp2_with (first | (refine wpList_store_run rfl 29 _ _ rfl (w.heap.size + 1) (catW [z0, z1]) rfl rfl hst ?_))
  have hl := load28 (V9.out.1.put (words2 hz.1 hz.2))
  exact bodyPost_ret (v := .tuple #[.agg (catW [z0, z1]), .int .i64 0]) (by simp [results, Tryz.results4, asAddr, Act.put, hl]) rfl ⟨z0, z1, rfl, hz, below_setRow V9.out.2 (by omega) _⟩
set_option maxRecDepth 100000 in
set_option maxHeartbeats 2000000 in
theorem dec_E0 {m : Int} (h0 : 0 ≤ m) (h1 : m < H255) (hP : m < PP) (hs : sqrtB ((sqx (toF m)).val : Int) = true) (w : World) : Calls Tryz.prog 4 #[keyV (m)] w fun e w' => ∃ v0 v1, e = .returned (.tuple #[.agg (catW [v0, v1]), .int .i64 0]) ∧ (IsF v0 (toF (rootX m)) ∧ IsF v1 (toF m)) ∧ Below w.heap.size w w' := by
  have hrow : ((w.alloc (.cells (vec 32 (kb (m))) 28)).alloc (.cells #[.int .u64 0, .int .u64 0, .int .u64 0, .int .u64 0, .int .u64 0, .int .u64 0, .int .u64 0, .int .u64 0] 29)).rowIs w.heap.size 28 32 (kb (m)) := heap_row (heap_old _ _ _ _ (heap_alloc_new _ _))
  have hv : VarS ((w.alloc (.cells (vec 32 (kb (m))) 28)).alloc (.cells #[.int .u64 0, .int .u64 0, .int .u64 0, .int .u64 0, .int .u64 0, .int .u64 0, .int .u64 0, .int .u64 0] 29)) (w.heap.size + 1) 29 [W4 0 0 0 0, W4 0 0 0 0] := ⟨words2 isw0 isw0, by rw [← zero8]; exact heapAt _ _ _ (by simp)⟩
  have hc : ((w.alloc (.cells (vec 32 (kb (m))) 28)).alloc (.cells #[.int .u64 0, .int .u64 0, .int .u64 0, .int .u64 0, .int .u64 0, .int .u64 0, .int .u64 0, .int .u64 0] 29)).cell? ⟨w.heap.size, 31, none⟩ = some (.int .u8 (m / 256 ^ 31)) := by
    have := hrow.cell (i := 31) (by decide)
    rwa [(kb_top h0 h1).1] at this
  have hfz : ((w.alloc (.cells (vec 32 (kb (m))) 28)).alloc (.cells #[.int .u64 0, .int .u64 0, .int .u64 0, .int .u64 0, .int .u64 0, .int .u64 0, .int .u64 0, .int .u64 0] 29)).frozen? ⟨w.heap.size, 31, none⟩ = false := hrow.frozen _
  have htop := decTop h0 h1
  have hand := u8_and128 (m / 256 ^ 31) (by omega) (by omega)
  have hnot := u8_andNot128 (m / 256 ^ 31) (by omega) (by omega)
  rw [show 128 * ((m / 256 ^ 31) / 128) = 0 from by generalize m / 256 ^ 31 = q at *; omega] at hand
  rw [show (m / 256 ^ 31) % 128 = m / 256 ^ 31 from by generalize m / 256 ^ 31 = q at *; omega] at hnot
  have hvec := kb_vec (n := m) h0 h1 (Or.inl rfl)
  have V1 : Hid (((w.alloc (.cells (vec 32 (kb m)) 28)).alloc (.cells #[.int .u64 0, .int .u64 0, .int .u64 0, .int .u64 0, .int .u64 0, .int .u64 0, .int .u64 0, .int .u64 0] 29)).rowIs w.heap.size 28 32 (kb m) ∧ VarS ((w.alloc (.cells (vec 32 (kb m)) 28)).alloc (.cells #[.int .u64 0, .int .u64 0, .int .u64 0, .int .u64 0, .int .u64 0, .int .u64 0, .int .u64 0, .int .u64 0] 29)) (w.heap.size + 1) 29 [W4 0 0 0 0, W4 0 0 0 0] ∧ Below w.heap.size w ((w.alloc (.cells (vec 32 (kb m)) 28)).alloc (.cells #[.int .u64 0, .int .u64 0, .int .u64 0, .int .u64 0, .int .u64 0, .int .u64 0, .int .u64 0, .int .u64 0] 29))) :=
    ⟨heap_row (heap_old _ _ _ _ (heap_alloc_new _ _)), ⟨words2 isw0 isw0, by rw [← zero8]; exact heapAt _ _ _ (by simp)⟩, by go_grown⟩
  have HV : Hid _ := hvec
  have HM : Hid (0 ≤ m ∧ m < H255) := ⟨h0, h1⟩
  clear hrow hv htop hvec
  have hs1 := arr41 w.heap.size
  have HP : Hid (m < PP) := hP
  clear hP h0 h1
  have HS : Hid (sqrtB ((sqx (toF m)).val : Int) = true) := hs
  clear hs
  unfold keyV
  generalize hq : m / 256 ^ 31 = q at *
  clear hq
  go_enter Tryz.func4, Tryz.ntmps4
  go_wp2_with fail
  clear hc hfz hand hnot hs1
  rw [HV.out]
  clear HV
  generalize ((w.alloc (.cells (vec 32 (kb m)) 28)).alloc (.cells #[.int .u64 0, .int .u64 0, .int .u64 0, .int .u64 0, .int .u64 0, .int .u64 0, .int .u64 0, .int .u64 0] 29)) = w1 at V1 ⊢
  have hval : valB (dL m) = m := valB_dL m HM.out.1 (Int.lt_trans HM.out.2 (by decide))
  have hE : rdE PP (dL m) = 0 := by
    unfold rdE; rw [dL_len, if_pos rfl, hval, if_neg (Int.not_le.2 HP.out)]
  have hV : rdV PP (dL m) = m := by
    unfold rdV; rw [dL_len, if_pos rfl, hval, if_neg (Int.not_le.2 HP.out)]
  refine Calls.mono (read_any _ _ _ (isD_kb V1.out.1) (dL_byt m) (by rw [dL_len]; decide)) ?_
  rintro e w2 ⟨u, rfl, hu, b2⟩
  rw [hE]
  rw [hV] at hu
  have HU : Hid (IsW u m) := hu
  have V2 : Hid (VarS w2 (w.heap.size + 1) 29 [W4 0 0 0 0, W4 0 0 0 0] ∧ Below w.heap.size w w2) := ⟨V1.out.2.1.kept b2, V1.out.2.2.trans (b2.mono V1.out.2.2.size)⟩
  clear hu V1 b2 hE hV hval
  have hn := VarW.new w2
  have V3 : Hid (VarW ((w2.alloc (.cells (C4 0 0 0 0) 24)).setRow w2.heap.size (cw u)) w2.heap.size u ∧ VarS ((w2.alloc (.cells (C4 0 0 0 0) 24)).setRow w2.heap.size (cw u)) (w.heap.size + 1) 29 [W4 0 0 0 0, W4 0 0 0 0] ∧ Below w.heap.size w ((w2.alloc (.cells (C4 0 0 0 0) 24)).setRow w2.heap.size (cw u))) :=
    ⟨hn.put HU.out, (V2.out.1.old _).other (Nat.ne_of_lt V2.out.1.lt) _, below_setRow (V2.out.2.alloc V2.out.2.size _) V2.out.2.size _⟩
  have hlt : w.heap.size + 1 < w2.heap.size := V2.out.1.lt
  clear V2
  go_wp2_with (first | (refine wpList_store_varW (u := u) rfl _ _ rfl w2.heap.size rfl rfl HU.out hn ?_) | (refine wpList_load_varW rfl _ rfl w2.heap.size rfl V3.out.1 ?_))
  clear hn
  generalize ((w2.alloc (.cells (C4 0 0 0 0) 24)).setRow w2.heap.size (cw u)) = w3 at V3 ⊢
  refine Calls.mono (f_squareOfX (isF_lt HU.out HP.out) _) ?_
  rintro e w4 ⟨v4, rfl, h4, b4⟩
  have H4 : Hid (IsF v4 (sqx (toF m))) := h4
  clear h4
  go_wp2_with fail
  refine Calls.mono (g_sqrt H4.out _) ?_
  rintro e w5 ⟨v5, rfl, h5, b5⟩
  rw [HS.out]
  have H5 : Hid (IsW v5 (rootX m)) := h5
  have V5 : Hid (VarW w5 w2.heap.size u ∧ VarS w5 (w.heap.size + 1) 29 [W4 0 0 0 0, W4 0 0 0 0] ∧ Below w.heap.size w w5) := ⟨(V3.out.1.kept b4).kept b5, (V3.out.2.1.kept b4).kept b5, (V3.out.2.2.trans (b4.mono V3.out.2.2.size)).trans (b5.mono (V3.out.2.2.trans (b4.mono V3.out.2.2.size)).size)⟩
  have hlt5 : w2.heap.size < w5.heap.size := V5.out.1.lt
  clear h5 V3 b4 b5 H4
  have hn := VarW.new w5
  obtain ⟨w6, hw6⟩ : ∃ w6, w6 = ((w5.alloc (.cells (C4 0 0 0 0) 24)).setRow w5.heap.size (cw v5)) := ⟨_, rfl⟩
  have HW6 : Hid (w6 = ((w5.alloc (.cells (C4 0 0 0 0) 24)).setRow w5.heap.size (cw v5))) := hw6
  clear hw6
  have V6 : Hid (VarW ((w5.alloc (.cells (C4 0 0 0 0) 24)).setRow w5.heap.size (cw v5)) w5.heap.size v5 ∧ VarW ((w5.alloc (.cells (C4 0 0 0 0) 24)).setRow w5.heap.size (cw v5)) w2.heap.size u ∧ VarS ((w5.alloc (.cells (C4 0 0 0 0) 24)).setRow w5.heap.size (cw v5)) (w.heap.size + 1) 29 [W4 0 0 0 0, W4 0 0 0 0] ∧ Below w.heap.size w ((w5.alloc (.cells (C4 0 0 0 0) 24)).setRow w5.heap.size (cw v5))) :=
    ⟨hn.put H5.out, (V5.out.1.old _).other (Nat.ne_of_lt V5.out.1.lt) _, (V5.out.2.1.old _).other (Nat.ne_of_lt V5.out.2.1.lt) _, below_setRow (V5.out.2.2.alloc V5.out.2.2.size _) V5.out.2.2.size _⟩
  clear V5
  rw [← HW6.out] at V6
  have hnp : VarS (w6.alloc (.cells #[.int .u64 0, .int .u64 0, .int .u64 0, .int .u64 0, .int .u64 0, .int .u64 0, .int .u64 0, .int .u64 0] 29)) w6.heap.size 29 [W4 0 0 0 0, W4 0 0 0 0] := ⟨words2 isw0 isw0, by rw [← zero8]; exact heap_alloc_new _ _⟩
  have hstp := hnp.store (us := [v5, u]) (words2 H5.out HU.out) rfl (by kernel_rfl)
  have V8 : Hid (VarS ((w6.alloc (.cells #[.int .u64 0, .int .u64 0, .int .u64 0, .int .u64 0, .int .u64 0, .int .u64 0, .int .u64 0, .int .u64 0] 29)).setRow w6.heap.size (catW [v5, u])) w6.heap.size 29 [v5, u] ∧ VarS ((w6.alloc (.cells #[.int .u64 0, .int .u64 0, .int .u64 0, .int .u64 0, .int .u64 0, .int .u64 0, .int .u64 0, .int .u64 0] 29)).setRow w6.heap.size (catW [v5, u])) (w.heap.size + 1) 29 [W4 0 0 0 0, W4 0 0 0 0] ∧ Below w.heap.size w ((w6.alloc (.cells #[.int .u64 0, .int .u64 0, .int .u64 0, .int .u64 0, .int .u64 0, .int .u64 0, .int .u64 0, .int .u64 0] 29)).setRow w6.heap.size (catW [v5, u]))) :=
    ⟨hnp.put (words2 H5.out HU.out), (V6.out.2.2.1.old _).other (Nat.ne_of_lt V6.out.2.2.1.lt) _, below_setRow (V6.out.2.2.2.alloc V6.out.2.2.2.size _) V6.out.2.2.2.size _⟩
  have hx : IsF v5 (toF (rootX m)) := isF_lt H5.out (sqrtR_bd _).2
  have hy : IsF u (toF m) := isF_lt HU.out HP.out
  have HX : Hid (IsF v5 (toF (rootX m))) := hx
  have HY : Hid (IsF u (toF m)) := hy
  clear hx hy
  obtain ⟨x0, x1, x2, x3, rfl, _, _⟩ := H5.out
  obtain ⟨y0, y1, y2, y3, rfl, _, _⟩ := HU.out
  have hst := V8.out.2.1.store (us := [W4 x0 x1 x2 x3, W4 y0 y1 y2 y3]) (words2 HX.out HY.out) rfl (by kernel_rfl)
  go_wp2_with (first | (refine wpList_store_varW (u := W4 x0 x1 x2 x3) rfl _ _ rfl w5.heap.size rfl rfl H5.out hn ?_; rw [← HW6.out]) | (refine wpList_load_varW rfl _ rfl w5.heap.size rfl V6.out.1 ?_) | (refine wpList_load_varW rfl _ rfl w2.heap.size rfl V6.out.2.1 ?_) | (refine wpList_build rfl 29 _ rfl (by kernel_rfl) ?_; generalize hG : (Program.built _ _ _).getD #[] = G; obtain rfl : G = catW [W4 x0 x1 x2 x3, W4 y0 y1 y2 y3] := by rw [← hG]; kernel_rfl) | (refine wpList_store_run rfl 29 _ _ rfl _ (catW [W4 x0 x1 x2 x3, W4 y0 y1 y2 y3]) rfl (by kernel_rfl) hstp ?_) | (refine wpList_load_run rfl 29 _ rfl _ rfl (load28 V8.out.1) ?_) | (refine wpList_store_run rfl 29 _ _ rfl (w.heap.size + 1) (catW [W4 x0 x1 x2 x3, W4 y0 y1 y2 y3]) rfl rfl hst ?_))
  have hl := load28 (V8.out.2.1.put (words2 HX.out HY.out))
  exact bodyPost_ret (v := .tuple #[.agg (catW [W4 x0 x1 x2 x3, W4 y0 y1 y2 y3]), .int .i64 0]) (by simp [results, Tryz.results4, asAddr, Act.put, hl]) rfl ⟨_, _, rfl, ⟨HX.out, HY.out⟩, below_setRow V8.out.2.2 (by omega) _⟩
theorem g_decode {n : Int} (h0 : 0 ≤ n) (h1 : n < T256) (w : World) : Calls Tryz.prog 4 #[keyV n] w fun e w' => ∃ v0 v1, e = .returned (.tuple #[.agg (catW [v0, v1]), .int .i64 (decE (decK n))]) ∧ (IsF v0 (decV (decK n)).1 ∧ IsF v1 (decV (decK n)).2) ∧ Below w.heap.size w w' := by
  have hT : T256 = H255 + H255 := by decide
  have hH : H255 = 57896044618658097711785492504343953926634992332820282019728792003956564819968 := rfl
  have key : ∀ (m : Int) (o : Bool), 0 ≤ m → m < H255 → ∀ w : World, Calls Tryz.prog 4 #[keyV (if o then m + H255 else m)] w fun e w' => ∃ v0 v1, e = .returned (.tuple #[.agg (catW [v0, v1]), .int .i64 (decE (decY m o))]) ∧ (IsF v0 (decV (decY m o)).1 ∧ IsF v1 (decV (decY m o)).2) ∧ Below w.heap.size w w' := by
    intro m o m0 m1 w
    have none' : ∀ {e : Ending} {w' : World}, (e = .returned (.tuple #[.agg (catW [W4 0 0 0 0, W4 0 0 0 0]), .int .i64 20]) ∧ Below w.heap.size w w') → decY m o = none → ∃ v0 v1, e = .returned (.tuple #[.agg (catW [v0, v1]), .int .i64 (decE (decY m o))]) ∧ (IsF v0 (decV (decY m o)).1 ∧ IsF v1 (decV (decY m o)).2) ∧ Below w.heap.size w w' := by
      rintro e w' ⟨rfl, hb⟩ hn
      rw [hn]
      exact ⟨_, _, rfl, ⟨isF0, isF0⟩, hb⟩
    by_cases hP : PP ≤ m
    · have hn : decY m o = none := by unfold decY; rw [if_pos hP]
      cases o
      · exact (dec_A0 m0 m1 hP w).mono fun e w' h => none' h hn
      · exact (dec_A1 m0 m1 hP w).mono fun e w' h => none' h hn
    · have hP' := Int.not_le.1 hP
      cases hs : sqrtB ((sqx (toF m)).val : Int) with
      | false =>
        have hn : decY m o = none := by unfold decY; rw [if_neg hP, if_pos hs]
        cases o
        · exact (dec_B0 m0 m1 hP' hs w).mono fun e w' h => none' h hn
        · exact (dec_B1 m0 m1 hP' hs w).mono fun e w' h => none' h hn
      | true =>
        cases o
        · have hn : decY m false = some (toF (rootX m), toF m) := by unfold decY; rw [if_neg hP, if_neg (by rw [hs]; decide), if_neg (by decide)]
          refine (dec_E0 m0 m1 hP' hs w).mono ?_
          rintro e w' ⟨v0, v1, rfl, hv, hb⟩
          rw [hn]
          exact ⟨v0, v1, rfl, hv, hb⟩
        · by_cases hr : rootX m = 0
          · have hn : decY m true = none := by unfold decY; rw [if_neg hP, if_neg (by rw [hs]; decide), if_pos rfl, if_pos hr]
            exact (dec_C1 m0 m1 hP' hs hr w).mono fun e w' h => none' h hn
          · have hn : decY m true = some (0 - toF (rootX m), toF m) := by unfold decY; rw [if_neg hP, if_neg (by rw [hs]; decide), if_pos rfl, if_neg hr]
            refine (dec_D1 m0 m1 hP' hs hr w).mono ?_
            rintro e w' ⟨v0, v1, rfl, hv, hb⟩
            rw [hn]
            exact ⟨v0, v1, rfl, hv, hb⟩
  have hm := Int.emod_nonneg n (show H255 ≠ 0 by decide)
  have hm2 := Int.emod_lt_of_pos n (show 0 < H255 by decide)
  have hk := key (n % H255) (decide (n / H255 = 1)) hm hm2 w
  unfold decK
  rw [show (if decide (n / H255 = 1) = true then n % H255 + H255 else n % H255) = n from by
    by_cases h : n / H255 = 1
    · rw [decide_eq_true h, if_pos rfl]; simp only [H255, T256] at *; omega
    · rw [decide_eq_false h, if_neg (by decide)]; simp only [H255, T256] at *; omega] at hk
  exact hk
end Go.Proofs.YtionjibiemncbabGreat
