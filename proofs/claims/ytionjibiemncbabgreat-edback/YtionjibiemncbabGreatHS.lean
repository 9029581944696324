/- ed.secrets -/
import Derived.Test.YtionjibiemncbabGreatGShH1
import Derived.Test.YtionjibiemncbabGreatGEV
set_option linter.unusedSimpArgs false
set_option linter.unusedVariables false
namespace Go.Proofs.YtionjibiemncbabGreat
open Go.RowKit
def clampB (D : Nat → BitVec 8) (j : Nat) : Int := if j = 0 then dg D 0 - dg D 0 % 8 else if j = 31 then dg D 31 % 64 + 64 else dg D j
theorem clampB_bd (D : Nat → BitVec 8) (j : Nat) : 0 ≤ clampB D j ∧ clampB D j < 256 := by
  unfold clampB
  have h0 := dg_bd D 0
  have h1 := dg_bd D 31
  have h2 := dg_bd D j
  split
  · omega
  · split <;> omega
def secN (D : Nat → BitVec 8) : Int := valB (lsI (clampB D) 32)
theorem info40v (f : Nat → Value) : (Tryz.prog.info? 27).map (·.size) = some (vec 32 f).size := by rw [size_vec]; kernel_rfl
theorem zero40 : (Tryz.prog.info? 27).map (fun i => (i.zero, i.size)) = some (some (.agg (vec 32 (bI fun _ => 0))), 32) := by kernel_rfl
theorem parts1 {W : World} {lb cap : Nat} {ao : Option Addr} {n : Nat} {m : Nat → BitVec 8} (hb : Sha.Bytes W ao n cap m) (hc : W.cell? ⟨lb, 0, none⟩ = some (.slice ao n cap)) (hn : n < 2305843009213693952) : Sha.PartsH W lb 1 (fun _ => ao) (fun _ => n) (fun _ => cap) (fun i => if i = 0 then 0 else n) m :=
  ⟨fun i hi => by obtain rfl : i = 0 := by omega
                  exact hc, fun i hi => by obtain rfl : i = 0 := by omega
                                           simpa using hb, rfl, fun i hi => by obtain rfl : i = 0 := by omega
                                                                               simp, fun i hi => by split <;> omega⟩
theorem cell_new1 (w : World) (v : Value) (t : TypeId) : (w.alloc (.cells #[v] t)).cell? ⟨w.heap.size, 0, none⟩ = some v := by
  have := heap_alloc_new w (.cells #[v] t)
  rw [cell_of_row _ _ 0 _ _ _ this]; rfl
theorem clamp_row {w : World} {b : Nat} {D : Nat → BitVec 8} (h : w.rowIs b 53 64 (bI (dg D))) : ((w.setCell ⟨b, 0, none⟩ (.int .u8 (dg D 0 - dg D 0 % 8))).setCell ⟨b, 31, none⟩ (.int .u8 (dg D 31 % 64 + 64))).rowIs b 53 64 (bI (clampB D)) :=
  World.rowIs.congr (World.rowIs.set (World.rowIs.set h 0 _) 31 _) (fun i hi => by
    unfold bI clampB
    by_cases e : i = 31
    · subst e; simp
    · rw [if_neg e]
      by_cases e2 : i = 0
      · subst e2; simp
      · rw [if_neg e2, if_neg e2, if_neg e])
theorem hash1 (lb n cap : Nat) (ao : Option Addr) (m D : Nat → BitVec 8) (hD : D = Sha.digest m n) (W : World) (hb : Sha.Bytes W ao n cap m) (hc : W.cell? ⟨lb, 0, none⟩ = some (.slice ao n cap)) (hn : n < 2305843009213693952) :
    Calls Tryz.prog 53 #[.slice (some ⟨lb, 0, none⟩) 1 1] W fun e w' => e = .returned (.agg (vec 64 (bI (dg D)))) ∧ Below W.heap.size W w' := by
  refine (Sha.hash_any lb 1 1 _ _ _ _ m W (parts1 hb hc hn) (by decide) (by decide) (by decide)).mono ?_
  rintro e w' ⟨rfl, h⟩
  refine ⟨?_, h⟩
  rw [hD]
  simp only [Nat.one_ne_zero, if_false]
  rfl
set_option maxRecDepth 100000 in
set_option maxHeartbeats 2000000 in
theorem secrets_any (ao : Option Addr) (cap : Nat) (m D : Nat → BitVec 8) (hD : D = Sha.digest m 32) (w : World) (hb : Sha.Bytes w ao 32 cap m) :
    Calls Tryz.prog 41 #[.slice ao 32 cap] w fun e w' => ∃ v, e = .returned (.tuple #[v, .agg (vec 32 (bI fun j => dg D (32 + j)))]) ∧ IsW v (secN D % LL) ∧ Below w.heap.size w w' := by
  have V0 : Hid (VarW ((w.alloc (.cells (C4 0 0 0 0) 24)).alloc (.cells (vec 32 (bI fun _ => 0)) 27)) w.heap.size (W4 0 0 0 0) ∧ ((w.alloc (.cells (C4 0 0 0 0) 24)).alloc (.cells (vec 32 (bI fun _ => 0)) 27)).rowIs (w.heap.size + 1) 27 32 (bI fun _ => 0) ∧ Below w.heap.size w ((w.alloc (.cells (C4 0 0 0 0) 24)).alloc (.cells (vec 32 (bI fun _ => 0)) 27))) := ⟨(VarW.new w).old _, heap_row (heapAt _ _ _ (by simp)), by go_grown⟩
  have HB : Hid (Sha.Bytes w ao 32 cap m) := hb
  clear hb
  have HDD : Hid (D = Sha.digest m 32) := hD
  clear hD
  have hz := (zero_of_info zero40).1
  go_enter Tryz.func41, Tryz.ntmps41
  go_wp2_with fail
  clear hz
  have hsz : ((w.alloc (.cells (C4 0 0 0 0) 24)).alloc (.cells (vec 32 (bI fun _ => 0)) 27)).heap.size = w.heap.size + 1 + 1 := by simp
  generalize ((w.alloc (.cells (C4 0 0 0 0) 24)).alloc (.cells (vec 32 (bI fun _ => 0)) 27)) = w0 at V0 hsz ⊢
  have V1 : Hid (VarW (w0.alloc (.cells #[.slice ao 32 cap] 40)) w.heap.size (W4 0 0 0 0) ∧ (w0.alloc (.cells #[.slice ao 32 cap] 40)).rowIs (w.heap.size + 1) 27 32 (bI fun _ => 0) ∧ Below w.heap.size w (w0.alloc (.cells #[.slice ao 32 cap] 40))) := ⟨V0.out.1.old _, rowOld V0.out.2.1 _, V0.out.2.2.alloc V0.out.2.2.size _⟩
  have HB1 : Hid (Sha.Bytes (w0.alloc (.cells #[.slice ao 32 cap] 40)) ao 32 cap m) := HB.out.below V1.out.2.2
  have HC1 : Hid ((w0.alloc (.cells #[.slice ao 32 cap] 40)).cell? ⟨w0.heap.size, 0, none⟩ = some (.slice ao 32 cap)) := cell_new1 w0 (.slice ao 32 cap) 40
  rw [hsz] at HC1
  clear V0 HB
  generalize w0.alloc (.cells #[.slice ao 32 cap] 40) = w1 at V1 HB1 HC1 ⊢
  refine Calls.mono (hash1 (w.heap.size + 1 + 1) 32 cap ao m D HDD.out w1 HB1.out HC1.out (by decide)) ?_
  rintro e w2 ⟨rfl, b2⟩
  have V2 : Hid (VarW w2 w.heap.size (W4 0 0 0 0) ∧ w2.rowIs (w.heap.size + 1) 27 32 (bI fun _ => 0) ∧ Below w.heap.size w w2) := ⟨V1.out.1.kept b2, V1.out.2.1.of_block (b2.block _ V1.out.2.1.lt), V1.out.2.2.trans (b2.mono V1.out.2.2.size)⟩
  clear V1 b2 HB1 HC1 HDD
  have V3 : Hid (VarW (w2.alloc (.cells (vec 64 (bI (dg D))) 53)) w.heap.size (W4 0 0 0 0) ∧ (w2.alloc (.cells (vec 64 (bI (dg D))) 53)).rowIs (w.heap.size + 1) 27 32 (bI fun _ => 0) ∧ Below w.heap.size w (w2.alloc (.cells (vec 64 (bI (dg D))) 53)) ∧ (w2.alloc (.cells (vec 64 (bI (dg D))) 53)).rowIs w2.heap.size 53 64 (bI (dg D)) ∧ w.heap.size + 1 < w2.heap.size) := ⟨V2.out.1.old _, rowOld V2.out.2.1 _, V2.out.2.2.alloc V2.out.2.2.size _, heap_row (heap_alloc_new _ _), V2.out.2.1.lt⟩
  clear V2
  have hz := (zero_of_info Sha.zero23).1
  obtain ⟨w3, hw3⟩ : ∃ w3, w3 = w2.alloc (.cells (vec 64 (bI (dg D))) 53) := ⟨_, rfl⟩
  have HW3 : Hid (w3 = w2.alloc (.cells (vec 64 (bI (dg D))) 53)) := hw3
  rw [← hw3] at V3
  clear hw3
  have hc0 : w3.cell? ⟨w2.heap.size, 0, none⟩ = some (.int .u8 (dg D 0)) := V3.out.2.2.2.1.cell (i := 0) (by decide)
  have hc31 : w3.cell? ⟨w2.heap.size, 31, none⟩ = some (.int .u8 (dg D 31)) := V3.out.2.2.2.1.cell (i := 31) (by decide)
  have hf0 : w3.frozen? ⟨w2.heap.size, 0, none⟩ = false := V3.out.2.2.2.1.frozen _
  have hf31 : w3.frozen? ⟨w2.heap.size, 31, none⟩ = false := V3.out.2.2.2.1.frozen _
  have hand := u8_andNot7 (dg D 0) (dg_bd D 0).1 (dg_bd D 0).2
  have hcl := u8_clamp (dg D 31) (dg_bd D 31).1 (dg_bd D 31).2
  have hsl : ∀ w, (Instr.sliceAt 53 (.pointer (some ⟨w2.heap.size, 0, none⟩)) none (some (.int .i64 32)) none).run Tryz.prog w = .ok (.slice (some ⟨w2.heap.size, 0, none⟩) 32 64) w := upto53 w2.heap.size 32 (by decide)
  have hne : w2.heap.size ≠ w.heap.size := by have := V3.out.2.2.2.2; omega
  have hne1 : w.heap.size + 1 ≠ w2.heap.size := by have := V3.out.2.2.2.2; omega
  have V4 : Hid (VarW ((w3.setCell ⟨w2.heap.size, 0, none⟩ (.int .u8 (dg D 0 - dg D 0 % 8))).setCell ⟨w2.heap.size, 31, none⟩ (.int .u8 (dg D 31 % 64 + 64))) w.heap.size (W4 0 0 0 0) ∧ ((w3.setCell ⟨w2.heap.size, 0, none⟩ (.int .u8 (dg D 0 - dg D 0 % 8))).setCell ⟨w2.heap.size, 31, none⟩ (.int .u8 (dg D 31 % 64 + 64))).rowIs (w.heap.size + 1) 27 32 (bI fun _ => 0) ∧ Below w.heap.size w ((w3.setCell ⟨w2.heap.size, 0, none⟩ (.int .u8 (dg D 0 - dg D 0 % 8))).setCell ⟨w2.heap.size, 31, none⟩ (.int .u8 (dg D 31 % 64 + 64))) ∧ ((w3.setCell ⟨w2.heap.size, 0, none⟩ (.int .u8 (dg D 0 - dg D 0 % 8))).setCell ⟨w2.heap.size, 31, none⟩ (.int .u8 (dg D 31 % 64 + 64))).rowIs w2.heap.size 53 64 (bI (clampB D))) :=
    ⟨(V3.out.1.far hne 0 _).far hne 31 _, (V3.out.2.1.of_block (heap_setCell_other _ _ _ _ (by show w.heap.size + 1 ≠ w2.heap.size; exact hne1))).of_block (heap_setCell_other _ _ _ _ (by show w.heap.size + 1 ≠ w2.heap.size; exact hne1)), (V3.out.2.2.1.setCell (by show w.heap.size ≤ w2.heap.size; have := V3.out.2.2.2.2; omega) _).setCell (by show w.heap.size ≤ w2.heap.size; have := V3.out.2.2.2.2; omega) _, clamp_row V3.out.2.2.2.1⟩
  have hlt : w.heap.size + 1 < w2.heap.size := V3.out.2.2.2.2
  clear V3 hne hne1
  go_wp2_with (first | (refine wpList_store_row rfl 53 _ _ rfl w2.heap.size (vec 64 (bI (dg D))) rfl rfl 53 _ (heap_alloc_new _ _) (Sha.info23v _) (by simp) (one_bI _ _) ?_; rw [World.setRow_alloc_new, ← HW3.out]))
  clear hc0 hc31 hf0 hf31 hand hcl hsl hz
  generalize ((w3.setCell ⟨w2.heap.size, 0, none⟩ (.int .u8 (dg D 0 - dg D 0 % 8))).setCell ⟨w2.heap.size, 31, none⟩ (.int .u8 (dg D 31 % 64 + 64))) = w4 at V4 ⊢
  clear HW3 w3
  refine Calls.mono (lfold_any w4 _ _ (isD_bI V4.out.2.2.2 0 32 64 (by decide) (by decide)) (lsI_byt fun j _ => clampB_bd D _) (by rw [lsI_len]; decide)) ?_
  rintro e w5 ⟨u, rfl, hu, b5⟩
  rw [show lfV (lsI (fun j => clampB D (0 + j)) 32) = secN D % LL from by unfold lfV secN; rw [lsI_len]; simp only [Nat.zero_add]; rfl] at hu
  have HU : Hid (IsW u (secN D % LL)) := hu
  have hr4 := V4.out.2.2.2.of_block (b5.block _ V4.out.2.2.2.lt)
  have V5 : Hid (VarW w5 w.heap.size (W4 0 0 0 0) ∧ w5.rowIs (w.heap.size + 1) 27 32 (bI fun _ => 0) ∧ Below w.heap.size w w5 ∧ w5.rowIs w2.heap.size 53 64 (bI (clampB D))) := ⟨V4.out.1.kept b5, V4.out.2.1.of_block (b5.block _ V4.out.2.1.lt), V4.out.2.2.1.trans (b5.mono V4.out.2.2.1.size), hr4⟩
  clear hu hr4 V4 b5
  have hlt5 : w2.heap.size < w5.heap.size := V5.out.2.2.2.lt
  have hn := VarW.new w5
  have V6 : Hid (VarW ((w5.alloc (.cells (C4 0 0 0 0) 24)).setRow w5.heap.size (cw u)) w.heap.size (W4 0 0 0 0) ∧ ((w5.alloc (.cells (C4 0 0 0 0) 24)).setRow w5.heap.size (cw u)).rowIs (w.heap.size + 1) 27 32 (bI fun _ => 0) ∧ Below w.heap.size w ((w5.alloc (.cells (C4 0 0 0 0) 24)).setRow w5.heap.size (cw u)) ∧ ((w5.alloc (.cells (C4 0 0 0 0) 24)).setRow w5.heap.size (cw u)).rowIs w2.heap.size 53 64 (bI (clampB D)) ∧ VarW ((w5.alloc (.cells (C4 0 0 0 0) 24)).setRow w5.heap.size (cw u)) w5.heap.size u ∧ ((w5.alloc (.cells (C4 0 0 0 0) 24)).setRow w5.heap.size (cw u)).heap.size = w5.heap.size + 1) :=
    ⟨(V5.out.1.old _).other (Nat.ne_of_lt V5.out.1.lt) _, (rowOld V5.out.2.1 _).of_block (setRow_other _ _ _ _ (Nat.ne_of_lt V5.out.2.1.lt)), below_setRow (V5.out.2.2.1.alloc V5.out.2.2.1.size _) V5.out.2.2.1.size _, (rowOld V5.out.2.2.2 _).of_block (setRow_other _ _ _ _ (Nat.ne_of_lt V5.out.2.2.2.lt)), hn.put HU.out, by simp⟩
  obtain ⟨w6, hw6⟩ : ∃ w6, w6 = ((w5.alloc (.cells (C4 0 0 0 0) 24)).setRow w5.heap.size (cw u)) := ⟨_, rfl⟩
  have HW6 : Hid (w6 = ((w5.alloc (.cells (C4 0 0 0 0) 24)).setRow w5.heap.size (cw u))) := hw6
  rw [← hw6] at V6
  clear hw6 V5
  have hz := (zero_of_info zero40).1
  go_wp2_with (first | (refine wpList_store_varW (u := u) rfl _ _ rfl w5.heap.size rfl rfl HU.out hn ?_; rw [← HW6.out]))
  clear hn HW6 hz
  have V7 : Hid (VarW (w6.alloc (.cells (vec 32 (bI fun _ => 0)) 27)) w.heap.size (W4 0 0 0 0) ∧ (w6.alloc (.cells (vec 32 (bI fun _ => 0)) 27)).rowIs (w.heap.size + 1) 27 32 (bI fun _ => 0) ∧ Below w.heap.size w (w6.alloc (.cells (vec 32 (bI fun _ => 0)) 27)) ∧ (w6.alloc (.cells (vec 32 (bI fun _ => 0)) 27)).rowIs w2.heap.size 53 64 (bI (clampB D)) ∧ VarW (w6.alloc (.cells (vec 32 (bI fun _ => 0)) 27)) w5.heap.size u ∧ (w6.alloc (.cells (vec 32 (bI fun _ => 0)) 27)).rowIs w6.heap.size 27 32 (bI fun _ => 0) ∧ w5.heap.size < w6.heap.size) :=
    ⟨V6.out.1.old _, rowOld V6.out.2.1 _, V6.out.2.2.1.alloc V6.out.2.2.1.size _, rowOld V6.out.2.2.2.1 _, V6.out.2.2.2.2.1.old _, heap_row (heap_alloc_new _ _), by rw [V6.out.2.2.2.2.2]; omega⟩
  clear V6
  generalize (w6.alloc (.cells (vec 32 (bI fun _ => 0)) 27)) = w7 at V7 ⊢
  have hrw : ∀ (w' : World), w'.rowIs w6.heap.size 27 32 (bI fun _ => 0) → True := fun _ _ => trivial
  clear hrw
  refine wp_region_held_drew (S := fun w' => Below w.heap.size w w') (by kernel_rfl) V7.out.2.2.1.drew (fun hHeld => ?_)
  refine tk 0 (.slice (some ⟨w6.heap.size, 0, none⟩) 32 32) (fun w9 hSw => ?_) hHeld ?_
  · have := arr40 w6.heap.size w9; go_simp
  simp only [sm]
  refine tk 1 (.slice (some ⟨w2.heap.size, 32, none⟩) 32 32) (fun w9 hSw => ?_) hHeld ?_
  · have : (Instr.sliceAt 53 (.pointer (some ⟨w2.heap.size, 0, none⟩)) (some (.int .i64 32)) none none).run Tryz.prog w9 = .ok (.slice (some ⟨w2.heap.size, 32, none⟩) 32 32) w9 := from53 w2.heap.size 32 (by decide) w9
    go_simp
  simp only [sm]
  refine rd 2 (fun K hK => ?_)
  have hr6 : w7.drew.rowIs w6.heap.size 27 32 (bI fun _ => 0) := V7.out.2.2.2.2.2.1
  have hr2 : w7.drew.rowIs w2.heap.size 53 64 (bI (clampB D)) := V7.out.2.2.2.1
  refine Sha.step_copy_vec rfl _ _ 40 40 rfl 5 Tryz.underlying40 (by kernel_rfl) w6.heap.size 0 32 27 _ hr6 32 32 32 32 32 ⟨w2.heap.size, 32, none⟩ rfl rfl rfl (bI fun j => dg D (32 + j)) (fun j hj => ?_) (fun j _ => rfl) (by decide) ?_
  · have hadd : (⟨w2.heap.size, 32, none⟩ : Addr).add j = ⟨w2.heap.size, 32 + j, none⟩ := by unfold Addr.add; split <;> simp_all
    rw [hadd]
    have := hr2.cell (i := 32 + j) (by omega)
    rw [this]
    unfold bI clampB
    rw [if_neg (by omega), if_neg (by omega)]
  intro w8 hr8 ho8
  have hr8' : w8.rowIs w6.heap.size 27 32 (bI fun j => dg D (32 + j)) := hr8.congr (fun i hi => by rw [if_pos ⟨by omega, by omega⟩, Nat.sub_zero])
  have hl56 := V7.out.2.2.2.2.2.2
  have V8 : Hid (VarW w8 w.heap.size (W4 0 0 0 0) ∧ w8.rowIs (w.heap.size + 1) 27 32 (bI fun _ => 0) ∧ Below w.heap.size w w8 ∧ VarW w8 w5.heap.size u ∧ w8.rowIs w6.heap.size 27 32 (bI fun j => dg D (32 + j))) :=
    ⟨⟨V7.out.1.1, (ho8.block _ (by omega)).trans V7.out.1.2⟩, ho8.row (u := w7.drew) (by omega) V7.out.2.1, ho8.below V7.out.2.2.1.drew (by omega), ⟨V7.out.2.2.2.2.1.1, (ho8.block _ (by omega)).trans V7.out.2.2.2.2.1.2⟩, hr8'⟩
  refine hK.out _ _ V8.out.2.2.1 (fun hHeld => ?_)
  clear hK K hr8 hr8' ho8 hr6 hr2 hHeld V7
  try simp only [sm]
  refine wpAnyH_done (by kernel_rfl) ?_ _
  go_wp2
  generalize hzz : w8 = w8' at *
  clear hzz
  refine wp_region_held_drew (S := fun w' => VarW w' w5.heap.size u ∧ w'.rowIs w6.heap.size 27 32 (bI fun j => dg D (32 + j))) (by kernel_rfl) ⟨V8.out.2.2.2.1.drew, V8.out.2.2.2.2⟩ (fun hHeld => ?_)
  refine tk 0 (u) (fun w9 hSw => ?_) hHeld ?_
  · exact run_load_exec 24 _ rfl _ rfl hSw.1.load
  simp only [sm]
  refine tk 1 (.agg (vec 32 (bI fun j => dg D (32 + j)))) (fun w9 hSw => ?_) hHeld ?_
  · exact run_load_exec 27 _ rfl _ rfl (run_loadVar_row w9 _ 27 27 _ (0, 0) _ (row_heap hSw.2) Tryz.underlying27 rfl (info40v _))
  simp only [sm]
  refine wpAnyH_ready (rs := [2]) (by kernel_rfl) (by simp) ?_
  have d0 : VarW w8'.drew w.heap.size (W4 0 0 0 0) := V8.out.1
  have d1 : w8'.drew.rowIs (w.heap.size + 1) 27 32 (bI fun _ => 0) := V8.out.2.1
  have dB : Below w.heap.size w w8'.drew := V8.out.2.2.1.drew
  clear V8
  generalize w8'.drew = wd at d0 d1 dB hHeld ⊢
  have e1 : VarW (wd.setRow w.heap.size (cw u)) w.heap.size u := d0.put HU.out
  have e2 : (wd.setRow w.heap.size (cw u)).rowIs (w.heap.size + 1) 27 32 (bI fun _ => 0) := d1.of_block (setRow_other _ _ _ _ (by omega))
  refine AllReadyH.cons rfl (fun K hK => ?_) AllReadyH.nil
  · refine step_store_varW (u := u) (by rfl) _ _ rfl w.heap.size rfl rfl HU.out d0 ?_
    refine hK.out _ _ ⟨hHeld.1.other (by omega) _, hHeld.2.of_block (setRow_other _ _ _ _ (by omega))⟩ (fun hHeld => ?_)
    clear hK K
    try simp only [sm]
    refine rd 3 (fun K hK => ?_)
    refine step_store_row (by rfl) 27 _ _ rfl (w.heap.size + 1) (vec 32 (bI fun j => dg D (32 + j))) rfl rfl (run_storeVar_row _ _ 27 27 _ _ (row_heap e2) (info40v _) (by simp) (one_bI _ _)) ?_
    refine hK.out _ _ ⟨hHeld.1.other (by omega) _, hHeld.2.of_block (setRow_other _ _ _ _ (by omega))⟩ (fun hHeld => ?_)
    clear hK K
    try simp only [sm]
    refine wpAnyH_done (by kernel_rfl) ?_ _
    have g1 := (e1.other (y := w.heap.size + 1) (by omega) (vec 32 (bI fun j => dg D (32 + j)))).load
    have g2 : (loadVar 27 ⟨w.heap.size + 1, 0, none⟩).run Tryz.prog ((wd.setRow w.heap.size (cw u)).setRow (w.heap.size + 1) (vec 32 (bI fun j => dg D (32 + j)))) = .ok (.agg (vec 32 (bI fun j => dg D (32 + j)))) ((wd.setRow w.heap.size (cw u)).setRow (w.heap.size + 1) (vec 32 (bI fun j => dg D (32 + j)))) := run_loadVar_row _ _ 27 27 _ (0, 0) _ (setRow_heap _ _ _ _ _ _ (row_heap e2)) Tryz.underlying27 rfl (info40v _)
    go_wp2
    exact bodyPost_ret (v := .tuple #[u, .agg (vec 32 (bI fun j => dg D (32 + j)))]) (by simp [results, Tryz.results41, asAddr, g1, g2]) rfl ⟨u, rfl, HU.out, below_setRow (below_setRow dB (Nat.le_refl _) _) (by omega) _⟩
end Go.Proofs.YtionjibiemncbabGreat
