/- ed.timesBase, ed.Public -/
import Derived.Test.YtionjibiemncbabGreatGShH1
import Derived.Test.YtionjibiemncbabGreatGEZ
import Derived.Test.YtionjibiemncbabGreatEX
import Derived.Test.YtionjibiemncbabGreatEW
set_option linter.unusedSimpArgs false
set_option linter.unusedVariables false
namespace Go.Proofs.YtionjibiemncbabGreat
open Go.RowKit
theorem valK_bd (a : K) : 0 ≤ (a.val : Int) ∧ (a.val : Int) < PP := by
  have := mod_PP (a.val : Int)
  rw [← toF_val, val_toF] at this
  exact this
theorem ptOf_pt (p : Pt) : ptOf (p.x.val : Int) (p.y.val : Int) = some p := by
  unfold ptOf
  rw [dif_pos ⟨⟨(valK_bd _).2, (valK_bd _).2⟩, by rw [val_toF, val_toF]; exact p.on⟩]
  congr 1
  exact Pt.same (val_toF _) (val_toF _)
def encP (p : Pt) : Int := encN p.x p.y
theorem g_mulPt {vn p0 p1 : Value} {n : Int} {p : Pt} (hn : IsW vn n) (h0 : IsF p0 p.x) (h1 : IsF p1 p.y) (w : World) : Calls Tryz.prog 55 #[vn, .agg (catW [p0, p1])] w fun e w' => ∃ v0 v1, e = .returned (.agg (catW [v0, v1])) ∧ (IsF v0 (Pt.mul n.toNat p).x ∧ IsF v1 (Pt.mul n.toNat p).y) ∧ Below w.heap.size w w' := by
  have h := g_pmul hn h0 h1 w
  rw [ptOf_pt] at h
  exact h
set_option maxRecDepth 100000 in
set_option maxHeartbeats 2000000 in
theorem g_tbase {vn : Value} {n : Int} (hn : IsW vn n) (w : World) : Calls Tryz.prog 42 #[vn] w fun e w' => e = .returned (keyV (encP (Pt.mul n.toNat Pt.base))) ∧ Below w.heap.size w w' := by
  have N0 : Hid (IsW vn n) := hn
  obtain ⟨n0, n1, n2, n3, rfl, ln, _⟩ := hn
  have V0 : Hid (VarW ((w.alloc (.cells (C4 n0 n1 n2 n3) 24)).alloc (.cells (vec 32 (kb 0)) 28)) w.heap.size (W4 n0 n1 n2 n3) ∧ VarR ((w.alloc (.cells (C4 n0 n1 n2 n3) 24)).alloc (.cells (vec 32 (kb 0)) 28)) (w.heap.size + 1) 28 32 (kb 0) ∧ Below w.heap.size w ((w.alloc (.cells (C4 n0 n1 n2 n3) 24)).alloc (.cells (vec 32 (kb 0)) 28))) := ⟨(VarW.new1 ln w).old _, heap_row (heapAt _ _ _ (by simp)), by go_grown⟩
  clear ln
  have hz := (zero_of_info zero41).1
  go_enter Tryz.func42, Tryz.ntmps42
  unfold W4
  go_wp2
  clear hz
  generalize ((w.alloc (.cells (C4 n0 n1 n2 n3) 24)).alloc (.cells (vec 32 (kb 0)) 28)) = w0 at V0 ⊢
  refine wp_region_held_drew (S := fun w' => VarW w' w.heap.size (W4 n0 n1 n2 n3)) (by kernel_rfl) V0.out.1.drew (fun hHeld => ?_)
  refine tk 0 (W4 n0 n1 n2 n3) (fun w9 hSw => ?_) hHeld ?_
  · exact run_load_exec 24 _ rfl _ rfl hSw.load
  simp only [sm]
  refine rd 1 (fun K hK => ?_)
  go_simp
  refine (f_base _).mono ?_
  rintro e w1 ⟨p0, p1, rfl, hp, b1⟩
  have V1 : Hid (VarW w1 w.heap.size (W4 n0 n1 n2 n3) ∧ VarR w1 (w.heap.size + 1) 28 32 (kb 0) ∧ Below w.heap.size w w1) := ⟨hHeld.kept b1, V0.out.2.1.drew.kept b1, V0.out.2.2.drew.trans (b1.mono V0.out.2.2.size)⟩
  have HP : Hid (IsF p0 Pt.base.x ∧ IsF p1 Pt.base.y) := hp
  clear V0 b1 hp
  go_wp2_with fail
  refine hK.out _ _ V1.out.1 (fun hHeld => ?_)
  clear hK K
  try simp only [sm]
  refine rd 2 (fun K hK => ?_)
  go_simp
  refine (g_mulPt N0.out HP.out.1 HP.out.2 _).mono ?_
  rintro e w2 ⟨q0, q1, rfl, hq, b2⟩
  have V2 : Hid (VarW w2 w.heap.size (W4 n0 n1 n2 n3) ∧ VarR w2 (w.heap.size + 1) 28 32 (kb 0) ∧ Below w.heap.size w w2) := ⟨hHeld.kept b2, V1.out.2.1.kept b2, V1.out.2.2.trans (b2.mono V1.out.2.2.size)⟩
  have HQ : Hid (IsF q0 (Pt.mul n.toNat Pt.base).x ∧ IsF q1 (Pt.mul n.toNat Pt.base).y) := hq
  clear V1 b2 hq HP
  go_wp2_with fail
  refine hK.out _ _ V2.out.1 (fun hHeld => ?_)
  clear hK K
  try simp only [sm]
  refine rd 3 (fun K hK => ?_)
  go_simp
  refine (g_encode HQ.out.1 HQ.out.2 _).mono ?_
  rintro e w3 ⟨rfl, b3⟩
  have V3 : Hid (VarW w3 w.heap.size (W4 n0 n1 n2 n3) ∧ VarR w3 (w.heap.size + 1) 28 32 (kb 0) ∧ Below w.heap.size w w3) := ⟨hHeld.kept b3, V2.out.2.1.kept b3, V2.out.2.2.trans (b3.mono V2.out.2.2.size)⟩
  clear V2 b3 HQ
  obtain ⟨r, hr⟩ : ∃ r, r = encN (Pt.mul n.toNat Pt.base).x (Pt.mul n.toNat Pt.base).y := ⟨_, rfl⟩
  rw [← hr]
  have HR : Hid (r = encP (Pt.mul n.toNat Pt.base)) := hr
  clear hr
  unfold keyV
  go_wp2_with fail
  refine hK.out _ _ V3.out.1 (fun hHeld => ?_)
  clear hK K
  try simp only [sm]
  refine rd 4 (fun K hK => ?_)
  refine step_store_row (by rfl) 28 _ _ rfl (w.heap.size + 1) (vec 32 (kb r)) rfl rfl (run_storeVar_row _ _ 28 28 _ _ (row_heap V3.out.2.1) (info41v _) (by simp) (one_kb _ _)) ?_
  refine hK.out _ _ (V3.out.1.other (by omega) _) (fun hHeld => ?_)
  clear hK K
  try simp only [sm]
  refine wpAnyH_done (by kernel_rfl) ?_ _
  have hl : (loadVar 28 ⟨w.heap.size + 1, 0, none⟩).run Tryz.prog (w3.setRow (w.heap.size + 1) (vec 32 (kb r))) = .ok (.agg (vec 32 (kb r))) (w3.setRow (w.heap.size + 1) (vec 32 (kb r))) := run_loadVar_row _ _ 28 28 _ (0, 0) _ (setRow_heap _ _ _ _ _ _ (row_heap V3.out.2.1)) Tryz.underlying28 rfl (info41v _)
  go_wp2
  exact bodyPost_ret (v := .agg (vec 32 (kb r))) (by simp [results, Tryz.results42, asAddr, hl]) rfl ⟨by rw [← HR.out]; rfl, below_setRow V3.out.2.2 (by omega) _⟩
def seedN (D : Nat → BitVec 8) : Nat := (secN D % LL).toNat
def pubN (D : Nat → BitVec 8) : Int := encP (Pt.mul (seedN D) Pt.base)
set_option maxRecDepth 100000 in
set_option maxHeartbeats 2000000 in
theorem g_public (ao : Option Addr) (cap : Nat) (m D : Nat → BitVec 8) (hD : D = Sha.digest m 32) (w : World) (hb : Sha.Bytes w ao 32 cap m) :
    Calls Tryz.prog 22 #[.slice ao 32 cap] w fun e w' => e = .returned (.tuple #[keyV (pubN D), .int .i64 0]) ∧ Below w.heap.size w w' := by
  have V0 : Hid (VarR (w.alloc (.cells (vec 32 (kb 0)) 28)) w.heap.size 28 32 (kb 0) ∧ Below w.heap.size w (w.alloc (.cells (vec 32 (kb 0)) 28)) ∧ Sha.Bytes (w.alloc (.cells (vec 32 (kb 0)) 28)) ao 32 cap m) := ⟨VarR.new _ _ _ _, by go_grown, hb.below (by go_grown)⟩
  have HDD : Hid (D = Sha.digest m 32) := hD
  clear hb hD
  have hz := (zero_of_info zero41).1
  go_enter Tryz.func22, Tryz.ntmps22
  go_wp2_with fail
  clear hz
  generalize (w.alloc (.cells (vec 32 (kb 0)) 28)) = w0 at V0 ⊢
  refine Calls.mono (secrets_any ao cap m D HDD.out w0 V0.out.2.2) ?_
  rintro e w1 ⟨u, rfl, hu, b1⟩
  have HU : Hid (IsW u (secN D % LL)) := hu
  have V1 : Hid (VarR w1 w.heap.size 28 32 (kb 0) ∧ Below w.heap.size w w1) := ⟨V0.out.1.kept b1, V0.out.2.1.trans (b1.mono V0.out.2.1.size)⟩
  have hlt : w.heap.size < w1.heap.size := V1.out.1.lt
  clear V0 hu b1 HDD
  have x1 : VarW ((w1.alloc (.cells (C4 0 0 0 0) 24)).alloc (.cells (vec 32 (bI fun _ => 0)) 27)) w1.heap.size (W4 0 0 0 0) := (VarW.new w1).old _
  have x2 : VarR ((w1.alloc (.cells (C4 0 0 0 0) 24)).alloc (.cells (vec 32 (bI fun _ => 0)) 27)) (w1.heap.size + 1) 27 32 (bI fun _ => 0) := heap_row (heapAt _ _ _ (by simp))
  have x3 : VarR (((w1.alloc (.cells (C4 0 0 0 0) 24)).alloc (.cells (vec 32 (bI fun _ => 0)) 27)).setRow w1.heap.size (cw u)) (w1.heap.size + 1) 27 32 (bI fun _ => 0) := x2.other (by omega) _
  have V4 : Hid (VarW ((((w1.alloc (.cells (C4 0 0 0 0) 24)).alloc (.cells (vec 32 (bI fun _ => 0)) 27)).setRow w1.heap.size (cw u)).setRow (w1.heap.size + 1) (vec 32 (bI fun j => dg D (32 + j)))) w1.heap.size u ∧ VarR ((((w1.alloc (.cells (C4 0 0 0 0) 24)).alloc (.cells (vec 32 (bI fun _ => 0)) 27)).setRow w1.heap.size (cw u)).setRow (w1.heap.size + 1) (vec 32 (bI fun j => dg D (32 + j)))) w.heap.size 28 32 (kb 0) ∧ Below w.heap.size w ((((w1.alloc (.cells (C4 0 0 0 0) 24)).alloc (.cells (vec 32 (bI fun _ => 0)) 27)).setRow w1.heap.size (cw u)).setRow (w1.heap.size + 1) (vec 32 (bI fun j => dg D (32 + j))))) :=
    ⟨(x1.put HU.out).other (by omega) _, (((V1.out.1.old _).old _).other (by omega) _).other (by omega) _, below_setRow (below_setRow ((V1.out.2.alloc V1.out.2.size _).alloc (V1.out.2.alloc V1.out.2.size _).size _) (by omega) _) (by omega) _⟩
  obtain ⟨w4, hw4⟩ : ∃ w4, w4 = ((((w1.alloc (.cells (C4 0 0 0 0) 24)).alloc (.cells (vec 32 (bI fun _ => 0)) 27)).setRow w1.heap.size (cw u)).setRow (w1.heap.size + 1) (vec 32 (bI fun j => dg D (32 + j)))) := ⟨_, rfl⟩
  have HW4 : Hid (w4 = ((((w1.alloc (.cells (C4 0 0 0 0) 24)).alloc (.cells (vec 32 (bI fun _ => 0)) 27)).setRow w1.heap.size (cw u)).setRow (w1.heap.size + 1) (vec 32 (bI fun j => dg D (32 + j))))) := hw4
  rw [← hw4] at V4
  clear hw4 V1
  have hz := (zero_of_info zero40).1
  have X1 : Hid (VarW ((w1.alloc (.cells (C4 0 0 0 0) 24)).alloc (.cells (vec 32 (bI fun _ => 0)) 27)) w1.heap.size (W4 0 0 0 0)) := x1
  have X3 : Hid (VarR (((w1.alloc (.cells (C4 0 0 0 0) 24)).alloc (.cells (vec 32 (bI fun _ => 0)) 27)).setRow w1.heap.size (cw u)) (w1.heap.size + 1) 27 32 (bI fun _ => 0)) := x3
  clear x1 x2 x3
  go_wp2_with (first | (refine wpList_store_varW (u := u) rfl _ _ rfl w1.heap.size rfl rfl HU.out X1.out ?_) | (refine wpList_store_row rfl 27 _ _ rfl (w1.heap.size + 1) (vec 32 (bI fun j => dg D (32 + j))) rfl rfl 27 _ (row_heap X3.out.row) (info40v _) (by simp) (one_bI _ _) ?_; rw [← HW4.out]) | (refine wpList_load_varW rfl _ rfl w1.heap.size rfl V4.out.1 ?_))
  clear hz X1 X3 HW4
  refine Calls.mono (g_tbase HU.out _) ?_
  rintro e w5 ⟨rfl, b5⟩
  have V5 : Hid (VarR w5 w.heap.size 28 32 (kb 0) ∧ Below w.heap.size w w5) := ⟨V4.out.2.1.kept b5, V4.out.2.2.trans (b5.mono V4.out.2.2.size)⟩
  clear V4 b5
  obtain ⟨r, hr⟩ : ∃ r, r = encP (Pt.mul (secN D % LL).toNat Pt.base) := ⟨_, rfl⟩
  rw [← hr]
  have HR : Hid (r = pubN D) := hr
  clear hr
  unfold keyV
  go_wp2_with (first | (refine wpList_store_row rfl 28 _ _ rfl w.heap.size (vec 32 (kb r)) rfl rfl 28 _ (row_heap V5.out.1.row) (info41v _) (by simp) (one_kb _ _) ?_))
  have hl : (loadVar 28 ⟨w.heap.size, 0, none⟩).run Tryz.prog (w5.setRow w.heap.size (vec 32 (kb r))) = .ok (.agg (vec 32 (kb r))) (w5.setRow w.heap.size (vec 32 (kb r))) := run_loadVar_row _ _ 28 28 _ (0, 0) _ (setRow_heap _ _ _ _ _ _ (row_heap V5.out.1.row)) Tryz.underlying28 rfl (info41v _)
  exact bodyPost_ret (v := .tuple #[.agg (vec 32 (kb r)), .int .i64 0]) (by simp [results, Tryz.results22, asAddr, Act.put, hl]) rfl ⟨by rw [← HR.out]; rfl, below_setRow V5.out.2 (Nat.le_refl _) _⟩
end Go.Proofs.YtionjibiemncbabGreat
