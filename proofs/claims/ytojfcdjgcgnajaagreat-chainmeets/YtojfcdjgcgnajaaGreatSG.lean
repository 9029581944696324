/- ed.Sign -/
import Derived.Test.YtojfcdjgcgnajaaGreatGCM
import Derived.Test.YtojfcdjgcgnajaaGreatTB
namespace Go.Proofs.YtojfcdjgcgnajaaGreat
open Go.RowKit
set_option linter.unusedSimpArgs false
set_option linter.unusedVariables false
theorem info54v (f : Nat → Value) : (Tryz.prog.info? 40).map (·.size) = some (vec 64 f).size := by rw [size_vec]; kernel_rfl
theorem zero54 : (Tryz.prog.info? 40).map (fun i => (i.zero, i.size)) = some (some (.agg (vec 64 (bI fun _ => 0))), 64) := by kernel_rfl
def rN (D : Nat → BitVec 8) (m : Nat → BitVec 8) (len : Nat) : Int := hnum (Sha.digest (cat2 (fun j => dg D (32 + j)) m) (32 + len)) % LL
def kN (R A : Int) (m : Nat → BitVec 8) (len : Nat) : Int := hnum (Sha.digest (cat3 (fun j => R / 256 ^ j % 256) (fun j => A / 256 ^ j % 256) m) (64 + len)) % LL
def firN (D : Nat → BitVec 8) (m : Nat → BitVec 8) (len : Nat) : Int := encP (Pt.mul (rN D m len).toNat Pt.base)
def kkN (D : Nat → BitVec 8) (m : Nat → BitVec 8) (len : Nat) : Int := kN (firN D m len) (pubN D) m len
def secondN (D : Nat → BitVec 8) (m : Nat → BitVec 8) (len : Nat) : Int := (rN D m len + kkN D m len * (secN D % LL) % LL) % LL
def sgB (R S : Int) (j : Nat) : Int := if j < 32 then R / 256 ^ j % 256 else S / 256 ^ (j - 32) % 256
def sigV (R S : Int) : Value := .agg (vec 64 (bI (sgB R S)))
set_option maxRecDepth 100000 in
set_option maxHeartbeats 4000000 in
theorem g_sign (ao am : Option Addr) (cap len capm : Nat) (m0 m D : Nat → BitVec 8) (hD : D = Sha.digest m0 32) (w : World) (hb : Sha.Bytes w ao 32 cap m0) (hm : Sha.Bytes w am len capm m) :
 Calls Tryz.prog 14 #[.slice ao 32 cap, .slice am len capm] w fun e w' => e = .returned (.tuple #[sigV (firN D m len) (secondN D m len), .int .i64 0]) ∧ Below w.heap.size w w' := by
 have V0 : Hid (VarR (w.alloc (.cells (vec 64 (bI fun _ => 0)) 40)) w.heap.size 40 64 (bI fun _ => 0) ∧ Below w.heap.size w (w.alloc (.cells (vec 64 (bI fun _ => 0)) 40)) ∧ Sha.Bytes (w.alloc (.cells (vec 64 (bI fun _ => 0)) 40)) ao 32 cap m0 ∧ Sha.Bytes (w.alloc (.cells (vec 64 (bI fun _ => 0)) 40)) am len capm m) := ⟨VarR.new _ _ _ _, by go_grown, hb.below (by go_grown), hm.below (by go_grown)⟩
 have HDD : Hid (D = Sha.digest m0 32) := hD; clear hb hD hm; have hz := (zero_of_info zero54).1; go_enter Tryz.func14, Tryz.ntmps14; go_wp2_with fail; clear hz; generalize (w.alloc (.cells (vec 64 (bI fun _ => 0)) 40)) = w0 at V0 ⊢; refine Calls.mono (secrets_any ao cap m0 D HDD.out w0 V0.out.2.2.1) ?_; rintro e w1 ⟨u, rfl, hu, b1⟩; have HU : Hid (IsW u (secN D % LL)) := hu; have V1 : Hid (VarR w1 w.heap.size 40 64 (bI fun _ => 0) ∧ Below w.heap.size w w1 ∧ Sha.Bytes w1 am len capm m) := ⟨V0.out.1.kept b1, V0.out.2.1.trans (b1.mono V0.out.2.1.size), V0.out.2.2.2.below b1⟩
 have hlt : w.heap.size < w1.heap.size := V1.out.1.lt; clear V0 hu b1 HDD; have X1 : Hid (VarW ((w1.alloc (.cells (C4 0 0 0 0) 51)).alloc (.cells (vec 32 (bI fun _ => 0)) 29)) w1.heap.size (W4 0 0 0 0)) := (VarW.new w1).old _; have X2 : Hid (VarR ((w1.alloc (.cells (C4 0 0 0 0) 51)).alloc (.cells (vec 32 (bI fun _ => 0)) 29)) (w1.heap.size + 1) 29 32 (bI fun _ => 0)) := heap_row (heapAt _ _ _ (by simp)); have X3 : Hid (VarR (((w1.alloc (.cells (C4 0 0 0 0) 51)).alloc (.cells (vec 32 (bI fun _ => 0)) 29)).setRow w1.heap.size (cw u)) (w1.heap.size + 1) 29 32 (bI fun _ => 0)) := X2.out.other (by omega) _; have hbm : Below w1.heap.size w1 ((((w1.alloc (.cells (C4 0 0 0 0) 51)).alloc (.cells (vec 32 (bI fun _ => 0)) 29)).setRow w1.heap.size (cw u)).setRow (w1.heap.size + 1) (vec 32 (bI fun j => dg D (32 + j)))) := below_setRow (below_setRow (((Below.refl _ _).alloc (Nat.le_refl _) _).alloc (by simp) _) (Nat.le_refl _) _) (by omega) _; have V4 : Hid (VarW ((((w1.alloc (.cells (C4 0 0 0 0) 51)).alloc (.cells (vec 32 (bI fun _ => 0)) 29)).setRow w1.heap.size (cw u)).setRow (w1.heap.size + 1) (vec 32 (bI fun j => dg D (32 + j)))) w1.heap.size u ∧ VarR ((((w1.alloc (.cells (C4 0 0 0 0) 51)).alloc (.cells (vec 32 (bI fun _ => 0)) 29)).setRow w1.heap.size (cw u)).setRow (w1.heap.size + 1) (vec 32 (bI fun j => dg D (32 + j)))) (w1.heap.size + 1) 29 32 (bI fun j => dg D (32 + j)) ∧ VarR ((((w1.alloc (.cells (C4 0 0 0 0) 51)).alloc (.cells (vec 32 (bI fun _ => 0)) 29)).setRow w1.heap.size (cw u)).setRow (w1.heap.size + 1) (vec 32 (bI fun j => dg D (32 + j)))) w.heap.size 40 64 (bI fun _ => 0) ∧ Below w.heap.size w ((((w1.alloc (.cells (C4 0 0 0 0) 51)).alloc (.cells (vec 32 (bI fun _ => 0)) 29)).setRow w1.heap.size (cw u)).setRow (w1.heap.size + 1) (vec 32 (bI fun j => dg D (32 + j)))) ∧ Sha.Bytes ((((w1.alloc (.cells (C4 0 0 0 0) 51)).alloc (.cells (vec 32 (bI fun _ => 0)) 29)).setRow w1.heap.size (cw u)).setRow (w1.heap.size + 1) (vec 32 (bI fun j => dg D (32 + j)))) am len capm m) :=
  ⟨(X1.out.put HU.out).other (by omega) _, X3.out.put, V1.out.1.kept hbm, V1.out.2.1.trans (hbm.mono V1.out.2.1.size), V1.out.2.2.below hbm⟩
 obtain ⟨w4, hw4⟩ : ∃ w4, w4 = ((((w1.alloc (.cells (C4 0 0 0 0) 51)).alloc (.cells (vec 32 (bI fun _ => 0)) 29)).setRow w1.heap.size (cw u)).setRow (w1.heap.size + 1) (vec 32 (bI fun j => dg D (32 + j)))) := ⟨_, rfl⟩
 have HW4 : Hid (w4 = ((((w1.alloc (.cells (C4 0 0 0 0) 51)).alloc (.cells (vec 32 (bI fun _ => 0)) 29)).setRow w1.heap.size (cw u)).setRow (w1.heap.size + 1) (vec 32 (bI fun j => dg D (32 + j))))) := hw4; rw [← hw4] at V4; clear hw4 V1 X2 hbm; have hz := (zero_of_info zero40).1; have hs4 := arr40 (w1.heap.size + 1); go_wp2_with (first | (refine wpList_store_varW (u := u) rfl _ _ rfl w1.heap.size rfl rfl HU.out X1.out ?_) | (refine wpList_store_row rfl 29 _ _ rfl (w1.heap.size + 1) (vec 32 (bI fun j => dg D (32 + j))) rfl rfl 29 _ (row_heap X3.out.row) (info40v _) (by simp) (one_bI _ _) ?_; rw [← HW4.out])); clear hz X1 X3 HW4 hs4; have V5 : Hid (VarW (w4.alloc (.cells #[.slice (some ⟨w1.heap.size + 1, 0, none⟩) 32 32, .slice am len capm] 28)) w1.heap.size u ∧ VarR (w4.alloc (.cells #[.slice (some ⟨w1.heap.size + 1, 0, none⟩) 32 32, .slice am len capm] 28)) (w1.heap.size + 1) 29 32 (bI fun j => dg D (32 + j)) ∧ VarR (w4.alloc (.cells #[.slice (some ⟨w1.heap.size + 1, 0, none⟩) 32 32, .slice am len capm] 28)) w.heap.size 40 64 (bI fun _ => 0) ∧ Below w.heap.size w (w4.alloc (.cells #[.slice (some ⟨w1.heap.size + 1, 0, none⟩) 32 32, .slice am len capm] 28)) ∧ Sha.Bytes (w4.alloc (.cells #[.slice (some ⟨w1.heap.size + 1, 0, none⟩) 32 32, .slice am len capm] 28)) am len capm m ∧ VarC (w4.alloc (.cells #[.slice (some ⟨w1.heap.size + 1, 0, none⟩) 32 32, .slice am len capm] 28)) w4.heap.size #[.slice (some ⟨w1.heap.size + 1, 0, none⟩) 32 32, .slice am len capm]) :=
  ⟨V4.out.1.old _, V4.out.2.1.old _, V4.out.2.2.1.old _, V4.out.2.2.2.1.alloc V4.out.2.2.2.1.size _, V4.out.2.2.2.2.below ((Below.refl _ _).alloc (Nat.le_refl _) _), VarC.new _ _⟩
 have hlt4 : w1.heap.size + 1 < w4.heap.size := V4.out.2.1.lt; clear V4; generalize (w4.alloc (.cells #[.slice (some ⟨w1.heap.size + 1, 0, none⟩) 32 32, .slice am len capm] 28)) = w5 at V5 ⊢; refine Calls.mono (number2 V5.out.2.1 (fun j _ => dg_bd D _) V5.out.2.2.2.2.1 V5.out.2.2.2.2.2) ?_; rintro e w6 ⟨r, rfl, hr, b6⟩; have HR : Hid (IsW r (rN D m len)) := hr; have V6 : Hid (VarW w6 w1.heap.size u ∧ VarR w6 w.heap.size 40 64 (bI fun _ => 0) ∧ Below w.heap.size w w6 ∧ Sha.Bytes w6 am len capm m) :=
  ⟨V5.out.1.kept b6, V5.out.2.2.1.kept b6, V5.out.2.2.2.1.trans (b6.mono V5.out.2.2.2.1.size), V5.out.2.2.2.2.1.below b6⟩
 have hlt6 : w4.heap.size < w6.heap.size := (V5.out.2.2.2.2.2.kept b6).lt; clear V5 hr b6; have hn := VarW.new w6; have hb7 : Below w6.heap.size w6 ((w6.alloc (.cells (C4 0 0 0 0) 51)).setRow w6.heap.size (cw r)) := below_setRow ((Below.refl _ _).alloc (Nat.le_refl _) _) (Nat.le_refl _) _; have V7 : Hid (VarW ((w6.alloc (.cells (C4 0 0 0 0) 51)).setRow w6.heap.size (cw r)) w6.heap.size r ∧ VarW ((w6.alloc (.cells (C4 0 0 0 0) 51)).setRow w6.heap.size (cw r)) w1.heap.size u ∧ VarR ((w6.alloc (.cells (C4 0 0 0 0) 51)).setRow w6.heap.size (cw r)) w.heap.size 40 64 (bI fun _ => 0) ∧ Below w.heap.size w ((w6.alloc (.cells (C4 0 0 0 0) 51)).setRow w6.heap.size (cw r)) ∧ Sha.Bytes ((w6.alloc (.cells (C4 0 0 0 0) 51)).setRow w6.heap.size (cw r)) am len capm m) :=
  ⟨hn.put HR.out, V6.out.1.kept hb7, V6.out.2.1.kept hb7, V6.out.2.2.1.trans (hb7.mono V6.out.2.2.1.size), V6.out.2.2.2.below hb7⟩
 obtain ⟨w7, hw7⟩ : ∃ w7, w7 = ((w6.alloc (.cells (C4 0 0 0 0) 51)).setRow w6.heap.size (cw r)) := ⟨_, rfl⟩
 have HW7 : Hid (w7 = ((w6.alloc (.cells (C4 0 0 0 0) 51)).setRow w6.heap.size (cw r))) := hw7; rw [← hw7] at V7; clear hw7 V6 hb7; go_wp2_with (first | (refine wpList_store_varW (u := r) rfl _ _ rfl w6.heap.size rfl rfl HR.out hn ?_; rw [← HW7.out])); clear hn HW7; obtain ⟨R, hR⟩ : ∃ R, R = encP (Pt.mul (rN D m len).toNat Pt.base) := ⟨_, rfl⟩
 obtain ⟨A, hA⟩ : ∃ A, A = encP (Pt.mul (secN D % LL).toNat Pt.base) := ⟨_, rfl⟩
 have HFR : Hid (R = encP (Pt.mul (rN D m len).toNat Pt.base)) := hR; have HFA : Hid (A = encP (Pt.mul (secN D % LL).toNat Pt.base)) := hA; clear hR hA; refine wp_region_inv (by kernel_rfl) 8 rfl (fun l a w' => ∃ (β0 β1 β2 β3 β4 β5 β6 β7 : Bool) (z5_4 z5_5 : Nat), l = #[β0, β1, β2, β3, β4, β5, β6, β7] ∧ a = ⟨#[.slice ao 32 cap, .slice am len capm, undef, undef, .pointer (some ⟨w.heap.size, 0, none⟩), .int .i64 0, .pointer (some ⟨w1.heap.size, 0, none⟩), .pointer (some ⟨w1.heap.size + 1, 0, none⟩), .pointer (some ⟨w6.heap.size, 0, none⟩), bif β4 then .pointer (some ⟨z5_4, 0, none⟩) else undef, bif β5 then .pointer (some ⟨z5_5, 0, none⟩) else undef, undef, undef, .slice ao 32 cap, .int .i64 32, .bool false, undef, .tuple #[u, .agg (vec 32 (bI fun j => dg D (32 + j)))], .slice ao 32 cap, .tuple #[u, .agg (vec 32 (bI fun j => dg D (32 + j)))], u, .agg (vec 32 (bI fun j => dg D (32 + j))), .slice (some ⟨w1.heap.size + 1, 0, none⟩) 32 32, .slice am len capm, .slice (some ⟨w4.heap.size, 0, none⟩) 2 2, r, bif β0 then r else undef, bif β1 then .agg (vec 32 (kb R)) else undef, bif β2 then u else undef, bif β3 then .agg (vec 32 (kb A)) else undef, undef, undef, undef, undef, undef, undef, undef, undef, undef, undef, undef, undef, undef, undef, undef, undef, undef], []⟩ ∧ Below w7.heap.size w7 w' ∧ Hid (β4 = true → w7.heap.size ≤ z5_4 ∧ VarR w' z5_4 30 32 (bif β6 then (kb R) else (kb 0))) ∧ Hid (β5 = true → w7.heap.size ≤ z5_5 ∧ VarR w' z5_5 30 32 (bif β7 then (kb A) else (kb 0))) ∧ Hid (β4 = true → β5 = true → z5_4 ≠ z5_5) ∧ Hid (β6 = true → β4 = true) ∧ Hid (β7 = true → β5 = true)) ?h05 ?hend5 ?hstep5
 case h05 => exact ⟨false, false, false, false, false, false, false, false, 0, 0, rfl, rfl, Below.drew (Below.refl _ _), (fun h => by cases h), (fun h => by cases h), (fun h => by cases h), (fun h => by cases h), (fun h => by cases h)⟩
 case hend5 =>
  intro l a w' hs hI hr0; obtain ⟨β0, β1, β2, β3, β4, β5, β6, β7, z5_4, z5_5, rfl, rfl, hB, ha5_4, ha5_5, hd5_4_5, hm5_6_4, hm5_7_5⟩ := hI; have hall := ready_none (by rfl) (depsLow_spec (by kernel_rfl)) hr0; obtain rfl : β0 = true := hall 0 (by decide); obtain rfl : β1 = true := hall 1 (by decide); obtain rfl : β2 = true := hall 2 (by decide); obtain rfl : β3 = true := hall 3 (by decide); obtain rfl : β4 = true := hall 4 (by decide); obtain rfl : β5 = true := hall 5 (by decide); obtain rfl : β6 = true := hall 6 (by decide); obtain rfl : β7 = true := hall 7 (by decide); clear hall hr0 hs
  replace ha5_4 := ha5_4.out rfl
  replace ha5_5 := ha5_5.out rfl
  replace hd5_4_5 := hd5_4_5.out rfl rfl
  clear hm5_6_4 hm5_7_5; simp only [cond_true] at ha5_4 ha5_5 ⊢; have V8 : Hid (VarW w' w6.heap.size r ∧ VarW w' w1.heap.size u ∧ VarR w' w.heap.size 40 64 (bI fun _ => 0) ∧ Below w.heap.size w w' ∧ Sha.Bytes w' am len capm m ∧ VarR w' z5_4 30 32 (kb R) ∧ VarR w' z5_5 30 32 (kb A)) :=
   ⟨V7.out.1.kept hB, V7.out.2.1.kept hB, V7.out.2.2.1.kept hB, V7.out.2.2.2.1.trans (hB.mono V7.out.2.2.2.1.size), V7.out.2.2.2.2.below hB, ha5_4.2, ha5_5.2⟩
  have hlt7 : w6.heap.size < w7.heap.size := V7.out.1.lt; have hl9 := ha5_4.1; have hl10 := ha5_5.1; have hne910 : Hid (z5_4 ≠ z5_5) := hd5_4_5; clear V7 hB ha5_4 ha5_5 hd5_4_5; generalize w' = w8 at V8 ⊢; go_wp2; refine wp_region_inv (by kernel_rfl) 7 rfl (fun l a w' => ∃ (β0 β1 β2 β3 β4 β5 β6 : Bool) (x6_4 : Value) (z6_3 z6_5 : Nat), l = #[β0, β1, β2, β3, β4, β5, β6] ∧ a = ⟨#[.slice ao 32 cap, .slice am len capm, undef, undef, .pointer (some ⟨w.heap.size, 0, none⟩), .int .i64 0, .pointer (some ⟨w1.heap.size, 0, none⟩), .pointer (some ⟨w1.heap.size + 1, 0, none⟩), .pointer (some ⟨w6.heap.size, 0, none⟩), .pointer (some ⟨z5_4, 0, none⟩), .pointer (some ⟨z5_5, 0, none⟩), bif β5 then .pointer (some ⟨z6_5, 0, none⟩) else undef, undef, .slice ao 32 cap, .int .i64 32, .bool false, undef, .tuple #[u, .agg (vec 32 (bI fun j => dg D (32 + j)))], .slice ao 32 cap, .tuple #[u, .agg (vec 32 (bI fun j => dg D (32 + j)))], u, .agg (vec 32 (bI fun j => dg D (32 + j))), .slice (some ⟨w1.heap.size + 1, 0, none⟩) 32 32, .slice am len capm, .slice (some ⟨w4.heap.size, 0, none⟩) 2 2, r, r, .agg (vec 32 (kb R)), u, .agg (vec 32 (kb A)), bif β0 then .slice (some ⟨z5_4, 0, none⟩) 32 32 else undef, bif β1 then .slice (some ⟨z5_5, 0, none⟩) 32 32 else undef, bif β2 then .slice am len capm else undef, bif β3 then .slice (some ⟨z6_3, 0, none⟩) 3 3 else undef, bif β4 then x6_4 else undef, undef, undef, undef, undef, undef, undef, undef, undef, undef, undef, undef, undef], []⟩ ∧ Below w8.heap.size w8 w' ∧ Hid (β4 = true → IsW x6_4 (kN R A m len)) ∧ Hid (β3 = true → w8.heap.size ≤ z6_3 ∧ VarC w' z6_3 #[.slice (some ⟨z5_4, 0, none⟩) 32 32, .slice (some ⟨z5_5, 0, none⟩) 32 32, .slice am len capm]) ∧ Hid (β5 = true → w8.heap.size ≤ z6_5 ∧ VarW w' z6_5 (bif β6 then x6_4 else (W4 0 0 0 0))) ∧ Hid (β3 = true → β5 = true → z6_3 ≠ z6_5) ∧ Hid (β6 = true → β4 = true) ∧ Hid (β6 = true → β5 = true)) ?h06 ?hend6 ?hstep6
  case h06 => exact ⟨false, false, false, false, false, false, false, undef, 0, 0, rfl, rfl, Below.drew (Below.refl _ _), (fun h => by cases h), (fun h => by cases h), (fun h => by cases h), (fun h => by cases h), (fun h => by cases h), (fun h => by cases h)⟩
  case hend6 =>
   intro l a w' hs hI hr0; obtain ⟨β0, β1, β2, β3, β4, β5, β6, x6_4, z6_3, z6_5, rfl, rfl, hB, hc6_4, ha6_3, ha6_5, hd6_3_5, hm6_6_4, hm6_6_5⟩ := hI; have hall := ready_none (by rfl) (depsLow_spec (by kernel_rfl)) hr0; obtain rfl : β0 = true := hall 0 (by decide); obtain rfl : β1 = true := hall 1 (by decide); obtain rfl : β2 = true := hall 2 (by decide); obtain rfl : β3 = true := hall 3 (by decide); obtain rfl : β4 = true := hall 4 (by decide); obtain rfl : β5 = true := hall 5 (by decide); obtain rfl : β6 = true := hall 6 (by decide); clear hall hr0 hs
   replace hc6_4 := hc6_4.out rfl
   replace ha6_3 := ha6_3.out rfl
   replace ha6_5 := ha6_5.out rfl
   replace hd6_3_5 := hd6_3_5.out rfl rfl
   clear hm6_6_4 hm6_6_5; simp only [cond_true] at ha6_3 ha6_5 ⊢; have HK : Hid (IsW x6_4 (kN R A m len)) := hc6_4; have V9 : Hid (VarW w' w6.heap.size r ∧ VarW w' w1.heap.size u ∧ VarR w' w.heap.size 40 64 (bI fun _ => 0) ∧ Below w.heap.size w w' ∧ VarR w' z5_4 30 32 (kb R) ∧ VarW w' z6_5 x6_4) :=
    ⟨V8.out.1.kept hB, V8.out.2.1.kept hB, V8.out.2.2.1.kept hB, V8.out.2.2.2.1.trans (hB.mono V8.out.2.2.2.1.size), V8.out.2.2.2.2.2.1.kept hB, ha6_5.2⟩
   have l1 := V9.out.1.lt; have l2 := V9.out.2.1.lt; have l3 := V9.out.2.2.1.lt; have l4 := V9.out.2.2.2.2.1.lt; have l5 := V9.out.2.2.2.2.2.lt; clear V8 hB hc6_4 ha6_3 ha6_5 hd6_3_5; generalize w' = w9 at V9 l1 l2 l3 l4 l5 ⊢; obtain ⟨w10, hw10⟩ : ∃ w10, w10 = w9.alloc (.cells (vec 64 (bI fun _ => 0)) 40) := ⟨_, rfl⟩
   have V10 : Hid (VarW w10 w6.heap.size r ∧ VarW w10 w1.heap.size u ∧ VarR w10 w.heap.size 40 64 (bI fun _ => 0) ∧ Below w.heap.size w w10 ∧ VarR w10 z5_4 30 32 (kb R) ∧ VarW w10 z6_5 x6_4 ∧ VarR w10 w9.heap.size 40 64 (bI fun _ => 0)) := by
    rw [hw10]; exact ⟨V9.out.1.old _, V9.out.2.1.old _, V9.out.2.2.1.old _, V9.out.2.2.2.1.alloc V9.out.2.2.2.1.size _, V9.out.2.2.2.2.1.old _, V9.out.2.2.2.2.2.old _, VarR.new _ _ _ _⟩
   have hz := (zero_of_info zero54).1; go_wp2; rw [← hw10]; clear hz hw10 V9; refine wp_region_held_drew (S := fun w' => Below w.heap.size w w') (by kernel_rfl) V10.out.2.2.2.1.drew (fun hHeld => ?_); refine tk 0 (.slice (some ⟨w9.heap.size, 0, none⟩) 32 64) (fun w9x hSw => ?_) hHeld ?_
   · have : (Instr.sliceAt 40 (.pointer (some ⟨w9.heap.size, 0, none⟩)) none (some (.int .i64 32)) none).run Tryz.prog w9x = .ok (.slice (some ⟨w9.heap.size, 0, none⟩) 32 64) w9x := upto54 w9.heap.size 32 (by decide) w9x
     go_simp
   simp only [sm]; refine tk 1 (.slice (some ⟨z5_4, 0, none⟩) 32 32) (fun w9x hSw => ?_) hHeld ?_
   · have := arr41 z5_4 w9x
     go_simp
   simp only [sm]; refine rd 2 (fun K hK => ?_); have dR : w10.drew.rowIs z5_4 30 32 (kb R) := V10.out.2.2.2.2.1; have dS : w10.drew.rowIs w9.heap.size 40 64 (bI fun _ => 0) := V10.out.2.2.2.2.2.2; refine Sha.step_copy_vec rfl _ _ 28 28 rfl 5 Tryz.underlying28 (by kernel_rfl) w9.heap.size 0 64 40 _ dS 32 32 64 32 32 ⟨z5_4, 0, none⟩ rfl rfl rfl (kb R) (fun j hj => ?_) (fun j _ => rfl) (by decide) ?_
   · have hadd : (⟨z5_4, 0, none⟩ : Addr).add j = ⟨z5_4, j, none⟩ := by unfold Addr.add; split <;> simp_all
     rw [hadd]; exact dR.cell hj
   intro w11 hr11 ho11; have hr11' : w11.rowIs w9.heap.size 40 64 (bI fun j => if j < 32 then R / 256 ^ j % 256 else 0) := hr11.congr (fun i hi => by
    unfold bI; by_cases e : i < 32
    · rw [if_pos ⟨by omega, by omega⟩, Nat.sub_zero]
      show kb R i = Value.int .u8 (if i < 32 then R / 256 ^ i % 256 else 0); rw [if_pos e]; rfl
    · rw [if_neg (by omega)]
      show Value.int .u8 0 = Value.int .u8 (if i < 32 then R / 256 ^ i % 256 else 0); rw [if_neg e])
   have oth : ∀ {z : Nat} {v : Value}, z ≠ w9.heap.size → VarW w10 z v → VarW w11 z v := fun hz h => ⟨h.1, (ho11.block _ hz).trans h.2⟩
   have V11 : Hid (VarW w11 w6.heap.size r ∧ VarW w11 w1.heap.size u ∧ VarR w11 w.heap.size 40 64 (bI fun _ => 0) ∧ Below w.heap.size w w11 ∧ VarW w11 z6_5 x6_4 ∧ VarR w11 w9.heap.size 40 64 (bI fun j => if j < 32 then R / 256 ^ j % 256 else 0)) :=
    ⟨oth (by omega) V10.out.1, oth (by omega) V10.out.2.1, ho11.row (u := w10.drew) (by omega) V10.out.2.2.1, ho11.below V10.out.2.2.2.1.drew (by omega), oth (by omega) V10.out.2.2.2.2.2.1, hr11'⟩
   refine hK.out _ _ V11.out.2.2.2.1 (fun hHeld => ?_); clear hK K hr11 hr11' ho11 dR dS hHeld V10 oth; try simp only [sm]
   refine wpAnyH_done (by kernel_rfl) ?_ _; go_wp2; generalize hw11 : w11 = w12 at *; clear hw11; refine wp_region_held_drew (S := fun w' => VarW w' w6.heap.size r ∧ VarW w' w1.heap.size u ∧ VarW w' z6_5 x6_4) (by kernel_rfl) ⟨V11.out.1, V11.out.2.1, V11.out.2.2.2.2.1⟩ (fun hHeld => ?_); refine tk 0 (.slice (some ⟨w9.heap.size, 32, none⟩) 32 32) (fun w9x hSw => ?_) hHeld ?_
   · have : (Instr.sliceAt 40 (.pointer (some ⟨w9.heap.size, 0, none⟩)) (some (.int .i64 32)) none none).run Tryz.prog w9x = .ok (.slice (some ⟨w9.heap.size, 32, none⟩) 32 32) w9x := from54 w9.heap.size 32 (by decide) w9x
     go_simp
   simp only [sm]; refine tk 1 (r) (fun w9 hSw => ?_) hHeld ?_
   · exact run_load_exec 51 _ rfl _ rfl hSw.1.load
   simp only [sm]; refine tk 2 (x6_4) (fun w9 hSw => ?_) hHeld ?_
   · exact run_load_exec 51 _ rfl _ rfl hSw.2.2.load
   simp only [sm]; refine tk 3 (u) (fun w9 hSw => ?_) hHeld ?_
   · exact run_load_exec 51 _ rfl _ rfl hSw.2.1.load
   simp only [sm]; have Y0 : Hid (VarW w12.drew w6.heap.size r ∧ VarW w12.drew w1.heap.size u ∧ VarW w12.drew z6_5 x6_4 ∧ VarR w12.drew w.heap.size 40 64 (bI fun _ => 0) ∧ Below w.heap.size w w12.drew ∧ VarR w12.drew w9.heap.size 40 64 (bI fun j => if j < 32 then R / 256 ^ j % 256 else 0)) := ⟨V11.out.1, V11.out.2.1, V11.out.2.2.2.2.1, V11.out.2.2.1, V11.out.2.2.2.1.drew, V11.out.2.2.2.2.2⟩
   clear V11; generalize w12.drew = wd at Y0 hHeld ⊢; refine rd 4 (fun K hK => ?_); go_simp; refine Calls.mono (g_lmul HK.out HU.out _) ?_; rintro e w13 ⟨v13, rfl, h13, b13⟩; have H13 : Hid (IsW v13 (kN R A m len * (secN D % LL) % LL)) := h13; have Y1 : Hid (VarW w13 w6.heap.size r ∧ VarW w13 w1.heap.size u ∧ VarW w13 z6_5 x6_4 ∧ VarR w13 w.heap.size 40 64 (bI fun _ => 0) ∧ Below w.heap.size w w13 ∧ VarR w13 w9.heap.size 40 64 (bI fun j => if j < 32 then R / 256 ^ j % 256 else 0)) := ⟨Y0.out.1.kept b13, Y0.out.2.1.kept b13, Y0.out.2.2.1.kept b13, Y0.out.2.2.2.1.kept b13, Y0.out.2.2.2.2.1.trans (b13.mono Y0.out.2.2.2.2.1.size), Y0.out.2.2.2.2.2.kept b13⟩
   clear Y0 b13 h13; go_wp2_with fail; refine hK.out _ _ ⟨Y1.out.1, Y1.out.2.1, Y1.out.2.2.1⟩ (fun hHeld => ?_); clear hK K; try simp only [sm]
   refine rd 5 (fun K hK => ?_); go_simp; refine Calls.mono (g_ladd HR.out H13.out _) ?_; rintro e w14 ⟨v14, rfl, h14, b14⟩; have H14 : Hid (IsW v14 ((rN D m len + kN R A m len * (secN D % LL) % LL) % LL)) := h14; have Y2 : Hid (VarW w14 w6.heap.size r ∧ VarW w14 w1.heap.size u ∧ VarW w14 z6_5 x6_4 ∧ VarR w14 w.heap.size 40 64 (bI fun _ => 0) ∧ Below w.heap.size w w14 ∧ VarR w14 w9.heap.size 40 64 (bI fun j => if j < 32 then R / 256 ^ j % 256 else 0)) := ⟨Y1.out.1.kept b14, Y1.out.2.1.kept b14, Y1.out.2.2.1.kept b14, Y1.out.2.2.2.1.kept b14, Y1.out.2.2.2.2.1.trans (b14.mono Y1.out.2.2.2.2.1.size), Y1.out.2.2.2.2.2.kept b14⟩
   clear Y1 b14 h14 H13; go_wp2_with fail; refine hK.out _ _ ⟨Y2.out.1, Y2.out.2.1, Y2.out.2.2.1⟩ (fun hHeld => ?_); clear hK K; try simp only [sm]
   obtain ⟨S, hS⟩ : ∃ S, S = (rN D m len + kN R A m len * (secN D % LL) % LL) % LL := ⟨_, rfl⟩
   rw [← hS] at H14; have hSb : 0 ≤ S ∧ S < LL := by rw [hS]; exact ⟨Int.emod_nonneg _ (by decide), Int.emod_lt_of_pos _ (by decide)⟩
   have hSP : S % PP = S := Int.emod_eq_of_lt hSb.1 (Int.lt_trans hSb.2 (by decide)); have HSS : Hid (S = (rN D m len + kN R A m len * (secN D % LL) % LL) % LL) := hS; have HSP : Hid (S % PP = S) := hSP; clear hS hSb hSP; refine rd 6 (fun K hK => ?_); go_simp; refine Calls.mono (fbytes_any H14.out _) ?_; rintro e w15 ⟨b, rfl, hbl, hrow, b15⟩; rw [HSP.out] at hrow; have hbn : w9.heap.size < b := Nat.lt_of_lt_of_le Y2.out.2.2.2.2.2.lt hbl; have Y3 : Hid (VarW w15 w6.heap.size r ∧ VarW w15 w1.heap.size u ∧ VarW w15 z6_5 x6_4 ∧ VarR w15 w.heap.size 40 64 (bI fun _ => 0) ∧ Below w.heap.size w w15 ∧ VarR w15 w9.heap.size 40 64 (bI fun j => if j < 32 then R / 256 ^ j % 256 else 0)) := ⟨Y2.out.1.kept b15, Y2.out.2.1.kept b15, Y2.out.2.2.1.kept b15, Y2.out.2.2.2.1.kept b15, Y2.out.2.2.2.2.1.trans (b15.mono Y2.out.2.2.2.2.1.size), Y2.out.2.2.2.2.2.kept b15⟩
   clear Y2 b15 hbl; go_wp2_with fail; refine hK.out _ _ ⟨Y3.out.1, Y3.out.2.1, Y3.out.2.2.1⟩ (fun hHeld => ?_); clear hK K; try simp only [sm]
   refine rd 7 (fun K hK => ?_); refine Sha.step_copy_vec rfl _ _ 28 28 rfl 5 Tryz.underlying28 (by kernel_rfl) w9.heap.size 32 64 40 _ Y3.out.2.2.2.2.2.row 32 32 32 32 32 ⟨b, 0, none⟩ rfl rfl rfl (kb S) (fun j hj => ?_) (fun j _ => rfl) (by decide) ?_
   · have hadd : (⟨b, 0, none⟩ : Addr).add j = ⟨b, j, none⟩ := by unfold Addr.add; split <;> simp_all
     rw [hadd]; exact hrow.cell hj
   intro w16 hr16 ho16; have hr16' : w16.rowIs w9.heap.size 40 64 (bI (sgB R S)) := hr16.congr (fun i hi => by
    by_cases e : i < 32
    · rw [if_neg (by omega)]
      show Value.int .u8 (if i < 32 then R / 256 ^ i % 256 else 0) = Value.int .u8 (sgB R S i); unfold sgB; rw [if_pos e, if_pos e]
    · rw [if_pos ⟨by omega, by omega⟩]
      show kb S (i - 32) = Value.int .u8 (sgB R S i); unfold sgB; rw [if_neg e]; rfl)
   have oth : ∀ {z : Nat} {v : Value}, z ≠ w9.heap.size → VarW w15 z v → VarW w16 z v := fun hz h => ⟨h.1, (ho16.block _ hz).trans h.2⟩
   have Y4 : Hid (VarR w16 w.heap.size 40 64 (bI fun _ => 0) ∧ Below w.heap.size w w16 ∧ VarR w16 w9.heap.size 40 64 (bI (sgB R S))) := ⟨ho16.row (by omega) Y3.out.2.2.2.1, ho16.below Y3.out.2.2.2.2.1 (by omega), hr16'⟩
   refine hK.out _ _ ⟨oth (by omega) Y3.out.1, oth (by omega) Y3.out.2.1, oth (by omega) Y3.out.2.2.1⟩ (fun hHeld => ?_); clear hK K hr16 hr16' ho16 hHeld Y3 oth hrow; try simp only [sm]
   refine wpAnyH_done (by kernel_rfl) ?_ _; go_wp2_with (first | (refine wpList_load_row rfl 40 _ rfl w9.heap.size rfl 40 _ (0, 0) _ (row_heap Y4.out.2.2.row) Tryz.underlying40 rfl (info54v _) ?_) | (refine wpList_store_row rfl 40 _ _ rfl w.heap.size (vec 64 (bI (sgB R S))) rfl rfl 40 _ (row_heap Y4.out.1.row) (info54v _) (by simp) (one_bI _ _) ?_)); have hl : (loadVar 40 ⟨w.heap.size, 0, none⟩).run Tryz.prog (w16.setRow w.heap.size (vec 64 (bI (sgB R S)))) = .ok (.agg (vec 64 (bI (sgB R S)))) (w16.setRow w.heap.size (vec 64 (bI (sgB R S)))) := run_loadVar_row _ _ 40 40 _ (0, 0) _ (setRow_heap _ _ _ _ _ _ (row_heap Y4.out.1.row)) Tryz.underlying40 rfl (info54v _); refine bodyPost_ret (v := .tuple #[.agg (vec 64 (bI (sgB R S))), .int .i64 0]) (by simp [results, Tryz.results14, asAddr, Act.put, hl]) rfl ⟨?_, below_setRow Y4.out.2.1 (Nat.le_refl _) _⟩; rw [HSS.out]; unfold sigV secondN kkN firN pubN seedN; rw [← HFR.out, ← HFA.out]
  case hstep6 =>
   intro i l a w' hs hI hi; obtain ⟨β0, β1, β2, β3, β4, β5, β6, x6_4, z6_3, z6_5, rfl, rfl, hB, hc6_4, ha6_3, ha6_5, hd6_3_5, hm6_6_4, hm6_6_5⟩ := hI; obtain ⟨hlt, hun, _⟩ := ready_mem hi; have hlt' : i < 7 := hlt; clear hlt hs; have hcs : i = 0 ∨ i = 1 ∨ i = 2 ∨ i = 3 ∨ i = 4 ∨ i = 5 ∨ i = 6 := by omega
   clear hlt'; rcases hcs with rfl | rfl | rfl | rfl | rfl | rfl | rfl
   · obtain rfl : β0 = false := hun
     clear hi; try simp only [cond_true, cond_false]
     refine ws (fun Kx hK => ?_); refine step_yield (v := .slice (some ⟨z5_4, 0, none⟩) 32 32) (by rfl) ?_ ?_
     · have := arr41 z5_4 w'
       go_simp
     · exact hK.out _ _ ⟨true, β1, β2, β3, β4, β5, β6, x6_4, z6_3, z6_5, rfl, rfl, hB, hc6_4, ha6_3, ha6_5, hd6_3_5, hm6_6_4, hm6_6_5⟩
   · obtain rfl : β1 = false := hun
     clear hi; try simp only [cond_true, cond_false]
     refine ws (fun Kx hK => ?_); refine step_yield (v := .slice (some ⟨z5_5, 0, none⟩) 32 32) (by rfl) ?_ ?_
     · have := arr41 z5_5 w'
       go_simp
     · exact hK.out _ _ ⟨β0, true, β2, β3, β4, β5, β6, x6_4, z6_3, z6_5, rfl, rfl, hB, hc6_4, ha6_3, ha6_5, hd6_3_5, hm6_6_4, hm6_6_5⟩
   · obtain rfl : β2 = false := hun
     clear hi; try simp only [cond_true, cond_false]
     refine ws (fun Kx hK => ?_); refine step_yield (v := .slice am len capm) (by rfl) ?_ ?_
     · go_simp
     · exact hK.out _ _ ⟨β0, β1, true, β3, β4, β5, β6, x6_4, z6_3, z6_5, rfl, rfl, hB, hc6_4, ha6_3, ha6_5, hd6_3_5, hm6_6_4, hm6_6_5⟩
   · obtain rfl : β3 = false := hun
     obtain rfl : β0 = true := ready_dep (k := 0) hi rfl rfl rfl; obtain rfl : β1 = true := ready_dep (k := 1) hi rfl rfl rfl; obtain rfl : β2 = true := ready_dep (k := 2) hi rfl rfl rfl; clear hi; try simp only [cond_true, cond_false]
     refine ws (fun Kx hK => ?_); go_simp; exact hK.out _ _ ⟨true, true, true, true, β4, β5, β6, x6_4, w'.heap.size, z6_5, rfl, rfl, (hB.alloc hB.size _), hc6_4, (fun _ => ⟨hB.size, VarC.new _ _⟩), (fun h => ⟨(ha6_5.out h).1, (ha6_5.out h).2.old _⟩), (fun _ h => Nat.ne_of_gt (ha6_5.out h).2.lt), hm6_6_4, hm6_6_5⟩
   · obtain rfl : β4 = false := hun
     obtain rfl : β3 = true := ready_dep (k := 0) hi rfl rfl rfl; obtain rfl : β6 = false := Bool.eq_false_iff.2 (fun h => by have := hm6_6_4.out h; cases this)
     replace ha6_3 := ha6_3.out rfl
     have he6_3_5 : Hid (β5 = true → z6_3 ≠ z6_5) := fun h => hd6_3_5.out rfl h
     clear hi; try simp only [cond_true, cond_false]
     refine ws (fun Kx hK => ?_); go_simp; refine Calls.mono (number3 (V8.out.2.2.2.2.2.1.kept hB).row (fun j _ => kb_bd R j) (V8.out.2.2.2.2.2.2.kept hB).row (fun j _ => kb_bd A j) (V8.out.2.2.2.2.1.below hB) ha6_3.2) ?_; rintro e w2 ⟨v, rfl, hv, hb2⟩; go_wp2_with fail; exact hK.out _ _ ⟨β0, β1, β2, true, true, β5, false, v, z6_3, z6_5, rfl, rfl, (hB.trans (hb2.mono hB.size)), (fun _ => hv), (fun _ => ⟨ha6_3.1, ha6_3.2.kept hb2⟩), (fun h => ⟨(ha6_5.out h).1, (ha6_5.out h).2.kept hb2⟩), (fun _ h => he6_3_5.out h), (fun _ => rfl), hm6_6_5⟩
   · obtain rfl : β5 = false := hun
     obtain rfl : β6 = false := Bool.eq_false_iff.2 (fun h => by have := hm6_6_5.out h; cases this); clear hi; try simp only [cond_true, cond_false]
     refine ws (fun Kx hK => ?_); go_simp; exact hK.out _ _ ⟨β0, β1, β2, β3, β4, true, false, x6_4, z6_3, w'.heap.size, rfl, rfl, (hB.alloc hB.size _), hc6_4, (fun h => ⟨(ha6_3.out h).1, (ha6_3.out h).2.old _⟩), (fun _ => ⟨hB.size, VarW.new _⟩), (fun h _ => Nat.ne_of_lt (ha6_3.out h).2.lt), hm6_6_4, (fun _ => rfl)⟩
   · obtain rfl : β6 = false := hun
     obtain rfl : β4 = true := ready_dep (k := 1) hi rfl rfl rfl; obtain rfl : β5 = true := ready_dep (k := 0) hi rfl rfl rfl
     replace hc6_4 := hc6_4.out rfl
     replace ha6_5 := ha6_5.out rfl
     have he6_3_5 : Hid (β3 = true → z6_3 ≠ z6_5) := fun h => hd6_3_5.out h rfl
     clear hi; try simp only [cond_true, cond_false]
     refine ws (fun Kx hK => ?_); refine step_store_varW (u := x6_4) (by rfl) _ _ rfl z6_5 rfl rfl hc6_4 ha6_5.2 ?_; exact hK.out _ _ ⟨β0, β1, β2, β3, true, true, true, x6_4, z6_3, z6_5, rfl, rfl, (below_setRow hB ha6_5.1 _), (fun _ => hc6_4), (fun h => ⟨(ha6_3.out h).1, (ha6_3.out h).2.other (hd6_3_5.out h rfl) _⟩), (fun _ => ⟨ha6_5.1, ha6_5.2.put hc6_4⟩), hd6_3_5, (fun _ => rfl), (fun _ => rfl)⟩
 case hstep5 =>
  intro i l a w' hs hI hi; obtain ⟨β0, β1, β2, β3, β4, β5, β6, β7, z5_4, z5_5, rfl, rfl, hB, ha5_4, ha5_5, hd5_4_5, hm5_6_4, hm5_7_5⟩ := hI; obtain ⟨hlt, hun, _⟩ := ready_mem hi; have hlt' : i < 8 := hlt; clear hlt hs; have hcs : i = 0 ∨ i = 1 ∨ i = 2 ∨ i = 3 ∨ i = 4 ∨ i = 5 ∨ i = 6 ∨ i = 7 := by omega
  clear hlt'; rcases hcs with rfl | rfl | rfl | rfl | rfl | rfl | rfl | rfl
  · obtain rfl : β0 = false := hun
    clear hi; try simp only [cond_true, cond_false]
    refine ws (fun Kx hK => ?_); refine step_yield (v := r) (by rfl) ?_ ?_
    · exact run_load_exec 51 _ rfl _ rfl (V7.out.1.kept hB).load
    · exact hK.out _ _ ⟨true, β1, β2, β3, β4, β5, β6, β7, z5_4, z5_5, rfl, rfl, hB, ha5_4, ha5_5, hd5_4_5, hm5_6_4, hm5_7_5⟩
  · obtain rfl : β1 = false := hun
    obtain rfl : β0 = true := ready_dep (k := 0) hi rfl rfl rfl; clear hi; try simp only [cond_true, cond_false]
    refine ws (fun Kx hK => ?_); go_simp; refine Calls.mono (g_tbase HR.out _) ?_; rintro e w2 ⟨rfl, hb2⟩; rw [← HFR.out]; unfold keyV; go_wp2_with fail; exact hK.out _ _ ⟨true, true, β2, β3, β4, β5, β6, β7, z5_4, z5_5, rfl, rfl, (hB.trans (hb2.mono hB.size)), (fun h => ⟨(ha5_4.out h).1, (ha5_4.out h).2.kept hb2⟩), (fun h => ⟨(ha5_5.out h).1, (ha5_5.out h).2.kept hb2⟩), hd5_4_5, hm5_6_4, hm5_7_5⟩
  · obtain rfl : β2 = false := hun
    clear hi; try simp only [cond_true, cond_false]
    refine ws (fun Kx hK => ?_); refine step_yield (v := u) (by rfl) ?_ ?_
    · exact run_load_exec 51 _ rfl _ rfl (V7.out.2.1.kept hB).load
    · exact hK.out _ _ ⟨β0, β1, true, β3, β4, β5, β6, β7, z5_4, z5_5, rfl, rfl, hB, ha5_4, ha5_5, hd5_4_5, hm5_6_4, hm5_7_5⟩
  · obtain rfl : β3 = false := hun
    obtain rfl : β2 = true := ready_dep (k := 0) hi rfl rfl rfl; clear hi; try simp only [cond_true, cond_false]
    refine ws (fun Kx hK => ?_); go_simp; refine Calls.mono (g_tbase HU.out _) ?_; rintro e w2 ⟨rfl, hb2⟩; rw [← HFA.out]; unfold keyV; go_wp2_with fail; exact hK.out _ _ ⟨β0, β1, true, true, β4, β5, β6, β7, z5_4, z5_5, rfl, rfl, (hB.trans (hb2.mono hB.size)), (fun h => ⟨(ha5_4.out h).1, (ha5_4.out h).2.kept hb2⟩), (fun h => ⟨(ha5_5.out h).1, (ha5_5.out h).2.kept hb2⟩), hd5_4_5, hm5_6_4, hm5_7_5⟩
  · obtain rfl : β4 = false := hun
    obtain rfl : β6 = false := Bool.eq_false_iff.2 (fun h => by have := hm5_6_4.out h; cases this); clear hi; try simp only [cond_true, cond_false]
    refine ws (fun Kx hK => ?_); have hzz := (zero_of_info zero41).1; go_simp; exact hK.out _ _ ⟨β0, β1, β2, β3, true, β5, false, β7, w'.heap.size, z5_5, rfl, rfl, (hB.alloc hB.size _), (fun _ => ⟨hB.size, VarR.new _ _ _ _⟩), (fun h => ⟨(ha5_5.out h).1, (ha5_5.out h).2.old _⟩), (fun _ h => Nat.ne_of_gt (ha5_5.out h).2.lt), (fun _ => rfl), hm5_7_5⟩
  · obtain rfl : β5 = false := hun
    obtain rfl : β7 = false := Bool.eq_false_iff.2 (fun h => by have := hm5_7_5.out h; cases this); clear hi; try simp only [cond_true, cond_false]
    refine ws (fun Kx hK => ?_); have hzz := (zero_of_info zero41).1; go_simp; exact hK.out _ _ ⟨β0, β1, β2, β3, β4, true, β6, false, z5_4, w'.heap.size, rfl, rfl, (hB.alloc hB.size _), (fun h => ⟨(ha5_4.out h).1, (ha5_4.out h).2.old _⟩), (fun _ => ⟨hB.size, VarR.new _ _ _ _⟩), (fun h _ => Nat.ne_of_lt (ha5_4.out h).2.lt), hm5_6_4, (fun _ => rfl)⟩
  · obtain rfl : β6 = false := hun
    obtain rfl : β1 = true := ready_dep (k := 1) hi rfl rfl rfl; obtain rfl : β4 = true := ready_dep (k := 0) hi rfl rfl rfl
    replace ha5_4 := ha5_4.out rfl
    have he5_4_5 : Hid (β5 = true → z5_4 ≠ z5_5) := fun h => hd5_4_5.out rfl h
    clear hi; try simp only [cond_true, cond_false]
    refine ws (fun Kx hK => ?_); refine step_store_row (by rfl) 30 _ _ rfl z5_4 (vec 32 (kb R)) rfl rfl (run_storeVar_row _ _ 30 30 _ _ (row_heap ha5_4.2.row) (info41v _) (by simp) (one_kb _ _)) ?_; exact hK.out _ _ ⟨β0, true, β2, β3, true, β5, true, β7, z5_4, z5_5, rfl, rfl, (below_setRow hB ha5_4.1 _), (fun _ => ⟨ha5_4.1, ha5_4.2.put⟩), (fun h => ⟨(ha5_5.out h).1, (ha5_5.out h).2.other (Ne.symm (hd5_4_5.out rfl h)) _⟩), hd5_4_5, (fun _ => rfl), hm5_7_5⟩
  · obtain rfl : β7 = false := hun
    obtain rfl : β3 = true := ready_dep (k := 1) hi rfl rfl rfl; obtain rfl : β5 = true := ready_dep (k := 0) hi rfl rfl rfl
    replace ha5_5 := ha5_5.out rfl
    have he5_4_5 : Hid (β4 = true → z5_4 ≠ z5_5) := fun h => hd5_4_5.out h rfl
    clear hi; try simp only [cond_true, cond_false]
    refine ws (fun Kx hK => ?_); refine step_store_row (by rfl) 30 _ _ rfl z5_5 (vec 32 (kb A)) rfl rfl (run_storeVar_row _ _ 30 30 _ _ (row_heap ha5_5.2.row) (info41v _) (by simp) (one_kb _ _)) ?_; exact hK.out _ _ ⟨β0, β1, β2, true, β4, true, β6, true, z5_4, z5_5, rfl, rfl, (below_setRow hB ha5_5.1 _), (fun h => ⟨(ha5_4.out h).1, (ha5_4.out h).2.other (hd5_4_5.out h rfl) _⟩), (fun _ => ⟨ha5_5.1, ha5_5.2.put⟩), hd5_4_5, hm5_6_4, (fun _ => rfl)⟩
end Go.Proofs.YtojfcdjgcgnajaaGreat
