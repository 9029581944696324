/- AL, GR, OP, OP2 -/
import Derived.Test.YtionjibiemncbabGreatGHV
import Derived.Test.YtionjibiemncbabGreatRows
import Derived.Test.YtionjibiemncbabGreatGShH1
import Derived.Test.YtionjibiemncbabGreatGShH9
import Derived.ProofKit
import Derived.Carry
import Derived.ChangeSlices
import Derived.SizedLaws
import Derived.Laws.IdiomArrays
import Derived.Test.YtionjibiemncbabGreatGES
import Derived.ChangeSame
set_option linter.unusedSimpArgs false
set_option linter.unusedVariables false
namespace Go.Proofs.YtionjibiemncbabGreat
open Go.RowKit
set_option maxRecDepth 100000
theorem seed_lit : (#[.int .u8 157, .int .u8 97, .int .u8 177, .int .u8 157, .int .u8 239, .int .u8 253, .int .u8 90, .int .u8 96, .int .u8 186, .int .u8 132, .int .u8 74, .int .u8 244, .int .u8 146, .int .u8 236, .int .u8 44, .int .u8 196, .int .u8 68, .int .u8 73, .int .u8 197, .int .u8 105, .int .u8 123, .int .u8 50, .int .u8 105, .int .u8 25, .int .u8 112, .int .u8 59, .int .u8 172, .int .u8 3, .int .u8 28, .int .u8 174, .int .u8 127, .int .u8 96] : Array Value) = vec 32 (Sha.byt (Sha.litM Sha.e1M)) := by kernel_rfl
theorem seed_any (w : World) : Calls Tryz.prog 23 #[] w fun e w' => ∃ z, e = .returned (.slice (some ⟨z, 0, none⟩) 32 32) ∧ Sha.Bytes w' (some ⟨z, 0, none⟩) 32 32 (Sha.litM Sha.e1M) ∧ Below w.heap.size w w' := by
  go_enter Tryz.func23, Tryz.ntmps23
  go_wp2
  rw [seed_lit]
  have hr : (w.alloc (.cells (vec 32 (Sha.byt (Sha.litM Sha.e1M))) 5)).rowIs w.heap.size 5 32 (Sha.byt (Sha.litM Sha.e1M)) := heap_row (heap_alloc_new _ _)
  go_ret
  exact ⟨w.heap.size, rfl, ⟨w.heap.size, 0, fun _ => rfl, fun j hj => by rw [Nat.zero_add]; exact hr.cell hj, by decide, by decide, by decide⟩, by go_grown⟩
theorem bytes_nil (w : World) (m : Nat → BitVec 8) : Sha.Bytes w none 0 0 m := ⟨0, 0, fun h => absurd h (by decide), fun j hj => absurd hj (by omega), by decide, by decide, by decide⟩
theorem bytes_one (w : World) (z : Nat) (h : w.heap[z]? = some (.cells #[.int .u8 1] 5 (0, 0))) : Sha.Bytes w (some ⟨z, 0, none⟩) 1 1 (fun _ => 1#8) :=
  ⟨z, 0, fun _ => rfl, fun j hj => by
    obtain rfl : j = 0 := by omega
    rw [cell_of_row _ _ 0 _ _ _ h]; rfl, by decide, by decide, by decide⟩
def SE : Int := secondN D0 (fun _ => 0#8) 0
theorem ex_public (ao : Option Addr) (cap : Nat) (w : World) (hb : Sha.Bytes w ao 32 cap (Sha.litM Sha.e1M)) : Calls Tryz.prog 22 #[.slice ao 32 cap] w fun e w' => e = .returned (.tuple #[keyV AE, .int .i64 0]) ∧ Below w.heap.size w w' := by
  have h := g_public ao cap _ D0 (by unfold D0; rfl) w hb
  rw [ex_pub] at h
  exact h
theorem ex_sign (ao : Option Addr) (cap : Nat) (w : World) (hb : Sha.Bytes w ao 32 cap (Sha.litM Sha.e1M)) : Calls Tryz.prog 24 #[.slice ao 32 cap, .slice none 0 0] w fun e w' => e = .returned (.tuple #[sigV RE SE, .int .i64 0]) ∧ Below w.heap.size w w' := by
  have h := g_sign ao none cap 0 0 _ (fun _ => 0#8) D0 (by unfold D0; rfl) w hb (bytes_nil w _)
  rw [ex_fir] at h
  exact h
theorem SE_bd : 0 ≤ SE ∧ SE < T256 := ⟨(second_bd _ _ _).1, Int.lt_trans (second_bd _ _ _).2 (by decide)⟩
theorem SE_holds : Holds AE RE SE (fun _ => 0#8) 0 := by
  have h := signed_holds D0 (fun _ => 0#8) 0
  rw [ex_pub, ex_fir] at h
  exact h
theorem SE_not : ¬ Holds AE RE SE (fun _ => 1#8) 1 := by
  intro h
  have e1 : AE = encP (Pt.mul aE.toNat Pt.base) := ex_A.symm
  have e2 : RE = encP (Pt.mul rE.toNat Pt.base) := ex_R.symm
  have h1 := SE_holds
  rw [e1, e2] at h h1
  have i1 := (holds_iff _ _ SE SE_bd.1 _ _).1 h1
  have i2 := (holds_iff _ _ SE SE_bd.1 _ _).1 h
  rw [ex_A, ex_R] at i1 i2
  rw [ex_k] at i1
  rw [ex_k2 _ rfl] at i2
  have e := i1.2.symm.trans i2.2
  rw [mul_add, mul_add, add_comm, add_comm (Pt.mul rE.toNat Pt.base)] at e
  have e3 := add_cancel e
  have key : (kE.toNat * aE.toNat) % LN = (k2E.toNat * aE.toNat) % LN := base_inj (Nat.mod_lt _ (by decide)) (Nat.mod_lt _ (by decide)) (by rw [mul_modL, mul_modL]; exact e3)
  revert key
  decide +kernel
set_option maxHeartbeats 4000000 in
theorem alive_any (w : World) : Calls Tryz.prog 8 #[] w fun e w' => e = .returned (.bool true) ∧ Below w.heap.size w w' := by
  have hk0 : kb AE 0 = .int .u8 215 := by unfold kb; congr 1
  have hk1 : kb AE 1 = .int .u8 90 := by unfold kb; congr 1
  have hk31 : kb AE 31 = .int .u8 26 := by unfold kb; congr 1
  have hs0 : bI (sgB RE SE) 0 = .int .u8 229 := by unfold bI sgB; rw [if_pos (by decide)]; congr 1
  have hs1 : bI (sgB RE SE) 1 = .int .u8 86 := by unfold bI sgB; rw [if_pos (by decide)]; congr 1
  have HB : Hid ((0 ≤ AE ∧ AE < T256) ∧ (0 ≤ RE ∧ RE < T256) ∧ (0 ≤ SE ∧ SE < T256)) := ⟨by decide, by decide, SE_bd⟩
  have HH1 : Hid (Holds AE RE SE (fun _ => 0#8) 0) := SE_holds
  have HH2 : Hid (¬ Holds AE RE SE (fun _ => 1#8) 1) := SE_not
  have HP : Hid (∀ (ao : Option Addr) (cap : Nat) (w : World), Sha.Bytes w ao 32 cap (Sha.litM Sha.e1M) → Calls Tryz.prog 22 #[.slice ao 32 cap] w fun e w' => e = .returned (.tuple #[keyV AE, .int .i64 0]) ∧ Below w.heap.size w w') := ex_public
  have HS : Hid (∀ (ao : Option Addr) (cap : Nat) (w : World), Sha.Bytes w ao 32 cap (Sha.litM Sha.e1M) → Calls Tryz.prog 24 #[.slice ao 32 cap, .slice none 0 0] w fun e w' => e = .returned (.tuple #[sigV RE SE, .int .i64 0]) ∧ Below w.heap.size w w') := ex_sign
  generalize AE = A at *
  generalize RE = R at *
  generalize SE = S at *
  go_enter Tryz.func8, Tryz.ntmps8
  go_wp2_with fail
  refine Calls.mono (seed_any _) ?_
  rintro e w1 ⟨z1, rfl, hb1, b1⟩
  go_wp2_with fail
  refine Calls.mono (HP.out _ _ _ hb1) ?_
  rintro e w2 ⟨rfl, b2⟩
  have hB2 : Hid (Below w.heap.size w w2) := b1.trans (b2.mono b1.size)
  clear b1 b2 hb1 HP
  have hz := (zero_of_info zero41).1
  unfold keyV
  go_wp2_with (refine wpList_store_row rfl 28 _ _ rfl w2.heap.size (vec 32 (kb A)) rfl rfl 28 _ (heap_alloc_new _ _) (info41v _) (by simp) (one_kb _ _) ?_; rw [World.setRow_alloc_new])
  clear hz
  have V3 : Hid (VarR (w2.alloc (.cells (vec 32 (kb A)) 28)) w2.heap.size 28 32 (kb A) ∧ Below w.heap.size w (w2.alloc (.cells (vec 32 (kb A)) 28))) := ⟨VarR.new _ _ _ _, hB2.out.alloc hB2.out.size _⟩
  clear hB2
  generalize w2.alloc (.cells (vec 32 (kb A)) 28) = w3 at V3 ⊢
  generalize w2.heap.size = zk at V3 ⊢
  refine Calls.mono (seed_any _) ?_
  rintro e w4 ⟨z4, rfl, hb4, b4⟩
  have V4 : Hid (VarR w4 zk 28 32 (kb A) ∧ Below w.heap.size w w4) := ⟨V3.out.1.kept b4, V3.out.2.trans (b4.mono V3.out.2.size)⟩
  clear V3 b4
  go_wp2_with fail
  refine Calls.mono (HS.out _ _ _ hb4) ?_
  rintro e w5 ⟨rfl, b5⟩
  have V5 : Hid (VarR w5 zk 28 32 (kb A) ∧ Below w.heap.size w w5) := ⟨V4.out.1.kept b5, V4.out.2.trans (b5.mono V4.out.2.size)⟩
  clear V4 b5 hb4 HS
  have hz := (zero_of_info zero54).1
  unfold sigV
  obtain ⟨w6, hw6⟩ : ∃ w6, w6 = w5.alloc (.cells (vec 64 (bI (sgB R S))) 54) := ⟨_, rfl⟩
  have HW6 : Hid (w6 = w5.alloc (.cells (vec 64 (bI (sgB R S))) 54)) := hw6
  have V6 : Hid (VarR w6 zk 28 32 (kb A) ∧ VarR w6 w5.heap.size 54 64 (bI (sgB R S)) ∧ Below w.heap.size w w6) := by
    rw [hw6]; exact ⟨V5.out.1.old _, VarR.new _ _ _ _, V5.out.2.alloc V5.out.2.size _⟩
  clear hw6 V5
  have c0 : w6.cell? ⟨zk, 0, none⟩ = some (.int .u8 215) := (V6.out.1.row.cell (i := 0) (by decide)).trans (by rw [hk0])
  have c1 : w6.cell? ⟨zk, 1, none⟩ = some (.int .u8 90) := (V6.out.1.row.cell (i := 1) (by decide)).trans (by rw [hk1])
  have c31 : w6.cell? ⟨zk, 31, none⟩ = some (.int .u8 26) := (V6.out.1.row.cell (i := 31) (by decide)).trans (by rw [hk31])
  have d0 : w6.cell? ⟨w5.heap.size, 0, none⟩ = some (.int .u8 229) := (V6.out.2.1.row.cell (i := 0) (by decide)).trans (by rw [hs0])
  have d1 : w6.cell? ⟨w5.heap.size, 1, none⟩ = some (.int .u8 86) := (V6.out.2.1.row.cell (i := 1) (by decide)).trans (by rw [hs1])
  clear hk0 hk1 hk31 hs0 hs1
  have l41 : ∀ {w : World}, VarR w zk 28 32 (kb A) → (loadVar 28 ⟨zk, 0, none⟩).run Tryz.prog w = .ok (.agg (vec 32 (kb A))) w := fun h => run_loadVar_row _ _ 28 28 _ (0, 0) _ (row_heap h.row) Tryz.underlying28 rfl (info41v _)
  have l54 : ∀ {w : World}, VarR w w5.heap.size 54 64 (bI (sgB R S)) → (loadVar 54 ⟨w5.heap.size, 0, none⟩).run Tryz.prog w = .ok (.agg (vec 64 (bI (sgB R S)))) w := fun h => run_loadVar_row _ _ 54 54 _ (0, 0) _ (row_heap h.row) Tryz.underlying54 rfl (info54v _)
  have L41 : Hid (∀ {w : World}, VarR w zk 28 32 (kb A) → (loadVar 28 ⟨zk, 0, none⟩).run Tryz.prog w = .ok (.agg (vec 32 (kb A))) w) := l41
  have L54 : Hid (∀ {w : World}, VarR w w5.heap.size 54 64 (bI (sgB R S)) → (loadVar 54 ⟨w5.heap.size, 0, none⟩).run Tryz.prog w = .ok (.agg (vec 64 (bI (sgB R S)))) w) := l54
  clear l41 l54
  go_wp2_with (first | (refine wpList_store_row rfl 54 _ _ rfl w5.heap.size (vec 64 (bI (sgB R S))) rfl rfl 54 _ (heap_alloc_new _ _) (info54v _) (by simp) (one_bI _ _) ?_; rw [World.setRow_alloc_new, ← HW6.out]) | (refine wpList_load_want (by rfl) 28 _ rfl _ rfl (L41.out V6.out.1) ?_) | (refine wpList_load_want (by rfl) 54 _ rfl _ rfl (L54.out V6.out.2.1) ?_))
  clear hz HW6 c0 c1 c31 d0 d1
  have hv1 := g_verify HB.out.1.1 HB.out.1.2 HB.out.2.1.1 HB.out.2.1.2 HB.out.2.2.1 HB.out.2.2.2 none 0 0 (fun _ => 0#8) w6 (bytes_nil w6 _)
  unfold keyV sigV at hv1
  refine Calls.mono hv1 ?_
  clear hv1
  rintro e w7 ⟨bb, rfl, hbb, b7⟩
  obtain rfl : bb = true := hbb.2 HH1.out
  clear hbb HH1
  have V7 : Hid (VarR w7 zk 28 32 (kb A) ∧ VarR w7 w5.heap.size 54 64 (bI (sgB R S)) ∧ Below w.heap.size w w7) := ⟨V6.out.1.kept b7, V6.out.2.1.kept b7, V6.out.2.2.trans (b7.mono V6.out.2.2.size)⟩
  clear V6 b7
  have V8 : Hid (VarR (w7.alloc (.cells #[.int .u8 1] 5)) zk 28 32 (kb A) ∧ VarR (w7.alloc (.cells #[.int .u8 1] 5)) w5.heap.size 54 64 (bI (sgB R S)) ∧ Below w.heap.size w (w7.alloc (.cells #[.int .u8 1] 5)) ∧ Sha.Bytes (w7.alloc (.cells #[.int .u8 1] 5)) (some ⟨w7.heap.size, 0, none⟩) 1 1 (fun _ => 1#8)) := ⟨V7.out.1.old _, V7.out.2.1.old _, V7.out.2.2.alloc V7.out.2.2.size _, bytes_one _ _ (heap_alloc_new _ _)⟩
  go_wp2_with (first | (refine wpList_load_want (by rfl) 28 _ rfl _ rfl (L41.out V7.out.1) ?_) | (refine wpList_load_want (by rfl) 54 _ rfl _ rfl (L54.out V8.out.2.1) ?_))
  generalize w7.alloc (.cells #[.int .u8 1] 5) = w8 at V8 ⊢
  generalize w7.heap.size = z7 at V8 ⊢
  have hv2 := g_verify HB.out.1.1 HB.out.1.2 HB.out.2.1.1 HB.out.2.1.2 HB.out.2.2.1 HB.out.2.2.2 (some ⟨z7, 0, none⟩) 1 1 (fun _ => 1#8) w8 V8.out.2.2.2
  unfold keyV sigV at hv2
  refine Calls.mono hv2 ?_
  clear hv2
  rintro e w9 ⟨bb, rfl, hbb, b9⟩
  obtain rfl : bb = false := Bool.eq_false_iff.2 (fun h => HH2.out (hbb.1 h))
  clear hbb HH2
  have hB9 : Hid (Below w.heap.size w w9) := V8.out.2.2.1.trans (b9.mono V8.out.2.2.1.size)
  clear V7 V8 b9 L41 L54
  go_wp2_with fail
  refine Calls.mono (g_baseX _) ?_
  rintro e w10 ⟨rfl, b10⟩
  go_wp2_with fail
  refine Calls.mono (g_on isF_BX isF_BY _) ?_
  rintro e w11 ⟨rfl, b11⟩
  rw [show ptOf ((toF BX).val : Int) ((toF BY).val : Int) = some Pt.base from ptOf_pt Pt.base]
  have hB11 : Hid (Below w.heap.size w w11) := (hB9.out.trans (b10.mono hB9.out.size)).trans (b11.mono (hB9.out.trans (b10.mono hB9.out.size)).size)
  clear hB9 b10 b11
  go_wp2
  go_ret
  exact ⟨rfl, hB11.out⟩
end Go.Proofs.YtionjibiemncbabGreat
namespace Go.Proofs.YtionjibiemncbabGreat
open Go.RowKit
theorem load26 {w : World} {z : Nat} {v0 v1 : Value} (h : VarS w z 26 [v0, v1]) : (loadVar 26 ⟨z, 0, none⟩).run Tryz.prog w = .ok (.agg (catW [v0, v1])) w :=
  run_loadVar_row w z 26 26 _ (0, 0) _ h.2 Tryz.underlying26 rfl (by rw [catW_size h.1]; kernel_rfl)
set_option maxRecDepth 100000 in
set_option maxHeartbeats 2000000 in
theorem g_own {p0 p1 : Value} {x y : Int} (h0 : IsW p0 x) (h1 : IsW p1 y) (w : World) : Calls Tryz.prog 7 #[.agg (catW [p0, p1])] w fun e w' => e = .returned (.agg (catW [p0, p1])) ∧ Below w.heap.size w w' := by
  have A0 : Hid (IsW p0 x) := h0
  have A1 : Hid (IsW p1 y) := h1
  have V0 : Hid (VarS ((w.alloc (.cells (catW [p0, p1]) 26)).alloc (.cells #[.int .u64 0, .int .u64 0, .int .u64 0, .int .u64 0, .int .u64 0, .int .u64 0, .int .u64 0, .int .u64 0] 29)) w.heap.size 26 [p0, p1] ∧ VarS ((w.alloc (.cells (catW [p0, p1]) 26)).alloc (.cells #[.int .u64 0, .int .u64 0, .int .u64 0, .int .u64 0, .int .u64 0, .int .u64 0, .int .u64 0, .int .u64 0] 29)) (w.heap.size + 1) 29 [W4 0 0 0 0, W4 0 0 0 0] ∧ Below w.heap.size w ((w.alloc (.cells (catW [p0, p1]) 26)).alloc (.cells #[.int .u64 0, .int .u64 0, .int .u64 0, .int .u64 0, .int .u64 0, .int .u64 0, .int .u64 0, .int .u64 0] 29))) := ⟨⟨words2 h0 h1, heap_old _ _ _ _ (heap_alloc_new _ _)⟩, ⟨words2 isw0 isw0, by rw [← zero8]; exact heapAt _ _ _ (by simp)⟩, by go_grown⟩
  clear h0 h1
  have hst := V0.out.2.1.store (us := [p0, p1]) (words2 A0.out A1.out) rfl (by kernel_rfl)
  have hl := load28 (V0.out.2.1.put (words2 A0.out A1.out))
  obtain ⟨a0, a1, a2, a3, rfl, _, _⟩ := A0.out
  obtain ⟨b0, b1, b2, b3, rfl, _, _⟩ := A1.out
  go_enter Tryz.func7, Tryz.ntmps7
  go_wp2_with (first | (refine wpList_load_run rfl 24 _ rfl _ rfl (V0.out.1.part 0 rfl) ?_) | (refine wpList_load_run rfl 24 _ rfl _ rfl (V0.out.1.part 1 rfl) ?_) | (refine wpList_build rfl 29 _ rfl (by kernel_rfl) ?_; generalize hG : (Program.built _ _ _).getD #[] = G; obtain rfl : G = catW [W4 a0 a1 a2 a3, W4 b0 b1 b2 b3] := by rw [← hG]; kernel_rfl) | (refine wpList_store_run rfl 29 _ _ rfl (w.heap.size + 1) (catW [W4 a0 a1 a2 a3, W4 b0 b1 b2 b3]) rfl rfl hst ?_))
  exact bodyPost_ret (v := .agg (catW [W4 a0 a1 a2 a3, W4 b0 b1 b2 b3])) (by simp [results, Tryz.results7, asAddr, Act.put, hl]) rfl ⟨rfl, below_setRow V0.out.2.2 (by omega) _⟩
end Go.Proofs.YtionjibiemncbabGreat
namespace Go.Proofs.YtionjibiemncbabGreat
open Go.ChangeShapes Go.WideShapes Go.ChangeAt Go.WideElems Go.RowKit
set_option maxRecDepth 100000
theorem Tryz.own : ownKnob Tryz.prog.godebug = none := by kernel_rfl
theorem Tryz.cells22 : Tryz.prog.cellsOf 22 = 1 := by kernel_rfl
theorem Tryz.cells24 : Tryz.prog.cellsOf 24 = 4 := by kernel_rfl
theorem limb_of {x : Int} (h : (Lit.int .u64 x).wf = true) : Limb x := by
  simp [Lit.wf, IntKind.min, IntKind.max, IntKind.signed, IntKind.bits] at h
  exact ⟨by omega, by omega⟩
def Wf4 (a0 a1 a2 a3 : Int) : Prop := (Lit.int .u64 a0).wf = true ∧ (Lit.int .u64 a1).wf = true ∧ (Lit.int .u64 a2).wf = true ∧ (Lit.int .u64 a3).wf = true
theorem Wf4.L4 {a0 a1 a2 a3 : Int} (h : Wf4 a0 a1 a2 a3) : L4 a0 a1 a2 a3 := ⟨limb_of h.1, limb_of h.2.1, limb_of h.2.2.1, limb_of h.2.2.2⟩
abbrev dW {H : Type} (a0 a1 a2 a3 : Int) : DataW H := DataW.agg [.lit (.int .u64 a0), .lit (.int .u64 a1), .lit (.int .u64 a2), .lit (.int .u64 a3)]
end Go.Proofs.YtionjibiemncbabGreat
namespace Go.Proofs.YtionjibiemncbabGreat
open Go.ChangeShapes Go.WideShapes Go.ChangeAt Go.WideElems Go.RowKit
set_option maxRecDepth 100000
theorem Tryz.cells26 : Tryz.prog.cellsOf 26 = 8 := by kernel_rfl
theorem list8 {α : Type} (l : List α) (h : (⟨l⟩ : Array α).size = 8) : ∃ a b c d e f g h, l = [a, b, c, d, e, f, g, h] := by
  match l, h with
  | [a, b, c, d, e, f, g, h], _ => exact ⟨a, b, c, d, e, f, g, h, rfl⟩
theorem catW8 (a0 a1 a2 a3 b0 b1 b2 b3 : Int) : catW [W4 a0 a1 a2 a3, W4 b0 b1 b2 b3] = #[.int .u64 a0, .int .u64 a1, .int .u64 a2, .int .u64 a3, .int .u64 b0, .int .u64 b1, .int .u64 b2, .int .u64 b3] := by kernel_rfl
theorem open4 {H : Type} {enc : TypeId × Value → H} {W : World} {sp : Nat → Bool} {held : Bool} {n : Nat} {c0 c1 c2 c3 : Value} {y : DataW H × List MemPlace} (hf : DataW.trod enc Tryz.prog W 0 sp held n 24 [c0, c1, c2, c3] = some y) :
    ∃ a0 a1 a2 a3 : Int, c0 = .int .u64 a0 ∧ c1 = .int .u64 a1 ∧ c2 = .int .u64 a2 ∧ c3 = .int .u64 a3 ∧ y = (dW a0 a1 a2 a3, []) ∧ Wf4 a0 a1 a2 a3 := by
  obtain ⟨y0, y1, y2, y3, m, hx, hy0, hy1, hy2, hy3⟩ := trod_array4 Tryz.underlying24 Tryz.cells22 hf
  obtain ⟨x0, e0, rfl, w0⟩ := DataW.trod_int Tryz.underlying22 hy0
  obtain ⟨x1, e1, rfl, w1⟩ := DataW.trod_int Tryz.underlying22 hy1
  obtain ⟨x2, e2, rfl, w2⟩ := DataW.trod_int Tryz.underlying22 hy2
  obtain ⟨x3, e3, rfl, w3⟩ := DataW.trod_int Tryz.underlying22 hy3
  simp at e0 e1 e2 e3
  exact ⟨x0, x1, x2, x3, e0, e1, e2, e3, hx, w0, w1, w2, w3⟩
theorem open26 {H : Type} {enc : TypeId × Value → H} {W : World} {base : Nat} {sp : Nat → Bool} {held : Bool} {v : Value} {d : DataW H} {p : List MemPlace} (hv : Value.okWide Tryz.prog W .any base 26 v) (h : DataW.Trod enc Tryz.prog W 0 sp held 26 v d p) :
    ∃ a0 a1 a2 a3 b0 b1 b2 b3 : Int, v = .agg (catW [W4 a0 a1 a2 a3, W4 b0 b1 b2 b3]) ∧ d = .agg [dW a0 a1 a2 a3, dW b0 b1 b2 b3] ∧ p = [] ∧ Wf4 a0 a1 a2 a3 ∧ Wf4 b0 b1 b2 b3 := by
  obtain ⟨cs, rfl, hsz, _⟩ : ∃ cs, v = .agg cs ∧ cs.size = Tryz.prog.cellsOf 26 ∧ Row.okWide Tryz.prog W .any base 26 cs := by
    simpa [Value.okWide, Tryz.underlying26] using hv
  rw [Tryz.cells26] at hsz
  obtain ⟨l⟩ := cs
  obtain ⟨c0, c1, c2, c3, c4, c5, c6, c7, rfl⟩ := list8 l hsz
  obtain ⟨fuel, hf⟩ := h
  obtain ⟨y0, y1, n, hx, _, hy0, hy1⟩ := trod_struct2 Tryz.underlying26 hf
  simp only [Tryz.cells24] at hy0 hy1
  obtain ⟨a0, a1, a2, a3, rfl, rfl, rfl, rfl, rfl, wa⟩ := open4 (c0 := c0) (c1 := c1) (c2 := c2) (c3 := c3) hy0
  obtain ⟨b0, b1, b2, b3, rfl, rfl, rfl, rfl, rfl, wb⟩ := open4 (c0 := c4) (c1 := c5) (c2 := c6) (c3 := c7) hy1
  simp only [Prod.mk.injEq, List.append_nil] at hx
  obtain ⟨rfl, rfl⟩ := hx
  exact ⟨a0, a1, a2, a3, b0, b1, b2, b3, by rw [catW8], rfl, rfl, wa, wb⟩
theorem shut4 {H : Type} {enc : TypeId × Value → H} {W : World} {sp : Nat → Bool} {a0 a1 a2 a3 : Int} (h : Wf4 a0 a1 a2 a3) : DataW.trod enc Tryz.prog W 0 sp true 2 24 [.int .u64 a0, .int .u64 a1, .int .u64 a2, .int .u64 a3] = some (dW a0 a1 a2 a3, []) := by
  obtain ⟨w0, w1, w2, w3⟩ := h
  simp [DataW.trod, Tryz.underlying24, Tryz.underlying22, Tryz.cells24, Tryz.cells22, w0, w1, w2, w3, show List.range 4 = [0, 1, 2, 3] from rfl]
theorem shut26 {H : Type} {enc : TypeId × Value → H} {W : World} {sp : Nat → Bool} {a0 a1 a2 a3 b0 b1 b2 b3 : Int} (ha : Wf4 a0 a1 a2 a3) (hb : Wf4 b0 b1 b2 b3) : DataW.Trod enc Tryz.prog W 0 sp true 26 (.agg (catW [W4 a0 a1 a2 a3, W4 b0 b1 b2 b3])) (.agg [dW a0 a1 a2 a3, dW b0 b1 b2 b3]) [] := by
  rw [catW8]
  refine ⟨3, ?_⟩
  have := trod_struct2_mk (enc := enc) (w := W) (base := 0) (spare := sp) (held := true) (n := 2) (cs := [.int .u64 a0, .int .u64 a1, .int .u64 a2, .int .u64 a3, .int .u64 b0, .int .u64 b1, .int .u64 b2, .int .u64 b3]) (y0 := (dW a0 a1 a2 a3, [])) (y1 := (dW b0 b1 b2 b3, [])) Tryz.underlying26 (by rw [Tryz.cells26]; rfl) (by simp only [Tryz.cells24]; exact shut4 ha) (by simp only [Tryz.cells24]; exact shut4 hb)
  simpa [Value.cells] using this
end Go.Proofs.YtionjibiemncbabGreat
