/- ed.Verify -/
import Derived.Test.YtionjibiemncbabGreatGShH1
import Derived.Test.YtionjibiemncbabGreatSG
import Derived.Test.YtionjibiemncbabGreatDM
set_option linter.unusedSimpArgs false
set_option linter.unusedVariables false
namespace Go.Proofs.YtionjibiemncbabGreat
open Go.RowKit
theorem eq24b (a0 a1 a2 a3 b0 b1 b2 b3 : Int) (w : World) :
    (Op.equalIn 9999 24 (W4 a0 a1 a2 a3) (W4 b0 b1 b2 b3)).run Tryz.prog w = .ok (a0 == b0 && (a1 == b1 && (a2 == b2 && a3 == b3))) w := by
  unfold W4
  rw [Op.equalIn]
  simp only [Sem.run_bind, run_underlying Tryz.underlying24, Result.andThen_ok, size22]
  simp [Std.Legacy.Range.forIn_eq_forIn_range', List.range', go_sem]
  by_cases h0 : a0 = b0 <;> by_cases h1 : a1 = b1 <;> by_cases h2 : a2 = b2 <;> by_cases h3 : a3 = b3 <;> simp [h0, h1, h2, h3]
theorem eqWb {va vb : Value} {x y : Int} (ha : IsW va x) (hb : IsW vb y) (w : World) : (Op.equalIn 9999 24 va vb).run Tryz.prog w = .ok (x == y) w := by
  obtain ⟨a0, a1, a2, a3, rfl, la, rfl⟩ := ha
  obtain ⟨b0, b1, b2, b3, rfl, lb, rfl⟩ := hb
  rw [eq24b]
  congr 1
  rw [Bool.eq_iff_iff]
  simp only [Bool.and_eq_true, beq_iff_eq]
  constructor
  · rintro ⟨rfl, rfl, rfl, rfl⟩; rfl
  · intro h
    obtain ⟨h0, h1, h2, h3⟩ := num_inj la lb h
    exact ⟨h0, h1, h2, h3⟩
theorem eqP {a0 a1 b0 b1 : Value} {x0 x1 y0 y1 : K} (ha0 : IsF a0 x0) (ha1 : IsF a1 x1) (hb0 : IsF b0 y0) (hb1 : IsF b1 y1) (w : World) : (Op.equalIn 10000 29 (.agg (catW [a0, a1])) (.agg (catW [b0, b1]))).run Tryz.prog w = .ok (decide (x0 = y0) && decide (x1 = y1)) w := by
  have q0 := fun w => eqWb ha0 hb0 w
  have q1 := fun w => eqWb ha1 hb1 w
  rw [valEq] at q0 q1
  generalize decide (x0 = y0) = c0 at q0 ⊢
  generalize decide (x1 = y1) = c1 at q1 ⊢
  obtain ⟨s0, s1, s2, s3, rfl, _, _⟩ := ha0
  obtain ⟨t0, t1, t2, t3, rfl, _, _⟩ := ha1
  obtain ⟨u0, u1, u2, u3, rfl, _, _⟩ := hb0
  obtain ⟨v0, v1, v2, v3, rfl, _, _⟩ := hb1
  have e1 : catW [W4 s0 s1 s2 s3, W4 t0 t1 t2 t3] = #[.int .u64 s0, .int .u64 s1, .int .u64 s2, .int .u64 s3, .int .u64 t0, .int .u64 t1, .int .u64 t2, .int .u64 t3] := by kernel_rfl
  have e2 : catW [W4 u0 u1 u2 u3, W4 v0 v1 v2 v3] = #[.int .u64 u0, .int .u64 u1, .int .u64 u2, .int .u64 u3, .int .u64 v0, .int .u64 v1, .int .u64 v2, .int .u64 v3] := by kernel_rfl
  rw [e1, e2]
  unfold W4 at q0 q1
  go_simp
  cases c0 <;> cases c1 <;> simp [q0, q1, Result.andThen]
set_option maxHeartbeats 1000000 in
theorem lread_any (w : World) (v : Value) (d : List Int) (h : IsD w v d) (B : Byt d) (hm : d.length ≤ 9223372036854775807) :
    Calls Tryz.prog 46 #[v] w fun e w' => ∃ u, e = .returned (.tuple #[u, .int .i64 (rdE LL d)]) ∧ IsW u (rdV LL d) ∧ Below w.heap.size w w' := by
  have HD : Hid (IsD w v d) := h
  have V0 : Hid (VarW (w.alloc (.cells (C4 0 0 0 0) 24)) w.heap.size (W4 0 0 0 0) ∧ Below w.heap.size w (w.alloc (.cells (C4 0 0 0 0) 24))) := ⟨VarW.new w, by go_grown⟩
  clear h
  go_enter Tryz.func46, Tryz.ntmps46
  go_wp2_with fail
  generalize w.alloc (.cells (C4 0 0 0 0) 24) = W0 at V0 ⊢
  refine Calls.mono (g_l _) ?_
  rintro e w1 ⟨v1, rfl, h1, b1⟩
  have V1 : Hid (VarW w1 w.heap.size (W4 0 0 0 0) ∧ Below w.heap.size w w1) := ⟨V0.out.1.kept b1, V0.out.2.trans (b1.mono V0.out.2.size)⟩
  clear V0 b1
  go_wp2_with fail
  refine Calls.mono (rb_any h1 _ v d (HD.out.below V1.out.2) B hm) ?_
  rintro e w2 ⟨u, rfl, hu, b2⟩
  have V2 : Hid (VarW w2 w.heap.size (W4 0 0 0 0) ∧ Below w.heap.size w w2) := ⟨V1.out.1.kept b2, V1.out.2.trans (b2.mono V1.out.2.size)⟩
  clear V1 b2
  go_wp2_with (first | (refine wpList_store_varW rfl _ _ rfl w.heap.size rfl rfl hu V2.out.1 ?_))
  have hl := (V2.out.1.put hu).load
  refine bodyPost_ret (v := .tuple #[u, .int .i64 (rdE LL d)]) (by simp [results, Tryz.results46, asAddr, hl]) rfl ⟨_, rfl, hu, below_setRow V2.out.2 (by omega) _⟩
theorem VarS.new28 (w : World) : VarS (w.alloc (.cells #[.int .u64 0, .int .u64 0, .int .u64 0, .int .u64 0, .int .u64 0, .int .u64 0, .int .u64 0, .int .u64 0] 29)) w.heap.size 29 [W4 0 0 0 0, W4 0 0 0 0] := ⟨words2 isw0 isw0, by rw [← zero8]; exact heap_alloc_new _ _⟩
theorem lsI_dL (S : Int) (R : Int) : lsI (fun j => sgB R S (32 + j)) 32 = dL S := by
  unfold dL
  exact lsI_congr (fun j hj => by unfold sgB; rw [if_neg (by omega), Nat.add_sub_cancel_left])
set_option maxRecDepth 100000 in
set_option maxHeartbeats 4000000 in
theorem ver_1 {n R S : Int} (n0 : 0 ≤ n) (n1 : n < T256) (r0 : 0 ≤ R) (r1 : R < T256) (s0 : 0 ≤ S) (s1 : S < T256) (am : Option Addr) (len capm : Nat) (m : Nat → BitVec 8) (hdk : decK n = none) (w : World) (hm : Sha.Bytes w am len capm m) :
    Calls Tryz.prog 25 #[keyV n, .slice am len capm, sigV R S] w fun e w' => e = .returned (.bool false) ∧ Below w.heap.size w w' := by
  have HN : Hid ((0 ≤ n ∧ n < T256) ∧ (0 ≤ R ∧ R < T256) ∧ (0 ≤ S ∧ S < T256)) := ⟨⟨n0, n1⟩, ⟨r0, r1⟩, ⟨s0, s1⟩⟩
  clear n0 n1 r0 r1 s0 s1
  have V0 : Hid (VarR ((w.alloc (.cells (vec 32 (kb n)) 28)).alloc (.cells (vec 64 (bI (sgB R S))) 54)) w.heap.size 28 32 (kb n) ∧ VarR ((w.alloc (.cells (vec 32 (kb n)) 28)).alloc (.cells (vec 64 (bI (sgB R S))) 54)) (w.heap.size + 1) 54 64 (bI (sgB R S)) ∧ Below w.heap.size w ((w.alloc (.cells (vec 32 (kb n)) 28)).alloc (.cells (vec 64 (bI (sgB R S))) 54)) ∧ Sha.Bytes ((w.alloc (.cells (vec 32 (kb n)) 28)).alloc (.cells (vec 64 (bI (sgB R S))) 54)) am len capm m) := ⟨(VarR.new _ _ _ _).old _, heap_row (heapAt _ _ _ (by simp)), by go_grown, hm.below (by go_grown)⟩
  clear hm
  have HDK : Hid (decK n = none) := hdk
  clear hdk
  go_enter Tryz.func25, Tryz.ntmps25
  unfold keyV sigV
  go_wp2_with (first | (refine wpList_load_row rfl 28 _ rfl w.heap.size rfl 28 _ (0, 0) _ (row_heap V0.out.1.row) Tryz.underlying28 rfl (info41v _) ?_))
  generalize ((w.alloc (.cells (vec 32 (kb n)) 28)).alloc (.cells (vec 64 (bI (sgB R S))) 54)) = w0 at V0 ⊢
  have hdec := g_decode HN.out.1.1 HN.out.1.2 w0
  unfold keyV at hdec
  rw [HDK.out] at hdec
  refine Calls.mono hdec ?_
  clear hdec
  rintro e w1 ⟨k0, k1, rfl, hk, b1⟩
  have V1 : Hid (VarR w1 w.heap.size 28 32 (kb n) ∧ VarR w1 (w.heap.size + 1) 54 64 (bI (sgB R S)) ∧ Below w.heap.size w w1 ∧ Sha.Bytes w1 am len capm m) := ⟨V0.out.1.kept b1, V0.out.2.1.kept b1, V0.out.2.2.1.trans (b1.mono V0.out.2.2.1.size), V0.out.2.2.2.below b1⟩
  have hlt1 : w.heap.size + 1 < w1.heap.size := V1.out.2.1.lt
  clear V0 b1
  simp only [decE, decV] at hk ⊢
  have hst := (VarS.new28 w1).store (us := [k0, k1]) (words2 hk.1 hk.2) rfl (by kernel_rfl)
  have hbl := V1.out.2.2.1
  go_wp2_with (first | (refine wpList_store_run rfl 29 _ _ rfl w1.heap.size (catW [k0, k1]) rfl rfl hst ?_))
  go_ret
  exact ⟨rfl, below_setRow (hbl.alloc hbl.size _) hbl.size _⟩
theorem g_baseX (w : World) : Calls Tryz.prog 26 #[] w fun e w' => e = .returned (.agg (catW [W4 14507833142362363162 7578651490590762930 13881468655802702940 2407515759118799870, W4 7378697629483820632 7378697629483820646 7378697629483820646 7378697629483820646])) ∧ Below w.heap.size w w' := by
  refine (f_base w).mono ?_
  rintro e w' ⟨v0, v1, rfl, hv, hb⟩
  rw [IsW.uniq hv.1 isF_BX, IsW.uniq hv.2 isF_BY]
  exact ⟨rfl, hb⟩
theorem neg_x (p : Pt) : (0 : K) - p.x = p.neg.x := by
  show (0 : K) - p.x = -p.x
  grind
set_option maxRecDepth 100000 in
set_option maxHeartbeats 4000000 in
theorem ver_2 {n R S : Int} (n0 : 0 ≤ n) (n1 : n < T256) (r0 : 0 ≤ R) (r1 : R < T256) (s0 : 0 ≤ S) (s1 : S < T256) (am : Option Addr) (len capm : Nat) (m : Nat → BitVec 8) {pk : Pt} (hdk : decK n = some (pk.x, pk.y)) (B : Bool) (hB2 : decK R = none → B = false) (hB3 : LL ≤ S → B = false) (hB4 : ∀ pr : Pt, decK R = some (pr.x, pr.y) → S < LL → B = (decide (((Pt.mul S.toNat Pt.base).add (Pt.mul (kN R n m len).toNat pk.neg)).x = pr.x) && decide (((Pt.mul S.toNat Pt.base).add (Pt.mul (kN R n m len).toNat pk.neg)).y = pr.y))) (w : World) (hm : Sha.Bytes w am len capm m) :
    Calls Tryz.prog 25 #[keyV n, .slice am len capm, sigV R S] w fun e w' => e = .returned (.bool B) ∧ Below w.heap.size w w' := by
  have HN : Hid ((0 ≤ n ∧ n < T256) ∧ (0 ≤ R ∧ R < T256) ∧ (0 ≤ S ∧ S < T256)) := ⟨⟨n0, n1⟩, ⟨r0, r1⟩, ⟨s0, s1⟩⟩
  clear n0 n1 r0 r1 s0 s1
  have V0 : Hid (VarR ((w.alloc (.cells (vec 32 (kb n)) 28)).alloc (.cells (vec 64 (bI (sgB R S))) 54)) w.heap.size 28 32 (kb n) ∧ VarR ((w.alloc (.cells (vec 32 (kb n)) 28)).alloc (.cells (vec 64 (bI (sgB R S))) 54)) (w.heap.size + 1) 54 64 (bI (sgB R S)) ∧ Below w.heap.size w ((w.alloc (.cells (vec 32 (kb n)) 28)).alloc (.cells (vec 64 (bI (sgB R S))) 54)) ∧ Sha.Bytes ((w.alloc (.cells (vec 32 (kb n)) 28)).alloc (.cells (vec 64 (bI (sgB R S))) 54)) am len capm m) := ⟨(VarR.new _ _ _ _).old _, heap_row (heapAt _ _ _ (by simp)), by go_grown, hm.below (by go_grown)⟩
  have HMW : Hid (Sha.Bytes w am len capm m) := hm
  clear hm
  have H2 : Hid (decK R = none → B = false) := hB2
  have H3 : Hid (LL ≤ S → B = false) := hB3
  have H4 : Hid (∀ pr : Pt, decK R = some (pr.x, pr.y) → S < LL → B = (decide (((Pt.mul S.toNat Pt.base).add (Pt.mul (kN R n m len).toNat pk.neg)).x = pr.x) && decide (((Pt.mul S.toNat Pt.base).add (Pt.mul (kN R n m len).toNat pk.neg)).y = pr.y))) := hB4
  clear hB2 hB3 hB4
  have HDK : Hid (decK n = some (pk.x, pk.y)) := hdk
  clear hdk
  go_enter Tryz.func25, Tryz.ntmps25
  unfold keyV sigV
  go_wp2_with (first | (refine wpList_load_row rfl 28 _ rfl w.heap.size rfl 28 _ (0, 0) _ (row_heap V0.out.1.row) Tryz.underlying28 rfl (info41v _) ?_))
  generalize ((w.alloc (.cells (vec 32 (kb n)) 28)).alloc (.cells (vec 64 (bI (sgB R S))) 54)) = w0 at V0 ⊢
  have hdec := g_decode HN.out.1.1 HN.out.1.2 w0
  unfold keyV at hdec
  rw [HDK.out] at hdec
  refine Calls.mono hdec ?_
  clear hdec
  rintro e w1 ⟨k0, k1, rfl, hk, b1⟩
  have V1 : Hid (VarR w1 w.heap.size 28 32 (kb n) ∧ VarR w1 (w.heap.size + 1) 54 64 (bI (sgB R S)) ∧ Below w.heap.size w w1 ∧ Sha.Bytes w1 am len capm m) := ⟨V0.out.1.kept b1, V0.out.2.1.kept b1, V0.out.2.2.1.trans (b1.mono V0.out.2.2.1.size), V0.out.2.2.2.below b1⟩
  have hlt1 : w.heap.size + 1 < w1.heap.size := V1.out.2.1.lt
  clear V0 b1
  simp only [decE, decV] at hk ⊢
  have HKK : Hid (IsF k0 pk.x ∧ IsF k1 pk.y) := hk
  clear hk
  have hst := (VarS.new28 w1).store (us := [k0, k1]) (words2 HKK.out.1 HKK.out.2) rfl (by kernel_rfl)
  have hb2 : Below w1.heap.size w1 ((w1.alloc (.cells #[.int .u64 0, .int .u64 0, .int .u64 0, .int .u64 0, .int .u64 0, .int .u64 0, .int .u64 0, .int .u64 0] 29)).setRow w1.heap.size (catW [k0, k1])) := below_setRow ((Below.refl _ _).alloc (Nat.le_refl _) _) (Nat.le_refl _) _
  obtain ⟨w2, hw2⟩ : ∃ w2, w2 = ((w1.alloc (.cells #[.int .u64 0, .int .u64 0, .int .u64 0, .int .u64 0, .int .u64 0, .int .u64 0, .int .u64 0, .int .u64 0] 29)).setRow w1.heap.size (catW [k0, k1])) := ⟨_, rfl⟩
  have HW2 : Hid (w2 = ((w1.alloc (.cells #[.int .u64 0, .int .u64 0, .int .u64 0, .int .u64 0, .int .u64 0, .int .u64 0, .int .u64 0, .int .u64 0] 29)).setRow w1.heap.size (catW [k0, k1]))) := hw2
  have V2 : Hid ((VarR w2 w.heap.size 28 32 (kb n) ∧ VarR w2 (w.heap.size + 1) 54 64 (bI (sgB R S)) ∧ Below w.heap.size w w2 ∧ Sha.Bytes w2 am len capm m ∧ VarS w2 w1.heap.size 29 [k0, k1]) ∧ w2.heap.size = w1.heap.size + 1) := by
    rw [hw2]
    exact ⟨⟨V1.out.1.kept hb2, V1.out.2.1.kept hb2, V1.out.2.2.1.trans (hb2.mono V1.out.2.2.1.size), V1.out.2.2.2.below hb2, (VarS.new28 w1).put (words2 HKK.out.1 HKK.out.2)⟩, by simp⟩
  clear hw2 hb2 V1
  have hz := (zero_of_info zero41).1
  go_wp2_with (first | (refine wpList_store_run rfl 29 _ _ rfl w1.heap.size (catW [k0, k1]) rfl rfl hst ?_; rw [← HW2.out]))
  clear hz hst HW2
  have V3 : Hid ((VarR (w2.alloc (.cells (vec 32 (kb 0)) 28)) w.heap.size 28 32 (kb n) ∧ VarR (w2.alloc (.cells (vec 32 (kb 0)) 28)) (w.heap.size + 1) 54 64 (bI (sgB R S)) ∧ Below w.heap.size w (w2.alloc (.cells (vec 32 (kb 0)) 28)) ∧ Sha.Bytes (w2.alloc (.cells (vec 32 (kb 0)) 28)) am len capm m ∧ VarS (w2.alloc (.cells (vec 32 (kb 0)) 28)) w1.heap.size 29 [k0, k1]) ∧ VarR (w2.alloc (.cells (vec 32 (kb 0)) 28)) w2.heap.size 28 32 (kb 0) ∧ w1.heap.size < w2.heap.size) :=
    ⟨⟨V2.out.1.1.old _, V2.out.1.2.1.old _, V2.out.1.2.2.1.alloc V2.out.1.2.2.1.size _, V2.out.1.2.2.2.1.below ((Below.refl _ _).alloc (Nat.le_refl _) _), V2.out.1.2.2.2.2.old _⟩, VarR.new _ _ _ _, by rw [V2.out.2]; omega⟩
  clear V2
  generalize w2.alloc (.cells (vec 32 (kb 0)) 28) = w3 at V3 ⊢
  refine wp_region_held_drew (S := fun w' => Below w.heap.size w w') (by kernel_rfl) V3.out.1.2.2.1.drew (fun hHeld => ?_)
  refine tk 0 (.slice (some ⟨w2.heap.size, 0, none⟩) 32 32) (fun w9 hSw => ?_) hHeld ?_
  · have := arr41 w2.heap.size w9
    go_simp
  simp only [sm]
  refine tk 1 (.slice (some ⟨w.heap.size + 1, 0, none⟩) 32 64) (fun w9 hSw => ?_) hHeld ?_
  · have : (Instr.sliceAt 54 (.pointer (some ⟨w.heap.size + 1, 0, none⟩)) none (some (.int .i64 32)) none).run Tryz.prog w9 = .ok (.slice (some ⟨w.heap.size + 1, 0, none⟩) 32 64) w9 := upto54 (w.heap.size + 1) 32 (by decide) w9
    go_simp
  simp only [sm]
  refine rd 2 (fun K hK => ?_)
  have dZ : w3.drew.rowIs w2.heap.size 28 32 (kb 0) := V3.out.2.1
  have dS : w3.drew.rowIs (w.heap.size + 1) 54 64 (bI (sgB R S)) := V3.out.1.2.1
  have l2 := V3.out.2.2
  refine Sha.step_copy_vec rfl _ _ 40 40 rfl 5 Tryz.underlying40 (by kernel_rfl) w2.heap.size 0 32 28 _ dZ 32 32 32 32 64 ⟨w.heap.size + 1, 0, none⟩ rfl rfl rfl (kb R) (fun j hj => ?_) (fun j _ => rfl) (by decide) ?_
  · have hadd : (⟨w.heap.size + 1, 0, none⟩ : Addr).add j = ⟨w.heap.size + 1, j, none⟩ := by unfold Addr.add; split <;> simp_all
    rw [hadd, dS.cell (i := j) (by omega)]
    unfold bI sgB
    rw [if_pos hj]; rfl
  intro w4 hr4 ho4
  have hr4' : w4.rowIs w2.heap.size 28 32 (kb R) := hr4.congr (fun i hi => by rw [if_pos ⟨by omega, by omega⟩, Nat.sub_zero])
  have hbm : Sha.Bytes w4 am len capm m := by
    obtain ⟨bb, off, h1, h2, h3⟩ := V3.out.1.2.2.2.1
    obtain ⟨bb', off', h1', h2', _⟩ := HMW.out
    refine ⟨bb, off, h1, fun j hj => ?_, h3⟩
    have e := (h1 (by omega)).symm.trans (h1' (by omega))
    cases e
    have hlt := block_lt_of_cell (h2' j hj)
    rw [← h2 j hj]
    exact World.cell?_of_block (w := w3.drew) (ho4.block _ (by show bb ≠ w2.heap.size; simp only at hlt; omega))
  have V4 : Hid ((VarR w4 w.heap.size 28 32 (kb n) ∧ VarR w4 (w.heap.size + 1) 54 64 (bI (sgB R S)) ∧ Below w.heap.size w w4 ∧ Sha.Bytes w4 am len capm m ∧ VarS w4 w1.heap.size 29 [k0, k1]) ∧ VarR w4 w2.heap.size 28 32 (kb R)) :=
    ⟨⟨ho4.row (u := w3.drew) (by omega) V3.out.1.1, ho4.row (u := w3.drew) (by omega) V3.out.1.2.1, ho4.below V3.out.1.2.2.1.drew (by omega), hbm, ⟨V3.out.1.2.2.2.2.1, (ho4.block _ (by omega)).trans V3.out.1.2.2.2.2.2⟩⟩, hr4'⟩
  refine hK.out _ _ V4.out.1.2.2.1 (fun hHeld => ?_)
  clear hK K hr4 hr4' ho4 dZ dS hHeld V3 hbm
  try simp only [sm]
  refine wpAnyH_done (by kernel_rfl) ?_ _
  go_wp2_with (first | (refine wpList_load_row rfl 28 _ rfl w2.heap.size rfl 28 _ (0, 0) _ (row_heap V4.out.2.row) Tryz.underlying28 rfl (info41v _) ?_))
  rcases hr : decK R with _ | ⟨c, d⟩
  · have HDR : Hid (decK R = none) := hr
    clear hr
    have hdec := g_decode HN.out.2.1.1 HN.out.2.1.2 w4
    unfold keyV at hdec
    rw [HDR.out] at hdec
    refine Calls.mono hdec ?_
    clear hdec
    rintro e w5 ⟨f0, f1, rfl, hf, b5⟩
    have V5 : Hid ((VarR w5 w.heap.size 28 32 (kb n) ∧ VarR w5 (w.heap.size + 1) 54 64 (bI (sgB R S)) ∧ Below w.heap.size w w5 ∧ Sha.Bytes w5 am len capm m ∧ VarS w5 w1.heap.size 29 [k0, k1]) ∧ VarR w5 w2.heap.size 28 32 (kb R)) :=
      ⟨⟨V4.out.1.1.kept b5, V4.out.1.2.1.kept b5, V4.out.1.2.2.1.trans (b5.mono V4.out.1.2.2.1.size), V4.out.1.2.2.2.1.below b5, V4.out.1.2.2.2.2.kept b5⟩, V4.out.2.kept b5⟩
    have hlt5 : w2.heap.size < w5.heap.size := V5.out.2.lt
    clear V4 b5
    simp only [decE, decV] at hf ⊢
    have hst := (VarS.new28 w5).store (us := [f0, f1]) (words2 hf.1 hf.2) rfl (by kernel_rfl)
    have hbl := V5.out.1.2.2.1
    go_wp2_with (first | (refine wpList_store_run rfl 29 _ _ rfl w5.heap.size (catW [f0, f1]) rfl rfl hst ?_))
    go_ret
    exact ⟨by rw [H2.out HDR.out]; rfl, below_setRow (hbl.alloc hbl.size _) hbl.size _⟩
  obtain ⟨pr, rfl, rfl, _⟩ := decK_some HN.out.2.1.1 HN.out.2.1.2 hr
  have HDR : Hid (decK R = some (pr.x, pr.y)) := hr
  clear hr
  have hdec := g_decode HN.out.2.1.1 HN.out.2.1.2 w4
  unfold keyV at hdec
  rw [HDR.out] at hdec
  refine Calls.mono hdec ?_
  clear hdec
  rintro e w5 ⟨f0, f1, rfl, hf, b5⟩
  have V5 : Hid ((VarR w5 w.heap.size 28 32 (kb n) ∧ VarR w5 (w.heap.size + 1) 54 64 (bI (sgB R S)) ∧ Below w.heap.size w w5 ∧ Sha.Bytes w5 am len capm m ∧ VarS w5 w1.heap.size 29 [k0, k1]) ∧ VarR w5 w2.heap.size 28 32 (kb R)) :=
    ⟨⟨V4.out.1.1.kept b5, V4.out.1.2.1.kept b5, V4.out.1.2.2.1.trans (b5.mono V4.out.1.2.2.1.size), V4.out.1.2.2.2.1.below b5, V4.out.1.2.2.2.2.kept b5⟩, V4.out.2.kept b5⟩
  have hlt5 : w2.heap.size < w5.heap.size := V5.out.2.lt
  clear V4 b5
  simp only [decE, decV] at hf ⊢
  have hst := (VarS.new28 w5).store (us := [f0, f1]) (words2 hf.1 hf.2) rfl (by kernel_rfl)
  by_cases hS : S < LL
  rotate_left
  · have HS : Hid (LL ≤ S) := Int.not_lt.1 hS
    clear hS
    have HFF : Hid (IsF f0 pr.x ∧ IsF f1 pr.y) := hf
    have hb6 : Below w5.heap.size w5 ((w5.alloc (.cells #[.int .u64 0, .int .u64 0, .int .u64 0, .int .u64 0, .int .u64 0, .int .u64 0, .int .u64 0, .int .u64 0] 29)).setRow w5.heap.size (catW [f0, f1])) := below_setRow ((Below.refl _ _).alloc (Nat.le_refl _) _) (Nat.le_refl _) _
    obtain ⟨w6, hw6⟩ : ∃ w6, w6 = ((w5.alloc (.cells #[.int .u64 0, .int .u64 0, .int .u64 0, .int .u64 0, .int .u64 0, .int .u64 0, .int .u64 0, .int .u64 0] 29)).setRow w5.heap.size (catW [f0, f1])) := ⟨_, rfl⟩
    have HW6 : Hid (w6 = ((w5.alloc (.cells #[.int .u64 0, .int .u64 0, .int .u64 0, .int .u64 0, .int .u64 0, .int .u64 0, .int .u64 0, .int .u64 0] 29)).setRow w5.heap.size (catW [f0, f1]))) := hw6
    have V6 : Hid (VarR w6 w.heap.size 28 32 (kb n) ∧ VarR w6 (w.heap.size + 1) 54 64 (bI (sgB R S)) ∧ Below w.heap.size w w6 ∧ Sha.Bytes w6 am len capm m ∧ VarS w6 w1.heap.size 29 [k0, k1] ∧ VarR w6 w2.heap.size 28 32 (kb R) ∧ VarS w6 w5.heap.size 29 [f0, f1]) := by
      rw [hw6]
      exact ⟨V5.out.1.1.kept hb6, V5.out.1.2.1.kept hb6, V5.out.1.2.2.1.trans (hb6.mono V5.out.1.2.2.1.size), V5.out.1.2.2.2.1.below hb6, V5.out.1.2.2.2.2.kept hb6, V5.out.2.kept hb6, (VarS.new28 w5).put (words2 hf.1 hf.2)⟩
    clear hw6 hb6 V5 hf
    have hs9 : ∀ w, (Instr.sliceAt 54 (.pointer (some ⟨w.heap.size + 1, 0, none⟩)) (some (.int .i64 32)) none none).run Tryz.prog w = .ok (.slice (some ⟨w.heap.size + 1, 32, none⟩) 32 32) w := fun w' => from54 (w'.heap.size + 1) 32 (by decide) w'
    have hs9' := fun w' => from54 (w.heap.size + 1) 32 (by decide) w'
    clear hs9
    have hs9 : ∀ w', (Instr.sliceAt 54 (.pointer (some ⟨w.heap.size + 1, 0, none⟩)) (some (.int .i64 32)) none none).run Tryz.prog w' = .ok (.slice (some ⟨w.heap.size + 1, 32, none⟩) 32 32) w' := hs9'
    clear hs9'
    go_wp2_with (first | (refine wpList_store_run rfl 29 _ _ rfl w5.heap.size (catW [f0, f1]) rfl rfl hst ?_; rw [← HW6.out]))
    clear hst HW6 hs9
    have HD : Hid (IsD w6 (.slice (some ⟨w.heap.size + 1, 32, none⟩) 32 32) (dL S)) := by
      have := isD_bI V6.out.2.1.row 32 32 32 (by decide) (by decide)
      rw [lsI_dL] at this
      exact this
    have hval : valB (dL S) = S := valB_dL S HN.out.2.2.1 HN.out.2.2.2
    have hE : rdE LL (dL S) = 20 := by unfold rdE; rw [dL_len, if_pos rfl, hval, if_pos HS.out]
    have hV : rdV LL (dL S) = 0 := by unfold rdV; rw [dL_len, if_pos rfl, hval, if_pos HS.out]
    refine Calls.mono (lread_any w6 _ _ HD.out (dL_byt S) (by rw [dL_len]; decide)) ?_
    rintro e w7 ⟨s, rfl, hs, b7⟩
    rw [hE]
    rw [hV] at hs
    have HSW : Hid (IsW s 0) := hs
    clear hE hV hval HD hs
    have V7 : Hid (VarR w7 w.heap.size 28 32 (kb n) ∧ VarR w7 (w.heap.size + 1) 54 64 (bI (sgB R S)) ∧ Below w.heap.size w w7 ∧ Sha.Bytes w7 am len capm m ∧ VarS w7 w1.heap.size 29 [k0, k1] ∧ VarR w7 w2.heap.size 28 32 (kb R) ∧ VarS w7 w5.heap.size 29 [f0, f1]) := ⟨V6.out.1.kept b7, V6.out.2.1.kept b7, V6.out.2.2.1.trans (b7.mono V6.out.2.2.1.size), V6.out.2.2.2.1.below b7, V6.out.2.2.2.2.1.kept b7, V6.out.2.2.2.2.2.1.kept b7, V6.out.2.2.2.2.2.2.kept b7⟩
    have hlt7 : w5.heap.size < w7.heap.size := V7.out.2.2.2.2.2.2.lt
    clear V6 b7
    have hn := VarW.new w7
    have hbl := V7.out.2.2.1
    go_wp2_with (first | (refine wpList_store_varW (u := s) rfl _ _ rfl w7.heap.size rfl rfl HSW.out hn ?_))
    go_ret
    exact ⟨by rw [H3.out HS.out]; rfl, below_setRow (hbl.alloc hbl.size _) hbl.size _⟩
  have HS : Hid (S < LL) := hS
  clear hS
  have HFF : Hid (IsF f0 pr.x ∧ IsF f1 pr.y) := hf
  have hb6 : Below w5.heap.size w5 ((w5.alloc (.cells #[.int .u64 0, .int .u64 0, .int .u64 0, .int .u64 0, .int .u64 0, .int .u64 0, .int .u64 0, .int .u64 0] 29)).setRow w5.heap.size (catW [f0, f1])) := below_setRow ((Below.refl _ _).alloc (Nat.le_refl _) _) (Nat.le_refl _) _
  obtain ⟨w6, hw6⟩ : ∃ w6, w6 = ((w5.alloc (.cells #[.int .u64 0, .int .u64 0, .int .u64 0, .int .u64 0, .int .u64 0, .int .u64 0, .int .u64 0, .int .u64 0] 29)).setRow w5.heap.size (catW [f0, f1])) := ⟨_, rfl⟩
  have HW6 : Hid (w6 = ((w5.alloc (.cells #[.int .u64 0, .int .u64 0, .int .u64 0, .int .u64 0, .int .u64 0, .int .u64 0, .int .u64 0, .int .u64 0] 29)).setRow w5.heap.size (catW [f0, f1]))) := hw6
  have V6 : Hid (VarR w6 w.heap.size 28 32 (kb n) ∧ VarR w6 (w.heap.size + 1) 54 64 (bI (sgB R S)) ∧ Below w.heap.size w w6 ∧ Sha.Bytes w6 am len capm m ∧ VarS w6 w1.heap.size 29 [k0, k1] ∧ VarR w6 w2.heap.size 28 32 (kb R) ∧ VarS w6 w5.heap.size 29 [f0, f1]) := by
    rw [hw6]
    exact ⟨V5.out.1.1.kept hb6, V5.out.1.2.1.kept hb6, V5.out.1.2.2.1.trans (hb6.mono V5.out.1.2.2.1.size), V5.out.1.2.2.2.1.below hb6, V5.out.1.2.2.2.2.kept hb6, V5.out.2.kept hb6, (VarS.new28 w5).put (words2 hf.1 hf.2)⟩
  clear hw6 hb6 V5 hf
  have hs9 : ∀ w, (Instr.sliceAt 54 (.pointer (some ⟨w.heap.size + 1, 0, none⟩)) (some (.int .i64 32)) none none).run Tryz.prog w = .ok (.slice (some ⟨w.heap.size + 1, 32, none⟩) 32 32) w := fun w' => from54 (w'.heap.size + 1) 32 (by decide) w'
  have hs9' := fun w' => from54 (w.heap.size + 1) 32 (by decide) w'
  clear hs9
  have hs9 : ∀ w', (Instr.sliceAt 54 (.pointer (some ⟨w.heap.size + 1, 0, none⟩)) (some (.int .i64 32)) none none).run Tryz.prog w' = .ok (.slice (some ⟨w.heap.size + 1, 32, none⟩) 32 32) w' := hs9'
  clear hs9'
  go_wp2_with (first | (refine wpList_store_run rfl 29 _ _ rfl w5.heap.size (catW [f0, f1]) rfl rfl hst ?_; rw [← HW6.out]))
  clear hst HW6 hs9
  have HD : Hid (IsD w6 (.slice (some ⟨w.heap.size + 1, 32, none⟩) 32 32) (dL S)) := by
    have := isD_bI V6.out.2.1.row 32 32 32 (by decide) (by decide)
    rw [lsI_dL] at this
    exact this
  have hval : valB (dL S) = S := valB_dL S HN.out.2.2.1 HN.out.2.2.2
  have hE : rdE LL (dL S) = 0 := by unfold rdE; rw [dL_len, if_pos rfl, hval, if_neg (Int.not_le.2 HS.out)]
  have hV : rdV LL (dL S) = S := by unfold rdV; rw [dL_len, if_pos rfl, hval, if_neg (Int.not_le.2 HS.out)]
  refine Calls.mono (lread_any w6 _ _ HD.out (dL_byt S) (by rw [dL_len]; decide)) ?_
  rintro e w7 ⟨s, rfl, hs, b7⟩
  rw [hE]
  rw [hV] at hs
  have HSW : Hid (IsW s S) := hs
  clear hE hV hval HD hs
  have V7 : Hid (VarR w7 w.heap.size 28 32 (kb n) ∧ VarR w7 (w.heap.size + 1) 54 64 (bI (sgB R S)) ∧ Below w.heap.size w w7 ∧ Sha.Bytes w7 am len capm m ∧ VarS w7 w1.heap.size 29 [k0, k1] ∧ VarR w7 w2.heap.size 28 32 (kb R) ∧ VarS w7 w5.heap.size 29 [f0, f1]) := ⟨V6.out.1.kept b7, V6.out.2.1.kept b7, V6.out.2.2.1.trans (b7.mono V6.out.2.2.1.size), V6.out.2.2.2.1.below b7, V6.out.2.2.2.2.1.kept b7, V6.out.2.2.2.2.2.1.kept b7, V6.out.2.2.2.2.2.2.kept b7⟩
  have hlt7 : w5.heap.size < w7.heap.size := V7.out.2.2.2.2.2.2.lt
  clear V6 b7
  have hn := VarW.new w7
  have hb8 : Below w7.heap.size w7 ((w7.alloc (.cells (C4 0 0 0 0) 24)).setRow w7.heap.size (cw s)) := below_setRow ((Below.refl _ _).alloc (Nat.le_refl _) _) (Nat.le_refl _) _
  obtain ⟨w8, hw8⟩ : ∃ w8, w8 = ((w7.alloc (.cells (C4 0 0 0 0) 24)).setRow w7.heap.size (cw s)) := ⟨_, rfl⟩
  have HW8 : Hid (w8 = ((w7.alloc (.cells (C4 0 0 0 0) 24)).setRow w7.heap.size (cw s))) := hw8
  have V8 : Hid (VarR w8 w.heap.size 28 32 (kb n) ∧ VarR w8 (w.heap.size + 1) 54 64 (bI (sgB R S)) ∧ Below w.heap.size w w8 ∧ Sha.Bytes w8 am len capm m ∧ VarS w8 w1.heap.size 29 [k0, k1] ∧ VarR w8 w2.heap.size 28 32 (kb R) ∧ VarS w8 w5.heap.size 29 [f0, f1] ∧ VarW w8 w7.heap.size s) := by
    rw [hw8]
    exact ⟨V7.out.1.kept hb8, V7.out.2.1.kept hb8, V7.out.2.2.1.trans (hb8.mono V7.out.2.2.1.size), V7.out.2.2.2.1.below hb8, V7.out.2.2.2.2.1.kept hb8, V7.out.2.2.2.2.2.1.kept hb8, V7.out.2.2.2.2.2.2.kept hb8, hn.put HSW.out⟩
  clear hw8 hb8 V7
  go_wp2_with (first | (refine wpList_store_varW (u := s) rfl _ _ rfl w7.heap.size rfl rfl HSW.out hn ?_; rw [← HW8.out]))
  clear hn HW8
  have V8y : Hid (Below w.heap.size w w8) := V8.out.2.2.1
  refine wp_region_held_drew (S := fun w' => Below w8.heap.size w8 w') (by kernel_rfl) (Below.drew (Below.refl _ _)) (fun hHeld => ?_)
  refine tk 0 (s) (fun w9 hSw => ?_) hHeld ?_
  · exact run_load_exec 24 _ rfl _ rfl (V8.out.2.2.2.2.2.2.2.kept hSw).load
  simp only [sm]
  refine tk 2 (.slice (some ⟨w2.heap.size, 0, none⟩) 32 32) (fun w9 hSw => ?_) hHeld ?_
  · have := arr41 w2.heap.size w9
    go_simp
  simp only [sm]
  refine tk 3 (.slice (some ⟨w.heap.size, 0, none⟩) 32 32) (fun w9 hSw => ?_) hHeld ?_
  · have := arr41 w.heap.size w9
    go_simp
  simp only [sm]
  refine tk 4 (.slice am len capm) (fun w9 hSw => ?_) hHeld ?_
  · go_simp
  simp only [sm]
  refine tk 7 (.agg (catW [k0, k1])) (fun w9 hSw => ?_) hHeld ?_
  · exact run_load_exec 29 _ rfl _ rfl (load28 (V8.out.2.2.2.2.1.kept hSw))
  simp only [sm]
  refine tk 10 (.agg (catW [f0, f1])) (fun w9 hSw => ?_) hHeld ?_
  · exact run_load_exec 29 _ rfl _ rfl (load28 (V8.out.2.2.2.2.2.2.1.kept hSw))
  simp only [sm]
  generalize w8.drew = wd at hHeld ⊢
  refine wpAnyH_ready (rs := [1, 5]) (by kernel_rfl) (by simp) ?_
  refine AllReadyH.cons rfl (fun K hK => ?_) (AllReadyH.cons rfl (fun K hK => ?_) AllReadyH.nil)
  · go_simp
    refine Calls.mono (g_baseX _) ?_
    rintro e wb ⟨rfl, bb⟩
    go_wp2_with fail
    refine hK.out _ _ (hHeld.trans (bb.mono hHeld.size)) (fun hHeld => ?_)
    clear hK K bb
    try simp only [sm]
    refine rd 5 (fun K hK => ?_)
    go_simp
    have hC := VarC.new wb #[.slice (some ⟨w2.heap.size, 0, none⟩) 32 32, .slice (some ⟨w.heap.size, 0, none⟩) 32 32, .slice am len capm]
    refine hK.out _ _ (hHeld.alloc hHeld.size _) (fun hHeld => ?_)
    clear hK K
    try simp only [sm]
    generalize wb.heap.size = zc at hC ⊢
    generalize wb.alloc (.cells #[.slice (some ⟨w2.heap.size, 0, none⟩) 32 32, .slice (some ⟨w.heap.size, 0, none⟩) 32 32, .slice am len capm] 40) = wa at hC hHeld ⊢
    refine rd 6 (fun K hK => ?_)
    go_simp
    refine Calls.mono (number3 (V8.out.2.2.2.2.2.1.kept hHeld).row (fun j _ => kb_bd R j) (V8.out.1.kept hHeld).row (fun j _ => kb_bd n j) (V8.out.2.2.2.1.below hHeld) hC) ?_
    rintro e w10 ⟨c, rfl, hc, b10⟩
    have HC : Hid (IsW c (kN R n m len)) := hc
    go_wp2_with fail
    refine hK.out _ _ (hHeld.trans (b10.mono hHeld.size)) (fun hHeld => ?_)
    clear hK K b10 hC hc
    try simp only [sm]
    refine rd 8 (fun K hK => ?_)
    go_simp
    refine Calls.mono (f_opposite HKK.out.1 HKK.out.2 _) ?_
    rintro e w11 ⟨q0, q1, rfl, hq, b11⟩
    rw [neg_x] at hq
    have HQ : Hid (IsF q0 pk.neg.x ∧ IsF q1 pk.neg.y) := hq
    go_wp2_with fail
    refine hK.out _ _ (hHeld.trans (b11.mono hHeld.size)) (fun hHeld => ?_)
    clear hK K b11 hq
    try simp only [sm]
    refine rd 9 (fun K hK => ?_)
    go_simp
    refine Calls.mono (both_any (p := Pt.base) (q := pk.neg) HSW.out HC.out isF_BX isF_BY HQ.out.1 HQ.out.2 _) ?_
    rintro e w12 ⟨d0, d1, rfl, hd, b12⟩
    have HDD : Hid (IsF d0 ((Pt.mul S.toNat Pt.base).add (Pt.mul (kN R n m len).toNat pk.neg)).x ∧ IsF d1 ((Pt.mul S.toNat Pt.base).add (Pt.mul (kN R n m len).toNat pk.neg)).y) := hd
    go_wp2_with fail
    refine hK.out _ _ (hHeld.trans (b12.mono hHeld.size)) (fun hHeld => ?_)
    clear hK K b12 hd
    try simp only [sm]
    have heq := fun w => eqP HDD.out.1 HDD.out.2 HFF.out.1 HFF.out.2 w
    obtain ⟨rb, hrb⟩ : ∃ b : Bool, b = (decide (((Pt.mul S.toNat Pt.base).add (Pt.mul (kN R n m len).toNat pk.neg)).x = pr.x) && decide (((Pt.mul S.toNat Pt.base).add (Pt.mul (kN R n m len).toNat pk.neg)).y = pr.y)) := ⟨_, rfl⟩
    rw [← hrb] at heq
    have HRB : Hid (rb = (decide (((Pt.mul S.toNat Pt.base).add (Pt.mul (kN R n m len).toNat pk.neg)).x = pr.x) && decide (((Pt.mul S.toNat Pt.base).add (Pt.mul (kN R n m len).toNat pk.neg)).y = pr.y))) := hrb
    clear hrb
    refine tk 11 (.bool rb) (fun w9 hSw => ?_) hHeld ?_
    · have := heq w9
      go_simp
    simp only [sm]
    refine tk 12 (.bool rb) (fun w9 hSw => ?_) hHeld ?_
    · go_simp
    simp only [sm]
    refine wpAnyH_done (by kernel_rfl) ?_ _
    have hbe := V8y.out.trans (hHeld.mono V8y.out.size)
    clear heq
    go_wp2
    go_ret
    exact ⟨by rw [H4.out pr HDR.out HS.out, ← HRB.out]; rfl, hbe⟩
  · go_simp
    have hC := VarC.new wd #[.slice (some ⟨w2.heap.size, 0, none⟩) 32 32, .slice (some ⟨w.heap.size, 0, none⟩) 32 32, .slice am len capm]
    refine hK.out _ _ (hHeld.alloc hHeld.size _) (fun hHeld => ?_)
    clear hK K
    try simp only [sm]
    generalize wd.heap.size = zc at hC ⊢
    generalize wd.alloc (.cells #[.slice (some ⟨w2.heap.size, 0, none⟩) 32 32, .slice (some ⟨w.heap.size, 0, none⟩) 32 32, .slice am len capm] 40) = wa at hC hHeld ⊢
    refine rd 1 (fun K hK => ?_)
    go_simp
    refine Calls.mono (g_baseX _) ?_
    rintro e wb ⟨rfl, bb⟩
    replace hC := hC.kept bb
    go_wp2_with fail
    refine hK.out _ _ (hHeld.trans (bb.mono hHeld.size)) (fun hHeld => ?_)
    clear hK K bb
    try simp only [sm]
    refine rd 6 (fun K hK => ?_)
    go_simp
    refine Calls.mono (number3 (V8.out.2.2.2.2.2.1.kept hHeld).row (fun j _ => kb_bd R j) (V8.out.1.kept hHeld).row (fun j _ => kb_bd n j) (V8.out.2.2.2.1.below hHeld) hC) ?_
    rintro e w10 ⟨c, rfl, hc, b10⟩
    have HC : Hid (IsW c (kN R n m len)) := hc
    go_wp2_with fail
    refine hK.out _ _ (hHeld.trans (b10.mono hHeld.size)) (fun hHeld => ?_)
    clear hK K b10 hC hc
    try simp only [sm]
    refine rd 8 (fun K hK => ?_)
    go_simp
    refine Calls.mono (f_opposite HKK.out.1 HKK.out.2 _) ?_
    rintro e w11 ⟨q0, q1, rfl, hq, b11⟩
    rw [neg_x] at hq
    have HQ : Hid (IsF q0 pk.neg.x ∧ IsF q1 pk.neg.y) := hq
    go_wp2_with fail
    refine hK.out _ _ (hHeld.trans (b11.mono hHeld.size)) (fun hHeld => ?_)
    clear hK K b11 hq
    try simp only [sm]
    refine rd 9 (fun K hK => ?_)
    go_simp
    refine Calls.mono (both_any (p := Pt.base) (q := pk.neg) HSW.out HC.out isF_BX isF_BY HQ.out.1 HQ.out.2 _) ?_
    rintro e w12 ⟨d0, d1, rfl, hd, b12⟩
    have HDD : Hid (IsF d0 ((Pt.mul S.toNat Pt.base).add (Pt.mul (kN R n m len).toNat pk.neg)).x ∧ IsF d1 ((Pt.mul S.toNat Pt.base).add (Pt.mul (kN R n m len).toNat pk.neg)).y) := hd
    go_wp2_with fail
    refine hK.out _ _ (hHeld.trans (b12.mono hHeld.size)) (fun hHeld => ?_)
    clear hK K b12 hd
    try simp only [sm]
    have heq := fun w => eqP HDD.out.1 HDD.out.2 HFF.out.1 HFF.out.2 w
    obtain ⟨rb, hrb⟩ : ∃ b : Bool, b = (decide (((Pt.mul S.toNat Pt.base).add (Pt.mul (kN R n m len).toNat pk.neg)).x = pr.x) && decide (((Pt.mul S.toNat Pt.base).add (Pt.mul (kN R n m len).toNat pk.neg)).y = pr.y)) := ⟨_, rfl⟩
    rw [← hrb] at heq
    have HRB : Hid (rb = (decide (((Pt.mul S.toNat Pt.base).add (Pt.mul (kN R n m len).toNat pk.neg)).x = pr.x) && decide (((Pt.mul S.toNat Pt.base).add (Pt.mul (kN R n m len).toNat pk.neg)).y = pr.y))) := hrb
    clear hrb
    refine tk 11 (.bool rb) (fun w9 hSw => ?_) hHeld ?_
    · have := heq w9
      go_simp
    simp only [sm]
    refine tk 12 (.bool rb) (fun w9 hSw => ?_) hHeld ?_
    · go_simp
    simp only [sm]
    refine wpAnyH_done (by kernel_rfl) ?_ _
    have hbe := V8y.out.trans (hHeld.mono V8y.out.size)
    clear heq
    go_wp2
    go_ret
    exact ⟨by rw [H4.out pr HDR.out HS.out, ← HRB.out]; rfl, hbe⟩
end Go.Proofs.YtionjibiemncbabGreat
