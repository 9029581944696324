/- EdHolds: the walk. -/
import Derived.Test.YtionjibiemncbaaGreatGAL
set_option linter.unusedSimpArgs false
set_option linter.unusedVariables false
namespace Go.Proofs.YtionjibiemncbaaGreat
open Go.RowKit
set_option maxHeartbeats 1000000 in
theorem holds_short {vb : Value} {y : Int} (hb : IsW vb y) (ao am : Option Addr) (len cap lenm capm : Nat) (hl : len ≠ 32) (w : World) : Calls Tryz.prog 8 #[.slice ao len cap, .slice am lenm capm, vb] w fun e w' => e = .returned (.bool true) ∧ Below w.heap.size w w' := by
  obtain ⟨y0, y1, y2, y3, rfl, lb, _⟩ := hb
  have hd : decide ((len : Int) = 32) = false := by simp; omega
  clear lb
  go_enter Tryz.func8, Tryz.ntmps8
  unfold W4
  go_wp2_with fail
  refine Calls.mono (alive_any _) ?_
  rintro e w1 ⟨rfl, b1⟩
  have hB : Below w.heap.size w w1 := Below.trans (b := w.alloc (.cells (C4 y0 y1 y2 y3) 24)) (by go_grown) (b1.mono (by simp))
  go_wp2
  go_ret
  exact ⟨rfl, hB⟩
def laidT (R S T : Int) (k : Nat) (j : Nat) : Int := if 32 ≤ j ∧ j < 32 + k then T / 256 ^ (j - 32) % 256 else sgB R S j
theorem laidT_step {w : World} {c : Nat} {R S T : Int} {k : Nat} (h : w.rowIs c 54 64 (bI (laidT R S T k))) (hk : k < 32) : (w.setCell ⟨c, 32 + k, none⟩ (.int .u8 (T / 256 ^ k % 256))).rowIs c 54 64 (bI (laidT R S T (k + 1))) :=
  World.rowIs.congr (World.rowIs.set h (32 + k) (.int .u8 (T / 256 ^ k % 256))) (fun i hi => by
    unfold bI laidT
    by_cases e : i = 32 + k
    · subst e
      rw [if_pos rfl, if_pos ⟨by omega, by omega⟩, Nat.add_sub_cancel_left]
    · rw [if_neg e]
      by_cases h2 : 32 ≤ i ∧ i < 32 + k
      · rw [if_pos h2, if_pos ⟨h2.1, by omega⟩]
      · rw [if_neg h2, if_neg (by omega)])
theorem laidT_end {w : World} {c : Nat} {R S T : Int} (h : w.rowIs c 54 64 (bI (laidT R S T 32))) : w.rowIs c 54 64 (bI (sgB R T)) :=
  World.rowIs.congr h (fun i hi => by
    unfold bI laidT sgB
    by_cases h2 : i < 32
    · rw [if_neg (by omega), if_pos h2, if_pos h2]
    · rw [if_pos ⟨by omega, by omega⟩, if_neg h2])
theorem VarR.far {w : World} {z c : Nat} {ty : TypeId} {n : Nat} {f : Nat → Value} (h : VarR w z ty n f) (hn : z ≠ c) (o : Nat) (u : Value) : VarR (w.setCell ⟨c, o, none⟩ u) z ty n f := h.row.of_block (heap_setCell_other _ _ _ _ hn)
set_option maxRecDepth 100000 in
set_option maxHeartbeats 8000000 in
theorem holds_main {vb : Value} {y : Int} (hb : IsW vb y) (ao am : Option Addr) (cap lenm capm : Nat) (m0 m : Nat → BitVec 8) (w : World) (h0 : Sha.Bytes w ao 32 cap m0) (hm : Sha.Bytes w am lenm capm m) : Calls Tryz.prog 8 #[.slice ao 32 cap, .slice am lenm capm, vb] w fun e w' => e = .returned (.bool true) ∧ Below w.heap.size w w' := by
  obtain ⟨D, hD⟩ : ∃ D, D = Sha.digest m0 32 := ⟨_, rfl⟩
  have HP : Hid (∀ (w : World), Sha.Bytes w ao 32 cap m0 → Calls Tryz.prog 24 #[.slice ao 32 cap] w fun e w' => e = .returned (.tuple #[keyV (pubN D), .int .i64 0]) ∧ Below w.heap.size w w') := fun w h => g_public ao cap m0 D hD w h
  have HS : Hid (∀ (w : World), Sha.Bytes w ao 32 cap m0 → Sha.Bytes w am lenm capm m → Calls Tryz.prog 26 #[.slice ao 32 cap, .slice am lenm capm] w fun e w' => e = .returned (.tuple #[sigV (firN D m lenm) (secondN D m lenm), .int .i64 0]) ∧ Below w.heap.size w w') := fun w h h2 => g_sign ao am cap lenm capm m0 m D hD w h h2
  have HB : Hid ((0 ≤ pubN D ∧ pubN D < T256) ∧ (0 ≤ firN D m lenm ∧ firN D m lenm < T256) ∧ (0 ≤ secondN D m lenm ∧ secondN D m lenm < LL)) := ⟨encP_bd _, encP_bd _, second_bd _ _ _⟩
  have HH1 : Hid (Holds (pubN D) (firN D m lenm) (secondN D m lenm) m lenm) := signed_holds D m lenm
  have HH2 : Hid (∀ T, 0 ≤ T → T ≠ secondN D m lenm → ¬ Holds (pubN D) (firN D m lenm) T m lenm) := fun T t0 ht => other_not D m lenm t0 ht
  generalize pubN D = A at *
  generalize firN D m lenm = R at *
  generalize secondN D m lenm = S at *
  clear hD
  have HY : Hid (IsW vb y) := hb
  obtain ⟨y0, y1, y2, y3, rfl, lb, _⟩ := hb
  have V0 : Hid (VarW (w.alloc (.cells (C4 y0 y1 y2 y3) 24)) w.heap.size (W4 y0 y1 y2 y3) ∧ Below w.heap.size w (w.alloc (.cells (C4 y0 y1 y2 y3) 24)) ∧ Sha.Bytes (w.alloc (.cells (C4 y0 y1 y2 y3) 24)) ao 32 cap m0 ∧ Sha.Bytes (w.alloc (.cells (C4 y0 y1 y2 y3) 24)) am lenm capm m) := ⟨VarW.new1 lb w, by go_grown, h0.below (by go_grown), hm.below (by go_grown)⟩
  have HMW : Hid (Sha.Bytes w am lenm capm m) := hm
  clear lb h0 hm
  go_enter Tryz.func8, Tryz.ntmps8
  unfold W4
  go_wp2_with fail
  generalize w.alloc (.cells (C4 y0 y1 y2 y3) 24) = w0 at V0 ⊢
  refine Calls.mono (HP.out _ V0.out.2.2.1) ?_
  rintro e w2 ⟨rfl, b2⟩
  have V2 : Hid (VarW w2 w.heap.size (W4 y0 y1 y2 y3) ∧ Below w.heap.size w w2 ∧ Sha.Bytes w2 ao 32 cap m0 ∧ Sha.Bytes w2 am lenm capm m) := ⟨V0.out.1.kept b2, V0.out.2.1.trans (b2.mono V0.out.2.1.size), V0.out.2.2.1.below b2, V0.out.2.2.2.below b2⟩
  clear V0 b2 HP
  have hz := (zero_of_info zero41).1
  unfold keyV
  go_wp2_with (refine wpList_store_row rfl 41 _ _ rfl w2.heap.size (vec 32 (kb A)) rfl rfl 41 _ (heap_alloc_new _ _) (info41v _) (by simp) (one_kb _ _) ?_; rw [World.setRow_alloc_new])
  clear hz
  have bx : Below w2.heap.size w2 (w2.alloc (.cells (vec 32 (kb A)) 41)) := (Below.refl _ _).alloc (Nat.le_refl _) _
  have V3 : Hid (VarW (w2.alloc (.cells (vec 32 (kb A)) 41)) w.heap.size (W4 y0 y1 y2 y3) ∧ Below w.heap.size w (w2.alloc (.cells (vec 32 (kb A)) 41)) ∧ Sha.Bytes (w2.alloc (.cells (vec 32 (kb A)) 41)) ao 32 cap m0 ∧ Sha.Bytes (w2.alloc (.cells (vec 32 (kb A)) 41)) am lenm capm m ∧ VarR (w2.alloc (.cells (vec 32 (kb A)) 41)) w2.heap.size 41 32 (kb A)) := ⟨V2.out.1.kept bx, V2.out.2.1.trans (bx.mono V2.out.2.1.size), V2.out.2.2.1.below bx, V2.out.2.2.2.below bx, VarR.new _ _ _ _⟩
  clear V2 bx
  generalize w2.alloc (.cells (vec 32 (kb A)) 41) = w3 at V3 ⊢
  generalize w2.heap.size = zk at V3 ⊢
  refine Calls.mono (HS.out _ V3.out.2.2.1 V3.out.2.2.2.1) ?_
  rintro e w5 ⟨rfl, b5⟩
  have V5 : Hid (VarW w5 w.heap.size (W4 y0 y1 y2 y3) ∧ Below w.heap.size w w5 ∧ Sha.Bytes w5 am lenm capm m ∧ VarR w5 zk 41 32 (kb A)) := ⟨V3.out.1.kept b5, V3.out.2.1.trans (b5.mono V3.out.2.1.size), V3.out.2.2.2.1.below b5, V3.out.2.2.2.2.kept b5⟩
  clear V3 b5 HS
  have hz := (zero_of_info zero54).1
  unfold sigV
  obtain ⟨w6, hw6⟩ : ∃ w6, w6 = w5.alloc (.cells (vec 64 (bI (sgB R S))) 54) := ⟨_, rfl⟩
  have HW6 : Hid (w6 = w5.alloc (.cells (vec 64 (bI (sgB R S))) 54)) := hw6
  have bx : Below w5.heap.size w5 (w5.alloc (.cells (vec 64 (bI (sgB R S))) 54)) := (Below.refl _ _).alloc (Nat.le_refl _) _
  have V6 : Hid (VarW w6 w.heap.size (W4 y0 y1 y2 y3) ∧ Below w.heap.size w w6 ∧ Sha.Bytes w6 am lenm capm m ∧ VarR w6 zk 41 32 (kb A) ∧ VarR w6 w5.heap.size 54 64 (bI (sgB R S))) := by
    rw [hw6]; exact ⟨V5.out.1.kept bx, V5.out.2.1.trans (bx.mono V5.out.2.1.size), V5.out.2.2.1.below bx, V5.out.2.2.2.kept bx, VarR.new _ _ _ _⟩
  clear hw6 V5 bx
  have L41 : Hid (∀ {w : World}, VarR w zk 41 32 (kb A) → (loadVar 41 ⟨zk, 0, none⟩).run Tryz.prog w = .ok (.agg (vec 32 (kb A))) w) := fun h => run_loadVar_row _ _ 41 41 _ (0, 0) _ (row_heap h.row) Tryz.underlying41 rfl (info41v _)
  have L54 : Hid (∀ {w : World} {z : Nat} {S : Int}, VarR w z 54 64 (bI (sgB R S)) → (loadVar 54 ⟨z, 0, none⟩).run Tryz.prog w = .ok (.agg (vec 64 (bI (sgB R S)))) w) := fun h => run_loadVar_row _ _ 54 54 _ (0, 0) _ (row_heap h.row) Tryz.underlying54 rfl (info54v _)
  go_wp2_with (first | (refine wpList_store_row rfl 54 _ _ rfl w5.heap.size (vec 64 (bI (sgB R S))) rfl rfl 54 _ (heap_alloc_new _ _) (info54v _) (by simp) (one_bI _ _) ?_; rw [World.setRow_alloc_new, ← HW6.out]) | (refine wpList_load_want (by rfl) 41 _ rfl _ rfl (L41.out V6.out.2.2.2.1) ?_) | (refine wpList_load_want (by rfl) 54 _ rfl _ rfl (L54.out V6.out.2.2.2.2) ?_))
  clear hz HW6
  generalize w5.heap.size = zs at V6 ⊢
  have hST : S < T256 := Int.lt_trans HB.out.2.2.2 (by decide)
  have HST : Hid (S < T256) := hST
  clear hST
  have hv1 := g_verify HB.out.1.1 HB.out.1.2 HB.out.2.1.1 HB.out.2.1.2 HB.out.2.2.1 HST.out am lenm capm m w6 V6.out.2.2.1
  unfold keyV sigV at hv1
  refine Calls.mono hv1 ?_
  clear hv1
  rintro e w7 ⟨bb, rfl, hbb, b7⟩
  obtain rfl : bb = true := hbb.2 HH1.out
  clear hbb HH1
  go_wp2_with fail
  refine Calls.mono (alive_any _) ?_
  rintro e w8 ⟨rfl, b8⟩
  have b78 : Below w6.heap.size w6 w8 := b7.trans (b8.mono b7.size)
  have V8 : Hid (VarW w8 w.heap.size (W4 y0 y1 y2 y3) ∧ Below w.heap.size w w8 ∧ Sha.Bytes w8 am lenm capm m ∧ VarR w8 zk 41 32 (kb A) ∧ VarR w8 zs 54 64 (bI (sgB R S))) := ⟨V6.out.1.kept b78, V6.out.2.1.trans (b78.mono V6.out.2.1.size), V6.out.2.2.1.below b78, V6.out.2.2.2.1.kept b78, V6.out.2.2.2.2.kept b78⟩
  clear V6 b7 b8 b78
  have hs9 : ∀ w', (Instr.sliceAt 54 (.pointer (some ⟨zs, 0, none⟩)) (some (.int .i64 32)) none none).run Tryz.prog w' = .ok (.slice (some ⟨zs, 32, none⟩) 32 32) w' := fun w' => from54 zs 32 (by decide) w'
  go_wp2_with fail
  clear hs9
  have HD : Hid (IsD w8 (.slice (some ⟨zs, 32, none⟩) 32 32) (dL S)) := by
    have := isD_bI V8.out.2.2.2.2.row 32 32 32 (by decide) (by decide)
    rw [lsI_dL] at this
    exact this
  have hval : valB (dL S) = S := valB_dL S HB.out.2.2.1 HST.out
  have hE : rdE LL (dL S) = 0 := by unfold rdE; rw [dL_len, if_pos rfl, hval, if_neg (Int.not_le.2 HB.out.2.2.2)]
  have hV : rdV LL (dL S) = S := by unfold rdV; rw [dL_len, if_pos rfl, hval, if_neg (Int.not_le.2 HB.out.2.2.2)]
  refine Calls.mono (lread_any w8 _ _ HD.out (dL_byt S) (by rw [dL_len]; decide)) ?_
  rintro e w9 ⟨s, rfl, hs, b9⟩
  rw [hE]
  rw [hV] at hs
  have HSW : Hid (IsW s S) := hs
  have V9 : Hid (VarW w9 w.heap.size (W4 y0 y1 y2 y3) ∧ Below w.heap.size w w9 ∧ Sha.Bytes w9 am lenm capm m ∧ VarR w9 zk 41 32 (kb A) ∧ VarR w9 zs 54 64 (bI (sgB R S))) := ⟨V8.out.1.kept b9, V8.out.2.1.trans (b9.mono V8.out.2.1.size), V8.out.2.2.1.below b9, V8.out.2.2.2.1.kept b9, V8.out.2.2.2.2.kept b9⟩
  clear V8 b9 hE hV hval HD hs
  have hn := VarW.new w9
  have bx : Below w9.heap.size w9 ((w9.alloc (.cells (C4 0 0 0 0) 24)).setRow w9.heap.size (cw s)) := below_setRow ((Below.refl _ _).alloc (Nat.le_refl _) _) (Nat.le_refl _) _
  obtain ⟨w10, hw10⟩ : ∃ w10, w10 = ((w9.alloc (.cells (C4 0 0 0 0) 24)).setRow w9.heap.size (cw s)) := ⟨_, rfl⟩
  have HW10 : Hid (w10 = ((w9.alloc (.cells (C4 0 0 0 0) 24)).setRow w9.heap.size (cw s))) := hw10
  have V10 : Hid (VarW w10 w.heap.size (W4 y0 y1 y2 y3) ∧ Below w.heap.size w w10 ∧ Sha.Bytes w10 am lenm capm m ∧ VarR w10 zk 41 32 (kb A) ∧ VarR w10 zs 54 64 (bI (sgB R S)) ∧ VarW w10 w9.heap.size s) := by
    rw [hw10]; exact ⟨V9.out.1.kept bx, V9.out.2.1.trans (bx.mono V9.out.2.1.size), V9.out.2.2.1.below bx, V9.out.2.2.2.1.kept bx, V9.out.2.2.2.2.kept bx, hn.put HSW.out⟩
  clear V9 bx hw10
  go_wp2_with (first | (refine wpList_store_varW (u := s) rfl _ _ rfl w9.heap.size rfl rfl HSW.out hn ?_; rw [← HW10.out]) | (refine wpList_load_varW rfl _ rfl w9.heap.size rfl V10.out.2.2.2.2.2 ?_) | (refine wpList_load_varW rfl _ rfl w.heap.size rfl V10.out.1 ?_))
  clear hn HW10
  generalize w9.heap.size = zn at V10 ⊢
  refine Calls.mono (g_ladd HSW.out HY.out _) ?_
  rintro e w11 ⟨t, rfl, ht, b11⟩
  have hTb := modL_bd (S + y)
  obtain ⟨T, hT⟩ : ∃ T, T = (S + y) % LL := ⟨_, rfl⟩
  rw [← hT] at ht hTb
  clear hT
  have HT : Hid (IsW t T) := ht
  have HTB : Hid (0 ≤ T ∧ T < LL) := hTb
  have V11 : Hid (Below w.heap.size w w11 ∧ Sha.Bytes w11 am lenm capm m ∧ VarR w11 zk 41 32 (kb A) ∧ VarR w11 zs 54 64 (bI (sgB R S)) ∧ VarW w11 zn s) := ⟨V10.out.2.1.trans (b11.mono V10.out.2.1.size), V10.out.2.2.1.below b11, V10.out.2.2.2.1.kept b11, V10.out.2.2.2.2.1.kept b11, V10.out.2.2.2.2.2.kept b11⟩
  clear V10 b11 ht hTb HY
  have hn := VarW.new w11
  have bx : Below w11.heap.size w11 ((w11.alloc (.cells (C4 0 0 0 0) 24)).setRow w11.heap.size (cw t)) := below_setRow ((Below.refl _ _).alloc (Nat.le_refl _) _) (Nat.le_refl _) _
  obtain ⟨w12, hw12⟩ : ∃ w12, w12 = ((w11.alloc (.cells (C4 0 0 0 0) 24)).setRow w11.heap.size (cw t)) := ⟨_, rfl⟩
  have HW12 : Hid (w12 = ((w11.alloc (.cells (C4 0 0 0 0) 24)).setRow w11.heap.size (cw t))) := hw12
  have V12 : Hid (Below w.heap.size w w12 ∧ Sha.Bytes w12 am lenm capm m ∧ VarR w12 zk 41 32 (kb A) ∧ VarR w12 zs 54 64 (bI (sgB R S)) ∧ VarW w12 zn s ∧ VarW w12 w11.heap.size t) := by
    rw [hw12]; exact ⟨V11.out.1.trans (bx.mono V11.out.1.size), V11.out.2.1.below bx, V11.out.2.2.1.kept bx, V11.out.2.2.2.1.kept bx, V11.out.2.2.2.2.kept bx, hn.put HT.out⟩
  clear V11 bx hw12
  have hq : ∀ w, (Op.equalIn 10000 24 t s).run Tryz.prog w = .ok (T == S) w := fun w => eqW HT.out HSW.out w
  by_cases hTS : T = S
  · rw [show (T == S) = true from by simp [hTS]] at hq
    obtain ⟨t0, t1, t2, t3, rfl, _, _⟩ := HT.out
    obtain ⟨s0, s1, s2, s3, rfl, _, _⟩ := HSW.out
    unfold W4 at hq
    have hbl := V12.out.1
    go_wp2_with (first | (refine wpList_store_varW (u := W4 t0 t1 t2 t3) rfl _ _ rfl w11.heap.size rfl rfl HT.out hn ?_; rw [← HW12.out]) | (refine wpList_load_varW rfl _ rfl w11.heap.size rfl V12.out.2.2.2.2.2 ?_) | (refine wpList_load_varW rfl _ rfl zn rfl V12.out.2.2.2.2.1 ?_))
    go_ret
    exact ⟨rfl, hbl⟩
  rw [show (T == S) = false from by simp [hTS]] at hq
  have HNE : Hid (T ≠ S) := hTS
  clear hTS
  obtain ⟨t0, t1, t2, t3, rfl, lt, nt⟩ := HT.out
  have HL : Hid (L4 t0 t1 t2 t3 ∧ num t0 t1 t2 t3 = T) := ⟨lt, nt⟩
  clear lt nt
  have V12s := V12.out.2.2.2.2.1
  obtain ⟨s0, s1, s2, s3, rfl, _, _⟩ := HSW.out
  unfold W4 at hq
  clear V12s
  have hz := (zero_of_info zero54).1
  obtain ⟨w13, hw13⟩ : ∃ w13, w13 = w12.alloc (.cells (vec 64 (bI (sgB R S))) 54) := ⟨_, rfl⟩
  have HW13 : Hid (w13 = w12.alloc (.cells (vec 64 (bI (sgB R S))) 54)) := hw13
  have bx : Below w12.heap.size w12 (w12.alloc (.cells (vec 64 (bI (sgB R S))) 54)) := (Below.refl _ _).alloc (Nat.le_refl _) _
  have hbm13 : Sha.Bytes w13 am lenm capm m := by rw [hw13]; exact V12.out.2.1.below bx
  have hcl : w11.heap.size < w12.heap.size := V12.out.2.2.2.2.2.lt
  have hkl : zk < w12.heap.size := V12.out.2.2.1.lt
  have hwl : w.heap.size ≤ w12.heap.size := V12.out.1.size
  have hrow : w13.rowIs w12.heap.size 54 64 (bI (laidT R S T 0)) := by
    rw [hw13]
    refine World.rowIs.congr (VarR.new w12 54 64 (bI (sgB R S))).row (fun i hi => ?_)
    unfold bI laidT
    rw [if_neg (by omega)]
  have hVt : VarW w13 w11.heap.size (W4 t0 t1 t2 t3) := by rw [hw13]; exact V12.out.2.2.2.2.2.kept bx
  have hVk : VarR w13 zk 41 32 (kb A) := by rw [hw13]; exact V12.out.2.2.1.kept bx
  have hVb : Below w.heap.size w w13 := by rw [hw13]; exact V12.out.1.trans (bx.mono V12.out.1.size)
  clear hw13 bx
  go_wp2_with (first | (refine wpList_store_varW (u := W4 t0 t1 t2 t3) rfl _ _ rfl w11.heap.size rfl rfl HT.out hn ?_; rw [← HW12.out]) | (refine wpList_load_varW rfl _ rfl w11.heap.size rfl V12.out.2.2.2.2.2 ?_) | (refine wpList_load_varW rfl _ rfl zn rfl V12.out.2.2.2.2.1 ?_) | (refine wpList_load_row rfl 54 _ rfl zs rfl 54 _ (0, 0) _ (row_heap V12.out.2.2.2.1.row) Tryz.underlying54 rfl (info54v _) ?_) | (refine wpList_store_row rfl 54 _ _ rfl w12.heap.size (vec 64 (bI (sgB R S))) rfl rfl 54 _ (heap_alloc_new _ _) (info54v _) (by simp) (one_bI _ _) ?_; rw [World.setRow_alloc_new, ← HW13.out]))
  clear hz HW12 HW13 hn hq
  have HKB : Hid (VarR w13 zk 41 32 (kb A) ∧ Below w.heap.size w w13) := ⟨hVk, hVb⟩
  have HVT : Hid (VarW w13 w11.heap.size (W4 t0 t1 t2 t3)) := hVt
  have HM13 : Hid (Sha.Bytes w13 am lenm capm m) := hbm13
  clear V12 hVk hVb hVt hbm13 HM13
  generalize w12.heap.size = c at *
  generalize w11.heap.size = zt at *
  have hczt : c ≠ zt := by omega
  have hczk : zk ≠ c := by omega
  clear hcl hkl
  go_loopw [15] (fun i wr => ∃ k : Nat, k ≤ 32 ∧ i = .int .i64 (k : Int) ∧ wr.rowIs c 54 64 (bI (laidT R S T k)) ∧ Hid (VarW wr zt (W4 t0 t1 t2 t3)) ∧ Hid (VarR wr zk 41 32 (kb A) ∧ Below w.heap.size w wr)) (fun i _ => 32 - Sha.nat9 i)
  case atStart => exact ⟨0, by omega, rfl, hrow, HVT.out, HKB.out⟩
  case round =>
    clear hrow HVT HKB
    obtain ⟨k, hk, rfl, hrow, KW, KB⟩ := hrel
    by_cases hlt : k < 32
    · have hrow2 : Hid ((wr.setCell ⟨c, 32 + k, none⟩ (.int .u8 (T / 256 ^ k % 256))).rowIs c 54 64 (bI (laidT R S T (k + 1)))) := laidT_step hrow hlt
      have hcl := World.rowIs.lt hrow
      have hc2 : wr.cell? ⟨c, 32 + k, none⟩ = some (bI (laidT R S T k) (32 + k)) := World.rowIs.cell hrow (by omega)
      have hfz : wr.frozen? ⟨c, 32 + k, none⟩ = false := World.rowIs.frozen hrow _
      obtain ⟨old, hold⟩ : ∃ old, bI (laidT R S T k) (32 + k) = .int .u8 old := ⟨_, rfl⟩
      rw [hold] at hc2
      have hl := fcell_of KW.out.2 (k / 8) (by omega)
      have hL := limbOf_limb HL.out.1 (k / 8)
      have hd := fdiv_limb hL (8 * (k % 8))
      have hnum := fbyte_num t0 t1 t2 t3 HL.out.1 k hlt
      rw [HL.out.2] at hnum
      have hx : 0 ≤ T / 256 ^ k % 256 ∧ T / 256 ^ k % 256 < 256 := by omega
      generalize T / 256 ^ k % 256 = x at *
      generalize limbOf t0 t1 t2 t3 (k / 8) = lm at *
      clear hold hrow
      have hdd : decide ((k : Int) < 32) = true := by simp; omega
      go_wp2
      rw [← hnum]
      exact ⟨⟨k + 1, by omega, by go_num, hrow2.out, KW.out.far hczt _ _, KB.out.1.far hczk _ _, KB.out.2.setCell hwl _⟩, by simp [Sha.nat9]; omega⟩
    · obtain hk32 : k = 32 := by omega
      have hr3 : VarR wr c 54 64 (bI (sgB R T)) := laidT_end (by rw [← hk32]; exact hrow)
      have HR3 : Hid (VarR wr c 54 64 (bI (sgB R T))) := hr3
      clear hrow hr3 hk32
      have hdd : decide ((k : Int) < 32) = false := by simp; omega
      go_wp2_with (first | (refine wpList_load_run rfl 41 _ rfl _ rfl (L41.out KB.out.1) ?_) | (refine wpList_load_run rfl 54 _ rfl _ rfl (L54.out HR3.out) ?_))
      have hv2 := g_verify HB.out.1.1 HB.out.1.2 HB.out.2.1.1 HB.out.2.1.2 HTB.out.1 (Int.lt_trans HTB.out.2 (by decide)) am lenm capm m wr (HMW.out.below KB.out.2)
      unfold keyV sigV at hv2
      refine Calls.mono hv2 ?_
      clear hv2
      rintro e w14 ⟨bb, rfl, hbb, b14⟩
      obtain rfl : bb = false := Bool.eq_false_iff.2 (fun h => HH2.out T HTB.out.1 HNE.out (hbb.1 h))
      have hbl := KB.out.2.trans (b14.mono KB.out.2.size)
      clear hbb b14
      go_wp2
      go_ret
      exact ⟨rfl, hbl⟩
end Go.Proofs.YtionjibiemncbaaGreat
