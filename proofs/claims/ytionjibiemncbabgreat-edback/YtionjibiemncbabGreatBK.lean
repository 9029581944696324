/- EdBack: points and bytes go back and forth. -/
import Derived.Test.YtionjibiemncbabGreatGShH1
import Derived.Test.YtionjibiemncbabGreatGOP2
import Derived.Test.YtionjibiemncbabGreatDM
import Derived.Test.YtionjibiemncbabGreatGHV
import Derived.Laws.StructEq
set_option linter.unusedSimpArgs false
set_option linter.unusedVariables false
namespace Go.Proofs.YtionjibiemncbabGreat
open Go.RowKit
theorem eq_vec_same {P : Program} (d t e n : Nat) (ht : P.underlying t = some (.array n e)) (hs : ∀ w, (sizeOf e).run P w = .ok 1 w) (ha : ∀ w, (isAgg e).run P w = .ok false w) (f : Nat → Value)
    (hf : ∀ i, i < n → ∀ w, (Op.equalIn d e (f i) (f i)).run P w = .ok true w) (w : World) :
    (Op.equalIn (d + 1) t (.agg (vec n f)) (.agg (vec n f))).run P w = .ok true w := by
  rw [Op.equalIn]
  simp only [Sem.run_bind, run_underlying ht, Result.andThen_ok, hs, Std.Legacy.Range.forIn_eq_forIn_range']
  have hl : ∀ l : List Nat, (∀ i ∈ l, i < n) → (forIn (m := Sem) l ((none : Option Bool), ()) fun i __s => do
            let __do_lift ← part e (vec n f) (i * 1)
            let __do_lift_1 ← part e (vec n f) (i * 1)
            let __do_lift ← Op.equalIn d e __do_lift __do_lift_1
            if (!__do_lift) = true then pure (ForInStep.done (some false, ())) else pure (ForInStep.yield ((none : Option Bool), ()))).run P w = .ok (none, ()) w := by
    intro l
    induction l with
    | nil => intro _; simp
    | cons i l ih =>
      intro hi
      have h1 : i < n := hi i (by simp)
      have h2 := ih (fun j hj => hi j (by simp [hj]))
      have hp : (part e (vec n f) (i * 1)).run P w = .ok (f i) w := by
        simp [part, Sem.run_bind, ha, get_vec n f i h1]
      rw [List.forIn_cons]
      simp only [Sem.run_bind, hp, Result.andThen_ok, hf i h1, Bool.not_true, Bool.false_eq_true, if_false, Sem.run_pure]
      exact h2
  rw [hl _ (fun i hi => by simp at hi; omega)]
  simp
theorem eq_row {P : Program} (t e n : Nat) (ht : P.underlying t = some (.array n e)) (hs : ∀ w, (sizeOf e).run P w = .ok 1 w) (ha : ∀ w, (isAgg e).run P w = .ok false w) (k : IntKind) (he : P.underlying e = some (.int k)) (x : Nat → Int) (w : World) :
    (Op.equalIn 10000 t (.agg (vec n fun j => .int k (x j))) (.agg (vec n fun j => .int k (x j)))).run P w = .ok true w :=
  eq_vec_same 9999 t e n ht hs ha _ (fun i _ w => by rw [run_equalIn_int w 9998 e k k _ _ he]; simp) w
theorem eq_key (n : Int) (w : World) : (Op.equalIn 10000 28 (.agg (vec 32 (kb n))) (.agg (vec 32 (kb n)))).run Tryz.prog w = .ok true w := by
  have h := eq_row (P := Tryz.prog) 28 5 32 Tryz.underlying28 (fun w => by kernel_rfl) (fun w => by kernel_rfl) .u8 Tryz.underlying5
  exact h _ w
theorem load29 {w : World} {z : Nat} {v0 v1 : Value} (h : VarS w z 29 [v0, v1]) : (loadVar 29 ⟨z, 0, none⟩).run Tryz.prog w = .ok (.agg (catW [v0, v1])) w :=
  run_loadVar_row w z 29 29 _ (0, 0) _ h.2 Tryz.underlying29 rfl (by rw [catW_size h.1]; kernel_rfl)
theorem loadKey {w : World} {z : Nat} {n : Int} (h : VarR w z 28 32 (kb n)) : (loadVar 28 ⟨z, 0, none⟩).run Tryz.prog w = .ok (.agg (vec 32 (kb n))) w :=
  run_loadVar_row w z 28 28 _ (0, 0) _ (row_heap h.row) Tryz.underlying28 rfl (info41v _)
set_option maxRecDepth 100000 in
set_option maxHeartbeats 8000000 in
theorem back_none {p0 p1 : Value} {x y : Int} (hx : IsW p0 x) (hy : IsW p1 y) {n : Int} (n0 : 0 ≤ n) (n1 : n < T256) (hdk : decK n = none) (w : World) :
    Calls Tryz.prog 3 #[.agg (catW [p0, p1]), keyV n] w fun e w' => e = .returned (.bool true) ∧ Below w.heap.size w w' := by
  have HXY : Hid (IsW p0 x ∧ IsW p1 y) := ⟨hx, hy⟩
  have HN : Hid (0 ≤ n ∧ n < T256) := ⟨n0, n1⟩
  have V0 : Hid (VarS ((w.alloc (.cells (catW [p0, p1]) 26)).alloc (.cells (vec 32 (kb n)) 28)) w.heap.size 26 [p0, p1] ∧ VarR ((w.alloc (.cells (catW [p0, p1]) 26)).alloc (.cells (vec 32 (kb n)) 28)) (w.heap.size + 1) 28 32 (kb n) ∧ Below w.heap.size w ((w.alloc (.cells (catW [p0, p1]) 26)).alloc (.cells (vec 32 (kb n)) 28))) := ⟨VarS.old ⟨words2 hx hy, heap_alloc_new _ _⟩ _, heap_row (heapAt _ _ _ (by simp)), by go_grown⟩
  clear n0 n1 hx hy
  have HDK : Hid (decK n = none) := hdk
  clear hdk
  go_enter Tryz.func3, Tryz.ntmps3
  unfold keyV
  go_wp2_with (first | (refine wpList_load_row rfl 28 _ rfl (w.heap.size + 1) rfl 28 _ (0, 0) _ (row_heap V0.out.2.1.row) Tryz.underlying28 rfl (info41v _) ?_))
  generalize ((w.alloc (.cells (catW [p0, p1]) 26)).alloc (.cells (vec 32 (kb n)) 28)) = w0 at V0 ⊢
  have hdec := g_decode HN.out.1 HN.out.2 w0
  unfold keyV at hdec
  rw [HDK.out] at hdec
  refine Calls.mono hdec ?_
  clear hdec
  rintro e w1 ⟨k0, k1, rfl, hk, b1⟩
  have V1 : Hid (VarS w1 w.heap.size 26 [p0, p1] ∧ VarR w1 (w.heap.size + 1) 28 32 (kb n) ∧ Below w.heap.size w w1) := ⟨V0.out.1.kept b1, V0.out.2.1.kept b1, V0.out.2.2.trans (b1.mono V0.out.2.2.size)⟩
  have hlt1 : w.heap.size + 1 < w1.heap.size := V1.out.2.1.lt
  clear V0 b1
  simp only [decE, decV] at hk ⊢
  have HKK : Hid (IsF k0 0 ∧ IsF k1 0) := hk
  clear hk
  have hst := (VarS.new28 w1).store (us := [k0, k1]) (words2 HKK.out.1 HKK.out.2) rfl (by kernel_rfl)
  have hb2 : Below w1.heap.size w1 ((w1.alloc (.cells #[.int .u64 0, .int .u64 0, .int .u64 0, .int .u64 0, .int .u64 0, .int .u64 0, .int .u64 0, .int .u64 0] 29)).setRow w1.heap.size (catW [k0, k1])) := below_setRow ((Below.refl _ _).alloc (Nat.le_refl _) _) (Nat.le_refl _) _
  go_wp2_with (first | (refine wpList_store_run rfl 29 _ _ rfl w1.heap.size (catW [k0, k1]) rfl rfl hst ?_))
  clear hst
  have V2 : Hid (VarS ((w1.alloc (.cells #[.int .u64 0, .int .u64 0, .int .u64 0, .int .u64 0, .int .u64 0, .int .u64 0, .int .u64 0, .int .u64 0] 29)).setRow w1.heap.size (catW [k0, k1])) w.heap.size 26 [p0, p1] ∧ VarR ((w1.alloc (.cells #[.int .u64 0, .int .u64 0, .int .u64 0, .int .u64 0, .int .u64 0, .int .u64 0, .int .u64 0, .int .u64 0] 29)).setRow w1.heap.size (catW [k0, k1])) (w.heap.size + 1) 28 32 (kb n) ∧ Below w.heap.size w ((w1.alloc (.cells #[.int .u64 0, .int .u64 0, .int .u64 0, .int .u64 0, .int .u64 0, .int .u64 0, .int .u64 0, .int .u64 0] 29)).setRow w1.heap.size (catW [k0, k1])) ∧ VarS ((w1.alloc (.cells #[.int .u64 0, .int .u64 0, .int .u64 0, .int .u64 0, .int .u64 0, .int .u64 0, .int .u64 0, .int .u64 0] 29)).setRow w1.heap.size (catW [k0, k1])) w1.heap.size 29 [k0, k1]) := ⟨V1.out.1.kept hb2, V1.out.2.1.kept hb2, V1.out.2.2.trans (hb2.mono V1.out.2.2.size), (VarS.new28 w1).put (words2 HKK.out.1 HKK.out.2)⟩
  clear V1 hb2
  generalize ((w1.alloc (.cells #[.int .u64 0, .int .u64 0, .int .u64 0, .int .u64 0, .int .u64 0, .int .u64 0, .int .u64 0, .int .u64 0] 29)).setRow w1.heap.size (catW [k0, k1])) = w2 at V2 ⊢
  refine wp_region_held_drew (S := fun w' => Below w2.heap.size w2 w') (by kernel_rfl) (Below.drew (Below.refl _ _)) (fun hHeld => ?_)
  refine tk 0 (.int .i64 20) (fun w9 hSw => ?_) hHeld ?_
  · go_simp
  simp only [sm]
  refine tk 1 (.bool false) (fun w9 hSw => ?_) hHeld ?_
  · go_simp
  simp only [sm]
  refine tk 2 (.bool false) (fun w9 hSw => ?_) hHeld ?_
  · go_simp
  simp only [sm]
  refine wpAnyH_take (i := 3) (v := undef) rfl (by kernel_rfl) (by kernel_rfl) (by kernel_rfl) (fun _ _ _ h => h) (Or.inr ⟨by rfl, rfl⟩) hHeld ?_
  simp only [sm]
  refine wpAnyH_take (i := 4) (v := undef) rfl (by kernel_rfl) (by kernel_rfl) (by kernel_rfl) (fun _ _ _ h => h) (Or.inr ⟨by rfl, rfl⟩) hHeld ?_
  simp only [sm]
  refine wpAnyH_take (i := 5) (v := undef) rfl (by kernel_rfl) (by kernel_rfl) (by kernel_rfl) (fun _ _ _ h => h) (Or.inr ⟨by rfl, rfl⟩) hHeld ?_
  simp only [sm]
  refine wpAnyH_take (i := 6) (v := undef) rfl (by kernel_rfl) (by kernel_rfl) (by kernel_rfl) (fun _ _ _ h => h) (Or.inr ⟨by rfl, rfl⟩) hHeld ?_
  simp only [sm]
  refine wpAnyH_take (i := 7) (v := undef) rfl (by kernel_rfl) (by kernel_rfl) (by kernel_rfl) (fun _ _ _ h => h) (Or.inr ⟨by rfl, rfl⟩) hHeld ?_
  simp only [sm]
  refine wpAnyH_take (i := 8) (v := undef) rfl (by kernel_rfl) (by kernel_rfl) (by kernel_rfl) (fun _ _ _ h => h) (Or.inr ⟨by rfl, rfl⟩) hHeld ?_
  simp only [sm]
  refine wpAnyH_take (i := 9) (v := undef) rfl (by kernel_rfl) (by kernel_rfl) (by kernel_rfl) (fun _ _ _ h => h) (Or.inr ⟨by rfl, rfl⟩) hHeld ?_
  simp only [sm]
  refine wpAnyH_take (i := 10) (v := undef) rfl (by kernel_rfl) (by kernel_rfl) (by kernel_rfl) (fun _ _ _ h => h) (Or.inr ⟨by rfl, rfl⟩) hHeld ?_
  simp only [sm]
  refine wpAnyH_take (i := 11) (v := undef) rfl (by kernel_rfl) (by kernel_rfl) (by kernel_rfl) (fun _ _ _ h => h) (Or.inr ⟨by rfl, rfl⟩) hHeld ?_
  simp only [sm]
  refine tk 12 (.bool false) (fun w9 hSw => ?_) hHeld ?_
  · go_simp
  simp only [sm]
  refine tk 13 (.bool false) (fun w9 hSw => ?_) hHeld ?_
  · go_simp
  simp only [sm]
  refine tk 14 (.int .i64 20) (fun w9 hSw => ?_) hHeld ?_
  · go_simp
  simp only [sm]
  refine tk 15 (.bool true) (fun w9 hSw => ?_) hHeld ?_
  · go_simp
  simp only [sm]
  refine tk 16 (.bool true) (fun w9 hSw => ?_) hHeld ?_
  · go_simp
  simp only [sm]
  refine tk 17 (.agg (catW [k0, k1])) (fun w9 hSw => ?_) hHeld ?_
  · exact run_load_exec 29 _ rfl _ rfl (load29 (V2.out.2.2.2.kept hSw))
  simp only [sm]
  refine tk 18 (.agg (catW [W4 0 0 0 0, W4 0 0 0 0])) (fun w9 hSw => ?_) hHeld ?_
  · rw [← zero8]
    go_simp
  simp only [sm]
  refine tk 19 (.bool false) (fun w9 hSw => ?_) hHeld ?_
  · have hq := eqP HKK.out.1 HKK.out.2 isF0 isF0 w9
    simp only [decide_true, Bool.and_true] at hq
    have hq2 : (binOp .neq 29 (.agg (catW [k0, k1])) (.agg (catW [W4 0 0 0 0, W4 0 0 0 0]))).run Tryz.prog w9 = .ok (.bool false) w9 := by rw [run_neq_struct, hq]; rfl
    have hg := fun w => run_eqGuard_agg (P := Tryz.prog) (w := w) .neq 29 (.tmp 31) (.tmp 32) (catW [k0, k1]) (catW [W4 0 0 0 0, W4 0 0 0 0]) (by kernel_rfl)
    clear hq
    generalize Value.agg (catW [k0, k1]) = X1 at hq2 hg ⊢
    generalize Value.agg (catW [W4 0 0 0 0, W4 0 0 0 0]) = X2 at hq2 hg ⊢
    go_simp
  simp only [sm]
  refine tk 20 (.bool false) (fun w9 hSw => ?_) hHeld ?_
  · go_simp
  simp only [sm]
  refine tk 21 (.bool false) (fun w9 hSw => ?_) hHeld ?_
  · go_simp
  simp only [sm]
  refine wpAnyH_done (by kernel_rfl) ?_ _
  have V3 : Hid (VarS w2.drew w.heap.size 26 [p0, p1] ∧ Below w.heap.size w w2.drew) := ⟨V2.out.1.drew, V2.out.2.2.1.drew⟩
  clear V2 hHeld
  generalize w2.drew = w3 at V3 ⊢
  cases hpt : ptOf x y with
  | none =>
    have HPT : Hid (ptOf x y = none) := hpt
    clear hpt
    go_wp2_with (first
      | (refine wpList_load_row rfl 26 _ rfl w.heap.size rfl 26 _ (0, 0) _ V3.out.1.2 Tryz.underlying26 rfl (by rw [catW_size V3.out.1.1]; kernel_rfl) ?_)
      | (go_at_call 7
         refine Calls.mono (g_own HXY.out.1 HXY.out.2 w3) ?_
         rintro e w4 ⟨rfl, b4⟩
         have V4 : Hid (VarS w4 w.heap.size 26 [p0, p1] ∧ Below w.heap.size w w4) := ⟨V3.out.1.kept b4, V3.out.2.trans (b4.mono V3.out.2.size)⟩
         clear V3 b4)
      | (go_at_call 5
         have hon := g_on HXY.out.1 HXY.out.2 w4
         rw [HPT.out] at hon
         refine Calls.mono (hon) ?_
         rintro e w5 ⟨rfl, b5⟩
         have V5 : Hid (VarS w5 w.heap.size 26 [p0, p1] ∧ Below w.heap.size w w5) := ⟨V4.out.1.kept b5, V4.out.2.trans (b5.mono V4.out.2.size)⟩
         clear V4 b5)
      | (go_at_call 8
         refine Calls.mono (alive_any w5) ?_
         rintro e w6 ⟨rfl, b6⟩
         have V6 : Hid (VarS w6 w.heap.size 26 [p0, p1] ∧ Below w.heap.size w w6) := ⟨V5.out.1.kept b6, V5.out.2.trans (b6.mono V5.out.2.size)⟩
         clear V5 b6)
      | go_in)
    go_ret
    exact ⟨rfl, V6.out.2⟩
  | some p =>
    have HPT : Hid (ptOf x y = some p ∧ IsF p0 p.x ∧ IsF p1 p.y) := by
      obtain ⟨⟨h1, h2⟩, h3, h4⟩ := ptOf_some hpt
      exact ⟨hpt, by rw [h3]; exact isF_lt HXY.out.1 h1, by rw [h4]; exact isF_lt HXY.out.2 h2⟩
    clear hpt
    go_wp2_with (first
      | (refine wpList_load_row rfl 26 _ rfl w.heap.size rfl 26 _ (0, 0) _ V3.out.1.2 Tryz.underlying26 rfl (by rw [catW_size V3.out.1.1]; kernel_rfl) ?_)
      | (go_at_call 7
         refine Calls.mono (g_own HXY.out.1 HXY.out.2 w3) ?_
         rintro e w4 ⟨rfl, b4⟩
         have V4 : Hid (VarS w4 w.heap.size 26 [p0, p1] ∧ Below w.heap.size w w4) := ⟨V3.out.1.kept b4, V3.out.2.trans (b4.mono V3.out.2.size)⟩
         clear V3 b4)
      | (go_at_call 5
         have hon := g_on HXY.out.1 HXY.out.2 w4
         rw [HPT.out.1] at hon
         refine Calls.mono (hon) ?_
         rintro e w5 ⟨rfl, b5⟩
         have V5 : Hid (VarS w5 w.heap.size 26 [p0, p1] ∧ Below w.heap.size w w5) := ⟨V4.out.1.kept b5, V4.out.2.trans (b5.mono V4.out.2.size)⟩
         clear V4 b5)
      | (refine wpList_load_row rfl 26 _ rfl w.heap.size rfl 26 _ (0, 0) _ V5.out.1.2 Tryz.underlying26 rfl (by rw [catW_size V5.out.1.1]; kernel_rfl) ?_)
      | (go_at_call 7
         refine Calls.mono (g_own HXY.out.1 HXY.out.2 w5) ?_
         rintro e w7 ⟨rfl, b7⟩
         have V7 : Hid (VarS w7 w.heap.size 26 [p0, p1] ∧ Below w.heap.size w w7) := ⟨V5.out.1.kept b7, V5.out.2.trans (b7.mono V5.out.2.size)⟩
         clear V5 b7)
      | (go_at_call 6
         refine Calls.mono (g_encode HPT.out.2.1 HPT.out.2.2 w7) ?_
         rintro e w9 ⟨rfl, b9⟩
         have V9 : Hid (VarS w9 w.heap.size 26 [p0, p1] ∧ Below w.heap.size w w9) := ⟨V7.out.1.kept b9, V7.out.2.trans (b9.mono V7.out.2.size)⟩
         clear V7 b9)
      | (go_at_call 4
         have hdec := g_decode (encP_bd p).1 (encP_bd p).2 w9
         rw [decK_enc p] at hdec
         unfold keyV encP at hdec
         unfold keyV
         refine Calls.mono hdec ?_
         clear hdec
         rintro e w8 ⟨v0, v1, rfl, hk8, b8⟩
         simp only [decE, decV] at hk8 ⊢
         have V8 : Hid (VarS w8 w.heap.size 26 [p0, p1] ∧ Below w.heap.size w w8 ∧ (IsF v0 p.x ∧ IsF v1 p.y)) := ⟨V9.out.1.kept b8, V9.out.2.trans (b8.mono V9.out.2.size), hk8⟩
         have hst := (VarS.new28 w8).store (us := [v0, v1]) (words2 hk8.1 hk8.2) rfl (by kernel_rfl)
         clear V9 b8 hk8)
      | (refine wpList_store_run rfl 29 _ _ rfl w8.heap.size (catW [v0, v1]) rfl rfl hst ?_)
      | go_in)
    have hb2 : Below w8.heap.size w8 ((w8.alloc (.cells #[.int .u64 0, .int .u64 0, .int .u64 0, .int .u64 0, .int .u64 0, .int .u64 0, .int .u64 0, .int .u64 0] 29)).setRow w8.heap.size (catW [v0, v1])) := below_setRow ((Below.refl _ _).alloc (Nat.le_refl _) _) (Nat.le_refl _) _
    have VA : Hid (VarS ((w8.alloc (.cells #[.int .u64 0, .int .u64 0, .int .u64 0, .int .u64 0, .int .u64 0, .int .u64 0, .int .u64 0, .int .u64 0] 29)).setRow w8.heap.size (catW [v0, v1])) w.heap.size 26 [p0, p1] ∧ Below w.heap.size w ((w8.alloc (.cells #[.int .u64 0, .int .u64 0, .int .u64 0, .int .u64 0, .int .u64 0, .int .u64 0, .int .u64 0, .int .u64 0] 29)).setRow w8.heap.size (catW [v0, v1])) ∧ VarS ((w8.alloc (.cells #[.int .u64 0, .int .u64 0, .int .u64 0, .int .u64 0, .int .u64 0, .int .u64 0, .int .u64 0, .int .u64 0] 29)).setRow w8.heap.size (catW [v0, v1])) w8.heap.size 29 [v0, v1] ∧ (IsF v0 p.x ∧ IsF v1 p.y)) := ⟨V8.out.1.kept hb2, V8.out.2.1.trans (hb2.mono V8.out.2.1.size), (VarS.new28 w8).put (words2 V8.out.2.2.1 V8.out.2.2.2), V8.out.2.2⟩
    clear V8 hb2 hst
    generalize ((w8.alloc (.cells #[.int .u64 0, .int .u64 0, .int .u64 0, .int .u64 0, .int .u64 0, .int .u64 0, .int .u64 0, .int .u64 0] 29)).setRow w8.heap.size (catW [v0, v1])) = wa at VA ⊢
    refine wp_region_held_drew (S := fun w' => Below wa.heap.size wa w') (by kernel_rfl) (Below.drew (Below.refl _ _)) (fun hHeld => ?_)
    refine tk 0 (.int .i64 0) (fun w9 hSw => ?_) hHeld ?_
    · go_simp
    simp only [sm]
    refine tk 1 (.bool true) (fun w9 hSw => ?_) hHeld ?_
    · go_simp
    simp only [sm]
    refine tk 2 (.bool true) (fun w9 hSw => ?_) hHeld ?_
    · go_simp
    simp only [sm]
    refine tk 3 (.agg (catW [v0, v1])) (fun w9 hSw => ?_) hHeld ?_
    · exact run_load_exec 29 _ rfl _ rfl (load29 (VA.out.2.2.1.kept hSw))
    simp only [sm]
    refine tk 4 (.agg (catW [p0, p1])) (fun w9 hSw => ?_) hHeld ?_
    · exact run_load_exec 26 _ rfl _ rfl (load26 (VA.out.1.kept hSw))
    simp only [sm]
    refine rd 5 (fun K hK => ?_)
    generalize wa.drew = wb at hHeld ⊢
    go_simp
    refine Calls.mono (g_own HXY.out.1 HXY.out.2 wb) ?_
    rintro e wc ⟨rfl, bc⟩
    have hHc : Below wa.heap.size wa wc := hHeld.trans (bc.mono hHeld.size)
    clear hHeld bc
    go_wp2_with fail
    refine hK.out _ _ hHc (fun hHeld => ?_)
    clear hK K
    try simp only [sm]
    refine tk 6 (.bool true) (fun w9 hSw => ?_) hHeld ?_
    · have hq := eqP VA.out.2.2.2.1 VA.out.2.2.2.2 HPT.out.2.1 HPT.out.2.2 w9
      simp only [decide_true, Bool.and_true] at hq
      have hq2 : (binOp .eql 29 (.agg (catW [v0, v1])) (.agg (catW [p0, p1]))).run Tryz.prog w9 = .ok (.bool true) w9 := by rw [run_eql_struct, hq]; rfl
      have hg := fun w => run_eqGuard_agg (P := Tryz.prog) (w := w) .eql 29 (.tmp 51) (.tmp 53) (catW [v0, v1]) (catW [p0, p1]) (by kernel_rfl)
      clear hq
      generalize Value.agg (catW [v0, v1]) = X1 at hq2 hg ⊢
      generalize Value.agg (catW [p0, p1]) = X2 at hq2 hg ⊢
      go_simp
    simp only [sm]
    refine tk 7 (.bool true) (fun w9 hSw => ?_) hHeld ?_
    · go_simp
    simp only [sm]
    refine tk 8 (.bool true) (fun w9 hSw => ?_) hHeld ?_
    · go_simp
    simp only [sm]
    refine rd 9 (fun K hK => ?_)
    go_simp
    refine Calls.mono (alive_any wc) ?_
    rintro e wd ⟨rfl, bd⟩
    have hHd : Below wa.heap.size wa wd := hHc.trans (bd.mono hHc.size)
    clear hHeld bd hHc
    go_wp2_with fail
    refine hK.out _ _ hHd (fun hHeld => ?_)
    clear hK K
    try simp only [sm]
    refine tk 10 (.bool true) (fun w9 hSw => ?_) hHeld ?_
    · go_simp
    simp only [sm]
    refine tk 11 (.bool true) (fun w9 hSw => ?_) hHeld ?_
    · go_simp
    simp only [sm]
    refine wpAnyH_done (by kernel_rfl) ?_ _
    go_wp2
    go_ret
    exact ⟨rfl, VA.out.2.1.trans (hHd.mono VA.out.2.1.size)⟩
set_option maxRecDepth 100000 in
set_option maxHeartbeats 8000000 in
theorem back_some {p0 p1 : Value} {x y : Int} (hx : IsW p0 x) (hy : IsW p1 y) {n : Int} (n0 : 0 ≤ n) (n1 : n < T256) {a b : K} (hdk : decK n = some (a, b)) (w : World) :
    Calls Tryz.prog 3 #[.agg (catW [p0, p1]), keyV n] w fun e w' => e = .returned (.bool true) ∧ Below w.heap.size w w' := by
  have HXY : Hid (IsW p0 x ∧ IsW p1 y) := ⟨hx, hy⟩
  have HN : Hid (0 ≤ n ∧ n < T256) := ⟨n0, n1⟩
  have V0 : Hid (VarS ((w.alloc (.cells (catW [p0, p1]) 26)).alloc (.cells (vec 32 (kb n)) 28)) w.heap.size 26 [p0, p1] ∧ VarR ((w.alloc (.cells (catW [p0, p1]) 26)).alloc (.cells (vec 32 (kb n)) 28)) (w.heap.size + 1) 28 32 (kb n) ∧ Below w.heap.size w ((w.alloc (.cells (catW [p0, p1]) 26)).alloc (.cells (vec 32 (kb n)) 28))) := ⟨VarS.old ⟨words2 hx hy, heap_alloc_new _ _⟩ _, heap_row (heapAt _ _ _ (by simp)), by go_grown⟩
  clear n0 n1 hx hy
  have HDK : Hid (decK n = some (a, b)) := hdk
  clear hdk
  go_enter Tryz.func3, Tryz.ntmps3
  unfold keyV
  go_wp2_with (first | (refine wpList_load_row rfl 28 _ rfl (w.heap.size + 1) rfl 28 _ (0, 0) _ (row_heap V0.out.2.1.row) Tryz.underlying28 rfl (info41v _) ?_))
  generalize ((w.alloc (.cells (catW [p0, p1]) 26)).alloc (.cells (vec 32 (kb n)) 28)) = w0 at V0 ⊢
  have hdec := g_decode HN.out.1 HN.out.2 w0
  unfold keyV at hdec
  rw [HDK.out] at hdec
  refine Calls.mono hdec ?_
  clear hdec
  rintro e w1 ⟨k0, k1, rfl, hk, b1⟩
  have V1 : Hid (VarS w1 w.heap.size 26 [p0, p1] ∧ VarR w1 (w.heap.size + 1) 28 32 (kb n) ∧ Below w.heap.size w w1) := ⟨V0.out.1.kept b1, V0.out.2.1.kept b1, V0.out.2.2.trans (b1.mono V0.out.2.2.size)⟩
  have hlt1 : w.heap.size + 1 < w1.heap.size := V1.out.2.1.lt
  clear V0 b1
  simp only [decE, decV] at hk ⊢
  have HKK : Hid (IsF k0 a ∧ IsF k1 b) := hk
  clear hk
  have hst := (VarS.new28 w1).store (us := [k0, k1]) (words2 HKK.out.1 HKK.out.2) rfl (by kernel_rfl)
  have hb2 : Below w1.heap.size w1 ((w1.alloc (.cells #[.int .u64 0, .int .u64 0, .int .u64 0, .int .u64 0, .int .u64 0, .int .u64 0, .int .u64 0, .int .u64 0] 29)).setRow w1.heap.size (catW [k0, k1])) := below_setRow ((Below.refl _ _).alloc (Nat.le_refl _) _) (Nat.le_refl _) _
  go_wp2_with (first | (refine wpList_store_run rfl 29 _ _ rfl w1.heap.size (catW [k0, k1]) rfl rfl hst ?_))
  clear hst
  have V2 : Hid (VarS ((w1.alloc (.cells #[.int .u64 0, .int .u64 0, .int .u64 0, .int .u64 0, .int .u64 0, .int .u64 0, .int .u64 0, .int .u64 0] 29)).setRow w1.heap.size (catW [k0, k1])) w.heap.size 26 [p0, p1] ∧ VarR ((w1.alloc (.cells #[.int .u64 0, .int .u64 0, .int .u64 0, .int .u64 0, .int .u64 0, .int .u64 0, .int .u64 0, .int .u64 0] 29)).setRow w1.heap.size (catW [k0, k1])) (w.heap.size + 1) 28 32 (kb n) ∧ Below w.heap.size w ((w1.alloc (.cells #[.int .u64 0, .int .u64 0, .int .u64 0, .int .u64 0, .int .u64 0, .int .u64 0, .int .u64 0, .int .u64 0] 29)).setRow w1.heap.size (catW [k0, k1])) ∧ VarS ((w1.alloc (.cells #[.int .u64 0, .int .u64 0, .int .u64 0, .int .u64 0, .int .u64 0, .int .u64 0, .int .u64 0, .int .u64 0] 29)).setRow w1.heap.size (catW [k0, k1])) w1.heap.size 29 [k0, k1]) := ⟨V1.out.1.kept hb2, V1.out.2.1.kept hb2, V1.out.2.2.trans (hb2.mono V1.out.2.2.size), (VarS.new28 w1).put (words2 HKK.out.1 HKK.out.2)⟩
  clear V1 hb2
  generalize ((w1.alloc (.cells #[.int .u64 0, .int .u64 0, .int .u64 0, .int .u64 0, .int .u64 0, .int .u64 0, .int .u64 0, .int .u64 0] 29)).setRow w1.heap.size (catW [k0, k1])) = w2 at V2 ⊢
  refine wp_region_held_drew (S := fun w' => Below w2.heap.size w2 w') (by kernel_rfl) (Below.drew (Below.refl _ _)) (fun hHeld => ?_)
  refine tk 0 (.int .i64 0) (fun w9 hSw => ?_) hHeld ?_
  · go_simp
  simp only [sm]
  refine tk 1 (.bool true) (fun w9 hSw => ?_) hHeld ?_
  · go_simp
  simp only [sm]
  refine tk 2 (.bool true) (fun w9 hSw => ?_) hHeld ?_
  · go_simp
  simp only [sm]
  refine tk 3 (.agg (catW [k0, k1])) (fun w9 hSw => ?_) hHeld ?_
  · exact run_load_exec 29 _ rfl _ rfl (load29 (V2.out.2.2.2.kept hSw))
  simp only [sm]
  refine rd 4 (fun K hK => ?_)
  obtain ⟨q, hq1, hq2, hq3⟩ := decK_some HN.out.1 HN.out.2 HDK.out
  have HQ : Hid (q.x = a ∧ q.y = b ∧ encP q = n) := ⟨hq1, hq2, hq3⟩
  have hon := g_on HKK.out.1 HKK.out.2 w2.drew
  rw [show ptOf (a.val : Int) (b.val : Int) = some q from by rw [← hq1, ← hq2]; exact ptOf_pt q] at hon
  clear hq1 hq2 hq3
  generalize w2.drew = wb at hHeld hon ⊢
  go_simp
  refine Calls.mono hon ?_
  clear hon
  rintro e wc ⟨rfl, bc⟩
  have hHc : Below w2.heap.size w2 wc := hHeld.trans (bc.mono hHeld.size)
  clear hHeld bc
  go_wp2_with fail
  refine hK.out _ _ hHc (fun hHeld => ?_)
  clear hK K
  try simp only [sm]
  refine tk 5 (.bool false) (fun w9 hSw => ?_) hHeld ?_
  · go_simp
  simp only [sm]
  refine tk 6 (.bool false) (fun w9 hSw => ?_) hHeld ?_
  · go_simp
  simp only [sm]
  refine tk 7 (.agg (catW [k0, k1])) (fun w9 hSw => ?_) hHeld ?_
  · exact run_load_exec 29 _ rfl _ rfl (load29 (V2.out.2.2.2.kept hSw))
  simp only [sm]
  refine tk 9 (.agg (vec 32 (kb n))) (fun w9 hSw => ?_) hHeld ?_
  · exact run_load_exec 28 _ rfl _ rfl (loadKey (V2.out.2.1.kept hSw))
  simp only [sm]
  refine rd 8 (fun K hK => ?_)
  have henc := g_encode HKK.out.1 HKK.out.2 wc
  rw [show encN a b = n from by rw [← HQ.out.1, ← HQ.out.2.1]; exact HQ.out.2.2] at henc
  unfold keyV at henc
  go_simp
  refine Calls.mono henc ?_
  clear henc
  rintro e wd ⟨rfl, bd⟩
  have hHd : Below w2.heap.size w2 wd := hHc.trans (bd.mono hHc.size)
  clear hHeld bd hHc
  go_wp2_with fail
  refine hK.out _ _ hHd (fun hHeld => ?_)
  clear hK K
  try simp only [sm]
  refine tk 10 (.bool false) (fun w9 hSw => ?_) hHeld ?_
  · have hq := eq_key n w9
    have hq2 : (binOp .neq 28 (.agg (vec 32 (kb n))) (.agg (vec 32 (kb n)))).run Tryz.prog w9 = .ok (.bool false) w9 := by rw [run_neq_struct, hq]; rfl
    have hg := fun w => run_eqGuard_agg (P := Tryz.prog) (w := w) .neq 28 (.tmp 22) (.tmp 23) (vec 32 (kb n)) (vec 32 (kb n)) (by kernel_rfl)
    clear hq
    generalize Value.agg (vec 32 (kb n)) = X1 at hq2 hg ⊢
    go_simp
  simp only [sm]
  refine tk 11 (.bool false) (fun w9 hSw => ?_) hHeld ?_
  · go_simp
  simp only [sm]
  refine tk 12 (.bool false) (fun w9 hSw => ?_) hHeld ?_
  · go_simp
  simp only [sm]
  refine tk 13 (.bool false) (fun w9 hSw => ?_) hHeld ?_
  · go_simp
  simp only [sm]
  refine tk 14 (.int .i64 0) (fun w9 hSw => ?_) hHeld ?_
  · go_simp
  simp only [sm]
  refine tk 15 (.bool false) (fun w9 hSw => ?_) hHeld ?_
  · go_simp
  simp only [sm]
  refine tk 16 (.bool false) (fun w9 hSw => ?_) hHeld ?_
  · go_simp
  simp only [sm]
  refine wpAnyH_take (i := 17) (v := undef) rfl (by kernel_rfl) (by kernel_rfl) (by kernel_rfl) (fun _ _ _ h => h) (Or.inr ⟨by rfl, rfl⟩) hHeld ?_
  simp only [sm]
  refine wpAnyH_take (i := 18) (v := undef) rfl (by kernel_rfl) (by kernel_rfl) (by kernel_rfl) (fun _ _ _ h => h) (Or.inr ⟨by rfl, rfl⟩) hHeld ?_
  simp only [sm]
  refine wpAnyH_take (i := 19) (v := undef) rfl (by kernel_rfl) (by kernel_rfl) (by kernel_rfl) (fun _ _ _ h => h) (Or.inr ⟨by rfl, rfl⟩) hHeld ?_
  simp only [sm]
  refine tk 20 (.bool false) (fun w9 hSw => ?_) hHeld ?_
  · go_simp
  simp only [sm]
  refine tk 21 (.bool false) (fun w9 hSw => ?_) hHeld ?_
  · go_simp
  simp only [sm]
  refine wpAnyH_done (by kernel_rfl) ?_ _
  have V3 : Hid (VarS wd w.heap.size 26 [p0, p1] ∧ Below w.heap.size w wd) := ⟨V2.out.1.kept hHd, V2.out.2.2.1.trans (hHd.mono V2.out.2.2.1.size)⟩
  clear V2 hHeld hHd
  generalize wd = w3 at V3 ⊢
  cases hpt : ptOf x y with
  | none =>
    have HPT : Hid (ptOf x y = none) := hpt
    clear hpt
    go_wp2_with (first
      | (refine wpList_load_row rfl 26 _ rfl w.heap.size rfl 26 _ (0, 0) _ V3.out.1.2 Tryz.underlying26 rfl (by rw [catW_size V3.out.1.1]; kernel_rfl) ?_)
      | (go_at_call 7
         refine Calls.mono (g_own HXY.out.1 HXY.out.2 w3) ?_
         rintro e w4 ⟨rfl, b4⟩
         have V4 : Hid (VarS w4 w.heap.size 26 [p0, p1] ∧ Below w.heap.size w w4) := ⟨V3.out.1.kept b4, V3.out.2.trans (b4.mono V3.out.2.size)⟩
         clear V3 b4)
      | (go_at_call 5
         have hon := g_on HXY.out.1 HXY.out.2 w4
         rw [HPT.out] at hon
         refine Calls.mono (hon) ?_
         rintro e w5 ⟨rfl, b5⟩
         have V5 : Hid (VarS w5 w.heap.size 26 [p0, p1] ∧ Below w.heap.size w w5) := ⟨V4.out.1.kept b5, V4.out.2.trans (b5.mono V4.out.2.size)⟩
         clear V4 b5)
      | (go_at_call 8
         refine Calls.mono (alive_any w5) ?_
         rintro e w6 ⟨rfl, b6⟩
         have V6 : Hid (VarS w6 w.heap.size 26 [p0, p1] ∧ Below w.heap.size w w6) := ⟨V5.out.1.kept b6, V5.out.2.trans (b6.mono V5.out.2.size)⟩
         clear V5 b6)
      | go_in)
    go_ret
    exact ⟨rfl, V6.out.2⟩
  | some p =>
    have HPT : Hid (ptOf x y = some p ∧ IsF p0 p.x ∧ IsF p1 p.y) := by
      obtain ⟨⟨h1, h2⟩, h3, h4⟩ := ptOf_some hpt
      exact ⟨hpt, by rw [h3]; exact isF_lt HXY.out.1 h1, by rw [h4]; exact isF_lt HXY.out.2 h2⟩
    clear hpt
    go_wp2_with (first
      | (refine wpList_load_row rfl 26 _ rfl w.heap.size rfl 26 _ (0, 0) _ V3.out.1.2 Tryz.underlying26 rfl (by rw [catW_size V3.out.1.1]; kernel_rfl) ?_)
      | (go_at_call 7
         refine Calls.mono (g_own HXY.out.1 HXY.out.2 w3) ?_
         rintro e w4 ⟨rfl, b4⟩
         have V4 : Hid (VarS w4 w.heap.size 26 [p0, p1] ∧ Below w.heap.size w w4) := ⟨V3.out.1.kept b4, V3.out.2.trans (b4.mono V3.out.2.size)⟩
         clear V3 b4)
      | (go_at_call 5
         have hon := g_on HXY.out.1 HXY.out.2 w4
         rw [HPT.out.1] at hon
         refine Calls.mono (hon) ?_
         rintro e w5 ⟨rfl, b5⟩
         have V5 : Hid (VarS w5 w.heap.size 26 [p0, p1] ∧ Below w.heap.size w w5) := ⟨V4.out.1.kept b5, V4.out.2.trans (b5.mono V4.out.2.size)⟩
         clear V4 b5)
      | (refine wpList_load_row rfl 26 _ rfl w.heap.size rfl 26 _ (0, 0) _ V5.out.1.2 Tryz.underlying26 rfl (by rw [catW_size V5.out.1.1]; kernel_rfl) ?_)
      | (go_at_call 7
         refine Calls.mono (g_own HXY.out.1 HXY.out.2 w5) ?_
         rintro e w7 ⟨rfl, b7⟩
         have V7 : Hid (VarS w7 w.heap.size 26 [p0, p1] ∧ Below w.heap.size w w7) := ⟨V5.out.1.kept b7, V5.out.2.trans (b7.mono V5.out.2.size)⟩
         clear V5 b7)
      | (go_at_call 6
         refine Calls.mono (g_encode HPT.out.2.1 HPT.out.2.2 w7) ?_
         rintro e w9 ⟨rfl, b9⟩
         have V9 : Hid (VarS w9 w.heap.size 26 [p0, p1] ∧ Below w.heap.size w w9) := ⟨V7.out.1.kept b9, V7.out.2.trans (b9.mono V7.out.2.size)⟩
         clear V7 b9)
      | (go_at_call 4
         have hdec := g_decode (encP_bd p).1 (encP_bd p).2 w9
         rw [decK_enc p] at hdec
         unfold keyV encP at hdec
         unfold keyV
         refine Calls.mono hdec ?_
         clear hdec
         rintro e w8 ⟨v0, v1, rfl, hk8, b8⟩
         simp only [decE, decV] at hk8 ⊢
         have V8 : Hid (VarS w8 w.heap.size 26 [p0, p1] ∧ Below w.heap.size w w8 ∧ (IsF v0 p.x ∧ IsF v1 p.y)) := ⟨V9.out.1.kept b8, V9.out.2.trans (b8.mono V9.out.2.size), hk8⟩
         have hst := (VarS.new28 w8).store (us := [v0, v1]) (words2 hk8.1 hk8.2) rfl (by kernel_rfl)
         clear V9 b8 hk8)
      | (refine wpList_store_run rfl 29 _ _ rfl w8.heap.size (catW [v0, v1]) rfl rfl hst ?_)
      | go_in)
    have hb2 : Below w8.heap.size w8 ((w8.alloc (.cells #[.int .u64 0, .int .u64 0, .int .u64 0, .int .u64 0, .int .u64 0, .int .u64 0, .int .u64 0, .int .u64 0] 29)).setRow w8.heap.size (catW [v0, v1])) := below_setRow ((Below.refl _ _).alloc (Nat.le_refl _) _) (Nat.le_refl _) _
    have VA : Hid (VarS ((w8.alloc (.cells #[.int .u64 0, .int .u64 0, .int .u64 0, .int .u64 0, .int .u64 0, .int .u64 0, .int .u64 0, .int .u64 0] 29)).setRow w8.heap.size (catW [v0, v1])) w.heap.size 26 [p0, p1] ∧ Below w.heap.size w ((w8.alloc (.cells #[.int .u64 0, .int .u64 0, .int .u64 0, .int .u64 0, .int .u64 0, .int .u64 0, .int .u64 0, .int .u64 0] 29)).setRow w8.heap.size (catW [v0, v1])) ∧ VarS ((w8.alloc (.cells #[.int .u64 0, .int .u64 0, .int .u64 0, .int .u64 0, .int .u64 0, .int .u64 0, .int .u64 0, .int .u64 0] 29)).setRow w8.heap.size (catW [v0, v1])) w8.heap.size 29 [v0, v1] ∧ (IsF v0 p.x ∧ IsF v1 p.y)) := ⟨V8.out.1.kept hb2, V8.out.2.1.trans (hb2.mono V8.out.2.1.size), (VarS.new28 w8).put (words2 V8.out.2.2.1 V8.out.2.2.2), V8.out.2.2⟩
    clear V8 hb2 hst
    generalize ((w8.alloc (.cells #[.int .u64 0, .int .u64 0, .int .u64 0, .int .u64 0, .int .u64 0, .int .u64 0, .int .u64 0, .int .u64 0] 29)).setRow w8.heap.size (catW [v0, v1])) = wa at VA ⊢
    refine wp_region_held_drew (S := fun w' => Below wa.heap.size wa w') (by kernel_rfl) (Below.drew (Below.refl _ _)) (fun hHeld => ?_)
    refine tk 0 (.int .i64 0) (fun w9 hSw => ?_) hHeld ?_
    · go_simp
    simp only [sm]
    refine tk 1 (.bool true) (fun w9 hSw => ?_) hHeld ?_
    · go_simp
    simp only [sm]
    refine tk 2 (.bool true) (fun w9 hSw => ?_) hHeld ?_
    · go_simp
    simp only [sm]
    refine tk 3 (.agg (catW [v0, v1])) (fun w9 hSw => ?_) hHeld ?_
    · exact run_load_exec 29 _ rfl _ rfl (load29 (VA.out.2.2.1.kept hSw))
    simp only [sm]
    refine tk 4 (.agg (catW [p0, p1])) (fun w9 hSw => ?_) hHeld ?_
    · exact run_load_exec 26 _ rfl _ rfl (load26 (VA.out.1.kept hSw))
    simp only [sm]
    refine rd 5 (fun K hK => ?_)
    generalize wa.drew = wb at hHeld ⊢
    go_simp
    refine Calls.mono (g_own HXY.out.1 HXY.out.2 wb) ?_
    rintro e wc ⟨rfl, bc⟩
    have hHc : Below wa.heap.size wa wc := hHeld.trans (bc.mono hHeld.size)
    clear hHeld bc
    go_wp2_with fail
    refine hK.out _ _ hHc (fun hHeld => ?_)
    clear hK K
    try simp only [sm]
    refine tk 6 (.bool true) (fun w9 hSw => ?_) hHeld ?_
    · have hq := eqP VA.out.2.2.2.1 VA.out.2.2.2.2 HPT.out.2.1 HPT.out.2.2 w9
      simp only [decide_true, Bool.and_true] at hq
      have hq2 : (binOp .eql 29 (.agg (catW [v0, v1])) (.agg (catW [p0, p1]))).run Tryz.prog w9 = .ok (.bool true) w9 := by rw [run_eql_struct, hq]; rfl
      have hg := fun w => run_eqGuard_agg (P := Tryz.prog) (w := w) .eql 29 (.tmp 51) (.tmp 53) (catW [v0, v1]) (catW [p0, p1]) (by kernel_rfl)
      clear hq
      generalize Value.agg (catW [v0, v1]) = X1 at hq2 hg ⊢
      generalize Value.agg (catW [p0, p1]) = X2 at hq2 hg ⊢
      go_simp
    simp only [sm]
    refine tk 7 (.bool true) (fun w9 hSw => ?_) hHeld ?_
    · go_simp
    simp only [sm]
    refine tk 8 (.bool true) (fun w9 hSw => ?_) hHeld ?_
    · go_simp
    simp only [sm]
    refine rd 9 (fun K hK => ?_)
    go_simp
    refine Calls.mono (alive_any wc) ?_
    rintro e wd ⟨rfl, bd⟩
    have hHd : Below wa.heap.size wa wd := hHc.trans (bd.mono hHc.size)
    clear hHeld bd hHc
    go_wp2_with fail
    refine hK.out _ _ hHd (fun hHeld => ?_)
    clear hK K
    try simp only [sm]
    refine tk 10 (.bool true) (fun w9 hSw => ?_) hHeld ?_
    · go_simp
    simp only [sm]
    refine tk 11 (.bool true) (fun w9 hSw => ?_) hHeld ?_
    · go_simp
    simp only [sm]
    refine wpAnyH_done (by kernel_rfl) ?_ _
    go_wp2
    go_ret
    exact ⟨rfl, VA.out.2.1.trans (hHd.mono VA.out.2.1.size)⟩
end Go.Proofs.YtionjibiemncbabGreat
