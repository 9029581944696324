/- The document's field: Carry. -/
import Derived.Test.YtmflilgppllebaaGV
namespace Go.Proofs.Ytmflilgppllebaa
open Go.RowKit
set_option linter.unusedSimpArgs false
set_option linter.unusedVariables false
/-- The digit k with what is carried into it, and what is carried out of it. -/
def tt (f : Nat → Int) : Nat → Int
  | 0 => f 0
  | k + 1 => f (k + 1) + tt f k / 65536
def cc (f : Nat → Int) (k : Nat) : Int := tt f k / 65536
/-- What Carry gives. -/
def caF (f : Nat → Int) (j : Nat) : Int := if j = 0 then tt f 0 % 65536 + 38 * cc f 15 else tt f j % 65536
/-- Its loop: the digits ahead of the place k. -/
def stC (f : Nat → Int) (k j : Nat) : Int := if k = 16 then caF f j else if j < k then tt f j % 65536 else if j = k then tt f k else f j
/-- Numbers that are not too great. -/
def Sm (B : Int) (f : Nat → Int) : Prop := ∀ j, j < 16 → -B ≤ f j ∧ f j ≤ B
theorem tt_bd {f : Nat → Int} (h : Sm 1152921504606846976 f) : ∀ k, k < 16 → -1152991873351024640 ≤ tt f k ∧ tt f k ≤ 1152991873351024640
  | 0, hk => by have := h 0 hk; unfold tt; omega
  | k + 1, hk => by have := h (k + 1) hk; have := tt_bd h k (by omega); unfold tt; omega
theorem stC_start (f : Nat → Int) (j : Nat) : stC f 0 j = f j := by
  unfold stC
  rw [if_neg (by omega), if_neg (by omega)]
  split
  · rename_i e; rw [e]; rfl
  · rfl
theorem stC_mid {f : Nat → Int} {k : Nat} (hk : k < 15) (i : Nat) (hi : i < 16) : (if i = k + 1 then tt f (k + 1) else if i = k then tt f k % 65536 else stC f k i) = stC f (k + 1) i := by
  unfold stC
  grind
theorem stC_last {f : Nat → Int} (i : Nat) (hi : i < 16) : (if i = 0 then tt f 0 % 65536 + 38 * cc f 15 else if i = 15 then tt f 15 % 65536 else stC f 15 i) = stC f 16 i := by
  unfold stC caF
  grind
/-- The worlds of the loop. -/
def CaIn (f : Nat → Int) (w : World) (k : Nat) (wr : World) : Prop :=
  wr.rowIs w.heap.size 55 16 (gv (stC f k)) ∧ wr.rowIs (w.heap.size + 1) 55 16 (gv fun _ => 0) ∧ Below w.heap.size w wr
theorem ca_start (f : Nat → Int) (w : World) : CaIn f w 0 ((w.alloc (.cells (vec 16 (gv f)) 55)).alloc (.cells (vec 16 (gv fun _ => 0)) 55)) := by
  refine ⟨((heap_row (heap_alloc_new w _)).alloc _).congr (fun i hi => by simp only [gv]; rw [stC_start]), heap_row (gheap_n _ _ _ (by simp)), by go_grown⟩
theorem ca_mid {f : Nat → Int} {w wr : World} {k : Nat} (hk : k < 15) (h : CaIn f w k wr) : CaIn f w (k + 1) ((wr.setCell ⟨w.heap.size, k, none⟩ (.int .i64 (tt f k % 65536))).setCell ⟨w.heap.size, k + 1, none⟩ (.int .i64 (f (k + 1) + tt f k / 65536))) := by
  refine ⟨((h.1.set k (.int .i64 (tt f k % 65536))).set (k + 1) (.int .i64 (f (k + 1) + tt f k / 65536))).congr (fun i hi => ?_), (h.2.1.setOther (by show w.heap.size + 1 ≠ w.heap.size; omega) _).setOther (by show w.heap.size + 1 ≠ w.heap.size; omega) _, (h.2.2.setCell (Nat.le_refl _) _).setCell (Nat.le_refl _) _⟩
  have := stC_mid hk i hi (f := f)
  simp only [gv]
  rw [← this]
  split
  · rfl
  · split <;> rfl
theorem ca_last {f : Nat → Int} {w wr : World} (h : CaIn f w 15 wr) : CaIn f w 16 ((wr.setCell ⟨w.heap.size, 15, none⟩ (.int .i64 (tt f 15 % 65536))).setCell ⟨w.heap.size, 0, none⟩ (.int .i64 (tt f 0 % 65536 + 38 * (tt f 15 / 65536)))) := by
  refine ⟨((h.1.set 15 (.int .i64 (tt f 15 % 65536))).set 0 (.int .i64 (tt f 0 % 65536 + 38 * (tt f 15 / 65536)))).congr (fun i hi => ?_), (h.2.1.setOther (by show w.heap.size + 1 ≠ w.heap.size; omega) _).setOther (by show w.heap.size + 1 ≠ w.heap.size; omega) _, (h.2.2.setCell (Nat.le_refl _) _).setCell (Nat.le_refl _) _⟩
  have := stC_last i hi (f := f)
  simp only [gv]
  rw [← this]
  split
  · rfl
  · split <;> rfl
set_option maxRecDepth 20000 in
set_option maxHeartbeats 1000000 in
/-- conclaveref04.Carry -/
theorem carry_any (f : Nat → Int) (hf : Sm 1152921504606846976 f) (w : World) :
    Calls Try.prog 73 #[.agg (vec 16 (gv f))] w fun e w' => e = .returned (.agg (vec 16 (gv (caF f)))) ∧ Below w.heap.size w w' := by
  have HS : Hid _ := ca_start f w
  rw [← zero16] at HS
  go_enter Try.func73, Try.ntmps73
  go_wp2
  go_loopw [3] (fun i wr => ∃ k : Nat, k ≤ 16 ∧ i = .int .i64 (k : Int) ∧ CaIn f w k wr) (fun i _ => 16 - (intOf i).toNat)
  case atStart => exact ⟨0, by omega, rfl, HS.out⟩
  case round =>
    obtain ⟨k, hk, rfl, hin⟩ := hrel
    clear HS
    by_cases hlt : k < 15
    · have c0 : wr.cell? ⟨w.heap.size, k, none⟩ = some (.int .i64 (tt f k)) := by
        rw [hin.1.cell (i := k) (by omega)]; simp [gv, stC]; omega
      have c1 : wr.cell? ⟨w.heap.size, k + 1, none⟩ = some (.int .i64 (f (k + 1))) := by
        rw [hin.1.cell (i := k + 1) (by omega)]; simp [gv, stC]; omega
      have hfz := hin.1.frozen
      have hb := tt_bd hf k (by omega)
      have hb1 := hf (k + 1) (by omega)
      have H1 : Hid (CaIn f w k wr) := hin
      clear hin
      go_wp2
      have e1 : tt f k - tt f k / 65536 * 65536 = tt f k % 65536 := by omega
      rw [e1]
      exact ⟨⟨k + 1, by omega, by go_num, ca_mid hlt H1.out⟩, by simp [intOf]; omega⟩
    · by_cases h15 : k = 15
      · subst h15
        have c0 : wr.cell? ⟨w.heap.size, 15, none⟩ = some (.int .i64 (tt f 15)) := by
          rw [hin.1.cell (i := 15) (by omega)]; simp [gv, stC]
        have c1 : wr.cell? ⟨w.heap.size, 0, none⟩ = some (.int .i64 (tt f 0 % 65536)) := by
          rw [hin.1.cell (i := 0) (by omega)]; simp [gv, stC]
        have hfz := hin.1.frozen
        have hb := tt_bd hf 15 (by omega)
        have hb1 := tt_bd hf 0 (by omega)
        have H1 : Hid (CaIn f w 15 wr) := hin
        clear hin
        go_wp2
        have e1 : tt f 15 - tt f 15 / 65536 * 65536 = tt f 15 % 65536 := by omega
        rw [e1]
        exact ⟨⟨16, by omega, by go_num, ca_last H1.out⟩, by simp [intOf]⟩
      · have : k = 16 := by omega
        subst this
        go_wp2_with (first | (refine wpList_load_row rfl 55 _ rfl w.heap.size rfl 55 _ (0, 0) _ (row_heap hin.1) Try.underlying55 rfl (info55v _) ?_) | (refine wpList_store_row rfl 55 _ _ rfl (w.heap.size + 1) _ rfl rfl 55 _ (row_heap hin.2.1) (info55v _) (by simp) (one_gv _ _) ?_))
        have hz : (wr.setRow (w.heap.size + 1) (vec 16 (gv (stC f 16)))).heap[w.heap.size + 1]? = some (.cells (vec 16 (gv (stC f 16))) 55 (0, 0)) := setRow_heap _ _ _ _ _ _ (row_heap hin.2.1)
        refine bodyPost_ret (results_cell_row rfl _ _ _ _ _ _ _ rfl hz Try.underlying55 rfl (info55v _)) rfl ⟨?_, ?_⟩
        · rw [vec_congr (f := gv (stC f 16)) (g := gv (caF f)) (fun i hi => by simp [gv, stC])]
        · exact hin.2.2.trans ⟨rfl, rfl, rfl, by simp, fun i hi => setRow_other _ _ _ _ (by omega)⟩
end Go.Proofs.Ytmflilgppllebaa
