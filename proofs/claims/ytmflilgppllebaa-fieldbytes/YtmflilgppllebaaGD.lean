/- The document's field: Digits. -/
import Derived.Test.YtmflilgppllebaaGC
import Derived.Test.YtmflilgppllebaaFE
import Derived.Test.YtmflilgppllebaaFP
namespace Go.Proofs.Ytmflilgppllebaa
open Go.RowKit
set_option linter.unusedSimpArgs false
set_option linter.unusedVariables false
/-- The digits of a number, 16 bits each. -/
def dig (x : Int) (j : Nat) : Int := x / 65536 ^ j % 65536
theorem fand_16 (x : Int) (h0 : 0 ≤ x) (h1 : x < 18446744073709551616) : bits .and .u64 x 65535 = x % 65536 := by
  rw [u64_and x 65535 h0 h1 (by decide) (by decide), show (65535 : Int).toNat = 2 ^ 16 - 1 from by decide, Nat.and_two_pow_sub_one_eq_mod]
  omega
theorem pow65536 (m : Nat) : (65536 : Int) ^ m = 2 ^ (16 * m) := by rw [Int.pow_mul]; rfl
theorem flow_dig (x y : Int) (r : Nat) (hr : r ≤ 48) : ((x + 18446744073709551616 * y) / 2 ^ r) % 65536 = (x / 2 ^ r) % 65536 := by
  have e : (18446744073709551616 : Int) = 2 ^ r * (65536 * 2 ^ (48 - r)) := by
    have h : (2 : Int) ^ r * (65536 * 2 ^ (48 - r)) = 2 ^ (r + 16 + (48 - r)) := by rw [Int.pow_add, Int.pow_add, Int.mul_assoc]; rfl
    rw [h, show r + 16 + (48 - r) = 64 from by omega]
    decide
  rw [e, Int.mul_assoc, Int.mul_assoc, Int.add_mul_ediv_left _ _ (by have := fpow_pos r; omega)]
  omega
theorem fdig_num (a0 a1 a2 a3 : Int) (ha : L4 a0 a1 a2 a3) (j : Nat) (hj : j < 16) : dig (num a0 a1 a2 a3) j = (limbOf a0 a1 a2 a3 (j / 4) / 2 ^ (16 * (j % 4))) % 65536 := by
  have n0 : num a0 a1 a2 a3 = a0 + 18446744073709551616 * (a1 + 18446744073709551616 * (a2 + 18446744073709551616 * a3)) := by unfold num; omega
  unfold dig
  rw [n0, pow65536]
  obtain ⟨h0, h1, h2, h3⟩ := ha
  have hr : 16 * (j % 4) ≤ 48 := by omega
  have q : j / 4 = 0 ∨ j / 4 = 1 ∨ j / 4 = 2 ∨ j / 4 = 3 := by omega
  rcases q with q | q | q | q <;> rw [q]
  · have e : 16 * j = 16 * (j % 4) := by omega
    rw [show limbOf a0 a1 a2 a3 0 = a0 from rfl, ← flow_dig a0 _ (16 * (j % 4)) hr, ← e]
  · have e : 16 * j = 64 + 16 * (j % 4) := by omega
    rw [show limbOf a0 a1 a2 a3 1 = a1 from rfl, ← flow_dig a1 _ (16 * (j % 4)) hr]
    conv => lhs; rw [e]
    rw [fshift_down _ _ h0]
  · have e : 16 * j = 64 + (64 + 16 * (j % 4)) := by omega
    rw [show limbOf a0 a1 a2 a3 2 = a2 from rfl, ← flow_dig a2 _ (16 * (j % 4)) hr]
    conv => lhs; rw [e]
    rw [fshift_down _ _ h0, fshift_down _ _ h1]
  · have e : 16 * j = 64 + (64 + (64 + 16 * (j % 4))) := by omega
    rw [show limbOf a0 a1 a2 a3 3 = a3 from rfl]
    conv => lhs; rw [e]
    rw [fshift_down _ _ h0, fshift_down _ _ h1, fshift_down _ _ h2]
theorem fcell_of {w : World} {z : Nat} {y0 y1 y2 y3 : Int} (h : w.heap[z]? = some (.cells (C4 y0 y1 y2 y3) 24 (0, 0))) (q : Nat) (hq : q < 4) : w.cell? ⟨z, q, none⟩ = some (.int .u64 (limbOf y0 y1 y2 y3 q)) := by
  rw [cell_of_row _ z q _ 24 (0, 0) h]
  match q, hq with
  | 0, _ => rfl
  | 1, _ => rfl
  | 2, _ => rfl
  | 3, _ => rfl
def diS (x : Int) (k j : Nat) : Int := if j < k then dig x j else 0
theorem diS_step {x d : Int} {k : Nat} (hd : dig x k = d) (i : Nat) (hi : i < 16) : (if i = k then Value.int .i64 d else gv (diS x k) i) = gv (diS x (k + 1)) i := by
  simp only [gv, diS]
  by_cases h : i = k
  · rw [if_pos h, if_pos (by omega), h, hd]
  · rw [if_neg h]
    by_cases h2 : i < k
    · rw [if_pos h2, if_pos (by omega)]
    · rw [if_neg h2, if_neg (by omega)]
def DiIn (a0 a1 a2 a3 : Int) (w : World) (k : Nat) (wr : World) : Prop :=
  wr.heap[w.heap.size]? = some (.cells (C4 a0 a1 a2 a3) 24 (0, 0)) ∧ wr.rowIs (w.heap.size + 1) 55 16 (gv fun _ => 0) ∧ wr.rowIs (w.heap.size + 2) 55 16 (gv (diS (num a0 a1 a2 a3) k)) ∧ Below w.heap.size w wr
theorem di_start (a0 a1 a2 a3 : Int) (w : World) : DiIn a0 a1 a2 a3 w 0 (((w.alloc (.cells (C4 a0 a1 a2 a3) 24)).alloc (.cells (vec 16 (gv fun _ => 0)) 55)).alloc (.cells (vec 16 (gv fun _ => 0)) 55)) := by
  refine ⟨?_, (heap_row (gheap_n _ _ _ (by simp))).alloc _, (heap_row (gheap_n _ _ _ (by simp))).congr (fun i hi => by simp [gv, diS]), by go_grown⟩
  rw [heap_alloc_old _ _ (by simp; omega), heap_alloc_old _ _ (by simp)]
  exact heap_alloc_new _ _
theorem di_step {a0 a1 a2 a3 d : Int} {w wr : World} {k : Nat} (h : DiIn a0 a1 a2 a3 w k wr) (hd : dig (num a0 a1 a2 a3) k = d) : DiIn a0 a1 a2 a3 w (k + 1) (wr.setCell ⟨w.heap.size + 2, k, none⟩ (.int .i64 d)) :=
  ⟨(heap_setCell_other _ _ _ _ (by show w.heap.size ≠ w.heap.size + 2; omega)).trans h.1, h.2.1.setOther (by show w.heap.size + 1 ≠ w.heap.size + 2; omega) _, (h.2.2.1.set _ _).congr (diS_step hd), h.2.2.2.setCell (by show w.heap.size ≤ w.heap.size + 2; omega) _⟩
set_option maxRecDepth 20000 in
set_option maxHeartbeats 2000000 in
/-- conclaveref04.Digits -/
theorem digits_any (a0 a1 a2 a3 : Int) (ha : L4 a0 a1 a2 a3) (w : World) :
    Calls Try.prog 47 #[W4 a0 a1 a2 a3] w fun e w' => e = .returned (.agg (vec 16 (gv (dig (num a0 a1 a2 a3))))) ∧ Below w.heap.size w w' := by
  have HS : Hid _ := di_start a0 a1 a2 a3 w
  rw [← zero16] at HS
  have HL : Hid (L4 a0 a1 a2 a3) := ha
  clear ha
  unfold W4
  go_enter Try.func47, Try.ntmps47
  go_wp2
  go_loopw [4] (fun i wr => ∃ k : Nat, k ≤ 16 ∧ i = .int .i64 (k : Int) ∧ DiIn a0 a1 a2 a3 w k wr) (fun i _ => 16 - (intOf i).toNat)
  case atStart => exact ⟨0, by omega, rfl, HS.out⟩
  case round =>
    obtain ⟨k, hk, rfl, hin⟩ := hrel
    clear HS
    by_cases hlt : k < 16
    · have hl := fcell_of hin.1 (k / 4) (by omega)
      have hL := limbOf_limb HL.out (k / 4)
      have hd := fdiv_limb hL (16 * (k % 4))
      have hand := fand_16 _ hd.1 hd.2
      rw [← fdig_num a0 a1 a2 a3 HL.out k hlt] at hand
      have hdb : 0 ≤ dig (num a0 a1 a2 a3) k ∧ dig (num a0 a1 a2 a3) k < 65536 := by unfold dig; omega
      obtain ⟨u, c2⟩ : ∃ u, wr.cell? ⟨w.heap.size + 2, k, none⟩ = some u := ⟨_, hin.2.2.1.cell hlt⟩
      have hfz : wr.frozen? ⟨w.heap.size + 2, k, none⟩ = false := hin.2.2.1.frozen _
      have HX : Hid (∀ d, dig (num a0 a1 a2 a3) k = d → DiIn a0 a1 a2 a3 w (k + 1) (wr.setCell ⟨w.heap.size + 2, k, none⟩ (.int .i64 d))) := fun d h => di_step hin h
      have HD : Hid (dig (num a0 a1 a2 a3) k = dig (num a0 a1 a2 a3) k) := rfl
      generalize hq : dig (num a0 a1 a2 a3) k = d at hand hdb HD
      have HQ : Hid (dig (num a0 a1 a2 a3) k = d) := hq
      generalize limbOf a0 a1 a2 a3 (k / 4) = lm at *
      clear hin hq
      go_wp2
      exact ⟨⟨k + 1, by omega, by go_num, HX.out d HQ.out⟩, by simp [intOf]; omega⟩
    · have h2 : wr.rowIs (w.heap.size + 2) 55 16 (gv (dig (num a0 a1 a2 a3))) := hin.2.2.1.congr (fun i hi => by simp only [gv, diS]; rw [if_pos (by omega)])
      have h1 := hin.2.1
      have hB := hin.2.2.2
      have hkd : decide ((k : Int) < 16) = false := by simp; omega
      clear hin
      go_wp2_with (first | (refine wpList_load_row rfl 55 _ rfl (w.heap.size + 2) rfl 55 _ (0, 0) _ (row_heap h2) Try.underlying55 rfl (info55v _) ?_) | (refine wpList_store_row rfl 55 _ _ rfl (w.heap.size + 1) _ rfl rfl 55 _ (row_heap h1) (info55v _) (by simp) (one_gv _ _) ?_))
      have hz : (wr.setRow (w.heap.size + 1) (vec 16 (gv (dig (num a0 a1 a2 a3))))).heap[w.heap.size + 1]? = some (.cells (vec 16 (gv (dig (num a0 a1 a2 a3)))) 55 (0, 0)) := setRow_heap _ _ _ _ _ _ (row_heap h1)
      refine bodyPost_ret (results_cell_row rfl _ _ _ _ _ _ _ rfl hz Try.underlying55 rfl (info55v _)) rfl ⟨rfl, ?_⟩
      exact hB.trans ⟨rfl, rfl, rfl, by simp, fun i hi => setRow_other _ _ _ _ (by omega)⟩
end Go.Proofs.Ytmflilgppllebaa
