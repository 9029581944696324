/- The document's answer: turn, the offsets. -/
import Derived.Test.YtmhfgchckebnpaaDoorK9
namespace Go.Proofs.YtmhfgchckebnpaaDoor
open Go.RowKit
set_option linter.unusedSimpArgs false
set_option linter.unusedVariables false

set_option maxHeartbeats 400000 in
/-- conclaveref02.turn -/
theorem rturn_any (x : BitVec 64) (n : Nat) (hn : n ≤ 1000) (w : World) :
    Calls Tryd.prog 23 #[.int .u64 (I x), .int .i64 (n : Int)] w fun e w' => e = .returned (.int .u64 (I (x.rotateLeft (n % 64)))) ∧ w' = w := by
  obtain ⟨r, hr⟩ : ∃ r : Nat, r = n % 64 := ⟨_, rfl⟩
  have hm : (n : Int) % 64 = (r : Int) := by omega
  have hr1 : r < 64 := by omega
  rw [← hr]
  by_cases h0 : r = 0
  · subst h0
    have hr0 : x.rotateLeft 0 = x := rot_64 x 0
    have HR : Hid _ := hr0
    have hm0 : (n : Int) % 64 = 0 := hm
    clear hm hr hr0
    go_enter Tryd.func23, Tryd.ntmps23
    go_wp2
    go_ret
    rw [HR.out]
    exact ⟨rfl, rfl⟩
  · have hz : ((r : Int) == 0) = false := by simp; omega
    have HR : bits .or .u64 (IntKind.u64.wrap (I x * 2 ^ r)) (I x / 2 ^ (64 - r)) = I (x.rotateLeft r) := by
      have h := I_rot x (r : Int) (by omega) (by omega)
      rw [show (64 - (r : Int)).toNat = 64 - r from by omega, Int.toNat_natCast] at h
      exact h
    have H : Hid _ := HR
    have h1 : (0 : Int) ≤ (r : Int) := by omega
    have h2 : (r : Int) < 64 := by omega
    clear HR hr h0
    go_enter Tryd.func23, Tryd.ntmps23
    go_wp2
    go_ret
    exact ⟨congrArg (fun z => Ending.returned (.int .u64 z)) H.out, rfl⟩
/-- The column and the row of the path's place t. -/
def xy : Nat → Nat × Nat
  | 0 => (1, 0)
  | t + 1 => ((xy t).2, (2 * (xy t).1 + 3 * (xy t).2) % 5)
theorem xy_path : ∀ t : Fin 25, (xy t.val).1 + 5 * (xy t.val).2 = path t.val ∧ (xy t.val).1 < 5 ∧ (xy t.val).2 < 5 := by decide
def offTo (t j : Nat) : Nat := if j ≠ 0 ∧ pos0 j < t then turn (pos0 j) % 64 else 0
abbrev offv (t : Nat) : Nat → Value := fun j => .int .i64 ((offTo t j : Nat) : Int)
theorem off_row {t b : Nat} {w : World} (ht : t < 24) (h : w.rowIs b 44 25 (offv t)) {v : Value} (hv : v = .int .i64 ((turn t % 64 : Nat) : Int)) : (w.setCell ⟨b, path t, none⟩ v).rowIs b 44 25 (offv (t + 1)) := by
  refine (h.set _ _).congr ?_
  intro i hi
  subst hv
  have hp := pos0_path ⟨t, ht⟩
  simp only at hp
  simp only [offv, offTo]
  by_cases e : i = path t
  · subst e
    rw [if_pos rfl, if_pos ⟨hp.2, by omega⟩, hp.1]
  · rw [if_neg e]
    by_cases h0 : i = 0
    · rw [if_neg (by simp [h0]), if_neg (by simp [h0])]
    · have hq := path_pos0 ⟨i, hi⟩ h0
      simp only at hq
      have hne : pos0 i ≠ t := fun he => e (by rw [← he]; exact hq.1.symm)
      by_cases hl : pos0 i < t
      · rw [if_pos ⟨h0, hl⟩, if_pos ⟨h0, by omega⟩]
      · rw [if_neg (by omega), if_neg (by omega)]
theorem info44v (f : Nat → Value) : (Tryd.prog.info? 44).map (·.size) = some (vec 25 f).size := by rw [size_vec]; kernel_rfl
theorem zero44 : (#[.int .i64 0, .int .i64 0, .int .i64 0, .int .i64 0, .int .i64 0, .int .i64 0, .int .i64 0, .int .i64 0, .int .i64 0, .int .i64 0, .int .i64 0, .int .i64 0, .int .i64 0, .int .i64 0, .int .i64 0, .int .i64 0, .int .i64 0, .int .i64 0, .int .i64 0, .int .i64 0, .int .i64 0, .int .i64 0, .int .i64 0, .int .i64 0, .int .i64 0] : Array Value) = vec 25 (offv 0) := by kernel_rfl
theorem one_off (t : Nat) : (vec 25 (offv t)).all (·.oneCell') = true := by
  rw [Array.all_eq_true]
  intro i hi
  simp [vec, Value.oneCell']
def OfIn (t : Nat) (w wr : World) : Prop := wr.rowIs w.heap.size 44 25 (offv 0) ∧ wr.rowIs (w.heap.size + 1) 44 25 (offv t) ∧ Below w.heap.size w wr
theorem of_start (w : World) : OfIn 0 w ((w.alloc (.cells (vec 25 (offv 0)) 44)).alloc (.cells (vec 25 (offv 0)) 44)) := by
  refine ⟨heap_row (heap_alloc2_old _ _ _), heap_row (heap_alloc2_new _ _ _), by go_grown⟩
theorem OfIn.step {t : Nat} {w wr : World} (ht : t < 24) (h : OfIn t w wr) {v : Value} (hv : v = .int .i64 ((turn t % 64 : Nat) : Int)) : OfIn (t + 1) w (wr.setCell ⟨w.heap.size + 1, path t, none⟩ v) :=
  ⟨h.1.setOther (by show w.heap.size ≠ w.heap.size + 1; omega) _, off_row ht h.2.1 hv, h.2.2.setCell (by show w.heap.size ≤ w.heap.size + 1; omega) _⟩
set_option maxRecDepth 20000 in
set_option maxHeartbeats 1000000 in
/-- conclaveref02.offsets -/
theorem offsets_any (w : World) : Calls Tryd.prog 21 #[] w fun e w' => e = .returned (.agg (vec 25 (offv 24))) ∧ Below w.heap.size w w' := by
  have HS : Hid _ := of_start w
  go_enter Tryd.func21, Tryd.ntmps21
  go_wp2
  rw [zero44]
  go_loopw [2, 3, 4] (fun x y i wr => ∃ t : Nat, t ≤ 24 ∧ i = .int .i64 (t : Int) ∧ x = .int .i64 ((xy t).1 : Int) ∧ y = .int .i64 ((xy t).2 : Int) ∧ OfIn t w wr) (fun _ _ i _ => 24 - (intOf i).toNat)
  case atStart => exact ⟨0, by omega, rfl, rfl, rfl, HS.out⟩
  case round =>
    obtain ⟨t, ht, rfl, rfl, rfl, hin⟩ := hrel
    clear HS
    by_cases hlt : t < 24
    · obtain ⟨x, y, hxy⟩ : ∃ x y, xy t = (x, y) := ⟨_, _, rfl⟩
      have hp := xy_path ⟨t, by omega⟩
      have hnext : xy (t + 1) = (y, (2 * x + 3 * y) % 5) := by show ((xy t).2, _) = _; rw [hxy]
      simp only [hxy] at hp
      rw [hxy]
      obtain ⟨hp1, hx, hy⟩ := hp
      have hm : (t + 1) * (t + 2) ≤ 24 * 25 := Nat.mul_le_mul (by omega) (by omega)
      have hb : 0 ≤ ((t : Int) + 1) * ((t : Int) + 2) ∧ ((t : Int) + 1) * ((t : Int) + 2) ≤ 600 := by
        have : ((t : Int) + 1) * ((t : Int) + 2) = (((t + 1) * (t + 2) : Nat) : Int) := by simp
        rw [this]; omega
      have hv : ((t : Int) + 1) * ((t : Int) + 2) / 2 % 64 = ((turn t % 64 : Nat) : Int) := by
        have : ((t : Int) + 1) * ((t : Int) + 2) = (((t + 1) * (t + 2) : Nat) : Int) := by simp
        rw [this]; unfold turn; omega
      obtain ⟨hb0, hb1⟩ := hb
      obtain ⟨u, cu⟩ : ∃ u, wr.cell? ⟨w.heap.size + 1, x + 5 * y, none⟩ = some u := ⟨_, hin.2.1.cell (by omega)⟩
      have fu : wr.frozen? ⟨w.heap.size + 1, x + 5 * y, none⟩ = false := hin.2.1.frozen _
      have H1 : Hid (OfIn t w wr ∧ x + 5 * y = path t ∧ xy (t + 1) = (y, (2 * x + 3 * y) % 5) ∧ ((t : Int) + 1) * ((t : Int) + 2) / 2 % 64 = ((turn t % 64 : Nat) : Int)) := ⟨hin, hp1, hnext, hv⟩
      clear hin hp1 hnext hv hxy hm
      go_wp2
      go_roundw
      case rel => exact ⟨t + 1, by omega, by go_num, by rw [H1.out.2.2.1], by rw [H1.out.2.2.1]; go_num, by have h := H1.out.1.step hlt rfl; rw [← H1.out.2.1] at h; rw [H1.out.2.2.2]; exact h⟩
      case measure => simp [intOf]; omega
    · have : t = 24 := by omega
      subst this
      go_wp2_with (first | (refine wpList_load_row rfl 44 _ rfl (w.heap.size + 1) rfl 44 _ (0, 0) _ (row_heap hin.2.1) Tryd.underlying44 rfl (info44v _) ?_) | (refine wpList_store_row rfl 44 _ _ rfl w.heap.size _ rfl rfl 44 _ (row_heap hin.1) (info44v _) (by simp) (one_off _) ?_))
      refine bodyPost_ret (results_cell_row rfl _ _ _ _ _ _ _ rfl (setRow_heap _ _ _ _ _ _ (row_heap hin.1)) Tryd.underlying44 rfl (info44v _)) rfl ⟨rfl, ?_⟩
      exact ((Only.refl _ _).setRow _).below hin.2.2 (Nat.le_refl _)
end Go.Proofs.YtmhfgchckebnpaaDoor
