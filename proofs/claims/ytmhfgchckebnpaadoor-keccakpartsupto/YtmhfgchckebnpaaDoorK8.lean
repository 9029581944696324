/- Walks over package keccak: the sums ahead of theta. -/
import Derived.Test.YtmhfgchckebnpaaDoorK7
namespace Go.Proofs.YtmhfgchckebnpaaDoor
open Go.RowKit
set_option linter.unusedSimpArgs false
set_option linter.unusedVariables false

theorem info46 : (Tryd.prog.info? 46).map (·.size) = some 5 := by kernel_rfl
theorem info46v (f : Nat → Value) : (Tryd.prog.info? 46).map (·.size) = some (vec 5 f).size := by rw [info46, size_vec]
theorem zero5 : (#[.int .u64 0, .int .u64 0, .int .u64 0, .int .u64 0, .int .u64 0] : Array Value) = vec 5 (lan fun _ => 0) := by kernel_rfl
/-- n rounds of t's loop. -/
def tTo (n : Nat) (s : Nat → BitVec 64) (x j : Nat) : BitVec 64 := if j < x then T n s j else 0
theorem tTo_row {n x b : Nat} {s : Nat → BitVec 64} {w : World} (hx : x < 5) (h : w.rowIs b 46 5 (lan (tTo n s x))) {v : Value} (hv : v = .int .u64 (I (T n s x))) : (w.setCell ⟨b, x, none⟩ v).rowIs b 46 5 (lan (tTo n s (x + 1))) := by
  refine (h.set _ _).congr ?_
  intro i hi
  subst hv
  simp only [lan, tTo]
  by_cases e : i = x
  · subst e; rw [if_pos rfl, if_pos (by omega)]
  · rw [if_neg e]
    by_cases hl : i < x
    · rw [if_pos hl, if_pos (by omega)]
    · rw [if_neg hl, if_neg (by omega)]
/-- The worlds of the loop. -/
def SbIn (n : Nat) (s : Nat → BitVec 64) (w : World) (x : Nat) (wr : World) : Prop :=
  wr.rowIs w.heap.size 46 5 (lan s) ∧ wr.rowIs (w.heap.size + 1) 46 5 (lan fun _ => 0) ∧ wr.rowIs (w.heap.size + 2) 46 5 (lan (tTo n s x)) ∧ Below w.heap.size w wr
theorem sb_start (n : Nat) (s : Nat → BitVec 64) (w : World) : SbIn n s w 0 (((w.alloc (.cells (vec 5 (lan s)) 46)).alloc (.cells (vec 5 (lan fun _ => 0)) 46)).alloc (.cells (vec 5 (lan fun _ => 0)) 46)) := by
  have h2 := heap_row (heap_alloc_new ((w.alloc (.cells (vec 5 (lan s)) 46)).alloc (.cells (vec 5 (lan fun _ => 0)) 46)) (.cells (vec 5 (lan fun _ => 0)) 46))
  have h1 := heap_row (heap_alloc_new (w.alloc (.cells (vec 5 (lan s)) 46)) (.cells (vec 5 (lan fun _ => 0)) 46))
  have h0 := heap_row (heap_alloc_new w (.cells (vec 5 (lan s)) 46))
  refine ⟨(h0.alloc _).alloc _, ?_, ?_, by go_grown⟩
  · simpa using h1.alloc _
  · have : (((w.alloc (.cells (vec 5 (lan s)) 46)).alloc (.cells (vec 5 (lan fun _ => 0)) 46)).heap.size) = w.heap.size + 2 := by simp
    rw [this] at h2
    exact h2.congr (fun i _ => by simp [tTo])
theorem sb_step {n x : Nat} {s : Nat → BitVec 64} {w wr : World} (hx : x < 5) (h : SbIn n s w x wr) {v : Value} (hv : v = .int .u64 (I (T n s x))) : SbIn n s w (x + 1) (wr.setCell ⟨w.heap.size + 2, x, none⟩ v) :=
  ⟨h.1.setOther (by show w.heap.size ≠ w.heap.size + 2; omega) _, h.2.1.setOther (by show w.heap.size + 1 ≠ w.heap.size + 2; omega) _, tTo_row hx h.2.2.1 hv, h.2.2.2.setCell (by show w.heap.size ≤ w.heap.size + 2; omega) _⟩
theorem SbIn.drew {n x : Nat} {s : Nat → BitVec 64} {w wr : World} (h : SbIn n s w x wr) : SbIn n s w x wr.drew := ⟨h.1.drew, h.2.1.drew, h.2.2.1.drew, h.2.2.2.drew⟩
theorem SbIn.drewN {n x : Nat} {s : Nat → BitVec 64} {w wr : World} (h : SbIn n s w x wr) (m : Nat) : SbIn n s w x (wr.drewN m) :=
  ⟨row_drewN h.1 m, row_drewN h.2.1 m, row_drewN h.2.2.1 m, ⟨h.2.2.2.os, h.2.2.2.tape, h.2.2.2.output, h.2.2.2.size, h.2.2.2.block⟩⟩
theorem T_val (x n : Nat) (hx : x < 5) (s : Nat → BitVec 64) : T n s x = s x ^^^ s ((x + 4 * n) % 5) ^^^ (s ((x + n) % 5)).rotateLeft n := by
  unfold T; rw [Nat.mod_eq_of_lt hx]
set_option maxRecDepth 20000 in
set_option maxHeartbeats 1000000 in
/-- keccak.sumsBehind -/
theorem sumsBehind_any (s : Nat → BitVec 64) (n : Nat) (hn : n ≤ 1000) (w : World) :
    Calls Tryd.prog 35 #[.agg (vec 5 (lan s)), .int .i64 (n : Int)] w fun e w' => e = .returned (.agg (vec 5 (lan (T n s)))) ∧ Below w.heap.size w w' := by
  have HS : Hid _ := sb_start n s w
  rw [← zero5] at HS
  go_enter Tryd.func35, Tryd.ntmps35
  go_wp2
  go_loopw [9] (fun i wr => ∃ x : Nat, x ≤ 5 ∧ i = .int .i64 (x : Int) ∧ SbIn n s w x wr) (fun i _ => 5 - (intOf i).toNat)
  case atStart => exact ⟨0, by omega, rfl, HS.out⟩
  case round =>
    obtain ⟨x, hx, rfl, hin⟩ := hrel
    clear HS
    by_cases hlt : x < 5
    · have c0 : wr.cell? ⟨w.heap.size, x, none⟩ = some (.int .u64 (I (s x))) := hin.1.cell hlt
      have c1 : wr.cell? ⟨w.heap.size, (x + 4 * n) % 5, none⟩ = some (.int .u64 (I (s ((x + 4 * n) % 5)))) := hin.1.cell (by omega)
      have c2 : wr.cell? ⟨w.heap.size, (x + n) % 5, none⟩ = some (.int .u64 (I (s ((x + n) % 5)))) := hin.1.cell (by omega)
      have ct : ∃ u, wr.cell? ⟨w.heap.size + 2, x, none⟩ = some u := ⟨_, hin.2.2.1.cell hlt⟩
      obtain ⟨u, ct⟩ := ct
      have hf := hin.2.2.1.frozen
      have H1 : Hid (SbIn n s w x wr) := hin
      clear hin
      go_wp2
      go_quiet (fail)
      go_wp2
      go_region_with (first | (go_at_call 32; refine (rotl_any _ _ _).mono ?_; rintro e w' ⟨rfl, hs⟩; obtain rfl := hs.symm))
      all_goals
        clear c0 c1 c2 ct hf
        go_wp2
        go_roundw
        case rel => exact ⟨x + 1, by omega, by go_num, sb_step hlt (H1.out.drewN _) (by rw [bx, bx, T_val x n hlt, rot_mod])⟩
        case measure => simp [intOf]; omega
    · have : x = 5 := by omega
      subst this
      go_wp2_with (first | (refine wpList_load_row rfl 46 _ rfl (w.heap.size + 2) rfl 46 _ (0, 0) _ (row_heap hin.2.2.1) Tryd.underlying46 rfl (info46v _) ?_) | (refine wpList_store_row rfl 46 _ _ rfl (w.heap.size + 1) _ rfl rfl 46 _ (row_heap hin.2.1) (info46v _) (by simp) (one_lan _ _) ?_))
      have hz : (wr.setRow (w.heap.size + 1) (vec 5 (lan (tTo n s 5)))).heap[w.heap.size + 1]? = some (.cells (vec 5 (lan (tTo n s 5))) 46 (0, 0)) := setRow_heap _ _ _ _ _ _ (row_heap hin.2.1)
      refine bodyPost_ret (results_cell_row rfl _ _ _ _ _ _ _ rfl hz Tryd.underlying46 rfl (info46v _)) rfl ⟨?_, ?_⟩
      · rw [vec_congr (g := lan (T n s)) (fun i hi => by simp only [lan, tTo]; rw [if_pos hi])]
      · exact ((Only.refl _ _).setRow _).below hin.2.2.2 (by omega)

def nsl : List Nat := [1, 2, 4, 8, 16, 32, 128]
def ns (j : Nat) : Nat := nsl.getD j 0
theorem ns_le (j : Nat) : ns j ≤ 1000 := by
  unfold ns
  rcases Nat.lt_or_ge j 7 with h | h
  · exact (show ∀ j : Fin 7, nsl.getD j.val 0 ≤ 1000 by decide) ⟨j, h⟩
  · rw [List.getD, List.getElem?_eq_none (by simpa [nsl] using h)]; decide
def bef (s : Nat → BitVec 64) : Nat → Nat → BitVec 64
  | 0 => s
  | k + 1 => T (ns k) (bef s k)
theorem bef7 (s : Nat → BitVec 64) : bef s 7 = before s := rfl
abbrev nsv : Nat → Value := fun j => .int .i64 ((ns j : Nat) : Int)
theorem bef_in {s : Nat → BitVec 64} {k B : Nat} {w wr w1 : World} (h : wr.rowIs B 46 5 (lan (bef s k))) (hb : Below B w wr) (h1 : Below wr.heap.size wr w1) : w1.rowIs B 46 5 (lan (bef s k)) ∧ Below B w w1 :=
  ⟨h.of_block (h1.block _ h.lt), hb.trans (h1.mono (Nat.le_of_lt h.lt))⟩
set_option maxRecDepth 20000 in
set_option maxHeartbeats 1000000 in
/-- keccak.sumsBefore -/
theorem sumsBefore_any (s : Nat → BitVec 64) (w : World) :
    Calls Tryd.prog 27 #[.int .u64 (I (s 0)), .int .u64 (I (s 1)), .int .u64 (I (s 2)), .int .u64 (I (s 3)), .int .u64 (I (s 4))] w fun e w' => e = .returned (.tuple #[.int .u64 (I (before s 0)), .int .u64 (I (before s 1)), .int .u64 (I (before s 2)), .int .u64 (I (before s 3)), .int .u64 (I (before s 4))]) ∧ Below w.heap.size w w' := by
  have hix := run_index_vec (P := Tryd.prog) 67 3 7 (fun w => run_underlying Tryd.underlying67 w) Tryd.sizeOf3 Tryd.isAgg3 nsv
  go_enter Tryd.func27, Tryd.ntmps27
  go_wp2_with (first | (refine wpList_store_row rfl 46 _ _ rfl w.heap.size (vec 5 (lan s)) rfl rfl 46 _ (heap_alloc_new _ _) (info46v _) rfl (one_lan _ _) ?_; rw [World.setRow_alloc_new]) | (refine wpList_build rfl 67 _ rfl (by kernel_rfl) ?_; generalize hG : (Program.built _ _ _).getD #[] = G; obtain rfl : G = vec 7 nsv := by rw [← hG]; kernel_rfl) | (refine wpList_build rfl 46 _ rfl (by kernel_rfl) ?_; generalize hG : (Program.built _ _ _).getD #[] = G; obtain rfl : G = vec 5 (lan s) := by rw [← hG]; kernel_rfl))
  have h0 := heap_row (heap_alloc_new w (.cells (vec 5 (lan s)) 46))
  have H0 : Hid ((w.alloc (.cells (vec 5 (lan s)) 46)).rowIs w.heap.size 46 5 (lan (bef s 0)) ∧ Below w.heap.size w (w.alloc (.cells (vec 5 (lan s)) 46))) := ⟨h0, by go_grown⟩
  clear h0
  go_loopw [25] (fun i wr => ∃ k : Nat, k ≤ 7 ∧ i = .int .i64 (k : Int) ∧ wr.rowIs w.heap.size 46 5 (lan (bef s k)) ∧ Below w.heap.size w wr) (fun i _ => 7 - (intOf i).toNat)
  case atStart => exact ⟨0, by omega, rfl, H0.out⟩
  case round =>
    obtain ⟨k, hk, rfl, hrow, hbl⟩ := hrel
    clear H0
    by_cases hlt : k < 7
    · have hik := hix k hlt
      have hnb := ns_le k
      have H1 : Hid (wr.rowIs w.heap.size 46 5 (lan (bef s k)) ∧ Below w.heap.size w wr) := ⟨hrow, hbl⟩
      clear hix hrow hbl
      go_wp2_with (first | (refine wpList_load_row rfl 46 _ rfl w.heap.size rfl 46 _ (0, 0) _ (row_heap H1.out.1) Tryd.underlying46 rfl (info46v _) ?_) | (go_at_call 35; refine (sumsBehind_any _ _ hnb _).mono ?_; rintro e w1 ⟨rfl, hb1⟩) | (refine wpList_store_row rfl 46 _ _ rfl w.heap.size _ rfl rfl 46 _ (row_heap (bef_in H1.out.1 H1.out.2 hb1).1) (info46v _) (by simp) (one_lan _ _) ?_))
      go_roundw
      case rel => exact ⟨k + 1, by omega, by go_num, heap_row (setRow_heap _ _ _ _ _ _ (row_heap (bef_in H1.out.1 H1.out.2 hb1).1)), ((Only.refl _ _).setRow _).below (bef_in H1.out.1 H1.out.2 hb1).2 (Nat.le_refl _)⟩
      case measure => simp [intOf]; omega
    · have : k = 7 := by omega
      subst this
      rw [bef7] at hrow
      have c0 := hrow.cell (i := 0) (by decide)
      have c1 := hrow.cell (i := 1) (by decide)
      have c2 := hrow.cell (i := 2) (by decide)
      have c3 := hrow.cell (i := 3) (by decide)
      have c4 := hrow.cell (i := 4) (by decide)
      simp only [lan] at c0 c1 c2 c3 c4
      have H1 : Hid (Below w.heap.size w wr) := hbl
      clear hix hrow hbl
      go_wp2
      go_quiet (fail)
      go_wp2
      exact bodyPost_ret (v := .tuple #[.int .u64 (I (before s 0)), .int .u64 (I (before s 1)), .int .u64 (I (before s 2)), .int .u64 (I (before s 3)), .int .u64 (I (before s 4))]) (by simp [results, Tryd.results27, go_sem]) rfl ⟨rfl, ⟨H1.out.os, H1.out.tape, H1.out.output, H1.out.size, H1.out.block⟩⟩
end Go.Proofs.YtmhfgchckebnpaaDoor
