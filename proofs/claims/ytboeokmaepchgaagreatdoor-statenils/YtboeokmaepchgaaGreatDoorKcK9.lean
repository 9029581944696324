/- keccak.Permute. -/
import Derived.Test.YtboeokmaepchgaaGreatDoorKcK7
namespace Go.Proofs.YtboeokmaepchgaaGreatDoor.Kc
open Go.RowKit
set_option linter.unusedSimpArgs false
set_option linter.unusedVariables false

theorem info38v (f : Nat → Value) : (Tryz.prog.info? 260).map (·.size) = some (vec 25 f).size := by rw [size_vec]; kernel_rfl
theorem info23v (f : Nat → Value) : (Tryz.prog.info? 201).map (·.size) = some (vec 25 f).size := by rw [size_vec]; kernel_rfl
theorem zero25 : (#[.int .u64 0, .int .u64 0, .int .u64 0, .int .u64 0, .int .u64 0, .int .u64 0, .int .u64 0, .int .u64 0, .int .u64 0, .int .u64 0, .int .u64 0, .int .u64 0, .int .u64 0, .int .u64 0, .int .u64 0, .int .u64 0, .int .u64 0, .int .u64 0, .int .u64 0, .int .u64 0, .int .u64 0, .int .u64 0, .int .u64 0, .int .u64 0, .int .u64 0] : Array Value) = vec 25 (lan fun _ => 0) := by kernel_rfl
def permTo (S : Nat → BitVec 64) : Nat → Nat → BitVec 64
  | 0 => S
  | k + 1 => round (permTo S k) (RC k)
def RCs : List (BitVec 64) := (List.range 24).map RC
theorem iota_row {S : Nat → BitVec 64} {c : BitVec 64} {b : Nat} {w : World} (h : w.rowIs b 260 25 (lan S)) {v : Value} (hv : v = .int .u64 (I (S 0 ^^^ c))) : (w.setCell ⟨b, 0, none⟩ v).rowIs b 260 25 (lan (iota c S)) := by
  refine (h.set _ _).congr ?_
  intro i hi
  subst hv
  simp only [lan, iota]
  by_cases e : i = 0
  · subst e; rw [if_pos rfl, if_pos rfl]
  · rw [if_neg e, if_neg e]
/-- The worlds of the rounds: the state's block, the result's block. -/
def PmIn (S : Nat → BitVec 64) (w wr : World) : Prop :=
  wr.rowIs (w.heap.size + 2) 260 25 (lan S) ∧ wr.rowIs (w.heap.size + 1) 201 25 (lan fun _ => 0) ∧ Below w.heap.size w wr
theorem PmIn.only {S R : Nat → BitVec 64} {w w1 w2 : World} (h : PmIn S w w1) (hr : w2.rowIs (w.heap.size + 2) 260 25 (lan R)) (o : Only (w.heap.size + 2) w1 w2) : PmIn R w w2 :=
  ⟨hr, o.row (by omega) h.2.1, o.below h.2.2 (by omega)⟩
theorem PmIn.more {S : Nat → BitVec 64} {w w1 w2 : World} (h : PmIn S w w1) (o : Below w1.heap.size w1 w2) : PmIn S w w2 :=
  ⟨h.1.of_block (o.block _ h.1.lt), h.2.1.of_block (o.block _ h.2.1.lt), h.2.2.trans (o.mono h.2.2.size)⟩
theorem pm_start (S : Nat → BitVec 64) (w : World) : PmIn S w (((w.alloc (.cells (vec 25 (lan S)) 201)).alloc (.cells (vec 25 (lan fun _ => 0)) 201)).alloc (.cells (vec 25 (lan S)) 260)) := by
  have h2 := heap_row (heap_alloc_new ((w.alloc (.cells (vec 25 (lan S)) 201)).alloc (.cells (vec 25 (lan fun _ => 0)) 201)) (.cells (vec 25 (lan S)) 260))
  have h1 := heap_row (heap_alloc_new (w.alloc (.cells (vec 25 (lan S)) 201)) (.cells (vec 25 (lan fun _ => 0)) 201))
  refine ⟨?_, ?_, by go_grown⟩
  · have : (((w.alloc (.cells (vec 25 (lan S)) 201)).alloc (.cells (vec 25 (lan fun _ => 0)) 201)).heap.size) = w.heap.size + 2 := by simp
    rw [this] at h2
    exact h2
  · simpa using h1.alloc _
theorem pm_heap0 (S : Nat → BitVec 64) (w : World) (o : Obj) : ((w.alloc (.cells (vec 25 (lan S)) 201)).alloc o).heap[w.heap.size]? = some (.cells (vec 25 (lan S)) 201 (0, 0)) := heap_alloc2_old w _ _
theorem heap3 (w : World) (A B C : Obj) : (((w.alloc A).alloc B).alloc C).heap[w.heap.size + 1 + 1]? = some C := by
  have h := heap_alloc_new ((w.alloc A).alloc B) C
  simpa using h
theorem setRow3 (w : World) (A B : Obj) (c c' : Array Value) (t : TypeId) : (((w.alloc A).alloc B).alloc (.cells c t)).setRow (w.heap.size + 1 + 1) c' = ((w.alloc A).alloc B).alloc (.cells c' t) := by
  have h := World.setRow_alloc_new ((w.alloc A).alloc B) c c' t
  simpa using h
theorem pathIn_pos {w : World} (h : PathIn w) : 1 < w.heap.size := by
  have := block_lt_of_cell (h 0 (by decide)); simpa using this
set_option maxRecDepth 20000 in
set_option maxHeartbeats 1000000 in
/-- keccak.Permute -/
theorem permute_any (S : Nat → BitVec 64) (w : World) (hp : PathIn w) :
    Calls Tryz.prog 157 #[.agg (vec 25 (lan S))] w fun e w' => e = .returned (.agg (vec 25 (lan (permute RCs S)))) ∧ Below w.heap.size w w' := by
  have hix := run_index_vec (P := Tryz.prog) 261 44 24 (fun w => run_underlying Tryz.underlying261 w) Tryz.sizeOf44 Tryz.isAgg44 (lan RC)
  have H0 : Hid (PathIn w ∧ 1 < w.heap.size) := ⟨hp, pathIn_pos hp⟩
  have HS : Hid _ := pm_start S w
  clear hp
  go_enter Tryz.func157, Tryz.ntmps157
  go_wp2_with (first | (refine wpList_load_row rfl 201 _ rfl w.heap.size rfl 201 _ (0, 0) _ (pm_heap0 S w _) Tryz.underlying201 rfl (info23v _) ?_) | (refine wpList_store_row rfl 260 _ _ rfl (w.heap.size + 1 + 1) (vec 25 (lan S)) rfl rfl 260 _ (heap3 _ _ _ _) (info38v _) rfl (one_lan _ _) ?_; rw [setRow3, zero25]) | (go_at_call 188; refine (constants_any _).mono ?_; rintro e w1 ⟨rfl, rfl⟩))
  go_loopw [8] (fun i wr => ∃ k : Nat, k ≤ 24 ∧ i = .int .i64 (k : Int) ∧ PmIn (permTo S k) w wr) (fun i _ => 24 - (intOf i).toNat)
  case atStart => exact ⟨0, by omega, rfl, PmIn.more HS.out ((Below.refl _ _).alloc (Nat.le_refl _) _)⟩
  case round =>
    obtain ⟨k, hk, rfl, hin⟩ := hrel
    clear HS
    by_cases hlt : k < 24
    · have hik := hix k hlt
      have H1 : Hid (PmIn (permTo S k) w wr) := hin
      have hne : w.heap.size + 2 ≠ 1 := by omega
      clear hix hin
      go_wp2_with fail
      refine (sums_any (permTo S k) _ _ H1.out.1).mono ?_
      rintro e w1 ⟨rfl, hs⟩
      obtain rfl := hs.symm
      go_wp2_with fail
      refine (spread_any (permTo S k) (sums (permTo S k)) _ _ H1.out.1).mono ?_
      rintro e w1 ⟨rfl, h1, o1⟩
      have H2 : Hid (PmIn (theta (permTo S k)) w w1) := H1.out.only h1 o1
      clear h1 o1 H1
      go_wp2_with fail
      refine (walk_any _ _ _ H2.out.1 (H0.out.1.below H2.out.2.2 H0.out.2) hne).mono ?_
      rintro e w2 ⟨rfl, h2, o2⟩
      have H3 : Hid (PmIn (walk (theta (permTo S k))) w w2) := H2.out.only h2 o2
      clear h2 o2 H2
      go_wp2_with fail
      refine (mix_any _ _ _ H3.out.1).mono ?_
      rintro e w3 ⟨rfl, h3, o3⟩
      have H4 : Hid (PmIn (mix (walk (theta (permTo S k)))) w w3) := H3.out.only h3 o3
      clear h3 o3 H3
      have c0 : w3.cell? ⟨w.heap.size + 1 + 1, 0, none⟩ = some (.int .u64 (I (mix (walk (theta (permTo S k))) 0))) := H4.out.1.cell (by decide)
      have f0 : w3.frozen? ⟨w.heap.size + 1 + 1, 0, none⟩ = false := H4.out.1.frozen 0
      go_wp2
      go_roundw
      case rel => exact ⟨k + 1, by omega, by go_num, H4.out.only (iota_row H4.out.1 (by rw [bx])) ((Only.refl _ _).setCell _ _)⟩
      case measure => simp [intOf]; omega
    · have : k = 24 := by omega
      subst this
      clear hix
      go_wp2_with (first | (refine wpList_load_row rfl 260 _ rfl (w.heap.size + 2) rfl 260 _ (0, 0) _ (row_heap hin.1) Tryz.underlying260 rfl (info38v _) ?_) | (refine wpList_store_row rfl 201 _ _ rfl (w.heap.size + 1) _ rfl rfl 201 _ (row_heap hin.2.1) (info23v _) (by simp) (one_lan _ _) ?_))
      refine bodyPost_ret (results_cell_row rfl _ _ _ _ _ _ _ rfl (setRow_heap _ _ _ _ _ _ (row_heap hin.2.1)) Tryz.underlying201 rfl (info23v _)) rfl ⟨rfl, ?_⟩
      exact ((Only.refl _ _).setRow _).below hin.2.2 (by omega)
end Go.Proofs.YtboeokmaepchgaaGreatDoor.Kc
