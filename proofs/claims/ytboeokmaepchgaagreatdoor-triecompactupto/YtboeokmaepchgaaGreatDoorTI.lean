/- trie: a nil tree. -/
import Derived.Test.YtboeokmaepchgaaGreatDoorTH
import Derived.Defers
import Derived.Recover
import Derived.Test.YtboeokmaepchgaaGreatDoorKcKJ
namespace Go.Proofs.YtboeokmaepchgaaGreatDoor
open Go.RowKit Go.Maps Go.Joins Go.Shelf
set_option linter.unusedSimpArgs false
set_option linter.unusedVariables false
abbrev z32 : Array Value := Kc.vec 32 (Kc.byt fun _ => 0#8)
theorem results_cell_row2 {fn : Func} {p q : Tmp} {ty : TypeId} (h : fn.results = #[.cell p ty, .tmp q]) (tmps : Array Value) (w : World) (g : Nat) (cs : Array Value) (v : Value)
    (hp : tmps.getD p undef = .pointer (some ⟨g, 0, none⟩)) (hq : tmps.getD q undef = v) (hl : (loadVar ty ⟨g, 0, none⟩).run Tryz.prog w = .ok (.agg cs) w) :
    (results fn tmps).run Tryz.prog w = .ok (.tuple #[.agg cs, v]) w := by
  have hp' : tmps[p]?.getD undef = .pointer (some ⟨g, 0, none⟩) := by simpa using hp
  have hq' : tmps[q]?.getD undef = v := by simpa using hq
  simp [results, h, hp', hq', asAddr, hl]
theorem load33 {w : World} {b : Nat} {f : Nat → Value} (h : w.heap[b]? = some (.cells (Kc.vec 32 f) 33)) : (loadVar 33 ⟨b, 0, none⟩).run Tryz.prog w = .ok (.agg (Kc.vec 32 f)) w :=
  run_loadVar_row w b 33 33 (Kc.vec 32 f) (0, 0) _ h Tryz.underlying33 rfl (Kc.info29v _)
set_option maxRecDepth 100000 in
set_option maxHeartbeats 4000000 in
/-- Get of a nil tree -/
theorem get_nil {w : World} {a : Option Addr} {n cap : Nat} :
    Calls Tryz.prog 9 #[.pointer none, .slice a n cap] w fun e w' => e = .returned (.tuple #[.slice none 0 0, .bool false, .int .i64 2]) ∧ Below w.heap.size w w' := by
  have hB : Below w.heap.size w (((w.alloc (.cells #[.slice none 0 0] 22)).alloc (.cells #[.bool false] 4)).alloc (.cells #[.int .i64 2] 23)) := by go_grown
  go_enter_defers Tryz.func9, Tryz.ntmps9
  go_wp2
  simp [bodyPostD, Leaves, settle, results, Tryz.results9, go_sem]
  exact hB
set_option maxRecDepth 100000 in
set_option maxHeartbeats 4000000 in
/-- set of a nil tree -/
theorem set_nil {w : World} {a b : Option Addr} {n cap m dap : Nat} :
    Calls Tryz.prog 48 #[.pointer none, .slice a n cap, .slice b m dap] w fun e w' => e = .returned (.int .i64 2) ∧ Below w.heap.size w w' := by
  have hB : Below w.heap.size w (w.alloc (.cells #[.int .i64 2] 23)) := by go_grown
  go_enter_defers Tryz.func48, Tryz.ntmps48
  go_wp2
  simp [bodyPostD, Leaves, settle, results, Tryz.results48, go_sem]
  exact hB
set_option maxRecDepth 100000 in
set_option maxHeartbeats 4000000 in
theorem put_nil {w : World} {a b : Option Addr} {n cap m dap : Nat} :
    Calls Tryz.prog 13 #[.pointer none, .slice a n cap, .slice b m dap] w fun e w' => e = .returned (.int .i64 2) ∧ Below w.heap.size w w' := by
  go_enter Tryz.func13, Tryz.ntmps13
  go_wp2_with (first | (refine Calls.mono set_nil ?_; rintro e w1 ⟨rfl, hb1⟩))
  go_ret
  exact ⟨rfl, hb1⟩
set_option maxRecDepth 100000 in
set_option maxHeartbeats 4000000 in
theorem delete_nil {w : World} {a : Option Addr} {n cap : Nat} :
    Calls Tryz.prog 14 #[.pointer none, .slice a n cap] w fun e w' => e = .returned (.int .i64 2) ∧ Below w.heap.size w w' := by
  go_enter Tryz.func14, Tryz.ntmps14
  go_wp2_with (first | (refine Calls.mono set_nil ?_; rintro e w1 ⟨rfl, hb1⟩))
  go_ret
  exact ⟨rfl, hb1⟩
set_option maxRecDepth 100000 in
set_option maxHeartbeats 4000000 in
/-- All of a nil tree -/
theorem all_nil {w : World} :
    Calls Tryz.prog 10 #[.pointer none] w fun e w' => e = .returned (.tuple #[.slice none 0 0, .int .i64 2]) ∧ Below w.heap.size w w' := by
  have hB : Below w.heap.size w ((w.alloc (.cells #[.slice none 0 0] 29)).alloc (.cells #[.int .i64 2] 23)) := by go_grown
  go_enter_defers Tryz.func10, Tryz.ntmps10
  go_wp2
  simp [bodyPostD, Leaves, settle, results, Tryz.results10, go_sem]
  exact hB
set_option maxRecDepth 100000 in
set_option maxHeartbeats 4000000 in
/-- Root of a nil tree -/
theorem root_nil {w : World} :
    Calls Tryz.prog 11 #[.pointer none] w fun e w' => e = .returned (.tuple #[.agg z32, .slice none 0 0]) ∧ Below w.heap.size w w' := by
  go_enter Tryz.func11, Tryz.ntmps11
  go_wp2_with (first | (refine wpList_store_row rfl 33 _ _ rfl w.heap.size z32 rfl rfl 33 _ (heap_alloc_new _ _) (Kc.info29v _) rfl (Kc.one_byt _ _) ?_; rw [World.setRow_alloc_new]) | (refine wpList_build rfl 33 _ rfl (by kernel_rfl) ?_; generalize hG : (Program.built _ _ _).getD #[] = G; obtain rfl : G = z32 := by rw [← hG]; kernel_rfl))
  clear hG
  refine bodyPost_ret (results_cell_row2 rfl _ _ _ _ _ rfl rfl (load33 (heap_alloc_new _ _))) rfl ⟨rfl, by go_grown⟩
end Go.Proofs.YtboeokmaepchgaaGreatDoor
