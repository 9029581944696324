/- VA, VB, VC, VD, VE, laid into one text. -/
import Derived.Test.YtboeokmaepchgaaGreatDoorTA
import Derived.LoopN
import Derived.Test.YtboeokmaepchgaaGreatDoorM30
import Derived.Maps.RangeRun
import Derived.RangeFuncSeq
import Derived.Maps.OwnIn
import Derived.LoopNIn
import Derived.Great.BuildSlice
/- slices.SortFunc of none and of one. -/
namespace Go.Proofs.YtboeokmaepchgaaGreatDoor
open Go.RowKit Go.Maps Go.Joins Go.Shelf
set_option linter.unusedSimpArgs false
set_option linter.unusedVariables false
set_option maxRecDepth 100000 in
set_option maxHeartbeats 4000000 in
theorem len64_small {w : World} (n : Int) (h : n = 0 ∨ n = 1) : Calls Tryz.prog 167 #[.int .u64 n] w fun e w' => e = .returned (.int .i64 n) ∧ w' = w := by
  rcases h with rfl | rfl
  · go_enter Tryz.func167, Tryz.ntmps167
    go_wp2
    go_ret
    exact ⟨by kernel_rfl, rfl⟩
  · go_enter Tryz.func167, Tryz.ntmps167
    go_wp2
    go_ret
    exact ⟨by kernel_rfl, rfl⟩
set_option maxRecDepth 100000 in
set_option maxHeartbeats 4000000 in
theorem len_small {w : World} (n : Int) (h : n = 0 ∨ n = 1) : Calls Tryz.prog 132 #[.int .u64 n] w fun e w' => e = .returned (.int .i64 n) ∧ w' = w := by
  have HC : Hid (∀ w, _) := fun w => len64_small (w := w) n h
  rcases h with rfl | rfl
  · go_enter Tryz.func132, Tryz.ntmps132
    go_wp2_with (first | (refine Calls.mono (HC.out _) ?_; rintro e w1 ⟨rfl, h⟩; obtain rfl := h.symm; clear h))
    go_ret
    exact ⟨rfl, rfl⟩
  · go_enter Tryz.func132, Tryz.ntmps132
    go_wp2_with (first | (refine Calls.mono (HC.out _) ?_; rintro e w1 ⟨rfl, h⟩; obtain rfl := h.symm; clear h))
    go_ret
    exact ⟨rfl, rfl⟩
set_option maxRecDepth 100000 in
set_option maxHeartbeats 4000000 in
theorem insP_small {w : World} (n : Int) (h : n = 0 ∨ n = 1) (p : Option Addr) (k c : Nat) (f : Value) : Calls Tryz.prog 158 #[.slice p k c, .int .i64 0, .int .i64 n, f] w fun e w' => e = .returned (.tuple #[]) ∧ w' = w := by
  rcases h with rfl | rfl
  · go_enter Tryz.func158, Tryz.ntmps158
    go_wp2
    refine wp_loop_rounds 1 ?_
    rw [rounds_succ]
    go_wp2
    go_end0
    exact ⟨rfl, rfl⟩
  · go_enter Tryz.func158, Tryz.ntmps158
    go_wp2
    refine wp_loop_rounds 1 ?_
    rw [rounds_succ]
    go_wp2
    go_end0
    exact ⟨rfl, rfl⟩
set_option maxRecDepth 100000 in
set_option maxHeartbeats 4000000 in
theorem insA_small {w : World} (n : Int) (h : n = 0 ∨ n = 1) (p : Option Addr) (k c : Nat) (f : Value) : Calls Tryz.prog 199 #[.slice p k c, .int .i64 0, .int .i64 n, f] w fun e w' => e = .returned (.tuple #[]) ∧ w' = w := by
  rcases h with rfl | rfl
  · go_enter Tryz.func199, Tryz.ntmps199
    go_wp2
    refine wp_loop_rounds 1 ?_
    rw [rounds_succ]
    go_wp2
    go_end0
    exact ⟨rfl, rfl⟩
  · go_enter Tryz.func199, Tryz.ntmps199
    go_wp2
    refine wp_loop_rounds 1 ?_
    rw [rounds_succ]
    go_wp2
    go_end0
    exact ⟨rfl, rfl⟩
set_option maxRecDepth 100000 in
set_option maxHeartbeats 4000000 in
theorem pdqP_small {w : World} (n : Int) (h : n = 0 ∨ n = 1) (p : Option Addr) (k c : Nat) (m : Value) (f : Value) : Calls Tryz.prog 131 #[.slice p k c, .int .i64 0, .int .i64 n, m, f] w fun e w' => e = .returned (.tuple #[]) ∧ w' = w := by
  have HC : Hid (∀ w, _) := fun w => insP_small (w := w) n h p k c f
  rcases h with rfl | rfl
  · go_enter Tryz.func131, Tryz.ntmps131
    go_wp2
    refine wp_loop_rounds 1 ?_
    rw [rounds_succ]
    go_wp2_with (first | (refine Calls.mono (HC.out _) ?_; rintro e w1 ⟨rfl, h⟩; obtain rfl := h.symm; clear h))
    (try simp only [Exit.inBlock, Exit.then])
    refine bodyPost_ret (results_none rfl _ _ _) rfl ?_
    exact ⟨rfl, rfl⟩
  · go_enter Tryz.func131, Tryz.ntmps131
    go_wp2
    refine wp_loop_rounds 1 ?_
    rw [rounds_succ]
    go_wp2_with (first | (refine Calls.mono (HC.out _) ?_; rintro e w1 ⟨rfl, h⟩; obtain rfl := h.symm; clear h))
    (try simp only [Exit.inBlock, Exit.then])
    refine bodyPost_ret (results_none rfl _ _ _) rfl ?_
    exact ⟨rfl, rfl⟩
set_option maxRecDepth 100000 in
set_option maxHeartbeats 4000000 in
theorem pdqA_small {w : World} (n : Int) (h : n = 0 ∨ n = 1) (p : Option Addr) (k c : Nat) (m : Value) (f : Value) : Calls Tryz.prog 172 #[.slice p k c, .int .i64 0, .int .i64 n, m, f] w fun e w' => e = .returned (.tuple #[]) ∧ w' = w := by
  have HC : Hid (∀ w, _) := fun w => insA_small (w := w) n h p k c f
  rcases h with rfl | rfl
  · go_enter Tryz.func172, Tryz.ntmps172
    go_wp2
    refine wp_loop_rounds 1 ?_
    rw [rounds_succ]
    go_wp2_with (first | (refine Calls.mono (HC.out _) ?_; rintro e w1 ⟨rfl, h⟩; obtain rfl := h.symm; clear h))
    (try simp only [Exit.inBlock, Exit.then])
    refine bodyPost_ret (results_none rfl _ _ _) rfl ?_
    exact ⟨rfl, rfl⟩
  · go_enter Tryz.func172, Tryz.ntmps172
    go_wp2
    refine wp_loop_rounds 1 ?_
    rw [rounds_succ]
    go_wp2_with (first | (refine Calls.mono (HC.out _) ?_; rintro e w1 ⟨rfl, h⟩; obtain rfl := h.symm; clear h))
    (try simp only [Exit.inBlock, Exit.then])
    refine bodyPost_ret (results_none rfl _ _ _) rfl ?_
    exact ⟨rfl, rfl⟩
set_option maxRecDepth 100000 in
set_option maxHeartbeats 4000000 in
theorem sortP_small {w : World} (n : Nat) (h : n = 0 ∨ n = 1) (p : Option Addr) (c : Nat) (f : Value) : Calls Tryz.prog 102 #[.slice p n c, f] w fun e w' => e = .returned (.tuple #[]) ∧ w' = w := by
  have HL : Hid (∀ w, _) := fun w => len_small (w := w) (n : Int) (by omega)
  have HC : Hid (∀ w, _) := fun w => pdqP_small (w := w) (n : Int) (by omega) p n c (.int .i64 n) f
  rcases h with rfl | rfl
  · go_enter Tryz.func102, Tryz.ntmps102
    go_wp2_with (first | (go_at_call 132; refine Calls.mono (HL.out _) ?_; rintro e w1 ⟨rfl, h⟩; obtain rfl := h.symm; clear h) | (go_at_call 131; refine Calls.mono (HC.out _) ?_; rintro e w1 ⟨rfl, h⟩; obtain rfl := h.symm; clear h))
    go_end0
    exact ⟨rfl, rfl⟩
  · go_enter Tryz.func102, Tryz.ntmps102
    go_wp2_with (first | (go_at_call 132; refine Calls.mono (HL.out _) ?_; rintro e w1 ⟨rfl, h⟩; obtain rfl := h.symm; clear h) | (go_at_call 131; refine Calls.mono (HC.out _) ?_; rintro e w1 ⟨rfl, h⟩; obtain rfl := h.symm; clear h))
    go_end0
    exact ⟨rfl, rfl⟩
set_option maxRecDepth 100000 in
set_option maxHeartbeats 4000000 in
theorem sortA_small {w : World} (n : Nat) (h : n = 0 ∨ n = 1) (p : Option Addr) (c : Nat) (f : Value) : Calls Tryz.prog 138 #[.slice p n c, f] w fun e w' => e = .returned (.tuple #[]) ∧ w' = w := by
  have HL : Hid (∀ w, _) := fun w => len_small (w := w) (n : Int) (by omega)
  have HC : Hid (∀ w, _) := fun w => pdqA_small (w := w) (n : Int) (by omega) p n c (.int .i64 n) f
  rcases h with rfl | rfl
  · go_enter Tryz.func138, Tryz.ntmps138
    go_wp2_with (first | (go_at_call 132; refine Calls.mono (HL.out _) ?_; rintro e w1 ⟨rfl, h⟩; obtain rfl := h.symm; clear h) | (go_at_call 172; refine Calls.mono (HC.out _) ?_; rintro e w1 ⟨rfl, h⟩; obtain rfl := h.symm; clear h))
    go_end0
    exact ⟨rfl, rfl⟩
  · go_enter Tryz.func138, Tryz.ntmps138
    go_wp2_with (first | (go_at_call 132; refine Calls.mono (HL.out _) ?_; rintro e w1 ⟨rfl, h⟩; obtain rfl := h.symm; clear h) | (go_at_call 172; refine Calls.mono (HC.out _) ?_; rintro e w1 ⟨rfl, h⟩; obtain rfl := h.symm; clear h))
    go_end0
    exact ⟨rfl, rfl⟩
end Go.Proofs.YtboeokmaepchgaaGreatDoor
/- Ranges over maps of none and of one; slotChanges of a state without slots. -/
namespace Go.Proofs.YtboeokmaepchgaaGreatDoor
open Go.RowKit Go.Maps Go.Joins Go.Shelf
set_option linter.unusedSimpArgs false
set_option linter.unusedVariables false
theorem next_none {P : Program} (w : World) (ty : TypeId) (r bm c : Nat) (hr : w.heap[r]? = some (.mapIter (some bm) c #[] c)) (hb : w.heap[bm]? = some (.map #[] c)) : (Instr.next (.pointer (some ⟨r, 0, none⟩)) false ty).run P w = .ok (.tuple #[.bool false]) w := by
  rcases run_next_at (P := P) w ty r bm c c #[] #[] c hr hb (by simp) (Nat.le_refl _) with ⟨_, h⟩ | ⟨e, he, _⟩
  · exact h
  · simp [leftOf] at he
set_option maxRecDepth 100000 in
set_option maxHeartbeats 4000000 in
theorem slotCh_none {w : World} {b : Nat} {D : Nat → BitVec 8} {m1 m2 t : Nat} {rf : Int} {lg jr sn : Value} (h : w.heap[b]? = some (.cells (Kc.vec 43 (stF D 0 m1 m2 t rf lg jr sn)) 101)) (h2 : w.heap[m2]? = some (.map #[] 0)) : Calls Tryz.prog 105 #[.pointer (some ⟨b, 0, none⟩)] w fun e w' => Below w.heap.size w w' ∧ ∃ g, e = .returned (.map (some g)) ∧ w'.heap[g]? = some (.map #[] 0) ∧ w.heap.size ≤ g := by
  have h169 : ∀ w : World, (Instr.makeMap 169 none).run Tryz.prog w = .ok (.map (some w.heap.size)) (w.alloc (.map #[] 0)) := fun w => run_makeMap (P := Tryz.prog) 169 w
  have hB : Below w.heap.size w (w.alloc (.map #[] 0)) := by go_grown
  have H0 : Hid (Below w.heap.size w (w.alloc (.map #[] 0)) ∧ (w.alloc (.map #[] 0)).heap[w.heap.size]? = some (.map #[] 0)) := ⟨hB, heap_alloc_new _ _⟩
  have k0 : (w.alloc (.map #[] 0)).cell? ⟨b, 35, none⟩ = some (.map (some m2)) := st_cell ((hB.block _ (heap_lt h)).trans h) 35 (by decide)
  have k1 : (w.alloc (.map #[] 0)).heap[m2]? = some (.map #[] 0) := (hB.block _ (heap_lt h2)).trans h2
  have hrg := run_range_map (P := Tryz.prog) (w.alloc (.map #[] 0)) 93 91 46 m2 #[] 0 Tryz.underlying93 k1
  have hB2 : Below (w.alloc (.map #[] 0)).heap.size (w.alloc (.map #[] 0)) ((w.alloc (.map #[] 0)).alloc (.mapIter (some m2) 0 #[] 0)) := by go_grown
  have hnx : ∀ ty, _ := fun ty => next_none (P := Tryz.prog) ((w.alloc (.map #[] 0)).alloc (.mapIter (some m2) 0 #[] 0)) ty (w.heap.size + 1) m2 0 (by have := heap_alloc_new (w.alloc (.map #[] 0)) (.mapIter (some m2) 0 #[] 0); rwa [show (w.alloc (.map #[] 0)).heap.size = w.heap.size + 1 from by simp] at this) ((hB2.block _ (heap_lt k1)).trans k1)
  have H1 : Hid (Below w.heap.size w ((w.alloc (.map #[] 0)).alloc (.mapIter (some m2) 0 #[] 0)) ∧ ((w.alloc (.map #[] 0)).alloc (.mapIter (some m2) 0 #[] 0)).heap[w.heap.size]? = some (.map #[] 0)) := ⟨hB.trans (hB2.mono hB.size), (hB2.block _ (heap_lt H0.out.2)).trans H0.out.2⟩
  clear h h2 hB hB2 k1
  go_enter Tryz.func105, Tryz.ntmps105
  go_wp2
  refine wp_loop_rounds 1 ?_
  rw [rounds_succ]
  go_wp2
  go_ret
  exact ⟨H1.out.1, _, rfl, H1.out.2, Nat.le_refl _⟩
end Go.Proofs.YtboeokmaepchgaaGreatDoor
/- maps.Keys of a map of none and of one, gone through. -/
namespace Go.Proofs.YtboeokmaepchgaaGreatDoor
open Go.RowKit Go.Maps Go.Joins Go.Shelf
set_option linter.unusedSimpArgs false
set_option linter.unusedVariables false
theorem next_done {P : Program} (w : World) (ty : TypeId) (r bm c c' b ck : Nat) (k v : Value) (hr : w.heap[r]? = some (.mapIter (some bm) c #[b] c')) (hb : w.heap[bm]? = some (.map #[⟨k, v, b⟩] ck)) (hbc : b < c) (hcc : c ≤ c') : (Instr.next (.pointer (some ⟨r, 0, none⟩)) false ty).run P w = .ok (.tuple #[.bool false]) w := by
  rcases run_next_at (P := P) w ty r bm c c' #[b] #[⟨k, v, b⟩] ck hr hb (by simpa using hbc) hcc with ⟨_, h⟩ | ⟨e, he, _⟩
  · exact h
  · simp [leftOf] at he
theorem next_first {P : Program} (w : World) (ty : TypeId) (r bm c b : Nat) (k v : Value) (hr : w.heap[r]? = some (.mapIter (some bm) c #[] c)) (hb : w.heap[bm]? = some (.map #[⟨k, v, b⟩] c)) (hbc : b < c) :
    ∃ w', (Instr.next (.pointer (some ⟨r, 0, none⟩)) false ty).run P w = .ok (.tuple #[.bool true, k, v]) w' ∧ w'.heap[r]? = some (.mapIter (some bm) c #[b] c) ∧ (∀ i, i ≠ r → w'.heap[i]? = w.heap[i]?) ∧ w'.heap.size = w.heap.size ∧ w'.os = w.os ∧ w'.tape = w.tape ∧ w'.output = w.output := by
  rcases run_next_at (P := P) w ty r bm c c #[] #[⟨k, v, b⟩] c hr hb (by simpa using hbc) (Nat.le_refl _) with ⟨h, _⟩ | ⟨e, he, w1, h1, h⟩
  · simp [leftOf] at h
  · have he' : e = ⟨k, v, b⟩ := by simpa [leftOf] using he
    subst he'
    have hs : r < w.heap.size := heap_lt hr
    have e1 : w1.heap = w.heap ∧ w1.os = w.os ∧ w1.tape = w.tape ∧ w1.output = w.output := by rcases h1 with rfl | rfl <;> exact ⟨rfl, rfl, rfl, rfl⟩
    refine ⟨_, h, ?_, fun i hi => ?_, ?_, e1.2.1, e1.2.2.1, e1.2.2.2⟩
    · simp [Go.ChangeMaps.setBlock, e1.1, hs]
    · simp [Go.ChangeMaps.setBlock, e1.1, Array.getElem?_setIfInBounds_ne (Ne.symm hi)]
    · simp [Go.ChangeMaps.setBlock, e1.1]
set_option maxRecDepth 100000 in
set_option maxHeartbeats 4000000 in
theorem keys1_none (m l X m1 c : Nat) (W0 : World) (hX : W0.cell? ⟨X, 0, none⟩ = some (.map (some m1))) (hm : W0.heap[m1]? = some (.map #[] c)) :
    CallsIn Fence.wide (m + 1) Tryz.prog 139 #[.func (.yield l) #[] #[], .pointer (some ⟨X, 0, none⟩)] W0 fun e W' => (∃ v, e = .returned v) ∧ W' = W0.alloc (.mapIter (some m1) c #[] c) := by
  refine callsIn_of_wp Tryz.func139 rfl trivial ?_ rfl
  simp only [Tryz.ntmps139, List.size_toArray, List.length_cons, List.length_nil, Nat.reduceAdd, Nat.reduceSub, Array.replicate_succ, Array.replicate_zero, List.push_toArray, List.append_toArray, List.nil_append, List.cons_append]
  have hrg := run_range_map (P := Tryz.prog) W0 92 43 86 m1 #[] c Tryz.underlying92 hm
  have hnx : ∀ ty, _ := fun ty => next_none (P := Tryz.prog) (W0.alloc (.mapIter (some m1) c #[] c)) ty W0.heap.size m1 c (heap_alloc_new _ _) ((heap_alloc_old _ _ (heap_lt hm)).trans hm)
  clear hm
  gi_wp2
  refine wpIn_loop_rounds 1 ?_
  rw [roundsIn_succ]
  gi_wp2
  go_end0
  exact ⟨⟨_, rfl⟩, rfl⟩
set_option maxRecDepth 100000 in
set_option maxHeartbeats 4000000 in
theorem keys1_one (m l X m1 c b : Nat) (A : Nat → BitVec 8) (v : Value) (W0 : World) (J : World → Prop) (hX : W0.cell? ⟨X, 0, none⟩ = some (.map (some m1))) (hm : W0.heap[m1]? = some (.map #[⟨.agg (adV A), v, b⟩] c)) (hbc : b < c)
    (hY : ∀ W, Below W0.heap.size W0 W → W.heap[W0.heap.size]? = some (.mapIter (some m1) c #[b] c) → YieldAt Fence.wide m Tryz.prog l #[.agg (adV A)] W fun e W' => e = .returned (.bool true) ∧ W'.heap[m1]? = W.heap[m1]? ∧ W'.heap[W0.heap.size]? = W.heap[W0.heap.size]? ∧ J W') :
    CallsIn Fence.wide (m + 1) Tryz.prog 139 #[.func (.yield l) #[] #[], .pointer (some ⟨X, 0, none⟩)] W0 fun e W' => (∃ v, e = .returned v) ∧ J W' := by
  refine callsIn_of_wp Tryz.func139 rfl trivial ?_ rfl
  simp only [Tryz.ntmps139, List.size_toArray, List.length_cons, List.length_nil, Nat.reduceAdd, Nat.reduceSub, Array.replicate_succ, Array.replicate_zero, List.push_toArray, List.append_toArray, List.nil_append, List.cons_append]
  have hrg := run_range_map (P := Tryz.prog) W0 92 43 86 m1 _ c Tryz.underlying92 hm
  have hba : Below W0.heap.size W0 (W0.alloc (.mapIter (some m1) c #[] c)) := by go_grown
  have hma : (W0.alloc (.mapIter (some m1) c #[] c)).heap[m1]? = _ := (heap_alloc_old _ _ (heap_lt hm)).trans hm
  obtain ⟨Wi, hnx, hi1, hi2, hi3, hi4, hi5, hi6⟩ := next_first (P := Tryz.prog) (W0.alloc (.mapIter (some m1) c #[] c)) 0 W0.heap.size m1 c b (.agg (adV A)) v (heap_alloc_new _ _) hma hbc
  have hmi : Wi.heap[m1]? = some (.map #[⟨.agg (adV A), v, b⟩] c) := (hi2 m1 (by have := heap_lt hm; omega)).trans hma
  have hbi : Below W0.heap.size W0 Wi := ⟨hi4.trans hba.os, hi5.trans hba.tape, hi6.trans hba.output, by rw [hi3]; exact hba.size, fun k hk => (hi2 k (by omega)).trans (hba.block k hk)⟩
  have hen := run_entry_at (P := Tryz.prog) Wi W0.heap.size m1 c #[] _ c ⟨.agg (adV A), v, b⟩ (by simpa using hi1) hmi (List.mem_singleton.2 rfl) (by simp)
  have hg : Below Wi.heap.size Wi (Wi.alloc (.cells (adV A) 43)) := by go_grown
  have hi7 : W0.heap.size < Wi.heap.size := heap_lt hi1
  have hY1 := hY (Wi.alloc (.cells (adV A) 43)) (hbi.trans (hg.mono hbi.size)) ((hg.block _ hi7).trans hi1)
  have HH : Hid ((Wi.alloc (.cells (adV A) 43)).heap[m1]? = some (.map #[⟨.agg (adV A), v, b⟩] c) ∧ (Wi.alloc (.cells (adV A) 43)).heap[W0.heap.size]? = some (.mapIter (some m1) c #[b] c)) := ⟨(hg.block _ (heap_lt hmi)).trans hmi, (hg.block _ hi7).trans hi1⟩
  obtain ⟨fn, tmps, assign, body, hy, hR⟩ := hY1
  clear hm hba hma hi1 hi2 hi3 hi4 hi5 hi6 hmi hbi hY hg
  gi_wp2
  refine wpIn_loop_rounds 2 ?_
  rw [roundsIn_succ]
  gi_wp2_with (first | (refine Kc.wpListIn_store_row rfl 43 _ _ rfl Wi.heap.size (adV A) rfl rfl 43 _ (heap_alloc_new _ _) (info43v _) (by first | rfl | simp | kernel_rfl) (Kc.one_byt _ _) ?_; rw [World.setRow_alloc_new]) | (refine Kc.wpListIn_load_mid (by rfl) 43 _ rfl Wi.heap.size 0 20 rfl (Kc.byt A) (fun j hj => by rw [Nat.zero_add, cell_of_block (heap_alloc_new _ _)]; exact Kc.get_vec 20 (Kc.byt A) j hj) 5 Tryz.underlying43 (by kernel_rfl) ?_))
  refine hR.mono ?_
  rintro e W5 ⟨rfl, h51, h52, hJ⟩
  have hn5 : ∀ ty, _ := fun ty => next_done (P := Tryz.prog) W5 ty W0.heap.size m1 c c b c (.agg (adV A)) v (h52.trans HH.out.2) (h51.trans HH.out.1) hbc (Nat.le_refl _)
  have HJ : Hid (J W5) := hJ
  clear hR hy h51 h52 hJ hnx hen hrg
  gi_wp2
  rw [roundsIn_succ]
  gi_wp2
  go_end0
  exact ⟨⟨_, rfl⟩, HJ.out⟩
/-- One more element behind none: the block is new. -/
theorem app_one {P : Program} (w : World) (t ty e : TypeId) (i : TypeInfo) (z : Value) (size bytes : Nat) (ht : P.underlying t = some (.slice e)) (hi : P.info? e = some i) (hz : i.zero = some z) (hsize : i.size = size) (hby : i.bytes = bytes) (hzs : z.cells.size = size) (hsz : 0 < size) (hbb : bytes ≤ 140737488355328)
    (g c : Nat) (news : List Value) (hl : news.length = size) (hnews : ∀ j u, news[j]? = some u → w.cell? ⟨g, j, none⟩ = some u) (h1 : ∀ u ∈ news, u.oneCell' = true) :
    ∃ B cap w', (Builtin.append_ #[t, t] ty #[.slice none 0 0, .slice (some ⟨g, 0, none⟩) 1 c]).run P w = .ok (.slice (some ⟨B, 0, none⟩) 1 cap) w' ∧ Below w.heap.size w w' ∧ w.heap.size ≤ B ∧ 1 ≤ cap ∧ (∀ j u, news[j]? = some u → w'.cell? ⟨B, j, none⟩ = some u) := by
  obtain ⟨v', w', hr, h2, h3, h4, h5⟩ := run_append_own_at (P := P) w w.heap.size t ty e i z size bytes ht hi hz hsize hby hzs hsz (.slice none 0 0) 0 [] (World.ownsRow_nil _ _ _ _) ⟨g, 0, none⟩ 1 c news (by rw [hl, Nat.one_mul]) (fun j u hu => by rw [Addr.add_lit, Nat.zero_add]; exact hnews j u hu) h1 (by unfold maxLen; omega) (by omega) (Nat.le_refl _)
  obtain ⟨e1, ⟨_, e2⟩ | ⟨B, cap, cur, rfl, hB, hc, h6, h7, h8, h9⟩⟩ := h2
  · omega
  refine ⟨B, cap, w', hr, ⟨h3.os, h3.tape, h3.output, h3.size, fun k hk => h3.block k hk (by simp [Value.ownBlock])⟩, hB, h6, fun j u hu => ?_⟩
  rw [cell_of_block hc]
  have hj : j < news.length := by
    rcases Nat.lt_or_ge j news.length with h | h
    · exact h
    · rw [List.getElem?_eq_none h] at hu; cases hu
  have h10 : (cur.toList.take ((0 + 1) * size))[j]? = some u := by rw [h9]; simpa using hu
  rw [List.getElem?_take] at h10
  split at h10
  · simpa using h10
  · cases h10
end Go.Proofs.YtboeokmaepchgaaGreatDoor
/- slices.AppendSeq of the keys of a map of none and of one; Collect; SortedFunc. -/
namespace Go.Proofs.YtboeokmaepchgaaGreatDoor
open Go.RowKit Go.Maps Go.Joins Go.Shelf
set_option linter.unusedSimpArgs false
set_option linter.unusedVariables false
attribute [local go_sem] Oper.semAt_some
theorem own_one {w' : World} {base : Nat} {e : TypeId} {size : Nat} {v' : Value} {news : List Value} (hl : news.length = size) (h : w'.ownsRow base e size v' (0 + 1) ([] ++ news)) :
    ∃ B cap, v' = .slice (some ⟨B, 0, none⟩) 1 cap ∧ base ≤ B ∧ 1 ≤ cap ∧ (∀ j u, news[j]? = some u → w'.cell? ⟨B, j, none⟩ = some u) := by
  obtain ⟨e1, ⟨_, e2⟩ | ⟨B, cap, cur, rfl, hB, hc, h6, h7, h8, h9⟩⟩ := h
  · omega
  refine ⟨B, cap, rfl, hB, h6, fun j u hu => ?_⟩
  rw [cell_of_block hc]
  have h10 : (cur.toList.take ((0 + 1) * size))[j]? = some u := by rw [h9]; simpa using hu
  rw [List.getElem?_take] at h10
  split at h10
  · simpa using h10
  · cases h10
theorem wpListIn_app_one {P : Program} {F : Fence} {nF : Nat} {w : World} {ops : Array Oper} {rest : List Oper} {o : Oper} {a : Act} {Q : Exit → Act → World → Prop} (hgd : o.guard = none) (s x : Operand) (t : TypeId) (ho : o.op = .call { callee := .builtin .append, args := #[s, x], argTypes := #[t, t] })
    (e : TypeId) (i : TypeInfo) (z : Value) (size bytes : Nat) (ht : P.underlying t = some (.slice e)) (hi : P.info? e = some i) (hz : i.zero = some z) (hsize : i.size = size) (hby : i.bytes = bytes) (hzs : z.cells.size = size) (hsz : 0 < size) (hbb : bytes ≤ 140737488355328)
    (hs : a.eval s = .slice none 0 0) (g c : Nat) (hx : a.eval x = .slice (some ⟨g, 0, none⟩) 1 c) (news : List Value) (hl : news.length = size) (hnews : ∀ j u, news[j]? = some u → w.cell? ⟨g, j, none⟩ = some u) (h1 : ∀ u ∈ news, u.oneCell' = true)
    (h : ∀ B cap w', Below w.heap.size w w' → w.heap.size ≤ B → 1 ≤ cap → (∀ j u, news[j]? = some u → w'.cell? ⟨B, j, none⟩ = some u) → wpListIn F nF P ops Q rest (a.put o.dst (.slice (some ⟨B, 0, none⟩) 1 cap)) w') : wpListIn F nF P ops Q (o :: rest) a w := by
  refine wpListIn_append_own_at w hgd s x t ho w.heap.size e i z size bytes ht hi hz hsize hby hzs hsz (.slice none 0 0) 0 [] hs (World.ownsRow_nil _ _ _ _) ⟨g, 0, none⟩ 1 c news hx (by rw [hl, Nat.one_mul]) (fun j u hu => by rw [Addr.add_lit, Nat.zero_add]; exact hnews j u hu) h1 (by unfold maxLen; omega) (by omega) (Nat.le_refl _) (fun v' w' h2 h3 _ _ => ?_)
  obtain ⟨B, cap, rfl, hB, hc, hcs⟩ := own_one hl h2
  exact h B cap w' ⟨h3.os, h3.tape, h3.output, h3.size, fun k hk => h3.block k hk (by simp [Value.ownBlock])⟩ hB hc hcs
theorem wpListIn_load_r {F : Fence} {n : Nat} {P : Program} {ops : Array Oper} {rest : List Oper} {o : Oper} {a : Act} {w : World} {Q : Exit → Act → World → Prop} (hgd : o.guard = none) (ty : TypeId) (x : Operand) (ho : o.op = .load ty x)
    (g : Addr) (hx : a.eval x = .pointer (some g)) (v : Value) (hl : (loadVar ty g).run P w = .ok v w) (h : wpListIn F n P ops Q rest (a.put o.dst v) w) : wpListIn F n P ops Q (o :: rest) a w := by
  refine wpListIn_plain hgd fun K hK' => ?_
  unfold Oper.wpIn
  refine ⟨?_, ?_⟩
  · simp [Oper.about, ho]
  · rw [Oper.semAt_plain F _ _ (by rw [ho]; intro c hc'; cases hc'), Kc.run_load_exec ty x ho g hx hl]
    exact hK' _ _ h
theorem wpListIn_store_one {F : Fence} {n : Nat} {P : Program} {ops : Array Oper} {rest : List Oper} {o : Oper} {a : Act} {w : World} {Q : Exit → Act → World → Prop} (hgd : o.guard = none) (ty : TypeId) (x y : Operand) (ho : o.op = .store ty x y)
    (g : Nat) (v old : Value) (hx : a.eval x = .pointer (some ⟨g, 0, none⟩)) (hy : a.eval y = v) (t : TypeId) (hg : w.heap[g]? = some (.cells #[old] t (0, 0))) (hrun : (storeVar ty ⟨g, 0, none⟩ v).run P w = .ok () (w.setRow g #[v]))
    (h : wpListIn F n P ops Q rest (a.put o.dst undef) (w.setRow g #[v])) : wpListIn F n P ops Q (o :: rest) a w := by
  refine wpListIn_plain hgd fun K hK' => ?_
  unfold Oper.wpIn
  refine ⟨?_, ?_⟩
  · simp [Oper.about, ho]
  · rw [Oper.semAt_plain F _ _ (by rw [ho]; intro c hc'; cases hc')]
    simp only [execOp, ho, hx, hy, Instr.storeAt, Instr.sureAddr, Sem.run_bind, Sem.run_pure, Result.andThen_ok, hrun]
    exact hK' _ _ h
theorem wpListIn_build_one {F : Fence} {n : Nat} {P : Program} {ops : Array Oper} {rest : List Oper} {o : Oper} {a : Act} {w : World} {Q : Exit → Act → World → Prop} (hgd : o.guard = none) (t : TypeId) (x : Operand) (ho : o.op = .buildSlice t 1 #[(0, x)])
    (e : TypeId) (cells : Array Value) (hx : a.eval x = .agg cells) (hrun : (Instr.buildSlice t 1 #[(0, .agg cells)]).run P w = .ok (.slice (some ⟨w.heap.size, 0, none⟩) 1 1) (w.alloc (.cells cells e)))
    (h : wpListIn F n P ops Q rest (a.put o.dst (.slice (some ⟨w.heap.size, 0, none⟩) 1 1)) (w.alloc (.cells cells e))) : wpListIn F n P ops Q (o :: rest) a w := by
  refine wpListIn_plain hgd fun K hK' => ?_
  unfold Oper.wpIn
  refine ⟨?_, ?_⟩
  · simp [Oper.about, ho]
  · rw [Oper.semAt_plain F _ _ (by rw [ho]; intro c hc'; cases hc')]
    simp only [execOp, ho, List.map_toArray, List.map_cons, List.map_nil, hx, Sem.run_bind, Sem.run_pure, hrun, Result.andThen_ok]
    exact hK' _ _ h
theorem build_one {P : Program} (w : World) (t e : TypeId) (size : Nat) (cells : Array Value) (i : TypeInfo) (z : Value) (ht : P.underlying t = some (.slice e)) (hi : P.info? e = some i) (hz : i.zero = some z) (hsize : i.size = size) (hs : cells.size = size) (h0 : 0 < size) (h1 : size ≤ 1000) :
    (Instr.buildSlice t 1 #[(0, .agg cells)]).run P w = .ok (.slice (some ⟨w.heap.size, 0, none⟩) 1 1) (w.alloc (.cells cells e)) := by
  refine run_buildSlice w t e 1 _ cells i z ht hi hz (by rw [hsize]; omega) (by rw [hsize]; omega) ?_
  rw [hsize]
  have := Great.fill_whole (s := size) h0 [.agg cells] ((Array.range (1 * size)).map (z.cells[· % z.cells.size]!)) (by intro v hv; simp at hv; subst hv; exact hs) (by simp)
  have e1 : (List.flatMap (fun v : Value => v.cells.toList) [.agg cells]).toArray = cells := by simp [Value.cells]
  rw [e1] at this
  exact this
theorem zero43 : (Tryz.prog.info? 43).map (fun i => (i.zero, i.size)) = some (some (.agg (adV fun _ => 0)), 20) := by kernel_rfl
theorem info43c : ∃ i, Tryz.prog.info? 43 = some i ∧ i.zero = some (.agg (adV fun _ => 0)) ∧ i.size = 20 ∧ i.bytes = 20 := by
  have : (Tryz.prog.info? 43).map (fun i => (i.zero, i.size, i.bytes)) = some (some (.agg (adV fun _ => 0)), 20, 20) := by kernel_rfl
  cases h : Tryz.prog.info? 43 with
  | none => rw [h] at this; cases this
  | some i =>
    rw [h] at this
    simp only [Option.map_some, Option.some.injEq, Prod.mk.injEq] at this
    exact ⟨i, rfl, this.1, this.2.1, this.2.2⟩
set_option maxRecDepth 100000 in
set_option maxHeartbeats 4000000 in
theorem appSeq_none {w : World} {X m1 c : Nat} (hX : w.cell? ⟨X, 0, none⟩ = some (.map (some m1))) (hm : w.heap[m1]? = some (.map #[] c)) :
    Calls Tryz.prog 171 #[.slice none 0 0, .func (.func 139) #[] #[.pointer (some ⟨X, 0, none⟩)]] w fun e w' => e = .returned (.slice none 0 0) ∧ Below w.heap.size w w' := by
  refine (callsIn_wide (n := 4)).1 ?_
  refine callsIn_of_wp_marks Tryz.func171 rfl trivial ?_ rfl
  simp only [Tryz.ntmps171, List.size_toArray, List.length_cons, List.length_nil, Nat.reduceAdd, Nat.reduceSub, Array.replicate_succ, Array.replicate_zero, List.push_toArray, List.append_toArray, List.nil_append, List.cons_append]
  gi_wp2
  obtain ⟨W0, hW0⟩ : ∃ W0, w.alloc (.cells #[.slice none 0 0] 171) = W0 := ⟨_, rfl⟩
  have hsz : W0.heap.size = w.heap.size + 1 := by rw [← hW0]; simp
  have hbl : Below w.heap.size w W0 := by rw [← hW0]; go_grown
  have hx0 : W0.cell? ⟨w.heap.size, 0, none⟩ = some (.slice none 0 0) := by rw [← hW0]; simp [go_sem]
  rw [hW0]
  clear hW0
  have hXl : X < w.heap.size := by have := block_lt_of_cell hX; simpa using this
  refine Kc.range_with (gf := 139) (lb := #[.pointer (some ⟨X, 0, none⟩)]) rfl (enters_of Tryz.func139 (by kernel_rfl) rfl) ?_
  intro r W1 hst hpe htm hpar has' hbod hW1
  have hsz1 : W1.heap.size = w.heap.size + 3 := by rw [hW1]; simp; omega
  have hl1 : W1.heap[W0.heap.size + 1]? = some (.loop r) := by rw [hW1]; exact heap_alloc2_new _ _ _
  have hd1 : W1.heap[W0.heap.size]? = some (.deferred (some [])) := by rw [hW1]; exact heap_alloc2_old _ _ _
  have hbl1 : Below W0.heap.size W0 W1 := by rw [hW1]; exact ((Below.refl _ _).alloc (Nat.le_refl _) _).alloc (by simp) _
  have hblw : Below w.heap.size w W1 := hbl.trans (hbl1.mono (by omega))
  clear hW1
  refine (keys1_none 2 (W0.heap.size + 1) X m1 c W1 ((hblw.cell (p := ⟨X, 0, none⟩) hXl).trans hX) ((hblw.block _ (heap_lt hm)).trans hm)).mono ?_
  rintro e W' ⟨hv, rfl⟩
  have hg : Below W1.heap.size W1 (W1.alloc (.mapIter (some m1) c #[] c)) := by go_grown
  generalize W1.alloc (.mapIter (some m1) c #[] c) = W' at hg ⊢
  have hl' : W'.heap[W0.heap.size + 1]? = some (.loop r) := (hg.block _ (by omega)).trans hl1
  have hd' : W'.heap[W0.heap.size]? = some (.deferred (some [])) := (hg.block _ (by omega)).trans hd1
  refine ⟨hv, hl', ?_⟩
  have hgr : Below w.heap.size w W' := hblw.trans (hg.mono (by omega))
  have hx' : W'.cell? ⟨w.heap.size, 0, none⟩ = some (.slice none 0 0) := (hg.cell (p := ⟨w.heap.size, 0, none⟩) (by show w.heap.size < _; omega)).trans ((hbl1.cell (p := ⟨w.heap.size, 0, none⟩) (by show w.heap.size < _; omega)).trans hx0)
  clear hst hpe htm hpar has' hbod hl1 hd1 hbl1 hblw hx0 hbl
  obtain ⟨re, hre⟩ : ∃ re : Loop, { r with state := .exhausted } = re := ⟨_, rfl⟩
  rw [hre]
  have hK : (W'.putObj (W0.heap.size + 1) (.loop re)).heap[W0.heap.size]? = some (.deferred (some [])) := (World.putObj_heap_other (by omega)).trans hd'
  have hx2 : (W'.putObj (W0.heap.size + 1) (.loop re)).cell? ⟨w.heap.size, 0, none⟩ = some (.slice none 0 0) := (World.cell?_of_block (w := W') (World.putObj_heap_other (by show w.heap.size ≠ _; omega))).trans hx'
  have hgV : Below w.heap.size w (W'.putObj (W0.heap.size + 1) (.loop re)) := ⟨hgr.os, hgr.tape, hgr.output, by have := hgr.size; simp [World.putObj]; omega, fun k hk => (World.putObj_heap_other (by omega)).trans (hgr.block k hk)⟩
  generalize W'.putObj (W0.heap.size + 1) (.loop re) = V at hK hx2 hgV ⊢
  have HV : Hid (V.heap[W0.heap.size]? = some (.deferred (some [])) ∧ Below w.heap.size w V ∧ W0.heap.size = w.heap.size + 1) := ⟨hK, hgV, hsz⟩
  clear hK hgV hgr hx' hl' hd' hg hsz hsz1
  gi_wp2
  refine ⟨by simp, .inl ⟨_, _, rfl, run_takeDeferred HV.out.1, ?_⟩⟩
  refine ⟨.slice none 0 0, by simp [results, Tryz.results171, asAddr], rfl, ?_⟩
  exact ⟨HV.out.2.1.os, HV.out.2.1.tape, HV.out.2.1.output, by have := HV.out.2.1.size; simp [World.putObj]; omega, fun k hk => (World.putObj_heap_other (by have := HV.out.2.2; omega)).trans (HV.out.2.1.block k hk)⟩
/-- Within the round: the keys so far. -/
structure AsJ (w W : World) (r : Loop) (A : Nat → BitVec 8) : Prop where
  ex : ∃ B cap, W.heap[w.heap.size]? = some (.cells #[.slice (some ⟨B, 0, none⟩) 1 cap] 171) ∧ w.heap.size + 3 ≤ B ∧ 1 ≤ cap ∧ (∀ j, j < 20 → W.cell? ⟨B, j, none⟩ = some (Kc.byt A j))
  lp : W.heap[w.heap.size + 2]? = some (.loop r)
  df : W.heap[w.heap.size + 1]? = some (.deferred (some []))
  bl : Below w.heap.size w W
theorem AsJ.put {w W : World} {r r2 : Loop} {A : Nat → BitVec 8} (h : AsJ w W r A) : AsJ w (W.putObj (w.heap.size + 2) (.loop r2)) r2 A := by
  have ho : ∀ b, b ≠ w.heap.size + 2 → (W.putObj (w.heap.size + 2) (.loop r2)).heap[b]? = W.heap[b]? := fun b hb => World.putObj_heap_other hb
  obtain ⟨B, cap, h1, h2, h3, h4⟩ := h.ex
  exact ⟨⟨B, cap, (ho _ (by omega)).trans h1, h2, h3, fun j hj => (World.cell?_of_block (w := W) (ho _ (by show B ≠ _; omega))).trans (h4 j hj)⟩, World.putObj_heap_same (heap_lt h.lp), (ho _ (by omega)).trans h.df, ⟨h.bl.os, h.bl.tape, h.bl.output, by have := h.bl.size; simp [World.putObj]; omega, fun k hk => (ho k (by omega)).trans (h.bl.block k hk)⟩⟩
set_option maxRecDepth 100000 in
set_option maxHeartbeats 4000000 in
theorem appSeq_one {w : World} {X m1 c b : Nat} {v : Value} (A : Nat → BitVec 8) (hX : w.cell? ⟨X, 0, none⟩ = some (.map (some m1))) (hm : w.heap[m1]? = some (.map #[⟨.agg (adV A), v, b⟩] c)) (hbc : b < c) :
    Calls Tryz.prog 171 #[.slice none 0 0, .func (.func 139) #[] #[.pointer (some ⟨X, 0, none⟩)]] w fun e w' => Below w.heap.size w w' ∧ ∃ B cap, e = .returned (.slice (some ⟨B, 0, none⟩) 1 cap) ∧ w.heap.size ≤ B ∧ 1 ≤ cap ∧ (∀ j, j < 20 → w'.cell? ⟨B, j, none⟩ = some (Kc.byt A j)) := by
  refine (callsIn_wide (n := 4)).1 ?_
  refine callsIn_of_wp_marks Tryz.func171 rfl trivial ?_ rfl
  simp only [Tryz.ntmps171, List.size_toArray, List.length_cons, List.length_nil, Nat.reduceAdd, Nat.reduceSub, Array.replicate_succ, Array.replicate_zero, List.push_toArray, List.append_toArray, List.nil_append, List.cons_append]
  gi_wp2
  obtain ⟨W0, hW0⟩ : ∃ W0, w.alloc (.cells #[.slice none 0 0] 171) = W0 := ⟨_, rfl⟩
  have hsz : W0.heap.size = w.heap.size + 1 := by rw [← hW0]; simp
  have hbl : Below w.heap.size w W0 := by rw [← hW0]; go_grown
  have hx0 : W0.heap[w.heap.size]? = some (.cells #[.slice none 0 0] 171) := by rw [← hW0]; exact heap_alloc_new _ _
  rw [hW0]
  clear hW0
  have hXl : X < w.heap.size := by have := block_lt_of_cell hX; simpa using this
  refine Kc.range_with (gf := 139) (lb := #[.pointer (some ⟨X, 0, none⟩)]) rfl (enters_of Tryz.func139 (by kernel_rfl) rfl) ?_
  intro r W1 hst hpe htm hpar has' hbod hW1
  have hsz1 : W1.heap.size = w.heap.size + 3 := by rw [hW1]; simp; omega
  have hl1 : W1.heap[W0.heap.size + 1]? = some (.loop r) := by rw [hW1]; exact heap_alloc2_new _ _ _
  have hd1 : W1.heap[W0.heap.size]? = some (.deferred (some [])) := by rw [hW1]; exact heap_alloc2_old _ _ _
  have hbl1 : Below W0.heap.size W0 W1 := by rw [hW1]; exact ((Below.refl _ _).alloc (Nat.le_refl _) _).alloc (by simp) _
  have hblw : Below w.heap.size w W1 := hbl.trans (hbl1.mono (by omega))
  have hx1 : W1.heap[w.heap.size]? = some (.cells #[.slice none 0 0] 171) := (hbl1.block _ (by omega)).trans hx0
  obtain ⟨lp, hlp⟩ : ∃ lp, lp = W0.heap.size + 1 := ⟨_, rfl⟩
  rw [← hlp] at hl1 ⊢
  have HLP : Hid (lp = w.heap.size + 2 ∧ W0.heap.size = w.heap.size + 1) := ⟨by omega, hsz⟩
  have hlp2 : lp = w.heap.size + 2 := HLP.out.1
  rw [hsz] at hd1
  clear hW1 hbl1 hx0 hbl
  have hm1 : m1 < w.heap.size := heap_lt hm
  refine (keys1_one 2 (lp) X m1 c b A v W1 (fun W => AsJ w W r A) ((hblw.cell (p := ⟨X, 0, none⟩) hXl).trans hX) ((hblw.block _ (heap_lt hm)).trans hm) hbc ?hY).mono ?_
  case hY =>
    intro W hg hit
    have hlW : W.heap[lp]? = some (.loop r) := (hg.block _ (by omega)).trans hl1
    have hxW : W.heap[w.heap.size]? = some (.cells #[.slice none 0 0] 171) := (hg.block _ (by omega)).trans hx1
    have hdW : W.heap[w.heap.size + 1]? = some (.deferred (some [])) := (hg.block _ (by omega)).trans hd1
    have hbW : Below w.heap.size w W := hblw.trans (hg.mono (by omega))
    have hWs : w.heap.size + 3 < W.heap.size := by have := heap_lt hit; omega
    refine Kc.round_with hlW hst hpe (by rw [hpar]; rfl) ?_
    intro rb hrb
    rw [hpar, has', hbod, htm]
    clear hpar has' hbod htm hst hpe hrb
    simp only [List.zip_toArray, List.zip_cons_cons, List.zip_nil_right, List.foldl_toArray, List.foldl_cons, List.foldl_nil, List.setIfInBounds_toArray, List.set_cons_zero, List.set_cons_succ]
    have hz := (zero_of_info zero43).1
    have hlt2 : lp < W.heap.size := by omega
    have HZ : Hid (w.heap.size + 3 < W.heap.size ∧ W1.heap.size = w.heap.size + 3 ∧ lp = w.heap.size + 2) := ⟨hWs, hsz1, hlp2⟩
    clear hWs hsz1 hlp2 hlp hsz
    gi_wp2_with (refine Kc.wpListIn_store_row rfl 43 _ _ rfl W.heap.size (adV A) rfl rfl 43 _ (heap_alloc_new _ _) (info43v _) (by first | rfl | simp | kernel_rfl) (Kc.one_byt _ _) ?_; rw [World.setRow_alloc_new])
    refine ⟨(heap_alloc_old _ _ hlt2).trans hlW, ?_⟩
    have hWs := HZ.out.1
    have hsz1 := HZ.out.2.1
    have hlp2 := HZ.out.2.2
    have hput : ∀ k, k ≠ lp → k < W.heap.size → ((W.alloc (.cells (adV A) 43)).putObj (lp) (.loop rb)).heap[k]? = W.heap[k]? := fun k hk hk2 => (World.putObj_heap_other (by omega)).trans (heap_alloc_old _ _ hk2)
    have hVl : ((W.alloc (.cells (adV A) 43)).putObj (lp) (.loop rb)).heap[lp]? = some (.loop rb) := World.putObj_heap_same (by simp; omega)
    have hVb : ((W.alloc (.cells (adV A) 43)).putObj (lp) (.loop rb)).heap[W.heap.size]? = some (.cells (adV A) 43) := (World.putObj_heap_other (by omega)).trans (heap_alloc_new _ _)
    have hVs : ((W.alloc (.cells (adV A) 43)).putObj (lp) (.loop rb)).heap.size = W.heap.size + 1 := by simp [World.putObj]
    obtain ⟨V, hV⟩ : ∃ V, (W.alloc (.cells (adV A) 43)).putObj (lp) (.loop rb) = V := ⟨_, rfl⟩
    have hVo : V.os = W.os ∧ V.tape = W.tape ∧ V.output = W.output := by rw [← hV]; exact ⟨rfl, rfl, rfl⟩
    rw [hV] at hput hVl hVb hVs ⊢
    have k0 : V.cell? ⟨w.heap.size, 0, none⟩ = some (.slice none 0 0) := by rw [cell_of_block ((hput _ (by omega) (by omega)).trans hxW)]; rfl
    have HV : Hid ((∀ k, k ≠ lp → k < W.heap.size → V.heap[k]? = W.heap[k]?) ∧ V.heap[lp]? = some (.loop rb) ∧ V.heap[W.heap.size]? = some (.cells (adV A) 43) ∧ V.heap.size = W.heap.size + 1 ∧ (V.os = W.os ∧ V.tape = W.tape ∧ V.output = W.output)) := ⟨hput, hVl, hVb, hVs, hVo⟩
    have HW : Hid (W.heap[lp]? = some (.loop r) ∧ W.heap[w.heap.size]? = some (.cells #[.slice none 0 0] 171) ∧ W.heap[w.heap.size + 1]? = some (.deferred (some [])) ∧ Below w.heap.size w W ∧ w.heap.size + 3 < W.heap.size ∧ W1.heap.size = w.heap.size + 3 ∧ m1 < w.heap.size) := ⟨hlW, hxW, hdW, hbW, hWs, hsz1, hm1⟩
    obtain ⟨i0, hi0, hz0, hz1, hz2⟩ := info43c
    have hbs : ∀ w, _ := fun w => build_one (P := Tryz.prog) w 171 43 20 (adV A) i0 _ Tryz.underlying171 hi0 hz0 hz1 (by simp) (by decide) (by decide)
    have hA : ∀ j u, (adV A).toList[j]? = some u → j < 20 ∧ u = Kc.byt A j := fun j u hu => by
      have hj : j < 20 := by
        rcases Nat.lt_or_ge j 20 with h | h
        · exact h
        · rw [List.getElem?_eq_none (by simpa using h)] at hu; cases hu
      rw [Array.getElem?_toList, Kc.get_vec 20 (Kc.byt A) j hj] at hu
      exact ⟨hj, (Option.some.inj hu).symm⟩
    have HA : Hid (∀ j u, (adV A).toList[j]? = some u → j < 20 ∧ u = Kc.byt A j) := hA
    have HI : Hid (Tryz.prog.info? 43 = some i0 ∧ i0.zero = some (.agg (adV fun _ => 0)) ∧ i0.size = 20 ∧ i0.bytes = 20) := ⟨hi0, hz0, hz1, hz2⟩
    have f0 : V.frozen? ⟨w.heap.size, 0, none⟩ = false := by simp [World.frozen?, (HV.out.1 _ (by omega) (by omega)).trans HW.out.2.1]
    have HK2 : Hid (∀ V2, Below (V.alloc (.cells (adV A) 43)).heap.size (V.alloc (.cells (adV A) 43)) V2 → V2.heap[w.heap.size]? = some (.cells #[.slice none 0 0] 171)) := fun V2 hb => (hb.block _ (by simp; omega)).trans ((heap_alloc_old _ _ (by omega)).trans ((hput _ (by omega) (by omega)).trans hxW))
    clear hput hVl hVb hVs hVo hV hlW hxW hdW hbW hWs hsz1 hm1 hm hX hXl hblw hl1 hd1 hx1 hg hit hlp2 hlt2 hz hA hi0 hz0 hz1 hz2
    gi_wp2_with (first | (refine wpListIn_load_r (o := { dst := some 9, op := Op.load 43 (Operand.tmp 5), type := 43, pos := "iter.go:52", after := #[], guard := none }) (by rfl) 43 (.tmp 5) (by rfl) ⟨W.heap.size, 0, none⟩ (by rfl) (.agg (adV A)) (by exact load43 HV.out.2.2.1) ?_; refine wpListIn_build_one rfl 171 (.tmp 9) rfl 43 (adV A) rfl (hbs _) ?_; refine wpListIn_app_one rfl (.tmp 8) (.tmp 10) 171 rfl 43 i0 _ 20 20 Tryz.underlying171 HI.out.1 HI.out.2.1 HI.out.2.2.1 HI.out.2.2.2 (by simp [Value.cells]) (by decide) (by decide) rfl V.heap.size 1 rfl (adV A).toList (by simp) (fun j u hu => by obtain ⟨hj, rfl⟩ := HA.out j u hu; rw [cell_of_block (heap_alloc_new _ _)]; exact Kc.get_vec 20 (Kc.byt A) j hj) (fun u hu => by obtain ⟨j, hj⟩ := List.mem_iff_getElem?.1 hu; obtain ⟨_, rfl⟩ := HA.out j u hj; rfl) ?_; intro B cap V2 hb2 hB hcap hcs; refine wpListIn_store_one rfl 171 (.tmp 2) (.tmp 11) rfl w.heap.size (.slice (some ⟨B, 0, none⟩) 1 cap) (.slice none 0 0) rfl rfl 171 (HK2.out V2 hb2) (by exact run_storeVar_one _ _ 171 171 _ _ (HK2.out V2 hb2) (by kernel_rfl) rfl) ?_))
    have hs := HV.out.2.2.2.1
    have hl2 := HZ.out.2.2
    have hWs := HZ.out.1
    have hw1 := HZ.out.2.1
    have hm1 := HW.out.2.2.2.2.2.2
    have hin : ∀ k, k < W.heap.size + 1 → V2.heap[k]? = V.heap[k]? := fun k hk => (hb2.block k (by simp; omega)).trans (heap_alloc_old _ _ (by omega))
    have h3 : ∀ k, k ≠ w.heap.size → (V2.setRow w.heap.size #[.slice (some ⟨B, 0, none⟩) 1 cap]).heap[k]? = V2.heap[k]? := fun k hk => setRow_other _ _ _ _ hk
    have h4 : ∀ k, k ≠ w.heap.size → k ≠ lp → k < W.heap.size → ((V2.setRow w.heap.size #[.slice (some ⟨B, 0, none⟩) 1 cap]).putObj lp (.loop r)).heap[k]? = W.heap[k]? := fun k h1 h2 hk => (World.putObj_heap_other h2).trans ((h3 k h1).trans ((hin k (by omega)).trans (HV.out.1 k h2 hk)))
    have h5 : (V2.setRow w.heap.size #[.slice (some ⟨B, 0, none⟩) 1 cap]).heap[w.heap.size]? = some (.cells #[.slice (some ⟨B, 0, none⟩) 1 cap] 171) := setRow_heap _ _ _ _ _ _ (HK2.out V2 hb2)
    have hBs : W.heap.size + 2 ≤ B := by have := hB; simp at this; omega
    have h6 : (V2.setRow w.heap.size #[.slice (some ⟨B, 0, none⟩) 1 cap]).heap[lp]? = some (.loop rb) := (h3 lp (by omega)).trans ((hin lp (by omega)).trans HV.out.2.1)
    have hb2s := hb2.size
    have hos : (V2.setRow w.heap.size #[.slice (some ⟨B, 0, none⟩) 1 cap]).heap.size = V2.heap.size := by simp [World.setRow]
    refine ⟨h6, h4 m1 (by omega) (by omega) (by omega), h4 _ (by omega) (by omega) (by omega), ⟨⟨B, cap, (World.putObj_heap_other (by omega)).trans h5, by omega, hcap, fun j hj => ?_⟩, ?_, ?_, ?_⟩⟩
    · refine (World.cell?_of_block (w := V2) ((World.putObj_heap_other (by show B ≠ lp; omega)).trans (h3 B (by omega)))).trans ?_
      exact hcs j _ (by rw [Array.getElem?_toList]; exact Kc.get_vec 20 (Kc.byt A) j hj)
    · rw [← hl2]; exact World.putObj_heap_same (heap_lt h6)
    · exact (h4 _ (by omega) (by omega) (by omega)).trans HW.out.2.2.1
    · have hb := HW.out.2.2.2.1
      have ho := HV.out.2.2.2.2
      refine ⟨(hb2.os.trans ho.1).trans hb.os, (hb2.tape.trans ho.2.1).trans hb.tape, (hb2.output.trans ho.2.2).trans hb.output, ?_, fun k hk => (h4 k (by omega) (by omega) (by omega)).trans (hb.block k hk)⟩
      have : ((V2.setRow w.heap.size #[.slice (some ⟨B, 0, none⟩) 1 cap]).putObj lp (.loop r)).heap.size = V2.heap.size := by simp [World.putObj, World.setRow]
      rw [this]
      simp at hb2s
      omega
  rintro e W' ⟨hv, hJ⟩
  have hlJ := hJ.lp
  rw [← hlp2] at hlJ
  refine ⟨hv, hlJ, ?_⟩
  clear hst hpe htm hpar has' hbod
  obtain ⟨re, hre⟩ : ∃ re : Loop, { r with state := .exhausted } = re := ⟨_, rfl⟩
  rw [hre]
  have hJ2 := hJ.put (r2 := re)
  rw [← hlp2] at hJ2
  generalize W'.putObj lp (.loop re) = V at hJ2 ⊢
  obtain ⟨B, cap, c1, c2, c3, c4⟩ := hJ2.ex
  have k0 : V.cell? ⟨w.heap.size, 0, none⟩ = some (.slice (some ⟨B, 0, none⟩) 1 cap) := by rw [cell_of_block c1]; rfl
  have HV : Hid (V.heap[w.heap.size + 1]? = some (.deferred (some [])) ∧ Below w.heap.size w V ∧ w.heap.size + 3 ≤ B ∧ 1 ≤ cap ∧ (∀ j, j < 20 → V.cell? ⟨B, j, none⟩ = some (Kc.byt A j))) := ⟨hJ2.df, hJ2.bl, c2, c3, c4⟩
  have HSZ : Hid (W0.heap.size = w.heap.size + 1) := hsz
  clear hJ2 hJ hlJ c1 c2 c3 c4 hlp2 hlp HLP hsz1 hl1 hd1 hblw hx1 hm1 hXl hX hm hbc hsz
  gi_wp2
  refine ⟨by simp, .inl ⟨_, _, rfl, run_takeDeferred (by rw [HSZ.out]; exact HV.out.1), ?_⟩⟩
  rw [HSZ.out]
  refine ⟨.slice (some ⟨B, 0, none⟩) 1 cap, by simp [results, Tryz.results171, asAddr], ?_, B, cap, rfl, by have := HV.out.2.2.1; omega, HV.out.2.2.2.1, fun j hj => ?_⟩
  · exact ⟨HV.out.2.1.os, HV.out.2.1.tape, HV.out.2.1.output, by have := HV.out.2.1.size; simp [World.putObj]; omega, fun k hk => (World.putObj_heap_other (by omega)).trans (HV.out.2.1.block k hk)⟩
  · exact (World.cell?_of_block (w := V) (World.putObj_heap_other (by show B ≠ _; have := HV.out.2.2.1; omega))).trans (HV.out.2.2.2.2 j hj)
end Go.Proofs.YtboeokmaepchgaaGreatDoor
/- slices.Collect, maps.Keys, slices.SortedFunc of the keys of a map of none and of one. -/
namespace Go.Proofs.YtboeokmaepchgaaGreatDoor
open Go.RowKit Go.Maps Go.Joins Go.Shelf
set_option linter.unusedSimpArgs false
set_option linter.unusedVariables false
/-- One address in a block of its own. -/
structure OneA (w w' : World) (A : Nat → BitVec 8) (B cap : Nat) : Prop where
  lo : w.heap.size ≤ B
  cp : 1 ≤ cap
  cs : ∀ j, j < 20 → w'.cell? ⟨B, j, none⟩ = some (Kc.byt A j)
set_option maxRecDepth 100000 in
set_option maxHeartbeats 4000000 in
theorem collect_none {w : World} {X m1 c : Nat} (hX : w.cell? ⟨X, 0, none⟩ = some (.map (some m1))) (hm : w.heap[m1]? = some (.map #[] c)) :
    Calls Tryz.prog 137 #[.func (.func 139) #[] #[.pointer (some ⟨X, 0, none⟩)]] w fun e w' => e = .returned (.slice none 0 0) ∧ Below w.heap.size w w' := by
  have HC : Hid _ := appSeq_none hX hm
  clear hX hm
  go_enter Tryz.func137, Tryz.ntmps137
  go_wp2_with (first | (refine Calls.mono HC.out ?_; rintro e w1 ⟨rfl, hb⟩))
  go_ret
  exact ⟨rfl, hb⟩
set_option maxRecDepth 100000 in
set_option maxHeartbeats 4000000 in
theorem collect_one {w : World} {X m1 c b : Nat} {v : Value} (A : Nat → BitVec 8) (hX : w.cell? ⟨X, 0, none⟩ = some (.map (some m1))) (hm : w.heap[m1]? = some (.map #[⟨.agg (adV A), v, b⟩] c)) (hbc : b < c) :
    Calls Tryz.prog 137 #[.func (.func 139) #[] #[.pointer (some ⟨X, 0, none⟩)]] w fun e w' => Below w.heap.size w w' ∧ ∃ B cap, e = .returned (.slice (some ⟨B, 0, none⟩) 1 cap) ∧ OneA w w' A B cap := by
  have HC : Hid _ := appSeq_one A hX hm hbc
  clear hX hm hbc
  go_enter Tryz.func137, Tryz.ntmps137
  go_wp2_with (first | (refine Calls.mono HC.out ?_; rintro e w1 ⟨hb, B, cap, rfl, h1, h2, h3⟩))
  have HB : Hid (OneA w w1 A B cap) := ⟨h1, h2, h3⟩
  clear h3
  go_wp2
  go_ret
  exact ⟨hb, B, cap, rfl, HB.out⟩
set_option maxRecDepth 100000 in
set_option maxHeartbeats 4000000 in
theorem keys_any {w : World} (m1 : Nat) : Calls Tryz.prog 107 #[.map (some m1)] w fun e w' => e = .returned (.func (.func 139) #[] #[.pointer (some ⟨w.heap.size, 0, none⟩)]) ∧ w' = w.alloc (.cells #[.map (some m1)] 92) := by
  have hmf : ∀ (fn : Fn) (first cap : Array Value) (w : World), (Instr.makeFunc fn first cap).run Tryz.prog w = .ok (.func fn first cap) w := fun _ _ _ _ => rfl
  go_enter Tryz.func107, Tryz.ntmps107
  go_wp2
  go_ret
  exact ⟨rfl, rfl⟩
set_option maxRecDepth 100000 in
set_option maxHeartbeats 4000000 in
theorem sorted_none {w : World} {X m1 c : Nat} (f : Value) (hX : w.cell? ⟨X, 0, none⟩ = some (.map (some m1))) (hm : w.heap[m1]? = some (.map #[] c)) :
    Calls Tryz.prog 106 #[.func (.func 139) #[] #[.pointer (some ⟨X, 0, none⟩)], f] w fun e w' => e = .returned (.slice none 0 0) ∧ Below w.heap.size w w' := by
  have HC : Hid _ := collect_none hX hm
  have HS : Hid (∀ w, _) := fun w => sortA_small (w := w) 0 (Or.inl rfl) none 0 f
  clear hX hm
  go_enter Tryz.func106, Tryz.ntmps106
  go_wp2_with (first | (go_at_call 137; refine Calls.mono HC.out ?_; rintro e w1 ⟨rfl, hb⟩) | (go_at_call 138; refine Calls.mono (HS.out _) ?_; rintro e w2 ⟨rfl, h⟩; obtain rfl := h.symm; clear h))
  go_ret
  exact ⟨rfl, hb⟩
set_option maxRecDepth 100000 in
set_option maxHeartbeats 4000000 in
theorem sorted_one {w : World} {X m1 c b : Nat} {v : Value} (A : Nat → BitVec 8) (f : Value) (hX : w.cell? ⟨X, 0, none⟩ = some (.map (some m1))) (hm : w.heap[m1]? = some (.map #[⟨.agg (adV A), v, b⟩] c)) (hbc : b < c) :
    Calls Tryz.prog 106 #[.func (.func 139) #[] #[.pointer (some ⟨X, 0, none⟩)], f] w fun e w' => Below w.heap.size w w' ∧ ∃ B cap, e = .returned (.slice (some ⟨B, 0, none⟩) 1 cap) ∧ OneA w w' A B cap := by
  have HC : Hid _ := collect_one A hX hm hbc
  have HS : Hid (∀ w p c, _) := fun w p c => sortA_small (w := w) 1 (Or.inr rfl) p c f
  clear hX hm hbc
  go_enter Tryz.func106, Tryz.ntmps106
  go_wp2_with (first | (go_at_call 137; refine Calls.mono HC.out ?_; rintro e w1 ⟨hb, B, cap, rfl, ho⟩) | (go_at_call 138; refine Calls.mono (HS.out _ _ _) ?_; rintro e w2 ⟨rfl, h⟩; obtain rfl := h.symm; clear h))
  go_ret
  exact ⟨hb, B, cap, rfl, ho⟩
end Go.Proofs.YtboeokmaepchgaaGreatDoor
