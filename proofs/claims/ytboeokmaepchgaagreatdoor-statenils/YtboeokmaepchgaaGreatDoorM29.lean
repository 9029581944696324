/- UL, UN, laid into one text. -/
import Derived.Test.YtboeokmaepchgaaGreatDoorM28
/- state: account of a state over an empty tree. -/
namespace Go.Proofs.YtboeokmaepchgaaGreatDoor
open Go.RowKit Go.Maps Go.Joins Go.Shelf
set_option linter.unusedSimpArgs false
set_option linter.unusedVariables false
/-- A state in memory: its block, and its map of accounts. -/
structure StA (w : World) (b : Nat) (D : Nat → BitVec 8) (m1 m2 t : Nat) (rf : Int) (lg jr sn : Value) (l : List ((Nat → Int) × Value × Nat)) (ck : Nat) : Prop where
  st : w.heap[b]? = some (.cells (Kc.vec 43 (stF D 0 m1 m2 t rf lg jr sn)) 101)
  mp : w.heap[m1]? = some (.map (entA 20 .u8 l).toArray ck)
theorem StA.below {w w' : World} {b : Nat} {D : Nat → BitVec 8} {m1 m2 t : Nat} {rf : Int} {lg jr sn : Value} {l : List ((Nat → Int) × Value × Nat)} {ck : Nat} (h : StA w b D m1 m2 t rf lg jr sn l ck) (hb : Below w.heap.size w w') : StA w' b D m1 m2 t rf lg jr sn l ck :=
  ⟨(hb.block b (heap_lt h.st)).trans h.st, (hb.block m1 (heap_lt h.mp)).trans h.mp⟩
theorem stF_at (D : Nat → BitVec 8) (er : Int) (m1 m2 t : Nat) (rf : Int) (lg jr sn : Value) : stF D er m1 m2 t rf lg jr sn 33 = .int .i64 er ∧ stF D er m1 m2 t rf lg jr sn 34 = .map (some m1) := ⟨rfl, rfl⟩
set_option maxRecDepth 100000 in
theorem serr_ok {w : World} {b : Nat} {D : Nat → BitVec 8} {m1 m2 t : Nat} {rf : Int} {lg jr sn : Value} (h : w.heap[b]? = some (.cells (Kc.vec 43 (stF D 0 m1 m2 t rf lg jr sn)) 101)) : Calls Tryz.prog 24 #[.pointer (some ⟨b, 0, none⟩)] w fun e w' => e = .returned (.int .i64 0) ∧ w' = w := by
  have k0 : w.cell? ⟨b, 33, none⟩ = some (.int .i64 0) := st_cell h 33 (by decide)
  clear h
  go_enter Tryz.func24, Tryz.ntmps24
  go_wp2
  go_ret
  exact ⟨rfl, rfl⟩
set_option maxRecDepth 100000 in
theorem broken_ok {w : World} {b : Nat} {D : Nat → BitVec 8} {m1 m2 t : Nat} {rf : Int} {lg jr sn : Value} (h : w.heap[b]? = some (.cells (Kc.vec 43 (stF D 0 m1 m2 t rf lg jr sn)) 101)) : Calls Tryz.prog 57 #[.pointer (some ⟨b, 0, none⟩)] w fun e w' => e = .returned (.bool false) ∧ w' = w := by
  have HC : Hid _ := serr_ok h
  clear h
  go_enter Tryz.func57, Tryz.ntmps57
  go_wp2_with (first | (refine Calls.mono HC.out ?_; rintro e w1 ⟨rfl, h⟩; obtain rfl := h.symm))
  go_ret
  exact ⟨rfl, rfl⟩
theorem zero86 (w : World) : (zeroValue 86).run Tryz.prog w = .ok (.agg zAc) w := by kernel_rfl
theorem look92 {w : World} {m1 ck : Nat} {l : List ((Nat → Int) × Value × Nat)} (h : w.heap[m1]? = some (.map (entA 20 .u8 l).toArray ck)) (A : Nat → BitVec 8) : (Instr.lookup 92 (.map (some m1)) (.agg (adV A)) true).run Tryz.prog w = .ok (lookA 20 (fun j => Kc.I8 (A j)) l (.agg zAc)) w :=
  run_lookup_arr 92 43 86 5 20 .u8 Tryz.underlying92 Tryz.underlying43 Tryz.sizeOf5 Tryz.isAgg5 Tryz.underlying5 (.agg zAc) zero86 l h (fun j => Kc.I8 (A j))
/-- A row is stored, as a step of a region. -/
theorem step_store_r {ops : Array Oper} {o : Oper} {a : Act} {w : World} {K : Act → World → Prop} {Q : Exit → Act → World → Prop} {E : Prop} (hw : Region.wanted o (yielded ops a.tmps) = true) (ty : TypeId) (x y : Operand) (ho : o.op = .store ty x y)
    (g : Nat) (cells : Array Value) (hx : a.eval x = .pointer (some ⟨g, 0, none⟩)) (hy : a.eval y = .agg cells) (t : TypeId) (old : Array Value) (hg : w.heap[g]? = some (.cells old t (0, 0))) (hi : (Tryz.prog.info? ty).map (·.size) = some cells.size)
    (hold : old.size = cells.size) (h1 : cells.all (·.oneCell') = true) (h : K (a.put o.dst undef) (w.setRow g cells)) :
    if Region.wanted o (yielded ops a.tmps) = true then Oper.wp Tryz.prog o a w K Q else E := by
  rw [if_pos hw]
  exact wp_store_row ty x y ho g cells hx hy t old hg hi hold h1 h
theorem one_zac : zAc.all (·.oneCell') = true := one_ac _ _ _ _ _ _ _ _ _ _
theorem load_root {w : World} {b : Nat} {D : Nat → BitVec 8} {er : Int} {m1 m2 t : Nat} {rf : Int} {lg jr sn : Value} (h : w.heap[b]? = some (.cells (Kc.vec 43 (stF D er m1 m2 t rf lg jr sn)) 101)) : (loadVar 33 ⟨b, 0, none⟩).run Tryz.prog w = .ok (.agg (Kc.vec 32 (Kc.byt D))) w :=
  Kc.run_loadVar_mid w b 0 32 33 5 (Kc.byt D) (fun j hj => by
    rw [Nat.zero_add, st_cell h j (by omega)]
    simp only [stF, hj, if_true]) Tryz.underlying33 (by kernel_rfl)
set_option maxRecDepth 100000 in
set_option maxHeartbeats 16000000 in
theorem account_there {w : World} {b : Nat} {D : Nat → BitVec 8} {m1 m2 t : Nat} {rf : Int} {lg jr sn : Value} {l : List ((Nat → Int) × Value × Nat)} {ck : Nat} (A : Nat → BitVec 8) (hs : StA w b D m1 m2 t rf lg jr sn l ck) {f : Nat → Value} {i : Nat} (hl : findA 20 (fun j => Kc.I8 (A j)) l 0 = some (i, .agg (Kc.vec 70 f))) (h1 : (Kc.vec 70 f).all (·.oneCell') = true) :
    Calls Tryz.prog 67 #[.pointer (some ⟨b, 0, none⟩), .agg (adV A)] w fun e w' => e = .returned (.agg (Kc.vec 70 f)) ∧ Below w.heap.size w w' := by
  have B0 : ([Obj.cells (adV A) 43, .cells zAc 86].foldl World.alloc w) = (w.alloc (.cells (adV A) 43)).alloc (.cells zAc 86) := rfl
  have hB0 := allocs_below [Obj.cells (adV A) 43, .cells zAc 86] w
  have r0 := allocs_heap [Obj.cells (adV A) 43, .cells zAc 86] w 0 _ rfl
  have r1 := allocs_heap [Obj.cells (adV A) 43, .cells zAc 86] w 1 _ rfl
  rw [B0] at hB0 r0 r1
  have H0 : Hid _ := And.intro (hs.below hB0) (And.intro r0 (And.intro r1 hB0))
  have HLA : Hid (lookA 20 (fun j => Kc.I8 (A j)) l (.agg zAc) = .tuple #[.agg (Kc.vec 70 f), .bool true]) := by show _ = _; unfold lookA; rw [hl]
  have H1 : Hid _ := h1
  clear hs hl h1 B0 hB0 r0 r1
  go_enter Tryz.func67, Tryz.ntmps67
  go_wp2_with fail
  rw [z86]
  generalize (w.alloc (.cells (adV A) 43)).alloc (.cells zAc 86) = W0 at H0 ⊢
  refine Calls.mono (broken_ok H0.out.1.st) ?_
  rintro e w8 ⟨rfl, h8⟩
  obtain rfl := h8.symm
  clear h8
  go_wp2_with fail
  refine wp_noP ?_
  refine wp_region_held_drew (S := (fun w' : World => StA w' b D m1 m2 t rf lg jr sn l ck ∧ w'.heap[w.heap.size]? = some (.cells (adV A) 43))) (by kernel_rfl) ⟨⟨H0.out.1.st, H0.out.1.mp⟩, H0.out.2.1⟩ (fun hHeld => ?_)
  have G0 : Hid (Below w.heap.size w W0.drew ∧ W0.drew.heap[w.heap.size + 1]? = some (.cells zAc 86)) := ⟨⟨H0.out.2.2.2.os, H0.out.2.2.2.tape, H0.out.2.2.2.output, H0.out.2.2.2.size, H0.out.2.2.2.block⟩, H0.out.2.2.1⟩
  clear H0
  generalize W0.drew = U0 at G0 hHeld ⊢
  have HU : Hid (StA U0 b D m1 m2 t rf lg jr sn l ck ∧ U0.heap[w.heap.size]? = some (.cells (adV A) 43)) := hHeld
  refine wpAnyH_take (i := 0) (v := .pointer (some ⟨b, 0, none⟩)) rfl (by kernel_rfl) (by kernel_rfl) (by kernel_rfl) (fun _ _ _ h => h) (Or.inl ⟨by rfl, fun w9 hSw => ?_⟩) hHeld ?_
  · go_simp
  simp only [List.getElem_toArray, List.getElem_cons_succ, List.getElem_cons_zero, Act.put, List.setIfInBounds_toArray, List.set_cons_zero, List.set_cons_succ]
  refine wpAnyH_take (i := 1) (v := .pointer (some ⟨b, 0, none⟩)) rfl (by kernel_rfl) (by kernel_rfl) (by kernel_rfl) (fun _ _ _ h => h) (Or.inl ⟨by rfl, fun w9 hSw => ?_⟩) hHeld ?_
  · go_simp
  simp only [List.getElem_toArray, List.getElem_cons_succ, List.getElem_cons_zero, Act.put, List.setIfInBounds_toArray, List.set_cons_zero, List.set_cons_succ]
  refine wpAnyH_take (i := 2) (v := .pointer (some ⟨b, 34, none⟩)) rfl (by kernel_rfl) (by kernel_rfl) (by kernel_rfl) (fun _ _ _ h => h) (Or.inl ⟨by rfl, fun w9 hSw => ?_⟩) hHeld ?_
  · go_simp
  simp only [List.getElem_toArray, List.getElem_cons_succ, List.getElem_cons_zero, Act.put, List.setIfInBounds_toArray, List.set_cons_zero, List.set_cons_succ]
  refine wpAnyH_take (i := 3) (v := .map (some m1)) rfl (by kernel_rfl) (by kernel_rfl) (by kernel_rfl) (fun _ _ _ h => h) (Or.inl ⟨by rfl, fun w9 hSw => ?_⟩) hHeld ?_
  · have k0 : w9.cell? ⟨b, 34, none⟩ = some (.map (some m1)) := st_cell hSw.1.st 34 (by decide)
    go_simp
  simp only [List.getElem_toArray, List.getElem_cons_succ, List.getElem_cons_zero, Act.put, List.setIfInBounds_toArray, List.set_cons_zero, List.set_cons_succ]
  refine wpAnyH_take (i := 4) (v := .agg (adV A)) rfl (by kernel_rfl) (by kernel_rfl) (by kernel_rfl) (fun _ _ _ h => h) (Or.inl ⟨by rfl, fun w9 hSw => ?_⟩) hHeld ?_
  · exact Kc.run_load_exec 43 _ rfl _ rfl (load43 hSw.2)
  simp only [List.getElem_toArray, List.getElem_cons_succ, List.getElem_cons_zero, Act.put, List.setIfInBounds_toArray, List.set_cons_zero, List.set_cons_succ]
  refine wpAnyH_take (i := 5) (v := .tuple #[.agg (Kc.vec 70 f), .bool true]) rfl (by kernel_rfl) (by kernel_rfl) (by kernel_rfl) (fun _ _ _ h => h) (Or.inl ⟨by rfl, fun w9 hSw => ?_⟩) hHeld ?_
  · have hk := look92 hSw.1.mp A
    rw [HLA.out] at hk
    go_simp
  simp only [List.getElem_toArray, List.getElem_cons_succ, List.getElem_cons_zero, Act.put, List.setIfInBounds_toArray, List.set_cons_zero, List.set_cons_succ]
  refine wpAnyH_take (i := 6) (v := .tuple #[.agg (Kc.vec 70 f), .bool true]) rfl (by kernel_rfl) (by kernel_rfl) (by kernel_rfl) (fun _ _ _ h => h) (Or.inl ⟨by rfl, fun w9 hSw => ?_⟩) hHeld ?_
  · go_simp
  simp only [List.getElem_toArray, List.getElem_cons_succ, List.getElem_cons_zero, Act.put, List.setIfInBounds_toArray, List.set_cons_zero, List.set_cons_succ]
  refine wpAnyH_take (i := 7) (v := .agg (Kc.vec 70 f)) rfl (by kernel_rfl) (by kernel_rfl) (by kernel_rfl) (fun _ _ _ h => h) (Or.inl ⟨by rfl, fun w9 hSw => ?_⟩) hHeld ?_
  · go_simp
  simp only [List.getElem_toArray, List.getElem_cons_succ, List.getElem_cons_zero, Act.put, List.setIfInBounds_toArray, List.set_cons_zero, List.set_cons_succ]
  refine wpAnyH_take (i := 8) (v := .bool true) rfl (by kernel_rfl) (by kernel_rfl) (by kernel_rfl) (fun _ _ _ h => h) (Or.inl ⟨by rfl, fun w9 hSw => ?_⟩) hHeld ?_
  · go_simp
  simp only [List.getElem_toArray, List.getElem_cons_succ, List.getElem_cons_zero, Act.put, List.setIfInBounds_toArray, List.set_cons_zero, List.set_cons_succ]
  refine wpAnyH_ready (rs := [9]) (by kernel_rfl) (by simp) ?_
  refine AllReadyH.cons rfl (fun K hK => ?_) AllReadyH.nil
  go_simp
  rw [z86]
  have hx1 : (fun w' : World => StA w' b D m1 m2 t rf lg jr sn l ck ∧ w'.heap[w.heap.size]? = some (.cells (adV A) 43)) (U0.alloc (.cells zAc 86)) := ⟨hHeld.1.below (by go_grown), (heap_alloc_old U0 _ (heap_lt hHeld.2)).trans hHeld.2⟩
  refine hK.out _ _ hx1 (fun hHeld => ?_)
  clear hK K
  try simp only [List.getElem_toArray, List.getElem_cons_succ, List.getElem_cons_zero, Act.put, List.setIfInBounds_toArray, List.set_cons_zero, List.set_cons_succ]
  refine wpAnyH_ready (rs := [10]) (by kernel_rfl) (by simp) ?_
  refine AllReadyH.cons rfl (fun K hK => ?_) AllReadyH.nil
  refine step_store_r (by rfl) 86 _ _ (by rfl) U0.heap.size (Kc.vec 70 f) (by rfl) (by rfl) 86 _ (heap_alloc_new _ _) (info86v _) (by simp) H1.out ?_
  rw [World.setRow_alloc_new]
  have hx2 : (fun w' : World => StA w' b D m1 m2 t rf lg jr sn l ck ∧ w'.heap[w.heap.size]? = some (.cells (adV A) 43)) (U0.alloc (.cells (Kc.vec 70 f) 86)) := ⟨HU.out.1.below (by go_grown), (heap_alloc_old U0 _ (heap_lt HU.out.2)).trans HU.out.2⟩
  refine hK.out _ _ hx2 (fun hHeld => ?_)
  clear hK K
  try simp only [List.getElem_toArray, List.getElem_cons_succ, List.getElem_cons_zero, Act.put, List.setIfInBounds_toArray, List.set_cons_zero, List.set_cons_succ]
  refine wpAnyH_take (i := 11) (v := .bool true) rfl (by kernel_rfl) (by kernel_rfl) (by kernel_rfl) (fun _ _ _ h => h) (Or.inl ⟨by rfl, fun w9 hSw => ?_⟩) hHeld ?_
  · go_simp
  simp only [List.getElem_toArray, List.getElem_cons_succ, List.getElem_cons_zero, Act.put, List.setIfInBounds_toArray, List.set_cons_zero, List.set_cons_succ]
  refine wpAnyH_done (by kernel_rfl) ?_ _
  simp only [noP]
  have HE : Hid (Below w.heap.size w (U0.alloc (.cells (Kc.vec 70 f) 86)) ∧ (U0.alloc (.cells (Kc.vec 70 f) 86)).heap[U0.heap.size]? = some (.cells (Kc.vec 70 f) 86) ∧ (U0.alloc (.cells (Kc.vec 70 f) 86)).heap[w.heap.size + 1]? = some (.cells zAc 86) ∧ StA (U0.alloc (.cells (Kc.vec 70 f) 86)) b D m1 m2 t rf lg jr sn l ck ∧ (U0.alloc (.cells (Kc.vec 70 f) 86)).heap[w.heap.size]? = some (.cells (adV A) 43)) := ⟨G0.out.1.trans ((by go_grown : Below U0.heap.size U0 (U0.alloc (.cells (Kc.vec 70 f) 86))).mono G0.out.1.size), heap_alloc_new _ _, (heap_alloc_old U0 _ (heap_lt G0.out.2)).trans G0.out.2, hx2.1, hx2.2⟩
  clear hx1 hx2 HU G0
  generalize (U0.alloc (.cells (Kc.vec 70 f) 86)) = U1 at HE ⊢
  go_wp2_with (first | (refine wpList_load_row rfl 86 _ rfl U0.heap.size rfl 86 _ (0, 0) _ HE.out.2.1 Tryz.underlying86 rfl (info86v _) ?_) | (refine wpList_store_row rfl 86 _ _ rfl (w.heap.size + 1) (Kc.vec 70 f) rfl rfl 86 _ HE.out.2.2.1 (info86v _) (by simp) H1.out ?_))
  refine bodyPost_ret (results_cell_row rfl _ _ _ _ _ _ _ rfl (setRow_heap _ _ _ _ _ _ HE.out.2.2.1) Tryz.underlying86 rfl (info86v _)) rfl ⟨rfl, ?_⟩
  exact ((Kc.Only.refl _ _).setRow _).below HE.out.1 (by omega)
set_option maxRecDepth 100000 in
set_option maxHeartbeats 16000000 in
theorem account_absent {w : World} {b : Nat} {D : Nat → BitVec 8} {m1 m2 t : Nat} {rf : Int} {lg jr sn : Value} {l : List ((Nat → Int) × Value × Nat)} {ck : Nat} (A : Nat → BitVec 8) (hs : StA w b D m1 m2 t rf lg jr sn l ck) (E : Nat → BitVec 8) (hT : Two D E) (hp : Kc.PathIn w) (hl : findA 20 (fun j => Kc.I8 (A j)) l 0 = none) :
    Calls Tryz.prog 67 #[.pointer (some ⟨b, 0, none⟩), .agg (adV A)] w fun e w' => e = .returned (.agg (newAc D E)) ∧ Below w.heap.size w w' := by
  have B0 : ([Obj.cells (adV A) 43, .cells zAc 86].foldl World.alloc w) = (w.alloc (.cells (adV A) 43)).alloc (.cells zAc 86) := rfl
  have hB0 := allocs_below [Obj.cells (adV A) 43, .cells zAc 86] w
  have r0 := allocs_heap [Obj.cells (adV A) 43, .cells zAc 86] w 0 _ rfl
  have r1 := allocs_heap [Obj.cells (adV A) 43, .cells zAc 86] w 1 _ rfl
  rw [B0] at hB0 r0 r1
  have H0 : Hid _ := And.intro (hs.below hB0) (And.intro r0 (And.intro r1 hB0))
  have HLA : Hid (lookA 20 (fun j => Kc.I8 (A j)) l (.agg zAc) = .tuple #[.agg zAc, .bool false]) := by show _ = _; unfold lookA; rw [hl]
  have HP : Hid (Kc.PathIn w ∧ 1 < w.heap.size ∧ Two D E) := ⟨hp, Kc.pathIn_pos hp, hT⟩
  clear hs hl hp hT B0 hB0 r0 r1
  go_enter Tryz.func67, Tryz.ntmps67
  go_wp2_with fail
  rw [z86]
  generalize (w.alloc (.cells (adV A) 43)).alloc (.cells zAc 86) = W0 at H0 ⊢
  refine Calls.mono (broken_ok H0.out.1.st) ?_
  rintro e w8 ⟨rfl, h8⟩
  obtain rfl := h8.symm
  clear h8
  go_wp2_with fail
  refine wp_noP ?_
  refine wp_region_held_drew (S := (fun w' : World => StA w' b D m1 m2 t rf lg jr sn l ck ∧ w'.heap[w.heap.size]? = some (.cells (adV A) 43))) (by kernel_rfl) ⟨⟨H0.out.1.st, H0.out.1.mp⟩, H0.out.2.1⟩ (fun hHeld => ?_)
  have G0 : Hid (Below w.heap.size w W0.drew ∧ W0.drew.heap[w.heap.size + 1]? = some (.cells zAc 86)) := ⟨⟨H0.out.2.2.2.os, H0.out.2.2.2.tape, H0.out.2.2.2.output, H0.out.2.2.2.size, H0.out.2.2.2.block⟩, H0.out.2.2.1⟩
  clear H0
  generalize W0.drew = U0 at G0 hHeld ⊢
  have HU : Hid (StA U0 b D m1 m2 t rf lg jr sn l ck ∧ U0.heap[w.heap.size]? = some (.cells (adV A) 43)) := hHeld
  refine wpAnyH_take (i := 0) (v := .pointer (some ⟨b, 0, none⟩)) rfl (by kernel_rfl) (by kernel_rfl) (by kernel_rfl) (fun _ _ _ h => h) (Or.inl ⟨by rfl, fun w9 hSw => ?_⟩) hHeld ?_
  · go_simp
  simp only [List.getElem_toArray, List.getElem_cons_succ, List.getElem_cons_zero, Act.put, List.setIfInBounds_toArray, List.set_cons_zero, List.set_cons_succ]
  refine wpAnyH_take (i := 1) (v := .pointer (some ⟨b, 0, none⟩)) rfl (by kernel_rfl) (by kernel_rfl) (by kernel_rfl) (fun _ _ _ h => h) (Or.inl ⟨by rfl, fun w9 hSw => ?_⟩) hHeld ?_
  · go_simp
  simp only [List.getElem_toArray, List.getElem_cons_succ, List.getElem_cons_zero, Act.put, List.setIfInBounds_toArray, List.set_cons_zero, List.set_cons_succ]
  refine wpAnyH_take (i := 2) (v := .pointer (some ⟨b, 34, none⟩)) rfl (by kernel_rfl) (by kernel_rfl) (by kernel_rfl) (fun _ _ _ h => h) (Or.inl ⟨by rfl, fun w9 hSw => ?_⟩) hHeld ?_
  · go_simp
  simp only [List.getElem_toArray, List.getElem_cons_succ, List.getElem_cons_zero, Act.put, List.setIfInBounds_toArray, List.set_cons_zero, List.set_cons_succ]
  refine wpAnyH_take (i := 3) (v := .map (some m1)) rfl (by kernel_rfl) (by kernel_rfl) (by kernel_rfl) (fun _ _ _ h => h) (Or.inl ⟨by rfl, fun w9 hSw => ?_⟩) hHeld ?_
  · have k0 : w9.cell? ⟨b, 34, none⟩ = some (.map (some m1)) := st_cell hSw.1.st 34 (by decide)
    go_simp
  simp only [List.getElem_toArray, List.getElem_cons_succ, List.getElem_cons_zero, Act.put, List.setIfInBounds_toArray, List.set_cons_zero, List.set_cons_succ]
  refine wpAnyH_take (i := 4) (v := .agg (adV A)) rfl (by kernel_rfl) (by kernel_rfl) (by kernel_rfl) (fun _ _ _ h => h) (Or.inl ⟨by rfl, fun w9 hSw => ?_⟩) hHeld ?_
  · exact Kc.run_load_exec 43 _ rfl _ rfl (load43 hSw.2)
  simp only [List.getElem_toArray, List.getElem_cons_succ, List.getElem_cons_zero, Act.put, List.setIfInBounds_toArray, List.set_cons_zero, List.set_cons_succ]
  refine wpAnyH_take (i := 5) (v := .tuple #[.agg zAc, .bool false]) rfl (by kernel_rfl) (by kernel_rfl) (by kernel_rfl) (fun _ _ _ h => h) (Or.inl ⟨by rfl, fun w9 hSw => ?_⟩) hHeld ?_
  · have hk := look92 hSw.1.mp A
    rw [HLA.out] at hk
    go_simp
  simp only [List.getElem_toArray, List.getElem_cons_succ, List.getElem_cons_zero, Act.put, List.setIfInBounds_toArray, List.set_cons_zero, List.set_cons_succ]
  refine wpAnyH_take (i := 6) (v := .tuple #[.agg zAc, .bool false]) rfl (by kernel_rfl) (by kernel_rfl) (by kernel_rfl) (fun _ _ _ h => h) (Or.inl ⟨by rfl, fun w9 hSw => ?_⟩) hHeld ?_
  · go_simp
  simp only [List.getElem_toArray, List.getElem_cons_succ, List.getElem_cons_zero, Act.put, List.setIfInBounds_toArray, List.set_cons_zero, List.set_cons_succ]
  refine wpAnyH_take (i := 7) (v := .agg zAc) rfl (by kernel_rfl) (by kernel_rfl) (by kernel_rfl) (fun _ _ _ h => h) (Or.inl ⟨by rfl, fun w9 hSw => ?_⟩) hHeld ?_
  · go_simp
  simp only [List.getElem_toArray, List.getElem_cons_succ, List.getElem_cons_zero, Act.put, List.setIfInBounds_toArray, List.set_cons_zero, List.set_cons_succ]
  refine wpAnyH_take (i := 8) (v := .bool false) rfl (by kernel_rfl) (by kernel_rfl) (by kernel_rfl) (fun _ _ _ h => h) (Or.inl ⟨by rfl, fun w9 hSw => ?_⟩) hHeld ?_
  · go_simp
  simp only [List.getElem_toArray, List.getElem_cons_succ, List.getElem_cons_zero, Act.put, List.setIfInBounds_toArray, List.set_cons_zero, List.set_cons_succ]
  refine wpAnyH_ready (rs := [9]) (by kernel_rfl) (by simp) ?_
  refine AllReadyH.cons rfl (fun K hK => ?_) AllReadyH.nil
  go_simp
  rw [z86]
  have hx1 : (fun w' : World => StA w' b D m1 m2 t rf lg jr sn l ck ∧ w'.heap[w.heap.size]? = some (.cells (adV A) 43)) (U0.alloc (.cells zAc 86)) := ⟨hHeld.1.below (by go_grown), (heap_alloc_old U0 _ (heap_lt hHeld.2)).trans hHeld.2⟩
  refine hK.out _ _ hx1 (fun hHeld => ?_)
  clear hK K
  try simp only [List.getElem_toArray, List.getElem_cons_succ, List.getElem_cons_zero, Act.put, List.setIfInBounds_toArray, List.set_cons_zero, List.set_cons_succ]
  refine wpAnyH_ready (rs := [10]) (by kernel_rfl) (by simp) ?_
  refine AllReadyH.cons rfl (fun K hK => ?_) AllReadyH.nil
  refine step_store_r (by rfl) 86 _ _ (by rfl) U0.heap.size zAc (by rfl) (by rfl) 86 _ (heap_alloc_new _ _) (info86v _) (by simp) one_zac ?_
  rw [World.setRow_alloc_new]
  have hx2 : (fun w' : World => StA w' b D m1 m2 t rf lg jr sn l ck ∧ w'.heap[w.heap.size]? = some (.cells (adV A) 43)) (U0.alloc (.cells zAc 86)) := ⟨HU.out.1.below (by go_grown), (heap_alloc_old U0 _ (heap_lt HU.out.2)).trans HU.out.2⟩
  refine hK.out _ _ hx2 (fun hHeld => ?_)
  clear hK K
  try simp only [List.getElem_toArray, List.getElem_cons_succ, List.getElem_cons_zero, Act.put, List.setIfInBounds_toArray, List.set_cons_zero, List.set_cons_succ]
  refine wpAnyH_take (i := 11) (v := .bool false) rfl (by kernel_rfl) (by kernel_rfl) (by kernel_rfl) (fun _ _ _ h => h) (Or.inl ⟨by rfl, fun w9 hSw => ?_⟩) hHeld ?_
  · go_simp
  simp only [List.getElem_toArray, List.getElem_cons_succ, List.getElem_cons_zero, Act.put, List.setIfInBounds_toArray, List.set_cons_zero, List.set_cons_succ]
  refine wpAnyH_done (by kernel_rfl) ?_ _
  simp only [noP]
  have HE : Hid (Below w.heap.size w (U0.alloc (.cells zAc 86)) ∧ (U0.alloc (.cells zAc 86)).heap[U0.heap.size]? = some (.cells zAc 86) ∧ (U0.alloc (.cells zAc 86)).heap[w.heap.size + 1]? = some (.cells zAc 86) ∧ StA (U0.alloc (.cells zAc 86)) b D m1 m2 t rf lg jr sn l ck ∧ (U0.alloc (.cells zAc 86)).heap[w.heap.size]? = some (.cells (adV A) 43)) := ⟨G0.out.1.trans ((by go_grown : Below U0.heap.size U0 (U0.alloc (.cells zAc 86))).mono G0.out.1.size), heap_alloc_new _ _, (heap_alloc_old U0 _ (heap_lt G0.out.2)).trans G0.out.2, hx2.1, hx2.2⟩
  clear hx1 hx2 HU G0
  generalize (U0.alloc (.cells zAc 86)) = U1 at HE ⊢
  go_wp2_with fail
  refine wp_noP ?_
  refine wp_region_held_drew (S := (fun w' : World => StA w' b D m1 m2 t rf lg jr sn l ck ∧ w'.heap[w.heap.size]? = some (.cells (adV A) 43))) (by kernel_rfl) ⟨⟨HE.out.2.2.2.1.st, HE.out.2.2.2.1.mp⟩, HE.out.2.2.2.2⟩ (fun hHeld => ?_)
  have G0 : Hid (Below w.heap.size w U1.drew ∧ U1.drew.heap[w.heap.size + 1]? = some (.cells zAc 86)) := ⟨⟨HE.out.1.os, HE.out.1.tape, HE.out.1.output, HE.out.1.size, HE.out.1.block⟩, HE.out.2.2.1⟩
  clear HE
  generalize U1.drew = V0 at G0 hHeld ⊢
  refine wpAnyH_take (i := 0) (v := .pointer (some ⟨b, 0, none⟩)) rfl (by kernel_rfl) (by kernel_rfl) (by kernel_rfl) (fun _ _ _ h => h) (Or.inl ⟨by rfl, fun w9 hSw => ?_⟩) hHeld ?_
  · go_simp
  simp only [List.getElem_toArray, List.getElem_cons_succ, List.getElem_cons_zero, Act.put, List.setIfInBounds_toArray, List.set_cons_zero, List.set_cons_succ]
  refine wpAnyH_take (i := 1) (v := .pointer (some ⟨b, 0, none⟩)) rfl (by kernel_rfl) (by kernel_rfl) (by kernel_rfl) (fun _ _ _ h => h) (Or.inl ⟨by rfl, fun w9 hSw => ?_⟩) hHeld ?_
  · go_simp
  simp only [List.getElem_toArray, List.getElem_cons_succ, List.getElem_cons_zero, Act.put, List.setIfInBounds_toArray, List.set_cons_zero, List.set_cons_succ]
  refine wpAnyH_take (i := 2) (v := .pointer (some ⟨b, 0, none⟩)) rfl (by kernel_rfl) (by kernel_rfl) (by kernel_rfl) (fun _ _ _ h => h) (Or.inl ⟨by rfl, fun w9 hSw => ?_⟩) hHeld ?_
  · go_simp
  simp only [List.getElem_toArray, List.getElem_cons_succ, List.getElem_cons_zero, Act.put, List.setIfInBounds_toArray, List.set_cons_zero, List.set_cons_succ]
  refine wpAnyH_take (i := 3) (v := .pointer (some ⟨b, 0, none⟩)) rfl (by kernel_rfl) (by kernel_rfl) (by kernel_rfl) (fun _ _ _ h => h) (Or.inl ⟨by rfl, fun w9 hSw => ?_⟩) hHeld ?_
  · go_simp
  simp only [List.getElem_toArray, List.getElem_cons_succ, List.getElem_cons_zero, Act.put, List.setIfInBounds_toArray, List.set_cons_zero, List.set_cons_succ]
  refine wpAnyH_take (i := 4) (v := .agg (Kc.vec 32 (Kc.byt D))) rfl (by kernel_rfl) (by kernel_rfl) (by kernel_rfl) (fun _ _ _ h => h) (Or.inl ⟨by rfl, fun w9 hSw => ?_⟩) hHeld ?_
  · exact Kc.run_load_exec 33 _ rfl _ rfl (load_root hSw.1.st)
  simp only [List.getElem_toArray, List.getElem_cons_succ, List.getElem_cons_zero, Act.put, List.setIfInBounds_toArray, List.set_cons_zero, List.set_cons_succ]
  refine wpAnyH_take (i := 5) (v := .slice (some ⟨w.heap.size, 0, none⟩) 20 20) rfl (by kernel_rfl) (by kernel_rfl) (by kernel_rfl) (fun _ _ _ h => h) (Or.inl ⟨by rfl, fun w9 hSw => ?_⟩) hHeld ?_
  · go_simp
  simp only [List.getElem_toArray, List.getElem_cons_succ, List.getElem_cons_zero, Act.put, List.setIfInBounds_toArray, List.set_cons_zero, List.set_cons_succ]
  refine wpAnyH_ready (rs := [6]) (by kernel_rfl) (by simp) ?_
  refine AllReadyH.cons rfl (fun K hK => ?_) AllReadyH.nil
  have hC := sfind_empty (w := V0) (b := b) (D := D) (m1 := m1) (m2 := m2) (t := t) (rf := rf) (lg := lg) (jr := jr) (sn := sn) (a := some ⟨w.heap.size, 0, none⟩) (c := 20) (bs := rwB 20 A) HP.out.2.2.1 (HP.out.1.below G0.out.1 HP.out.2.1) hHeld.1.st (by rw [rwB_length]; exact rwB_v hHeld.2) (rwB_byt _ _) (by rw [rwB_length]; decide) (by decide) (by rw [rwB_length]; decide)
  rw [rwB_length] at hC
  go_simp
  refine Calls.mono hC ?_
  clear hC
  rintro e V1 ⟨rfl, hb1⟩
  have G1 : Hid (Below w.heap.size w V1 ∧ V1.heap[w.heap.size + 1]? = some (.cells zAc 86)) := ⟨G0.out.1.trans (hb1.mono G0.out.1.size), (hb1.block _ (heap_lt G0.out.2)).trans G0.out.2⟩
  have hx1 : (fun w' : World => StA w' b D m1 m2 t rf lg jr sn l ck ∧ w'.heap[w.heap.size]? = some (.cells (adV A) 43)) V1 := ⟨hHeld.1.below hb1, (hb1.block _ (heap_lt hHeld.2)).trans hHeld.2⟩
  clear hb1 G0
  refine hK.out _ _ hx1 (fun hHeld => ?_)
  clear hK K
  try simp only [List.getElem_toArray, List.getElem_cons_succ, List.getElem_cons_zero, Act.put, List.setIfInBounds_toArray, List.set_cons_zero, List.set_cons_succ]
  refine wpAnyH_take (i := 7) (v := .slice none 0 0) rfl (by kernel_rfl) (by kernel_rfl) (by kernel_rfl) (fun _ _ _ h => h) (Or.inl ⟨by rfl, fun w9 hSw => ?_⟩) hHeld ?_
  · go_simp
  simp only [List.getElem_toArray, List.getElem_cons_succ, List.getElem_cons_zero, Act.put, List.setIfInBounds_toArray, List.set_cons_zero, List.set_cons_succ]
  refine wpAnyH_done (by kernel_rfl) ?_ _
  simp only [noP]
  clear hx1
  have he : ∀ w : World, (binOp .eql 22 (.slice none 0 0) (.slice none 0 0) : Sem Value).run Tryz.prog w = .ok (.bool true) w := fun w => by kernel_rfl
  have HN : Hid _ := newAcc_any (w := V1) D E HP.out.2.2 (HP.out.1.below G1.out.1 HP.out.2.1)
  go_wp2_with fail
  refine Calls.mono HN.out ?_
  rintro e V2 ⟨rfl, hb2⟩
  have G2 : Hid (Below w.heap.size w V2 ∧ V2.heap[w.heap.size + 1]? = some (.cells zAc 86)) := ⟨G1.out.1.trans (hb2.mono G1.out.1.size), (hb2.block _ (heap_lt G1.out.2)).trans G1.out.2⟩
  clear hb2
  go_wp2_with (first | (refine wpList_store_row rfl 86 _ _ rfl (w.heap.size + 1) (newAc D E) rfl rfl 86 _ G2.out.2 (info86v _) (by simp) (one_ac _ _ _ _ _ _ _ _ _ _) ?_))
  refine bodyPost_ret (results_cell_row rfl _ _ _ _ _ _ _ rfl (setRow_heap _ _ _ _ _ _ G2.out.2) Tryz.underlying86 rfl (info86v _)) rfl ⟨rfl, ?_⟩
  exact ((Kc.Only.refl _ _).setRow _).below G2.out.1 (by omega)
end Go.Proofs.YtboeokmaepchgaaGreatDoor
/- state: Balance and Exists of an account that has five. -/
namespace Go.Proofs.YtboeokmaepchgaaGreatDoor
open Go.RowKit Go.Maps Go.Joins Go.Shelf
set_option linter.unusedSimpArgs false
set_option linter.unusedVariables false
/-- An account that has five. -/
abbrev fvF (D E : Nat → BitVec 8) : Nat → Value := acF 0 5 0 0 0 D E (.slice none 0 0)
abbrev fvA (D E : Nat → BitVec 8) : Array Value := Kc.vec 70 (fvF D E)
abbrev w5V : Value := .agg #[.int .u64 5, .int .u64 0, .int .u64 0, .int .u64 0]
set_option maxRecDepth 100000 in
set_option maxHeartbeats 4000000 in
/-- word.Zero of five -/
theorem zero_five {w : World} : Calls Tryz.prog 98 #[w5V] w fun e w' => e = .returned (.bool false) ∧ Below w.heap.size w w' := by
  have he : ∀ W : World, (binOp .eql 46 w5V w0V : Sem Value).run Tryz.prog W = .ok (.bool false) W := fun W => by kernel_rfl
  have he2 : ∀ W : World, (Op.equalIn 10000 46 w5V w0V).run Tryz.prog W = .ok false W := fun W => by kernel_rfl
  have hB0 : Below w.heap.size w (w.alloc (.cells #[.int .u64 5, .int .u64 0, .int .u64 0, .int .u64 0] 46)) := by go_grown
  go_enter Tryz.func98, Tryz.ntmps98
  go_wp2
  go_ret
  exact ⟨rfl, hB0⟩
set_option maxRecDepth 100000 in
set_option maxHeartbeats 4000000 in
theorem balance_five {w : World} {b : Nat} {D : Nat → BitVec 8} {m1 m2 t : Nat} {rf : Int} {lg jr sn : Value} {l : List ((Nat → Int) × Value × Nat)} {ck : Nat} (A E : Nat → BitVec 8) (hs : StA w b D m1 m2 t rf lg jr sn l ck) {i : Nat} (hl : findA 20 (fun j => Kc.I8 (A j)) l 0 = some (i, .agg (fvA D E))) : Calls Tryz.prog 26 #[.pointer (some ⟨b, 0, none⟩), .agg (adV A)] w fun e w' => e = .returned w5V ∧ Below w.heap.size w w' := by
  have hB0 : Below w.heap.size w ((w.alloc (.cells (adV A) 43)).alloc (.cells #[.int .u64 0, .int .u64 0, .int .u64 0, .int .u64 0] 46)) := by go_grown
  have HC : Hid _ := account_there (w := (w.alloc (.cells (adV A) 43)).alloc (.cells #[.int .u64 0, .int .u64 0, .int .u64 0, .int .u64 0] 46)) A (hs.below hB0) hl (one_ac _ _ _ _ _ _ _ _ _ _)
  have HB : Hid (Below w.heap.size w ((w.alloc (.cells (adV A) 43)).alloc (.cells #[.int .u64 0, .int .u64 0, .int .u64 0, .int .u64 0] 46)) ∧ ((w.alloc (.cells (adV A) 43)).alloc (.cells #[.int .u64 0, .int .u64 0, .int .u64 0, .int .u64 0] 46)).heap[w.heap.size]? = some (.cells (adV A) 43) ∧ ((w.alloc (.cells (adV A) 43)).alloc (.cells #[.int .u64 0, .int .u64 0, .int .u64 0, .int .u64 0] 46)).heap[w.heap.size + 1]? = some (.cells #[.int .u64 0, .int .u64 0, .int .u64 0, .int .u64 0] 46)) := ⟨hB0, allocs_heap [.cells (adV A) 43, .cells #[.int .u64 0, .int .u64 0, .int .u64 0, .int .u64 0] 46] w 0 _ rfl, allocs_heap [.cells (adV A) 43, .cells #[.int .u64 0, .int .u64 0, .int .u64 0, .int .u64 0] 46] w 1 _ rfl⟩
  have hfd : ∀ W : World, (Instr.field 86 (.agg (fvA D E)) 1).run Tryz.prog W = .ok w5V W := fun W => by kernel_rfl
  clear hs hl hB0
  go_enter Tryz.func26, Tryz.ntmps26
  go_wp2_with (first | (refine wpList_load_row rfl 43 _ rfl w.heap.size rfl 43 _ (0, 0) _ HB.out.2.1 Tryz.underlying43 rfl (info43v _) ?_))
  generalize (w.alloc (.cells (adV A) 43)).alloc (.cells #[.int .u64 0, .int .u64 0, .int .u64 0, .int .u64 0] 46) = W0 at HB HC ⊢
  refine Calls.mono HC.out ?_
  rintro e W1 ⟨rfl, hb1⟩
  have hr : W1.heap[w.heap.size + 1]? = some (.cells #[.int .u64 0, .int .u64 0, .int .u64 0, .int .u64 0] 46) := (hb1.block _ (heap_lt HB.out.2.2)).trans HB.out.2.2
  have hb : Below w.heap.size w W1 := HB.out.1.trans (hb1.mono HB.out.1.size)
  have HR : Hid _ := And.intro hb hr
  clear hb hb1 HB HC
  go_wp2_with (first | (refine wpList_store_row rfl 46 _ _ rfl (w.heap.size + 1) #[.int .u64 5, .int .u64 0, .int .u64 0, .int .u64 0] rfl rfl 46 _ hr (by kernel_rfl) rfl (by simp [Value.oneCell']) ?_))
  refine bodyPost_ret (results_cell_row rfl _ _ _ _ _ _ _ rfl (setRow_heap _ _ _ _ _ _ hr) Tryz.underlying46 rfl (by kernel_rfl)) rfl ⟨rfl, ?_⟩
  exact ((Kc.Only.refl _ _).setRow _).below HR.out.1 (by omega)
set_option maxRecDepth 100000 in
set_option maxHeartbeats 4000000 in
theorem empty_five {w : World} (D E : Nat → BitVec 8) : Calls Tryz.prog 59 #[.agg (fvA D E)] w fun e w' => e = .returned (.bool false) ∧ Below w.heap.size w w' := by
  have H0 : Hid (Below w.heap.size w (w.alloc (.cells (fvA D E) 86)) ∧ (w.alloc (.cells (fvA D E) 86)).heap[w.heap.size]? = some (.cells (fvA D E) 86)) := ⟨by go_grown, heap_alloc_new _ _⟩
  go_enter Tryz.func59, Tryz.ntmps59
  go_wp2_with fail
  generalize w.alloc (.cells (fvA D E) 86) = W0 at H0 ⊢
  refine wp_noP ?_
  refine wp_region_held_drew (S := (fun w' : World => w'.heap[w.heap.size]? = some (.cells (fvA D E) 86))) (by kernel_rfl) H0.out.2 (fun hHeld => ?_)
  have G0 : Hid (Below w.heap.size w W0.drew) := ⟨H0.out.1.os, H0.out.1.tape, H0.out.1.output, H0.out.1.size, H0.out.1.block⟩
  clear H0
  generalize W0.drew = U0 at G0 hHeld ⊢
  refine wpAnyH_take (i := 0) (v := .pointer (some ⟨w.heap.size, 0, none⟩)) rfl (by kernel_rfl) (by kernel_rfl) (by kernel_rfl) (fun _ _ _ h => h) (Or.inl ⟨by rfl, fun w9 hSw => ?_⟩) hHeld ?_
  · go_simp
  simp only [List.getElem_toArray, List.getElem_cons_succ, List.getElem_cons_zero, Act.put, List.setIfInBounds_toArray, List.set_cons_zero, List.set_cons_succ]
  refine wpAnyH_take (i := 1) (v := .int .u64 0) rfl (by kernel_rfl) (by kernel_rfl) (by kernel_rfl) (fun _ _ _ h => h) (Or.inl ⟨by rfl, fun w9 hSw => ?_⟩) hHeld ?_
  · have k0 : w9.cell? ⟨w.heap.size, 0, none⟩ = some (.int .u64 0) := ac_cell hSw 0 (by decide)
    go_simp
  simp only [List.getElem_toArray, List.getElem_cons_succ, List.getElem_cons_zero, Act.put, List.setIfInBounds_toArray, List.set_cons_zero, List.set_cons_succ]
  refine wpAnyH_take (i := 2) (v := .bool true) rfl (by kernel_rfl) (by kernel_rfl) (by kernel_rfl) (fun _ _ _ h => h) (Or.inl ⟨by rfl, fun w9 hSw => ?_⟩) hHeld ?_
  · go_simp
  simp only [List.getElem_toArray, List.getElem_cons_succ, List.getElem_cons_zero, Act.put, List.setIfInBounds_toArray, List.set_cons_zero, List.set_cons_succ]
  refine wpAnyH_take (i := 3) (v := .bool true) rfl (by kernel_rfl) (by kernel_rfl) (by kernel_rfl) (fun _ _ _ h => h) (Or.inl ⟨by rfl, fun w9 hSw => ?_⟩) hHeld ?_
  · go_simp
  simp only [List.getElem_toArray, List.getElem_cons_succ, List.getElem_cons_zero, Act.put, List.setIfInBounds_toArray, List.set_cons_zero, List.set_cons_succ]
  refine wpAnyH_take (i := 4) (v := .pointer (some ⟨w.heap.size, 1, none⟩)) rfl (by kernel_rfl) (by kernel_rfl) (by kernel_rfl) (fun _ _ _ h => h) (Or.inl ⟨by rfl, fun w9 hSw => ?_⟩) hHeld ?_
  · go_simp
  simp only [List.getElem_toArray, List.getElem_cons_succ, List.getElem_cons_zero, Act.put, List.setIfInBounds_toArray, List.set_cons_zero, List.set_cons_succ]
  refine wpAnyH_take (i := 5) (v := w5V) rfl (by kernel_rfl) (by kernel_rfl) (by kernel_rfl) (fun _ _ _ h => h) (Or.inl ⟨by rfl, fun w9 hSw => ?_⟩) hHeld ?_
  · have k1 : w9.cell? ⟨w.heap.size, 1, none⟩ = some (.int .u64 5) := ac_cell hSw 1 (by decide)
    have k2 : w9.cell? ⟨w.heap.size, 2, none⟩ = some (.int .u64 0) := ac_cell hSw 2 (by decide)
    have k3 : w9.cell? ⟨w.heap.size, 3, none⟩ = some (.int .u64 0) := ac_cell hSw 3 (by decide)
    have k4 : w9.cell? ⟨w.heap.size, 4, none⟩ = some (.int .u64 0) := ac_cell hSw 4 (by decide)
    go_simp
  simp only [List.getElem_toArray, List.getElem_cons_succ, List.getElem_cons_zero, Act.put, List.setIfInBounds_toArray, List.set_cons_zero, List.set_cons_succ]
  refine wpAnyH_ready (rs := [6]) (by kernel_rfl) (by simp) ?_
  refine AllReadyH.cons rfl (fun K hK => ?_) AllReadyH.nil
  have hC := zero_five (w := U0)
  go_simp
  refine Calls.mono hC ?_
  clear hC
  rintro e U1 ⟨rfl, hb1⟩
  have G1 : Hid (Below w.heap.size w U1) := G0.out.trans (hb1.mono G0.out.size)
  have hx1 : (fun w' : World => w'.heap[w.heap.size]? = some (.cells (fvA D E) 86)) U1 := (hb1.block _ (heap_lt hHeld)).trans hHeld
  clear hb1 G0
  refine hK.out _ _ hx1 (fun hHeld => ?_)
  clear hK K
  try simp only [List.getElem_toArray, List.getElem_cons_succ, List.getElem_cons_zero, Act.put, List.setIfInBounds_toArray, List.set_cons_zero, List.set_cons_succ]
  refine wpAnyH_take (i := 7) (v := .bool false) rfl (by kernel_rfl) (by kernel_rfl) (by kernel_rfl) (fun _ _ _ h => h) (Or.inl ⟨by rfl, fun w9 hSw => ?_⟩) hHeld ?_
  · go_simp
  simp only [List.getElem_toArray, List.getElem_cons_succ, List.getElem_cons_zero, Act.put, List.setIfInBounds_toArray, List.set_cons_zero, List.set_cons_succ]
  refine wpAnyH_take (i := 8) (v := .bool false) rfl (by kernel_rfl) (by kernel_rfl) (by kernel_rfl) (fun _ _ _ h => h) (Or.inl ⟨by rfl, fun w9 hSw => ?_⟩) hHeld ?_
  · go_simp
  simp only [List.getElem_toArray, List.getElem_cons_succ, List.getElem_cons_zero, Act.put, List.setIfInBounds_toArray, List.set_cons_zero, List.set_cons_succ]
  refine wpAnyH_take (i := 9) (v := undef) rfl (by kernel_rfl) (by kernel_rfl) (by kernel_rfl) (fun _ _ _ h => h) (Or.inr ⟨by rfl, rfl⟩) hHeld ?_
  simp only [List.getElem_toArray, List.getElem_cons_succ, List.getElem_cons_zero, Act.put, List.setIfInBounds_toArray, List.set_cons_zero, List.set_cons_succ]
  refine wpAnyH_take (i := 10) (v := undef) rfl (by kernel_rfl) (by kernel_rfl) (by kernel_rfl) (fun _ _ _ h => h) (Or.inr ⟨by rfl, rfl⟩) hHeld ?_
  simp only [List.getElem_toArray, List.getElem_cons_succ, List.getElem_cons_zero, Act.put, List.setIfInBounds_toArray, List.set_cons_zero, List.set_cons_succ]
  refine wpAnyH_ready (rs := [11]) (by kernel_rfl) (by simp) ?_
  refine AllReadyH.cons rfl (fun K hK => ?_) AllReadyH.nil
  go_simp
  refine hK.out _ _ hx1 (fun hHeld => ?_)
  clear hK K
  refine wpAnyH_take (i := 12) (v := undef) rfl (by kernel_rfl) (by kernel_rfl) (by kernel_rfl) (fun _ _ _ h => h) (Or.inr ⟨by rfl, rfl⟩) hHeld ?_
  simp only [List.getElem_toArray, List.getElem_cons_succ, List.getElem_cons_zero, Act.put, List.setIfInBounds_toArray, List.set_cons_zero, List.set_cons_succ]
  refine wpAnyH_take (i := 13) (v := .bool false) rfl (by kernel_rfl) (by kernel_rfl) (by kernel_rfl) (fun _ _ _ h => h) (Or.inl ⟨by rfl, fun w9 hSw => ?_⟩) hHeld ?_
  · go_simp
  simp only [List.getElem_toArray, List.getElem_cons_succ, List.getElem_cons_zero, Act.put, List.setIfInBounds_toArray, List.set_cons_zero, List.set_cons_succ]
  refine wpAnyH_take (i := 14) (v := .bool false) rfl (by kernel_rfl) (by kernel_rfl) (by kernel_rfl) (fun _ _ _ h => h) (Or.inl ⟨by rfl, fun w9 hSw => ?_⟩) hHeld ?_
  · go_simp
  simp only [List.getElem_toArray, List.getElem_cons_succ, List.getElem_cons_zero, Act.put, List.setIfInBounds_toArray, List.set_cons_zero, List.set_cons_succ]
  refine wpAnyH_done (by kernel_rfl) ?_ _
  simp only [noP]
  clear hHeld hx1
  go_wp2
  go_ret
  exact ⟨rfl, G1.out⟩
set_option maxRecDepth 100000 in
set_option maxHeartbeats 4000000 in
theorem exists_five {w : World} {b : Nat} {D : Nat → BitVec 8} {m1 m2 t : Nat} {rf : Int} {lg jr sn : Value} {l : List ((Nat → Int) × Value × Nat)} {ck : Nat} (A E : Nat → BitVec 8) (hs : StA w b D m1 m2 t rf lg jr sn l ck) {i : Nat} (hl : findA 20 (fun j => Kc.I8 (A j)) l 0 = some (i, .agg (fvA D E))) : Calls Tryz.prog 25 #[.pointer (some ⟨b, 0, none⟩), .agg (adV A)] w fun e w' => e = .returned (.bool true) ∧ Below w.heap.size w w' := by
  have hB0 : Below w.heap.size w (w.alloc (.cells (adV A) 43)) := by go_grown
  have HC : Hid _ := account_there (w := w.alloc (.cells (adV A) 43)) A (hs.below hB0) hl (one_ac _ _ _ _ _ _ _ _ _ _)
  have HB : Hid (Below w.heap.size w (w.alloc (.cells (adV A) 43)) ∧ (w.alloc (.cells (adV A) 43)).heap[w.heap.size]? = some (.cells (adV A) 43)) := ⟨hB0, heap_alloc_new _ _⟩
  clear hs hl hB0
  go_enter Tryz.func25, Tryz.ntmps25
  go_wp2_with (first | (refine wpList_load_row rfl 43 _ rfl w.heap.size rfl 43 _ (0, 0) _ HB.out.2 Tryz.underlying43 rfl (info43v _) ?_) | (go_at_call 67; refine Calls.mono HC.out ?_; rintro e w1 ⟨rfl, hb1⟩; have HB1 : Hid (Below w.heap.size w w1) := HB.out.1.trans (hb1.mono HB.out.1.size); have HC1 : Hid _ := empty_five (w := w1) D E; clear hb1) | (go_at_call 59; refine Calls.mono HC1.out ?_; rintro e w2 ⟨rfl, hb2⟩))
  go_ret
  exact ⟨rfl, HB1.out.trans (hb2.mono HB1.out.size)⟩
end Go.Proofs.YtboeokmaepchgaaGreatDoor
