/- (*Hasher).Write. -/
import Derived.Test.YtboeokmaepchgaaGreatDoorM15
namespace Go.Proofs.YtboeokmaepchgaaGreatDoor.Kc
open Go.RowKit Go.Shelf
set_option linter.unusedSimpArgs false
set_option linter.unusedVariables false
attribute [local go_sem] Oper.semAt_some

theorem run_storeVar_vec {P : Program} (w : World) (g off N M : Nat) (t ty : TypeId) (f src : Nat → Value) (hg : w.rowIs g t M f) (hfit : off + N ≤ M) (hi : (P.info? ty).map (·.size) = some N) (h1 : ∀ j, j < N → (src j).oneCell' = true) :
    (storeVar ty ⟨g, off, none⟩ (.agg (vec N src))).run P w = .ok () (w.setRow g (vec M (fun j => if off ≤ j ∧ j < off + N then src (j - off) else f j))) := by
  have hst := run_storeCells_at P g off t ((List.range N).map src) 0 (vec M f) w (row_heap hg) (by simpa using hfit) (fun v hv => by
    obtain ⟨j, hj, rfl⟩ := List.mem_map.1 hv
    exact h1 j (by simpa using hj))
  simp only [Nat.add_zero, List.length_map, List.length_range, splice_vec M off N f src hfit] at hst
  cases hq : P.info? ty with
  | none => simp [hq] at hi
  | some i =>
    have hs : i.size = N := by simpa [hq] using hi
    have hv : (vec N src).toList = (List.range N).map src := rfl
    simp [storeVar, sizeOf, typeInfo, hq, Value.cells, hs, hv, hst]
theorem run_load_exec {P : Program} {a : Act} {o : Oper} {w : World} {v : Value} (ty : TypeId) (x : Operand) (ho : o.op = .load ty x) (g : Addr) (hx : a.eval x = .pointer (some g)) (h : (loadVar ty g).run P w = .ok v w) : (execOp a.eval o).run P w = .ok (.value v) w := by
  unfold execOp
  simp only [ho, hx, Instr.loadAt, Instr.sureAddr, Sem.run_bind, Sem.run_pure, Result.andThen_ok, h]
theorem step_load_mid {P : Program} {ops : Array Oper} {o : Oper} {a : Act} {w : World} {K : Act → World → Prop} {Q : Exit → Act → World → Prop} {E : Prop} (hw : Region.wanted o (yielded ops a.tmps) = true) (ty : TypeId) (x : Operand) (ho : o.op = .load ty x)
    (g off N : Nat) (hx : a.eval x = .pointer (some ⟨g, off, none⟩)) (f : Nat → Value) (hc : ∀ j, j < N → w.cell? ⟨g, off + j, none⟩ = some (f j)) (e : TypeId) (hu : P.underlying ty = some (.array N e)) (hi : (P.info? ty).map (·.size) = some N)
    (h : K (a.put o.dst (.agg (vec N f))) w) : if Region.wanted o (yielded ops a.tmps) = true then Oper.wp P o a w K Q else E := by
  rw [if_pos hw]
  unfold Oper.wp
  rw [run_load_exec ty x ho _ hx (run_loadVar_mid w g off N ty e f hc hu hi)]
  exact h
theorem step_store_vec {P : Program} {ops : Array Oper} {o : Oper} {a : Act} {w : World} {K : Act → World → Prop} {Q : Exit → Act → World → Prop} {E : Prop} (hw : Region.wanted o (yielded ops a.tmps) = true) (ty : TypeId) (x y : Operand) (ho : o.op = .store ty x y)
    (g off N M : Nat) (src f : Nat → Value) (t : TypeId) (hx : a.eval x = .pointer (some ⟨g, off, none⟩)) (hy : a.eval y = .agg (vec N src)) (hg : w.rowIs g t M f) (hfit : off + N ≤ M) (hi : (P.info? ty).map (·.size) = some N) (h1 : ∀ j, j < N → (src j).oneCell' = true)
    (h : K (a.put o.dst undef) (w.setRow g (vec M (fun j => if off ≤ j ∧ j < off + N then src (j - off) else f j)))) : if Region.wanted o (yielded ops a.tmps) = true then Oper.wp P o a w K Q else E := by
  rw [if_pos hw]
  unfold Oper.wp execOp
  simp only [ho, hx, hy, Instr.storeAt, Instr.sureAddr, Sem.run_bind, Sem.run_pure, Result.andThen_ok, run_storeVar_vec w g off N M t ty f src hg hfit hi h1]
  exact h
def noDefer (ops : Array Oper) : Bool := ops.all fun o => match o.op with | .defer _ => false | _ => true
theorem noDefer_spec {ops : Array Oper} (h : noDefer ops = true) (i : Nat) (o : Oper) (ho : ops[i]? = some o) (c : Call) : o.op ≠ .defer c := by
  intro e
  have hm := Array.mem_of_getElem? ho
  have := (Array.all_eq_true_iff_forall_mem.1 h) o hm
  rw [e] at this
  cases this
theorem zero54 : (Tryz.prog.info? 202).map (fun i => (i.zero, i.size)) = some (some (.agg (vec 136 (byt fun _ => 0))), 136) := by kernel_rfl
set_option maxHeartbeats 400000 in
/-- (*Hasher).blocks -/
theorem blocks_any (hp : Option Addr) (ao : Option Addr) (len cap : Nat) (w : World) :
    Calls Tryz.prog 128 #[.pointer hp, .slice ao len cap] w fun e w' => e = .returned (.func (.func 156) #[] #[.pointer (some ⟨w.heap.size + 1, 0, none⟩), .pointer (some ⟨w.heap.size, 0, none⟩)]) ∧ w' = (w.alloc (.cells #[.pointer hp] 160)).alloc (.cells #[.slice ao len cap] 22) := by
  go_enter Tryz.func128, Tryz.ntmps128
  go_wp2
  go_ret
  exact ⟨rfl, rfl⟩
/-- The row behind a store of the state. -/
theorem state_row {S R : Nat → BitVec 64} {p : Nat → BitVec 8} {h hb : Nat} {w : World} (hr : w.rowIs hb 204 162 (has S p h)) : (w.setRow hb (vec 162 (fun j => if 0 ≤ j ∧ j < 0 + 25 then lan R (j - 0) else has S p h j))).rowIs hb 204 162 (has R p h) := by
  refine (heap_row (setRow_heap _ _ _ _ _ _ (row_heap hr))).congr ?_
  intro i hi
  unfold has
  by_cases h2 : i < 25
  · rw [if_pos ⟨by omega, by omega⟩, if_pos h2]; rfl
  · rw [if_neg (by omega), if_neg h2, if_neg h2]
set_option maxRecDepth 100000 in
set_option maxHeartbeats 2000000 in
theorem write_any (hb n len cap bb off : Nat) (ao : Option Addr) (msg : Nat → BitVec 8) (w : World) (hp : PathIn w) (hb0 : hb ≠ 1) (hin : HasIn w hb msg n) (hao : 0 < len → ao = some ⟨bb, off, none⟩)
    (hcells : ∀ j, j < len → w.cell? ⟨bb, off + j, none⟩ = some (.int .u8 (I8 (msg (n + j))))) (hneb : 0 < len → bb ≠ hb) (hlen : len ≤ cap) (hcap : cap ≤ 9223372036854775807) (hl47 : len ≤ 140737488351232) :
    Calls Tryz.prog 94 #[.pointer (some ⟨hb, 0, none⟩), .slice ao len cap] w fun e w' => e = .returned (.tuple #[]) ∧ w.grownBy w' (some hb) ∧ HasIn w' hb msg (n + len) := by
  refine (callsIn_wide (n := 4)).1 ?_
  refine callsIn_of_wp_marks Tryz.func94 rfl trivial ?_ rfl
  simp only [Tryz.ntmps94, List.size_toArray, List.length_cons, List.length_nil, Nat.reduceAdd, Nat.reduceSub, Array.replicate_succ, Array.replicate_zero, List.push_toArray, List.append_toArray, List.nil_append, List.cons_append]
  have H0 : Hid (PathIn w ∧ HasIn w hb msg n ∧ (0 < len → ao = some ⟨bb, off, none⟩) ∧ (∀ j, j < len → w.cell? ⟨bb, off + j, none⟩ = some (.int .u8 (I8 (msg (n + j)))))) := ⟨hp, hin, hao, hcells⟩
  have hlt : hb < w.heap.size := by obtain ⟨p, hr, _⟩ := hin; exact hr.lt
  clear hp hin hao hcells
  gi_wp2_with (first | (refine ⟨trivial, ?_⟩; gi_at_call 128; refine (callsIn_wide.2 (blocks_any _ _ _ _ _)).mono ?_; rintro e w1 ⟨rfl, rfl⟩))
  obtain ⟨W0, hW0⟩ : ∃ W0, ((w.alloc (.cells #[.pointer (some ⟨hb, 0, none⟩)] 160)).alloc (.cells #[.pointer (some ⟨hb, 0, none⟩)] 160)).alloc (.cells #[.slice ao len cap] 22) = W0 := ⟨_, rfl⟩
  have hsz : W0.heap.size = w.heap.size + 3 := by rw [← hW0]; simp
  have hbl : Below w.heap.size w W0 := by rw [← hW0]; go_grown
  have hx0 : W0.cell? ⟨w.heap.size, 0, none⟩ = some (.pointer (some ⟨hb, 0, none⟩)) := by rw [← hW0]; simp [go_sem]
  have hx1 : W0.cell? ⟨w.heap.size + 1, 0, none⟩ = some (.pointer (some ⟨hb, 0, none⟩)) := by rw [← hW0]; simp [go_sem]
  have hx2 : W0.cell? ⟨w.heap.size + 1 + 1, 0, none⟩ = some (.slice ao len cap) := by rw [← hW0]; simp [go_sem]
  rw [hW0]
  clear hW0
  refine range_with (gf := 156) (lb := #[.pointer (some ⟨w.heap.size + 1 + 1, 0, none⟩), .pointer (some ⟨w.heap.size + 1, 0, none⟩)]) rfl (enters_of Tryz.func156 (by kernel_rfl) rfl) ?_
  intro r W1 hst hpe htm hpar has' hbod hW1
  have hsz1 : W1.heap.size = w.heap.size + 5 := by rw [hW1]; simp; omega
  have hl1 : W1.heap[W0.heap.size + 1]? = some (.loop r) := by rw [hW1]; exact heap_alloc2_new _ _ _
  have hd1 : W1.heap[W0.heap.size]? = some (.deferred (some [])) := by rw [hW1]; exact heap_alloc2_old _ _ _
  have hbl1 : Below W0.heap.size W0 W1 := by rw [hW1]; exact ((Below.refl _ _).alloc (Nat.le_refl _) _).alloc (by simp) _
  have hblw : Below w.heap.size w W1 := hbl.trans (hbl1.mono (by omega))
  clear hW1
  have hc : ∀ b o v, b < W0.heap.size → W0.cell? ⟨b, o, none⟩ = some v → W1.cell? ⟨b, o, none⟩ = some v := fun b o v h e => (hbl1.cell (p := ⟨b, o, none⟩) h).trans e
  have hHas : HasIn W1 hb msg n := by
    obtain ⟨p, hr, hpp⟩ := H0.out.2.1
    exact ⟨p, hr.of_block (hblw.block _ hlt), hpp⟩
  refine (blocks1_in 2 (W0.heap.size + 1) hb (w.heap.size + 1) (w.heap.size + 1 + 1) bb off len cap n ao msg W1 ?hY (hc _ _ _ (by omega) hx1) (hc _ _ _ (by omega) hx2) H0.out.2.2.1 (fun j hj => (hblw.cell (p := ⟨bb, off + j, none⟩) (by have := block_lt_of_cell (H0.out.2.2.2 j hj); simpa using this)).trans (H0.out.2.2.2 j hj)) (by omega) hneb hHas (by omega) hlen hcap).mono ?_
  case hY =>
    intro S p W hg hrow
    have hlW : W.heap[W0.heap.size + 1]? = some (.loop r) := (hg.block _ (by omega) (by simp; omega)).trans hl1
    have hxW : W.cell? ⟨w.heap.size, 0, none⟩ = some (.pointer (some ⟨hb, 0, none⟩)) := hg.cell (hc _ _ _ (by omega) hx0) (by simp; omega)
    have hpW : PathIn W := fun t ht => hg.cell ((H0.out.1.below hblw (by have := pathIn_pos H0.out.1; omega)) t ht) (by simp; omega)
    refine round_with hlW hst hpe (by rw [hpar]; rfl) ?_
    intro rb hrb
    rw [hpar, has', hbod, htm]
    clear hpar has' hbod htm hst hpe hrb
    simp only [List.zip_toArray, List.zip_cons_cons, List.zip_nil_right, List.foldl_toArray, List.foldl_cons, List.foldl_nil, List.setIfInBounds_toArray, List.set_cons_zero, List.set_cons_succ]
    have hz := (zero_of_info zero54).1
    gi_wp2_with (refine wpListIn_store_row rfl 202 _ _ rfl W.heap.size (vec 136 (byt p)) rfl rfl 202 _ (heap_alloc_new _ _) (info54v _) rfl (one_byt _ _) ?_; rw [World.setRow_alloc_new])
    have hlt2 : W0.heap.size + 1 < W.heap.size := (Array.getElem?_eq_some_iff.1 hlW).1
    refine ⟨(heap_alloc_old _ _ _ hlt2).trans hlW, ?_⟩
    have hput : ∀ k, k ≠ W0.heap.size + 1 → k < W.heap.size → ((W.alloc (.cells (vec 136 (byt p)) 202)).putObj (W0.heap.size + 1) (.loop rb)).heap[k]? = W.heap[k]? := fun k hk hk2 => (World.putObj_heap_other (by omega)).trans (heap_alloc_old _ _ _ hk2)
    have hVl : ((W.alloc (.cells (vec 136 (byt p)) 202)).putObj (W0.heap.size + 1) (.loop rb)).heap[W0.heap.size + 1]? = some (.loop rb) := World.putObj_heap_same (by simp; omega)
    have hVb : ((W.alloc (.cells (vec 136 (byt p)) 202)).putObj (W0.heap.size + 1) (.loop rb)).rowIs W.heap.size 202 136 (byt p) := heap_row ((World.putObj_heap_other (by omega)).trans (heap_alloc_new _ _))
    have hVs : ((W.alloc (.cells (vec 136 (byt p)) 202)).putObj (W0.heap.size + 1) (.loop rb)).heap.size = W.heap.size + 1 := by simp [World.putObj]
    obtain ⟨V, hV⟩ : ∃ V, (W.alloc (.cells (vec 136 (byt p)) 202)).putObj (W0.heap.size + 1) (.loop rb) = V := ⟨_, rfl⟩
    have hVo : V.os = W.os ∧ V.tape = W.tape ∧ V.output = W.output := by rw [← hV]; exact ⟨rfl, rfl, rfl⟩
    rw [hV] at hput hVl hVb hVs ⊢
    have hVr : V.rowIs hb 204 162 (has S p 0) := hrow.of_block (hput _ (by omega) (by omega))
    have hVx : V.cell? ⟨w.heap.size, 0, none⟩ = some (.pointer (some ⟨hb, 0, none⟩)) := (World.cell?_of_block (w := W) (hput _ (by show w.heap.size ≠ _; omega) (by show w.heap.size < _; omega))).trans hxW
    have hVp : PathIn V := fun t ht => (World.cell?_of_block (w := W) (hput _ (by show 1 ≠ _; omega) (by show 1 < _; omega))).trans (hpW t ht)
    have HV : Hid (V.rowIs hb 204 162 (has S p 0) ∧ PathIn V ∧ V.rowIs W.heap.size 202 136 (byt p)) := ⟨hVr, hVp, hVb⟩
    have HP : Hid ((∀ k, k ≠ W0.heap.size + 1 → k < W.heap.size → V.heap[k]? = W.heap[k]?) ∧ V.heap[W0.heap.size + 1]? = some (.loop rb) ∧ V.heap.size = W.heap.size + 1 ∧ (V.os = W.os ∧ V.tape = W.tape ∧ V.output = W.output) ∧ W.heap[W0.heap.size + 1]? = some (.loop r)) := ⟨hput, hVl, hVs, hVo, hlW⟩
    clear hz hput hVr hVp hVb hVl hVs hVo hV hrow hlW hpW
    gi_wp2
    refine region_round (S := fun V' => V'.cell? ⟨w.heap.size, 0, none⟩ = some (.pointer (some ⟨hb, 0, none⟩)) ∧ V'.rowIs W.heap.size 202 136 (byt p)) (by kernel_rfl) (noDefer_spec (by kernel_rfl)) (fun ⟨_, _, h⟩ => h) ⟨hVx, HV.out.2.2⟩ (fun hHeld => ?_)
    refine wpAnyH_take (i := 0) (v := .pointer (some ⟨hb, 0, none⟩)) rfl (by kernel_rfl) (by kernel_rfl) (by kernel_rfl) (fun _ _ _ h => h) (Or.inl ⟨by rfl, fun w hSw => ?_⟩) hHeld ?_
    · have h1 := hSw.1; go_simp
    simp only [List.getElem_toArray, List.getElem_cons_succ, List.getElem_cons_zero, Act.put, List.setIfInBounds_toArray, List.set_cons_zero, List.set_cons_succ]
    refine wpAnyH_take (i := 1) (v := .pointer (some ⟨hb, 0, none⟩)) rfl (by kernel_rfl) (by kernel_rfl) (by kernel_rfl) (fun _ _ _ h => h) (Or.inl ⟨by rfl, fun w hSw => ?_⟩) hHeld ?_
    · have h1 := hSw.1; go_simp
    simp only [List.getElem_toArray, List.getElem_cons_succ, List.getElem_cons_zero, Act.put, List.setIfInBounds_toArray, List.set_cons_zero, List.set_cons_succ]
    refine wpAnyH_take (i := 2) (v := .pointer (some ⟨hb, 0, none⟩)) rfl (by kernel_rfl) (by kernel_rfl) (by kernel_rfl) (fun _ _ _ h => h) (Or.inl ⟨by rfl, fun w hSw => ?_⟩) hHeld ?_
    · go_simp
    simp only [List.getElem_toArray, List.getElem_cons_succ, List.getElem_cons_zero, Act.put, List.setIfInBounds_toArray, List.set_cons_zero, List.set_cons_succ]
    refine wpAnyH_take (i := 3) (v := .pointer (some ⟨hb, 0, none⟩)) rfl (by kernel_rfl) (by kernel_rfl) (by kernel_rfl) (fun _ _ _ h => h) (Or.inl ⟨by rfl, fun w hSw => ?_⟩) hHeld ?_
    · go_simp
    simp only [List.getElem_toArray, List.getElem_cons_succ, List.getElem_cons_zero, Act.put, List.setIfInBounds_toArray, List.set_cons_zero, List.set_cons_succ]
    refine wpAnyH_take (i := 5) (v := .agg (vec 136 (byt p))) rfl (by kernel_rfl) (by kernel_rfl) (by kernel_rfl) (fun _ _ _ h => h) (Or.inl ⟨by rfl, fun w hSw => ?_⟩) hHeld ?_
    · exact run_load_exec 202 _ rfl _ rfl (run_loadVar_row w _ 202 202 _ (0, 0) _ (row_heap hSw.2) Tryz.underlying202 rfl (info54v _))
    simp only [List.getElem_toArray, List.getElem_cons_succ, List.getElem_cons_zero, Act.put, List.setIfInBounds_toArray, List.set_cons_zero, List.set_cons_succ]
    refine wpAnyH_ready (rs := [4]) (by kernel_rfl) (by simp) ?_
    refine AllReadyH.cons rfl (fun K hK => ?_) AllReadyH.nil
    refine step_load_mid (by rfl) 201 _ rfl hb 0 25 rfl (lan S) (fun j hj => ?_) 44 Tryz.underlying201 (by kernel_rfl) ?_
    · rw [Nat.zero_add]; exact (HV.out.1.cell (i := j) (by omega)).trans (by rw [has_state hj])
    refine hK.out _ _ ?_ (fun hHeld => ?_)
    · exact hHeld
    clear hK K
    try simp only [List.getElem_toArray, List.getElem_cons_succ, List.getElem_cons_zero, Act.put, List.setIfInBounds_toArray, List.set_cons_zero, List.set_cons_succ]
    refine wpAnyH_ready (rs := [6]) (by kernel_rfl) (by simp) ?_
    refine AllReadyH.cons rfl (fun K hK => ?_) AllReadyH.nil
    go_simp
    refine (absorb_any S p V.drew HV.out.2.1).mono ?_
    rintro e V2 ⟨rfl, hb2⟩
    have hS2 : V2.cell? ⟨w.heap.size, 0, none⟩ = some (.pointer (some ⟨hb, 0, none⟩)) ∧ V2.rowIs W.heap.size 202 136 (byt p) := ⟨(hb2.cell (p := ⟨w.heap.size, 0, none⟩) (block_lt_of_cell hHeld.1)).trans hHeld.1, hHeld.2.of_block (hb2.block _ hHeld.2.lt)⟩
    go_wp2_with fail
    refine hK.out _ _ ?_ (fun hHeld => ?_)
    · exact hS2
    clear hK K
    try simp only [List.getElem_toArray, List.getElem_cons_succ, List.getElem_cons_zero, Act.put, List.setIfInBounds_toArray, List.set_cons_zero, List.set_cons_succ]
    refine wpAnyH_take (i := 7) (v := .pointer (some ⟨hb, 0, none⟩)) rfl (by kernel_rfl) (by kernel_rfl) (by kernel_rfl) (fun _ _ _ h => h) (Or.inl ⟨by rfl, fun w hSw => ?_⟩) hHeld ?_
    · go_simp
    simp only [List.getElem_toArray, List.getElem_cons_succ, List.getElem_cons_zero, Act.put, List.setIfInBounds_toArray, List.set_cons_zero, List.set_cons_succ]
    refine wpAnyH_take (i := 8) (v := .pointer (some ⟨hb, 0, none⟩)) rfl (by kernel_rfl) (by kernel_rfl) (by kernel_rfl) (fun _ _ _ h => h) (Or.inl ⟨by rfl, fun w hSw => ?_⟩) hHeld ?_
    · go_simp
    simp only [List.getElem_toArray, List.getElem_cons_succ, List.getElem_cons_zero, Act.put, List.setIfInBounds_toArray, List.set_cons_zero, List.set_cons_succ]
    refine wpAnyH_ready (rs := [9]) (by kernel_rfl) (by simp) ?_
    refine AllReadyH.cons rfl (fun K hK => ?_) AllReadyH.nil
    have hr2 : V2.rowIs hb 204 162 (has S p 0) := HV.out.1.of_block (hb2.block _ HV.out.1.lt)
    refine step_store_vec (by rfl) 201 _ _ rfl hb 0 25 162 (lan (permute RCs (absTo S p 136))) _ 204 rfl rfl hr2 (by decide) (by kernel_rfl) (fun _ _ => rfl) ?_
    refine hK.out _ _ ?_ (fun hHeld => ?_)
    · exact ⟨(cell_setRow_other _ _ _ _ (by show w.heap.size ≠ hb; omega)).trans hHeld.1, hHeld.2.of_block (setRow_other _ _ _ _ (by omega))⟩
    clear hK K
    try simp only [List.getElem_toArray, List.getElem_cons_succ, List.getElem_cons_zero, Act.put, List.setIfInBounds_toArray, List.set_cons_zero, List.set_cons_succ]
    refine wpAnyH_done (by kernel_rfl) ?_ _
    have e1 : (V2.setRow hb (vec 162 fun j => if 0 ≤ j ∧ j < 0 + 25 then lan (permute RCs (absTo S p 136)) (j - 0) else has S p 0 j)).heap[W0.heap.size + 1]? = some (.loop rb) :=
      (setRow_other _ _ _ _ (by omega)).trans ((hb2.block _ (show W0.heap.size + 1 < V.heap.size by have := HP.out.2.2.1; omega)).trans HP.out.2.1)
    have e3 : ((V2.setRow hb (vec 162 fun j => if 0 ≤ j ∧ j < 0 + 25 then lan (permute RCs (absTo S p 136)) (j - 0) else has S p 0 j)).putObj (W0.heap.size + 1) (.loop r)).rowIs hb 204 162 (has (permute RCs (absTo S p 136)) p 0) :=
      (state_row hr2).of_block (World.putObj_heap_other (by omega))
    have e2 : W.grownBy ((V2.setRow hb (vec 162 fun j => if 0 ≤ j ∧ j < 0 + 25 then lan (permute RCs (absTo S p 136)) (j - 0) else has S p 0 j)).putObj (W0.heap.size + 1) (.loop r)) (some hb) := by
      have hs2 : V.heap.size ≤ V2.heap.size := hb2.size
      have hs3 := HP.out.2.2.1
      refine ⟨hb2.os.trans HP.out.2.2.2.1.1, hb2.tape.trans HP.out.2.2.2.1.2.1, hb2.output.trans HP.out.2.2.2.1.2.2, by simp [World.putObj]; omega, fun k hk hne => ?_⟩
      by_cases e : k = W0.heap.size + 1
      · subst e
        rw [HP.out.2.2.2.2]
        exact World.putObj_heap_same (by simp; omega)
      · rw [World.putObj_heap_other e, setRow_other _ _ _ _ (fun h => hne (by rw [h]))]
        exact (hb2.block _ (show k < V.heap.size by omega)).trans (HP.out.1 k e hk)
    exact ⟨e1, e2, e3⟩
  rintro e W' ⟨hv, hg, hin'⟩
  have hl' : W'.heap[W0.heap.size + 1]? = some (.loop r) := (hg.block _ (by omega) (by simp; omega)).trans hl1
  have hd' : W'.heap[W0.heap.size]? = some (.deferred (some [])) := (hg.block _ (by omega) (by simp; omega)).trans hd1
  refine ⟨hv, hl', ?_⟩
  have hgr : w.grownBy W' (some hb) := gb_trans ⟨hblw.os, hblw.tape, hblw.output, hblw.size, fun k hk _ => hblw.block k hk⟩ hg
  clear hst hpe htm hpar has' hbod hl1 hd1 hbl1 hblw hc hHas hx0 hx1 hx2 hbl
  obtain ⟨re, hre⟩ : ∃ re : Loop, { r with state := .exhausted } = re := ⟨_, rfl⟩
  rw [hre]
  have hK : (W'.putObj (W0.heap.size + 1) (.loop re)).heap[W0.heap.size]? = some (.deferred (some [])) := (World.putObj_heap_other (by omega)).trans hd'
  gi_wp2
  refine ⟨by simp, .inl ⟨_, _, rfl, run_takeDeferred hK, ?_⟩⟩
  refine ⟨_, results_none rfl _ _ _, rfl, ?_, ?_⟩
  · exact ⟨hgr.os, hgr.tape, hgr.output, by have := hgr.size; simp [World.putObj]; omega, fun k hk hne => ((World.putObj_heap_other (by omega)).trans (World.putObj_heap_other (by omega))).trans (hgr.block k hk hne)⟩
  · obtain ⟨p, hr, hpp⟩ := hin'
    exact ⟨p, hr.of_block ((World.putObj_heap_other (by omega)).trans (World.putObj_heap_other (by omega))), hpp⟩
end Go.Proofs.YtboeokmaepchgaaGreatDoor.Kc
