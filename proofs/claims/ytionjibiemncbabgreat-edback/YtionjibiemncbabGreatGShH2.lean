/- ShG0, ShH2 -/
import Derived.Test.YtionjibiemncbabGreatGShH1
import Derived.Deep.WholeRow
import Derived.Laws.CopyOwn
import Derived.Shelf.RegionOpen
set_option linter.unusedSimpArgs false
set_option linter.unusedVariables false
namespace Go.Proofs.YtionjibiemncbabGreat.Sha
open Go.RowKit Go.Shelf
attribute [local go_sem] Oper.semAt_some
structure Only (b : Nat) (w w' : World) : Prop where
  os : w'.os = w.os
  tape : w'.tape = w.tape
  output : w'.output = w.output
  size : w'.heap.size = w.heap.size
  block : ∀ k, k ≠ b → w'.heap[k]? = w.heap[k]?
theorem Only.refl (b : Nat) (w : World) : Only b w w := ⟨rfl, rfl, rfl, rfl, fun _ _ => rfl⟩
theorem Only.trans {b : Nat} {u v w : World} (h : Only b u v) (k : Only b v w) : Only b u w :=
  ⟨k.os.trans h.os, k.tape.trans h.tape, k.output.trans h.output, k.size.trans h.size, fun i hi => (k.block i hi).trans (h.block i hi)⟩
theorem Only.drew {b : Nat} {u v : World} (h : Only b u v) : Only b u v.drew := ⟨h.os, h.tape, h.output, h.size, h.block⟩
theorem Only.setCell {b : Nat} {u v : World} (h : Only b u v) (o : Nat) (x : Value) : Only b u (v.setCell ⟨b, o, none⟩ x) :=
  h.trans ⟨rfl, rfl, rfl, by simp, fun k hk => Go.Deep.blk_setCell_other _ _ _ _ hk⟩
theorem Only.setRow {b : Nat} {u v : World} (h : Only b u v) (c : Array Value) : Only b u (v.setRow b c) :=
  h.trans ⟨rfl, rfl, rfl, by simp, fun k hk => setRow_other _ _ _ _ hk⟩
theorem Only.row {b b' : Nat} {u v : World} (h : Only b u v) (hb : b' ≠ b) {t : TypeId} {n : Nat} {f : Nat → Value} (hr : u.rowIs b' t n f) : v.rowIs b' t n f := hr.of_block (h.block _ hb)
theorem Only.below {b B : Nat} {a u v : World} (h : Only b u v) (k : Below B a u) (hb : B ≤ b) : Below B a v :=
  k.trans ⟨h.os, h.tape, h.output, by rw [h.size]; exact Nat.le_refl _, fun i hi => h.block i (by omega)⟩
def I8 (x : BitVec 8) : Int := (x.toNat : Int)
theorem I8_bd (x : BitVec 8) : 0 ≤ I8 x ∧ I8 x < 256 := by
  unfold I8; have := x.isLt; omega
abbrev byt (p : Nat → BitVec 8) : Nat → Value := fun j => .int .u8 (I8 (p j))
theorem one_byt (n : Nat) (p : Nat → BitVec 8) : (vec n (byt p)).all (·.oneCell') = true := by
  rw [Array.all_eq_true]
  intro i hi
  simp [vec, Value.oneCell']
theorem I_byte (x : BitVec 8) : I8 x = I (x.setWidth 64) := by
  unfold I8 I; rw [BitVec.toNat_setWidth]; have := x.isLt; congr 1; omega
theorem heap2 (w : World) (A B C : Obj) : (((w.alloc A).alloc B).alloc C).heap[w.heap.size + 1]? = some B := by
  have h : (((w.alloc A).alloc B).alloc C).heap[w.heap.size + 1]? = ((w.alloc A).alloc B).heap[w.heap.size + 1]? := heap_alloc_old _ _ (by simp)
  rw [h]
  exact heap_alloc2_new w A B
theorem run_index_vec {P : Program} (t e n : Nat) (ht : ∀ w, (underlying t).run P w = .ok (.array n e) w) (hs : ∀ w, (sizeOf e).run P w = .ok 1 w) (ha : ∀ w, (isAgg e).run P w = .ok false w) (f : Nat → Value) (i : Nat) (hi : i < n) (w : World) :
    (Instr.index t (.agg (vec n f)) (.int .i64 (i : Int))).run P w = .ok (f i) w := by
  have h1 : (0 : Int) ≤ (i : Int) ∧ (i : Int) < (n : Int) := by omega
  simp only [Instr.index, asIntOf, Sem.run_bind, Sem.run_pure, Result.andThen_ok, ht, hs, part, ha, h1, and_self, if_true, Int.toNat_natCast, Nat.mul_one, get_vec n f i hi]
  simp
theorem splice_vec (n off c : Nat) (f src : Nat → Value) (hfit : off + c ≤ n) :
    ((vec n f).toList.take off ++ (List.range c).map src ++ (vec n f).toList.drop (off + c)).toArray = vec n (fun j => if off ≤ j ∧ j < off + c then src (j - off) else f j) := by
  have hl : (vec n f).toList = (List.range n).map f := rfl
  rw [hl]
  apply vec_eq
  · simp; omega
  · intro i hi
    rw [List.getElem?_toArray]
    by_cases h1 : i < off
    · rw [List.append_assoc, List.getElem?_append_left (by simp; omega), List.getElem?_take_of_lt h1, List.getElem?_map, List.getElem?_range (by omega), if_neg (by omega)]
      rfl
    · by_cases h2 : i < off + c
      · rw [List.append_assoc, List.getElem?_append_right (by simp; omega), List.getElem?_append_left (by simp; omega), List.getElem?_map, List.length_take, List.length_map, List.length_range, show min off n = off from by omega, List.getElem?_range (by omega), if_pos ⟨by omega, h2⟩]
        rfl
      · rw [List.getElem?_append_right (by simp; omega), List.getElem?_drop, List.length_append, List.length_take, List.length_map, List.length_range, List.length_map, List.length_range, show min off n = off from by omega, show off + c + (i - (off + c)) = i from by omega, List.getElem?_map, List.getElem?_range hi, if_neg (by omega)]
        rfl
theorem step_copy_vec {P : Program} {ops : Array Oper} {o : Oper} {a : Act} {w : World} {K : Act → World → Prop} {Q : Exit → Act → World → Prop} {E : Prop} (hgd : o.guard = none) (d s : Operand) (dT sT : TypeId)
    (ho : o.op = .call { callee := .builtin .copy, args := #[d, s], argTypes := #[dT, sT] }) (elem : TypeId) (hu : P.underlying dT = some (.slice elem)) (hsz : (P.info? elem).map (·.size) = some 1)
    (g off n : Nat) (t : TypeId) (f : Nat → Value) (hg : w.rowIs g t n f) (c dLen dCap sLen sCap : Nat) (ad : Addr) (hd : a.eval d = .slice (some ⟨g, off, none⟩) dLen dCap) (hs : a.eval s = .slice (some ad) sLen sCap)
    (hc : c = Nat.min sLen dLen) (src : Nat → Value) (hsrc : ∀ j, j < c → w.cell? (ad.add j) = some (src j)) (h1 : ∀ j, j < c → (src j).oneCell' = true) (hfit : off + c ≤ n)
    (h : ∀ w', w'.rowIs g t n (fun j => if off ≤ j ∧ j < off + c then src (j - off) else f j) → Only g w w' → K (a.put o.dst (.int .i64 (c : Int))) w') :
    if Region.wanted o (yielded ops a.tmps) = true then Oper.wp P o a w K Q else E := by
  have hw : Region.wanted o (yielded ops a.tmps) = true := by simp [Region.wanted, hgd]
  rw [if_pos hw]
  have hrun := run_copy_row (P := P) w dT sT o.type elem g off dLen dCap ad sLen sCap (vec n f) t ((List.range c).map src) hu hsz (row_heap hg) (by simpa using hc) (fun j v hv => by
    rw [List.getElem?_map] at hv
    by_cases hj : j < c
    · rw [List.getElem?_range hj] at hv; simp at hv; subst hv; exact hsrc j hj
    · rw [List.getElem?_eq_none (by simpa using hj)] at hv; cases hv) (by simpa using hfit) (fun v hv => by
    obtain ⟨j, hj, rfl⟩ := List.mem_map.1 hv
    exact h1 j (by simpa using hj))
  unfold Oper.wp
  simp only [List.length_map, List.length_range] at hrun
  simp [execOp, ho, resolve, invoke, builtin, hd, hs, hrun, Result.andThen]
  refine h _ (heap_row ?_) ((Only.refl _ _).setRow _)
  rw [setRow_heap w g _ _ t _ (row_heap hg)]
  congr 2
  simpa using splice_vec n off c f src hfit
theorem gb_refl (w : World) (row : Option Nat) : w.grownBy w row := ⟨rfl, rfl, rfl, Nat.le_refl _, fun _ _ _ => rfl⟩
theorem gb_trans {u v w : World} {row : Option Nat} (h : u.grownBy v row) (k : v.grownBy w row) : u.grownBy w row :=
  ⟨k.os.trans h.os, k.tape.trans h.tape, k.output.trans h.output, Nat.le_trans h.size k.size, fun i hi hr => (k.block i (Nat.lt_of_lt_of_le hi h.size) hr).trans (h.block i hi hr)⟩
theorem Only.gb {b : Nat} {w w' : World} (h : Only b w w') : w.grownBy w' (some b) :=
  ⟨h.os, h.tape, h.output, Nat.le_of_eq h.size.symm, fun i _ hr => h.block i (fun e => hr (by rw [e]))⟩
def slen : Value → Nat
  | .slice _ n _ => n
  | _ => 0
theorem run_loadVar_mid {P : Program} (w : World) (g off N : Nat) (ty e : TypeId) (f : Nat → Value) (hc : ∀ j, j < N → w.cell? ⟨g, off + j, none⟩ = some (f j)) (hu : P.underlying ty = some (.array N e)) (hi : (P.info? ty).map (·.size) = some N) :
    (loadVar ty ⟨g, off, none⟩).run P w = .ok (.agg (vec N f)) w := by
  have hl : (loadCells ⟨g, off, none⟩ (vec N f).toList.length).run P w = .ok (vec N f).toList.toArray w :=
    run_loadCells_list (P := P) w ⟨g, off, none⟩ (vec N f).toList (fun j v hv => by
      have hadd : (⟨g, off, none⟩ : Addr).add j = ⟨g, off + j, none⟩ := by unfold Addr.add; split <;> simp_all
      rw [hadd]
      have hv' : (vec N f)[j]? = some v := by simpa using hv
      by_cases hj : j < N
      · rw [get_vec N f j hj] at hv'; cases hv'; exact hc j hj
      · rw [Array.getElem?_eq_none (by simp; omega)] at hv'; cases hv')
  cases hq : P.info? ty with
  | none => simp [hq] at hi
  | some i =>
    have hs : i.size = N := by simpa [hq] using hi
    have hagg : (isAgg ty).run P w = .ok true w := by
      unfold isAgg
      rw [Sem.run_bind, run_underlying hu w]
      simp
    simp only [Array.length_toList, Array.toArray_toList, size_vec] at hl
    simp [loadVar, Sem.run_bind, hagg, sizeOf, typeInfo, hq, hs, hl]
theorem rest_from (bb o L cp c : Nat) (hc : c ≤ L) (hL : L ≤ cp) : ∃ a2 : Option Addr, (c < L → a2 = some ⟨bb, o + c, none⟩) ∧ (∀ w, (Instr.sliceAt 40 (.slice (some ⟨bb, o, none⟩) L cp) (some (.int .i64 (c : Int))) none none).run Tryz.prog w = .ok (.slice a2 (L - c) (cp - c)) w) ∧ (∀ w, (Instr.slice 40 (.slice (some ⟨bb, o, none⟩) L cp) (some (.int .i64 (c : Int))) none none).run Tryz.prog w = .ok (.slice a2 (L - c) (cp - c)) w) := by
  have he : Tryz.prog.elem 40 = 5 := by kernel_rfl
  have h2 : ∀ w, (Instr.slice 40 (.slice (some ⟨bb, o, none⟩) L cp) (some (.int .i64 (c : Int))) none none).run Tryz.prog w = .ok (.slice (if cp = c then some ⟨bb, o, none⟩ else some ⟨bb, o + c, none⟩) (L - c) (cp - c)) w := fun w => by
    rw [run_slice_l w 40 _ L cp (by kernel_rfl) .i64 (c : Int) (by omega) (by omega), he, Tryz.sizeOf5]
    simp only [Result.andThen, sliced, Int.toNat_natCast]
    by_cases h0 : c = 0
    · subst h0; simp [Addr.add]
    · simp [Addr.add, h0]
  refine ⟨_, fun h => if_neg (by omega), fun w => ?_, h2⟩
  rw [run_sliceAt_slice w 40 _ _ _ _ (by kernel_rfl)]
  exact h2 w
theorem run_storeVar_vec {P : Program} (w : World) (g off N M : Nat) (t ty : TypeId) (f src : Nat → Value) (hg : w.rowIs g t M f) (hfit : off + N ≤ M) (hi : (P.info? ty).map (·.size) = some N) (h1 : ∀ j, j < N → (src j).oneCell' = true) :
    (storeVar ty ⟨g, off, none⟩ (.agg (vec N src))).run P w = .ok () (w.setRow g (vec M (fun j => if off ≤ j ∧ j < off + N then src (j - off) else f j))) := by
  have hst := run_storeCells_at P g off t ((List.range N).map src) 0 (vec M f) w (row_heap hg) (by simpa using hfit) (fun v hv => by
    obtain ⟨j, hj, rfl⟩ := List.mem_map.1 hv
    exact h1 j (by simpa using hj))
  simp only [Nat.add_zero, List.length_map, List.length_range, splice_vec M off N f src hfit] at hst
  cases hq : P.info? ty with
  | none => simp [hq] at hi
  | some i =>
    have hs : i.size = N := by simpa [hq] using hi
    have hv : (vec N src).toList = (List.range N).map src := rfl
    simp [storeVar, sizeOf, typeInfo, hq, Value.cells, hs, hv, hst]
theorem run_load_exec {P : Program} {a : Act} {o : Oper} {w : World} {v : Value} (ty : TypeId) (x : Operand) (ho : o.op = .load ty x) (g : Addr) (hx : a.eval x = .pointer (some g)) (h : (loadVar ty g).run P w = .ok v w) : (execOp a.eval o).run P w = .ok (.value v) w := by
  unfold execOp
  simp only [ho, hx, Instr.loadAt, Instr.sureAddr, Sem.run_bind, Sem.run_pure, Result.andThen_ok, h]
theorem step_load_mid {P : Program} {ops : Array Oper} {o : Oper} {a : Act} {w : World} {K : Act → World → Prop} {Q : Exit → Act → World → Prop} {E : Prop} (hw : Region.wanted o (yielded ops a.tmps) = true) (ty : TypeId) (x : Operand) (ho : o.op = .load ty x)
    (g off N : Nat) (hx : a.eval x = .pointer (some ⟨g, off, none⟩)) (f : Nat → Value) (hc : ∀ j, j < N → w.cell? ⟨g, off + j, none⟩ = some (f j)) (e : TypeId) (hu : P.underlying ty = some (.array N e)) (hi : (P.info? ty).map (·.size) = some N)
    (h : K (a.put o.dst (.agg (vec N f))) w) : if Region.wanted o (yielded ops a.tmps) = true then Oper.wp P o a w K Q else E := by
  rw [if_pos hw]
  unfold Oper.wp
  rw [run_load_exec ty x ho _ hx (run_loadVar_mid w g off N ty e f hc hu hi)]
  exact h
theorem step_store_vec {P : Program} {ops : Array Oper} {o : Oper} {a : Act} {w : World} {K : Act → World → Prop} {Q : Exit → Act → World → Prop} {E : Prop} (hw : Region.wanted o (yielded ops a.tmps) = true) (ty : TypeId) (x y : Operand) (ho : o.op = .store ty x y)
    (g off N M : Nat) (src f : Nat → Value) (t : TypeId) (hx : a.eval x = .pointer (some ⟨g, off, none⟩)) (hy : a.eval y = .agg (vec N src)) (hg : w.rowIs g t M f) (hfit : off + N ≤ M) (hi : (P.info? ty).map (·.size) = some N) (h1 : ∀ j, j < N → (src j).oneCell' = true)
    (h : K (a.put o.dst undef) (w.setRow g (vec M (fun j => if off ≤ j ∧ j < off + N then src (j - off) else f j)))) : if Region.wanted o (yielded ops a.tmps) = true then Oper.wp P o a w K Q else E := by
  rw [if_pos hw]
  unfold Oper.wp execOp
  simp only [ho, hx, hy, Instr.storeAt, Instr.sureAddr, Sem.run_bind, Sem.run_pure, Result.andThen_ok, run_storeVar_vec w g off N M t ty f src hg hfit hi h1]
  exact h
theorem ofInt_I8 (x : BitVec 8) : BitVec.ofInt 8 (I8 x) = x := by
  unfold I8; rw [BitVec.ofInt_natCast, BitVec.ofNat_toNat, BitVec.setWidth_eq]
theorem heap_n (w : World) (o : Obj) (n : Nat) (h : w.heap.size = n) : (w.alloc o).heap[n]? = some o := by subst h; exact heap_alloc_new w o
theorem heap1of2 (w : World) (A B : Obj) : ((w.alloc A).alloc B).heap[w.heap.size]? = some A := (heap_alloc_old _ _ (by simp)).trans (heap_alloc_new _ _)
theorem heap2of2 (w : World) (A B : Obj) : ((w.alloc A).alloc B).heap[w.heap.size + 1]? = some B := heap_n _ _ _ (by simp)
theorem heap1of3 (w : World) (A B C : Obj) : (((w.alloc A).alloc B).alloc C).heap[w.heap.size]? = some A := (heap_alloc_old _ _ (by simp; omega)).trans (heap1of2 _ _ _)
theorem heap2of3 (w : World) (A B C : Obj) : (((w.alloc A).alloc B).alloc C).heap[w.heap.size + 1]? = some B := heap2 _ _ _ _
theorem heap3of3 (w : World) (A B C : Obj) : (((w.alloc A).alloc B).alloc C).heap[w.heap.size + 2]? = some C := heap_n _ _ _ (by simp)
end Go.Proofs.YtionjibiemncbabGreat.Sha
namespace Go.Proofs.YtionjibiemncbabGreat.Sha
open Go.RowKit Go.Shelf
theorem info41v (f : Nat → Value) : (Tryz.prog.info? 126).map (·.size) = some (vec 80 f).size := by rw [size_vec]; kernel_rfl
theorem info50v (f : Nat → Value) : (Tryz.prog.info? 117).map (·.size) = some (vec 128 f).size := by rw [size_vec]; kernel_rfl
theorem info38v (f : Nat → Value) : (Tryz.prog.info? 98).map (·.size) = some (vec 8 f).size := by rw [size_vec]; kernel_rfl
theorem info23v (f : Nat → Value) : (Tryz.prog.info? 53).map (·.size) = some (vec 64 f).size := by rw [size_vec]; kernel_rfl
theorem zero41 : (Tryz.prog.info? 126).map (fun i => (i.zero, i.size)) = some (some (.agg (vec 80 (lan fun _ => 0#64))), 80) := by kernel_rfl
theorem zero50 : (Tryz.prog.info? 117).map (fun i => (i.zero, i.size)) = some (some (.agg (vec 128 (byt fun _ => 0#8))), 128) := by kernel_rfl
theorem zero23 : (Tryz.prog.info? 53).map (fun i => (i.zero, i.size)) = some (some (.agg (vec 64 (byt fun _ => 0#8))), 64) := by kernel_rfl
theorem zero38 : (Tryz.prog.info? 98).map (fun i => (i.zero, i.size)) = some (some (.agg (vec 8 (lan fun _ => 0#64))), 8) := by kernel_rfl
theorem wd_val (a : BitVec 64) (x : BitVec 8) : bits .or .u64 (IntKind.u64.wrap (I a * 256)) (I8 x) = I (a <<< 8 ||| x.setWidth 64) := by
  have h : I a * 256 = I a * 2 ^ 8 := by congr 1
  rw [h, I_byte, I_shl, bo]
theorem wd_row {b : Nat → BitVec 8} {k g t : Nat} {w : World} (h : w.rowIs g t 80 (lan (wdTo b k))) {v : Value} (hv : v = .int .u64 (I (wdTo b k (k / 8) <<< 8 ||| (b k).setWidth 64))) :
    (w.setCell ⟨g, k / 8, none⟩ v).rowIs g t 80 (lan (wdTo b (k + 1))) := by
  refine (h.set _ _).congr ?_
  intro i hi
  subst hv
  simp only [lan, wdTo]
  by_cases e : i = k / 8
  · subst e; rw [if_pos rfl, if_pos rfl]
  · rw [if_neg e, if_neg e]
theorem sch_row {x : Nat → BitVec 64} {k g t : Nat} {w : World} (h : w.rowIs g t 80 (lan (schTo x k))) {v : Value} (hv : v = .int .u64 (I (sg1 (schTo x k (k + 14)) + schTo x k (k + 9) + sg0 (schTo x k (k + 1)) + schTo x k k))) :
    (w.setCell ⟨g, k + 16, none⟩ v).rowIs g t 80 (lan (schTo x (k + 1))) := by
  refine (h.set _ _).congr ?_
  intro i hi
  subst hv
  simp only [lan, schTo]
  by_cases e : i = k + 16
  · subst e; rw [if_pos rfl, if_pos rfl]
  · rw [if_neg e, if_neg e]
theorem I_add (a b : BitVec 64) : IntKind.u64.wrap (I a + I b) = I (a + b) := by
  rw [IntKind.wrap_u64]
  unfold I
  rw [BitVec.toNat_add]
  omega
def ScIn (R : Nat → BitVec 64) (w wr : World) : Prop :=
  wr.rowIs (w.heap.size + 1) 126 80 (lan fun _ => 0#64) ∧ wr.rowIs (w.heap.size + 2) 126 80 (lan R) ∧ Below w.heap.size w wr
theorem sc_start (b : Nat → BitVec 8) (w : World) : ScIn (wdTo b 0) w (((w.alloc (.cells (vec 128 (byt b)) 117)).alloc (.cells (vec 80 (lan fun _ => 0#64)) 126)).alloc (.cells (vec 80 (lan fun _ => 0#64)) 126)) := by
  exact ⟨heap_row (heap2of3 _ _ _ _), heap_row (heap3of3 _ _ _ _), by go_grown⟩
theorem ScIn.step {R R' : Nat → BitVec 64} {w w1 w2 : World} (h : ScIn R w w1) (hr : w2.rowIs (w.heap.size + 2) 126 80 (lan R')) (o : Only (w.heap.size + 2) w1 w2) : ScIn R' w w2 :=
  ⟨o.row (by omega) h.1, hr, o.below h.2.2 (by omega)⟩
theorem ScIn.more {R : Nat → BitVec 64} {w w1 w2 : World} (h : ScIn R w w1) (o : Below w1.heap.size w1 w2) : ScIn R w w2 :=
  ⟨h.1.of_block (o.block _ h.1.lt), h.2.1.of_block (o.block _ h.2.1.lt), h.2.2.trans (o.mono h.2.2.size)⟩
set_option maxRecDepth 20000 in
set_option maxHeartbeats 2000000 in
theorem schedule_any (b : Nat → BitVec 8) (w : World) :
    Calls Tryz.prog 97 #[.agg (vec 128 (byt b))] w fun e w' => e = .returned (.agg (vec 80 (lan (schTo (wdTo b 128) 64)))) ∧ Below w.heap.size w w' := by
  have hix := run_index_vec (P := Tryz.prog) 117 5 128 (fun w => run_underlying Tryz.underlying117 w) Tryz.sizeOf5 Tryz.isAgg5 (byt b)
  have HS : Hid _ := sc_start b w
  have hz := (zero_of_info zero41).1
  go_enter Tryz.func97, Tryz.ntmps97
  go_wp2_with (first | (refine wpList_load_row rfl 117 _ rfl w.heap.size rfl 117 _ (0, 0) _ (heap1of3 _ _ _ _) Tryz.underlying117 rfl (info50v _) ?_))
  go_loopw [8] (fun i wr => ∃ k : Nat, k ≤ 128 ∧ i = .int .i64 (k : Int) ∧ ScIn (wdTo b k) w wr) (fun i _ => 128 - (intOf i).toNat)
  case atStart => exact ⟨0, by omega, rfl, HS.out⟩
  case round =>
    obtain ⟨k, hk, rfl, hin⟩ := hrel
    clear HS hz
    by_cases hlt : k < 128
    · have hik := hix k hlt
      have hbd := I8_bd (b k)
      have c0 : wr.cell? ⟨w.heap.size + 2, k / 8, none⟩ = some (.int .u64 (I (wdTo b k (k / 8)))) := hin.2.1.cell (by omega)
      have f0 : wr.frozen? ⟨w.heap.size + 2, k / 8, none⟩ = false := hin.2.1.frozen _
      have H1 : Hid (ScIn (wdTo b k) w wr) := hin
      clear hix hin
      obtain ⟨hb0, hb1⟩ := hbd
      go_wp2
      go_roundw
      case rel => exact ⟨k + 1, by omega, by go_num, (H1.out.step (wd_row H1.out.2.1 (by rw [wd_val])) ((Only.refl _ _).setCell _ _))⟩
      case measure => simp [intOf]; omega
    · have hk2 : k = 128 := by omega
      clear hix
      have H1 : Hid (ScIn (wdTo b 128) w wr) := hk2 ▸ hin
      have hd : ¬ (k : Int) < 128 := by omega
      clear hin hk2
      go_wp2
      obtain ⟨x, hx⟩ : ∃ x, x = wdTo b 128 := ⟨_, rfl⟩
      rw [← hx] at H1
      have HX : Hid (x = wdTo b 128) := hx
      clear hx
      go_loopw [6] (fun i wr => ∃ k : Nat, k ≤ 64 ∧ i = .int .i64 ((k : Int) + 16) ∧ ScIn (schTo x k) w wr) (fun i _ => 80 - (intOf i).toNat)
      case atStart => exact ⟨0, by omega, rfl, H1.out⟩
      case round =>
        clear hlt hk hd
        obtain ⟨k, hk, rfl, hin⟩ := hrel
        clear H1
        by_cases hlt : k < 64
        · have c0 : wr.cell? ⟨w.heap.size + 2, k + 14, none⟩ = some (.int .u64 (I (schTo x k (k + 14)))) := hin.2.1.cell (by omega)
          have c1 : wr.cell? ⟨w.heap.size + 2, k + 9, none⟩ = some (.int .u64 (I (schTo x k (k + 9)))) := hin.2.1.cell (by omega)
          have c2 : wr.cell? ⟨w.heap.size + 2, k + 1, none⟩ = some (.int .u64 (I (schTo x k (k + 1)))) := hin.2.1.cell (by omega)
          have c3 : wr.cell? ⟨w.heap.size + 2, k, none⟩ = some (.int .u64 (I (schTo x k k))) := hin.2.1.cell (by omega)
          obtain ⟨u, cu⟩ : ∃ u, wr.cell? ⟨w.heap.size + 2, k + 16, none⟩ = some u := ⟨_, hin.2.1.cell (by omega)⟩
          have f0 := hin.2.1.frozen
          have H1 : Hid (ScIn (schTo x k) w wr) := hin
          clear hin
          go_wp2
          refine wp_region_held_drew (S := fun w' => w'.cell? ⟨w.heap.size + 2, k + 14, none⟩ = some (.int .u64 (I (schTo x k (k + 14)))) ∧ w'.cell? ⟨w.heap.size + 2, k + 9, none⟩ = some (.int .u64 (I (schTo x k (k + 9)))) ∧ w'.cell? ⟨w.heap.size + 2, k + 1, none⟩ = some (.int .u64 (I (schTo x k (k + 1)))) ∧ w'.cell? ⟨w.heap.size + 2, k, none⟩ = some (.int .u64 (I (schTo x k k)))) (by kernel_rfl) ⟨c0, c1, c2, c3⟩ (fun hHeld => ?_)
          refine tk 0 (.int .i64 ((k : Int) + 16)) (fun w hSw => ?_) hHeld ?_
          · obtain ⟨h1, h2, h3, h4⟩ := hSw; go_simp
          simp only [sm]
          refine tk 1 (.int .i64 ((k : Int) + 16)) (fun w hSw => ?_) hHeld ?_
          · obtain ⟨h1, h2, h3, h4⟩ := hSw; go_simp
          simp only [sm]
          refine tk 2 (.int .i64 ((k + 14 : Nat) : Int)) (fun w hSw => ?_) hHeld ?_
          · have a : IntKind.i64.wrap ((k : Int) + 16 - 2) = (k : Int) + 14 := by rw [IntKind.wrap_i64]; omega
            go_simp
          simp only [sm]
          refine tk 3 (.pointer (some ⟨w.heap.size + 2, k + 14, none⟩)) (fun w hSw => ?_) hHeld ?_
          · have a1 : (0 : Int) ≤ (k : Int) + 14 := (by omega)
            have a2 : (k : Int) + 14 < 80 := (by omega)
            have a3 : ((k : Int) + 14).toNat = k + 14 := (by omega)
            go_simp
          simp only [sm]
          refine tk 4 (.int .u64 (I (schTo x k (k + 14)))) (fun w hSw => ?_) hHeld ?_
          · obtain ⟨h1, h2, h3, h4⟩ := hSw; go_simp
          simp only [sm]
          refine tk 6 (.int .i64 ((k : Int) + 16)) (fun w hSw => ?_) hHeld ?_
          · obtain ⟨h1, h2, h3, h4⟩ := hSw; go_simp
          simp only [sm]
          refine tk 7 (.int .i64 ((k + 9 : Nat) : Int)) (fun w hSw => ?_) hHeld ?_
          · have a : IntKind.i64.wrap ((k : Int) + 16 - 7) = (k : Int) + 9 := by rw [IntKind.wrap_i64]; omega
            go_simp
          simp only [sm]
          refine tk 8 (.pointer (some ⟨w.heap.size + 2, k + 9, none⟩)) (fun w hSw => ?_) hHeld ?_
          · have a1 : (0 : Int) ≤ (k : Int) + 9 := (by omega)
            have a2 : (k : Int) + 9 < 80 := (by omega)
            have a3 : ((k : Int) + 9).toNat = k + 9 := (by omega)
            go_simp
          simp only [sm]
          refine tk 9 (.int .u64 (I (schTo x k (k + 9)))) (fun w hSw => ?_) hHeld ?_
          · obtain ⟨h1, h2, h3, h4⟩ := hSw; go_simp
          simp only [sm]
          refine tk 11 (.int .i64 ((k : Int) + 16)) (fun w hSw => ?_) hHeld ?_
          · obtain ⟨h1, h2, h3, h4⟩ := hSw; go_simp
          simp only [sm]
          refine tk 12 (.int .i64 ((k + 1 : Nat) : Int)) (fun w hSw => ?_) hHeld ?_
          · have a : IntKind.i64.wrap ((k : Int) + 16 - 15) = (k : Int) + 1 := by rw [IntKind.wrap_i64]; omega
            go_simp
          simp only [sm]
          refine tk 13 (.pointer (some ⟨w.heap.size + 2, k + 1, none⟩)) (fun w hSw => ?_) hHeld ?_
          · have a1 : (0 : Int) ≤ (k : Int) + 1 := (by omega)
            have a2 : (k : Int) + 1 < 80 := (by omega)
            have a3 : ((k : Int) + 1).toNat = k + 1 := (by omega)
            go_simp
          simp only [sm]
          refine tk 14 (.int .u64 (I (schTo x k (k + 1)))) (fun w hSw => ?_) hHeld ?_
          · obtain ⟨h1, h2, h3, h4⟩ := hSw; go_simp
          simp only [sm]
          refine tk 17 (.int .i64 ((k : Int) + 16)) (fun w hSw => ?_) hHeld ?_
          · obtain ⟨h1, h2, h3, h4⟩ := hSw; go_simp
          simp only [sm]
          refine tk 18 (.int .i64 ((k : Nat) : Int)) (fun w hSw => ?_) hHeld ?_
          · have a : IntKind.i64.wrap ((k : Int) + 16 - 16) = (k : Int) := (by rw [IntKind.wrap_i64]; omega)
            have a4 : (k : Int) + 16 - 16 = (k : Int) := (by omega)
            rw [a4] at a
            go_simp
          simp only [sm]
          refine tk 19 (.pointer (some ⟨w.heap.size + 2, k, none⟩)) (fun w hSw => ?_) hHeld ?_
          · have a1 : (0 : Int) ≤ (k : Int) := (by omega)
            have a2 : (k : Int) < 80 := (by omega)
            have a3 : ((k : Int)).toNat = k := (by omega)
            go_simp
          simp only [sm]
          refine tk 20 (.int .u64 (I (schTo x k k))) (fun w hSw => ?_) hHeld ?_
          · obtain ⟨h1, h2, h3, h4⟩ := hSw; go_simp
          simp only [sm]
          refine rd 5 (fun K hK => ?_)
          go_simp
          refine (sg1_any _ _).mono ?_
          rintro e w' ⟨rfl, hs⟩
          obtain rfl := hs.symm
          go_wp2_with fail
          refine hK.out _ _ ?_ (fun hHeld => ?_)
          · exact hHeld
          clear hK K
          try simp only [sm]
          refine tk 10 (.int .u64 (I (sg1 (schTo x k (k + 14)) + schTo x k (k + 9)))) (fun w hSw => ?_) hHeld ?_
          · have a := I_add (sg1 (schTo x k (k + 14))) (schTo x k (k + 9)); go_simp
          simp only [sm]
          refine rd 15 (fun K hK => ?_)
          go_simp
          refine (sg0_any _ _).mono ?_
          rintro e w' ⟨rfl, hs⟩
          obtain rfl := hs.symm
          go_wp2_with fail
          refine hK.out _ _ ?_ (fun hHeld => ?_)
          · exact hHeld
          clear hK K
          try simp only [sm]
          refine tk 16 (.int .u64 (I (sg1 (schTo x k (k + 14)) + schTo x k (k + 9) + sg0 (schTo x k (k + 1))))) (fun w hSw => ?_) hHeld ?_
          · have a := I_add (sg1 (schTo x k (k + 14)) + schTo x k (k + 9)) (sg0 (schTo x k (k + 1))); go_simp
          simp only [sm]
          refine tk 21 (.int .u64 (I (sg1 (schTo x k (k + 14)) + schTo x k (k + 9) + sg0 (schTo x k (k + 1)) + schTo x k k))) (fun w hSw => ?_) hHeld ?_
          · have a := I_add (sg1 (schTo x k (k + 14)) + schTo x k (k + 9) + sg0 (schTo x k (k + 1))) (schTo x k k); go_simp
          simp only [sm]
          refine tk 22 (.pointer (some ⟨w.heap.size + 2, k + 16, none⟩)) (fun w hSw => ?_) hHeld ?_
          · have a1 : (0 : Int) ≤ (k : Int) + 16 := (by omega)
            have a2 : (k : Int) + 16 < 80 := (by omega)
            have a3 : ((k : Int) + 16).toNat = k + 16 := (by omega)
            go_simp
          simp only [sm]
          refine rd 23 (fun K hK => ?_)
          go_simp
          refine hK.out _ _ ?_ (fun hHeld => ?_)
          · have hn : ∀ j, j < k + 16 → (⟨w.heap.size + 1 + 1, k + 16, none⟩ : Addr) ≠ ⟨w.heap.size + 2, j, none⟩ := fun j hj e => by injection e with _ e2; omega
            have hc : ∀ j, j < k + 16 → ∀ v, wr.drew.cell? ⟨w.heap.size + 2, j, none⟩ = some v → (wr.drew.setCell ⟨w.heap.size + 1 + 1, k + 16, none⟩ (.int .u64 (I (sg1 (schTo x k (k + 14)) + schTo x k (k + 9) + sg0 (schTo x k (k + 1)) + schTo x k k)))).cell? ⟨w.heap.size + 2, j, none⟩ = some v := fun j hj v hv => (World.cell?_setCell_other _ _ _ _ (hn j hj)).trans hv
            exact ⟨hc _ (by omega) _ hHeld.1, hc _ (by omega) _ hHeld.2.1, hc _ (by omega) _ hHeld.2.2.1, hc _ (by omega) _ hHeld.2.2.2⟩
          clear hK K
          try simp only [sm]
          refine wpAnyH_done (by kernel_rfl) ?_ _
          clear hHeld c0 c1 c2 c3
          go_wp2
          go_roundw
          case rel => exact ⟨k + 1, by omega, by go_num, (H1.out.more (Below.drew (Below.refl _ _))).step (sch_row H1.out.2.1.drew rfl) ((Only.refl _ _).setCell _ _)⟩
          case measure => simp [intOf]; omega
        · have : k = 64 := by omega
          subst this
          go_wp2_with (first | (refine wpList_load_row rfl 126 _ rfl (w.heap.size + 2) rfl 126 _ (0, 0) _ (row_heap hin.2.1) Tryz.underlying126 rfl (info41v _) ?_) | (refine wpList_store_row rfl 126 _ _ rfl (w.heap.size + 1) _ rfl rfl 126 _ (row_heap hin.1) (info41v _) (by simp) (one_lan _ _) ?_))
          refine bodyPost_ret (results_cell_row rfl _ _ _ _ _ _ _ rfl (setRow_heap _ _ _ _ _ _ (row_heap hin.1)) Tryz.underlying126 rfl (info41v _)) rfl ⟨?_, ?_⟩
          · rw [HX.out]
          · exact ((Only.refl _ _).setRow _).below hin.2.2 (by omega)
end Go.Proofs.YtionjibiemncbabGreat.Sha
