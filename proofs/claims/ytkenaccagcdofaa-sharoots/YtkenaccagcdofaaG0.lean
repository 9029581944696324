/- Rows and bytes in memory: what the walks over sha use. -/
import Derived.Test.YtkenaccagcdofaaH1
import Derived.Deep.WholeRow
import Derived.Laws.CopyOwn
import Derived.Shelf.RegionOpen
namespace Go.Proofs.Ytkenaccagcdofaa
open Go.RowKit Go.Shelf
set_option linter.unusedSimpArgs false
set_option linter.unusedVariables false
attribute [local go_sem] Oper.semAt_some

/-- Block b alone has turned; no block is new. -/
structure Only (b : Nat) (w w' : World) : Prop where
  os : w'.os = w.os
  tape : w'.tape = w.tape
  output : w'.output = w.output
  size : w'.heap.size = w.heap.size
  block : ∀ k, k ≠ b → w'.heap[k]? = w.heap[k]?
theorem Only.refl (b : Nat) (w : World) : Only b w w := ⟨rfl, rfl, rfl, rfl, fun _ _ => rfl⟩
theorem Only.trans {b : Nat} {u v w : World} (h : Only b u v) (k : Only b v w) : Only b u w :=
  ⟨k.os.trans h.os, k.tape.trans h.tape, k.output.trans h.output, k.size.trans h.size, fun i hi => (k.block i hi).trans (h.block i hi)⟩
theorem Only.drew {b : Nat} {u v : World} (h : Only b u v) : Only b u v.drew := ⟨h.os, h.tape, h.output, h.size, h.block⟩
theorem Only.setCell {b : Nat} {u v : World} (h : Only b u v) (o : Nat) (x : Value) : Only b u (v.setCell ⟨b, o, none⟩ x) :=
  h.trans ⟨rfl, rfl, rfl, by simp, fun k hk => Go.Deep.blk_setCell_other _ _ _ _ hk⟩
theorem Only.setRow {b : Nat} {u v : World} (h : Only b u v) (c : Array Value) : Only b u (v.setRow b c) :=
  h.trans ⟨rfl, rfl, rfl, by simp, fun k hk => setRow_other _ _ _ _ hk⟩
theorem Only.row {b b' : Nat} {u v : World} (h : Only b u v) (hb : b' ≠ b) {t : TypeId} {n : Nat} {f : Nat → Value} (hr : u.rowIs b' t n f) : v.rowIs b' t n f := hr.of_block (h.block _ hb)
theorem Only.below {b B : Nat} {a u v : World} (h : Only b u v) (k : Below B a u) (hb : B ≤ b) : Below B a v :=
  k.trans ⟨h.os, h.tape, h.output, by rw [h.size]; exact Nat.le_refl _, fun i hi => h.block i (by omega)⟩
theorem row_drewN {w : World} {b : Nat} {t : TypeId} {n : Nat} {f : Nat → Value} (h : w.rowIs b t n f) (m : Nat) : (w.drewN m).rowIs b t n f := by
  induction m with
  | zero => exact h
  | succ m ih => exact h.of_block (by simp)
/-- A byte as a number. -/
def I8 (x : BitVec 8) : Int := (x.toNat : Int)
theorem I8_bd (x : BitVec 8) : 0 ≤ I8 x ∧ I8 x < 256 := by
  unfold I8; have := x.isLt; omega
theorem I8_inj {x y : BitVec 8} (h : I8 x = I8 y) : x = y := by
  unfold I8 at h; exact BitVec.eq_of_toNat_eq (by omega)
abbrev byt (p : Nat → BitVec 8) : Nat → Value := fun j => .int .u8 (I8 (p j))
theorem one_byt (n : Nat) (p : Nat → BitVec 8) : (vec n (byt p)).all (·.oneCell') = true := by
  rw [Array.all_eq_true]
  intro i hi
  simp [vec, Value.oneCell']
theorem I_byte (x : BitVec 8) : I8 x = I (x.setWidth 64) := by
  unfold I8 I; rw [BitVec.toNat_setWidth]; have := x.isLt; congr 1; omega
theorem heap2 (w : World) (A B C : Obj) : (((w.alloc A).alloc B).alloc C).heap[w.heap.size + 1]? = some B := by
  have h : (((w.alloc A).alloc B).alloc C).heap[w.heap.size + 1]? = ((w.alloc A).alloc B).heap[w.heap.size + 1]? := heap_alloc_old _ _ (by simp)
  rw [h]
  exact heap_alloc2_new w A B
theorem run_index_vec {P : Program} (t e n : Nat) (ht : ∀ w, (underlying t).run P w = .ok (.array n e) w) (hs : ∀ w, (sizeOf e).run P w = .ok 1 w) (ha : ∀ w, (isAgg e).run P w = .ok false w) (f : Nat → Value) (i : Nat) (hi : i < n) (w : World) :
    (Instr.index t (.agg (vec n f)) (.int .i64 (i : Int))).run P w = .ok (f i) w := by
  have h1 : (0 : Int) ≤ (i : Int) ∧ (i : Int) < (n : Int) := by omega
  simp only [Instr.index, asIntOf, Sem.run_bind, Sem.run_pure, Result.andThen_ok, ht, hs, part, ha, h1, and_self, if_true, Int.toNat_natCast, Nat.mul_one, get_vec n f i hi]
  simp
theorem splice_vec (n off c : Nat) (f src : Nat → Value) (hfit : off + c ≤ n) :
    ((vec n f).toList.take off ++ (List.range c).map src ++ (vec n f).toList.drop (off + c)).toArray = vec n (fun j => if off ≤ j ∧ j < off + c then src (j - off) else f j) := by
  have hl : (vec n f).toList = (List.range n).map f := rfl
  rw [hl]
  apply vec_eq
  · simp; omega
  · intro i hi
    rw [List.getElem?_toArray]
    by_cases h1 : i < off
    · rw [List.append_assoc, List.getElem?_append_left (by simp; omega), List.getElem?_take_of_lt h1, List.getElem?_map, List.getElem?_range (by omega), if_neg (by omega)]
      rfl
    · by_cases h2 : i < off + c
      · rw [List.append_assoc, List.getElem?_append_right (by simp; omega), List.getElem?_append_left (by simp; omega), List.getElem?_map, List.length_take, List.length_map, List.length_range, show min off n = off from by omega, List.getElem?_range (by omega), if_pos ⟨by omega, h2⟩]
        rfl
      · rw [List.getElem?_append_right (by simp; omega), List.getElem?_drop, List.length_append, List.length_take, List.length_map, List.length_range, List.length_map, List.length_range, show min off n = off from by omega, show off + c + (i - (off + c)) = i from by omega, List.getElem?_map, List.getElem?_range hi, if_neg (by omega)]
        rfl
theorem step_copy_vec {P : Program} {ops : Array Oper} {o : Oper} {a : Act} {w : World} {K : Act → World → Prop} {Q : Exit → Act → World → Prop} {E : Prop} (hgd : o.guard = none) (d s : Operand) (dT sT : TypeId)
    (ho : o.op = .call { callee := .builtin .copy, args := #[d, s], argTypes := #[dT, sT] }) (elem : TypeId) (hu : P.underlying dT = some (.slice elem)) (hsz : (P.info? elem).map (·.size) = some 1)
    (g off n : Nat) (t : TypeId) (f : Nat → Value) (hg : w.rowIs g t n f) (c dLen dCap sLen sCap : Nat) (ad : Addr) (hd : a.eval d = .slice (some ⟨g, off, none⟩) dLen dCap) (hs : a.eval s = .slice (some ad) sLen sCap)
    (hc : c = Nat.min sLen dLen) (src : Nat → Value) (hsrc : ∀ j, j < c → w.cell? (ad.add j) = some (src j)) (h1 : ∀ j, j < c → (src j).oneCell' = true) (hfit : off + c ≤ n)
    (h : ∀ w', w'.rowIs g t n (fun j => if off ≤ j ∧ j < off + c then src (j - off) else f j) → Only g w w' → K (a.put o.dst (.int .i64 (c : Int))) w') :
    if Region.wanted o (yielded ops a.tmps) = true then Oper.wp P o a w K Q else E := by
  have hw : Region.wanted o (yielded ops a.tmps) = true := by simp [Region.wanted, hgd]
  rw [if_pos hw]
  have hrun := run_copy_row (P := P) w dT sT o.type elem g off dLen dCap ad sLen sCap (vec n f) t ((List.range c).map src) hu hsz (row_heap hg) (by simpa using hc) (fun j v hv => by
    rw [List.getElem?_map] at hv
    by_cases hj : j < c
    · rw [List.getElem?_range hj] at hv; simp at hv; subst hv; exact hsrc j hj
    · rw [List.getElem?_eq_none (by simpa using hj)] at hv; cases hv) (by simpa using hfit) (fun v hv => by
    obtain ⟨j, hj, rfl⟩ := List.mem_map.1 hv
    exact h1 j (by simpa using hj))
  unfold Oper.wp
  simp only [List.length_map, List.length_range] at hrun
  simp [execOp, ho, resolve, invoke, builtin, hd, hs, hrun, Result.andThen]
  refine h _ (heap_row ?_) ((Only.refl _ _).setRow _)
  rw [setRow_heap w g _ _ t _ (row_heap hg)]
  congr 2
  simpa using splice_vec n off c f src hfit
theorem gb_refl (w : World) (row : Option Nat) : w.grownBy w row := ⟨rfl, rfl, rfl, Nat.le_refl _, fun _ _ _ => rfl⟩
theorem gb_trans {u v w : World} {row : Option Nat} (h : u.grownBy v row) (k : v.grownBy w row) : u.grownBy w row :=
  ⟨k.os.trans h.os, k.tape.trans h.tape, k.output.trans h.output, Nat.le_trans h.size k.size, fun i hi hr => (k.block i (Nat.lt_of_lt_of_le hi h.size) hr).trans (h.block i hi hr)⟩
theorem Only.gb {b : Nat} {w w' : World} (h : Only b w w') : w.grownBy w' (some b) :=
  ⟨h.os, h.tape, h.output, Nat.le_of_eq h.size.symm, fun i _ hr => h.block i (fun e => hr (by rw [e]))⟩
def slen : Value → Nat
  | .slice _ n _ => n
  | _ => 0
theorem run_loadVar_mid {P : Program} (w : World) (g off N : Nat) (ty e : TypeId) (f : Nat → Value) (hc : ∀ j, j < N → w.cell? ⟨g, off + j, none⟩ = some (f j)) (hu : P.underlying ty = some (.array N e)) (hi : (P.info? ty).map (·.size) = some N) :
    (loadVar ty ⟨g, off, none⟩).run P w = .ok (.agg (vec N f)) w := by
  have hl : (loadCells ⟨g, off, none⟩ (vec N f).toList.length).run P w = .ok (vec N f).toList.toArray w :=
    run_loadCells_list (P := P) w ⟨g, off, none⟩ (vec N f).toList (fun j v hv => by
      have hadd : (⟨g, off, none⟩ : Addr).add j = ⟨g, off + j, none⟩ := by unfold Addr.add; split <;> simp_all
      rw [hadd]
      have hv' : (vec N f)[j]? = some v := by simpa using hv
      by_cases hj : j < N
      · rw [get_vec N f j hj] at hv'; cases hv'; exact hc j hj
      · rw [Array.getElem?_eq_none (by simp; omega)] at hv'; cases hv')
  cases hq : P.info? ty with
  | none => simp [hq] at hi
  | some i =>
    have hs : i.size = N := by simpa [hq] using hi
    have hagg : (isAgg ty).run P w = .ok true w := by
      unfold isAgg
      rw [Sem.run_bind, run_underlying hu w]
      simp
    simp only [Array.length_toList, Array.toArray_toList, size_vec] at hl
    simp [loadVar, Sem.run_bind, hagg, sizeOf, typeInfo, hq, hs, hl]
theorem rest_from (bb o L cp c : Nat) (hc : c ≤ L) (hL : L ≤ cp) : ∃ a2 : Option Addr, (c < L → a2 = some ⟨bb, o + c, none⟩) ∧ (∀ w, (Instr.sliceAt 22 (.slice (some ⟨bb, o, none⟩) L cp) (some (.int .i64 (c : Int))) none none).run Try.prog w = .ok (.slice a2 (L - c) (cp - c)) w) ∧ (∀ w, (Instr.slice 22 (.slice (some ⟨bb, o, none⟩) L cp) (some (.int .i64 (c : Int))) none none).run Try.prog w = .ok (.slice a2 (L - c) (cp - c)) w) := by
  have he : Try.prog.elem 22 = 5 := by kernel_rfl
  have h2 : ∀ w, (Instr.slice 22 (.slice (some ⟨bb, o, none⟩) L cp) (some (.int .i64 (c : Int))) none none).run Try.prog w = .ok (.slice (if cp = c then some ⟨bb, o, none⟩ else some ⟨bb, o + c, none⟩) (L - c) (cp - c)) w := fun w => by
    rw [run_slice_l w 22 _ L cp (by kernel_rfl) .i64 (c : Int) (by omega) (by omega), he, Try.sizeOf5]
    simp only [Result.andThen, sliced, Int.toNat_natCast]
    by_cases h0 : c = 0
    · subst h0; simp [Addr.add]
    · simp [Addr.add, h0]
  refine ⟨_, fun h => if_neg (by omega), fun w => ?_, h2⟩
  rw [run_sliceAt_slice w 22 _ _ _ _ (by kernel_rfl)]
  exact h2 w
theorem run_storeVar_vec {P : Program} (w : World) (g off N M : Nat) (t ty : TypeId) (f src : Nat → Value) (hg : w.rowIs g t M f) (hfit : off + N ≤ M) (hi : (P.info? ty).map (·.size) = some N) (h1 : ∀ j, j < N → (src j).oneCell' = true) :
    (storeVar ty ⟨g, off, none⟩ (.agg (vec N src))).run P w = .ok () (w.setRow g (vec M (fun j => if off ≤ j ∧ j < off + N then src (j - off) else f j))) := by
  have hst := run_storeCells_at P g off t ((List.range N).map src) 0 (vec M f) w (row_heap hg) (by simpa using hfit) (fun v hv => by
    obtain ⟨j, hj, rfl⟩ := List.mem_map.1 hv
    exact h1 j (by simpa using hj))
  simp only [Nat.add_zero, List.length_map, List.length_range, splice_vec M off N f src hfit] at hst
  cases hq : P.info? ty with
  | none => simp [hq] at hi
  | some i =>
    have hs : i.size = N := by simpa [hq] using hi
    have hv : (vec N src).toList = (List.range N).map src := rfl
    simp [storeVar, sizeOf, typeInfo, hq, Value.cells, hs, hv, hst]
theorem run_load_exec {P : Program} {a : Act} {o : Oper} {w : World} {v : Value} (ty : TypeId) (x : Operand) (ho : o.op = .load ty x) (g : Addr) (hx : a.eval x = .pointer (some g)) (h : (loadVar ty g).run P w = .ok v w) : (execOp a.eval o).run P w = .ok (.value v) w := by
  unfold execOp
  simp only [ho, hx, Instr.loadAt, Instr.sureAddr, Sem.run_bind, Sem.run_pure, Result.andThen_ok, h]
theorem step_load_mid {P : Program} {ops : Array Oper} {o : Oper} {a : Act} {w : World} {K : Act → World → Prop} {Q : Exit → Act → World → Prop} {E : Prop} (hw : Region.wanted o (yielded ops a.tmps) = true) (ty : TypeId) (x : Operand) (ho : o.op = .load ty x)
    (g off N : Nat) (hx : a.eval x = .pointer (some ⟨g, off, none⟩)) (f : Nat → Value) (hc : ∀ j, j < N → w.cell? ⟨g, off + j, none⟩ = some (f j)) (e : TypeId) (hu : P.underlying ty = some (.array N e)) (hi : (P.info? ty).map (·.size) = some N)
    (h : K (a.put o.dst (.agg (vec N f))) w) : if Region.wanted o (yielded ops a.tmps) = true then Oper.wp P o a w K Q else E := by
  rw [if_pos hw]
  unfold Oper.wp
  rw [run_load_exec ty x ho _ hx (run_loadVar_mid w g off N ty e f hc hu hi)]
  exact h
theorem step_store_vec {P : Program} {ops : Array Oper} {o : Oper} {a : Act} {w : World} {K : Act → World → Prop} {Q : Exit → Act → World → Prop} {E : Prop} (hw : Region.wanted o (yielded ops a.tmps) = true) (ty : TypeId) (x y : Operand) (ho : o.op = .store ty x y)
    (g off N M : Nat) (src f : Nat → Value) (t : TypeId) (hx : a.eval x = .pointer (some ⟨g, off, none⟩)) (hy : a.eval y = .agg (vec N src)) (hg : w.rowIs g t M f) (hfit : off + N ≤ M) (hi : (P.info? ty).map (·.size) = some N) (h1 : ∀ j, j < N → (src j).oneCell' = true)
    (h : K (a.put o.dst undef) (w.setRow g (vec M (fun j => if off ≤ j ∧ j < off + N then src (j - off) else f j)))) : if Region.wanted o (yielded ops a.tmps) = true then Oper.wp P o a w K Q else E := by
  rw [if_pos hw]
  unfold Oper.wp execOp
  simp only [ho, hx, hy, Instr.storeAt, Instr.sureAddr, Sem.run_bind, Sem.run_pure, Result.andThen_ok, run_storeVar_vec w g off N M t ty f src hg hfit hi h1]
  exact h
def noDefer (ops : Array Oper) : Bool := ops.all fun o => match o.op with | .defer _ => false | _ => true
theorem noDefer_spec {ops : Array Oper} (h : noDefer ops = true) (i : Nat) (o : Oper) (ho : ops[i]? = some o) (c : Call) : o.op ≠ .defer c := by
  intro e
  have hm := Array.mem_of_getElem? ho
  have := (Array.all_eq_true_iff_forall_mem.1 h) o hm
  rw [e] at this
  cases this
theorem ofInt_I8 (x : BitVec 8) : BitVec.ofInt 8 (I8 x) = x := by
  unfold I8; rw [BitVec.ofInt_natCast, BitVec.ofNat_toNat, BitVec.setWidth_eq]
theorem I8_wrap (x : BitVec 8) : IntKind.u8.wrap (I8 x) = I8 x := by
  rw [IntKind.wrap_u8']; have := I8_bd x; omega
theorem heap_n (w : World) (o : Obj) (n : Nat) (h : w.heap.size = n) : (w.alloc o).heap[n]? = some o := by subst h; exact heap_alloc_new w o
theorem setRow_n (w : World) (c c' : Array Value) (t : TypeId) (n : Nat) (h : w.heap.size = n) : (w.alloc (.cells c t)).setRow n c' = w.alloc (.cells c' t) := by subst h; exact World.setRow_alloc_new w c c' t
theorem heap1of2 (w : World) (A B : Obj) : ((w.alloc A).alloc B).heap[w.heap.size]? = some A := (heap_alloc_old _ _ (by simp)).trans (heap_alloc_new _ _)
theorem heap2of2 (w : World) (A B : Obj) : ((w.alloc A).alloc B).heap[w.heap.size + 1]? = some B := heap_n _ _ _ (by simp)
theorem heap1of3 (w : World) (A B C : Obj) : (((w.alloc A).alloc B).alloc C).heap[w.heap.size]? = some A := (heap_alloc_old _ _ (by simp; omega)).trans (heap1of2 _ _ _)
theorem heap2of3 (w : World) (A B C : Obj) : (((w.alloc A).alloc B).alloc C).heap[w.heap.size + 1]? = some B := heap2 _ _ _ _
theorem heap3of3 (w : World) (A B C : Obj) : (((w.alloc A).alloc B).alloc C).heap[w.heap.size + 2]? = some C := heap_n _ _ _ (by simp)
end Go.Proofs.Ytkenaccagcdofaa
