/- Variables that hold words: laws for walks. -/
import Derived.Test.YtmflilgppllebaaFV
namespace Go.Proofs.Ytmflilgppllebaa
open Go.RowKit
set_option linter.unusedSimpArgs false
set_option linter.unusedVariables false

/-- The cells of a value that is an array. -/
def cw (v : Value) : Array Value := match v with | .agg c => c | _ => #[]
theorem IsW.agg {v : Value} {x : Int} (h : IsW v x) : v = .agg (cw v) ∧ (cw v).size = 4 ∧ (cw v).all (·.oneCell') = true := by
  obtain ⟨s0, s1, s2, s3, rfl, _, _⟩ := h
  exact ⟨rfl, rfl, fone4 s0 s1 s2 s3⟩
/-- The variable at z holds the word v. -/
def VarW (w : World) (z : Nat) (v : Value) : Prop := (∃ x, IsW v x) ∧ w.heap[z]? = some (.cells (cw v) 24 (0, 0))
theorem VarW.lt {w : World} {z : Nat} {v : Value} (h : VarW w z v) : z < w.heap.size := flt_of_some h.2
theorem VarW.kept {w w' : World} {z : Nat} {v : Value} (h : VarW w z v) (hb : Below w.heap.size w w') : VarW w' z v := ⟨h.1, Go.Proofs.Ytmflilgppllebaa.kept h.2 hb⟩
theorem VarW.keptB {B : Nat} {w w' : World} {z : Nat} {v : Value} (h : VarW w z v) (hb : Below B w w') (hz : z < B) : VarW w' z v := ⟨h.1, (hb.block _ hz).trans h.2⟩
theorem VarW.drew {w : World} {z : Nat} {v : Value} (h : VarW w z v) : VarW w.drew z v := h
theorem VarW.agg {w : World} {z : Nat} {v : Value} (h : VarW w z v) : v = .agg (cw v) := by obtain ⟨⟨x, hx⟩, _⟩ := h; exact hx.agg.1
theorem cw_info {v : Value} {x : Int} (h : IsW v x) : (Try.prog.info? 24).map (·.size) = some (cw v).size := by rw [h.agg.2.1]; kernel_rfl
theorem VarW.load {w : World} {z : Nat} {v : Value} (h : VarW w z v) : (loadVar 24 ⟨z, 0, none⟩).run Try.prog w = .ok v w := by
  obtain ⟨⟨x, hx⟩, hh⟩ := h
  have := run_loadVar_row (P := Try.prog) w z 24 24 (cw v) (0, 0) _ hh Try.underlying24 rfl (cw_info hx)
  rw [← hx.agg.1] at this
  exact this
theorem VarW.other {w : World} {z y : Nat} {v : Value} (h : VarW w z v) (hn : z ≠ y) (c : Array Value) : VarW (w.setRow y c) z v := ⟨h.1, (setRow_other _ _ _ _ hn).trans h.2⟩
theorem VarW.put {w : World} {z : Nat} {v u : Value} {y : Int} (h : VarW w z v) (hu : IsW u y) : VarW (w.setRow z (cw u)) z u := ⟨⟨y, hu⟩, setRow_heap _ _ _ _ _ _ h.2⟩
theorem VarW.store {w : World} {z : Nat} {v u : Value} {y : Int} (h : VarW w z v) (hu : IsW u y) : (storeVar 24 ⟨z, 0, none⟩ u).run Try.prog w = .ok () (w.setRow z (cw u)) := by
  obtain ⟨⟨x, hx⟩, hh⟩ := h
  have := run_storeVar_row (P := Try.prog) w z 24 24 _ (cw u) hh (cw_info hu) (by rw [hx.agg.2.1, hu.agg.2.1]) hu.agg.2.2
  rw [← hu.agg.1] at this
  exact this
theorem isw0 : IsW (W4 0 0 0 0) 0 := isw_small 0 (by decide)
theorem isw1 : IsW (W4 1 0 0 0) 1 := isw_small 1 (by decide)
theorem VarW.mk {w : World} {z : Nat} {a0 a1 a2 a3 : Int} (ha : L4 a0 a1 a2 a3) (h : w.heap[z]? = some (.cells (C4 a0 a1 a2 a3) 24 (0, 0))) : VarW w z (W4 a0 a1 a2 a3) := ⟨⟨_, IsW.mk ha⟩, h⟩
theorem VarW.new (w : World) : VarW (w.alloc (.cells (C4 0 0 0 0) 24)) w.heap.size (W4 0 0 0 0) := ⟨⟨0, isw0⟩, heap_alloc_new w _⟩
theorem VarW.new1 {a0 a1 a2 a3 : Int} (ha : L4 a0 a1 a2 a3) (w : World) : VarW (w.alloc (.cells (C4 a0 a1 a2 a3) 24)) w.heap.size (W4 a0 a1 a2 a3) := ⟨⟨_, IsW.mk ha⟩, heap_alloc_new w _⟩
theorem VarW.old {w : World} {z : Nat} {v : Value} (h : VarW w z v) (o : Obj) : VarW (w.alloc o) z v := ⟨h.1, heap_old _ _ _ _ h.2⟩

theorem wpList_load_varW {ops : Array Oper} {rest : List Oper} {o : Oper} {a : Act} {w : World} {Q : Exit → Act → World → Prop} (hgd : o.guard = none) (x : Operand) (ho : o.op = .load 24 x)
    (z : Nat) (hx : a.eval x = .pointer (some ⟨z, 0, none⟩)) {v : Value} (hz : VarW w z v) (h : wpList Try.prog ops Q rest (a.put o.dst v) w) : wpList Try.prog ops Q (o :: rest) a w := by
  obtain ⟨⟨y, hy⟩, hh⟩ := hz
  refine wpList_load_row hgd 24 x ho z hx 24 (cw v) (0, 0) _ hh Try.underlying24 rfl (cw_info hy) ?_
  rw [← hy.agg.1]; exact h
theorem wpList_store_varW {ops : Array Oper} {rest : List Oper} {o : Oper} {a : Act} {w : World} {Q : Exit → Act → World → Prop} (hgd : o.guard = none) (x y : Operand) (ho : o.op = .store 24 x y)
    (z : Nat) (hx : a.eval x = .pointer (some ⟨z, 0, none⟩)) {u : Value} {n : Int} (hy : a.eval y = u) (hu : IsW u n) {v : Value} (hz : VarW w z v) (h : wpList Try.prog ops Q rest (a.put o.dst undef) (w.setRow z (cw u))) : wpList Try.prog ops Q (o :: rest) a w := by
  obtain ⟨⟨m, hm⟩, hh⟩ := hz
  exact wpList_store_row hgd 24 x y ho z (cw u) hx (hy.trans hu.agg.1) 24 _ hh (cw_info hu) (by rw [hm.agg.2.1, hu.agg.2.1]) hu.agg.2.2 h
theorem step_store_varW {ops : Array Oper} {o : Oper} {a : Act} {w : World} {K : Act → World → Prop} {Q : Exit → Act → World → Prop} {E : Prop} (hw : Region.wanted o (yielded ops a.tmps) = true) (x y : Operand) (ho : o.op = .store 24 x y)
    (z : Nat) (hx : a.eval x = .pointer (some ⟨z, 0, none⟩)) {u : Value} {n : Int} (hy : a.eval y = u) (hu : IsW u n) {v : Value} (hz : VarW w z v)
    (h : K (a.put o.dst undef) (w.setRow z (cw u))) : if Region.wanted o (yielded ops a.tmps) = true then Oper.wp Try.prog o a w K Q else E :=
  step_store_row hw 24 x y ho z (cw u) hx (hy.trans hu.agg.1) (by have := hz.store hu; rw [hu.agg.1] at this; exact this) h
/-- The comparison of two words. -/
theorem eqW' {va vb : Value} {x y : Int} {b : Bool} (ha : IsW va x) (hb : IsW vb y) (hxy : (x == y) = b) (w : World) : (Op.equalIn 10000 24 va vb).run Try.prog w = .ok b w := by
  rw [eqW ha hb w, hxy]
end Go.Proofs.Ytmflilgppllebaa
