/- The document's hash. -/
import Derived.Test.YtmhfgchckebnpaaDoorS1
import Derived.OwnWalk
namespace Go.Proofs.YtmhfgchckebnpaaDoor
open Go.RowKit Go.Shelf
set_option linter.unusedSimpArgs false
set_option linter.unusedVariables false

theorem info5b : (Tryd.prog.info? 5).map (fun i => (i.zero, i.size, i.bytes)) = some (some (.int .u8 0), 1, 1) := by kernel_rfl
theorem info5c : ∃ i, Tryd.prog.info? 5 = some i ∧ i.zero = some (.int .u8 0) ∧ i.size = 1 ∧ i.bytes = 1 := info_parts info5b
theorem grownBy_refl (w : World) (r : Option Nat) : w.grownBy w r := ⟨rfl, rfl, rfl, Nat.le_refl _, fun _ _ _ => rfl⟩
/-- append(v, m...) where v is the call's own. -/
theorem wpList_append_bytes {w : World} {ops : Array Oper} {rest : List Oper} {o : Oper} {a : Act} {Q : Exit → Act → World → Prop} (hgd : o.guard = none) (s x : Operand)
    (ho : o.op = .call { callee := .builtin .append, args := #[s, x], argTypes := #[27, 27] }) (base : Nat)
    (v : Value) (n : Nat) (xs : List Value) (hs : a.eval s = v) (hown : w.ownsRow base 5 1 v n xs)
    (ao : Option Addr) (len cap : Nat) (m : Nat → BitVec 8) (hx : a.eval x = .slice ao len cap) (hb : Bytes w ao len cap m) (hno : ao = none → len = 0 ∧ cap = 0)
    (hbytes : n + len ≤ 140737488355328) (hbase : base ≤ w.heap.size)
    (h : ∀ v' w', w'.ownsRow base 5 1 v' (n + len) (xs ++ bl m len) → w.grownBy w' v.ownBlock → wpList Tryd.prog ops Q rest (a.put o.dst v') w') : wpList Tryd.prog ops Q (o :: rest) a w := by
  obtain ⟨i0, hi, hz0, hz1, hz2⟩ := info5c
  obtain ⟨bb, off, h1, h2, h3, h4⟩ := hb
  cases ao with
  | none =>
    obtain ⟨rfl, rfl⟩ := hno rfl
    refine wpList_append_own_none hgd s x 27 ho base 5 i0 1 Tryd.underlying27 hi v n xs hs hown hx ?_
    exact h v w (by simpa [bl] using hown) (grownBy_refl _ _)
  | some ad =>
    refine wpList_append_own w hgd s x 27 ho base 5 i0 (.int .u8 0) 1 1 Tryd.underlying27 hi hz0 hz1 hz2 rfl (by decide) v n xs hs hown ad len cap (bl m len) hx (by rw [bl_length, Nat.mul_one]) ?_ (bl_one m len) (by unfold maxLen; omega) (by omega) hbase (fun v' w' a b _ => h v' w' a b)
    intro j u hu
    by_cases hj : j < len
    · rw [bl_get m len j hj] at hu
      cases hu
      have e := h1 (by omega)
      cases e
      rw [Addr.add_lit]
      exact h2 j hj
    · rw [List.getElem?_eq_none (by rw [bl_length]; omega)] at hu
      cases hu
theorem Bytes.one (w : World) (x : Int) (m : Nat → BitVec 8) (hm : x = I8 (m 0)) : Bytes (w.alloc (.cells #[.int .u8 x] 5)) (some ⟨w.heap.size, 0, none⟩) 1 1 m :=
  ⟨w.heap.size, 0, fun _ => rfl, fun j hj => by
    obtain rfl : j = 0 := by omega
    subst hm
    rw [cell_of_row _ w.heap.size 0 _ 5 (0, 0) (heap_alloc_new _ _)]
    rfl, by omega, by omega, by omega⟩
/-- A slice's length. -/
def lenB : Value → Nat
  | .slice _ n _ => n
  | _ => 0
theorem own_form {w : World} {base k : Nat} {v : Value} {m : Nat → BitVec 8} (h : w.ownsRow base 5 1 v k (bl m k)) (hk : 0 < k) : ∃ g cap, v = .slice (some ⟨g, 0, none⟩) k cap ∧ base ≤ g ∧ g < w.heap.size := by
  rcases h.2 with ⟨_, h0⟩ | ⟨g, cap, cur, hv, hb, r, _⟩
  · omega
  · exact ⟨g, cap, hv, hb, (Array.getElem?_eq_some_iff.1 r).1⟩
theorem bl_last (msg : Nat → BitVec 8) (n M : Nat) : (bl (pms msg n) (M + 1)).set M (.int .u8 (I8 (pms msg n M ||| 128#8))) = bl (fm msg n (M + 1)) (M + 1) := by
  apply List.ext_getElem?
  intro i
  by_cases hi : i < M + 1
  · rw [bl_get _ _ _ hi, List.getElem?_set]
    by_cases e : M = i
    · subst e
      rw [if_pos rfl, if_pos (by rw [bl_length]; omega)]
      simp only [byt, fm, Nat.add_sub_cancel, if_true]
    · rw [if_neg e, bl_get _ _ _ hi]
      simp only [byt, fm, Nat.add_sub_cancel]
      rw [if_neg (by omega)]
  · rw [List.getElem?_eq_none (by rw [List.length_set, bl_length]; omega), List.getElem?_eq_none (by rw [bl_length]; omega)]
/-- The worlds of the hash's loops: the answer's block, the message, the lanes. -/
def Sm (w : World) (g b T : Nat) (F : Nat → BitVec 8) (S : Nat → BitVec 64) (wr : World) : Prop :=
  wr.rowIs w.heap.size 29 32 (byt fun _ => 0#8) ∧ (∀ i, i < T → wr.cell? ⟨g, i, none⟩ = some (byt F i)) ∧ wr.rowIs b 23 25 (lan S) ∧ Below w.heap.size w wr ∧ w.heap.size < g ∧ g < b
theorem Sm.off {w : World} {g b T : Nat} {F : Nat → BitVec 8} {S S' : Nat → BitVec 64} {w1 w2 : World} (h : Sm w g b T F S w1) (hr : w2.rowIs b 23 25 (lan S')) (o : Only b w1 w2) : Sm w g b T F S' w2 :=
  ⟨o.row (by have := h.2.2.2.2; omega) h.1, fun i hi => (World.cell?_of_block (o.block g (by have := h.2.2.2.2; omega))).trans (h.2.1 i hi), hr, o.below h.2.2.2.1 (by have := h.2.2.2.2; omega), h.2.2.2.2⟩
theorem Sm.more {w : World} {g b T : Nat} {F : Nat → BitVec 8} {S : Nat → BitVec 64} {w1 w2 : World} (h : Sm w g b T F S w1) (o : Below w1.heap.size w1 w2) : Sm w g b T F S w2 :=
  ⟨h.1.of_block (o.block _ h.1.lt), fun i hi => (o.cell (p := ⟨g, i, none⟩) (block_lt_of_cell (h.2.1 i hi))).trans (h.2.1 i hi), h.2.2.1.of_block (o.block _ h.2.2.1.lt), h.2.2.2.1.trans (o.mono h.2.2.2.1.size), h.2.2.2.2⟩
/-- The worlds of the padding's loop. -/
def Pd (w : World) (v : Value) (msg : Nat → BitVec 8) (n k : Nat) (wr : World) : Prop :=
  wr.rowIs w.heap.size 29 32 (byt fun _ => 0#8) ∧ wr.ownsRow (w.heap.size + 1) 5 1 v k (bl (pms msg n) k) ∧ Below w.heap.size w wr
theorem Pd.next {w : World} {v v' : Value} {msg : Nat → BitVec 8} {n k : Nat} {w1 w2 : World} {o : Obj} (h : Pd w v msg n k w1) (hk : n < k) (hown : w2.ownsRow (w.heap.size + 1) 5 1 v' (k + 1) (bl (pms msg n) k ++ bl (fun _ => 0#8) 1)) (hg : (w1.alloc o).grownBy w2 v.ownBlock) : Pd w v' msg n (k + 1) w2 := by
  have hlt := h.2.1.lt
  have h1 := (h.1.alloc o)
  refine ⟨h1.of_block (hg.block _ h1.lt (fun e => by have := (hlt _ e.symm).1; omega)), ?_, ?_⟩
  · rw [← pms_next msg n k hk]; exact hown
  · exact Below.grown (h.2.2.alloc h.2.2.size _) hg (by have := h.2.2.size; simp; omega) (fun g e => by have := (hlt g e).1; omega)
end Go.Proofs.YtmhfgchckebnpaaDoor
