/- Rows of numbers of 64 bits with a sign: what the walks over the document's field use. -/
import Derived.Test.YtmflilgppllebaaBase
import Derived.Deep.OwnRows
import Derived.Laws.Rows
import Derived.Laws.Tables
import Derived.Deep.WholeRow
namespace Go.Proofs.Ytmflilgppllebaa
open Go.RowKit
set_option linter.unusedSimpArgs false
set_option linter.unusedVariables false
/-- The cells of an array, by the index. -/
def vec (n : Nat) (f : Nat → Value) : Array Value := ((List.range n).map f).toArray
@[simp] theorem size_vec (n : Nat) (f : Nat → Value) : (vec n f).size = n := by simp [vec]
theorem get_vec (n : Nat) (f : Nat → Value) (i : Nat) (h : i < n) : (vec n f)[i]? = some (f i) := by
  simp [vec, h]
theorem vec_eq {n : Nat} {f : Nat → Value} {c : Array Value} (hs : c.size = n) (h : ∀ i, i < n → c[i]? = some (f i)) : c = vec n f := by
  apply Array.ext
  · simp [hs]
  · intro i h1 h2
    have a := h i (by omega)
    have b := get_vec n f i (by omega)
    rw [Array.getElem?_eq_getElem h1] at a
    rw [Array.getElem?_eq_getElem h2] at b
    exact Option.some.inj (a.trans b.symm)
theorem vec_congr {n : Nat} {f g : Nat → Value} (h : ∀ i, i < n → f i = g i) : vec n f = vec n g :=
  vec_eq (by simp) (fun i hi => by rw [get_vec n f i hi, h i hi])
theorem row_heap {w : World} {b : Nat} {t : TypeId} {n : Nat} {f : Nat → Value} (h : w.rowIs b t n f) : w.heap[b]? = some (.cells (vec n f) t (0, 0)) := by
  obtain ⟨cs, h1, h2, h3⟩ := h
  rw [h1, vec_eq h2 h3]
theorem heap_row {w : World} {b : Nat} {t : TypeId} {n : Nat} {f : Nat → Value} (h : w.heap[b]? = some (.cells (vec n f) t (0, 0))) : w.rowIs b t n f :=
  ⟨_, h, by simp, fun i hi => get_vec n f i hi⟩
/-- Numbers of 64 bits with a sign. -/
abbrev gv (f : Nat → Int) : Nat → Value := fun j => .int .i64 (f j)
theorem one_gv (n : Nat) (f : Nat → Int) : (vec n (gv f)).all (·.oneCell') = true := by
  rw [Array.all_eq_true]
  intro i hi
  simp [vec, Value.oneCell']
theorem row_drewN {w : World} {b : Nat} {t : TypeId} {n : Nat} {f : Nat → Value} (h : w.rowIs b t n f) (m : Nat) : (w.drewN m).rowIs b t n f := by
  induction m with
  | zero => exact h
  | succ m ih => exact h.of_block (by simp)
theorem gheap_n (w : World) (o : Obj) (n : Nat) (h : w.heap.size = n) : (w.alloc o).heap[n]? = some o := by subst h; exact heap_alloc_new w o
theorem info55v (f : Nat → Value) : (Try.prog.info? 55).map (·.size) = some (vec 16 f).size := by rw [size_vec]; kernel_rfl
theorem zero16 : (#[.int .i64 0, .int .i64 0, .int .i64 0, .int .i64 0, .int .i64 0, .int .i64 0, .int .i64 0, .int .i64 0, .int .i64 0, .int .i64 0, .int .i64 0, .int .i64 0, .int .i64 0, .int .i64 0, .int .i64 0, .int .i64 0] : Array Value) = vec 16 (gv fun _ => 0) := by kernel_rfl
end Go.Proofs.Ytmflilgppllebaa
