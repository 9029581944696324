/- The document's answer: the permutation, its parts as mathematics. -/
import Derived.Test.YtmhfgchckebnpaaDoorR2
namespace Go.Proofs.YtmhfgchckebnpaaDoor
open Go.RowKit
set_option linter.unusedSimpArgs false
set_option linter.unusedVariables false

/-- The sums of the columns over the first i lanes. -/
def colTo (S : Nat → BitVec 64) : Nat → Nat → BitVec 64
  | 0 => fun _ => 0#64
  | i + 1 => fun x => if x = i % 5 then colTo S i x ^^^ S i else colTo S i x
set_option maxRecDepth 10000 in
theorem col25 (S : Nat → BitVec 64) (x : Nat) (hx : x < 5) : colTo S 25 x = sums S x := by
  rcases (by omega : x = 0 ∨ x = 1 ∨ x = 2 ∨ x = 3 ∨ x = 4) with rfl | rfl | rfl | rfl | rfl
  all_goals
    simp only [colTo, sums, Nat.reduceMod, Nat.reduceAdd]
    simp
theorem col_row {S : Nat → BitVec 64} {i b : Nat} {w : World} (h : w.rowIs b 46 5 (lan (colTo S i))) {v : Value} (hv : v = .int .u64 (I (colTo S i (i % 5) ^^^ S i))) : (w.setCell ⟨b, i % 5, none⟩ v).rowIs b 46 5 (lan (colTo S (i + 1))) := by
  refine (h.set _ _).congr ?_
  intro x hx
  subst hv
  simp only [lan, colTo]
  by_cases e : x = i % 5
  · subst e; rw [if_pos rfl, if_pos rfl]
  · rw [if_neg e, if_neg e]
/-- Where pi leads the lane i, and whence it comes. -/
def piOf (i : Nat) : Nat := i / 5 + 5 * ((2 * (i % 5) + 3 * (i / 5)) % 5)
def inv (j : Nat) : Nat := if j = 0 then 0 else path (pos j - 1)
theorem pi_path : ∀ t : Fin 24, piOf (path t.val) = path (t.val + 1) := by decide
theorem inv_pi : ∀ i : Fin 25, inv (piOf i.val) = i.val ∧ piOf i.val < 25 := by decide
theorem pi_inv : ∀ j : Fin 25, piOf (inv j.val) = j.val ∧ inv j.val < 25 := by decide
theorem pi_walk (T : Nat → BitVec 64) (i : Nat) (hi : i < 25) : walk T (piOf i) = (T i).rotateLeft (offTo 24 i) := by
  by_cases h0 : i = 0
  · subst h0
    have e : offTo 24 0 = 0 := by decide
    have e2 : piOf 0 = 0 := by decide
    rw [e, e2]
    unfold walk walkTo
    rw [if_neg (by simp)]
    exact (rot_64 (T 0) 0).symm
  · obtain ⟨h1, h2⟩ := path_pos0 ⟨i, hi⟩ h0
    simp only at h1 h2
    have hp := pi_path ⟨pos0 i, h2⟩
    have hq := pos_path ⟨pos0 i, h2⟩
    simp only [h1] at hp hq
    rw [hp]
    unfold walk walkTo offTo
    rw [if_pos ⟨hq.2.1, by omega⟩, hq.1, Nat.add_sub_cancel, h1, if_pos ⟨h0, h2⟩]
/-- The place of the lane i in the order of the loops over x, then y. -/
def ord (i : Nat) : Nat := 5 * (i % 5) + i / 5
theorem ord_inj {x y i : Nat} (hx : x < 5) (hy : y < 5) (hi : i < 25) (h : ord i = 5 * x + y) : i = x + 5 * y := by unfold ord at h; omega
theorem ord_at {x y : Nat} (hx : x < 5) (hy : y < 5) : ord (x + 5 * y) = 5 * x + y := by unfold ord; omega
theorem ord_lt {i : Nat} (hi : i < 25) : ord i < 25 := by unfold ord; omega
def bTo (T : Nat → BitVec 64) (m j : Nat) : BitVec 64 := if ord (inv j) < m then walk T j else 0#64
theorem b_row {T : Nat → BitVec 64} {x y b p : Nat} {w : World} (hx : x < 5) (hy : y < 5) (hp : p = piOf (x + 5 * y)) (h : w.rowIs b 23 25 (lan (bTo T (5 * x + y)))) {v : Value} (hv : v = .int .u64 (I ((T (x + 5 * y)).rotateLeft (offTo 24 (x + 5 * y))))) :
    (w.setCell ⟨b, p, none⟩ v).rowIs b 23 25 (lan (bTo T (5 * x + y + 1))) := by
  refine (h.set _ _).congr ?_
  intro j hj
  subst hv hp
  have hw := pi_walk T (x + 5 * y) (by omega)
  have hi := inv_pi ⟨x + 5 * y, by omega⟩
  have ho := ord_at hx hy
  simp only at hi
  simp only [lan, bTo]
  by_cases e : j = piOf (x + 5 * y)
  · subst e
    rw [if_pos rfl, hi.1, ho, if_pos (by omega), hw]
  · rw [if_neg e]
    have hne : ord (inv j) ≠ 5 * x + y := fun he => e (by
      have h1 := pi_inv ⟨j, hj⟩
      simp only at h1
      rw [← ord_inj hx hy h1.2 he]
      exact h1.1.symm)
    by_cases hl : ord (inv j) < 5 * x + y
    · rw [if_pos hl, if_pos (by omega)]
    · rw [if_neg hl, if_neg (by omega)]
theorem b_full (T : Nat → BitVec 64) (j : Nat) (hj : j < 25) : bTo T 25 j = walk T j := by
  unfold bTo; rw [if_pos (ord_lt (pi_inv ⟨j, hj⟩).2)]
def sTo (R W : Nat → BitVec 64) (m i : Nat) : BitVec 64 := if ord i < m then mix W i else R i
theorem s_row {R W : Nat → BitVec 64} {x y b p : Nat} {w : World} (hx : x < 5) (hy : y < 5) (hp : p = x + 5 * y) (h : w.rowIs b 23 25 (lan (sTo R W (5 * x + y)))) {v : Value} (hv : v = .int .u64 (I (mix W (x + 5 * y)))) :
    (w.setCell ⟨b, p, none⟩ v).rowIs b 23 25 (lan (sTo R W (5 * x + y + 1))) := by
  refine (h.set _ _).congr ?_
  intro j hj
  subst hv hp
  have ho := ord_at hx hy
  simp only [lan, sTo]
  by_cases e : j = x + 5 * y
  · subst e; rw [if_pos rfl, ho, if_pos (by omega)]
  · rw [if_neg e]
    have hne : ord j ≠ 5 * x + y := fun he => e (ord_inj hx hy hj he)
    by_cases hl : ord j < 5 * x + y
    · rw [if_pos hl, if_pos (by omega)]
    · rw [if_neg hl, if_neg (by omega)]
theorem mix_at (W : Nat → BitVec 64) (x y : Nat) (hx : x < 5) : mix W (x + 5 * y) = W (x + 5 * y) ^^^ (~~~ W ((x + 1) % 5 + 5 * y) &&& W ((x + 2) % 5 + 5 * y)) := by
  unfold mix
  rw [show (x + 5 * y) / 5 * 5 = 5 * y from by omega, show (x + 5 * y) % 5 = x from by omega, BitVec.and_comm, Nat.add_comm (5 * y) ((x + 2) % 5), Nat.add_comm (5 * y) ((x + 1) % 5)]
theorem theta_at (S : Nat → BitVec 64) (x y : Nat) (hx : x < 5) : theta S (x + 5 * y) = S (x + 5 * y) ^^^ sums S ((x + 4) % 5) ^^^ (sums S ((x + 1) % 5)).rotateLeft 1 := by
  unfold theta spread dif
  rw [show (x + 5 * y) % 5 = x from by omega, BitVec.xor_assoc]
/-- The worlds of a round of the reference. -/
def Rp (w : World) (bo bc : Nat) (R : Nat → BitVec 64) (wr : World) : Prop :=
  wr.rowIs w.heap.size 23 25 (lan R) ∧ wr.rowIs (w.heap.size + 1) 23 25 (lan fun _ => 0#64) ∧ wr.rowIs bo 44 25 (offv 24) ∧ wr.rowIs bc 39 24 (lan RC) ∧ Below w.heap.size w wr
theorem Rp.off {w wr wv : World} {bo bc b : Nat} {R : Nat → BitVec 64} (ho : w.heap.size + 1 < bo) (hc : bo < bc) (hb : bc < b) (h : Rp w bo bc R wr) (o : Only b wr wv) : Rp w bo bc R wv :=
  ⟨o.row (by omega) h.1, o.row (by omega) h.2.1, o.row (by omega) h.2.2.1, o.row (by omega) h.2.2.2.1, o.below h.2.2.2.2 (by omega)⟩
theorem Rp.state {w wr wv : World} {bo bc : Nat} {R R' : Nat → BitVec 64} (ho : w.heap.size + 1 < bo) (hc : bo < bc) (h : Rp w bo bc R wr) (hr : wv.rowIs w.heap.size 23 25 (lan R')) (o : Only w.heap.size wr wv) : Rp w bo bc R' wv :=
  ⟨hr, o.row (by omega) h.2.1, o.row (by omega) h.2.2.1, o.row (by omega) h.2.2.2.1, o.below h.2.2.2.2 (Nat.le_refl _)⟩
theorem Rp.more {w wr wv : World} {bo bc : Nat} {R : Nat → BitVec 64} (h : Rp w bo bc R wr) (o : Below wr.heap.size wr wv) : Rp w bo bc R wv :=
  ⟨h.1.of_block (o.block _ h.1.lt), h.2.1.of_block (o.block _ h.2.1.lt), h.2.2.1.of_block (o.block _ h.2.2.1.lt), h.2.2.2.1.of_block (o.block _ h.2.2.2.1.lt), h.2.2.2.2.trans (o.mono h.2.2.2.2.size)⟩
end Go.Proofs.YtmhfgchckebnpaaDoor
