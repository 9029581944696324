/- The Hasher in memory; copy into a row; keccak's blocks. -/
import Derived.Test.YtmhfgchckebnpaaDoorKE
import Derived.Laws.CopyOwn
namespace Go.Proofs.YtmhfgchckebnpaaDoor
open Go.RowKit Go.Shelf
set_option linter.unusedSimpArgs false
set_option linter.unusedVariables false
attribute [local go_sem] Oper.semAt_some

/-- A Hasher's cells: the state, the part, how many bytes are held. -/
def has (S : Nat → BitVec 64) (p : Nat → BitVec 8) (h : Nat) : Nat → Value := fun j => if j < 25 then .int .u64 (I (S j)) else if j < 161 then .int .u8 (I8 (p (j - 25))) else .int .i64 (h : Int)
theorem has_state {S : Nat → BitVec 64} {p : Nat → BitVec 8} {h j : Nat} (hj : j < 25) : has S p h j = .int .u64 (I (S j)) := by unfold has; rw [if_pos hj]
theorem has_part {S : Nat → BitVec 64} {p : Nat → BitVec 8} {h i : Nat} (hi : i < 136) : has S p h (25 + i) = .int .u8 (I8 (p i)) := by unfold has; rw [if_neg (by omega), if_pos (by omega), Nat.add_sub_cancel_left]
theorem has_held {S : Nat → BitVec 64} {p : Nat → BitVec 8} {h : Nat} : has S p h 161 = .int .i64 (h : Int) := by unfold has; rw [if_neg (by omega), if_neg (by omega)]
theorem has_one (S : Nat → BitVec 64) (p : Nat → BitVec 8) (h j : Nat) : (has S p h j).oneCell' = true := by
  unfold has; split
  · rfl
  · split <;> rfl
/-- The state behind k blocks of a message. -/
def stAfter (msg : Nat → BitVec 8) : Nat → Nat → BitVec 64
  | 0 => fun _ => 0
  | k + 1 => permute RCs (absTo (stAfter msg k) (fun i => msg (136 * k + i)) 136)
theorem absTo_congr {S : Nat → BitVec 64} {p q : Nat → BitVec 8} : ∀ k, (∀ i, i < k → p i = q i) → absTo S p k = absTo S q k
  | 0, _ => rfl
  | k + 1, h => by
    unfold absTo
    rw [absTo_congr k (fun i hi => h i (by omega)), h k (by omega)]
theorem stAfter_congr {m m' : Nat → BitVec 8} : ∀ k, (∀ i, i < 136 * k → m i = m' i) → stAfter m k = stAfter m' k
  | 0, _ => rfl
  | k + 1, h => by
    unfold stAfter
    rw [stAfter_congr k (fun i hi => h i (by omega)), absTo_congr 136 (fun i hi => h (136 * k + i) (by omega))]
/-- In block hb stands a Hasher into which the first n bytes of the message were written. -/
def HasIn (W : World) (hb : Nat) (msg : Nat → BitVec 8) (n : Nat) : Prop :=
  ∃ p : Nat → BitVec 8, W.rowIs hb 56 162 (has (stAfter msg (n / 136)) p (n % 136)) ∧ ∀ i, i < n % 136 → p i = msg (136 * (n / 136) + i)
theorem HasIn.congr {W : World} {hb n : Nat} {m m' : Nat → BitVec 8} (h : HasIn W hb m n) (e : ∀ i, i < n → m i = m' i) : HasIn W hb m' n := by
  obtain ⟨p, hr, hp⟩ := h
  refine ⟨p, ?_, fun i hi => (hp i hi).trans (e _ (by omega))⟩
  rw [← stAfter_congr (n / 136) (fun i hi => e i (by omega))]
  exact hr

theorem splice_vec (n off c : Nat) (f src : Nat → Value) (hfit : off + c ≤ n) :
    ((vec n f).toList.take off ++ (List.range c).map src ++ (vec n f).toList.drop (off + c)).toArray = vec n (fun j => if off ≤ j ∧ j < off + c then src (j - off) else f j) := by
  have hl : (vec n f).toList = (List.range n).map f := rfl
  rw [hl]
  apply vec_eq
  · simp; omega
  · intro i hi
    rw [List.getElem?_toArray]
    by_cases h1 : i < off
    · rw [List.append_assoc, List.getElem?_append_left (by simp; omega), List.getElem?_take_of_lt h1, List.getElem?_map, List.getElem?_range (by omega), if_neg (by omega)]
      rfl
    · by_cases h2 : i < off + c
      · rw [List.append_assoc, List.getElem?_append_right (by simp; omega), List.getElem?_append_left (by simp; omega), List.getElem?_map, List.length_take, List.length_map, List.length_range, show min off n = off from by omega, List.getElem?_range (by omega), if_pos ⟨by omega, h2⟩]
        rfl
      · rw [List.getElem?_append_right (by simp; omega), List.getElem?_drop, List.length_append, List.length_take, List.length_map, List.length_range, List.length_map, List.length_range, show min off n = off from by omega, show off + c + (i - (off + c)) = i from by omega, List.getElem?_map, List.getElem?_range hi, if_neg (by omega)]
        rfl
theorem step_copy_vec {P : Program} {ops : Array Oper} {o : Oper} {a : Act} {w : World} {K : Act → World → Prop} {Q : Exit → Act → World → Prop} {E : Prop} (hgd : o.guard = none) (d s : Operand) (dT sT : TypeId)
    (ho : o.op = .call { callee := .builtin .copy, args := #[d, s], argTypes := #[dT, sT] }) (elem : TypeId) (hu : P.underlying dT = some (.slice elem)) (hsz : (P.info? elem).map (·.size) = some 1)
    (g off n : Nat) (t : TypeId) (f : Nat → Value) (hg : w.rowIs g t n f) (c dLen dCap sLen sCap : Nat) (ad : Addr) (hd : a.eval d = .slice (some ⟨g, off, none⟩) dLen dCap) (hs : a.eval s = .slice (some ad) sLen sCap)
    (hc : c = Nat.min sLen dLen) (src : Nat → Value) (hsrc : ∀ j, j < c → w.cell? (ad.add j) = some (src j)) (h1 : ∀ j, j < c → (src j).oneCell' = true) (hfit : off + c ≤ n)
    (h : ∀ w', w'.rowIs g t n (fun j => if off ≤ j ∧ j < off + c then src (j - off) else f j) → Only g w w' → K (a.put o.dst (.int .i64 (c : Int))) w') :
    if Region.wanted o (yielded ops a.tmps) = true then Oper.wp P o a w K Q else E := by
  have hw : Region.wanted o (yielded ops a.tmps) = true := by simp [Region.wanted, hgd]
  rw [if_pos hw]
  have hrun := run_copy_row (P := P) w dT sT o.type elem g off dLen dCap ad sLen sCap (vec n f) t ((List.range c).map src) hu hsz (row_heap hg) (by simpa using hc) (fun j v hv => by
    rw [List.getElem?_map] at hv
    by_cases hj : j < c
    · rw [List.getElem?_range hj] at hv; simp at hv; subst hv; exact hsrc j hj
    · rw [List.getElem?_eq_none (by simpa using hj)] at hv; cases hv) (by simpa using hfit) (fun v hv => by
    obtain ⟨j, hj, rfl⟩ := List.mem_map.1 hv
    exact h1 j (by simpa using hj))
  unfold Oper.wp
  simp only [List.length_map, List.length_range] at hrun
  simp [execOp, ho, resolve, invoke, builtin, hd, hs, hrun, Result.andThen]
  refine h _ (heap_row ?_) ((Only.refl _ _).setRow _)
  rw [setRow_heap w g _ _ t _ (row_heap hg)]
  congr 2
  simpa using splice_vec n off c f src hfit
end Go.Proofs.YtmhfgchckebnpaaDoor
