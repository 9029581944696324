/- GasBack: the mathematics, rows of words. -/
import Derived.Test.YtlpmmejdfenkiaaGG
import Derived.Deep.WholeRow
import Derived.Laws.Rows
import Derived.Laws.Tables
import Derived.Maps.AppendAt
import Derived.Laws.OwnMore
import Derived.OwnWalk
namespace Go.Proofs.Ytlpmmejdfenkiaa
open Go.RowKit
set_option linter.unusedSimpArgs false
set_option linter.unusedVariables false
/-- What a slot has taken and given so far. -/
def PInv (F N took gave : Int) : Prop := ∃ c : Int, 0 ≤ c ∧ gave = (if F = 0 then 19900 * c else 2800 * c + (if N = 0 then 4800 else 0)) ∧ (if F = 0 then 20000 else 2900) * (c + (if N = F then 0 else 1)) ≤ took
theorem PInv.start (F : Int) : PInv F F 0 0 := ⟨0, by omega, by split <;> simp_all, by simp⟩
theorem PInv.last {F took gave : Int} (h : PInv F F took gave) : 0 ≤ gave ∧ gave ≤ took := by
  obtain ⟨c, h0, h1, h2⟩ := h
  by_cases hF : F = 0
  · simp [hF] at h1 h2; omega
  · simp [hF] at h1 h2; omega
set_option maxHeartbeats 4000000 in
theorem PInv.step {F N X took gave k : Int} (hk : 0 ≤ k) (h : PInv F N took gave) : PInv F X (took + (costN (X == N) (N == F) (F == 0) + k)) (gave + refN (X == N) (N == F) (X == F) (F == 0) (N == 0) (X == 0)) := by
  obtain ⟨c, h0, h1, h2⟩ := h
  by_cases e1 : X = N
  · subst e1
    refine ⟨c, h0, ?_, ?_⟩
    · simp [refN]; exact h1
    · simp [costN]; omega
  · have b1 : (X == N) = false := by simpa using e1
    by_cases e2 : N = F
    · subst e2
      have b2 : (N == N) = true := by simp
      by_cases e3 : N = 0
      · subst e3
        refine ⟨c, h0, ?_, ?_⟩
        · simp [refN, b1] at h1 ⊢; omega
        · simp [costN, b1, e1] at h2 ⊢; omega
      · have b3 : (N == 0) = false := by simpa using e3
        by_cases e4 : X = 0
        · subst e4
          refine ⟨c, h0, ?_, ?_⟩
          · simp [refN, b1, b3, e3] at h1 ⊢; omega
          · simp [costN, b1, b3, e3, e1] at h2 ⊢; omega
        · have b4 : (X == 0) = false := by simpa using e4
          refine ⟨c, h0, ?_, ?_⟩
          · simp [refN, b1, b3, b4, e3, e4] at h1 ⊢; omega
          · simp [costN, b1, b3, e3, e1] at h2 ⊢; omega
    · have b2 : (N == F) = false := by simpa using e2
      by_cases e5 : X = F
      · subst e5
        by_cases e3 : X = 0
        · subst e3
          refine ⟨c + 1, by omega, ?_, ?_⟩
          · simp [refN, clrN, backN, b1, b2] at h1 ⊢; omega
          · simp [costN, b1, b2, e2] at h2 ⊢; omega
        · have b3 : (X == 0) = false := by simpa using e3
          refine ⟨c + 1, by omega, ?_, ?_⟩
          · by_cases e6 : N = 0
            · simp [refN, clrN, backN, b1, b2, b3, e3, e6] at h1 ⊢; omega
            · have b6 : (N == 0) = false := by simpa using e6
              simp [refN, clrN, backN, b1, b2, b3, b6, e3, e6] at h1 ⊢; omega
          · simp [costN, b1, b2, b3, e2, e3] at h2 ⊢; omega
      · have b5 : (X == F) = false := by simpa using e5
        refine ⟨c, h0, ?_, ?_⟩
        · by_cases e3 : F = 0
          · subst e3
            simp [refN, clrN, backN, b1, b2, b5] at h1 ⊢; omega
          · have b3 : (F == 0) = false := by simpa using e3
            by_cases e6 : N = 0
            · subst e6
              simp [refN, clrN, backN, b1, b2, b3, b5, e3, e1] at h1 ⊢; omega
            · have b6 : (N == 0) = false := by simpa using e6
              by_cases e4 : X = 0
              · subst e4
                simp [refN, clrN, backN, b1, b2, b3, b5, b6, e3, e6] at h1 ⊢; omega
              · have b4 : (X == 0) = false := by simpa using e4
                simp [refN, clrN, backN, b1, b2, b3, b4, b5, b6, e3, e4, e6] at h1 ⊢; omega
        · simp [costN, b1, b2, e2, e5] at h2 ⊢; omega
/-- A word. -/
structure Wq where
  x0 : Int
  x1 : Int
  x2 : Int
  x3 : Int
def wC (x : Wq) : List Value := [.int .u64 x.x0, .int .u64 x.x1, .int .u64 x.x2, .int .u64 x.x3]
def wL (A : List Wq) : List Value := A.flatMap wC
def Wq.ok (x : Wq) : Prop := L4 x.x0 x.x1 x.x2 x.x3
theorem wL_append (a b : List Wq) : wL (a ++ b) = wL a ++ wL b := by simp [wL]
theorem wL_length : ∀ A : List Wq, (wL A).length = A.length * 4
  | [] => rfl
  | g :: A => by
    show (wC g ++ wL A).length = _
    rw [List.length_append, wL_length A]
    simp [wC]; omega
theorem wL_at : ∀ (A : List Wq) (i : Nat) (f : Wq), A[i]? = some f → ∀ j, j < 4 → (wL A)[i * 4 + j]? = (wC f)[j]?
  | [], i, f, h, j, hj => by simp at h
  | g :: A, 0, f, h, j, hj => by
    simp at h
    subst h
    show (wC g ++ wL A)[0 * 4 + j]? = _
    rw [List.getElem?_append_left (by simp [wC]; omega)]
    simp
  | g :: A, i + 1, f, h, j, hj => by
    simp at h
    show (wC g ++ wL A)[(i + 1) * 4 + j]? = _
    rw [List.getElem?_append_right (by simp [wC]; omega)]
    have := wL_at A i f h j hj
    simp only [wC, List.length_cons, List.length_nil] at *
    rw [show (i + 1) * 4 + j - (0 + 1 + 1 + 1 + 1) = i * 4 + j from by omega]
    exact this
theorem wL_one (A : List Wq) : ∀ u ∈ wL A, u.oneCell' = true := fun u hu => by
  unfold wL at hu
  rw [List.mem_flatMap] at hu
  obtain ⟨x, _, hx⟩ := hu
  simp only [wC, List.mem_cons, List.not_mem_nil, or_false] at hx
  rcases hx with rfl | rfl | rfl | rfl <;> rfl
theorem info30b : (Try.prog.info? 30).map (fun i => (i.zero, i.size, i.bytes)) = some (some (.agg #[.int .u64 0, .int .u64 0, .int .u64 0, .int .u64 0]), 4, 32) := by kernel_rfl
theorem info30c : ∃ i, Try.prog.info? 30 = some i ∧ i.zero = some (.agg #[.int .u64 0, .int .u64 0, .int .u64 0, .int .u64 0]) ∧ i.size = 4 ∧ i.bytes = 32 := by
  have := info30b
  cases h : Try.prog.info? 30 with
  | none => rw [h] at this; cases this
  | some i =>
    rw [h] at this
    simp at this
    exact ⟨i, rfl, this.1, this.2.1, this.2.2⟩
/-- append of words, as a step of a region. -/
theorem step_append_ws {w : World} {ops : Array Oper} {o : Oper} {a : Act} {K : Act → World → Prop} {Q : Exit → Act → World → Prop} {E : Prop} (hgd : o.guard = none) (s x : Operand)
    (ho : o.op = .call { callee := .builtin .append, args := #[s, x], argTypes := #[42, 42] }) {base n : Nat} {v : Value} {xs : List Value} (hs : a.eval s = v) (hown : w.ownsRow base 30 4 v n xs)
    {sa : Option Addr} {m c : Nat} (hx : a.eval x = .slice sa m c) (A : List Wq) (hl : A.length = m) (hnil : sa = none → m = 0 ∧ c = 0) (hnews : ∀ ad, sa = some ad → ∀ j u, (wL A)[j]? = some u → w.cell? (ad.add j) = some u) (hlen : n + m ≤ 2000) (hbase : base ≤ w.heap.size)
    (h : ∀ v' w', w'.ownsRow base 30 4 v' (n + m) (xs ++ wL A) → w.grownBy w' v.ownBlock → (v'.ownBlock = v.ownBlock ∨ v'.ownBlock = some w.heap.size) → K (a.put o.dst v') w') :
    if Region.wanted o (yielded ops a.tmps) = true then Oper.wp Try.prog o a w K Q else E := by
  have hw : Region.wanted o (yielded ops a.tmps) = true := by simp [Region.wanted, hgd]
  rw [if_pos hw]
  obtain ⟨i0, hi0, hz0, hz1, hz2⟩ := info30c
  cases sa with
  | none =>
    obtain ⟨rfl, rfl⟩ := hnil rfl
    obtain rfl : A = [] := List.eq_nil_of_length_eq_zero hl
    have hr := run_append_owned_none (P := Try.prog) (w := w) base 42 o.type 30 i0 4 Try.underlying42 hi0 v n xs hown
    unfold Oper.wp execOp
    simp only [ho, resolve, invoke, builtin, Sem.run_bind, Sem.run_pure, Result.andThen_ok, List.map_toArray, List.map_cons, List.map_nil, hs, hx, hr]
    exact h v w (by simpa [wL] using hown) (World.grownBy.refl _ _) (Or.inl rfl)
  | some ad =>
    obtain ⟨v', w', hr, h2, h3, _, h5⟩ := run_append_own_at (P := Try.prog) w base 42 o.type 30 i0 _ 4 32 Try.underlying42 hi0 hz0 hz1 hz2 rfl (by decide) v n xs hown ad m c (wL A) (by rw [wL_length, hl]) (hnews ad rfl) (wL_one A) (by unfold maxLen; omega) (by omega) hbase
    unfold Oper.wp execOp
    simp only [ho, resolve, invoke, builtin, Sem.run_bind, Sem.run_pure, Result.andThen_ok, List.map_toArray, List.map_cons, List.map_nil, hs, hx, hr]
    exact h v' w' h2 h3 h5
end Go.Proofs.Ytlpmmejdfenkiaa
