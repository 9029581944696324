/- net: no timer stands behind the clock. -/
import Derived.Test.YtemapnfbmhjlbaaQD
namespace Go.Proofs.Ytemapnfbmhjlbaa
open Go.RowKit Go.Maps Go.Joins
set_option linter.unusedVariables false
def Gd (A : NA) : Prop := ∀ t ∈ A.tm, A.clk ≤ t.at_
theorem Gd.same {A B : NA} (h : Gd A) (e1 : B.tm = A.tm) (e2 : B.clk = A.clk) : Gd B := fun t ht => by rw [e2]; exact h t (by rw [← e1]; exact ht)
theorem Gd.send {A : NA} (h : Gd A) (x y : Int) (bs : List Int) : Gd (nSend A x y bs).2 := by
  unfold nSend
  repeat' split
  all_goals exact h
theorem Gd.copy {A : NA} (h : Gd A) (x : Int) : Gd (nCopy A x).2 := by
  unfold nCopy
  repeat' split
  all_goals exact h
theorem Gd.take {A : NA} (h : Gd A) (x : Int) : Gd (nTake A x).2.2 := by
  unfold nTake
  split
  all_goals exact h
theorem Gd.clear {A : NA} (h : Gd A) (x : Int) : Gd (nClear A x) := fun t ht => h t (List.mem_filter.1 ht).1
theorem Gd.set {A : NA} (h : Gd A) (node tag delay : Int) : Gd (nSet A node tag delay).2 := by
  unfold nSet
  repeat' split
  · exact h
  · exact h
  · exact h
  · exact h
  · intro t ht
    have ht' : t ∈ insT A.tm ⟨node, tag, A.clk + delay⟩ := ht
    unfold insT at ht'
    simp only [List.mem_append, List.mem_singleton] at ht'
    rcases ht' with (ht' | ht') | ht'
    · exact h t (List.mem_of_mem_take ht')
    · rw [ht']
      show A.clk ≤ A.clk + delay
      omega
    · exact h t (List.mem_of_mem_drop ht')
theorem Gd.tick {A : NA} {M : Int} (h : Gd A) (ho : AOk A M) (most : Int) : Gd (nTick A most).2 := by
  have hc := ho.ck
  have wt : (∀ t ∈ A.tm, A.clk + max most 0 ≤ t.at_) → Gd (nWait A most) := fun hf t ht => by
    have h1 := hf t ht
    show A.clk + min (max most 0) (1099511627776 - A.clk) ≤ t.at_
    omega
  rcases he : A.tm with _ | ⟨t, r⟩
  · have e : nTick A most = ([], nWait A most) := by unfold nTick; rw [he]
    rw [e]
    exact wt (fun t ht => by rw [he] at ht; cases ht)
  · have hfirst : ∀ x ∈ A.tm, t.at_ ≤ x.at_ := fun x hx => by
      obtain ⟨i, hi, rfl⟩ := List.getElem_of_mem hx
      rcases Nat.eq_zero_or_pos i with rfl | hp
      · simp [he]
      · exact ho.asc 0 i t _ (by rw [he]; rfl) (List.getElem?_eq_getElem hi) hp
    have hclk : A.clk ≤ t.at_ := h t (by rw [he]; exact List.mem_cons_self)
    by_cases hf : max most 0 < t.at_ - A.clk
    · have e : nTick A most = ([], nWait A most) := by
        unfold nTick
        rw [he]
        exact if_pos hf
      rw [e]
      exact wt (fun x hx => by have := hfirst x hx; omega)
    · have e : nTick A most = (A.tm.take (many A.tm), { A with clk := max t.at_ A.clk, tm := A.tm.drop (many A.tm) }) := by
        unfold nTick
        rw [he]
        exact if_neg hf
      have hm : max t.at_ A.clk = t.at_ := by omega
      rw [e, hm]
      exact fun x hx => hfirst x (List.mem_of_mem_drop hx)
end Go.Proofs.Ytemapnfbmhjlbaa
