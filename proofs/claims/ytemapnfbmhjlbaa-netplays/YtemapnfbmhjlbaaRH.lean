/- net: the reference's Set, whatever comes. -/
import Derived.Test.YtemapnfbmhjlbaaRG
namespace Go.Proofs.Ytemapnfbmhjlbaa
open Go.RowKit Go.Maps Go.Joins
set_option linter.unusedSimpArgs false
set_option linter.unusedVariables false
theorem rset_any {w : World} {b : Nat} {N : RS} (h : RIs w b N) (ho : ROk N) (hs : Asc N.tm) (node tag delay : Int) :
    Calls Try.prog 19 #[.pointer (some ⟨b, 0, none⟩), .int .i64 node, .int .i64 tag, .int .i64 delay] w fun e w' => RtR w b N (nSet (absR N) node tag delay) e w' := by
  have no : ∀ R : Int, ((R = 1 ∧ (isB N.nodes node = false ∨ (isB N.nodes node = true ∧ delay < 0) ∨ (isB N.nodes node = true ∧ ¬ delay < 0 ∧ 1099511627776 - N.clk < delay))) ∨ (R = 3 ∧ isB N.nodes node = true ∧ ¬ delay < 0 ∧ ¬ 1099511627776 - N.clk < delay ∧ 4096 ≤ N.tm.length)) → Calls Try.prog 19 #[.pointer (some ⟨b, 0, none⟩), .int .i64 node, .int .i64 tag, .int .i64 delay] w fun e w' => RtR w b N (R, absR N) e w' := fun R hc => by
    refine (rset_no h ho node tag delay R hc).mono ?_
    rintro e w' ⟨rfl, rfl⟩
    exact ⟨rfl, N, h, RFr.refl _ _, rfl⟩
  unfold nSet
  rw [show (absR N).nodes = N.nodes from rfl, show (absR N).clk = N.clk from rfl, show (absR N).tm = N.tm from rfl]
  cases h1 : isB N.nodes node
  · rw [if_pos rfl]
    exact no 1 (Or.inl ⟨rfl, Or.inl h1⟩)
  rw [if_neg (by decide)]
  by_cases h2 : delay < 0
  · rw [if_pos h2]
    exact no 1 (Or.inl ⟨rfl, Or.inr (Or.inl ⟨h1, h2⟩)⟩)
  rw [if_neg h2]
  by_cases h3 : 1099511627776 - N.clk < delay
  · rw [if_pos h3]
    exact no 1 (Or.inl ⟨rfl, Or.inr (Or.inr ⟨h1, h2, h3⟩)⟩)
  rw [if_neg h3]
  by_cases h4 : 4096 ≤ N.tm.length
  · rw [if_pos h4]
    exact no 3 (Or.inr ⟨rfl, h1, h2, h3, h4⟩)
  rw [if_neg h4]
  obtain ⟨ta, tc, htv, hnil, htc, hg0, hcells⟩ := h.tmv
  cases hta : ta with
  | none =>
    obtain ⟨e1, e2⟩ := hnil hta
    exact rset_nil h ho hs node tag delay h1 (by omega) h3 (by omega) e1 (by rw [htv, hta, e1, e2])
  | some a =>
    obtain ⟨g, rfl⟩ := hg0 a hta
    exact rset_some h ho hs node tag delay h1 (by omega) h3 (by omega) g ⟨tc, by rw [htv, hta]⟩
end Go.Proofs.Ytemapnfbmhjlbaa
