/- net: Flight, Timers. -/
import Derived.Test.YtemapnfbmhjlbaaNR
namespace Go.Proofs.Ytemapnfbmhjlbaa
open Go.RowKit Go.Maps Go.Joins
set_option linter.unusedSimpArgs false
set_option linter.unusedVariables false
theorem El.empty {w : World} {t e : TypeId} {k by_ : Nat} {z : Value} (E : El t e k by_ z) : (w.alloc (.cells #[] e)).ownsRow w.heap.size e k (.slice (some ⟨w.heap.size, 0, none⟩) 0 0) 0 [] :=
  ⟨by simp, Or.inr ⟨w.heap.size, 0, #[], rfl, Nat.le_refl _, by have := heap_alloc_new w (.cells #[] e); simpa using this, Nat.le_refl _, by decide, by simp, by simp⟩⟩
set_option maxRecDepth 100000 in
set_option maxHeartbeats 4000000 in
/-- slices.Clone of packets -/
theorem cloneP_any {w : World} {base : Nat} (v : Value) (X : List Value) (n : Nat) (h : w.ownsRow base 35 4 v n X) (h1 : ∀ u ∈ X, u.oneCell' = true) (hn : n ≤ 1000000) :
    Calls Try.prog 46 #[v] w fun e w' => ∃ v', e = .returned v' ∧ w'.ownsRow w.heap.size 35 4 v' n X ∧ Below w.heap.size w w' := by
  have hXl := h.1
  rcases h.2 with ⟨rfl, rfl⟩ | ⟨g, cap, cur, rfl, _⟩
  · have hX : X = [] := List.eq_nil_of_length_eq_zero (by simpa using hXl)
    subst hX
    have he : ∀ w : World, (binOp .eql 50 (.slice none 0 0) (.slice none 0 0) : Sem Value).run Try.prog w = .ok (.bool true) w := fun w => by kernel_rfl
    go_enter Try.func46, Try.ntmps46
    go_wp2
    go_ret
    exact ⟨_, rfl, World.ownsRow_nil _ _ _ _, Below.refl _ _⟩
  · have HC : Hid (w.ownsRow base 35 4 (.slice (some ⟨g, 0, none⟩) n cap) n X ∧ X.length = n * 4 ∧ ∀ u ∈ X, u.oneCell' = true) := ⟨h, hXl, h1⟩
    clear h hXl h1
    have he : ∀ w : World, (binOp .eql 50 (.slice (some ⟨g, 0, none⟩) n cap) (.slice none 0 0) : Sem Value).run Try.prog w = .ok (.bool false) w := fun w => by kernel_rfl
    go_enter Try.func46, Try.ntmps46
    go_wp2_with (first
      | (at_builtin
         refine elP.wpList_append rfl _ _ rfl w.heap.size (.slice (some ⟨w.heap.size, 0, none⟩) 0 0) 0 [] rfl elP.empty (some ⟨g, 0, none⟩) n cap rfl X HC.out.2.1 (fun _ => ⟨_, rfl, fun j u hu => by
           have h2 := HC.out.1.cells (g := g) rfl j u hu
           exact (Below.cell (by go_grown) (cell_lt h2)).trans h2⟩) (fun h => by cases h) HC.out.2.2 (by omega) (by simp) ?_
         intro v' w2 ho hg ha
         rw [List.nil_append, Nat.zero_add] at ho
         have H2 : Hid (w2.ownsRow w.heap.size 35 4 v' n X ∧ Below w.heap.size w w2) := ⟨ho, ((Below.refl _ w).alloc (Nat.le_refl _) _).grown hg (by simp) (fun j hj => by have h9 : w.heap.size = j := (by simpa [Value.ownBlock] using hj); omega)⟩
         clear ho hg ha))
    go_ret
    exact ⟨v', rfl, H2.out⟩
set_option maxRecDepth 100000 in
set_option maxHeartbeats 4000000 in
/-- slices.Clone of timers -/
theorem cloneT_any {w : World} {base : Nat} (v : Value) (X : List Value) (n : Nat) (h : w.ownsRow base 63 3 v n X) (h1 : ∀ u ∈ X, u.oneCell' = true) (hn : n ≤ 1000000) :
    Calls Try.prog 48 #[v] w fun e w' => ∃ v', e = .returned v' ∧ w'.ownsRow w.heap.size 63 3 v' n X ∧ Below w.heap.size w w' := by
  have hXl := h.1
  rcases h.2 with ⟨rfl, rfl⟩ | ⟨g, cap, cur, rfl, _⟩
  · have hX : X = [] := List.eq_nil_of_length_eq_zero (by simpa using hXl)
    subst hX
    have he : ∀ w : World, (binOp .eql 46 (.slice none 0 0) (.slice none 0 0) : Sem Value).run Try.prog w = .ok (.bool true) w := fun w => by kernel_rfl
    go_enter Try.func48, Try.ntmps48
    go_wp2
    go_ret
    exact ⟨_, rfl, World.ownsRow_nil _ _ _ _, Below.refl _ _⟩
  · have HC : Hid (w.ownsRow base 63 3 (.slice (some ⟨g, 0, none⟩) n cap) n X ∧ X.length = n * 3 ∧ ∀ u ∈ X, u.oneCell' = true) := ⟨h, hXl, h1⟩
    clear h hXl h1
    have he : ∀ w : World, (binOp .eql 46 (.slice (some ⟨g, 0, none⟩) n cap) (.slice none 0 0) : Sem Value).run Try.prog w = .ok (.bool false) w := fun w => by kernel_rfl
    go_enter Try.func48, Try.ntmps48
    go_wp2_with (first
      | (at_builtin
         refine elT.wpList_append rfl _ _ rfl w.heap.size (.slice (some ⟨w.heap.size, 0, none⟩) 0 0) 0 [] rfl elT.empty (some ⟨g, 0, none⟩) n cap rfl X HC.out.2.1 (fun _ => ⟨_, rfl, fun j u hu => by
           have h2 := HC.out.1.cells (g := g) rfl j u hu
           exact (Below.cell (by go_grown) (cell_lt h2)).trans h2⟩) (fun h => by cases h) HC.out.2.2 (by omega) (by simp) ?_
         intro v' w2 ho hg ha
         rw [List.nil_append, Nat.zero_add] at ho
         have H2 : Hid (w2.ownsRow w.heap.size 63 3 v' n X ∧ Below w.heap.size w w2) := ⟨ho, ((Below.refl _ w).alloc (Nat.le_refl _) _).grown hg (by simp) (fun j hj => by have h9 : w.heap.size = j := (by simpa [Value.ownBlock] using hj); omega)⟩
         clear ho hg ha))
    go_ret
    exact ⟨v', rfl, H2.out⟩
theorem timers_nil (w : World) : Calls Try.prog 27 #[.pointer none] w fun e w' => e = .returned (.slice none 0 0) ∧ w' = w := by
  go_enter Try.func27, Try.ntmps27
  go_wp2
  go_ret
  exact ⟨rfl, rfl⟩
/-- Timers -/
theorem timers_any {w : World} {b : Nat} {N : NS} (h : NetIs w b N) (ho : NOk N) :
    Calls Try.prog 27 #[.pointer (some ⟨b, 0, none⟩)] w fun e w' => ∃ v, e = .returned v ∧ w'.ownsRow w.heap.size 63 3 v N.tm.length (tmL N.tm) ∧ Below w.heap.size w w' := by
  have c7 := h.cells.2.2.2.2.2.2.2
  obtain ⟨ta, tc, htv⟩ := row_form h.tm
  have HC : Hid _ := cloneT_any N.tv (tmL N.tm) N.tm.length h.tm (tmL_one _) (by have := ho.tm; omega)
  rw [htv] at HC c7
  generalize N.tm.length = n at *
  clear h ho htv
  go_enter Try.func27, Try.ntmps27
  go_wp2_with (go_at_call 48; refine Calls.mono HC.out ?_; rintro e w1 ⟨v, rfl, q1, q2⟩; have HQ : Hid _ := And.intro q1 q2; clear q1 q2 HC)
  go_ret
  exact ⟨v, rfl, HQ.out⟩
theorem ownsRow_set {w : World} {base size n g j : Nat} {e : TypeId} {v u : Value} {xs : List Value} (h : w.ownsRow base e size v n xs) (hg : v.ownBlock = some g) (hj : j < n * size) : (w.setCell ⟨g, j, none⟩ u).ownsRow base e size v n (xs.set j u) := by
  rcases h.2 with ⟨rfl, _⟩ | ⟨g', cap, cur, rfl, hb, hc, h1, h2, h3, h4⟩
  · cases hg
  · injection hg with hg
    have hg : g' = g := hg
    subst hg
    refine ⟨by rw [List.length_set]; exact h.1, Or.inr ⟨g', cap, cur.setIfInBounds j u, rfl, hb, block_setCell hc _, h1, h2, by simpa using h3, ?_⟩⟩
    rw [Array.toList_setIfInBounds, ← h4, List.take_set]
theorem pkL_set : ∀ (l : List PK) (i : Nat) (p : PK) (u : Value), l[i]? = some p → (pkL l).set (i * 4 + 3) u = pkL (l.set i { p with dv := u })
  | [], i, p, u, h => by simp at h
  | q :: l, 0, p, u, h => by
    simp at h
    subst h
    show (pkC q ++ pkL l).set (0 * 4 + 3) u = pkC { q with dv := u } ++ pkL l
    rw [List.set_append_left _ _ (by simp [pkC])]
    rfl
  | q :: l, i + 1, p, u, h => by
    have h' : l[i]? = some p := by simpa using h
    show (pkC q ++ pkL l).set ((i + 1) * 4 + 3) u = pkC q ++ pkL (l.set i { p with dv := u })
    have hl : (pkC q).length = 4 := rfl
    rw [List.set_append_right _ _ (by rw [hl]; omega), hl, show (i + 1) * 4 + 3 - 4 = i * 4 + 3 from by omega, pkL_set l i p u h']
end Go.Proofs.Ytemapnfbmhjlbaa
