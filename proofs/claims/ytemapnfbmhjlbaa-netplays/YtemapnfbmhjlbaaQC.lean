/- net: Clear. -/
import Derived.Test.YtemapnfbmhjlbaaQB
namespace Go.Proofs.Ytemapnfbmhjlbaa
open Go.RowKit Go.Maps Go.Joins
set_option linter.unusedSimpArgs false
set_option linter.unusedVariables false
set_option maxRecDepth 100000 in
set_option maxHeartbeats 8000000 in
/-- Clear -/
theorem clear_any {w : World} {b : Nat} {N : NS} (h : NetIs w b N) (ho : NOk N) (x : Int) :
    Calls Try.prog 20 #[.pointer (some ⟨b, 0, none⟩), .int .i64 x] w fun e w' => e = .returned (.tuple #[]) ∧ ∃ N', NetIs w' b N' ∧ NFr w w' N N' ∧ absN N' = nClear (absN N) x := by
  have hb := h.lt
  have c7 := h.cells.2.2.2.2.2.2.2
  obtain ⟨ta, tc, htv⟩ := row_form h.tm
  have hW : Below w.heap.size w (w.alloc (.cells #[.int .i64 x] 3)) := (Below.refl _ w).alloc (Nat.le_refl _) _
  have hWx : (w.alloc (.cells #[.int .i64 x] 3)).cell? ⟨w.heap.size, 0, none⟩ = some (.int .i64 x) := by rw [cell_of_block (heap_alloc_new w _)]; rfl
  have h1 := h.below hW
  have hrow := h1.tm
  rw [htv] at hrow
  obtain ⟨n, hn⟩ : ∃ n, n = N.tm.length := ⟨_, rfl⟩
  have key : Calls Try.prog 41 #[.slice ta n tc, .func (.func 42) #[] #[.pointer (some ⟨w.heap.size, 0, none⟩)]] (w.alloc (.cells #[.int .i64 x] 3)) fun e w' => ∃ va k vc, e = .returned (.slice va k vc) ∧ k = (keepT N.tm x).length ∧ NetIs (w'.setCell ⟨b, 7, none⟩ (.slice va k vc)) b (setT N (.slice va k vc) (keepT N.tm x)) ∧ NFr w (w'.setCell ⟨b, 7, none⟩ (.slice va k vc)) N (setT N (.slice va k vc) (keepT N.tm x)) ∧ w'.frozen? ⟨b, 7, none⟩ = false ∧ ∃ u, w'.cell? ⟨b, 7, none⟩ = some u := by
    by_cases hall : ∀ t ∈ N.tm, t.nd ≠ x
    · refine (delf_no (c := tc) hn (by have := ho.tm; omega) (TmV.of hrow) hWx hall).mono ?_
      rintro e w2 ⟨rfl, hb2⟩
      have h2 := h1.below hb2
      have hk := keepT_none hall
      have hend := setT_end (w2 := w2) (v := .slice ta n tc) (l := keepT N.tm x) h2 (World.grownBy.refl _ _) (by rw [hk, hn, ← htv]; exact h2.tm) (Or.inl (by rw [htv, hn]))
      exact ⟨ta, n, tc, rfl, by rw [hk, hn], hend.1, (NFr.below (hW.trans (hb2.mono hW.size))).trans hend.2, h2.unfrozen 7, _, h2.cells.2.2.2.2.2.2.2⟩
    · obtain ⟨i0, t0, h0, he0, hf⟩ : ∃ (i : Nat) (t : TM), N.tm[i]? = some t ∧ t.nd = x ∧ ∀ (j : Nat) (s : TM), N.tm[j]? = some s → j < i → s.nd ≠ x := by
        cases hfi : N.tm.findIdx? (fun t => t.nd == x) with
        | none =>
          rw [List.findIdx?_eq_none_iff] at hfi
          exact absurd (fun t ht => by simpa using hfi t ht) hall
        | some i =>
          rw [List.findIdx?_eq_some_iff_getElem] at hfi
          obtain ⟨h1, h2, h3⟩ := hfi
          refine ⟨i, _, List.getElem?_eq_getElem h1, by simpa using h2, fun j s hs hj => ?_⟩
          have h4 := h3 j hj
          obtain ⟨q1, q2⟩ := List.getElem?_eq_some_iff.1 hs
          rw [q2] at h4
          simpa using h4
      have hi0 := (List.getElem?_eq_some_iff.1 h0).1
      rcases hrow.2 with ⟨_, e0⟩ | ⟨g, cap, cur, e1, _, hg, q1, q2, q3, q4⟩
      · omega
      · injection e1 with e1 _ e3
        subst e1 e3
        have hgl : g < w.heap.size := (h.tm.lt g (by rw [htv]; rfl)).2
        have hd := delf_yes (cap := tc) (cur0 := cur.toList) hn ho.tm (by omega) (by unfold maxLen at q2; omega) (by simpa using hg) (by simpa using q3) (by rw [hn]; exact q4) (TmV.of hrow) hWx (by omega) h0 he0 hf
        refine hd.mono ?_
        rintro e w2 ⟨cur2, rfl, g1, g2, g3, g4⟩
        have hkl : (keepT N.tm x).length ≤ n := by rw [hn]; exact List.length_filter_le _ _
        have htg : N.tv.ownBlock = some g := by rw [htv]; rfl
        have hend := setT_end (w2 := w2) (v := .slice (some ⟨g, 0, none⟩) (keepT N.tm x).length tc) (l := keepT N.tm x) h1 (by rw [htg]; exact g1) ⟨by rw [tmL_length], Or.inr ⟨g, tc, cur2.toArray, rfl, Nat.zero_le _, g2, by omega, q2, by simpa using g3, by simpa using g4⟩⟩ (Or.inl (by rw [htg]; rfl))
        have hgb : g ≠ b := fun e => by have h8 := h.rt g htg; rw [e, h.rn] at h8; cases h8
        have hb2 : w2.heap[b]? = some (.cells (nC N) 82) := (g1.block b h1.lt (fun e => hgb (by injection e with e; exact e.symm))).trans h1.net
        exact ⟨_, _, _, rfl, rfl, hend.1, (NFr.below hW).trans hend.2, unfrozen_of_block hb2 7, _, by rw [cell_of_block hb2]; rfl⟩
  have HK : Hid _ := key
  rw [htv, ← hn] at c7
  clear h ho htv hW hWx h1 hrow key hn
  go_enter Try.func20, Try.ntmps20
  go_wp2_with (go_at_call 41; refine Calls.mono HK.out ?_; rintro e w2 ⟨va, k, vc, rfl, hk, q1, q2, z7, u, d7⟩; have HQ : Hid (NetIs (w2.setCell ⟨b, 7, none⟩ (.slice va k vc)) b (setT N (.slice va k vc) (keepT N.tm x)) ∧ NFr w (w2.setCell ⟨b, 7, none⟩ (.slice va k vc)) N (setT N (.slice va k vc) (keepT N.tm x))) := ⟨q1, q2⟩; clear HK hk q1 q2)
  (try simp only [Exit.inBlock, Exit.then])
  first
    | refine bodyPost_end (results_none rfl _ _ _) rfl ?_
    | refine bodyPost_ret (results_none rfl _ _ _) rfl ?_
  exact ⟨rfl, _, HQ.out.1, HQ.out.2, rfl⟩
end Go.Proofs.Ytemapnfbmhjlbaa
