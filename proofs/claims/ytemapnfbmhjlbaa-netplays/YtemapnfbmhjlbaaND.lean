/- net: slices.Delete of timers. -/
import Derived.Test.YtemapnfbmhjlbaaNC2
import Derived.Deep.RegionHeld3
namespace Go.Proofs.Ytemapnfbmhjlbaa
open Go.RowKit Go.Maps Go.Joins
set_option linter.unusedSimpArgs false
set_option linter.unusedVariables false
set_option maxRecDepth 100000 in
set_option maxHeartbeats 8000000 in
theorem delT_any {w : World} {base : Nat} (v : Value) (X : List Value) (n i j : Nat) (hij : i ≤ j) (hj : j ≤ n) (hown : w.ownsRow base 63 3 v n X) (h1 : ∀ u ∈ X, u.oneCell' = true) (hn : n ≤ 1000000) :
    Calls Try.prog 45 #[v, .int .i64 i, .int .i64 j] w fun ex w' => ∃ v', ex = .returned v' ∧ w'.ownsRow base 63 3 v' (n - (j - i)) (X.take (i * 3) ++ X.drop (j * 3)) ∧ v'.ownBlock = v.ownBlock ∧ w.grownBy w' v.ownBlock := by
  obtain ⟨a, cap, rfl, q1, q2, q3, q4⟩ := row_cap hown
  obtain ⟨u1, hu1⟩ : ∃ u, (Instr.slice 46 (.slice a n cap) (some (.int .i64 i)) (some (.int .i64 j)) (some (.int .i64 n))).run Try.prog w = .ok u w := elT.lhm w a n cap i j n hij hj q1
  by_cases heq : i = j
  · subst heq
    have hee : ((i : Int) == (i : Int)) = true := by simp
    have HO : Hid (w.ownsRow base 63 3 (.slice a n cap) n X) := hown
    clear hown
    go_enter Try.func45, Try.ntmps45
    go_wp2
    go_ret
    refine ⟨_, rfl, ?_, rfl, World.grownBy.refl _ _⟩
    rw [Nat.sub_self, Nat.sub_zero, List.take_append_drop]
    exact HO.out
  · have hlt : i < j := by omega
    obtain ⟨g, rfl⟩ : ∃ g, a = some ⟨g, 0, none⟩ := by
      cases a with
      | none => have := q3 rfl; omega
      | some ad => obtain ⟨g, hg⟩ := q4 ad rfl; exact ⟨g, by rw [hg]⟩
    obtain ⟨cur, hcur, hcl, hct⟩ : ∃ cur : List Value, w.heap[g]? = some (.cells cur.toArray 63 (0, 0)) ∧ cur.length = cap * 3 ∧ cur.take (n * 3) = X := by
      rcases hown.2 with ⟨e, _⟩ | ⟨g', cap', c, e, _, hg, _, _, hs', ht⟩
      · cases e
      · cases e
        exact ⟨c.toList, hg, by rw [Array.length_toList, hs'], ht⟩
    have hXl : X.length = n * 3 := hown.1
    have hbg : base ≤ g := (hown.lt g rfl).1
    have hcells : ∀ p u, X[p]? = some u → w.cell? ⟨g, p, none⟩ = some u := fun p u hu => by
      have := hown.cells (g := g) rfl p u hu
      rw [Addr.add_lit, Nat.zero_add] at this
      exact this
    have hee : ((i : Int) == (j : Int)) = false := by simp; omega
    have hslH := fun w' => elT.h w' g 0 n cap i i rfl (by omega) (by omega)
    have hslL := fun w' => elT.l w' g 0 n cap j j rfl hj
    obtain ⟨o, ho⟩ : ∃ o, o = (if cap = j then 0 else 0 + j * 3) := ⟨_, rfl⟩
    rw [← ho] at hslL
    obtain ⟨N, hN⟩ : ∃ N, N = i + (n - j) := ⟨_, rfl⟩
    obtain ⟨m, hm⟩ : ∃ m, m = n - j := ⟨_, rfl⟩
    rw [← hm] at hslL hN
    have hslC := fun w' => elT.lh w' g N cap N n N n rfl rfl (by omega) q1
    have hNc : ¬ cap = N := by omega
    rw [if_neg hNc] at hslC
    have hdl : (X.drop (j * 3)).length = m * 3 := by rw [List.length_drop, hXl]; omega
    have HA : Hid (w.heap[g]? = some (.cells cur.toArray 63 (0, 0)) ∧ cur.length = cap * 3 ∧ cur.take (n * 3) = X ∧ X.length = n * 3 ∧ base ≤ g ∧ (∀ p u, X[p]? = some u → w.cell? ⟨g, p, none⟩ = some u) ∧ (X.drop (j * 3)).length = m * 3 ∧ ∀ u ∈ X, u.oneCell' = true) := ⟨hcur, hcl, hct, hXl, hbg, hcells, hdl, h1⟩
    have HB : Hid (N = i + m ∧ m = n - j ∧ n ≤ cap ∧ i < j ∧ j ≤ n ∧ n ≤ 1000000 ∧ cap ≤ 9223372036854775807 ∧ o = if cap = j then 0 else 0 + j * 3) := ⟨hN, hm, q1, hlt, hj, hn, q2, ho⟩
    have hS0 : g < w.heap.size := heap_lt hcur
    clear hown hcur hcl hct hXl hbg hcells hdl h1 hN hm q1 q2 q3 q4 hlt hij hn ho hNc heq
    go_enter Try.func45, Try.ntmps45
    go_wp2_with fail
    have h3 : Hid (0 < m → ∃ ad, some (⟨g, o, none⟩ : Addr) = some ad ∧ ∀ p u, (X.drop (j * 3))[p]? = some u → w.drew.cell? (ad.add p) = some u) := fun h0 => ⟨_, rfl, fun p u hu => by
      rw [HB.out.2.2.2.2.2.2.2, if_neg (by have := HB.out; omega), Addr.add_lit, Nat.zero_add]
      rw [List.getElem?_drop] at hu
      exact HA.out.2.2.2.2.2.1 _ _ hu⟩
    have h4 : Hid (i + m ≤ cap ∧ (i + m) * 3 ≤ cur.length) := ⟨by have := HB.out; omega, by rw [HA.out.2.1]; exact Nat.mul_le_mul_right _ (by have := HB.out; omega)⟩
    have h5 : Hid (∀ u ∈ X.drop (j * 3), u.oneCell' = true) := fun u hu => HA.out.2.2.2.2.2.2.2 u (List.mem_of_mem_drop hu)
    have hS1 : g < w.drew.heap.size := hS0
    have H3d : Hid (w.drew.heap[g]? = some (.cells cur.toArray 63 (0, 0))) := HA.out.1
    have hdc : (some (⟨g, o, none⟩ : Addr) = none → cap - j = 0) := fun h => by cases h
    have HDC : Hid (some (⟨g, o, none⟩ : Addr) = none → cap - j = 0) := hdc
    clear hdc
    go_region_held3 (fun w' => g < w'.heap.size) (first | assumption | exact hS1) (first | (refine elT.step_append rfl (.tmp 22) (.tmp 25) rfl g i cap (some ⟨g, o, none⟩) m (cap - j) rfl rfl cur H3d.out (X.drop (j * 3)) HA.out.2.2.2.2.2.2.1 h3.out HDC.out h5.out h4.out.1 h4.out.2 ?_; intro w4 hg4 hb4; have hS2 : g < w4.heap.size := Nat.lt_of_lt_of_le hS1 hb4.size))
    have H8 : Hid (w4.heap[g]? = some (.cells (splice cur (i * 3) (X.drop (j * 3))).toArray 63 (0, 0)) ∧ w.grownBy w4 (some g)) := ⟨hg4.out, gb_comp (gb_drew (World.grownBy.refl _ (some g))) hb4 (Or.inl rfl)⟩
    clear hg4 hb4 H3d h3 h5
    have hlen4 : (splice cur (i * 3) (X.drop (j * 3))).length = cap * 3 := by
      rw [length_splice _ _ _ (by rw [HA.out.2.2.2.2.2.2.1, ← Nat.add_mul]; exact h4.out.2)]
      exact HA.out.2.1
    have htk4 : (splice cur (i * 3) (X.drop (j * 3))).take (N * 3) = X.take (i * 3) ++ X.drop (j * 3) := by
      have e := spl_take2 cur (X.drop (j * 3)) (i * 3) (by rw [HA.out.2.1]; exact Nat.mul_le_mul_right _ (by have := HB.out; omega))
      rw [HA.out.2.2.2.2.2.2.1, ← Nat.add_mul, ← HB.out.1] at e
      rw [e]
      congr 1
      rw [← HA.out.2.2.1, List.take_take, Nat.min_eq_left (Nat.mul_le_mul_right _ (by have := HB.out; omega))]
    generalize hsc : splice cur (i * 3) (X.drop (j * 3)) = sc at H8 hlen4 htk4
    have HSC : Hid (sc.length = cap * 3 ∧ sc.take (N * 3) = X.take (i * 3) ++ X.drop (j * 3)) := ⟨hlen4, htk4⟩
    have hNe : ((i : Int) + (m : Int)) = (N : Int) := by have := HB.out.1; omega
    have hNm : i + m = N := HB.out.1.symm
    have HN : Hid (i + m = N) := hNm
    clear hsc hlen4 htk4
    simp only [hNm]
    clear hNm
    have T2 : Hid True := trivial
    go_wp2_with (first
      | (have _ := T2
         refine elT.wpList_clear rfl _ rfl g (N * 3) (n - N) (cap - N) rfl sc H8.out.1 (by have := HB.out; omega) (by rw [HSC.out.1, ← Nat.add_mul]; exact Nat.mul_le_mul_right _ (by have := HB.out; omega)) ?_
         intro zs w5 hz hg5 hb5
         clear T2
         have H5 : Hid (w5.heap[g]? = some (.cells (splice sc (N * 3) zs).toArray 63 (0, 0)) ∧ w.grownBy w5 (some g) ∧ zs.length = (n - N) * 3) := ⟨hg5.out, gb_comp H8.out.2 hb5 (Or.inl rfl), hz⟩
         clear hz hg5 hb5))
    go_ret
    refine ⟨_, rfl, ?_, rfl, H5.out.2.1⟩
    have hb := HB.out
    have hNn : N = n - (j - i) := by omega
    have hfit : N * 3 + zs.length ≤ sc.length := by rw [H5.out.2.2, HSC.out.1, ← Nat.add_mul]; exact Nat.mul_le_mul_right _ (by omega)
    rw [← hNn]
    refine ⟨?_, Or.inr ⟨g, cap, _, rfl, HA.out.2.2.2.2.1, H5.out.1, by omega, by unfold maxLen; omega, by rw [List.size_toArray, length_splice _ _ _ hfit]; exact HSC.out.1, ?_⟩⟩
    · rw [← HSC.out.2, List.length_take, HSC.out.1, Nat.min_eq_left (Nat.mul_le_mul_right _ (by omega))]
    · rw [spl_take _ _ _ _ (Nat.le_refl _) (by omega)]
      exact HSC.out.2
end Go.Proofs.Ytemapnfbmhjlbaa
