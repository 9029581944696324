/- net: the reference's Tick, where timers ring. -/
import Derived.Test.YtemapnfbmhjlbaaRL
namespace Go.Proofs.Ytemapnfbmhjlbaa
open Go.RowKit Go.Maps Go.Joins
set_option linter.unusedSimpArgs false
set_option linter.unusedVariables false
theorem many_eq {l : List TM} {k : Nat} {f : TM} (hf : l[0]? = some f) (hk : k ≤ l.length) (h1 : ∀ (j : Nat) (t : TM), l[j]? = some t → j < k → t.at_ = f.at_) (h2 : ∀ t, l[k]? = some t → t.at_ ≠ f.at_) : many l = k := by
  have hm := many_le l
  rcases Nat.lt_trichotomy (many l) k with h | h | h
  · have h3 := List.getElem?_eq_getElem (show many l < l.length by omega)
    exact absurd (h1 _ _ h3 h) ((many_at h3 hf).2 rfl)
  · exact h
  · have h3 := List.getElem?_eq_getElem (show k < l.length by omega)
    exact absurd ((many_at h3 hf).1 h) (h2 _ h3)
def RTiR (w : World) (b : Nat) (N : RS) (l : List TM) (A : NA) (e : Ending) (w' : World) : Prop :=
  ∃ v N', e = .returned v ∧ w'.ownsRow w.heap.size 92 3 v l.length (tmL l) ∧ RIs w' b N' ∧ RFr w w' N N' ∧ absR N' = A ∧ ∀ g, v.ownBlock = some g → N'.own g = 0
set_option maxRecDepth 100000 in
set_option maxHeartbeats 16000000 in
theorem rtick_ring_a {w : World} {b : Nat} {N : RS} (h : RIs w b N) (ho : ROk N) (most : Int) (hm : most < 0) (t : TM) (he : N.tm[0]? = some t) (hf : ¬ max most 0 < t.at_ - N.clk) :
    Calls Try.prog 24 #[.pointer (some ⟨b, 0, none⟩), .int .i64 most] w fun e w' => RTiR w b N (N.tm.take (many N.tm)) { absR N with clk := t.at_, tm := N.tm.drop (many N.tm) } e w' := by
  have c2 := h.cells.2.2.1
  have c4 := h.cells.2.2.2.2
  obtain ⟨ta, tc, htv, hnil, htc, hg0, hcells⟩ := h.tmv
  have hck := ho.ck
  have hb := h.lt
  have hl := ho.tm
  obtain ⟨C, hC⟩ : ∃ C, C = N.clk := ⟨_, rfl⟩
  rw [← hC] at c2 hck
  have hA9 := ho.at_ t (List.mem_of_getElem? he)
  obtain ⟨A0, hA0⟩ : ∃ A0, A0 = t.at_ := ⟨_, rfl⟩
  rw [← hC, ← hA0] at hf
  rw [← hA0] at hA9 ⊢
  obtain ⟨g9, o9, e9, hc9⟩ := hcells (0 * 3 + 2) (.int .i64 t.at_) (by rw [tmL_at N.tm 0 t he 2 (by decide)]; rfl)
  obtain ⟨g, hg9⟩ := hg0 _ e9
  rw [hg9] at e9
  injection hg9 with hg1 hg2
  subst hg1 hg2 e9
  have ct : w.cell? ⟨g9, 2, none⟩ = some (.int .i64 A0) := by rw [hA0]; simpa using hc9
  have hpos : 0 < N.tm.length := (List.getElem?_eq_some_iff.1 he).1
  obtain ⟨n, hn⟩ : ∃ n, n = N.tm.length := ⟨_, rfl⟩
  rw [htv, ← hn] at c4
  rw [← hn] at htc htv
  have hn0 : ¬ (n : Int) = 0 := by omega
  have hn1 : (0 : Int) < n := by omega
  have hn3 : n ≤ 4096 := by omega
  have hMA : ¬ C + 0 < A0 := by omega
  obtain ⟨g, hg⟩ : ∃ g, g = g9 := ⟨_, rfl⟩
  rw [← hg] at ct c4 htv
  have HS : Hid (RIs w b N ∧ N.tv = .slice (some ⟨g, 0, none⟩) n tc ∧ N.tm.length = n) := ⟨h, htv, hn.symm⟩
  have HT : Hid (N.tm[0]? = some t ∧ A0 = t.at_) := ⟨he, hA0⟩
  have hS0 : w.cell? ⟨b, 4, none⟩ = some (.slice (some ⟨g, 0, none⟩) n tc) ∧ w.cell? ⟨b, 2, none⟩ = some (.int .i64 C) ∧ w.cell? ⟨g, 2, none⟩ = some (.int .i64 A0) := ⟨c4, c2, ct⟩
  clear h ho htv hnil hg0 hcells hC c4 he hl hA0 hf hc9 ct hpos hn hg
  go_enter Try.func24, Try.ntmps24
  go_wp2_with fail
  refine wp_region_X (fun _ => false) (S := fun w' => w'.cell? ⟨b, 4, none⟩ = some (.slice (some ⟨g, 0, none⟩) n tc) ∧ w'.cell? ⟨b, 2, none⟩ = some (.int .i64 C) ∧ w'.cell? ⟨g, 2, none⟩ = some (.int .i64 A0)) (by kernel_rfl) hS0 (fun hHeld => ?_)
  refine wpAnyX_take (i := 0) (v := .pointer (some ⟨b, 0, none⟩)) rfl (by kernel_rfl) (by kernel_rfl) (by kernel_rfl) (by kernel_rfl) (fun _ _ _ h => h) (Or.inl ⟨by rfl, fun w9 hSw => ?_⟩) hHeld ?_
  · go_simp
  simp only [List.getElem_toArray, List.getElem_cons_succ, List.getElem_cons_zero, Act.put, List.setIfInBounds_toArray, List.set_cons_zero, List.set_cons_succ]
  refine wpAnyX_take (i := 1) (v := .pointer (some ⟨b, 0, none⟩)) rfl (by kernel_rfl) (by kernel_rfl) (by kernel_rfl) (by kernel_rfl) (fun _ _ _ h => h) (Or.inl ⟨by rfl, fun w9 hSw => ?_⟩) hHeld ?_
  · go_simp
  simp only [List.getElem_toArray, List.getElem_cons_succ, List.getElem_cons_zero, Act.put, List.setIfInBounds_toArray, List.set_cons_zero, List.set_cons_succ]
  refine wpAnyX_take (i := 2) (v := .pointer (some ⟨b, 4, none⟩)) rfl (by kernel_rfl) (by kernel_rfl) (by kernel_rfl) (by kernel_rfl) (fun _ _ _ h => h) (Or.inl ⟨by rfl, fun w9 hSw => ?_⟩) hHeld ?_
  · go_simp
  simp only [List.getElem_toArray, List.getElem_cons_succ, List.getElem_cons_zero, Act.put, List.setIfInBounds_toArray, List.set_cons_zero, List.set_cons_succ]
  refine wpAnyX_take (i := 3) (v := .slice (some ⟨g, 0, none⟩) n tc) rfl (by kernel_rfl) (by kernel_rfl) (by kernel_rfl) (by kernel_rfl) (fun _ _ _ h => h) (Or.inl ⟨by rfl, fun w9 hSw => ?_⟩) hHeld ?_
  · obtain ⟨q4, q2, q5⟩ := hSw
    go_simp
  simp only [List.getElem_toArray, List.getElem_cons_succ, List.getElem_cons_zero, Act.put, List.setIfInBounds_toArray, List.set_cons_zero, List.set_cons_succ]
  refine wpAnyX_take (i := 4) (v := .int .i64 n) rfl (by kernel_rfl) (by kernel_rfl) (by kernel_rfl) (by kernel_rfl) (fun _ _ _ h => h) (Or.inl ⟨by rfl, fun w9 hSw => ?_⟩) hHeld ?_
  · go_simp
  simp only [List.getElem_toArray, List.getElem_cons_succ, List.getElem_cons_zero, Act.put, List.setIfInBounds_toArray, List.set_cons_zero, List.set_cons_succ]
  refine wpAnyX_take (i := 5) (v := .bool false) rfl (by kernel_rfl) (by kernel_rfl) (by kernel_rfl) (by kernel_rfl) (fun _ _ _ h => h) (Or.inl ⟨by rfl, fun w9 hSw => ?_⟩) hHeld ?_
  · go_simp
    try omega
  simp only [List.getElem_toArray, List.getElem_cons_succ, List.getElem_cons_zero, Act.put, List.setIfInBounds_toArray, List.set_cons_zero, List.set_cons_succ]
  refine wpAnyX_take (i := 6) (v := .bool false) rfl (by kernel_rfl) (by kernel_rfl) (by kernel_rfl) (by kernel_rfl) (fun _ _ _ h => h) (Or.inl ⟨by rfl, fun w9 hSw => ?_⟩) hHeld ?_
  · go_simp
  simp only [List.getElem_toArray, List.getElem_cons_succ, List.getElem_cons_zero, Act.put, List.setIfInBounds_toArray, List.set_cons_zero, List.set_cons_succ]
  refine wpAnyX_take (i := 7) (v := .pointer (some ⟨b, 0, none⟩)) rfl (by kernel_rfl) (by kernel_rfl) (by kernel_rfl) (by kernel_rfl) (fun _ _ _ h => h) (Or.inl ⟨by rfl, fun w9 hSw => ?_⟩) hHeld ?_
  · go_simp
  simp only [List.getElem_toArray, List.getElem_cons_succ, List.getElem_cons_zero, Act.put, List.setIfInBounds_toArray, List.set_cons_zero, List.set_cons_succ]
  refine wpAnyX_take (i := 8) (v := .pointer (some ⟨b, 0, none⟩)) rfl (by kernel_rfl) (by kernel_rfl) (by kernel_rfl) (by kernel_rfl) (fun _ _ _ h => h) (Or.inl ⟨by rfl, fun w9 hSw => ?_⟩) hHeld ?_
  · go_simp
  simp only [List.getElem_toArray, List.getElem_cons_succ, List.getElem_cons_zero, Act.put, List.setIfInBounds_toArray, List.set_cons_zero, List.set_cons_succ]
  refine wpAnyX_take (i := 9) (v := .pointer (some ⟨b, 4, none⟩)) rfl (by kernel_rfl) (by kernel_rfl) (by kernel_rfl) (by kernel_rfl) (fun _ _ _ h => h) (Or.inl ⟨by rfl, fun w9 hSw => ?_⟩) hHeld ?_
  · go_simp
  simp only [List.getElem_toArray, List.getElem_cons_succ, List.getElem_cons_zero, Act.put, List.setIfInBounds_toArray, List.set_cons_zero, List.set_cons_succ]
  refine wpAnyX_take (i := 10) (v := .slice (some ⟨g, 0, none⟩) n tc) rfl (by kernel_rfl) (by kernel_rfl) (by kernel_rfl) (by kernel_rfl) (fun _ _ _ h => h) (Or.inl ⟨by rfl, fun w9 hSw => ?_⟩) hHeld ?_
  · obtain ⟨q4, q2, q5⟩ := hSw
    go_simp
  simp only [List.getElem_toArray, List.getElem_cons_succ, List.getElem_cons_zero, Act.put, List.setIfInBounds_toArray, List.set_cons_zero, List.set_cons_succ]
  refine wpAnyX_take (i := 11) (v := .pointer (some ⟨g, 0, none⟩)) rfl (by kernel_rfl) (by kernel_rfl) (by kernel_rfl) (by kernel_rfl) (fun _ _ _ h => h) (Or.inl ⟨by rfl, fun w9 hSw => ?_⟩) hHeld ?_
  · go_simp
    try omega
  simp only [List.getElem_toArray, List.getElem_cons_succ, List.getElem_cons_zero, Act.put, List.setIfInBounds_toArray, List.set_cons_zero, List.set_cons_succ]
  refine wpAnyX_take (i := 12) (v := .pointer (some ⟨g, 2, none⟩)) rfl (by kernel_rfl) (by kernel_rfl) (by kernel_rfl) (by kernel_rfl) (fun _ _ _ h => h) (Or.inl ⟨by rfl, fun w9 hSw => ?_⟩) hHeld ?_
  · go_simp
  simp only [List.getElem_toArray, List.getElem_cons_succ, List.getElem_cons_zero, Act.put, List.setIfInBounds_toArray, List.set_cons_zero, List.set_cons_succ]
  refine wpAnyX_take (i := 13) (v := .int .i64 A0) rfl (by kernel_rfl) (by kernel_rfl) (by kernel_rfl) (by kernel_rfl) (fun _ _ _ h => h) (Or.inl ⟨by rfl, fun w9 hSw => ?_⟩) hHeld ?_
  · obtain ⟨q4, q2, q5⟩ := hSw
    go_simp
  simp only [List.getElem_toArray, List.getElem_cons_succ, List.getElem_cons_zero, Act.put, List.setIfInBounds_toArray, List.set_cons_zero, List.set_cons_succ]
  refine wpAnyX_take (i := 14) (v := .pointer (some ⟨b, 0, none⟩)) rfl (by kernel_rfl) (by kernel_rfl) (by kernel_rfl) (by kernel_rfl) (fun _ _ _ h => h) (Or.inl ⟨by rfl, fun w9 hSw => ?_⟩) hHeld ?_
  · go_simp
  simp only [List.getElem_toArray, List.getElem_cons_succ, List.getElem_cons_zero, Act.put, List.setIfInBounds_toArray, List.set_cons_zero, List.set_cons_succ]
  refine wpAnyX_take (i := 15) (v := .pointer (some ⟨b, 0, none⟩)) rfl (by kernel_rfl) (by kernel_rfl) (by kernel_rfl) (by kernel_rfl) (fun _ _ _ h => h) (Or.inl ⟨by rfl, fun w9 hSw => ?_⟩) hHeld ?_
  · go_simp
  simp only [List.getElem_toArray, List.getElem_cons_succ, List.getElem_cons_zero, Act.put, List.setIfInBounds_toArray, List.set_cons_zero, List.set_cons_succ]
  refine wpAnyX_take (i := 16) (v := .pointer (some ⟨b, 2, none⟩)) rfl (by kernel_rfl) (by kernel_rfl) (by kernel_rfl) (by kernel_rfl) (fun _ _ _ h => h) (Or.inl ⟨by rfl, fun w9 hSw => ?_⟩) hHeld ?_
  · go_simp
  simp only [List.getElem_toArray, List.getElem_cons_succ, List.getElem_cons_zero, Act.put, List.setIfInBounds_toArray, List.set_cons_zero, List.set_cons_succ]
  refine wpAnyX_take (i := 17) (v := .int .i64 C) rfl (by kernel_rfl) (by kernel_rfl) (by kernel_rfl) (by kernel_rfl) (fun _ _ _ h => h) (Or.inl ⟨by rfl, fun w9 hSw => ?_⟩) hHeld ?_
  · obtain ⟨q4, q2, q5⟩ := hSw
    go_simp
  simp only [List.getElem_toArray, List.getElem_cons_succ, List.getElem_cons_zero, Act.put, List.setIfInBounds_toArray, List.set_cons_zero, List.set_cons_succ]
  refine wpAnyX_take (i := 18) (v := .int .i64 0) rfl (by kernel_rfl) (by kernel_rfl) (by kernel_rfl) (by kernel_rfl) (fun _ _ _ h => h) (Or.inl ⟨by rfl, fun w9 hSw => ?_⟩) hHeld ?_
  · go_simp
  simp only [List.getElem_toArray, List.getElem_cons_succ, List.getElem_cons_zero, Act.put, List.setIfInBounds_toArray, List.set_cons_zero, List.set_cons_succ]
  refine wpAnyX_take (i := 19) (v := .int .i64 (C + 0)) rfl (by kernel_rfl) (by kernel_rfl) (by kernel_rfl) (by kernel_rfl) (fun _ _ _ h => h) (Or.inl ⟨by rfl, fun w9 hSw => ?_⟩) hHeld ?_
  · go_simp
    try (rw [IntKind.wrap_i64]; omega)
  simp only [List.getElem_toArray, List.getElem_cons_succ, List.getElem_cons_zero, Act.put, List.setIfInBounds_toArray, List.set_cons_zero, List.set_cons_succ]
  refine wpAnyX_take (i := 20) (v := .bool false) rfl (by kernel_rfl) (by kernel_rfl) (by kernel_rfl) (by kernel_rfl) (fun _ _ _ h => h) (Or.inl ⟨by rfl, fun w9 hSw => ?_⟩) hHeld ?_
  · go_simp
    try omega
  simp only [List.getElem_toArray, List.getElem_cons_succ, List.getElem_cons_zero, Act.put, List.setIfInBounds_toArray, List.set_cons_zero, List.set_cons_succ]
  refine wpAnyX_take (i := 21) (v := .bool false) rfl (by kernel_rfl) (by kernel_rfl) (by kernel_rfl) (by kernel_rfl) (fun _ _ _ h => h) (Or.inl ⟨by rfl, fun w9 hSw => ?_⟩) hHeld ?_
  · go_simp
  simp only [List.getElem_toArray, List.getElem_cons_succ, List.getElem_cons_zero, Act.put, List.setIfInBounds_toArray, List.set_cons_zero, List.set_cons_succ]
  refine wpAnyX_done (by kernel_rfl) ?_ _
  have HB0 : Hid (Below w.heap.size w w.drew) := (Below.refl _ w).drew
  have hc4 : w.drew.cell? ⟨b, 4, none⟩ = some (.slice (some ⟨g, 0, none⟩) n tc) := hS0.1
  have hct : w.drew.cell? ⟨g, 2, none⟩ = some (.int .i64 A0) := hS0.2.2
  have hc2 : w.drew.cell? ⟨b, 2, none⟩ = some (.int .i64 C) := hS0.2.1
  clear hHeld hS0
  generalize w.drew = wz at HB0 hc4 hct hc2 ⊢
  have z2 : wz.frozen? ⟨b, 2, none⟩ = false := (HS.out.1.below HB0.out).unfrozen 2
  have hend := rsetCk_end (HS.out.1.below HB0.out) A0
  go_wp2_with fail
  obtain ⟨w2, hw2⟩ : ∃ w2, w2 = wz.setCell ⟨b, 2, none⟩ (.int .i64 A0) := ⟨_, rfl⟩
  rw [← hw2] at hend ⊢
  have HS2 : Hid (RIs w2 b (rsetCk N A0) ∧ RFr w w2 N (rsetCk N A0)) := ⟨hend.1, (RFr.below HB0.out).trans hend.2⟩
  clear hend hw2 z2 hc4 hct hc2 HB0
  go_loopw [5] (fun i wr => ∃ k : Nat, k ≤ n ∧ i = .int .i64 k ∧ Hid (Below w2.heap.size w2 wr ∧ ∀ (j : Nat) (t9 : TM), N.tm[j]? = some t9 → j < k → t9.at_ = A0)) (fun i _ => n - (intOf i).toNat)
  case atStart => exact ⟨0, Nat.zero_le _, rfl, Below.refl _ _, fun j t9 _ hj => absurd hj (Nat.not_lt_zero _)⟩
  case round =>
    obtain ⟨k, hk, rfl, HJ⟩ := hrel
    have hR := HS2.out.1.below HJ.out.1
    have d4 : wr.cell? ⟨b, 4, none⟩ = some (.slice (some ⟨g, 0, none⟩) n tc) := hR.cells.2.2.2.2.trans (by show some N.tv = _; rw [HS.out.2.1])
    have d2 : wr.cell? ⟨b, 2, none⟩ = some (.int .i64 A0) := hR.cells.2.2.1
    by_cases hlt : k < n
    · obtain ⟨t9, ht9⟩ : ∃ t9, N.tm[k]? = some t9 := ⟨_, List.getElem?_eq_getElem (by have := HS.out.2.2; omega)⟩
      have hrow := hR.tm
      rw [show (rsetCk N A0).tv = .slice (some ⟨g, 0, none⟩) n tc from HS.out.2.1] at hrow
      have dk : wr.cell? ⟨g, k * 3 + 2, none⟩ = some (.int .i64 t9.at_) := by
        have h8 := hrow.cells (g := g) rfl (k * 3 + 2) (.int .i64 t9.at_) (by show (tmL N.tm)[k * 3 + 2]? = _; rw [tmL_at N.tm k t9 ht9 2 (by decide)]; rfl)
        rwa [Addr.add_lit, Nat.zero_add] at h8
      obtain ⟨AK, hAK⟩ : ∃ AK, AK = t9.at_ := ⟨_, rfl⟩
      rw [← hAK] at dk
      have HAK : Hid (N.tm[k]? = some t9 ∧ AK = t9.at_) := ⟨ht9, hAK⟩
      have hkn : (k : Int) < n := by omega
      have hS0 : wr.cell? ⟨b, 4, none⟩ = some (.slice (some ⟨g, 0, none⟩) n tc) ∧ wr.cell? ⟨b, 2, none⟩ = some (.int .i64 A0) ∧ wr.cell? ⟨g, k * 3 + 2, none⟩ = some (.int .i64 AK) := ⟨d4, d2, dk⟩
      clear hR d4 d2 hrow dk hAK ht9
      by_cases hAA : AK = A0
      · have hb9 : (AK == A0) = true := by simpa using hAA
        have HAA : Hid (AK = A0) := hAA
        clear hAA
        go_wp2_with fail
        refine wp_region_X (fun _ => false) (S := fun w' => w'.cell? ⟨b, 4, none⟩ = some (.slice (some ⟨g, 0, none⟩) n tc) ∧ w'.cell? ⟨b, 2, none⟩ = some (.int .i64 A0) ∧ w'.cell? ⟨g, k * 3 + 2, none⟩ = some (.int .i64 AK)) (by kernel_rfl) hS0 (fun hHeld => ?_)
        refine wpAnyX_take (i := 0) (v := .int .i64 k) rfl (by kernel_rfl) (by kernel_rfl) (by kernel_rfl) (by kernel_rfl) (fun _ _ _ h => h) (Or.inl ⟨by rfl, fun w9 hSw => ?_⟩) hHeld ?_
        · go_simp
        simp only [List.getElem_toArray, List.getElem_cons_succ, List.getElem_cons_zero, Act.put, List.setIfInBounds_toArray, List.set_cons_zero, List.set_cons_succ]
        refine wpAnyX_take (i := 1) (v := .pointer (some ⟨b, 0, none⟩)) rfl (by kernel_rfl) (by kernel_rfl) (by kernel_rfl) (by kernel_rfl) (fun _ _ _ h => h) (Or.inl ⟨by rfl, fun w9 hSw => ?_⟩) hHeld ?_
        · go_simp
        simp only [List.getElem_toArray, List.getElem_cons_succ, List.getElem_cons_zero, Act.put, List.setIfInBounds_toArray, List.set_cons_zero, List.set_cons_succ]
        refine wpAnyX_take (i := 2) (v := .pointer (some ⟨b, 0, none⟩)) rfl (by kernel_rfl) (by kernel_rfl) (by kernel_rfl) (by kernel_rfl) (fun _ _ _ h => h) (Or.inl ⟨by rfl, fun w9 hSw => ?_⟩) hHeld ?_
        · go_simp
        simp only [List.getElem_toArray, List.getElem_cons_succ, List.getElem_cons_zero, Act.put, List.setIfInBounds_toArray, List.set_cons_zero, List.set_cons_succ]
        refine wpAnyX_take (i := 3) (v := .pointer (some ⟨b, 4, none⟩)) rfl (by kernel_rfl) (by kernel_rfl) (by kernel_rfl) (by kernel_rfl) (fun _ _ _ h => h) (Or.inl ⟨by rfl, fun w9 hSw => ?_⟩) hHeld ?_
        · go_simp
        simp only [List.getElem_toArray, List.getElem_cons_succ, List.getElem_cons_zero, Act.put, List.setIfInBounds_toArray, List.set_cons_zero, List.set_cons_succ]
        refine wpAnyX_take (i := 4) (v := .slice (some ⟨g, 0, none⟩) n tc) rfl (by kernel_rfl) (by kernel_rfl) (by kernel_rfl) (by kernel_rfl) (fun _ _ _ h => h) (Or.inl ⟨by rfl, fun w9 hSw => ?_⟩) hHeld ?_
        · obtain ⟨q4, q2, q5⟩ := hSw
          go_simp
        simp only [List.getElem_toArray, List.getElem_cons_succ, List.getElem_cons_zero, Act.put, List.setIfInBounds_toArray, List.set_cons_zero, List.set_cons_succ]
        refine wpAnyX_take (i := 5) (v := .int .i64 n) rfl (by kernel_rfl) (by kernel_rfl) (by kernel_rfl) (by kernel_rfl) (fun _ _ _ h => h) (Or.inl ⟨by rfl, fun w9 hSw => ?_⟩) hHeld ?_
        · go_simp
        simp only [List.getElem_toArray, List.getElem_cons_succ, List.getElem_cons_zero, Act.put, List.setIfInBounds_toArray, List.set_cons_zero, List.set_cons_succ]
        refine wpAnyX_take (i := 6) (v := .bool true) rfl (by kernel_rfl) (by kernel_rfl) (by kernel_rfl) (by kernel_rfl) (fun _ _ _ h => h) (Or.inl ⟨by rfl, fun w9 hSw => ?_⟩) hHeld ?_
        · go_simp
          try omega
        simp only [List.getElem_toArray, List.getElem_cons_succ, List.getElem_cons_zero, Act.put, List.setIfInBounds_toArray, List.set_cons_zero, List.set_cons_succ]
        refine wpAnyX_take (i := 7) (v := .bool true) rfl (by kernel_rfl) (by kernel_rfl) (by kernel_rfl) (by kernel_rfl) (fun _ _ _ h => h) (Or.inl ⟨by rfl, fun w9 hSw => ?_⟩) hHeld ?_
        · go_simp
        simp only [List.getElem_toArray, List.getElem_cons_succ, List.getElem_cons_zero, Act.put, List.setIfInBounds_toArray, List.set_cons_zero, List.set_cons_succ]
        refine wpAnyX_take (i := 8) (v := .pointer (some ⟨b, 0, none⟩)) rfl (by kernel_rfl) (by kernel_rfl) (by kernel_rfl) (by kernel_rfl) (fun _ _ _ h => h) (Or.inl ⟨by rfl, fun w9 hSw => ?_⟩) hHeld ?_
        · go_simp
        simp only [List.getElem_toArray, List.getElem_cons_succ, List.getElem_cons_zero, Act.put, List.setIfInBounds_toArray, List.set_cons_zero, List.set_cons_succ]
        refine wpAnyX_take (i := 9) (v := .pointer (some ⟨b, 0, none⟩)) rfl (by kernel_rfl) (by kernel_rfl) (by kernel_rfl) (by kernel_rfl) (fun _ _ _ h => h) (Or.inl ⟨by rfl, fun w9 hSw => ?_⟩) hHeld ?_
        · go_simp
        simp only [List.getElem_toArray, List.getElem_cons_succ, List.getElem_cons_zero, Act.put, List.setIfInBounds_toArray, List.set_cons_zero, List.set_cons_succ]
        refine wpAnyX_take (i := 10) (v := .pointer (some ⟨b, 4, none⟩)) rfl (by kernel_rfl) (by kernel_rfl) (by kernel_rfl) (by kernel_rfl) (fun _ _ _ h => h) (Or.inl ⟨by rfl, fun w9 hSw => ?_⟩) hHeld ?_
        · go_simp
        simp only [List.getElem_toArray, List.getElem_cons_succ, List.getElem_cons_zero, Act.put, List.setIfInBounds_toArray, List.set_cons_zero, List.set_cons_succ]
        refine wpAnyX_take (i := 11) (v := .slice (some ⟨g, 0, none⟩) n tc) rfl (by kernel_rfl) (by kernel_rfl) (by kernel_rfl) (by kernel_rfl) (fun _ _ _ h => h) (Or.inl ⟨by rfl, fun w9 hSw => ?_⟩) hHeld ?_
        · obtain ⟨q4, q2, q5⟩ := hSw
          go_simp
        simp only [List.getElem_toArray, List.getElem_cons_succ, List.getElem_cons_zero, Act.put, List.setIfInBounds_toArray, List.set_cons_zero, List.set_cons_succ]
        refine wpAnyX_take (i := 12) (v := .int .i64 k) rfl (by kernel_rfl) (by kernel_rfl) (by kernel_rfl) (by kernel_rfl) (fun _ _ _ h => h) (Or.inl ⟨by rfl, fun w9 hSw => ?_⟩) hHeld ?_
        · go_simp
        simp only [List.getElem_toArray, List.getElem_cons_succ, List.getElem_cons_zero, Act.put, List.setIfInBounds_toArray, List.set_cons_zero, List.set_cons_succ]
        refine wpAnyX_take (i := 13) (v := .pointer (some ⟨g, k * 3, none⟩)) rfl (by kernel_rfl) (by kernel_rfl) (by kernel_rfl) (by kernel_rfl) (fun _ _ _ h => h) (Or.inl ⟨by rfl, fun w9 hSw => ?_⟩) hHeld ?_
        · go_simp
        simp only [List.getElem_toArray, List.getElem_cons_succ, List.getElem_cons_zero, Act.put, List.setIfInBounds_toArray, List.set_cons_zero, List.set_cons_succ]
        refine wpAnyX_take (i := 14) (v := .pointer (some ⟨g, k * 3 + 2, none⟩)) rfl (by kernel_rfl) (by kernel_rfl) (by kernel_rfl) (by kernel_rfl) (fun _ _ _ h => h) (Or.inl ⟨by rfl, fun w9 hSw => ?_⟩) hHeld ?_
        · go_simp
        simp only [List.getElem_toArray, List.getElem_cons_succ, List.getElem_cons_zero, Act.put, List.setIfInBounds_toArray, List.set_cons_zero, List.set_cons_succ]
        refine wpAnyX_take (i := 15) (v := .int .i64 AK) rfl (by kernel_rfl) (by kernel_rfl) (by kernel_rfl) (by kernel_rfl) (fun _ _ _ h => h) (Or.inl ⟨by rfl, fun w9 hSw => ?_⟩) hHeld ?_
        · obtain ⟨q4, q2, q5⟩ := hSw
          go_simp
        simp only [List.getElem_toArray, List.getElem_cons_succ, List.getElem_cons_zero, Act.put, List.setIfInBounds_toArray, List.set_cons_zero, List.set_cons_succ]
        refine wpAnyX_take (i := 16) (v := .pointer (some ⟨b, 0, none⟩)) rfl (by kernel_rfl) (by kernel_rfl) (by kernel_rfl) (by kernel_rfl) (fun _ _ _ h => h) (Or.inl ⟨by rfl, fun w9 hSw => ?_⟩) hHeld ?_
        · go_simp
        simp only [List.getElem_toArray, List.getElem_cons_succ, List.getElem_cons_zero, Act.put, List.setIfInBounds_toArray, List.set_cons_zero, List.set_cons_succ]
        refine wpAnyX_take (i := 17) (v := .pointer (some ⟨b, 0, none⟩)) rfl (by kernel_rfl) (by kernel_rfl) (by kernel_rfl) (by kernel_rfl) (fun _ _ _ h => h) (Or.inl ⟨by rfl, fun w9 hSw => ?_⟩) hHeld ?_
        · go_simp
        simp only [List.getElem_toArray, List.getElem_cons_succ, List.getElem_cons_zero, Act.put, List.setIfInBounds_toArray, List.set_cons_zero, List.set_cons_succ]
        refine wpAnyX_take (i := 18) (v := .pointer (some ⟨b, 2, none⟩)) rfl (by kernel_rfl) (by kernel_rfl) (by kernel_rfl) (by kernel_rfl) (fun _ _ _ h => h) (Or.inl ⟨by rfl, fun w9 hSw => ?_⟩) hHeld ?_
        · go_simp
        simp only [List.getElem_toArray, List.getElem_cons_succ, List.getElem_cons_zero, Act.put, List.setIfInBounds_toArray, List.set_cons_zero, List.set_cons_succ]
        refine wpAnyX_take (i := 19) (v := .int .i64 A0) rfl (by kernel_rfl) (by kernel_rfl) (by kernel_rfl) (by kernel_rfl) (fun _ _ _ h => h) (Or.inl ⟨by rfl, fun w9 hSw => ?_⟩) hHeld ?_
        · obtain ⟨q4, q2, q5⟩ := hSw
          go_simp
        simp only [List.getElem_toArray, List.getElem_cons_succ, List.getElem_cons_zero, Act.put, List.setIfInBounds_toArray, List.set_cons_zero, List.set_cons_succ]
        refine wpAnyX_take (i := 20) (v := .bool true) rfl (by kernel_rfl) (by kernel_rfl) (by kernel_rfl) (by kernel_rfl) (fun _ _ _ h => h) (Or.inl ⟨by rfl, fun w9 hSw => ?_⟩) hHeld ?_
        · go_simp
        simp only [List.getElem_toArray, List.getElem_cons_succ, List.getElem_cons_zero, Act.put, List.setIfInBounds_toArray, List.set_cons_zero, List.set_cons_succ]
        refine wpAnyX_take (i := 21) (v := .bool true) rfl (by kernel_rfl) (by kernel_rfl) (by kernel_rfl) (by kernel_rfl) (fun _ _ _ h => h) (Or.inl ⟨by rfl, fun w9 hSw => ?_⟩) hHeld ?_
        · go_simp
        simp only [List.getElem_toArray, List.getElem_cons_succ, List.getElem_cons_zero, Act.put, List.setIfInBounds_toArray, List.set_cons_zero, List.set_cons_succ]
        refine wpAnyX_done (by kernel_rfl) ?_ _
        have HB2 : Hid (Below w2.heap.size w2 wr.drew ∧ ∀ (j : Nat) (t9 : TM), N.tm[j]? = some t9 → j < k + 1 → t9.at_ = A0) := ⟨HJ.out.1.drew, fun j t8 hj hjk => by
          rcases Nat.lt_or_ge j k with h | h
          · exact HJ.out.2 j t8 hj h
          · obtain rfl : j = k := by omega
            rw [HAK.out.1] at hj
            injection hj with hj
            rw [← hj, ← HAK.out.2]
            exact HAA.out⟩
        clear HJ hHeld hS0
        generalize wr.drew = wq at HB2 ⊢
        go_wp2_with fail
        go_roundw
        case rel => exact ⟨k + 1, by omega, by go_num, HB2.out⟩
        case measure => simp [intOf]; omega
      · have hb9 : (AK == A0) = false := by simpa using hAA
        have HAA : Hid (¬ AK = A0) := hAA
        clear hAA
        go_wp2_with fail
        refine wp_region_X (fun _ => false) (S := fun w' => w'.cell? ⟨b, 4, none⟩ = some (.slice (some ⟨g, 0, none⟩) n tc) ∧ w'.cell? ⟨b, 2, none⟩ = some (.int .i64 A0) ∧ w'.cell? ⟨g, k * 3 + 2, none⟩ = some (.int .i64 AK)) (by kernel_rfl) hS0 (fun hHeld => ?_)
        refine wpAnyX_take (i := 0) (v := .int .i64 k) rfl (by kernel_rfl) (by kernel_rfl) (by kernel_rfl) (by kernel_rfl) (fun _ _ _ h => h) (Or.inl ⟨by rfl, fun w9 hSw => ?_⟩) hHeld ?_
        · go_simp
        simp only [List.getElem_toArray, List.getElem_cons_succ, List.getElem_cons_zero, Act.put, List.setIfInBounds_toArray, List.set_cons_zero, List.set_cons_succ]
        refine wpAnyX_take (i := 1) (v := .pointer (some ⟨b, 0, none⟩)) rfl (by kernel_rfl) (by kernel_rfl) (by kernel_rfl) (by kernel_rfl) (fun _ _ _ h => h) (Or.inl ⟨by rfl, fun w9 hSw => ?_⟩) hHeld ?_
        · go_simp
        simp only [List.getElem_toArray, List.getElem_cons_succ, List.getElem_cons_zero, Act.put, List.setIfInBounds_toArray, List.set_cons_zero, List.set_cons_succ]
        refine wpAnyX_take (i := 2) (v := .pointer (some ⟨b, 0, none⟩)) rfl (by kernel_rfl) (by kernel_rfl) (by kernel_rfl) (by kernel_rfl) (fun _ _ _ h => h) (Or.inl ⟨by rfl, fun w9 hSw => ?_⟩) hHeld ?_
        · go_simp
        simp only [List.getElem_toArray, List.getElem_cons_succ, List.getElem_cons_zero, Act.put, List.setIfInBounds_toArray, List.set_cons_zero, List.set_cons_succ]
        refine wpAnyX_take (i := 3) (v := .pointer (some ⟨b, 4, none⟩)) rfl (by kernel_rfl) (by kernel_rfl) (by kernel_rfl) (by kernel_rfl) (fun _ _ _ h => h) (Or.inl ⟨by rfl, fun w9 hSw => ?_⟩) hHeld ?_
        · go_simp
        simp only [List.getElem_toArray, List.getElem_cons_succ, List.getElem_cons_zero, Act.put, List.setIfInBounds_toArray, List.set_cons_zero, List.set_cons_succ]
        refine wpAnyX_take (i := 4) (v := .slice (some ⟨g, 0, none⟩) n tc) rfl (by kernel_rfl) (by kernel_rfl) (by kernel_rfl) (by kernel_rfl) (fun _ _ _ h => h) (Or.inl ⟨by rfl, fun w9 hSw => ?_⟩) hHeld ?_
        · obtain ⟨q4, q2, q5⟩ := hSw
          go_simp
        simp only [List.getElem_toArray, List.getElem_cons_succ, List.getElem_cons_zero, Act.put, List.setIfInBounds_toArray, List.set_cons_zero, List.set_cons_succ]
        refine wpAnyX_take (i := 5) (v := .int .i64 n) rfl (by kernel_rfl) (by kernel_rfl) (by kernel_rfl) (by kernel_rfl) (fun _ _ _ h => h) (Or.inl ⟨by rfl, fun w9 hSw => ?_⟩) hHeld ?_
        · go_simp
        simp only [List.getElem_toArray, List.getElem_cons_succ, List.getElem_cons_zero, Act.put, List.setIfInBounds_toArray, List.set_cons_zero, List.set_cons_succ]
        refine wpAnyX_take (i := 6) (v := .bool true) rfl (by kernel_rfl) (by kernel_rfl) (by kernel_rfl) (by kernel_rfl) (fun _ _ _ h => h) (Or.inl ⟨by rfl, fun w9 hSw => ?_⟩) hHeld ?_
        · go_simp
          try omega
        simp only [List.getElem_toArray, List.getElem_cons_succ, List.getElem_cons_zero, Act.put, List.setIfInBounds_toArray, List.set_cons_zero, List.set_cons_succ]
        refine wpAnyX_take (i := 7) (v := .bool true) rfl (by kernel_rfl) (by kernel_rfl) (by kernel_rfl) (by kernel_rfl) (fun _ _ _ h => h) (Or.inl ⟨by rfl, fun w9 hSw => ?_⟩) hHeld ?_
        · go_simp
        simp only [List.getElem_toArray, List.getElem_cons_succ, List.getElem_cons_zero, Act.put, List.setIfInBounds_toArray, List.set_cons_zero, List.set_cons_succ]
        refine wpAnyX_take (i := 8) (v := .pointer (some ⟨b, 0, none⟩)) rfl (by kernel_rfl) (by kernel_rfl) (by kernel_rfl) (by kernel_rfl) (fun _ _ _ h => h) (Or.inl ⟨by rfl, fun w9 hSw => ?_⟩) hHeld ?_
        · go_simp
        simp only [List.getElem_toArray, List.getElem_cons_succ, List.getElem_cons_zero, Act.put, List.setIfInBounds_toArray, List.set_cons_zero, List.set_cons_succ]
        refine wpAnyX_take (i := 9) (v := .pointer (some ⟨b, 0, none⟩)) rfl (by kernel_rfl) (by kernel_rfl) (by kernel_rfl) (by kernel_rfl) (fun _ _ _ h => h) (Or.inl ⟨by rfl, fun w9 hSw => ?_⟩) hHeld ?_
        · go_simp
        simp only [List.getElem_toArray, List.getElem_cons_succ, List.getElem_cons_zero, Act.put, List.setIfInBounds_toArray, List.set_cons_zero, List.set_cons_succ]
        refine wpAnyX_take (i := 10) (v := .pointer (some ⟨b, 4, none⟩)) rfl (by kernel_rfl) (by kernel_rfl) (by kernel_rfl) (by kernel_rfl) (fun _ _ _ h => h) (Or.inl ⟨by rfl, fun w9 hSw => ?_⟩) hHeld ?_
        · go_simp
        simp only [List.getElem_toArray, List.getElem_cons_succ, List.getElem_cons_zero, Act.put, List.setIfInBounds_toArray, List.set_cons_zero, List.set_cons_succ]
        refine wpAnyX_take (i := 11) (v := .slice (some ⟨g, 0, none⟩) n tc) rfl (by kernel_rfl) (by kernel_rfl) (by kernel_rfl) (by kernel_rfl) (fun _ _ _ h => h) (Or.inl ⟨by rfl, fun w9 hSw => ?_⟩) hHeld ?_
        · obtain ⟨q4, q2, q5⟩ := hSw
          go_simp
        simp only [List.getElem_toArray, List.getElem_cons_succ, List.getElem_cons_zero, Act.put, List.setIfInBounds_toArray, List.set_cons_zero, List.set_cons_succ]
        refine wpAnyX_take (i := 12) (v := .int .i64 k) rfl (by kernel_rfl) (by kernel_rfl) (by kernel_rfl) (by kernel_rfl) (fun _ _ _ h => h) (Or.inl ⟨by rfl, fun w9 hSw => ?_⟩) hHeld ?_
        · go_simp
        simp only [List.getElem_toArray, List.getElem_cons_succ, List.getElem_cons_zero, Act.put, List.setIfInBounds_toArray, List.set_cons_zero, List.set_cons_succ]
        refine wpAnyX_take (i := 13) (v := .pointer (some ⟨g, k * 3, none⟩)) rfl (by kernel_rfl) (by kernel_rfl) (by kernel_rfl) (by kernel_rfl) (fun _ _ _ h => h) (Or.inl ⟨by rfl, fun w9 hSw => ?_⟩) hHeld ?_
        · go_simp
        simp only [List.getElem_toArray, List.getElem_cons_succ, List.getElem_cons_zero, Act.put, List.setIfInBounds_toArray, List.set_cons_zero, List.set_cons_succ]
        refine wpAnyX_take (i := 14) (v := .pointer (some ⟨g, k * 3 + 2, none⟩)) rfl (by kernel_rfl) (by kernel_rfl) (by kernel_rfl) (by kernel_rfl) (fun _ _ _ h => h) (Or.inl ⟨by rfl, fun w9 hSw => ?_⟩) hHeld ?_
        · go_simp
        simp only [List.getElem_toArray, List.getElem_cons_succ, List.getElem_cons_zero, Act.put, List.setIfInBounds_toArray, List.set_cons_zero, List.set_cons_succ]
        refine wpAnyX_take (i := 15) (v := .int .i64 AK) rfl (by kernel_rfl) (by kernel_rfl) (by kernel_rfl) (by kernel_rfl) (fun _ _ _ h => h) (Or.inl ⟨by rfl, fun w9 hSw => ?_⟩) hHeld ?_
        · obtain ⟨q4, q2, q5⟩ := hSw
          go_simp
        simp only [List.getElem_toArray, List.getElem_cons_succ, List.getElem_cons_zero, Act.put, List.setIfInBounds_toArray, List.set_cons_zero, List.set_cons_succ]
        refine wpAnyX_take (i := 16) (v := .pointer (some ⟨b, 0, none⟩)) rfl (by kernel_rfl) (by kernel_rfl) (by kernel_rfl) (by kernel_rfl) (fun _ _ _ h => h) (Or.inl ⟨by rfl, fun w9 hSw => ?_⟩) hHeld ?_
        · go_simp
        simp only [List.getElem_toArray, List.getElem_cons_succ, List.getElem_cons_zero, Act.put, List.setIfInBounds_toArray, List.set_cons_zero, List.set_cons_succ]
        refine wpAnyX_take (i := 17) (v := .pointer (some ⟨b, 0, none⟩)) rfl (by kernel_rfl) (by kernel_rfl) (by kernel_rfl) (by kernel_rfl) (fun _ _ _ h => h) (Or.inl ⟨by rfl, fun w9 hSw => ?_⟩) hHeld ?_
        · go_simp
        simp only [List.getElem_toArray, List.getElem_cons_succ, List.getElem_cons_zero, Act.put, List.setIfInBounds_toArray, List.set_cons_zero, List.set_cons_succ]
        refine wpAnyX_take (i := 18) (v := .pointer (some ⟨b, 2, none⟩)) rfl (by kernel_rfl) (by kernel_rfl) (by kernel_rfl) (by kernel_rfl) (fun _ _ _ h => h) (Or.inl ⟨by rfl, fun w9 hSw => ?_⟩) hHeld ?_
        · go_simp
        simp only [List.getElem_toArray, List.getElem_cons_succ, List.getElem_cons_zero, Act.put, List.setIfInBounds_toArray, List.set_cons_zero, List.set_cons_succ]
        refine wpAnyX_take (i := 19) (v := .int .i64 A0) rfl (by kernel_rfl) (by kernel_rfl) (by kernel_rfl) (by kernel_rfl) (fun _ _ _ h => h) (Or.inl ⟨by rfl, fun w9 hSw => ?_⟩) hHeld ?_
        · obtain ⟨q4, q2, q5⟩ := hSw
          go_simp
        simp only [List.getElem_toArray, List.getElem_cons_succ, List.getElem_cons_zero, Act.put, List.setIfInBounds_toArray, List.set_cons_zero, List.set_cons_succ]
        refine wpAnyX_take (i := 20) (v := .bool false) rfl (by kernel_rfl) (by kernel_rfl) (by kernel_rfl) (by kernel_rfl) (fun _ _ _ h => h) (Or.inl ⟨by rfl, fun w9 hSw => ?_⟩) hHeld ?_
        · go_simp
        simp only [List.getElem_toArray, List.getElem_cons_succ, List.getElem_cons_zero, Act.put, List.setIfInBounds_toArray, List.set_cons_zero, List.set_cons_succ]
        refine wpAnyX_take (i := 21) (v := .bool false) rfl (by kernel_rfl) (by kernel_rfl) (by kernel_rfl) (by kernel_rfl) (fun _ _ _ h => h) (Or.inl ⟨by rfl, fun w9 hSw => ?_⟩) hHeld ?_
        · go_simp
        simp only [List.getElem_toArray, List.getElem_cons_succ, List.getElem_cons_zero, Act.put, List.setIfInBounds_toArray, List.set_cons_zero, List.set_cons_succ]
        refine wpAnyX_done (by kernel_rfl) ?_ _
        have HK : Hid (many N.tm = k) := many_eq HT.out.1 (by have := HS.out.2.2; omega) (fun j t8 hj hjk => by rw [← HT.out.2]; exact HJ.out.2 j t8 hj hjk) (fun t8 h8 => by
          rw [HAK.out.1] at h8
          injection h8 with h8
          rw [← h8, ← HAK.out.2, ← HT.out.2]
          exact HAA.out)
        have HB : Hid (Below w2.heap.size w2 wr.drew) := HJ.out.1.drew
        clear hHeld hS0 HJ HAK HAA hb9
        generalize wr.drew = wq at HB ⊢
        have c4 : wq.cell? ⟨b, 4, none⟩ = some (.slice (some ⟨g, 0, none⟩) n tc) := ((HS2.out.1.below HB.out).cells.2.2.2.2).trans (by show some N.tv = _; rw [HS.out.2.1])
        have z4 : wq.frozen? ⟨b, 4, none⟩ = false := (HS2.out.1.below HB.out).unfrozen 4
        have hbq : b < wq.heap.size := (HS2.out.1.below HB.out).lt
        have hcel : ∀ (w' : World), Below w2.heap.size w2 w' → ∀ j u, (tmL N.tm)[j]? = some u → w'.cell? ⟨g, j, none⟩ = some u := fun w' hb' j u hu => by
          have h9 := HS2.out.1.tm
          rw [show (rsetCk N A0).tv = .slice (some ⟨g, 0, none⟩) n tc from HS.out.2.1] at h9
          have h8 := h9.cells (g := g) rfl j u hu
          rw [Addr.add_lit, Nat.zero_add] at h8
          exact (hb'.cell (p := ⟨g, j, none⟩) (cell_lt h8)).trans h8
        have HC : Hid (∀ (w' : World), Below w2.heap.size w2 w' → ∀ j u, (tmL N.tm)[j]? = some u → w'.cell? ⟨g, j, none⟩ = some u) := hcel
        have hlk : (tmL N.tm).length = n * 3 := by rw [tmL_length, HS.out.2.2]
        have htk : n ≤ tc := htc
        clear hcel
        go_wp2_with (first
          | (at_builtin
             have hE := empty92 wq
             have hEb : Below wq.heap.size wq (wq.alloc (.cells #[] 92)) := (Below.refl _ wq).alloc (Nat.le_refl _) _
             have hB1 : Below w2.heap.size w2 (wq.alloc (.cells #[] 92)) := HB.out.trans (hEb.mono HB.out.size)
             have hs1 := HB.out.size
             refine elU.wpList_append rfl _ _ rfl 0 (.slice (some ⟨wq.heap.size, 0, none⟩) 0 0) 0 [] rfl hE (some ⟨g, 0, none⟩) k tc rfl ((tmL N.tm).take (k * 3)) (by rw [List.length_take, hlk]; omega) (fun _ => ⟨_, rfl, fun j u hu => by
               rw [Addr.add_lit, Nat.zero_add]
               rw [List.getElem?_take] at hu
               split at hu
               · exact HC.out _ hB1 j u hu
               · cases hu⟩) (fun e => by cases e) (fun u hu => tmL_one N.tm u (List.mem_of_mem_take hu)) (by omega) (Nat.zero_le _) ?_
             intro v6 w6 ho6 hg6 ha6
             rw [List.nil_append, Nat.zero_add] at ho6
             obtain ⟨v6a, v6c, rfl⟩ := row_form ho6
             have hB6 : Below w2.heap.size w2 w6 := hB1.grown hg6 hB1.size (fun jj hjj => by have h9 : wq.heap.size = jj := (by simpa [Value.ownBlock] using hjj); omega)
             have H6 : Hid (Below w2.heap.size w2 w6 ∧ w6.ownsRow 0 92 3 (.slice v6a k v6c) k ((tmL N.tm).take (k * 3)) ∧ (∀ x, (Value.slice v6a k v6c).ownBlock = some x → w2.heap.size ≤ x)) := ⟨hB6, ho6, fun x hx => by
               rcases ha6 with e | e
               · rw [e] at hx
                 have h9 : wq.heap.size = x := (by simpa [Value.ownBlock] using hx)
                 omega
               · rw [e] at hx
                 injection hx with hx
                 have := hB1.size
                 omega⟩
             have d4 : w6.cell? ⟨b, 4, none⟩ = some (.slice (some ⟨g, 0, none⟩) n tc) := ((HS2.out.1.below H6.out.1).cells.2.2.2.2).trans (by show some N.tv = _; rw [HS.out.2.1])
             have hb6 : b < w6.heap.size := (HS2.out.1.below H6.out.1).lt
             clear hE hEb hB1 hs1 ho6 hg6 ha6 hB6 HB c4 z4)
          | (at_builtin
             have hE := empty92 w6
             have hEb : Below w6.heap.size w6 (w6.alloc (.cells #[] 92)) := (Below.refl _ w6).alloc (Nat.le_refl _) _
             have hB1 : Below w2.heap.size w2 (w6.alloc (.cells #[] 92)) := H6.out.1.trans (hEb.mono H6.out.1.size)
             have hs1 := H6.out.1.size
             have hr1 := ownsRow_heap H6.out.2.1 (fun x hx => hEb.block x (H6.out.2.1.lt x hx).2)
             refine elU.wpList_append rfl _ _ rfl 0 (.slice (some ⟨w6.heap.size, 0, none⟩) 0 0) 0 [] rfl hE (some ⟨g, k * 3, none⟩) (n - k) (tc - k) rfl ((tmL N.tm).drop (k * 3)) (by rw [List.length_drop, hlk]; omega) (fun hpos => ⟨⟨g, k * 3, none⟩, rfl, fun j u hu => by
               rw [Addr.add_lit]
               rw [List.getElem?_drop] at hu
               exact HC.out _ hB1 _ u hu⟩) (fun e => by cases e) (fun u hu => tmL_one N.tm u (List.mem_of_mem_drop hu)) (by omega) (Nat.zero_le _) ?_
             intro v7 w7 ho7 hg7 ha7
             rw [List.nil_append, Nat.zero_add] at ho7
             obtain ⟨v7a, v7c, rfl⟩ := row_form ho7
             have hB7 : Below w2.heap.size w2 w7 := hB1.grown hg7 hB1.size (fun jj hjj => by have h9 : w6.heap.size = jj := (by simpa [Value.ownBlock] using hjj); omega)
             have hf7 : ∀ x, (Value.slice v7a (n - k) v7c).ownBlock = some x → w6.heap.size ≤ x := fun x hx => by
               rcases ha7 with e | e
               · rw [e] at hx
                 have h9 : w6.heap.size = x := (by simpa [Value.ownBlock] using hx)
                 omega
               · rw [e] at hx
                 injection hx with hx
                 have := hEb.size
                 omega
             have hk7 : ∀ x, x < w6.heap.size → w7.heap[x]? = w6.heap[x]? := fun x hx => (hg7.block x (by have := hEb.size; omega) (fun e => by have h9 : w6.heap.size = x := (by simpa [Value.ownBlock] using e.symm); omega)).trans (hEb.block x hx)
             have hld : (N.tm.drop k).length = n - k := by rw [List.length_drop]; have := HS.out.2.2; omega
             have hend := rsetT_end (v := .slice v7a (n - k) v7c) (l := N.tm.drop k) HS2.out.1 (gb_of_below hB7 _) (by rw [hld, tmL_drop]; exact ho7) (Or.inr (fun x hx => by have := hf7 x hx; omega))
             have hrow := ownsRow_heap H6.out.2.1 (fun x hx => hk7 x (H6.out.2.1.lt x hx).2)
             have hbz := HS2.out.1.lt
             have hrow2 : (w7.setCell ⟨b, 4, none⟩ (.slice v7a (n - k) v7c)).ownsRow 0 92 3 (.slice v6a k v6c) k ((tmL N.tm).take (k * 3)) := ownsRow_heap hrow (fun x hx => Below.heap_setCell _ _ _ _ (fun e => by have := H6.out.2.2 x hx; have e' : x = b := e; omega))
             have z7 : w7.frozen? ⟨b, 4, none⟩ = false := unfrozen_of_block ((hB7.block b hbz).trans HS2.out.1.net) 4
             have H7 : Hid (RIs (w7.setCell ⟨b, 4, none⟩ (.slice v7a (n - k) v7c)) b (rsetT (rsetCk N A0) (.slice v7a (n - k) v7c) (N.tm.drop k)) ∧ RFr w (w7.setCell ⟨b, 4, none⟩ (.slice v7a (n - k) v7c)) N (rsetT (rsetCk N A0) (.slice v7a (n - k) v7c) (N.tm.drop k)) ∧ (w7.setCell ⟨b, 4, none⟩ (.slice v7a (n - k) v7c)).ownsRow 0 92 3 (.slice v6a k v6c) k ((tmL N.tm).take (k * 3)) ∧ (∀ x, (Value.slice v6a k v6c).ownBlock = some x → w2.heap.size ≤ x ∧ (rsetT (rsetCk N A0) (.slice v7a (n - k) v7c) (N.tm.drop k)).own x = 0)) := ⟨hend.1, HS2.out.2.trans hend.2, hrow2, fun x hx => ⟨H6.out.2.2 x hx, by
               show (if (Value.slice v7a (n - k) v7c).ownBlock = some x then 4 else N.own x) = 0
               rw [if_neg (fun hc => by have h1 := hf7 x hc; have h2 := (H6.out.2.1.lt x hx).2; omega)]
               exact HS.out.1.fresh x (by have h1 := H6.out.2.2 x hx; have h2 := HS2.out.2.size; omega)⟩⟩
             have e4 : w7.cell? ⟨b, 4, none⟩ = some (.slice (some ⟨g, 0, none⟩) n tc) := ((HS2.out.1.below hB7).cells.2.2.2.2).trans (by show some N.tv = _; rw [HS.out.2.1])
             clear hE hEb hB1 hs1 hr1 ho7 hg7 ha7 hB7 hf7 hk7 hld hend hrow hrow2 hbz H6 d4))
        go_ret
        have hk9 := HK.out
        refine ⟨.slice v6a k v6c, _, rfl, ?_, H7.out.1, H7.out.2.1, ?_, fun x hx => (H7.out.2.2.2 x hx).2⟩
        · have hlt : (N.tm.take (many N.tm)).length = k := by rw [hk9, List.length_take]; have := HS.out.2.2; omega
          rw [hlt, hk9, tmL_take]
          have hsz := HS2.out.2.size
          have h1 := H7.out.2.2.1
          refine ⟨h1.1, ?_⟩
          rcases h1.2 with h | ⟨g8, cap, cur, e, _, r⟩
          · exact Or.inl h
          · exact Or.inr ⟨g8, cap, cur, e, Nat.le_trans hsz (H7.out.2.2.2 g8 (by rw [e]; rfl)).1, r⟩
        · rw [hk9]
          rfl
    · obtain rfl : n = k := by omega
      have HK : Hid (many N.tm = n) := many_eq HT.out.1 (by have := HS.out.2.2; omega) (fun j t8 hj hjk => by rw [← HT.out.2]; exact HJ.out.2 j t8 hj hjk) (fun t8 h8 => by have h7 := (List.getElem?_eq_some_iff.1 h8).1; have := HS.out.2.2; omega)
      clear hlt
      have hS0 : wr.cell? ⟨b, 4, none⟩ = some (.slice (some ⟨g, 0, none⟩) n tc) := d4
      clear d4 d2 hR
      go_wp2_with fail
      refine wp_region_X (fun _ => false) (S := fun w' => w'.cell? ⟨b, 4, none⟩ = some (.slice (some ⟨g, 0, none⟩) n tc)) (by kernel_rfl) hS0 (fun hHeld => ?_)
      refine wpAnyX_take (i := 0) (v := .int .i64 n) rfl (by kernel_rfl) (by kernel_rfl) (by kernel_rfl) (by kernel_rfl) (fun _ _ _ h => h) (Or.inl ⟨by rfl, fun w9 hSw => ?_⟩) hHeld ?_
      · go_simp
      simp only [List.getElem_toArray, List.getElem_cons_succ, List.getElem_cons_zero, Act.put, List.setIfInBounds_toArray, List.set_cons_zero, List.set_cons_succ]
      refine wpAnyX_take (i := 1) (v := .pointer (some ⟨b, 0, none⟩)) rfl (by kernel_rfl) (by kernel_rfl) (by kernel_rfl) (by kernel_rfl) (fun _ _ _ h => h) (Or.inl ⟨by rfl, fun w9 hSw => ?_⟩) hHeld ?_
      · go_simp
      simp only [List.getElem_toArray, List.getElem_cons_succ, List.getElem_cons_zero, Act.put, List.setIfInBounds_toArray, List.set_cons_zero, List.set_cons_succ]
      refine wpAnyX_take (i := 2) (v := .pointer (some ⟨b, 0, none⟩)) rfl (by kernel_rfl) (by kernel_rfl) (by kernel_rfl) (by kernel_rfl) (fun _ _ _ h => h) (Or.inl ⟨by rfl, fun w9 hSw => ?_⟩) hHeld ?_
      · go_simp
      simp only [List.getElem_toArray, List.getElem_cons_succ, List.getElem_cons_zero, Act.put, List.setIfInBounds_toArray, List.set_cons_zero, List.set_cons_succ]
      refine wpAnyX_take (i := 3) (v := .pointer (some ⟨b, 4, none⟩)) rfl (by kernel_rfl) (by kernel_rfl) (by kernel_rfl) (by kernel_rfl) (fun _ _ _ h => h) (Or.inl ⟨by rfl, fun w9 hSw => ?_⟩) hHeld ?_
      · go_simp
      simp only [List.getElem_toArray, List.getElem_cons_succ, List.getElem_cons_zero, Act.put, List.setIfInBounds_toArray, List.set_cons_zero, List.set_cons_succ]
      refine wpAnyX_take (i := 4) (v := .slice (some ⟨g, 0, none⟩) n tc) rfl (by kernel_rfl) (by kernel_rfl) (by kernel_rfl) (by kernel_rfl) (fun _ _ _ h => h) (Or.inl ⟨by rfl, fun w9 hSw => ?_⟩) hHeld ?_
      · have q4 : w9.cell? ⟨b, 4, none⟩ = some (.slice (some ⟨g, 0, none⟩) n tc) := hSw
        go_simp
      simp only [List.getElem_toArray, List.getElem_cons_succ, List.getElem_cons_zero, Act.put, List.setIfInBounds_toArray, List.set_cons_zero, List.set_cons_succ]
      refine wpAnyX_take (i := 5) (v := .int .i64 n) rfl (by kernel_rfl) (by kernel_rfl) (by kernel_rfl) (by kernel_rfl) (fun _ _ _ h => h) (Or.inl ⟨by rfl, fun w9 hSw => ?_⟩) hHeld ?_
      · go_simp
      simp only [List.getElem_toArray, List.getElem_cons_succ, List.getElem_cons_zero, Act.put, List.setIfInBounds_toArray, List.set_cons_zero, List.set_cons_succ]
      refine wpAnyX_take (i := 6) (v := .bool false) rfl (by kernel_rfl) (by kernel_rfl) (by kernel_rfl) (by kernel_rfl) (fun _ _ _ h => h) (Or.inl ⟨by rfl, fun w9 hSw => ?_⟩) hHeld ?_
      · go_simp
      simp only [List.getElem_toArray, List.getElem_cons_succ, List.getElem_cons_zero, Act.put, List.setIfInBounds_toArray, List.set_cons_zero, List.set_cons_succ]
      refine wpAnyX_take (i := 7) (v := .bool false) rfl (by kernel_rfl) (by kernel_rfl) (by kernel_rfl) (by kernel_rfl) (fun _ _ _ h => h) (Or.inl ⟨by rfl, fun w9 hSw => ?_⟩) hHeld ?_
      · go_simp
      simp only [List.getElem_toArray, List.getElem_cons_succ, List.getElem_cons_zero, Act.put, List.setIfInBounds_toArray, List.set_cons_zero, List.set_cons_succ]
      refine wpAnyX_take (i := 8) (v := undef) rfl (by kernel_rfl) (by kernel_rfl) (by kernel_rfl) (by kernel_rfl) (fun _ _ _ h => h) (Or.inr ⟨by rfl, rfl⟩) hHeld ?_
      simp only [List.getElem_toArray, List.getElem_cons_succ, List.getElem_cons_zero, Act.put, List.setIfInBounds_toArray, List.set_cons_zero, List.set_cons_succ]
      refine wpAnyX_take (i := 9) (v := undef) rfl (by kernel_rfl) (by kernel_rfl) (by kernel_rfl) (by kernel_rfl) (fun _ _ _ h => h) (Or.inr ⟨by rfl, rfl⟩) hHeld ?_
      simp only [List.getElem_toArray, List.getElem_cons_succ, List.getElem_cons_zero, Act.put, List.setIfInBounds_toArray, List.set_cons_zero, List.set_cons_succ]
      refine wpAnyX_take (i := 10) (v := undef) rfl (by kernel_rfl) (by kernel_rfl) (by kernel_rfl) (by kernel_rfl) (fun _ _ _ h => h) (Or.inr ⟨by rfl, rfl⟩) hHeld ?_
      simp only [List.getElem_toArray, List.getElem_cons_succ, List.getElem_cons_zero, Act.put, List.setIfInBounds_toArray, List.set_cons_zero, List.set_cons_succ]
      refine wpAnyX_take (i := 11) (v := undef) rfl (by kernel_rfl) (by kernel_rfl) (by kernel_rfl) (by kernel_rfl) (fun _ _ _ h => h) (Or.inr ⟨by rfl, rfl⟩) hHeld ?_
      simp only [List.getElem_toArray, List.getElem_cons_succ, List.getElem_cons_zero, Act.put, List.setIfInBounds_toArray, List.set_cons_zero, List.set_cons_succ]
      refine wpAnyX_take (i := 12) (v := undef) rfl (by kernel_rfl) (by kernel_rfl) (by kernel_rfl) (by kernel_rfl) (fun _ _ _ h => h) (Or.inr ⟨by rfl, rfl⟩) hHeld ?_
      simp only [List.getElem_toArray, List.getElem_cons_succ, List.getElem_cons_zero, Act.put, List.setIfInBounds_toArray, List.set_cons_zero, List.set_cons_succ]
      refine wpAnyX_take (i := 13) (v := undef) rfl (by kernel_rfl) (by kernel_rfl) (by kernel_rfl) (by kernel_rfl) (fun _ _ _ h => h) (Or.inr ⟨by rfl, rfl⟩) hHeld ?_
      simp only [List.getElem_toArray, List.getElem_cons_succ, List.getElem_cons_zero, Act.put, List.setIfInBounds_toArray, List.set_cons_zero, List.set_cons_succ]
      refine wpAnyX_take (i := 14) (v := undef) rfl (by kernel_rfl) (by kernel_rfl) (by kernel_rfl) (by kernel_rfl) (fun _ _ _ h => h) (Or.inr ⟨by rfl, rfl⟩) hHeld ?_
      simp only [List.getElem_toArray, List.getElem_cons_succ, List.getElem_cons_zero, Act.put, List.setIfInBounds_toArray, List.set_cons_zero, List.set_cons_succ]
      refine wpAnyX_take (i := 15) (v := undef) rfl (by kernel_rfl) (by kernel_rfl) (by kernel_rfl) (by kernel_rfl) (fun _ _ _ h => h) (Or.inr ⟨by rfl, rfl⟩) hHeld ?_
      simp only [List.getElem_toArray, List.getElem_cons_succ, List.getElem_cons_zero, Act.put, List.setIfInBounds_toArray, List.set_cons_zero, List.set_cons_succ]
      refine wpAnyX_take (i := 16) (v := undef) rfl (by kernel_rfl) (by kernel_rfl) (by kernel_rfl) (by kernel_rfl) (fun _ _ _ h => h) (Or.inr ⟨by rfl, rfl⟩) hHeld ?_
      simp only [List.getElem_toArray, List.getElem_cons_succ, List.getElem_cons_zero, Act.put, List.setIfInBounds_toArray, List.set_cons_zero, List.set_cons_succ]
      refine wpAnyX_take (i := 17) (v := undef) rfl (by kernel_rfl) (by kernel_rfl) (by kernel_rfl) (by kernel_rfl) (fun _ _ _ h => h) (Or.inr ⟨by rfl, rfl⟩) hHeld ?_
      simp only [List.getElem_toArray, List.getElem_cons_succ, List.getElem_cons_zero, Act.put, List.setIfInBounds_toArray, List.set_cons_zero, List.set_cons_succ]
      refine wpAnyX_take (i := 18) (v := undef) rfl (by kernel_rfl) (by kernel_rfl) (by kernel_rfl) (by kernel_rfl) (fun _ _ _ h => h) (Or.inr ⟨by rfl, rfl⟩) hHeld ?_
      simp only [List.getElem_toArray, List.getElem_cons_succ, List.getElem_cons_zero, Act.put, List.setIfInBounds_toArray, List.set_cons_zero, List.set_cons_succ]
      refine wpAnyX_take (i := 19) (v := undef) rfl (by kernel_rfl) (by kernel_rfl) (by kernel_rfl) (by kernel_rfl) (fun _ _ _ h => h) (Or.inr ⟨by rfl, rfl⟩) hHeld ?_
      simp only [List.getElem_toArray, List.getElem_cons_succ, List.getElem_cons_zero, Act.put, List.setIfInBounds_toArray, List.set_cons_zero, List.set_cons_succ]
      refine wpAnyX_take (i := 20) (v := undef) rfl (by kernel_rfl) (by kernel_rfl) (by kernel_rfl) (by kernel_rfl) (fun _ _ _ h => h) (Or.inr ⟨by rfl, rfl⟩) hHeld ?_
      simp only [List.getElem_toArray, List.getElem_cons_succ, List.getElem_cons_zero, Act.put, List.setIfInBounds_toArray, List.set_cons_zero, List.set_cons_succ]
      refine wpAnyX_take (i := 21) (v := .bool false) rfl (by kernel_rfl) (by kernel_rfl) (by kernel_rfl) (by kernel_rfl) (fun _ _ _ h => h) (Or.inl ⟨by rfl, fun w9 hSw => ?_⟩) hHeld ?_
      · go_simp
      simp only [List.getElem_toArray, List.getElem_cons_succ, List.getElem_cons_zero, Act.put, List.setIfInBounds_toArray, List.set_cons_zero, List.set_cons_succ]
      refine wpAnyX_done (by kernel_rfl) ?_ _
      have HB : Hid (Below w2.heap.size w2 wr.drew) := HJ.out.1.drew
      clear hHeld hS0 HJ
      generalize wr.drew = wq at HB ⊢
      have c4 : wq.cell? ⟨b, 4, none⟩ = some (.slice (some ⟨g, 0, none⟩) n tc) := ((HS2.out.1.below HB.out).cells.2.2.2.2).trans (by show some N.tv = _; rw [HS.out.2.1])
      have z4 : wq.frozen? ⟨b, 4, none⟩ = false := (HS2.out.1.below HB.out).unfrozen 4
      have hbq : b < wq.heap.size := (HS2.out.1.below HB.out).lt
      have hcel : ∀ (w' : World), Below w2.heap.size w2 w' → ∀ j u, (tmL N.tm)[j]? = some u → w'.cell? ⟨g, j, none⟩ = some u := fun w' hb' j u hu => by
        have h9 := HS2.out.1.tm
        rw [show (rsetCk N A0).tv = .slice (some ⟨g, 0, none⟩) n tc from HS.out.2.1] at h9
        have h8 := h9.cells (g := g) rfl j u hu
        rw [Addr.add_lit, Nat.zero_add] at h8
        exact (hb'.cell (p := ⟨g, j, none⟩) (cell_lt h8)).trans h8
      have HC : Hid (∀ (w' : World), Below w2.heap.size w2 w' → ∀ j u, (tmL N.tm)[j]? = some u → w'.cell? ⟨g, j, none⟩ = some u) := hcel
      have hlk : (tmL N.tm).length = n * 3 := by rw [tmL_length, HS.out.2.2]
      have htk : n ≤ tc := htc
      clear hcel
      go_wp2_with (first
        | (at_builtin
           have hE := empty92 wq
           have hEb : Below wq.heap.size wq (wq.alloc (.cells #[] 92)) := (Below.refl _ wq).alloc (Nat.le_refl _) _
           have hB1 : Below w2.heap.size w2 (wq.alloc (.cells #[] 92)) := HB.out.trans (hEb.mono HB.out.size)
           have hs1 := HB.out.size
           refine elU.wpList_append rfl _ _ rfl 0 (.slice (some ⟨wq.heap.size, 0, none⟩) 0 0) 0 [] rfl hE (some ⟨g, 0, none⟩) n tc rfl ((tmL N.tm).take (n * 3)) (by rw [List.length_take, hlk]; omega) (fun _ => ⟨_, rfl, fun j u hu => by
             rw [Addr.add_lit, Nat.zero_add]
             rw [List.getElem?_take] at hu
             split at hu
             · exact HC.out _ hB1 j u hu
             · cases hu⟩) (fun e => by cases e) (fun u hu => tmL_one N.tm u (List.mem_of_mem_take hu)) (by omega) (Nat.zero_le _) ?_
           intro v6 w6 ho6 hg6 ha6
           rw [List.nil_append, Nat.zero_add] at ho6
           obtain ⟨v6a, v6c, rfl⟩ := row_form ho6
           have hB6 : Below w2.heap.size w2 w6 := hB1.grown hg6 hB1.size (fun jj hjj => by have h9 : wq.heap.size = jj := (by simpa [Value.ownBlock] using hjj); omega)
           have H6 : Hid (Below w2.heap.size w2 w6 ∧ w6.ownsRow 0 92 3 (.slice v6a n v6c) n ((tmL N.tm).take (n * 3)) ∧ (∀ x, (Value.slice v6a n v6c).ownBlock = some x → w2.heap.size ≤ x)) := ⟨hB6, ho6, fun x hx => by
             rcases ha6 with e | e
             · rw [e] at hx
               have h9 : wq.heap.size = x := (by simpa [Value.ownBlock] using hx)
               omega
             · rw [e] at hx
               injection hx with hx
               have := hB1.size
               omega⟩
           have d4 : w6.cell? ⟨b, 4, none⟩ = some (.slice (some ⟨g, 0, none⟩) n tc) := ((HS2.out.1.below H6.out.1).cells.2.2.2.2).trans (by show some N.tv = _; rw [HS.out.2.1])
           have hb6 : b < w6.heap.size := (HS2.out.1.below H6.out.1).lt
           clear hE hEb hB1 hs1 ho6 hg6 ha6 hB6 HB c4 z4)
        | (at_builtin
           have hE := empty92 w6
           have hEb : Below w6.heap.size w6 (w6.alloc (.cells #[] 92)) := (Below.refl _ w6).alloc (Nat.le_refl _) _
           have hB1 : Below w2.heap.size w2 (w6.alloc (.cells #[] 92)) := H6.out.1.trans (hEb.mono H6.out.1.size)
           have hs1 := H6.out.1.size
           have hr1 := ownsRow_heap H6.out.2.1 (fun x hx => hEb.block x (H6.out.2.1.lt x hx).2)
           refine elU.wpList_append rfl _ _ rfl 0 (.slice (some ⟨w6.heap.size, 0, none⟩) 0 0) 0 [] rfl hE (if tc = n then some ⟨g, 0, none⟩ else some ⟨g, n * 3, none⟩) 0 (tc - n) rfl ((tmL N.tm).drop (n * 3)) (by rw [List.length_drop, hlk]; omega) (fun hpos => absurd hpos (by omega)) (fun e => by split at e <;> cases e) (fun u hu => tmL_one N.tm u (List.mem_of_mem_drop hu)) (by omega) (Nat.zero_le _) ?_
           intro v7 w7 ho7 hg7 ha7
           rw [List.nil_append, Nat.zero_add] at ho7
           obtain ⟨v7a, v7c, rfl⟩ := row_form ho7
           have hB7 : Below w2.heap.size w2 w7 := hB1.grown hg7 hB1.size (fun jj hjj => by have h9 : w6.heap.size = jj := (by simpa [Value.ownBlock] using hjj); omega)
           have hf7 : ∀ x, (Value.slice v7a 0 v7c).ownBlock = some x → w6.heap.size ≤ x := fun x hx => by
             rcases ha7 with e | e
             · rw [e] at hx
               have h9 : w6.heap.size = x := (by simpa [Value.ownBlock] using hx)
               omega
             · rw [e] at hx
               injection hx with hx
               have := hEb.size
               omega
           have hk7 : ∀ x, x < w6.heap.size → w7.heap[x]? = w6.heap[x]? := fun x hx => (hg7.block x (by have := hEb.size; omega) (fun e => by have h9 : w6.heap.size = x := (by simpa [Value.ownBlock] using e.symm); omega)).trans (hEb.block x hx)
           have hld : (N.tm.drop n).length = 0 := by rw [List.length_drop]; have := HS.out.2.2; omega
           have hend := rsetT_end (v := .slice v7a 0 v7c) (l := N.tm.drop n) HS2.out.1 (gb_of_below hB7 _) (by rw [hld, tmL_drop]; exact ho7) (Or.inr (fun x hx => by have := hf7 x hx; omega))
           have hrow := ownsRow_heap H6.out.2.1 (fun x hx => hk7 x (H6.out.2.1.lt x hx).2)
           have hbz := HS2.out.1.lt
           have hrow2 : (w7.setCell ⟨b, 4, none⟩ (.slice v7a 0 v7c)).ownsRow 0 92 3 (.slice v6a n v6c) n ((tmL N.tm).take (n * 3)) := ownsRow_heap hrow (fun x hx => Below.heap_setCell _ _ _ _ (fun e => by have := H6.out.2.2 x hx; have e' : x = b := e; omega))
           have z7 : w7.frozen? ⟨b, 4, none⟩ = false := unfrozen_of_block ((hB7.block b hbz).trans HS2.out.1.net) 4
           have H7 : Hid (RIs (w7.setCell ⟨b, 4, none⟩ (.slice v7a 0 v7c)) b (rsetT (rsetCk N A0) (.slice v7a 0 v7c) (N.tm.drop n)) ∧ RFr w (w7.setCell ⟨b, 4, none⟩ (.slice v7a 0 v7c)) N (rsetT (rsetCk N A0) (.slice v7a 0 v7c) (N.tm.drop n)) ∧ (w7.setCell ⟨b, 4, none⟩ (.slice v7a 0 v7c)).ownsRow 0 92 3 (.slice v6a n v6c) n ((tmL N.tm).take (n * 3)) ∧ (∀ x, (Value.slice v6a n v6c).ownBlock = some x → w2.heap.size ≤ x ∧ (rsetT (rsetCk N A0) (.slice v7a 0 v7c) (N.tm.drop n)).own x = 0)) := ⟨hend.1, HS2.out.2.trans hend.2, hrow2, fun x hx => ⟨H6.out.2.2 x hx, by
             show (if (Value.slice v7a 0 v7c).ownBlock = some x then 4 else N.own x) = 0
             rw [if_neg (fun hc => by have h1 := hf7 x hc; have h2 := (H6.out.2.1.lt x hx).2; omega)]
             exact HS.out.1.fresh x (by have h1 := H6.out.2.2 x hx; have h2 := HS2.out.2.size; omega)⟩⟩
           have e4 : w7.cell? ⟨b, 4, none⟩ = some (.slice (some ⟨g, 0, none⟩) n tc) := ((HS2.out.1.below hB7).cells.2.2.2.2).trans (by show some N.tv = _; rw [HS.out.2.1])
           clear hE hEb hB1 hs1 hr1 ho7 hg7 ha7 hB7 hf7 hk7 hld hend hrow hrow2 hbz H6 d4))
      all_goals
        go_ret
        have hk9 := HK.out
        refine ⟨.slice v6a n v6c, _, rfl, ?_, H7.out.1, H7.out.2.1, ?_, fun x hx => (H7.out.2.2.2 x hx).2⟩
        · have hlt : (N.tm.take (many N.tm)).length = n := by rw [hk9, List.length_take]; have := HS.out.2.2; omega
          rw [hlt, hk9, tmL_take]
          have hsz := HS2.out.2.size
          have h1 := H7.out.2.2.1
          refine ⟨h1.1, ?_⟩
          rcases h1.2 with h | ⟨g8, cap, cur, e, _, r⟩
          · exact Or.inl h
          · exact Or.inr ⟨g8, cap, cur, e, Nat.le_trans hsz (H7.out.2.2.2 g8 (by rw [e]; rfl)).1, r⟩
        · rw [hk9]
          rfl
set_option maxRecDepth 100000 in
set_option maxHeartbeats 16000000 in
theorem rtick_ring_b {w : World} {b : Nat} {N : RS} (h : RIs w b N) (ho : ROk N) (most : Int) (hm : ¬ most < 0) (hm2 : ¬ 1099511627776 - N.clk < most) (t : TM) (he : N.tm[0]? = some t) (hf : ¬ max most 0 < t.at_ - N.clk) :
    Calls Try.prog 24 #[.pointer (some ⟨b, 0, none⟩), .int .i64 most] w fun e w' => RTiR w b N (N.tm.take (many N.tm)) { absR N with clk := t.at_, tm := N.tm.drop (many N.tm) } e w' := by
  have c2 := h.cells.2.2.1
  have c4 := h.cells.2.2.2.2
  obtain ⟨ta, tc, htv, hnil, htc, hg0, hcells⟩ := h.tmv
  have hck := ho.ck
  have hb := h.lt
  have hl := ho.tm
  obtain ⟨C, hC⟩ : ∃ C, C = N.clk := ⟨_, rfl⟩
  rw [← hC] at c2 hck
  rw [← hC] at hm2
  have hA9 := ho.at_ t (List.mem_of_getElem? he)
  obtain ⟨A0, hA0⟩ : ∃ A0, A0 = t.at_ := ⟨_, rfl⟩
  rw [← hC, ← hA0] at hf
  rw [← hA0] at hA9 ⊢
  obtain ⟨g9, o9, e9, hc9⟩ := hcells (0 * 3 + 2) (.int .i64 t.at_) (by rw [tmL_at N.tm 0 t he 2 (by decide)]; rfl)
  obtain ⟨g, hg9⟩ := hg0 _ e9
  rw [hg9] at e9
  injection hg9 with hg1 hg2
  subst hg1 hg2 e9
  have ct : w.cell? ⟨g9, 2, none⟩ = some (.int .i64 A0) := by rw [hA0]; simpa using hc9
  have hpos : 0 < N.tm.length := (List.getElem?_eq_some_iff.1 he).1
  obtain ⟨n, hn⟩ : ∃ n, n = N.tm.length := ⟨_, rfl⟩
  rw [htv, ← hn] at c4
  rw [← hn] at htc htv
  have hn0 : ¬ (n : Int) = 0 := by omega
  have hn1 : (0 : Int) < n := by omega
  have hn3 : n ≤ 4096 := by omega
  have hMA : ¬ C + most < A0 := by omega
  obtain ⟨g, hg⟩ : ∃ g, g = g9 := ⟨_, rfl⟩
  rw [← hg] at ct c4 htv
  have HS : Hid (RIs w b N ∧ N.tv = .slice (some ⟨g, 0, none⟩) n tc ∧ N.tm.length = n) := ⟨h, htv, hn.symm⟩
  have HT : Hid (N.tm[0]? = some t ∧ A0 = t.at_) := ⟨he, hA0⟩
  have hS0 : w.cell? ⟨b, 4, none⟩ = some (.slice (some ⟨g, 0, none⟩) n tc) ∧ w.cell? ⟨b, 2, none⟩ = some (.int .i64 C) ∧ w.cell? ⟨g, 2, none⟩ = some (.int .i64 A0) := ⟨c4, c2, ct⟩
  clear h ho htv hnil hg0 hcells hC c4 he hl hA0 hf hc9 ct hpos hn hg
  go_enter Try.func24, Try.ntmps24
  go_wp2_with fail
  refine wp_region_X (fun _ => false) (S := fun w' => w'.cell? ⟨b, 4, none⟩ = some (.slice (some ⟨g, 0, none⟩) n tc) ∧ w'.cell? ⟨b, 2, none⟩ = some (.int .i64 C) ∧ w'.cell? ⟨g, 2, none⟩ = some (.int .i64 A0)) (by kernel_rfl) hS0 (fun hHeld => ?_)
  refine wpAnyX_take (i := 0) (v := .pointer (some ⟨b, 0, none⟩)) rfl (by kernel_rfl) (by kernel_rfl) (by kernel_rfl) (by kernel_rfl) (fun _ _ _ h => h) (Or.inl ⟨by rfl, fun w9 hSw => ?_⟩) hHeld ?_
  · go_simp
  simp only [List.getElem_toArray, List.getElem_cons_succ, List.getElem_cons_zero, Act.put, List.setIfInBounds_toArray, List.set_cons_zero, List.set_cons_succ]
  refine wpAnyX_take (i := 1) (v := .pointer (some ⟨b, 0, none⟩)) rfl (by kernel_rfl) (by kernel_rfl) (by kernel_rfl) (by kernel_rfl) (fun _ _ _ h => h) (Or.inl ⟨by rfl, fun w9 hSw => ?_⟩) hHeld ?_
  · go_simp
  simp only [List.getElem_toArray, List.getElem_cons_succ, List.getElem_cons_zero, Act.put, List.setIfInBounds_toArray, List.set_cons_zero, List.set_cons_succ]
  refine wpAnyX_take (i := 2) (v := .pointer (some ⟨b, 4, none⟩)) rfl (by kernel_rfl) (by kernel_rfl) (by kernel_rfl) (by kernel_rfl) (fun _ _ _ h => h) (Or.inl ⟨by rfl, fun w9 hSw => ?_⟩) hHeld ?_
  · go_simp
  simp only [List.getElem_toArray, List.getElem_cons_succ, List.getElem_cons_zero, Act.put, List.setIfInBounds_toArray, List.set_cons_zero, List.set_cons_succ]
  refine wpAnyX_take (i := 3) (v := .slice (some ⟨g, 0, none⟩) n tc) rfl (by kernel_rfl) (by kernel_rfl) (by kernel_rfl) (by kernel_rfl) (fun _ _ _ h => h) (Or.inl ⟨by rfl, fun w9 hSw => ?_⟩) hHeld ?_
  · obtain ⟨q4, q2, q5⟩ := hSw
    go_simp
  simp only [List.getElem_toArray, List.getElem_cons_succ, List.getElem_cons_zero, Act.put, List.setIfInBounds_toArray, List.set_cons_zero, List.set_cons_succ]
  refine wpAnyX_take (i := 4) (v := .int .i64 n) rfl (by kernel_rfl) (by kernel_rfl) (by kernel_rfl) (by kernel_rfl) (fun _ _ _ h => h) (Or.inl ⟨by rfl, fun w9 hSw => ?_⟩) hHeld ?_
  · go_simp
  simp only [List.getElem_toArray, List.getElem_cons_succ, List.getElem_cons_zero, Act.put, List.setIfInBounds_toArray, List.set_cons_zero, List.set_cons_succ]
  refine wpAnyX_take (i := 5) (v := .bool false) rfl (by kernel_rfl) (by kernel_rfl) (by kernel_rfl) (by kernel_rfl) (fun _ _ _ h => h) (Or.inl ⟨by rfl, fun w9 hSw => ?_⟩) hHeld ?_
  · go_simp
    try omega
  simp only [List.getElem_toArray, List.getElem_cons_succ, List.getElem_cons_zero, Act.put, List.setIfInBounds_toArray, List.set_cons_zero, List.set_cons_succ]
  refine wpAnyX_take (i := 6) (v := .bool false) rfl (by kernel_rfl) (by kernel_rfl) (by kernel_rfl) (by kernel_rfl) (fun _ _ _ h => h) (Or.inl ⟨by rfl, fun w9 hSw => ?_⟩) hHeld ?_
  · go_simp
  simp only [List.getElem_toArray, List.getElem_cons_succ, List.getElem_cons_zero, Act.put, List.setIfInBounds_toArray, List.set_cons_zero, List.set_cons_succ]
  refine wpAnyX_take (i := 7) (v := .pointer (some ⟨b, 0, none⟩)) rfl (by kernel_rfl) (by kernel_rfl) (by kernel_rfl) (by kernel_rfl) (fun _ _ _ h => h) (Or.inl ⟨by rfl, fun w9 hSw => ?_⟩) hHeld ?_
  · go_simp
  simp only [List.getElem_toArray, List.getElem_cons_succ, List.getElem_cons_zero, Act.put, List.setIfInBounds_toArray, List.set_cons_zero, List.set_cons_succ]
  refine wpAnyX_take (i := 8) (v := .pointer (some ⟨b, 0, none⟩)) rfl (by kernel_rfl) (by kernel_rfl) (by kernel_rfl) (by kernel_rfl) (fun _ _ _ h => h) (Or.inl ⟨by rfl, fun w9 hSw => ?_⟩) hHeld ?_
  · go_simp
  simp only [List.getElem_toArray, List.getElem_cons_succ, List.getElem_cons_zero, Act.put, List.setIfInBounds_toArray, List.set_cons_zero, List.set_cons_succ]
  refine wpAnyX_take (i := 9) (v := .pointer (some ⟨b, 4, none⟩)) rfl (by kernel_rfl) (by kernel_rfl) (by kernel_rfl) (by kernel_rfl) (fun _ _ _ h => h) (Or.inl ⟨by rfl, fun w9 hSw => ?_⟩) hHeld ?_
  · go_simp
  simp only [List.getElem_toArray, List.getElem_cons_succ, List.getElem_cons_zero, Act.put, List.setIfInBounds_toArray, List.set_cons_zero, List.set_cons_succ]
  refine wpAnyX_take (i := 10) (v := .slice (some ⟨g, 0, none⟩) n tc) rfl (by kernel_rfl) (by kernel_rfl) (by kernel_rfl) (by kernel_rfl) (fun _ _ _ h => h) (Or.inl ⟨by rfl, fun w9 hSw => ?_⟩) hHeld ?_
  · obtain ⟨q4, q2, q5⟩ := hSw
    go_simp
  simp only [List.getElem_toArray, List.getElem_cons_succ, List.getElem_cons_zero, Act.put, List.setIfInBounds_toArray, List.set_cons_zero, List.set_cons_succ]
  refine wpAnyX_take (i := 11) (v := .pointer (some ⟨g, 0, none⟩)) rfl (by kernel_rfl) (by kernel_rfl) (by kernel_rfl) (by kernel_rfl) (fun _ _ _ h => h) (Or.inl ⟨by rfl, fun w9 hSw => ?_⟩) hHeld ?_
  · go_simp
    try omega
  simp only [List.getElem_toArray, List.getElem_cons_succ, List.getElem_cons_zero, Act.put, List.setIfInBounds_toArray, List.set_cons_zero, List.set_cons_succ]
  refine wpAnyX_take (i := 12) (v := .pointer (some ⟨g, 2, none⟩)) rfl (by kernel_rfl) (by kernel_rfl) (by kernel_rfl) (by kernel_rfl) (fun _ _ _ h => h) (Or.inl ⟨by rfl, fun w9 hSw => ?_⟩) hHeld ?_
  · go_simp
  simp only [List.getElem_toArray, List.getElem_cons_succ, List.getElem_cons_zero, Act.put, List.setIfInBounds_toArray, List.set_cons_zero, List.set_cons_succ]
  refine wpAnyX_take (i := 13) (v := .int .i64 A0) rfl (by kernel_rfl) (by kernel_rfl) (by kernel_rfl) (by kernel_rfl) (fun _ _ _ h => h) (Or.inl ⟨by rfl, fun w9 hSw => ?_⟩) hHeld ?_
  · obtain ⟨q4, q2, q5⟩ := hSw
    go_simp
  simp only [List.getElem_toArray, List.getElem_cons_succ, List.getElem_cons_zero, Act.put, List.setIfInBounds_toArray, List.set_cons_zero, List.set_cons_succ]
  refine wpAnyX_take (i := 14) (v := .pointer (some ⟨b, 0, none⟩)) rfl (by kernel_rfl) (by kernel_rfl) (by kernel_rfl) (by kernel_rfl) (fun _ _ _ h => h) (Or.inl ⟨by rfl, fun w9 hSw => ?_⟩) hHeld ?_
  · go_simp
  simp only [List.getElem_toArray, List.getElem_cons_succ, List.getElem_cons_zero, Act.put, List.setIfInBounds_toArray, List.set_cons_zero, List.set_cons_succ]
  refine wpAnyX_take (i := 15) (v := .pointer (some ⟨b, 0, none⟩)) rfl (by kernel_rfl) (by kernel_rfl) (by kernel_rfl) (by kernel_rfl) (fun _ _ _ h => h) (Or.inl ⟨by rfl, fun w9 hSw => ?_⟩) hHeld ?_
  · go_simp
  simp only [List.getElem_toArray, List.getElem_cons_succ, List.getElem_cons_zero, Act.put, List.setIfInBounds_toArray, List.set_cons_zero, List.set_cons_succ]
  refine wpAnyX_take (i := 16) (v := .pointer (some ⟨b, 2, none⟩)) rfl (by kernel_rfl) (by kernel_rfl) (by kernel_rfl) (by kernel_rfl) (fun _ _ _ h => h) (Or.inl ⟨by rfl, fun w9 hSw => ?_⟩) hHeld ?_
  · go_simp
  simp only [List.getElem_toArray, List.getElem_cons_succ, List.getElem_cons_zero, Act.put, List.setIfInBounds_toArray, List.set_cons_zero, List.set_cons_succ]
  refine wpAnyX_take (i := 17) (v := .int .i64 C) rfl (by kernel_rfl) (by kernel_rfl) (by kernel_rfl) (by kernel_rfl) (fun _ _ _ h => h) (Or.inl ⟨by rfl, fun w9 hSw => ?_⟩) hHeld ?_
  · obtain ⟨q4, q2, q5⟩ := hSw
    go_simp
  simp only [List.getElem_toArray, List.getElem_cons_succ, List.getElem_cons_zero, Act.put, List.setIfInBounds_toArray, List.set_cons_zero, List.set_cons_succ]
  refine wpAnyX_take (i := 18) (v := .int .i64 most) rfl (by kernel_rfl) (by kernel_rfl) (by kernel_rfl) (by kernel_rfl) (fun _ _ _ h => h) (Or.inl ⟨by rfl, fun w9 hSw => ?_⟩) hHeld ?_
  · go_simp
  simp only [List.getElem_toArray, List.getElem_cons_succ, List.getElem_cons_zero, Act.put, List.setIfInBounds_toArray, List.set_cons_zero, List.set_cons_succ]
  refine wpAnyX_take (i := 19) (v := .int .i64 (C + most)) rfl (by kernel_rfl) (by kernel_rfl) (by kernel_rfl) (by kernel_rfl) (fun _ _ _ h => h) (Or.inl ⟨by rfl, fun w9 hSw => ?_⟩) hHeld ?_
  · go_simp
    try (rw [IntKind.wrap_i64]; omega)
  simp only [List.getElem_toArray, List.getElem_cons_succ, List.getElem_cons_zero, Act.put, List.setIfInBounds_toArray, List.set_cons_zero, List.set_cons_succ]
  refine wpAnyX_take (i := 20) (v := .bool false) rfl (by kernel_rfl) (by kernel_rfl) (by kernel_rfl) (by kernel_rfl) (fun _ _ _ h => h) (Or.inl ⟨by rfl, fun w9 hSw => ?_⟩) hHeld ?_
  · go_simp
    try omega
  simp only [List.getElem_toArray, List.getElem_cons_succ, List.getElem_cons_zero, Act.put, List.setIfInBounds_toArray, List.set_cons_zero, List.set_cons_succ]
  refine wpAnyX_take (i := 21) (v := .bool false) rfl (by kernel_rfl) (by kernel_rfl) (by kernel_rfl) (by kernel_rfl) (fun _ _ _ h => h) (Or.inl ⟨by rfl, fun w9 hSw => ?_⟩) hHeld ?_
  · go_simp
  simp only [List.getElem_toArray, List.getElem_cons_succ, List.getElem_cons_zero, Act.put, List.setIfInBounds_toArray, List.set_cons_zero, List.set_cons_succ]
  refine wpAnyX_done (by kernel_rfl) ?_ _
  have HB0 : Hid (Below w.heap.size w w.drew) := (Below.refl _ w).drew
  have hc4 : w.drew.cell? ⟨b, 4, none⟩ = some (.slice (some ⟨g, 0, none⟩) n tc) := hS0.1
  have hct : w.drew.cell? ⟨g, 2, none⟩ = some (.int .i64 A0) := hS0.2.2
  have hc2 : w.drew.cell? ⟨b, 2, none⟩ = some (.int .i64 C) := hS0.2.1
  clear hHeld hS0
  generalize w.drew = wz at HB0 hc4 hct hc2 ⊢
  have z2 : wz.frozen? ⟨b, 2, none⟩ = false := (HS.out.1.below HB0.out).unfrozen 2
  have hend := rsetCk_end (HS.out.1.below HB0.out) A0
  go_wp2_with fail
  obtain ⟨w2, hw2⟩ : ∃ w2, w2 = wz.setCell ⟨b, 2, none⟩ (.int .i64 A0) := ⟨_, rfl⟩
  rw [← hw2] at hend ⊢
  have HS2 : Hid (RIs w2 b (rsetCk N A0) ∧ RFr w w2 N (rsetCk N A0)) := ⟨hend.1, (RFr.below HB0.out).trans hend.2⟩
  clear hend hw2 z2 hc4 hct hc2 HB0
  go_loopw [5] (fun i wr => ∃ k : Nat, k ≤ n ∧ i = .int .i64 k ∧ Hid (Below w2.heap.size w2 wr ∧ ∀ (j : Nat) (t9 : TM), N.tm[j]? = some t9 → j < k → t9.at_ = A0)) (fun i _ => n - (intOf i).toNat)
  case atStart => exact ⟨0, Nat.zero_le _, rfl, Below.refl _ _, fun j t9 _ hj => absurd hj (Nat.not_lt_zero _)⟩
  case round =>
    obtain ⟨k, hk, rfl, HJ⟩ := hrel
    have hR := HS2.out.1.below HJ.out.1
    have d4 : wr.cell? ⟨b, 4, none⟩ = some (.slice (some ⟨g, 0, none⟩) n tc) := hR.cells.2.2.2.2.trans (by show some N.tv = _; rw [HS.out.2.1])
    have d2 : wr.cell? ⟨b, 2, none⟩ = some (.int .i64 A0) := hR.cells.2.2.1
    by_cases hlt : k < n
    · obtain ⟨t9, ht9⟩ : ∃ t9, N.tm[k]? = some t9 := ⟨_, List.getElem?_eq_getElem (by have := HS.out.2.2; omega)⟩
      have hrow := hR.tm
      rw [show (rsetCk N A0).tv = .slice (some ⟨g, 0, none⟩) n tc from HS.out.2.1] at hrow
      have dk : wr.cell? ⟨g, k * 3 + 2, none⟩ = some (.int .i64 t9.at_) := by
        have h8 := hrow.cells (g := g) rfl (k * 3 + 2) (.int .i64 t9.at_) (by show (tmL N.tm)[k * 3 + 2]? = _; rw [tmL_at N.tm k t9 ht9 2 (by decide)]; rfl)
        rwa [Addr.add_lit, Nat.zero_add] at h8
      obtain ⟨AK, hAK⟩ : ∃ AK, AK = t9.at_ := ⟨_, rfl⟩
      rw [← hAK] at dk
      have HAK : Hid (N.tm[k]? = some t9 ∧ AK = t9.at_) := ⟨ht9, hAK⟩
      have hkn : (k : Int) < n := by omega
      have hS0 : wr.cell? ⟨b, 4, none⟩ = some (.slice (some ⟨g, 0, none⟩) n tc) ∧ wr.cell? ⟨b, 2, none⟩ = some (.int .i64 A0) ∧ wr.cell? ⟨g, k * 3 + 2, none⟩ = some (.int .i64 AK) := ⟨d4, d2, dk⟩
      clear hR d4 d2 hrow dk hAK ht9
      by_cases hAA : AK = A0
      · have hb9 : (AK == A0) = true := by simpa using hAA
        have HAA : Hid (AK = A0) := hAA
        clear hAA
        go_wp2_with fail
        refine wp_region_X (fun _ => false) (S := fun w' => w'.cell? ⟨b, 4, none⟩ = some (.slice (some ⟨g, 0, none⟩) n tc) ∧ w'.cell? ⟨b, 2, none⟩ = some (.int .i64 A0) ∧ w'.cell? ⟨g, k * 3 + 2, none⟩ = some (.int .i64 AK)) (by kernel_rfl) hS0 (fun hHeld => ?_)
        refine wpAnyX_take (i := 0) (v := .int .i64 k) rfl (by kernel_rfl) (by kernel_rfl) (by kernel_rfl) (by kernel_rfl) (fun _ _ _ h => h) (Or.inl ⟨by rfl, fun w9 hSw => ?_⟩) hHeld ?_
        · go_simp
        simp only [List.getElem_toArray, List.getElem_cons_succ, List.getElem_cons_zero, Act.put, List.setIfInBounds_toArray, List.set_cons_zero, List.set_cons_succ]
        refine wpAnyX_take (i := 1) (v := .pointer (some ⟨b, 0, none⟩)) rfl (by kernel_rfl) (by kernel_rfl) (by kernel_rfl) (by kernel_rfl) (fun _ _ _ h => h) (Or.inl ⟨by rfl, fun w9 hSw => ?_⟩) hHeld ?_
        · go_simp
        simp only [List.getElem_toArray, List.getElem_cons_succ, List.getElem_cons_zero, Act.put, List.setIfInBounds_toArray, List.set_cons_zero, List.set_cons_succ]
        refine wpAnyX_take (i := 2) (v := .pointer (some ⟨b, 0, none⟩)) rfl (by kernel_rfl) (by kernel_rfl) (by kernel_rfl) (by kernel_rfl) (fun _ _ _ h => h) (Or.inl ⟨by rfl, fun w9 hSw => ?_⟩) hHeld ?_
        · go_simp
        simp only [List.getElem_toArray, List.getElem_cons_succ, List.getElem_cons_zero, Act.put, List.setIfInBounds_toArray, List.set_cons_zero, List.set_cons_succ]
        refine wpAnyX_take (i := 3) (v := .pointer (some ⟨b, 4, none⟩)) rfl (by kernel_rfl) (by kernel_rfl) (by kernel_rfl) (by kernel_rfl) (fun _ _ _ h => h) (Or.inl ⟨by rfl, fun w9 hSw => ?_⟩) hHeld ?_
        · go_simp
        simp only [List.getElem_toArray, List.getElem_cons_succ, List.getElem_cons_zero, Act.put, List.setIfInBounds_toArray, List.set_cons_zero, List.set_cons_succ]
        refine wpAnyX_take (i := 4) (v := .slice (some ⟨g, 0, none⟩) n tc) rfl (by kernel_rfl) (by kernel_rfl) (by kernel_rfl) (by kernel_rfl) (fun _ _ _ h => h) (Or.inl ⟨by rfl, fun w9 hSw => ?_⟩) hHeld ?_
        · obtain ⟨q4, q2, q5⟩ := hSw
          go_simp
        simp only [List.getElem_toArray, List.getElem_cons_succ, List.getElem_cons_zero, Act.put, List.setIfInBounds_toArray, List.set_cons_zero, List.set_cons_succ]
        refine wpAnyX_take (i := 5) (v := .int .i64 n) rfl (by kernel_rfl) (by kernel_rfl) (by kernel_rfl) (by kernel_rfl) (fun _ _ _ h => h) (Or.inl ⟨by rfl, fun w9 hSw => ?_⟩) hHeld ?_
        · go_simp
        simp only [List.getElem_toArray, List.getElem_cons_succ, List.getElem_cons_zero, Act.put, List.setIfInBounds_toArray, List.set_cons_zero, List.set_cons_succ]
        refine wpAnyX_take (i := 6) (v := .bool true) rfl (by kernel_rfl) (by kernel_rfl) (by kernel_rfl) (by kernel_rfl) (fun _ _ _ h => h) (Or.inl ⟨by rfl, fun w9 hSw => ?_⟩) hHeld ?_
        · go_simp
          try omega
        simp only [List.getElem_toArray, List.getElem_cons_succ, List.getElem_cons_zero, Act.put, List.setIfInBounds_toArray, List.set_cons_zero, List.set_cons_succ]
        refine wpAnyX_take (i := 7) (v := .bool true) rfl (by kernel_rfl) (by kernel_rfl) (by kernel_rfl) (by kernel_rfl) (fun _ _ _ h => h) (Or.inl ⟨by rfl, fun w9 hSw => ?_⟩) hHeld ?_
        · go_simp
        simp only [List.getElem_toArray, List.getElem_cons_succ, List.getElem_cons_zero, Act.put, List.setIfInBounds_toArray, List.set_cons_zero, List.set_cons_succ]
        refine wpAnyX_take (i := 8) (v := .pointer (some ⟨b, 0, none⟩)) rfl (by kernel_rfl) (by kernel_rfl) (by kernel_rfl) (by kernel_rfl) (fun _ _ _ h => h) (Or.inl ⟨by rfl, fun w9 hSw => ?_⟩) hHeld ?_
        · go_simp
        simp only [List.getElem_toArray, List.getElem_cons_succ, List.getElem_cons_zero, Act.put, List.setIfInBounds_toArray, List.set_cons_zero, List.set_cons_succ]
        refine wpAnyX_take (i := 9) (v := .pointer (some ⟨b, 0, none⟩)) rfl (by kernel_rfl) (by kernel_rfl) (by kernel_rfl) (by kernel_rfl) (fun _ _ _ h => h) (Or.inl ⟨by rfl, fun w9 hSw => ?_⟩) hHeld ?_
        · go_simp
        simp only [List.getElem_toArray, List.getElem_cons_succ, List.getElem_cons_zero, Act.put, List.setIfInBounds_toArray, List.set_cons_zero, List.set_cons_succ]
        refine wpAnyX_take (i := 10) (v := .pointer (some ⟨b, 4, none⟩)) rfl (by kernel_rfl) (by kernel_rfl) (by kernel_rfl) (by kernel_rfl) (fun _ _ _ h => h) (Or.inl ⟨by rfl, fun w9 hSw => ?_⟩) hHeld ?_
        · go_simp
        simp only [List.getElem_toArray, List.getElem_cons_succ, List.getElem_cons_zero, Act.put, List.setIfInBounds_toArray, List.set_cons_zero, List.set_cons_succ]
        refine wpAnyX_take (i := 11) (v := .slice (some ⟨g, 0, none⟩) n tc) rfl (by kernel_rfl) (by kernel_rfl) (by kernel_rfl) (by kernel_rfl) (fun _ _ _ h => h) (Or.inl ⟨by rfl, fun w9 hSw => ?_⟩) hHeld ?_
        · obtain ⟨q4, q2, q5⟩ := hSw
          go_simp
        simp only [List.getElem_toArray, List.getElem_cons_succ, List.getElem_cons_zero, Act.put, List.setIfInBounds_toArray, List.set_cons_zero, List.set_cons_succ]
        refine wpAnyX_take (i := 12) (v := .int .i64 k) rfl (by kernel_rfl) (by kernel_rfl) (by kernel_rfl) (by kernel_rfl) (fun _ _ _ h => h) (Or.inl ⟨by rfl, fun w9 hSw => ?_⟩) hHeld ?_
        · go_simp
        simp only [List.getElem_toArray, List.getElem_cons_succ, List.getElem_cons_zero, Act.put, List.setIfInBounds_toArray, List.set_cons_zero, List.set_cons_succ]
        refine wpAnyX_take (i := 13) (v := .pointer (some ⟨g, k * 3, none⟩)) rfl (by kernel_rfl) (by kernel_rfl) (by kernel_rfl) (by kernel_rfl) (fun _ _ _ h => h) (Or.inl ⟨by rfl, fun w9 hSw => ?_⟩) hHeld ?_
        · go_simp
        simp only [List.getElem_toArray, List.getElem_cons_succ, List.getElem_cons_zero, Act.put, List.setIfInBounds_toArray, List.set_cons_zero, List.set_cons_succ]
        refine wpAnyX_take (i := 14) (v := .pointer (some ⟨g, k * 3 + 2, none⟩)) rfl (by kernel_rfl) (by kernel_rfl) (by kernel_rfl) (by kernel_rfl) (fun _ _ _ h => h) (Or.inl ⟨by rfl, fun w9 hSw => ?_⟩) hHeld ?_
        · go_simp
        simp only [List.getElem_toArray, List.getElem_cons_succ, List.getElem_cons_zero, Act.put, List.setIfInBounds_toArray, List.set_cons_zero, List.set_cons_succ]
        refine wpAnyX_take (i := 15) (v := .int .i64 AK) rfl (by kernel_rfl) (by kernel_rfl) (by kernel_rfl) (by kernel_rfl) (fun _ _ _ h => h) (Or.inl ⟨by rfl, fun w9 hSw => ?_⟩) hHeld ?_
        · obtain ⟨q4, q2, q5⟩ := hSw
          go_simp
        simp only [List.getElem_toArray, List.getElem_cons_succ, List.getElem_cons_zero, Act.put, List.setIfInBounds_toArray, List.set_cons_zero, List.set_cons_succ]
        refine wpAnyX_take (i := 16) (v := .pointer (some ⟨b, 0, none⟩)) rfl (by kernel_rfl) (by kernel_rfl) (by kernel_rfl) (by kernel_rfl) (fun _ _ _ h => h) (Or.inl ⟨by rfl, fun w9 hSw => ?_⟩) hHeld ?_
        · go_simp
        simp only [List.getElem_toArray, List.getElem_cons_succ, List.getElem_cons_zero, Act.put, List.setIfInBounds_toArray, List.set_cons_zero, List.set_cons_succ]
        refine wpAnyX_take (i := 17) (v := .pointer (some ⟨b, 0, none⟩)) rfl (by kernel_rfl) (by kernel_rfl) (by kernel_rfl) (by kernel_rfl) (fun _ _ _ h => h) (Or.inl ⟨by rfl, fun w9 hSw => ?_⟩) hHeld ?_
        · go_simp
        simp only [List.getElem_toArray, List.getElem_cons_succ, List.getElem_cons_zero, Act.put, List.setIfInBounds_toArray, List.set_cons_zero, List.set_cons_succ]
        refine wpAnyX_take (i := 18) (v := .pointer (some ⟨b, 2, none⟩)) rfl (by kernel_rfl) (by kernel_rfl) (by kernel_rfl) (by kernel_rfl) (fun _ _ _ h => h) (Or.inl ⟨by rfl, fun w9 hSw => ?_⟩) hHeld ?_
        · go_simp
        simp only [List.getElem_toArray, List.getElem_cons_succ, List.getElem_cons_zero, Act.put, List.setIfInBounds_toArray, List.set_cons_zero, List.set_cons_succ]
        refine wpAnyX_take (i := 19) (v := .int .i64 A0) rfl (by kernel_rfl) (by kernel_rfl) (by kernel_rfl) (by kernel_rfl) (fun _ _ _ h => h) (Or.inl ⟨by rfl, fun w9 hSw => ?_⟩) hHeld ?_
        · obtain ⟨q4, q2, q5⟩ := hSw
          go_simp
        simp only [List.getElem_toArray, List.getElem_cons_succ, List.getElem_cons_zero, Act.put, List.setIfInBounds_toArray, List.set_cons_zero, List.set_cons_succ]
        refine wpAnyX_take (i := 20) (v := .bool true) rfl (by kernel_rfl) (by kernel_rfl) (by kernel_rfl) (by kernel_rfl) (fun _ _ _ h => h) (Or.inl ⟨by rfl, fun w9 hSw => ?_⟩) hHeld ?_
        · go_simp
        simp only [List.getElem_toArray, List.getElem_cons_succ, List.getElem_cons_zero, Act.put, List.setIfInBounds_toArray, List.set_cons_zero, List.set_cons_succ]
        refine wpAnyX_take (i := 21) (v := .bool true) rfl (by kernel_rfl) (by kernel_rfl) (by kernel_rfl) (by kernel_rfl) (fun _ _ _ h => h) (Or.inl ⟨by rfl, fun w9 hSw => ?_⟩) hHeld ?_
        · go_simp
        simp only [List.getElem_toArray, List.getElem_cons_succ, List.getElem_cons_zero, Act.put, List.setIfInBounds_toArray, List.set_cons_zero, List.set_cons_succ]
        refine wpAnyX_done (by kernel_rfl) ?_ _
        have HB2 : Hid (Below w2.heap.size w2 wr.drew ∧ ∀ (j : Nat) (t9 : TM), N.tm[j]? = some t9 → j < k + 1 → t9.at_ = A0) := ⟨HJ.out.1.drew, fun j t8 hj hjk => by
          rcases Nat.lt_or_ge j k with h | h
          · exact HJ.out.2 j t8 hj h
          · obtain rfl : j = k := by omega
            rw [HAK.out.1] at hj
            injection hj with hj
            rw [← hj, ← HAK.out.2]
            exact HAA.out⟩
        clear HJ hHeld hS0
        generalize wr.drew = wq at HB2 ⊢
        go_wp2_with fail
        go_roundw
        case rel => exact ⟨k + 1, by omega, by go_num, HB2.out⟩
        case measure => simp [intOf]; omega
      · have hb9 : (AK == A0) = false := by simpa using hAA
        have HAA : Hid (¬ AK = A0) := hAA
        clear hAA
        go_wp2_with fail
        refine wp_region_X (fun _ => false) (S := fun w' => w'.cell? ⟨b, 4, none⟩ = some (.slice (some ⟨g, 0, none⟩) n tc) ∧ w'.cell? ⟨b, 2, none⟩ = some (.int .i64 A0) ∧ w'.cell? ⟨g, k * 3 + 2, none⟩ = some (.int .i64 AK)) (by kernel_rfl) hS0 (fun hHeld => ?_)
        refine wpAnyX_take (i := 0) (v := .int .i64 k) rfl (by kernel_rfl) (by kernel_rfl) (by kernel_rfl) (by kernel_rfl) (fun _ _ _ h => h) (Or.inl ⟨by rfl, fun w9 hSw => ?_⟩) hHeld ?_
        · go_simp
        simp only [List.getElem_toArray, List.getElem_cons_succ, List.getElem_cons_zero, Act.put, List.setIfInBounds_toArray, List.set_cons_zero, List.set_cons_succ]
        refine wpAnyX_take (i := 1) (v := .pointer (some ⟨b, 0, none⟩)) rfl (by kernel_rfl) (by kernel_rfl) (by kernel_rfl) (by kernel_rfl) (fun _ _ _ h => h) (Or.inl ⟨by rfl, fun w9 hSw => ?_⟩) hHeld ?_
        · go_simp
        simp only [List.getElem_toArray, List.getElem_cons_succ, List.getElem_cons_zero, Act.put, List.setIfInBounds_toArray, List.set_cons_zero, List.set_cons_succ]
        refine wpAnyX_take (i := 2) (v := .pointer (some ⟨b, 0, none⟩)) rfl (by kernel_rfl) (by kernel_rfl) (by kernel_rfl) (by kernel_rfl) (fun _ _ _ h => h) (Or.inl ⟨by rfl, fun w9 hSw => ?_⟩) hHeld ?_
        · go_simp
        simp only [List.getElem_toArray, List.getElem_cons_succ, List.getElem_cons_zero, Act.put, List.setIfInBounds_toArray, List.set_cons_zero, List.set_cons_succ]
        refine wpAnyX_take (i := 3) (v := .pointer (some ⟨b, 4, none⟩)) rfl (by kernel_rfl) (by kernel_rfl) (by kernel_rfl) (by kernel_rfl) (fun _ _ _ h => h) (Or.inl ⟨by rfl, fun w9 hSw => ?_⟩) hHeld ?_
        · go_simp
        simp only [List.getElem_toArray, List.getElem_cons_succ, List.getElem_cons_zero, Act.put, List.setIfInBounds_toArray, List.set_cons_zero, List.set_cons_succ]
        refine wpAnyX_take (i := 4) (v := .slice (some ⟨g, 0, none⟩) n tc) rfl (by kernel_rfl) (by kernel_rfl) (by kernel_rfl) (by kernel_rfl) (fun _ _ _ h => h) (Or.inl ⟨by rfl, fun w9 hSw => ?_⟩) hHeld ?_
        · obtain ⟨q4, q2, q5⟩ := hSw
          go_simp
        simp only [List.getElem_toArray, List.getElem_cons_succ, List.getElem_cons_zero, Act.put, List.setIfInBounds_toArray, List.set_cons_zero, List.set_cons_succ]
        refine wpAnyX_take (i := 5) (v := .int .i64 n) rfl (by kernel_rfl) (by kernel_rfl) (by kernel_rfl) (by kernel_rfl) (fun _ _ _ h => h) (Or.inl ⟨by rfl, fun w9 hSw => ?_⟩) hHeld ?_
        · go_simp
        simp only [List.getElem_toArray, List.getElem_cons_succ, List.getElem_cons_zero, Act.put, List.setIfInBounds_toArray, List.set_cons_zero, List.set_cons_succ]
        refine wpAnyX_take (i := 6) (v := .bool true) rfl (by kernel_rfl) (by kernel_rfl) (by kernel_rfl) (by kernel_rfl) (fun _ _ _ h => h) (Or.inl ⟨by rfl, fun w9 hSw => ?_⟩) hHeld ?_
        · go_simp
          try omega
        simp only [List.getElem_toArray, List.getElem_cons_succ, List.getElem_cons_zero, Act.put, List.setIfInBounds_toArray, List.set_cons_zero, List.set_cons_succ]
        refine wpAnyX_take (i := 7) (v := .bool true) rfl (by kernel_rfl) (by kernel_rfl) (by kernel_rfl) (by kernel_rfl) (fun _ _ _ h => h) (Or.inl ⟨by rfl, fun w9 hSw => ?_⟩) hHeld ?_
        · go_simp
        simp only [List.getElem_toArray, List.getElem_cons_succ, List.getElem_cons_zero, Act.put, List.setIfInBounds_toArray, List.set_cons_zero, List.set_cons_succ]
        refine wpAnyX_take (i := 8) (v := .pointer (some ⟨b, 0, none⟩)) rfl (by kernel_rfl) (by kernel_rfl) (by kernel_rfl) (by kernel_rfl) (fun _ _ _ h => h) (Or.inl ⟨by rfl, fun w9 hSw => ?_⟩) hHeld ?_
        · go_simp
        simp only [List.getElem_toArray, List.getElem_cons_succ, List.getElem_cons_zero, Act.put, List.setIfInBounds_toArray, List.set_cons_zero, List.set_cons_succ]
        refine wpAnyX_take (i := 9) (v := .pointer (some ⟨b, 0, none⟩)) rfl (by kernel_rfl) (by kernel_rfl) (by kernel_rfl) (by kernel_rfl) (fun _ _ _ h => h) (Or.inl ⟨by rfl, fun w9 hSw => ?_⟩) hHeld ?_
        · go_simp
        simp only [List.getElem_toArray, List.getElem_cons_succ, List.getElem_cons_zero, Act.put, List.setIfInBounds_toArray, List.set_cons_zero, List.set_cons_succ]
        refine wpAnyX_take (i := 10) (v := .pointer (some ⟨b, 4, none⟩)) rfl (by kernel_rfl) (by kernel_rfl) (by kernel_rfl) (by kernel_rfl) (fun _ _ _ h => h) (Or.inl ⟨by rfl, fun w9 hSw => ?_⟩) hHeld ?_
        · go_simp
        simp only [List.getElem_toArray, List.getElem_cons_succ, List.getElem_cons_zero, Act.put, List.setIfInBounds_toArray, List.set_cons_zero, List.set_cons_succ]
        refine wpAnyX_take (i := 11) (v := .slice (some ⟨g, 0, none⟩) n tc) rfl (by kernel_rfl) (by kernel_rfl) (by kernel_rfl) (by kernel_rfl) (fun _ _ _ h => h) (Or.inl ⟨by rfl, fun w9 hSw => ?_⟩) hHeld ?_
        · obtain ⟨q4, q2, q5⟩ := hSw
          go_simp
        simp only [List.getElem_toArray, List.getElem_cons_succ, List.getElem_cons_zero, Act.put, List.setIfInBounds_toArray, List.set_cons_zero, List.set_cons_succ]
        refine wpAnyX_take (i := 12) (v := .int .i64 k) rfl (by kernel_rfl) (by kernel_rfl) (by kernel_rfl) (by kernel_rfl) (fun _ _ _ h => h) (Or.inl ⟨by rfl, fun w9 hSw => ?_⟩) hHeld ?_
        · go_simp
        simp only [List.getElem_toArray, List.getElem_cons_succ, List.getElem_cons_zero, Act.put, List.setIfInBounds_toArray, List.set_cons_zero, List.set_cons_succ]
        refine wpAnyX_take (i := 13) (v := .pointer (some ⟨g, k * 3, none⟩)) rfl (by kernel_rfl) (by kernel_rfl) (by kernel_rfl) (by kernel_rfl) (fun _ _ _ h => h) (Or.inl ⟨by rfl, fun w9 hSw => ?_⟩) hHeld ?_
        · go_simp
        simp only [List.getElem_toArray, List.getElem_cons_succ, List.getElem_cons_zero, Act.put, List.setIfInBounds_toArray, List.set_cons_zero, List.set_cons_succ]
        refine wpAnyX_take (i := 14) (v := .pointer (some ⟨g, k * 3 + 2, none⟩)) rfl (by kernel_rfl) (by kernel_rfl) (by kernel_rfl) (by kernel_rfl) (fun _ _ _ h => h) (Or.inl ⟨by rfl, fun w9 hSw => ?_⟩) hHeld ?_
        · go_simp
        simp only [List.getElem_toArray, List.getElem_cons_succ, List.getElem_cons_zero, Act.put, List.setIfInBounds_toArray, List.set_cons_zero, List.set_cons_succ]
        refine wpAnyX_take (i := 15) (v := .int .i64 AK) rfl (by kernel_rfl) (by kernel_rfl) (by kernel_rfl) (by kernel_rfl) (fun _ _ _ h => h) (Or.inl ⟨by rfl, fun w9 hSw => ?_⟩) hHeld ?_
        · obtain ⟨q4, q2, q5⟩ := hSw
          go_simp
        simp only [List.getElem_toArray, List.getElem_cons_succ, List.getElem_cons_zero, Act.put, List.setIfInBounds_toArray, List.set_cons_zero, List.set_cons_succ]
        refine wpAnyX_take (i := 16) (v := .pointer (some ⟨b, 0, none⟩)) rfl (by kernel_rfl) (by kernel_rfl) (by kernel_rfl) (by kernel_rfl) (fun _ _ _ h => h) (Or.inl ⟨by rfl, fun w9 hSw => ?_⟩) hHeld ?_
        · go_simp
        simp only [List.getElem_toArray, List.getElem_cons_succ, List.getElem_cons_zero, Act.put, List.setIfInBounds_toArray, List.set_cons_zero, List.set_cons_succ]
        refine wpAnyX_take (i := 17) (v := .pointer (some ⟨b, 0, none⟩)) rfl (by kernel_rfl) (by kernel_rfl) (by kernel_rfl) (by kernel_rfl) (fun _ _ _ h => h) (Or.inl ⟨by rfl, fun w9 hSw => ?_⟩) hHeld ?_
        · go_simp
        simp only [List.getElem_toArray, List.getElem_cons_succ, List.getElem_cons_zero, Act.put, List.setIfInBounds_toArray, List.set_cons_zero, List.set_cons_succ]
        refine wpAnyX_take (i := 18) (v := .pointer (some ⟨b, 2, none⟩)) rfl (by kernel_rfl) (by kernel_rfl) (by kernel_rfl) (by kernel_rfl) (fun _ _ _ h => h) (Or.inl ⟨by rfl, fun w9 hSw => ?_⟩) hHeld ?_
        · go_simp
        simp only [List.getElem_toArray, List.getElem_cons_succ, List.getElem_cons_zero, Act.put, List.setIfInBounds_toArray, List.set_cons_zero, List.set_cons_succ]
        refine wpAnyX_take (i := 19) (v := .int .i64 A0) rfl (by kernel_rfl) (by kernel_rfl) (by kernel_rfl) (by kernel_rfl) (fun _ _ _ h => h) (Or.inl ⟨by rfl, fun w9 hSw => ?_⟩) hHeld ?_
        · obtain ⟨q4, q2, q5⟩ := hSw
          go_simp
        simp only [List.getElem_toArray, List.getElem_cons_succ, List.getElem_cons_zero, Act.put, List.setIfInBounds_toArray, List.set_cons_zero, List.set_cons_succ]
        refine wpAnyX_take (i := 20) (v := .bool false) rfl (by kernel_rfl) (by kernel_rfl) (by kernel_rfl) (by kernel_rfl) (fun _ _ _ h => h) (Or.inl ⟨by rfl, fun w9 hSw => ?_⟩) hHeld ?_
        · go_simp
        simp only [List.getElem_toArray, List.getElem_cons_succ, List.getElem_cons_zero, Act.put, List.setIfInBounds_toArray, List.set_cons_zero, List.set_cons_succ]
        refine wpAnyX_take (i := 21) (v := .bool false) rfl (by kernel_rfl) (by kernel_rfl) (by kernel_rfl) (by kernel_rfl) (fun _ _ _ h => h) (Or.inl ⟨by rfl, fun w9 hSw => ?_⟩) hHeld ?_
        · go_simp
        simp only [List.getElem_toArray, List.getElem_cons_succ, List.getElem_cons_zero, Act.put, List.setIfInBounds_toArray, List.set_cons_zero, List.set_cons_succ]
        refine wpAnyX_done (by kernel_rfl) ?_ _
        have HK : Hid (many N.tm = k) := many_eq HT.out.1 (by have := HS.out.2.2; omega) (fun j t8 hj hjk => by rw [← HT.out.2]; exact HJ.out.2 j t8 hj hjk) (fun t8 h8 => by
          rw [HAK.out.1] at h8
          injection h8 with h8
          rw [← h8, ← HAK.out.2, ← HT.out.2]
          exact HAA.out)
        have HB : Hid (Below w2.heap.size w2 wr.drew) := HJ.out.1.drew
        clear hHeld hS0 HJ HAK HAA hb9
        generalize wr.drew = wq at HB ⊢
        have c4 : wq.cell? ⟨b, 4, none⟩ = some (.slice (some ⟨g, 0, none⟩) n tc) := ((HS2.out.1.below HB.out).cells.2.2.2.2).trans (by show some N.tv = _; rw [HS.out.2.1])
        have z4 : wq.frozen? ⟨b, 4, none⟩ = false := (HS2.out.1.below HB.out).unfrozen 4
        have hbq : b < wq.heap.size := (HS2.out.1.below HB.out).lt
        have hcel : ∀ (w' : World), Below w2.heap.size w2 w' → ∀ j u, (tmL N.tm)[j]? = some u → w'.cell? ⟨g, j, none⟩ = some u := fun w' hb' j u hu => by
          have h9 := HS2.out.1.tm
          rw [show (rsetCk N A0).tv = .slice (some ⟨g, 0, none⟩) n tc from HS.out.2.1] at h9
          have h8 := h9.cells (g := g) rfl j u hu
          rw [Addr.add_lit, Nat.zero_add] at h8
          exact (hb'.cell (p := ⟨g, j, none⟩) (cell_lt h8)).trans h8
        have HC : Hid (∀ (w' : World), Below w2.heap.size w2 w' → ∀ j u, (tmL N.tm)[j]? = some u → w'.cell? ⟨g, j, none⟩ = some u) := hcel
        have hlk : (tmL N.tm).length = n * 3 := by rw [tmL_length, HS.out.2.2]
        have htk : n ≤ tc := htc
        clear hcel
        go_wp2_with (first
          | (at_builtin
             have hE := empty92 wq
             have hEb : Below wq.heap.size wq (wq.alloc (.cells #[] 92)) := (Below.refl _ wq).alloc (Nat.le_refl _) _
             have hB1 : Below w2.heap.size w2 (wq.alloc (.cells #[] 92)) := HB.out.trans (hEb.mono HB.out.size)
             have hs1 := HB.out.size
             refine elU.wpList_append rfl _ _ rfl 0 (.slice (some ⟨wq.heap.size, 0, none⟩) 0 0) 0 [] rfl hE (some ⟨g, 0, none⟩) k tc rfl ((tmL N.tm).take (k * 3)) (by rw [List.length_take, hlk]; omega) (fun _ => ⟨_, rfl, fun j u hu => by
               rw [Addr.add_lit, Nat.zero_add]
               rw [List.getElem?_take] at hu
               split at hu
               · exact HC.out _ hB1 j u hu
               · cases hu⟩) (fun e => by cases e) (fun u hu => tmL_one N.tm u (List.mem_of_mem_take hu)) (by omega) (Nat.zero_le _) ?_
             intro v6 w6 ho6 hg6 ha6
             rw [List.nil_append, Nat.zero_add] at ho6
             obtain ⟨v6a, v6c, rfl⟩ := row_form ho6
             have hB6 : Below w2.heap.size w2 w6 := hB1.grown hg6 hB1.size (fun jj hjj => by have h9 : wq.heap.size = jj := (by simpa [Value.ownBlock] using hjj); omega)
             have H6 : Hid (Below w2.heap.size w2 w6 ∧ w6.ownsRow 0 92 3 (.slice v6a k v6c) k ((tmL N.tm).take (k * 3)) ∧ (∀ x, (Value.slice v6a k v6c).ownBlock = some x → w2.heap.size ≤ x)) := ⟨hB6, ho6, fun x hx => by
               rcases ha6 with e | e
               · rw [e] at hx
                 have h9 : wq.heap.size = x := (by simpa [Value.ownBlock] using hx)
                 omega
               · rw [e] at hx
                 injection hx with hx
                 have := hB1.size
                 omega⟩
             have d4 : w6.cell? ⟨b, 4, none⟩ = some (.slice (some ⟨g, 0, none⟩) n tc) := ((HS2.out.1.below H6.out.1).cells.2.2.2.2).trans (by show some N.tv = _; rw [HS.out.2.1])
             have hb6 : b < w6.heap.size := (HS2.out.1.below H6.out.1).lt
             clear hE hEb hB1 hs1 ho6 hg6 ha6 hB6 HB c4 z4)
          | (at_builtin
             have hE := empty92 w6
             have hEb : Below w6.heap.size w6 (w6.alloc (.cells #[] 92)) := (Below.refl _ w6).alloc (Nat.le_refl _) _
             have hB1 : Below w2.heap.size w2 (w6.alloc (.cells #[] 92)) := H6.out.1.trans (hEb.mono H6.out.1.size)
             have hs1 := H6.out.1.size
             have hr1 := ownsRow_heap H6.out.2.1 (fun x hx => hEb.block x (H6.out.2.1.lt x hx).2)
             refine elU.wpList_append rfl _ _ rfl 0 (.slice (some ⟨w6.heap.size, 0, none⟩) 0 0) 0 [] rfl hE (some ⟨g, k * 3, none⟩) (n - k) (tc - k) rfl ((tmL N.tm).drop (k * 3)) (by rw [List.length_drop, hlk]; omega) (fun hpos => ⟨⟨g, k * 3, none⟩, rfl, fun j u hu => by
               rw [Addr.add_lit]
               rw [List.getElem?_drop] at hu
               exact HC.out _ hB1 _ u hu⟩) (fun e => by cases e) (fun u hu => tmL_one N.tm u (List.mem_of_mem_drop hu)) (by omega) (Nat.zero_le _) ?_
             intro v7 w7 ho7 hg7 ha7
             rw [List.nil_append, Nat.zero_add] at ho7
             obtain ⟨v7a, v7c, rfl⟩ := row_form ho7
             have hB7 : Below w2.heap.size w2 w7 := hB1.grown hg7 hB1.size (fun jj hjj => by have h9 : w6.heap.size = jj := (by simpa [Value.ownBlock] using hjj); omega)
             have hf7 : ∀ x, (Value.slice v7a (n - k) v7c).ownBlock = some x → w6.heap.size ≤ x := fun x hx => by
               rcases ha7 with e | e
               · rw [e] at hx
                 have h9 : w6.heap.size = x := (by simpa [Value.ownBlock] using hx)
                 omega
               · rw [e] at hx
                 injection hx with hx
                 have := hEb.size
                 omega
             have hk7 : ∀ x, x < w6.heap.size → w7.heap[x]? = w6.heap[x]? := fun x hx => (hg7.block x (by have := hEb.size; omega) (fun e => by have h9 : w6.heap.size = x := (by simpa [Value.ownBlock] using e.symm); omega)).trans (hEb.block x hx)
             have hld : (N.tm.drop k).length = n - k := by rw [List.length_drop]; have := HS.out.2.2; omega
             have hend := rsetT_end (v := .slice v7a (n - k) v7c) (l := N.tm.drop k) HS2.out.1 (gb_of_below hB7 _) (by rw [hld, tmL_drop]; exact ho7) (Or.inr (fun x hx => by have := hf7 x hx; omega))
             have hrow := ownsRow_heap H6.out.2.1 (fun x hx => hk7 x (H6.out.2.1.lt x hx).2)
             have hbz := HS2.out.1.lt
             have hrow2 : (w7.setCell ⟨b, 4, none⟩ (.slice v7a (n - k) v7c)).ownsRow 0 92 3 (.slice v6a k v6c) k ((tmL N.tm).take (k * 3)) := ownsRow_heap hrow (fun x hx => Below.heap_setCell _ _ _ _ (fun e => by have := H6.out.2.2 x hx; have e' : x = b := e; omega))
             have z7 : w7.frozen? ⟨b, 4, none⟩ = false := unfrozen_of_block ((hB7.block b hbz).trans HS2.out.1.net) 4
             have H7 : Hid (RIs (w7.setCell ⟨b, 4, none⟩ (.slice v7a (n - k) v7c)) b (rsetT (rsetCk N A0) (.slice v7a (n - k) v7c) (N.tm.drop k)) ∧ RFr w (w7.setCell ⟨b, 4, none⟩ (.slice v7a (n - k) v7c)) N (rsetT (rsetCk N A0) (.slice v7a (n - k) v7c) (N.tm.drop k)) ∧ (w7.setCell ⟨b, 4, none⟩ (.slice v7a (n - k) v7c)).ownsRow 0 92 3 (.slice v6a k v6c) k ((tmL N.tm).take (k * 3)) ∧ (∀ x, (Value.slice v6a k v6c).ownBlock = some x → w2.heap.size ≤ x ∧ (rsetT (rsetCk N A0) (.slice v7a (n - k) v7c) (N.tm.drop k)).own x = 0)) := ⟨hend.1, HS2.out.2.trans hend.2, hrow2, fun x hx => ⟨H6.out.2.2 x hx, by
               show (if (Value.slice v7a (n - k) v7c).ownBlock = some x then 4 else N.own x) = 0
               rw [if_neg (fun hc => by have h1 := hf7 x hc; have h2 := (H6.out.2.1.lt x hx).2; omega)]
               exact HS.out.1.fresh x (by have h1 := H6.out.2.2 x hx; have h2 := HS2.out.2.size; omega)⟩⟩
             have e4 : w7.cell? ⟨b, 4, none⟩ = some (.slice (some ⟨g, 0, none⟩) n tc) := ((HS2.out.1.below hB7).cells.2.2.2.2).trans (by show some N.tv = _; rw [HS.out.2.1])
             clear hE hEb hB1 hs1 hr1 ho7 hg7 ha7 hB7 hf7 hk7 hld hend hrow hrow2 hbz H6 d4))
        go_ret
        have hk9 := HK.out
        refine ⟨.slice v6a k v6c, _, rfl, ?_, H7.out.1, H7.out.2.1, ?_, fun x hx => (H7.out.2.2.2 x hx).2⟩
        · have hlt : (N.tm.take (many N.tm)).length = k := by rw [hk9, List.length_take]; have := HS.out.2.2; omega
          rw [hlt, hk9, tmL_take]
          have hsz := HS2.out.2.size
          have h1 := H7.out.2.2.1
          refine ⟨h1.1, ?_⟩
          rcases h1.2 with h | ⟨g8, cap, cur, e, _, r⟩
          · exact Or.inl h
          · exact Or.inr ⟨g8, cap, cur, e, Nat.le_trans hsz (H7.out.2.2.2 g8 (by rw [e]; rfl)).1, r⟩
        · rw [hk9]
          rfl
    · obtain rfl : n = k := by omega
      have HK : Hid (many N.tm = n) := many_eq HT.out.1 (by have := HS.out.2.2; omega) (fun j t8 hj hjk => by rw [← HT.out.2]; exact HJ.out.2 j t8 hj hjk) (fun t8 h8 => by have h7 := (List.getElem?_eq_some_iff.1 h8).1; have := HS.out.2.2; omega)
      clear hlt
      have hS0 : wr.cell? ⟨b, 4, none⟩ = some (.slice (some ⟨g, 0, none⟩) n tc) := d4
      clear d4 d2 hR
      go_wp2_with fail
      refine wp_region_X (fun _ => false) (S := fun w' => w'.cell? ⟨b, 4, none⟩ = some (.slice (some ⟨g, 0, none⟩) n tc)) (by kernel_rfl) hS0 (fun hHeld => ?_)
      refine wpAnyX_take (i := 0) (v := .int .i64 n) rfl (by kernel_rfl) (by kernel_rfl) (by kernel_rfl) (by kernel_rfl) (fun _ _ _ h => h) (Or.inl ⟨by rfl, fun w9 hSw => ?_⟩) hHeld ?_
      · go_simp
      simp only [List.getElem_toArray, List.getElem_cons_succ, List.getElem_cons_zero, Act.put, List.setIfInBounds_toArray, List.set_cons_zero, List.set_cons_succ]
      refine wpAnyX_take (i := 1) (v := .pointer (some ⟨b, 0, none⟩)) rfl (by kernel_rfl) (by kernel_rfl) (by kernel_rfl) (by kernel_rfl) (fun _ _ _ h => h) (Or.inl ⟨by rfl, fun w9 hSw => ?_⟩) hHeld ?_
      · go_simp
      simp only [List.getElem_toArray, List.getElem_cons_succ, List.getElem_cons_zero, Act.put, List.setIfInBounds_toArray, List.set_cons_zero, List.set_cons_succ]
      refine wpAnyX_take (i := 2) (v := .pointer (some ⟨b, 0, none⟩)) rfl (by kernel_rfl) (by kernel_rfl) (by kernel_rfl) (by kernel_rfl) (fun _ _ _ h => h) (Or.inl ⟨by rfl, fun w9 hSw => ?_⟩) hHeld ?_
      · go_simp
      simp only [List.getElem_toArray, List.getElem_cons_succ, List.getElem_cons_zero, Act.put, List.setIfInBounds_toArray, List.set_cons_zero, List.set_cons_succ]
      refine wpAnyX_take (i := 3) (v := .pointer (some ⟨b, 4, none⟩)) rfl (by kernel_rfl) (by kernel_rfl) (by kernel_rfl) (by kernel_rfl) (fun _ _ _ h => h) (Or.inl ⟨by rfl, fun w9 hSw => ?_⟩) hHeld ?_
      · go_simp
      simp only [List.getElem_toArray, List.getElem_cons_succ, List.getElem_cons_zero, Act.put, List.setIfInBounds_toArray, List.set_cons_zero, List.set_cons_succ]
      refine wpAnyX_take (i := 4) (v := .slice (some ⟨g, 0, none⟩) n tc) rfl (by kernel_rfl) (by kernel_rfl) (by kernel_rfl) (by kernel_rfl) (fun _ _ _ h => h) (Or.inl ⟨by rfl, fun w9 hSw => ?_⟩) hHeld ?_
      · have q4 : w9.cell? ⟨b, 4, none⟩ = some (.slice (some ⟨g, 0, none⟩) n tc) := hSw
        go_simp
      simp only [List.getElem_toArray, List.getElem_cons_succ, List.getElem_cons_zero, Act.put, List.setIfInBounds_toArray, List.set_cons_zero, List.set_cons_succ]
      refine wpAnyX_take (i := 5) (v := .int .i64 n) rfl (by kernel_rfl) (by kernel_rfl) (by kernel_rfl) (by kernel_rfl) (fun _ _ _ h => h) (Or.inl ⟨by rfl, fun w9 hSw => ?_⟩) hHeld ?_
      · go_simp
      simp only [List.getElem_toArray, List.getElem_cons_succ, List.getElem_cons_zero, Act.put, List.setIfInBounds_toArray, List.set_cons_zero, List.set_cons_succ]
      refine wpAnyX_take (i := 6) (v := .bool false) rfl (by kernel_rfl) (by kernel_rfl) (by kernel_rfl) (by kernel_rfl) (fun _ _ _ h => h) (Or.inl ⟨by rfl, fun w9 hSw => ?_⟩) hHeld ?_
      · go_simp
      simp only [List.getElem_toArray, List.getElem_cons_succ, List.getElem_cons_zero, Act.put, List.setIfInBounds_toArray, List.set_cons_zero, List.set_cons_succ]
      refine wpAnyX_take (i := 7) (v := .bool false) rfl (by kernel_rfl) (by kernel_rfl) (by kernel_rfl) (by kernel_rfl) (fun _ _ _ h => h) (Or.inl ⟨by rfl, fun w9 hSw => ?_⟩) hHeld ?_
      · go_simp
      simp only [List.getElem_toArray, List.getElem_cons_succ, List.getElem_cons_zero, Act.put, List.setIfInBounds_toArray, List.set_cons_zero, List.set_cons_succ]
      refine wpAnyX_take (i := 8) (v := undef) rfl (by kernel_rfl) (by kernel_rfl) (by kernel_rfl) (by kernel_rfl) (fun _ _ _ h => h) (Or.inr ⟨by rfl, rfl⟩) hHeld ?_
      simp only [List.getElem_toArray, List.getElem_cons_succ, List.getElem_cons_zero, Act.put, List.setIfInBounds_toArray, List.set_cons_zero, List.set_cons_succ]
      refine wpAnyX_take (i := 9) (v := undef) rfl (by kernel_rfl) (by kernel_rfl) (by kernel_rfl) (by kernel_rfl) (fun _ _ _ h => h) (Or.inr ⟨by rfl, rfl⟩) hHeld ?_
      simp only [List.getElem_toArray, List.getElem_cons_succ, List.getElem_cons_zero, Act.put, List.setIfInBounds_toArray, List.set_cons_zero, List.set_cons_succ]
      refine wpAnyX_take (i := 10) (v := undef) rfl (by kernel_rfl) (by kernel_rfl) (by kernel_rfl) (by kernel_rfl) (fun _ _ _ h => h) (Or.inr ⟨by rfl, rfl⟩) hHeld ?_
      simp only [List.getElem_toArray, List.getElem_cons_succ, List.getElem_cons_zero, Act.put, List.setIfInBounds_toArray, List.set_cons_zero, List.set_cons_succ]
      refine wpAnyX_take (i := 11) (v := undef) rfl (by kernel_rfl) (by kernel_rfl) (by kernel_rfl) (by kernel_rfl) (fun _ _ _ h => h) (Or.inr ⟨by rfl, rfl⟩) hHeld ?_
      simp only [List.getElem_toArray, List.getElem_cons_succ, List.getElem_cons_zero, Act.put, List.setIfInBounds_toArray, List.set_cons_zero, List.set_cons_succ]
      refine wpAnyX_take (i := 12) (v := undef) rfl (by kernel_rfl) (by kernel_rfl) (by kernel_rfl) (by kernel_rfl) (fun _ _ _ h => h) (Or.inr ⟨by rfl, rfl⟩) hHeld ?_
      simp only [List.getElem_toArray, List.getElem_cons_succ, List.getElem_cons_zero, Act.put, List.setIfInBounds_toArray, List.set_cons_zero, List.set_cons_succ]
      refine wpAnyX_take (i := 13) (v := undef) rfl (by kernel_rfl) (by kernel_rfl) (by kernel_rfl) (by kernel_rfl) (fun _ _ _ h => h) (Or.inr ⟨by rfl, rfl⟩) hHeld ?_
      simp only [List.getElem_toArray, List.getElem_cons_succ, List.getElem_cons_zero, Act.put, List.setIfInBounds_toArray, List.set_cons_zero, List.set_cons_succ]
      refine wpAnyX_take (i := 14) (v := undef) rfl (by kernel_rfl) (by kernel_rfl) (by kernel_rfl) (by kernel_rfl) (fun _ _ _ h => h) (Or.inr ⟨by rfl, rfl⟩) hHeld ?_
      simp only [List.getElem_toArray, List.getElem_cons_succ, List.getElem_cons_zero, Act.put, List.setIfInBounds_toArray, List.set_cons_zero, List.set_cons_succ]
      refine wpAnyX_take (i := 15) (v := undef) rfl (by kernel_rfl) (by kernel_rfl) (by kernel_rfl) (by kernel_rfl) (fun _ _ _ h => h) (Or.inr ⟨by rfl, rfl⟩) hHeld ?_
      simp only [List.getElem_toArray, List.getElem_cons_succ, List.getElem_cons_zero, Act.put, List.setIfInBounds_toArray, List.set_cons_zero, List.set_cons_succ]
      refine wpAnyX_take (i := 16) (v := undef) rfl (by kernel_rfl) (by kernel_rfl) (by kernel_rfl) (by kernel_rfl) (fun _ _ _ h => h) (Or.inr ⟨by rfl, rfl⟩) hHeld ?_
      simp only [List.getElem_toArray, List.getElem_cons_succ, List.getElem_cons_zero, Act.put, List.setIfInBounds_toArray, List.set_cons_zero, List.set_cons_succ]
      refine wpAnyX_take (i := 17) (v := undef) rfl (by kernel_rfl) (by kernel_rfl) (by kernel_rfl) (by kernel_rfl) (fun _ _ _ h => h) (Or.inr ⟨by rfl, rfl⟩) hHeld ?_
      simp only [List.getElem_toArray, List.getElem_cons_succ, List.getElem_cons_zero, Act.put, List.setIfInBounds_toArray, List.set_cons_zero, List.set_cons_succ]
      refine wpAnyX_take (i := 18) (v := undef) rfl (by kernel_rfl) (by kernel_rfl) (by kernel_rfl) (by kernel_rfl) (fun _ _ _ h => h) (Or.inr ⟨by rfl, rfl⟩) hHeld ?_
      simp only [List.getElem_toArray, List.getElem_cons_succ, List.getElem_cons_zero, Act.put, List.setIfInBounds_toArray, List.set_cons_zero, List.set_cons_succ]
      refine wpAnyX_take (i := 19) (v := undef) rfl (by kernel_rfl) (by kernel_rfl) (by kernel_rfl) (by kernel_rfl) (fun _ _ _ h => h) (Or.inr ⟨by rfl, rfl⟩) hHeld ?_
      simp only [List.getElem_toArray, List.getElem_cons_succ, List.getElem_cons_zero, Act.put, List.setIfInBounds_toArray, List.set_cons_zero, List.set_cons_succ]
      refine wpAnyX_take (i := 20) (v := undef) rfl (by kernel_rfl) (by kernel_rfl) (by kernel_rfl) (by kernel_rfl) (fun _ _ _ h => h) (Or.inr ⟨by rfl, rfl⟩) hHeld ?_
      simp only [List.getElem_toArray, List.getElem_cons_succ, List.getElem_cons_zero, Act.put, List.setIfInBounds_toArray, List.set_cons_zero, List.set_cons_succ]
      refine wpAnyX_take (i := 21) (v := .bool false) rfl (by kernel_rfl) (by kernel_rfl) (by kernel_rfl) (by kernel_rfl) (fun _ _ _ h => h) (Or.inl ⟨by rfl, fun w9 hSw => ?_⟩) hHeld ?_
      · go_simp
      simp only [List.getElem_toArray, List.getElem_cons_succ, List.getElem_cons_zero, Act.put, List.setIfInBounds_toArray, List.set_cons_zero, List.set_cons_succ]
      refine wpAnyX_done (by kernel_rfl) ?_ _
      have HB : Hid (Below w2.heap.size w2 wr.drew) := HJ.out.1.drew
      clear hHeld hS0 HJ
      generalize wr.drew = wq at HB ⊢
      have c4 : wq.cell? ⟨b, 4, none⟩ = some (.slice (some ⟨g, 0, none⟩) n tc) := ((HS2.out.1.below HB.out).cells.2.2.2.2).trans (by show some N.tv = _; rw [HS.out.2.1])
      have z4 : wq.frozen? ⟨b, 4, none⟩ = false := (HS2.out.1.below HB.out).unfrozen 4
      have hbq : b < wq.heap.size := (HS2.out.1.below HB.out).lt
      have hcel : ∀ (w' : World), Below w2.heap.size w2 w' → ∀ j u, (tmL N.tm)[j]? = some u → w'.cell? ⟨g, j, none⟩ = some u := fun w' hb' j u hu => by
        have h9 := HS2.out.1.tm
        rw [show (rsetCk N A0).tv = .slice (some ⟨g, 0, none⟩) n tc from HS.out.2.1] at h9
        have h8 := h9.cells (g := g) rfl j u hu
        rw [Addr.add_lit, Nat.zero_add] at h8
        exact (hb'.cell (p := ⟨g, j, none⟩) (cell_lt h8)).trans h8
      have HC : Hid (∀ (w' : World), Below w2.heap.size w2 w' → ∀ j u, (tmL N.tm)[j]? = some u → w'.cell? ⟨g, j, none⟩ = some u) := hcel
      have hlk : (tmL N.tm).length = n * 3 := by rw [tmL_length, HS.out.2.2]
      have htk : n ≤ tc := htc
      clear hcel
      go_wp2_with (first
        | (at_builtin
           have hE := empty92 wq
           have hEb : Below wq.heap.size wq (wq.alloc (.cells #[] 92)) := (Below.refl _ wq).alloc (Nat.le_refl _) _
           have hB1 : Below w2.heap.size w2 (wq.alloc (.cells #[] 92)) := HB.out.trans (hEb.mono HB.out.size)
           have hs1 := HB.out.size
           refine elU.wpList_append rfl _ _ rfl 0 (.slice (some ⟨wq.heap.size, 0, none⟩) 0 0) 0 [] rfl hE (some ⟨g, 0, none⟩) n tc rfl ((tmL N.tm).take (n * 3)) (by rw [List.length_take, hlk]; omega) (fun _ => ⟨_, rfl, fun j u hu => by
             rw [Addr.add_lit, Nat.zero_add]
             rw [List.getElem?_take] at hu
             split at hu
             · exact HC.out _ hB1 j u hu
             · cases hu⟩) (fun e => by cases e) (fun u hu => tmL_one N.tm u (List.mem_of_mem_take hu)) (by omega) (Nat.zero_le _) ?_
           intro v6 w6 ho6 hg6 ha6
           rw [List.nil_append, Nat.zero_add] at ho6
           obtain ⟨v6a, v6c, rfl⟩ := row_form ho6
           have hB6 : Below w2.heap.size w2 w6 := hB1.grown hg6 hB1.size (fun jj hjj => by have h9 : wq.heap.size = jj := (by simpa [Value.ownBlock] using hjj); omega)
           have H6 : Hid (Below w2.heap.size w2 w6 ∧ w6.ownsRow 0 92 3 (.slice v6a n v6c) n ((tmL N.tm).take (n * 3)) ∧ (∀ x, (Value.slice v6a n v6c).ownBlock = some x → w2.heap.size ≤ x)) := ⟨hB6, ho6, fun x hx => by
             rcases ha6 with e | e
             · rw [e] at hx
               have h9 : wq.heap.size = x := (by simpa [Value.ownBlock] using hx)
               omega
             · rw [e] at hx
               injection hx with hx
               have := hB1.size
               omega⟩
           have d4 : w6.cell? ⟨b, 4, none⟩ = some (.slice (some ⟨g, 0, none⟩) n tc) := ((HS2.out.1.below H6.out.1).cells.2.2.2.2).trans (by show some N.tv = _; rw [HS.out.2.1])
           have hb6 : b < w6.heap.size := (HS2.out.1.below H6.out.1).lt
           clear hE hEb hB1 hs1 ho6 hg6 ha6 hB6 HB c4 z4)
        | (at_builtin
           have hE := empty92 w6
           have hEb : Below w6.heap.size w6 (w6.alloc (.cells #[] 92)) := (Below.refl _ w6).alloc (Nat.le_refl _) _
           have hB1 : Below w2.heap.size w2 (w6.alloc (.cells #[] 92)) := H6.out.1.trans (hEb.mono H6.out.1.size)
           have hs1 := H6.out.1.size
           have hr1 := ownsRow_heap H6.out.2.1 (fun x hx => hEb.block x (H6.out.2.1.lt x hx).2)
           refine elU.wpList_append rfl _ _ rfl 0 (.slice (some ⟨w6.heap.size, 0, none⟩) 0 0) 0 [] rfl hE (if tc = n then some ⟨g, 0, none⟩ else some ⟨g, n * 3, none⟩) 0 (tc - n) rfl ((tmL N.tm).drop (n * 3)) (by rw [List.length_drop, hlk]; omega) (fun hpos => absurd hpos (by omega)) (fun e => by split at e <;> cases e) (fun u hu => tmL_one N.tm u (List.mem_of_mem_drop hu)) (by omega) (Nat.zero_le _) ?_
           intro v7 w7 ho7 hg7 ha7
           rw [List.nil_append, Nat.zero_add] at ho7
           obtain ⟨v7a, v7c, rfl⟩ := row_form ho7
           have hB7 : Below w2.heap.size w2 w7 := hB1.grown hg7 hB1.size (fun jj hjj => by have h9 : w6.heap.size = jj := (by simpa [Value.ownBlock] using hjj); omega)
           have hf7 : ∀ x, (Value.slice v7a 0 v7c).ownBlock = some x → w6.heap.size ≤ x := fun x hx => by
             rcases ha7 with e | e
             · rw [e] at hx
               have h9 : w6.heap.size = x := (by simpa [Value.ownBlock] using hx)
               omega
             · rw [e] at hx
               injection hx with hx
               have := hEb.size
               omega
           have hk7 : ∀ x, x < w6.heap.size → w7.heap[x]? = w6.heap[x]? := fun x hx => (hg7.block x (by have := hEb.size; omega) (fun e => by have h9 : w6.heap.size = x := (by simpa [Value.ownBlock] using e.symm); omega)).trans (hEb.block x hx)
           have hld : (N.tm.drop n).length = 0 := by rw [List.length_drop]; have := HS.out.2.2; omega
           have hend := rsetT_end (v := .slice v7a 0 v7c) (l := N.tm.drop n) HS2.out.1 (gb_of_below hB7 _) (by rw [hld, tmL_drop]; exact ho7) (Or.inr (fun x hx => by have := hf7 x hx; omega))
           have hrow := ownsRow_heap H6.out.2.1 (fun x hx => hk7 x (H6.out.2.1.lt x hx).2)
           have hbz := HS2.out.1.lt
           have hrow2 : (w7.setCell ⟨b, 4, none⟩ (.slice v7a 0 v7c)).ownsRow 0 92 3 (.slice v6a n v6c) n ((tmL N.tm).take (n * 3)) := ownsRow_heap hrow (fun x hx => Below.heap_setCell _ _ _ _ (fun e => by have := H6.out.2.2 x hx; have e' : x = b := e; omega))
           have z7 : w7.frozen? ⟨b, 4, none⟩ = false := unfrozen_of_block ((hB7.block b hbz).trans HS2.out.1.net) 4
           have H7 : Hid (RIs (w7.setCell ⟨b, 4, none⟩ (.slice v7a 0 v7c)) b (rsetT (rsetCk N A0) (.slice v7a 0 v7c) (N.tm.drop n)) ∧ RFr w (w7.setCell ⟨b, 4, none⟩ (.slice v7a 0 v7c)) N (rsetT (rsetCk N A0) (.slice v7a 0 v7c) (N.tm.drop n)) ∧ (w7.setCell ⟨b, 4, none⟩ (.slice v7a 0 v7c)).ownsRow 0 92 3 (.slice v6a n v6c) n ((tmL N.tm).take (n * 3)) ∧ (∀ x, (Value.slice v6a n v6c).ownBlock = some x → w2.heap.size ≤ x ∧ (rsetT (rsetCk N A0) (.slice v7a 0 v7c) (N.tm.drop n)).own x = 0)) := ⟨hend.1, HS2.out.2.trans hend.2, hrow2, fun x hx => ⟨H6.out.2.2 x hx, by
             show (if (Value.slice v7a 0 v7c).ownBlock = some x then 4 else N.own x) = 0
             rw [if_neg (fun hc => by have h1 := hf7 x hc; have h2 := (H6.out.2.1.lt x hx).2; omega)]
             exact HS.out.1.fresh x (by have h1 := H6.out.2.2 x hx; have h2 := HS2.out.2.size; omega)⟩⟩
           have e4 : w7.cell? ⟨b, 4, none⟩ = some (.slice (some ⟨g, 0, none⟩) n tc) := ((HS2.out.1.below hB7).cells.2.2.2.2).trans (by show some N.tv = _; rw [HS.out.2.1])
           clear hE hEb hB1 hs1 hr1 ho7 hg7 ha7 hB7 hf7 hk7 hld hend hrow hrow2 hbz H6 d4))
      all_goals
        go_ret
        have hk9 := HK.out
        refine ⟨.slice v6a n v6c, _, rfl, ?_, H7.out.1, H7.out.2.1, ?_, fun x hx => (H7.out.2.2.2 x hx).2⟩
        · have hlt : (N.tm.take (many N.tm)).length = n := by rw [hk9, List.length_take]; have := HS.out.2.2; omega
          rw [hlt, hk9, tmL_take]
          have hsz := HS2.out.2.size
          have h1 := H7.out.2.2.1
          refine ⟨h1.1, ?_⟩
          rcases h1.2 with h | ⟨g8, cap, cur, e, _, r⟩
          · exact Or.inl h
          · exact Or.inr ⟨g8, cap, cur, e, Nat.le_trans hsz (H7.out.2.2.2 g8 (by rw [e]; rfl)).1, r⟩
        · rw [hk9]
          rfl
set_option maxRecDepth 100000 in
set_option maxHeartbeats 16000000 in
theorem rtick_ring_c {w : World} {b : Nat} {N : RS} (h : RIs w b N) (ho : ROk N) (most : Int) (hm : ¬ most < 0) (hm2 : 1099511627776 - N.clk < most) (t : TM) (he : N.tm[0]? = some t) (hf : ¬ max most 0 < t.at_ - N.clk) :
    Calls Try.prog 24 #[.pointer (some ⟨b, 0, none⟩), .int .i64 most] w fun e w' => RTiR w b N (N.tm.take (many N.tm)) { absR N with clk := t.at_, tm := N.tm.drop (many N.tm) } e w' := by
  have c2 := h.cells.2.2.1
  have c4 := h.cells.2.2.2.2
  obtain ⟨ta, tc, htv, hnil, htc, hg0, hcells⟩ := h.tmv
  have hck := ho.ck
  have hb := h.lt
  have hl := ho.tm
  obtain ⟨C, hC⟩ : ∃ C, C = N.clk := ⟨_, rfl⟩
  rw [← hC] at c2 hck
  rw [← hC] at hm2
  have hA9 := ho.at_ t (List.mem_of_getElem? he)
  obtain ⟨A0, hA0⟩ : ∃ A0, A0 = t.at_ := ⟨_, rfl⟩
  rw [← hC, ← hA0] at hf
  rw [← hA0] at hA9 ⊢
  obtain ⟨g9, o9, e9, hc9⟩ := hcells (0 * 3 + 2) (.int .i64 t.at_) (by rw [tmL_at N.tm 0 t he 2 (by decide)]; rfl)
  obtain ⟨g, hg9⟩ := hg0 _ e9
  rw [hg9] at e9
  injection hg9 with hg1 hg2
  subst hg1 hg2 e9
  have ct : w.cell? ⟨g9, 2, none⟩ = some (.int .i64 A0) := by rw [hA0]; simpa using hc9
  have hpos : 0 < N.tm.length := (List.getElem?_eq_some_iff.1 he).1
  obtain ⟨n, hn⟩ : ∃ n, n = N.tm.length := ⟨_, rfl⟩
  rw [htv, ← hn] at c4
  rw [← hn] at htc htv
  have hn0 : ¬ (n : Int) = 0 := by omega
  have hn1 : (0 : Int) < n := by omega
  have hn3 : n ≤ 4096 := by omega
  have hMA : ¬ C + (1099511627776 - C) < A0 := by omega
  obtain ⟨g, hg⟩ : ∃ g, g = g9 := ⟨_, rfl⟩
  rw [← hg] at ct c4 htv
  have HS : Hid (RIs w b N ∧ N.tv = .slice (some ⟨g, 0, none⟩) n tc ∧ N.tm.length = n) := ⟨h, htv, hn.symm⟩
  have HT : Hid (N.tm[0]? = some t ∧ A0 = t.at_) := ⟨he, hA0⟩
  have hS0 : w.cell? ⟨b, 4, none⟩ = some (.slice (some ⟨g, 0, none⟩) n tc) ∧ w.cell? ⟨b, 2, none⟩ = some (.int .i64 C) ∧ w.cell? ⟨g, 2, none⟩ = some (.int .i64 A0) := ⟨c4, c2, ct⟩
  clear h ho htv hnil hg0 hcells hC c4 he hl hA0 hf hc9 ct hpos hn hg
  go_enter Try.func24, Try.ntmps24
  go_wp2_with fail
  refine wp_region_X (fun _ => false) (S := fun w' => w'.cell? ⟨b, 4, none⟩ = some (.slice (some ⟨g, 0, none⟩) n tc) ∧ w'.cell? ⟨b, 2, none⟩ = some (.int .i64 C) ∧ w'.cell? ⟨g, 2, none⟩ = some (.int .i64 A0)) (by kernel_rfl) hS0 (fun hHeld => ?_)
  refine wpAnyX_take (i := 0) (v := .pointer (some ⟨b, 0, none⟩)) rfl (by kernel_rfl) (by kernel_rfl) (by kernel_rfl) (by kernel_rfl) (fun _ _ _ h => h) (Or.inl ⟨by rfl, fun w9 hSw => ?_⟩) hHeld ?_
  · go_simp
  simp only [List.getElem_toArray, List.getElem_cons_succ, List.getElem_cons_zero, Act.put, List.setIfInBounds_toArray, List.set_cons_zero, List.set_cons_succ]
  refine wpAnyX_take (i := 1) (v := .pointer (some ⟨b, 0, none⟩)) rfl (by kernel_rfl) (by kernel_rfl) (by kernel_rfl) (by kernel_rfl) (fun _ _ _ h => h) (Or.inl ⟨by rfl, fun w9 hSw => ?_⟩) hHeld ?_
  · go_simp
  simp only [List.getElem_toArray, List.getElem_cons_succ, List.getElem_cons_zero, Act.put, List.setIfInBounds_toArray, List.set_cons_zero, List.set_cons_succ]
  refine wpAnyX_take (i := 2) (v := .pointer (some ⟨b, 4, none⟩)) rfl (by kernel_rfl) (by kernel_rfl) (by kernel_rfl) (by kernel_rfl) (fun _ _ _ h => h) (Or.inl ⟨by rfl, fun w9 hSw => ?_⟩) hHeld ?_
  · go_simp
  simp only [List.getElem_toArray, List.getElem_cons_succ, List.getElem_cons_zero, Act.put, List.setIfInBounds_toArray, List.set_cons_zero, List.set_cons_succ]
  refine wpAnyX_take (i := 3) (v := .slice (some ⟨g, 0, none⟩) n tc) rfl (by kernel_rfl) (by kernel_rfl) (by kernel_rfl) (by kernel_rfl) (fun _ _ _ h => h) (Or.inl ⟨by rfl, fun w9 hSw => ?_⟩) hHeld ?_
  · obtain ⟨q4, q2, q5⟩ := hSw
    go_simp
  simp only [List.getElem_toArray, List.getElem_cons_succ, List.getElem_cons_zero, Act.put, List.setIfInBounds_toArray, List.set_cons_zero, List.set_cons_succ]
  refine wpAnyX_take (i := 4) (v := .int .i64 n) rfl (by kernel_rfl) (by kernel_rfl) (by kernel_rfl) (by kernel_rfl) (fun _ _ _ h => h) (Or.inl ⟨by rfl, fun w9 hSw => ?_⟩) hHeld ?_
  · go_simp
  simp only [List.getElem_toArray, List.getElem_cons_succ, List.getElem_cons_zero, Act.put, List.setIfInBounds_toArray, List.set_cons_zero, List.set_cons_succ]
  refine wpAnyX_take (i := 5) (v := .bool false) rfl (by kernel_rfl) (by kernel_rfl) (by kernel_rfl) (by kernel_rfl) (fun _ _ _ h => h) (Or.inl ⟨by rfl, fun w9 hSw => ?_⟩) hHeld ?_
  · go_simp
    try omega
  simp only [List.getElem_toArray, List.getElem_cons_succ, List.getElem_cons_zero, Act.put, List.setIfInBounds_toArray, List.set_cons_zero, List.set_cons_succ]
  refine wpAnyX_take (i := 6) (v := .bool false) rfl (by kernel_rfl) (by kernel_rfl) (by kernel_rfl) (by kernel_rfl) (fun _ _ _ h => h) (Or.inl ⟨by rfl, fun w9 hSw => ?_⟩) hHeld ?_
  · go_simp
  simp only [List.getElem_toArray, List.getElem_cons_succ, List.getElem_cons_zero, Act.put, List.setIfInBounds_toArray, List.set_cons_zero, List.set_cons_succ]
  refine wpAnyX_take (i := 7) (v := .pointer (some ⟨b, 0, none⟩)) rfl (by kernel_rfl) (by kernel_rfl) (by kernel_rfl) (by kernel_rfl) (fun _ _ _ h => h) (Or.inl ⟨by rfl, fun w9 hSw => ?_⟩) hHeld ?_
  · go_simp
  simp only [List.getElem_toArray, List.getElem_cons_succ, List.getElem_cons_zero, Act.put, List.setIfInBounds_toArray, List.set_cons_zero, List.set_cons_succ]
  refine wpAnyX_take (i := 8) (v := .pointer (some ⟨b, 0, none⟩)) rfl (by kernel_rfl) (by kernel_rfl) (by kernel_rfl) (by kernel_rfl) (fun _ _ _ h => h) (Or.inl ⟨by rfl, fun w9 hSw => ?_⟩) hHeld ?_
  · go_simp
  simp only [List.getElem_toArray, List.getElem_cons_succ, List.getElem_cons_zero, Act.put, List.setIfInBounds_toArray, List.set_cons_zero, List.set_cons_succ]
  refine wpAnyX_take (i := 9) (v := .pointer (some ⟨b, 4, none⟩)) rfl (by kernel_rfl) (by kernel_rfl) (by kernel_rfl) (by kernel_rfl) (fun _ _ _ h => h) (Or.inl ⟨by rfl, fun w9 hSw => ?_⟩) hHeld ?_
  · go_simp
  simp only [List.getElem_toArray, List.getElem_cons_succ, List.getElem_cons_zero, Act.put, List.setIfInBounds_toArray, List.set_cons_zero, List.set_cons_succ]
  refine wpAnyX_take (i := 10) (v := .slice (some ⟨g, 0, none⟩) n tc) rfl (by kernel_rfl) (by kernel_rfl) (by kernel_rfl) (by kernel_rfl) (fun _ _ _ h => h) (Or.inl ⟨by rfl, fun w9 hSw => ?_⟩) hHeld ?_
  · obtain ⟨q4, q2, q5⟩ := hSw
    go_simp
  simp only [List.getElem_toArray, List.getElem_cons_succ, List.getElem_cons_zero, Act.put, List.setIfInBounds_toArray, List.set_cons_zero, List.set_cons_succ]
  refine wpAnyX_take (i := 11) (v := .pointer (some ⟨g, 0, none⟩)) rfl (by kernel_rfl) (by kernel_rfl) (by kernel_rfl) (by kernel_rfl) (fun _ _ _ h => h) (Or.inl ⟨by rfl, fun w9 hSw => ?_⟩) hHeld ?_
  · go_simp
    try omega
  simp only [List.getElem_toArray, List.getElem_cons_succ, List.getElem_cons_zero, Act.put, List.setIfInBounds_toArray, List.set_cons_zero, List.set_cons_succ]
  refine wpAnyX_take (i := 12) (v := .pointer (some ⟨g, 2, none⟩)) rfl (by kernel_rfl) (by kernel_rfl) (by kernel_rfl) (by kernel_rfl) (fun _ _ _ h => h) (Or.inl ⟨by rfl, fun w9 hSw => ?_⟩) hHeld ?_
  · go_simp
  simp only [List.getElem_toArray, List.getElem_cons_succ, List.getElem_cons_zero, Act.put, List.setIfInBounds_toArray, List.set_cons_zero, List.set_cons_succ]
  refine wpAnyX_take (i := 13) (v := .int .i64 A0) rfl (by kernel_rfl) (by kernel_rfl) (by kernel_rfl) (by kernel_rfl) (fun _ _ _ h => h) (Or.inl ⟨by rfl, fun w9 hSw => ?_⟩) hHeld ?_
  · obtain ⟨q4, q2, q5⟩ := hSw
    go_simp
  simp only [List.getElem_toArray, List.getElem_cons_succ, List.getElem_cons_zero, Act.put, List.setIfInBounds_toArray, List.set_cons_zero, List.set_cons_succ]
  refine wpAnyX_take (i := 14) (v := .pointer (some ⟨b, 0, none⟩)) rfl (by kernel_rfl) (by kernel_rfl) (by kernel_rfl) (by kernel_rfl) (fun _ _ _ h => h) (Or.inl ⟨by rfl, fun w9 hSw => ?_⟩) hHeld ?_
  · go_simp
  simp only [List.getElem_toArray, List.getElem_cons_succ, List.getElem_cons_zero, Act.put, List.setIfInBounds_toArray, List.set_cons_zero, List.set_cons_succ]
  refine wpAnyX_take (i := 15) (v := .pointer (some ⟨b, 0, none⟩)) rfl (by kernel_rfl) (by kernel_rfl) (by kernel_rfl) (by kernel_rfl) (fun _ _ _ h => h) (Or.inl ⟨by rfl, fun w9 hSw => ?_⟩) hHeld ?_
  · go_simp
  simp only [List.getElem_toArray, List.getElem_cons_succ, List.getElem_cons_zero, Act.put, List.setIfInBounds_toArray, List.set_cons_zero, List.set_cons_succ]
  refine wpAnyX_take (i := 16) (v := .pointer (some ⟨b, 2, none⟩)) rfl (by kernel_rfl) (by kernel_rfl) (by kernel_rfl) (by kernel_rfl) (fun _ _ _ h => h) (Or.inl ⟨by rfl, fun w9 hSw => ?_⟩) hHeld ?_
  · go_simp
  simp only [List.getElem_toArray, List.getElem_cons_succ, List.getElem_cons_zero, Act.put, List.setIfInBounds_toArray, List.set_cons_zero, List.set_cons_succ]
  refine wpAnyX_take (i := 17) (v := .int .i64 C) rfl (by kernel_rfl) (by kernel_rfl) (by kernel_rfl) (by kernel_rfl) (fun _ _ _ h => h) (Or.inl ⟨by rfl, fun w9 hSw => ?_⟩) hHeld ?_
  · obtain ⟨q4, q2, q5⟩ := hSw
    go_simp
  simp only [List.getElem_toArray, List.getElem_cons_succ, List.getElem_cons_zero, Act.put, List.setIfInBounds_toArray, List.set_cons_zero, List.set_cons_succ]
  refine wpAnyX_take (i := 18) (v := .int .i64 (1099511627776 - C)) rfl (by kernel_rfl) (by kernel_rfl) (by kernel_rfl) (by kernel_rfl) (fun _ _ _ h => h) (Or.inl ⟨by rfl, fun w9 hSw => ?_⟩) hHeld ?_
  · go_simp
  simp only [List.getElem_toArray, List.getElem_cons_succ, List.getElem_cons_zero, Act.put, List.setIfInBounds_toArray, List.set_cons_zero, List.set_cons_succ]
  refine wpAnyX_take (i := 19) (v := .int .i64 (C + (1099511627776 - C))) rfl (by kernel_rfl) (by kernel_rfl) (by kernel_rfl) (by kernel_rfl) (fun _ _ _ h => h) (Or.inl ⟨by rfl, fun w9 hSw => ?_⟩) hHeld ?_
  · go_simp
    try (rw [IntKind.wrap_i64]; omega)
  simp only [List.getElem_toArray, List.getElem_cons_succ, List.getElem_cons_zero, Act.put, List.setIfInBounds_toArray, List.set_cons_zero, List.set_cons_succ]
  refine wpAnyX_take (i := 20) (v := .bool false) rfl (by kernel_rfl) (by kernel_rfl) (by kernel_rfl) (by kernel_rfl) (fun _ _ _ h => h) (Or.inl ⟨by rfl, fun w9 hSw => ?_⟩) hHeld ?_
  · go_simp
    try omega
  simp only [List.getElem_toArray, List.getElem_cons_succ, List.getElem_cons_zero, Act.put, List.setIfInBounds_toArray, List.set_cons_zero, List.set_cons_succ]
  refine wpAnyX_take (i := 21) (v := .bool false) rfl (by kernel_rfl) (by kernel_rfl) (by kernel_rfl) (by kernel_rfl) (fun _ _ _ h => h) (Or.inl ⟨by rfl, fun w9 hSw => ?_⟩) hHeld ?_
  · go_simp
  simp only [List.getElem_toArray, List.getElem_cons_succ, List.getElem_cons_zero, Act.put, List.setIfInBounds_toArray, List.set_cons_zero, List.set_cons_succ]
  refine wpAnyX_done (by kernel_rfl) ?_ _
  have HB0 : Hid (Below w.heap.size w w.drew) := (Below.refl _ w).drew
  have hc4 : w.drew.cell? ⟨b, 4, none⟩ = some (.slice (some ⟨g, 0, none⟩) n tc) := hS0.1
  have hct : w.drew.cell? ⟨g, 2, none⟩ = some (.int .i64 A0) := hS0.2.2
  have hc2 : w.drew.cell? ⟨b, 2, none⟩ = some (.int .i64 C) := hS0.2.1
  clear hHeld hS0
  generalize w.drew = wz at HB0 hc4 hct hc2 ⊢
  have z2 : wz.frozen? ⟨b, 2, none⟩ = false := (HS.out.1.below HB0.out).unfrozen 2
  have hend := rsetCk_end (HS.out.1.below HB0.out) A0
  go_wp2_with fail
  obtain ⟨w2, hw2⟩ : ∃ w2, w2 = wz.setCell ⟨b, 2, none⟩ (.int .i64 A0) := ⟨_, rfl⟩
  rw [← hw2] at hend ⊢
  have HS2 : Hid (RIs w2 b (rsetCk N A0) ∧ RFr w w2 N (rsetCk N A0)) := ⟨hend.1, (RFr.below HB0.out).trans hend.2⟩
  clear hend hw2 z2 hc4 hct hc2 HB0
  go_loopw [5] (fun i wr => ∃ k : Nat, k ≤ n ∧ i = .int .i64 k ∧ Hid (Below w2.heap.size w2 wr ∧ ∀ (j : Nat) (t9 : TM), N.tm[j]? = some t9 → j < k → t9.at_ = A0)) (fun i _ => n - (intOf i).toNat)
  case atStart => exact ⟨0, Nat.zero_le _, rfl, Below.refl _ _, fun j t9 _ hj => absurd hj (Nat.not_lt_zero _)⟩
  case round =>
    obtain ⟨k, hk, rfl, HJ⟩ := hrel
    have hR := HS2.out.1.below HJ.out.1
    have d4 : wr.cell? ⟨b, 4, none⟩ = some (.slice (some ⟨g, 0, none⟩) n tc) := hR.cells.2.2.2.2.trans (by show some N.tv = _; rw [HS.out.2.1])
    have d2 : wr.cell? ⟨b, 2, none⟩ = some (.int .i64 A0) := hR.cells.2.2.1
    by_cases hlt : k < n
    · obtain ⟨t9, ht9⟩ : ∃ t9, N.tm[k]? = some t9 := ⟨_, List.getElem?_eq_getElem (by have := HS.out.2.2; omega)⟩
      have hrow := hR.tm
      rw [show (rsetCk N A0).tv = .slice (some ⟨g, 0, none⟩) n tc from HS.out.2.1] at hrow
      have dk : wr.cell? ⟨g, k * 3 + 2, none⟩ = some (.int .i64 t9.at_) := by
        have h8 := hrow.cells (g := g) rfl (k * 3 + 2) (.int .i64 t9.at_) (by show (tmL N.tm)[k * 3 + 2]? = _; rw [tmL_at N.tm k t9 ht9 2 (by decide)]; rfl)
        rwa [Addr.add_lit, Nat.zero_add] at h8
      obtain ⟨AK, hAK⟩ : ∃ AK, AK = t9.at_ := ⟨_, rfl⟩
      rw [← hAK] at dk
      have HAK : Hid (N.tm[k]? = some t9 ∧ AK = t9.at_) := ⟨ht9, hAK⟩
      have hkn : (k : Int) < n := by omega
      have hS0 : wr.cell? ⟨b, 4, none⟩ = some (.slice (some ⟨g, 0, none⟩) n tc) ∧ wr.cell? ⟨b, 2, none⟩ = some (.int .i64 A0) ∧ wr.cell? ⟨g, k * 3 + 2, none⟩ = some (.int .i64 AK) := ⟨d4, d2, dk⟩
      clear hR d4 d2 hrow dk hAK ht9
      by_cases hAA : AK = A0
      · have hb9 : (AK == A0) = true := by simpa using hAA
        have HAA : Hid (AK = A0) := hAA
        clear hAA
        go_wp2_with fail
        refine wp_region_X (fun _ => false) (S := fun w' => w'.cell? ⟨b, 4, none⟩ = some (.slice (some ⟨g, 0, none⟩) n tc) ∧ w'.cell? ⟨b, 2, none⟩ = some (.int .i64 A0) ∧ w'.cell? ⟨g, k * 3 + 2, none⟩ = some (.int .i64 AK)) (by kernel_rfl) hS0 (fun hHeld => ?_)
        refine wpAnyX_take (i := 0) (v := .int .i64 k) rfl (by kernel_rfl) (by kernel_rfl) (by kernel_rfl) (by kernel_rfl) (fun _ _ _ h => h) (Or.inl ⟨by rfl, fun w9 hSw => ?_⟩) hHeld ?_
        · go_simp
        simp only [List.getElem_toArray, List.getElem_cons_succ, List.getElem_cons_zero, Act.put, List.setIfInBounds_toArray, List.set_cons_zero, List.set_cons_succ]
        refine wpAnyX_take (i := 1) (v := .pointer (some ⟨b, 0, none⟩)) rfl (by kernel_rfl) (by kernel_rfl) (by kernel_rfl) (by kernel_rfl) (fun _ _ _ h => h) (Or.inl ⟨by rfl, fun w9 hSw => ?_⟩) hHeld ?_
        · go_simp
        simp only [List.getElem_toArray, List.getElem_cons_succ, List.getElem_cons_zero, Act.put, List.setIfInBounds_toArray, List.set_cons_zero, List.set_cons_succ]
        refine wpAnyX_take (i := 2) (v := .pointer (some ⟨b, 0, none⟩)) rfl (by kernel_rfl) (by kernel_rfl) (by kernel_rfl) (by kernel_rfl) (fun _ _ _ h => h) (Or.inl ⟨by rfl, fun w9 hSw => ?_⟩) hHeld ?_
        · go_simp
        simp only [List.getElem_toArray, List.getElem_cons_succ, List.getElem_cons_zero, Act.put, List.setIfInBounds_toArray, List.set_cons_zero, List.set_cons_succ]
        refine wpAnyX_take (i := 3) (v := .pointer (some ⟨b, 4, none⟩)) rfl (by kernel_rfl) (by kernel_rfl) (by kernel_rfl) (by kernel_rfl) (fun _ _ _ h => h) (Or.inl ⟨by rfl, fun w9 hSw => ?_⟩) hHeld ?_
        · go_simp
        simp only [List.getElem_toArray, List.getElem_cons_succ, List.getElem_cons_zero, Act.put, List.setIfInBounds_toArray, List.set_cons_zero, List.set_cons_succ]
        refine wpAnyX_take (i := 4) (v := .slice (some ⟨g, 0, none⟩) n tc) rfl (by kernel_rfl) (by kernel_rfl) (by kernel_rfl) (by kernel_rfl) (fun _ _ _ h => h) (Or.inl ⟨by rfl, fun w9 hSw => ?_⟩) hHeld ?_
        · obtain ⟨q4, q2, q5⟩ := hSw
          go_simp
        simp only [List.getElem_toArray, List.getElem_cons_succ, List.getElem_cons_zero, Act.put, List.setIfInBounds_toArray, List.set_cons_zero, List.set_cons_succ]
        refine wpAnyX_take (i := 5) (v := .int .i64 n) rfl (by kernel_rfl) (by kernel_rfl) (by kernel_rfl) (by kernel_rfl) (fun _ _ _ h => h) (Or.inl ⟨by rfl, fun w9 hSw => ?_⟩) hHeld ?_
        · go_simp
        simp only [List.getElem_toArray, List.getElem_cons_succ, List.getElem_cons_zero, Act.put, List.setIfInBounds_toArray, List.set_cons_zero, List.set_cons_succ]
        refine wpAnyX_take (i := 6) (v := .bool true) rfl (by kernel_rfl) (by kernel_rfl) (by kernel_rfl) (by kernel_rfl) (fun _ _ _ h => h) (Or.inl ⟨by rfl, fun w9 hSw => ?_⟩) hHeld ?_
        · go_simp
          try omega
        simp only [List.getElem_toArray, List.getElem_cons_succ, List.getElem_cons_zero, Act.put, List.setIfInBounds_toArray, List.set_cons_zero, List.set_cons_succ]
        refine wpAnyX_take (i := 7) (v := .bool true) rfl (by kernel_rfl) (by kernel_rfl) (by kernel_rfl) (by kernel_rfl) (fun _ _ _ h => h) (Or.inl ⟨by rfl, fun w9 hSw => ?_⟩) hHeld ?_
        · go_simp
        simp only [List.getElem_toArray, List.getElem_cons_succ, List.getElem_cons_zero, Act.put, List.setIfInBounds_toArray, List.set_cons_zero, List.set_cons_succ]
        refine wpAnyX_take (i := 8) (v := .pointer (some ⟨b, 0, none⟩)) rfl (by kernel_rfl) (by kernel_rfl) (by kernel_rfl) (by kernel_rfl) (fun _ _ _ h => h) (Or.inl ⟨by rfl, fun w9 hSw => ?_⟩) hHeld ?_
        · go_simp
        simp only [List.getElem_toArray, List.getElem_cons_succ, List.getElem_cons_zero, Act.put, List.setIfInBounds_toArray, List.set_cons_zero, List.set_cons_succ]
        refine wpAnyX_take (i := 9) (v := .pointer (some ⟨b, 0, none⟩)) rfl (by kernel_rfl) (by kernel_rfl) (by kernel_rfl) (by kernel_rfl) (fun _ _ _ h => h) (Or.inl ⟨by rfl, fun w9 hSw => ?_⟩) hHeld ?_
        · go_simp
        simp only [List.getElem_toArray, List.getElem_cons_succ, List.getElem_cons_zero, Act.put, List.setIfInBounds_toArray, List.set_cons_zero, List.set_cons_succ]
        refine wpAnyX_take (i := 10) (v := .pointer (some ⟨b, 4, none⟩)) rfl (by kernel_rfl) (by kernel_rfl) (by kernel_rfl) (by kernel_rfl) (fun _ _ _ h => h) (Or.inl ⟨by rfl, fun w9 hSw => ?_⟩) hHeld ?_
        · go_simp
        simp only [List.getElem_toArray, List.getElem_cons_succ, List.getElem_cons_zero, Act.put, List.setIfInBounds_toArray, List.set_cons_zero, List.set_cons_succ]
        refine wpAnyX_take (i := 11) (v := .slice (some ⟨g, 0, none⟩) n tc) rfl (by kernel_rfl) (by kernel_rfl) (by kernel_rfl) (by kernel_rfl) (fun _ _ _ h => h) (Or.inl ⟨by rfl, fun w9 hSw => ?_⟩) hHeld ?_
        · obtain ⟨q4, q2, q5⟩ := hSw
          go_simp
        simp only [List.getElem_toArray, List.getElem_cons_succ, List.getElem_cons_zero, Act.put, List.setIfInBounds_toArray, List.set_cons_zero, List.set_cons_succ]
        refine wpAnyX_take (i := 12) (v := .int .i64 k) rfl (by kernel_rfl) (by kernel_rfl) (by kernel_rfl) (by kernel_rfl) (fun _ _ _ h => h) (Or.inl ⟨by rfl, fun w9 hSw => ?_⟩) hHeld ?_
        · go_simp
        simp only [List.getElem_toArray, List.getElem_cons_succ, List.getElem_cons_zero, Act.put, List.setIfInBounds_toArray, List.set_cons_zero, List.set_cons_succ]
        refine wpAnyX_take (i := 13) (v := .pointer (some ⟨g, k * 3, none⟩)) rfl (by kernel_rfl) (by kernel_rfl) (by kernel_rfl) (by kernel_rfl) (fun _ _ _ h => h) (Or.inl ⟨by rfl, fun w9 hSw => ?_⟩) hHeld ?_
        · go_simp
        simp only [List.getElem_toArray, List.getElem_cons_succ, List.getElem_cons_zero, Act.put, List.setIfInBounds_toArray, List.set_cons_zero, List.set_cons_succ]
        refine wpAnyX_take (i := 14) (v := .pointer (some ⟨g, k * 3 + 2, none⟩)) rfl (by kernel_rfl) (by kernel_rfl) (by kernel_rfl) (by kernel_rfl) (fun _ _ _ h => h) (Or.inl ⟨by rfl, fun w9 hSw => ?_⟩) hHeld ?_
        · go_simp
        simp only [List.getElem_toArray, List.getElem_cons_succ, List.getElem_cons_zero, Act.put, List.setIfInBounds_toArray, List.set_cons_zero, List.set_cons_succ]
        refine wpAnyX_take (i := 15) (v := .int .i64 AK) rfl (by kernel_rfl) (by kernel_rfl) (by kernel_rfl) (by kernel_rfl) (fun _ _ _ h => h) (Or.inl ⟨by rfl, fun w9 hSw => ?_⟩) hHeld ?_
        · obtain ⟨q4, q2, q5⟩ := hSw
          go_simp
        simp only [List.getElem_toArray, List.getElem_cons_succ, List.getElem_cons_zero, Act.put, List.setIfInBounds_toArray, List.set_cons_zero, List.set_cons_succ]
        refine wpAnyX_take (i := 16) (v := .pointer (some ⟨b, 0, none⟩)) rfl (by kernel_rfl) (by kernel_rfl) (by kernel_rfl) (by kernel_rfl) (fun _ _ _ h => h) (Or.inl ⟨by rfl, fun w9 hSw => ?_⟩) hHeld ?_
        · go_simp
        simp only [List.getElem_toArray, List.getElem_cons_succ, List.getElem_cons_zero, Act.put, List.setIfInBounds_toArray, List.set_cons_zero, List.set_cons_succ]
        refine wpAnyX_take (i := 17) (v := .pointer (some ⟨b, 0, none⟩)) rfl (by kernel_rfl) (by kernel_rfl) (by kernel_rfl) (by kernel_rfl) (fun _ _ _ h => h) (Or.inl ⟨by rfl, fun w9 hSw => ?_⟩) hHeld ?_
        · go_simp
        simp only [List.getElem_toArray, List.getElem_cons_succ, List.getElem_cons_zero, Act.put, List.setIfInBounds_toArray, List.set_cons_zero, List.set_cons_succ]
        refine wpAnyX_take (i := 18) (v := .pointer (some ⟨b, 2, none⟩)) rfl (by kernel_rfl) (by kernel_rfl) (by kernel_rfl) (by kernel_rfl) (fun _ _ _ h => h) (Or.inl ⟨by rfl, fun w9 hSw => ?_⟩) hHeld ?_
        · go_simp
        simp only [List.getElem_toArray, List.getElem_cons_succ, List.getElem_cons_zero, Act.put, List.setIfInBounds_toArray, List.set_cons_zero, List.set_cons_succ]
        refine wpAnyX_take (i := 19) (v := .int .i64 A0) rfl (by kernel_rfl) (by kernel_rfl) (by kernel_rfl) (by kernel_rfl) (fun _ _ _ h => h) (Or.inl ⟨by rfl, fun w9 hSw => ?_⟩) hHeld ?_
        · obtain ⟨q4, q2, q5⟩ := hSw
          go_simp
        simp only [List.getElem_toArray, List.getElem_cons_succ, List.getElem_cons_zero, Act.put, List.setIfInBounds_toArray, List.set_cons_zero, List.set_cons_succ]
        refine wpAnyX_take (i := 20) (v := .bool true) rfl (by kernel_rfl) (by kernel_rfl) (by kernel_rfl) (by kernel_rfl) (fun _ _ _ h => h) (Or.inl ⟨by rfl, fun w9 hSw => ?_⟩) hHeld ?_
        · go_simp
        simp only [List.getElem_toArray, List.getElem_cons_succ, List.getElem_cons_zero, Act.put, List.setIfInBounds_toArray, List.set_cons_zero, List.set_cons_succ]
        refine wpAnyX_take (i := 21) (v := .bool true) rfl (by kernel_rfl) (by kernel_rfl) (by kernel_rfl) (by kernel_rfl) (fun _ _ _ h => h) (Or.inl ⟨by rfl, fun w9 hSw => ?_⟩) hHeld ?_
        · go_simp
        simp only [List.getElem_toArray, List.getElem_cons_succ, List.getElem_cons_zero, Act.put, List.setIfInBounds_toArray, List.set_cons_zero, List.set_cons_succ]
        refine wpAnyX_done (by kernel_rfl) ?_ _
        have HB2 : Hid (Below w2.heap.size w2 wr.drew ∧ ∀ (j : Nat) (t9 : TM), N.tm[j]? = some t9 → j < k + 1 → t9.at_ = A0) := ⟨HJ.out.1.drew, fun j t8 hj hjk => by
          rcases Nat.lt_or_ge j k with h | h
          · exact HJ.out.2 j t8 hj h
          · obtain rfl : j = k := by omega
            rw [HAK.out.1] at hj
            injection hj with hj
            rw [← hj, ← HAK.out.2]
            exact HAA.out⟩
        clear HJ hHeld hS0
        generalize wr.drew = wq at HB2 ⊢
        go_wp2_with fail
        go_roundw
        case rel => exact ⟨k + 1, by omega, by go_num, HB2.out⟩
        case measure => simp [intOf]; omega
      · have hb9 : (AK == A0) = false := by simpa using hAA
        have HAA : Hid (¬ AK = A0) := hAA
        clear hAA
        go_wp2_with fail
        refine wp_region_X (fun _ => false) (S := fun w' => w'.cell? ⟨b, 4, none⟩ = some (.slice (some ⟨g, 0, none⟩) n tc) ∧ w'.cell? ⟨b, 2, none⟩ = some (.int .i64 A0) ∧ w'.cell? ⟨g, k * 3 + 2, none⟩ = some (.int .i64 AK)) (by kernel_rfl) hS0 (fun hHeld => ?_)
        refine wpAnyX_take (i := 0) (v := .int .i64 k) rfl (by kernel_rfl) (by kernel_rfl) (by kernel_rfl) (by kernel_rfl) (fun _ _ _ h => h) (Or.inl ⟨by rfl, fun w9 hSw => ?_⟩) hHeld ?_
        · go_simp
        simp only [List.getElem_toArray, List.getElem_cons_succ, List.getElem_cons_zero, Act.put, List.setIfInBounds_toArray, List.set_cons_zero, List.set_cons_succ]
        refine wpAnyX_take (i := 1) (v := .pointer (some ⟨b, 0, none⟩)) rfl (by kernel_rfl) (by kernel_rfl) (by kernel_rfl) (by kernel_rfl) (fun _ _ _ h => h) (Or.inl ⟨by rfl, fun w9 hSw => ?_⟩) hHeld ?_
        · go_simp
        simp only [List.getElem_toArray, List.getElem_cons_succ, List.getElem_cons_zero, Act.put, List.setIfInBounds_toArray, List.set_cons_zero, List.set_cons_succ]
        refine wpAnyX_take (i := 2) (v := .pointer (some ⟨b, 0, none⟩)) rfl (by kernel_rfl) (by kernel_rfl) (by kernel_rfl) (by kernel_rfl) (fun _ _ _ h => h) (Or.inl ⟨by rfl, fun w9 hSw => ?_⟩) hHeld ?_
        · go_simp
        simp only [List.getElem_toArray, List.getElem_cons_succ, List.getElem_cons_zero, Act.put, List.setIfInBounds_toArray, List.set_cons_zero, List.set_cons_succ]
        refine wpAnyX_take (i := 3) (v := .pointer (some ⟨b, 4, none⟩)) rfl (by kernel_rfl) (by kernel_rfl) (by kernel_rfl) (by kernel_rfl) (fun _ _ _ h => h) (Or.inl ⟨by rfl, fun w9 hSw => ?_⟩) hHeld ?_
        · go_simp
        simp only [List.getElem_toArray, List.getElem_cons_succ, List.getElem_cons_zero, Act.put, List.setIfInBounds_toArray, List.set_cons_zero, List.set_cons_succ]
        refine wpAnyX_take (i := 4) (v := .slice (some ⟨g, 0, none⟩) n tc) rfl (by kernel_rfl) (by kernel_rfl) (by kernel_rfl) (by kernel_rfl) (fun _ _ _ h => h) (Or.inl ⟨by rfl, fun w9 hSw => ?_⟩) hHeld ?_
        · obtain ⟨q4, q2, q5⟩ := hSw
          go_simp
        simp only [List.getElem_toArray, List.getElem_cons_succ, List.getElem_cons_zero, Act.put, List.setIfInBounds_toArray, List.set_cons_zero, List.set_cons_succ]
        refine wpAnyX_take (i := 5) (v := .int .i64 n) rfl (by kernel_rfl) (by kernel_rfl) (by kernel_rfl) (by kernel_rfl) (fun _ _ _ h => h) (Or.inl ⟨by rfl, fun w9 hSw => ?_⟩) hHeld ?_
        · go_simp
        simp only [List.getElem_toArray, List.getElem_cons_succ, List.getElem_cons_zero, Act.put, List.setIfInBounds_toArray, List.set_cons_zero, List.set_cons_succ]
        refine wpAnyX_take (i := 6) (v := .bool true) rfl (by kernel_rfl) (by kernel_rfl) (by kernel_rfl) (by kernel_rfl) (fun _ _ _ h => h) (Or.inl ⟨by rfl, fun w9 hSw => ?_⟩) hHeld ?_
        · go_simp
          try omega
        simp only [List.getElem_toArray, List.getElem_cons_succ, List.getElem_cons_zero, Act.put, List.setIfInBounds_toArray, List.set_cons_zero, List.set_cons_succ]
        refine wpAnyX_take (i := 7) (v := .bool true) rfl (by kernel_rfl) (by kernel_rfl) (by kernel_rfl) (by kernel_rfl) (fun _ _ _ h => h) (Or.inl ⟨by rfl, fun w9 hSw => ?_⟩) hHeld ?_
        · go_simp
        simp only [List.getElem_toArray, List.getElem_cons_succ, List.getElem_cons_zero, Act.put, List.setIfInBounds_toArray, List.set_cons_zero, List.set_cons_succ]
        refine wpAnyX_take (i := 8) (v := .pointer (some ⟨b, 0, none⟩)) rfl (by kernel_rfl) (by kernel_rfl) (by kernel_rfl) (by kernel_rfl) (fun _ _ _ h => h) (Or.inl ⟨by rfl, fun w9 hSw => ?_⟩) hHeld ?_
        · go_simp
        simp only [List.getElem_toArray, List.getElem_cons_succ, List.getElem_cons_zero, Act.put, List.setIfInBounds_toArray, List.set_cons_zero, List.set_cons_succ]
        refine wpAnyX_take (i := 9) (v := .pointer (some ⟨b, 0, none⟩)) rfl (by kernel_rfl) (by kernel_rfl) (by kernel_rfl) (by kernel_rfl) (fun _ _ _ h => h) (Or.inl ⟨by rfl, fun w9 hSw => ?_⟩) hHeld ?_
        · go_simp
        simp only [List.getElem_toArray, List.getElem_cons_succ, List.getElem_cons_zero, Act.put, List.setIfInBounds_toArray, List.set_cons_zero, List.set_cons_succ]
        refine wpAnyX_take (i := 10) (v := .pointer (some ⟨b, 4, none⟩)) rfl (by kernel_rfl) (by kernel_rfl) (by kernel_rfl) (by kernel_rfl) (fun _ _ _ h => h) (Or.inl ⟨by rfl, fun w9 hSw => ?_⟩) hHeld ?_
        · go_simp
        simp only [List.getElem_toArray, List.getElem_cons_succ, List.getElem_cons_zero, Act.put, List.setIfInBounds_toArray, List.set_cons_zero, List.set_cons_succ]
        refine wpAnyX_take (i := 11) (v := .slice (some ⟨g, 0, none⟩) n tc) rfl (by kernel_rfl) (by kernel_rfl) (by kernel_rfl) (by kernel_rfl) (fun _ _ _ h => h) (Or.inl ⟨by rfl, fun w9 hSw => ?_⟩) hHeld ?_
        · obtain ⟨q4, q2, q5⟩ := hSw
          go_simp
        simp only [List.getElem_toArray, List.getElem_cons_succ, List.getElem_cons_zero, Act.put, List.setIfInBounds_toArray, List.set_cons_zero, List.set_cons_succ]
        refine wpAnyX_take (i := 12) (v := .int .i64 k) rfl (by kernel_rfl) (by kernel_rfl) (by kernel_rfl) (by kernel_rfl) (fun _ _ _ h => h) (Or.inl ⟨by rfl, fun w9 hSw => ?_⟩) hHeld ?_
        · go_simp
        simp only [List.getElem_toArray, List.getElem_cons_succ, List.getElem_cons_zero, Act.put, List.setIfInBounds_toArray, List.set_cons_zero, List.set_cons_succ]
        refine wpAnyX_take (i := 13) (v := .pointer (some ⟨g, k * 3, none⟩)) rfl (by kernel_rfl) (by kernel_rfl) (by kernel_rfl) (by kernel_rfl) (fun _ _ _ h => h) (Or.inl ⟨by rfl, fun w9 hSw => ?_⟩) hHeld ?_
        · go_simp
        simp only [List.getElem_toArray, List.getElem_cons_succ, List.getElem_cons_zero, Act.put, List.setIfInBounds_toArray, List.set_cons_zero, List.set_cons_succ]
        refine wpAnyX_take (i := 14) (v := .pointer (some ⟨g, k * 3 + 2, none⟩)) rfl (by kernel_rfl) (by kernel_rfl) (by kernel_rfl) (by kernel_rfl) (fun _ _ _ h => h) (Or.inl ⟨by rfl, fun w9 hSw => ?_⟩) hHeld ?_
        · go_simp
        simp only [List.getElem_toArray, List.getElem_cons_succ, List.getElem_cons_zero, Act.put, List.setIfInBounds_toArray, List.set_cons_zero, List.set_cons_succ]
        refine wpAnyX_take (i := 15) (v := .int .i64 AK) rfl (by kernel_rfl) (by kernel_rfl) (by kernel_rfl) (by kernel_rfl) (fun _ _ _ h => h) (Or.inl ⟨by rfl, fun w9 hSw => ?_⟩) hHeld ?_
        · obtain ⟨q4, q2, q5⟩ := hSw
          go_simp
        simp only [List.getElem_toArray, List.getElem_cons_succ, List.getElem_cons_zero, Act.put, List.setIfInBounds_toArray, List.set_cons_zero, List.set_cons_succ]
        refine wpAnyX_take (i := 16) (v := .pointer (some ⟨b, 0, none⟩)) rfl (by kernel_rfl) (by kernel_rfl) (by kernel_rfl) (by kernel_rfl) (fun _ _ _ h => h) (Or.inl ⟨by rfl, fun w9 hSw => ?_⟩) hHeld ?_
        · go_simp
        simp only [List.getElem_toArray, List.getElem_cons_succ, List.getElem_cons_zero, Act.put, List.setIfInBounds_toArray, List.set_cons_zero, List.set_cons_succ]
        refine wpAnyX_take (i := 17) (v := .pointer (some ⟨b, 0, none⟩)) rfl (by kernel_rfl) (by kernel_rfl) (by kernel_rfl) (by kernel_rfl) (fun _ _ _ h => h) (Or.inl ⟨by rfl, fun w9 hSw => ?_⟩) hHeld ?_
        · go_simp
        simp only [List.getElem_toArray, List.getElem_cons_succ, List.getElem_cons_zero, Act.put, List.setIfInBounds_toArray, List.set_cons_zero, List.set_cons_succ]
        refine wpAnyX_take (i := 18) (v := .pointer (some ⟨b, 2, none⟩)) rfl (by kernel_rfl) (by kernel_rfl) (by kernel_rfl) (by kernel_rfl) (fun _ _ _ h => h) (Or.inl ⟨by rfl, fun w9 hSw => ?_⟩) hHeld ?_
        · go_simp
        simp only [List.getElem_toArray, List.getElem_cons_succ, List.getElem_cons_zero, Act.put, List.setIfInBounds_toArray, List.set_cons_zero, List.set_cons_succ]
        refine wpAnyX_take (i := 19) (v := .int .i64 A0) rfl (by kernel_rfl) (by kernel_rfl) (by kernel_rfl) (by kernel_rfl) (fun _ _ _ h => h) (Or.inl ⟨by rfl, fun w9 hSw => ?_⟩) hHeld ?_
        · obtain ⟨q4, q2, q5⟩ := hSw
          go_simp
        simp only [List.getElem_toArray, List.getElem_cons_succ, List.getElem_cons_zero, Act.put, List.setIfInBounds_toArray, List.set_cons_zero, List.set_cons_succ]
        refine wpAnyX_take (i := 20) (v := .bool false) rfl (by kernel_rfl) (by kernel_rfl) (by kernel_rfl) (by kernel_rfl) (fun _ _ _ h => h) (Or.inl ⟨by rfl, fun w9 hSw => ?_⟩) hHeld ?_
        · go_simp
        simp only [List.getElem_toArray, List.getElem_cons_succ, List.getElem_cons_zero, Act.put, List.setIfInBounds_toArray, List.set_cons_zero, List.set_cons_succ]
        refine wpAnyX_take (i := 21) (v := .bool false) rfl (by kernel_rfl) (by kernel_rfl) (by kernel_rfl) (by kernel_rfl) (fun _ _ _ h => h) (Or.inl ⟨by rfl, fun w9 hSw => ?_⟩) hHeld ?_
        · go_simp
        simp only [List.getElem_toArray, List.getElem_cons_succ, List.getElem_cons_zero, Act.put, List.setIfInBounds_toArray, List.set_cons_zero, List.set_cons_succ]
        refine wpAnyX_done (by kernel_rfl) ?_ _
        have HK : Hid (many N.tm = k) := many_eq HT.out.1 (by have := HS.out.2.2; omega) (fun j t8 hj hjk => by rw [← HT.out.2]; exact HJ.out.2 j t8 hj hjk) (fun t8 h8 => by
          rw [HAK.out.1] at h8
          injection h8 with h8
          rw [← h8, ← HAK.out.2, ← HT.out.2]
          exact HAA.out)
        have HB : Hid (Below w2.heap.size w2 wr.drew) := HJ.out.1.drew
        clear hHeld hS0 HJ HAK HAA hb9
        generalize wr.drew = wq at HB ⊢
        have c4 : wq.cell? ⟨b, 4, none⟩ = some (.slice (some ⟨g, 0, none⟩) n tc) := ((HS2.out.1.below HB.out).cells.2.2.2.2).trans (by show some N.tv = _; rw [HS.out.2.1])
        have z4 : wq.frozen? ⟨b, 4, none⟩ = false := (HS2.out.1.below HB.out).unfrozen 4
        have hbq : b < wq.heap.size := (HS2.out.1.below HB.out).lt
        have hcel : ∀ (w' : World), Below w2.heap.size w2 w' → ∀ j u, (tmL N.tm)[j]? = some u → w'.cell? ⟨g, j, none⟩ = some u := fun w' hb' j u hu => by
          have h9 := HS2.out.1.tm
          rw [show (rsetCk N A0).tv = .slice (some ⟨g, 0, none⟩) n tc from HS.out.2.1] at h9
          have h8 := h9.cells (g := g) rfl j u hu
          rw [Addr.add_lit, Nat.zero_add] at h8
          exact (hb'.cell (p := ⟨g, j, none⟩) (cell_lt h8)).trans h8
        have HC : Hid (∀ (w' : World), Below w2.heap.size w2 w' → ∀ j u, (tmL N.tm)[j]? = some u → w'.cell? ⟨g, j, none⟩ = some u) := hcel
        have hlk : (tmL N.tm).length = n * 3 := by rw [tmL_length, HS.out.2.2]
        have htk : n ≤ tc := htc
        clear hcel
        go_wp2_with (first
          | (at_builtin
             have hE := empty92 wq
             have hEb : Below wq.heap.size wq (wq.alloc (.cells #[] 92)) := (Below.refl _ wq).alloc (Nat.le_refl _) _
             have hB1 : Below w2.heap.size w2 (wq.alloc (.cells #[] 92)) := HB.out.trans (hEb.mono HB.out.size)
             have hs1 := HB.out.size
             refine elU.wpList_append rfl _ _ rfl 0 (.slice (some ⟨wq.heap.size, 0, none⟩) 0 0) 0 [] rfl hE (some ⟨g, 0, none⟩) k tc rfl ((tmL N.tm).take (k * 3)) (by rw [List.length_take, hlk]; omega) (fun _ => ⟨_, rfl, fun j u hu => by
               rw [Addr.add_lit, Nat.zero_add]
               rw [List.getElem?_take] at hu
               split at hu
               · exact HC.out _ hB1 j u hu
               · cases hu⟩) (fun e => by cases e) (fun u hu => tmL_one N.tm u (List.mem_of_mem_take hu)) (by omega) (Nat.zero_le _) ?_
             intro v6 w6 ho6 hg6 ha6
             rw [List.nil_append, Nat.zero_add] at ho6
             obtain ⟨v6a, v6c, rfl⟩ := row_form ho6
             have hB6 : Below w2.heap.size w2 w6 := hB1.grown hg6 hB1.size (fun jj hjj => by have h9 : wq.heap.size = jj := (by simpa [Value.ownBlock] using hjj); omega)
             have H6 : Hid (Below w2.heap.size w2 w6 ∧ w6.ownsRow 0 92 3 (.slice v6a k v6c) k ((tmL N.tm).take (k * 3)) ∧ (∀ x, (Value.slice v6a k v6c).ownBlock = some x → w2.heap.size ≤ x)) := ⟨hB6, ho6, fun x hx => by
               rcases ha6 with e | e
               · rw [e] at hx
                 have h9 : wq.heap.size = x := (by simpa [Value.ownBlock] using hx)
                 omega
               · rw [e] at hx
                 injection hx with hx
                 have := hB1.size
                 omega⟩
             have d4 : w6.cell? ⟨b, 4, none⟩ = some (.slice (some ⟨g, 0, none⟩) n tc) := ((HS2.out.1.below H6.out.1).cells.2.2.2.2).trans (by show some N.tv = _; rw [HS.out.2.1])
             have hb6 : b < w6.heap.size := (HS2.out.1.below H6.out.1).lt
             clear hE hEb hB1 hs1 ho6 hg6 ha6 hB6 HB c4 z4)
          | (at_builtin
             have hE := empty92 w6
             have hEb : Below w6.heap.size w6 (w6.alloc (.cells #[] 92)) := (Below.refl _ w6).alloc (Nat.le_refl _) _
             have hB1 : Below w2.heap.size w2 (w6.alloc (.cells #[] 92)) := H6.out.1.trans (hEb.mono H6.out.1.size)
             have hs1 := H6.out.1.size
             have hr1 := ownsRow_heap H6.out.2.1 (fun x hx => hEb.block x (H6.out.2.1.lt x hx).2)
             refine elU.wpList_append rfl _ _ rfl 0 (.slice (some ⟨w6.heap.size, 0, none⟩) 0 0) 0 [] rfl hE (some ⟨g, k * 3, none⟩) (n - k) (tc - k) rfl ((tmL N.tm).drop (k * 3)) (by rw [List.length_drop, hlk]; omega) (fun hpos => ⟨⟨g, k * 3, none⟩, rfl, fun j u hu => by
               rw [Addr.add_lit]
               rw [List.getElem?_drop] at hu
               exact HC.out _ hB1 _ u hu⟩) (fun e => by cases e) (fun u hu => tmL_one N.tm u (List.mem_of_mem_drop hu)) (by omega) (Nat.zero_le _) ?_
             intro v7 w7 ho7 hg7 ha7
             rw [List.nil_append, Nat.zero_add] at ho7
             obtain ⟨v7a, v7c, rfl⟩ := row_form ho7
             have hB7 : Below w2.heap.size w2 w7 := hB1.grown hg7 hB1.size (fun jj hjj => by have h9 : w6.heap.size = jj := (by simpa [Value.ownBlock] using hjj); omega)
             have hf7 : ∀ x, (Value.slice v7a (n - k) v7c).ownBlock = some x → w6.heap.size ≤ x := fun x hx => by
               rcases ha7 with e | e
               · rw [e] at hx
                 have h9 : w6.heap.size = x := (by simpa [Value.ownBlock] using hx)
                 omega
               · rw [e] at hx
                 injection hx with hx
                 have := hEb.size
                 omega
             have hk7 : ∀ x, x < w6.heap.size → w7.heap[x]? = w6.heap[x]? := fun x hx => (hg7.block x (by have := hEb.size; omega) (fun e => by have h9 : w6.heap.size = x := (by simpa [Value.ownBlock] using e.symm); omega)).trans (hEb.block x hx)
             have hld : (N.tm.drop k).length = n - k := by rw [List.length_drop]; have := HS.out.2.2; omega
             have hend := rsetT_end (v := .slice v7a (n - k) v7c) (l := N.tm.drop k) HS2.out.1 (gb_of_below hB7 _) (by rw [hld, tmL_drop]; exact ho7) (Or.inr (fun x hx => by have := hf7 x hx; omega))
             have hrow := ownsRow_heap H6.out.2.1 (fun x hx => hk7 x (H6.out.2.1.lt x hx).2)
             have hbz := HS2.out.1.lt
             have hrow2 : (w7.setCell ⟨b, 4, none⟩ (.slice v7a (n - k) v7c)).ownsRow 0 92 3 (.slice v6a k v6c) k ((tmL N.tm).take (k * 3)) := ownsRow_heap hrow (fun x hx => Below.heap_setCell _ _ _ _ (fun e => by have := H6.out.2.2 x hx; have e' : x = b := e; omega))
             have z7 : w7.frozen? ⟨b, 4, none⟩ = false := unfrozen_of_block ((hB7.block b hbz).trans HS2.out.1.net) 4
             have H7 : Hid (RIs (w7.setCell ⟨b, 4, none⟩ (.slice v7a (n - k) v7c)) b (rsetT (rsetCk N A0) (.slice v7a (n - k) v7c) (N.tm.drop k)) ∧ RFr w (w7.setCell ⟨b, 4, none⟩ (.slice v7a (n - k) v7c)) N (rsetT (rsetCk N A0) (.slice v7a (n - k) v7c) (N.tm.drop k)) ∧ (w7.setCell ⟨b, 4, none⟩ (.slice v7a (n - k) v7c)).ownsRow 0 92 3 (.slice v6a k v6c) k ((tmL N.tm).take (k * 3)) ∧ (∀ x, (Value.slice v6a k v6c).ownBlock = some x → w2.heap.size ≤ x ∧ (rsetT (rsetCk N A0) (.slice v7a (n - k) v7c) (N.tm.drop k)).own x = 0)) := ⟨hend.1, HS2.out.2.trans hend.2, hrow2, fun x hx => ⟨H6.out.2.2 x hx, by
               show (if (Value.slice v7a (n - k) v7c).ownBlock = some x then 4 else N.own x) = 0
               rw [if_neg (fun hc => by have h1 := hf7 x hc; have h2 := (H6.out.2.1.lt x hx).2; omega)]
               exact HS.out.1.fresh x (by have h1 := H6.out.2.2 x hx; have h2 := HS2.out.2.size; omega)⟩⟩
             have e4 : w7.cell? ⟨b, 4, none⟩ = some (.slice (some ⟨g, 0, none⟩) n tc) := ((HS2.out.1.below hB7).cells.2.2.2.2).trans (by show some N.tv = _; rw [HS.out.2.1])
             clear hE hEb hB1 hs1 hr1 ho7 hg7 ha7 hB7 hf7 hk7 hld hend hrow hrow2 hbz H6 d4))
        go_ret
        have hk9 := HK.out
        refine ⟨.slice v6a k v6c, _, rfl, ?_, H7.out.1, H7.out.2.1, ?_, fun x hx => (H7.out.2.2.2 x hx).2⟩
        · have hlt : (N.tm.take (many N.tm)).length = k := by rw [hk9, List.length_take]; have := HS.out.2.2; omega
          rw [hlt, hk9, tmL_take]
          have hsz := HS2.out.2.size
          have h1 := H7.out.2.2.1
          refine ⟨h1.1, ?_⟩
          rcases h1.2 with h | ⟨g8, cap, cur, e, _, r⟩
          · exact Or.inl h
          · exact Or.inr ⟨g8, cap, cur, e, Nat.le_trans hsz (H7.out.2.2.2 g8 (by rw [e]; rfl)).1, r⟩
        · rw [hk9]
          rfl
    · obtain rfl : n = k := by omega
      have HK : Hid (many N.tm = n) := many_eq HT.out.1 (by have := HS.out.2.2; omega) (fun j t8 hj hjk => by rw [← HT.out.2]; exact HJ.out.2 j t8 hj hjk) (fun t8 h8 => by have h7 := (List.getElem?_eq_some_iff.1 h8).1; have := HS.out.2.2; omega)
      clear hlt
      have hS0 : wr.cell? ⟨b, 4, none⟩ = some (.slice (some ⟨g, 0, none⟩) n tc) := d4
      clear d4 d2 hR
      go_wp2_with fail
      refine wp_region_X (fun _ => false) (S := fun w' => w'.cell? ⟨b, 4, none⟩ = some (.slice (some ⟨g, 0, none⟩) n tc)) (by kernel_rfl) hS0 (fun hHeld => ?_)
      refine wpAnyX_take (i := 0) (v := .int .i64 n) rfl (by kernel_rfl) (by kernel_rfl) (by kernel_rfl) (by kernel_rfl) (fun _ _ _ h => h) (Or.inl ⟨by rfl, fun w9 hSw => ?_⟩) hHeld ?_
      · go_simp
      simp only [List.getElem_toArray, List.getElem_cons_succ, List.getElem_cons_zero, Act.put, List.setIfInBounds_toArray, List.set_cons_zero, List.set_cons_succ]
      refine wpAnyX_take (i := 1) (v := .pointer (some ⟨b, 0, none⟩)) rfl (by kernel_rfl) (by kernel_rfl) (by kernel_rfl) (by kernel_rfl) (fun _ _ _ h => h) (Or.inl ⟨by rfl, fun w9 hSw => ?_⟩) hHeld ?_
      · go_simp
      simp only [List.getElem_toArray, List.getElem_cons_succ, List.getElem_cons_zero, Act.put, List.setIfInBounds_toArray, List.set_cons_zero, List.set_cons_succ]
      refine wpAnyX_take (i := 2) (v := .pointer (some ⟨b, 0, none⟩)) rfl (by kernel_rfl) (by kernel_rfl) (by kernel_rfl) (by kernel_rfl) (fun _ _ _ h => h) (Or.inl ⟨by rfl, fun w9 hSw => ?_⟩) hHeld ?_
      · go_simp
      simp only [List.getElem_toArray, List.getElem_cons_succ, List.getElem_cons_zero, Act.put, List.setIfInBounds_toArray, List.set_cons_zero, List.set_cons_succ]
      refine wpAnyX_take (i := 3) (v := .pointer (some ⟨b, 4, none⟩)) rfl (by kernel_rfl) (by kernel_rfl) (by kernel_rfl) (by kernel_rfl) (fun _ _ _ h => h) (Or.inl ⟨by rfl, fun w9 hSw => ?_⟩) hHeld ?_
      · go_simp
      simp only [List.getElem_toArray, List.getElem_cons_succ, List.getElem_cons_zero, Act.put, List.setIfInBounds_toArray, List.set_cons_zero, List.set_cons_succ]
      refine wpAnyX_take (i := 4) (v := .slice (some ⟨g, 0, none⟩) n tc) rfl (by kernel_rfl) (by kernel_rfl) (by kernel_rfl) (by kernel_rfl) (fun _ _ _ h => h) (Or.inl ⟨by rfl, fun w9 hSw => ?_⟩) hHeld ?_
      · have q4 : w9.cell? ⟨b, 4, none⟩ = some (.slice (some ⟨g, 0, none⟩) n tc) := hSw
        go_simp
      simp only [List.getElem_toArray, List.getElem_cons_succ, List.getElem_cons_zero, Act.put, List.setIfInBounds_toArray, List.set_cons_zero, List.set_cons_succ]
      refine wpAnyX_take (i := 5) (v := .int .i64 n) rfl (by kernel_rfl) (by kernel_rfl) (by kernel_rfl) (by kernel_rfl) (fun _ _ _ h => h) (Or.inl ⟨by rfl, fun w9 hSw => ?_⟩) hHeld ?_
      · go_simp
      simp only [List.getElem_toArray, List.getElem_cons_succ, List.getElem_cons_zero, Act.put, List.setIfInBounds_toArray, List.set_cons_zero, List.set_cons_succ]
      refine wpAnyX_take (i := 6) (v := .bool false) rfl (by kernel_rfl) (by kernel_rfl) (by kernel_rfl) (by kernel_rfl) (fun _ _ _ h => h) (Or.inl ⟨by rfl, fun w9 hSw => ?_⟩) hHeld ?_
      · go_simp
      simp only [List.getElem_toArray, List.getElem_cons_succ, List.getElem_cons_zero, Act.put, List.setIfInBounds_toArray, List.set_cons_zero, List.set_cons_succ]
      refine wpAnyX_take (i := 7) (v := .bool false) rfl (by kernel_rfl) (by kernel_rfl) (by kernel_rfl) (by kernel_rfl) (fun _ _ _ h => h) (Or.inl ⟨by rfl, fun w9 hSw => ?_⟩) hHeld ?_
      · go_simp
      simp only [List.getElem_toArray, List.getElem_cons_succ, List.getElem_cons_zero, Act.put, List.setIfInBounds_toArray, List.set_cons_zero, List.set_cons_succ]
      refine wpAnyX_take (i := 8) (v := undef) rfl (by kernel_rfl) (by kernel_rfl) (by kernel_rfl) (by kernel_rfl) (fun _ _ _ h => h) (Or.inr ⟨by rfl, rfl⟩) hHeld ?_
      simp only [List.getElem_toArray, List.getElem_cons_succ, List.getElem_cons_zero, Act.put, List.setIfInBounds_toArray, List.set_cons_zero, List.set_cons_succ]
      refine wpAnyX_take (i := 9) (v := undef) rfl (by kernel_rfl) (by kernel_rfl) (by kernel_rfl) (by kernel_rfl) (fun _ _ _ h => h) (Or.inr ⟨by rfl, rfl⟩) hHeld ?_
      simp only [List.getElem_toArray, List.getElem_cons_succ, List.getElem_cons_zero, Act.put, List.setIfInBounds_toArray, List.set_cons_zero, List.set_cons_succ]
      refine wpAnyX_take (i := 10) (v := undef) rfl (by kernel_rfl) (by kernel_rfl) (by kernel_rfl) (by kernel_rfl) (fun _ _ _ h => h) (Or.inr ⟨by rfl, rfl⟩) hHeld ?_
      simp only [List.getElem_toArray, List.getElem_cons_succ, List.getElem_cons_zero, Act.put, List.setIfInBounds_toArray, List.set_cons_zero, List.set_cons_succ]
      refine wpAnyX_take (i := 11) (v := undef) rfl (by kernel_rfl) (by kernel_rfl) (by kernel_rfl) (by kernel_rfl) (fun _ _ _ h => h) (Or.inr ⟨by rfl, rfl⟩) hHeld ?_
      simp only [List.getElem_toArray, List.getElem_cons_succ, List.getElem_cons_zero, Act.put, List.setIfInBounds_toArray, List.set_cons_zero, List.set_cons_succ]
      refine wpAnyX_take (i := 12) (v := undef) rfl (by kernel_rfl) (by kernel_rfl) (by kernel_rfl) (by kernel_rfl) (fun _ _ _ h => h) (Or.inr ⟨by rfl, rfl⟩) hHeld ?_
      simp only [List.getElem_toArray, List.getElem_cons_succ, List.getElem_cons_zero, Act.put, List.setIfInBounds_toArray, List.set_cons_zero, List.set_cons_succ]
      refine wpAnyX_take (i := 13) (v := undef) rfl (by kernel_rfl) (by kernel_rfl) (by kernel_rfl) (by kernel_rfl) (fun _ _ _ h => h) (Or.inr ⟨by rfl, rfl⟩) hHeld ?_
      simp only [List.getElem_toArray, List.getElem_cons_succ, List.getElem_cons_zero, Act.put, List.setIfInBounds_toArray, List.set_cons_zero, List.set_cons_succ]
      refine wpAnyX_take (i := 14) (v := undef) rfl (by kernel_rfl) (by kernel_rfl) (by kernel_rfl) (by kernel_rfl) (fun _ _ _ h => h) (Or.inr ⟨by rfl, rfl⟩) hHeld ?_
      simp only [List.getElem_toArray, List.getElem_cons_succ, List.getElem_cons_zero, Act.put, List.setIfInBounds_toArray, List.set_cons_zero, List.set_cons_succ]
      refine wpAnyX_take (i := 15) (v := undef) rfl (by kernel_rfl) (by kernel_rfl) (by kernel_rfl) (by kernel_rfl) (fun _ _ _ h => h) (Or.inr ⟨by rfl, rfl⟩) hHeld ?_
      simp only [List.getElem_toArray, List.getElem_cons_succ, List.getElem_cons_zero, Act.put, List.setIfInBounds_toArray, List.set_cons_zero, List.set_cons_succ]
      refine wpAnyX_take (i := 16) (v := undef) rfl (by kernel_rfl) (by kernel_rfl) (by kernel_rfl) (by kernel_rfl) (fun _ _ _ h => h) (Or.inr ⟨by rfl, rfl⟩) hHeld ?_
      simp only [List.getElem_toArray, List.getElem_cons_succ, List.getElem_cons_zero, Act.put, List.setIfInBounds_toArray, List.set_cons_zero, List.set_cons_succ]
      refine wpAnyX_take (i := 17) (v := undef) rfl (by kernel_rfl) (by kernel_rfl) (by kernel_rfl) (by kernel_rfl) (fun _ _ _ h => h) (Or.inr ⟨by rfl, rfl⟩) hHeld ?_
      simp only [List.getElem_toArray, List.getElem_cons_succ, List.getElem_cons_zero, Act.put, List.setIfInBounds_toArray, List.set_cons_zero, List.set_cons_succ]
      refine wpAnyX_take (i := 18) (v := undef) rfl (by kernel_rfl) (by kernel_rfl) (by kernel_rfl) (by kernel_rfl) (fun _ _ _ h => h) (Or.inr ⟨by rfl, rfl⟩) hHeld ?_
      simp only [List.getElem_toArray, List.getElem_cons_succ, List.getElem_cons_zero, Act.put, List.setIfInBounds_toArray, List.set_cons_zero, List.set_cons_succ]
      refine wpAnyX_take (i := 19) (v := undef) rfl (by kernel_rfl) (by kernel_rfl) (by kernel_rfl) (by kernel_rfl) (fun _ _ _ h => h) (Or.inr ⟨by rfl, rfl⟩) hHeld ?_
      simp only [List.getElem_toArray, List.getElem_cons_succ, List.getElem_cons_zero, Act.put, List.setIfInBounds_toArray, List.set_cons_zero, List.set_cons_succ]
      refine wpAnyX_take (i := 20) (v := undef) rfl (by kernel_rfl) (by kernel_rfl) (by kernel_rfl) (by kernel_rfl) (fun _ _ _ h => h) (Or.inr ⟨by rfl, rfl⟩) hHeld ?_
      simp only [List.getElem_toArray, List.getElem_cons_succ, List.getElem_cons_zero, Act.put, List.setIfInBounds_toArray, List.set_cons_zero, List.set_cons_succ]
      refine wpAnyX_take (i := 21) (v := .bool false) rfl (by kernel_rfl) (by kernel_rfl) (by kernel_rfl) (by kernel_rfl) (fun _ _ _ h => h) (Or.inl ⟨by rfl, fun w9 hSw => ?_⟩) hHeld ?_
      · go_simp
      simp only [List.getElem_toArray, List.getElem_cons_succ, List.getElem_cons_zero, Act.put, List.setIfInBounds_toArray, List.set_cons_zero, List.set_cons_succ]
      refine wpAnyX_done (by kernel_rfl) ?_ _
      have HB : Hid (Below w2.heap.size w2 wr.drew) := HJ.out.1.drew
      clear hHeld hS0 HJ
      generalize wr.drew = wq at HB ⊢
      have c4 : wq.cell? ⟨b, 4, none⟩ = some (.slice (some ⟨g, 0, none⟩) n tc) := ((HS2.out.1.below HB.out).cells.2.2.2.2).trans (by show some N.tv = _; rw [HS.out.2.1])
      have z4 : wq.frozen? ⟨b, 4, none⟩ = false := (HS2.out.1.below HB.out).unfrozen 4
      have hbq : b < wq.heap.size := (HS2.out.1.below HB.out).lt
      have hcel : ∀ (w' : World), Below w2.heap.size w2 w' → ∀ j u, (tmL N.tm)[j]? = some u → w'.cell? ⟨g, j, none⟩ = some u := fun w' hb' j u hu => by
        have h9 := HS2.out.1.tm
        rw [show (rsetCk N A0).tv = .slice (some ⟨g, 0, none⟩) n tc from HS.out.2.1] at h9
        have h8 := h9.cells (g := g) rfl j u hu
        rw [Addr.add_lit, Nat.zero_add] at h8
        exact (hb'.cell (p := ⟨g, j, none⟩) (cell_lt h8)).trans h8
      have HC : Hid (∀ (w' : World), Below w2.heap.size w2 w' → ∀ j u, (tmL N.tm)[j]? = some u → w'.cell? ⟨g, j, none⟩ = some u) := hcel
      have hlk : (tmL N.tm).length = n * 3 := by rw [tmL_length, HS.out.2.2]
      have htk : n ≤ tc := htc
      clear hcel
      go_wp2_with (first
        | (at_builtin
           have hE := empty92 wq
           have hEb : Below wq.heap.size wq (wq.alloc (.cells #[] 92)) := (Below.refl _ wq).alloc (Nat.le_refl _) _
           have hB1 : Below w2.heap.size w2 (wq.alloc (.cells #[] 92)) := HB.out.trans (hEb.mono HB.out.size)
           have hs1 := HB.out.size
           refine elU.wpList_append rfl _ _ rfl 0 (.slice (some ⟨wq.heap.size, 0, none⟩) 0 0) 0 [] rfl hE (some ⟨g, 0, none⟩) n tc rfl ((tmL N.tm).take (n * 3)) (by rw [List.length_take, hlk]; omega) (fun _ => ⟨_, rfl, fun j u hu => by
             rw [Addr.add_lit, Nat.zero_add]
             rw [List.getElem?_take] at hu
             split at hu
             · exact HC.out _ hB1 j u hu
             · cases hu⟩) (fun e => by cases e) (fun u hu => tmL_one N.tm u (List.mem_of_mem_take hu)) (by omega) (Nat.zero_le _) ?_
           intro v6 w6 ho6 hg6 ha6
           rw [List.nil_append, Nat.zero_add] at ho6
           obtain ⟨v6a, v6c, rfl⟩ := row_form ho6
           have hB6 : Below w2.heap.size w2 w6 := hB1.grown hg6 hB1.size (fun jj hjj => by have h9 : wq.heap.size = jj := (by simpa [Value.ownBlock] using hjj); omega)
           have H6 : Hid (Below w2.heap.size w2 w6 ∧ w6.ownsRow 0 92 3 (.slice v6a n v6c) n ((tmL N.tm).take (n * 3)) ∧ (∀ x, (Value.slice v6a n v6c).ownBlock = some x → w2.heap.size ≤ x)) := ⟨hB6, ho6, fun x hx => by
             rcases ha6 with e | e
             · rw [e] at hx
               have h9 : wq.heap.size = x := (by simpa [Value.ownBlock] using hx)
               omega
             · rw [e] at hx
               injection hx with hx
               have := hB1.size
               omega⟩
           have d4 : w6.cell? ⟨b, 4, none⟩ = some (.slice (some ⟨g, 0, none⟩) n tc) := ((HS2.out.1.below H6.out.1).cells.2.2.2.2).trans (by show some N.tv = _; rw [HS.out.2.1])
           have hb6 : b < w6.heap.size := (HS2.out.1.below H6.out.1).lt
           clear hE hEb hB1 hs1 ho6 hg6 ha6 hB6 HB c4 z4)
        | (at_builtin
           have hE := empty92 w6
           have hEb : Below w6.heap.size w6 (w6.alloc (.cells #[] 92)) := (Below.refl _ w6).alloc (Nat.le_refl _) _
           have hB1 : Below w2.heap.size w2 (w6.alloc (.cells #[] 92)) := H6.out.1.trans (hEb.mono H6.out.1.size)
           have hs1 := H6.out.1.size
           have hr1 := ownsRow_heap H6.out.2.1 (fun x hx => hEb.block x (H6.out.2.1.lt x hx).2)
           refine elU.wpList_append rfl _ _ rfl 0 (.slice (some ⟨w6.heap.size, 0, none⟩) 0 0) 0 [] rfl hE (if tc = n then some ⟨g, 0, none⟩ else some ⟨g, n * 3, none⟩) 0 (tc - n) rfl ((tmL N.tm).drop (n * 3)) (by rw [List.length_drop, hlk]; omega) (fun hpos => absurd hpos (by omega)) (fun e => by split at e <;> cases e) (fun u hu => tmL_one N.tm u (List.mem_of_mem_drop hu)) (by omega) (Nat.zero_le _) ?_
           intro v7 w7 ho7 hg7 ha7
           rw [List.nil_append, Nat.zero_add] at ho7
           obtain ⟨v7a, v7c, rfl⟩ := row_form ho7
           have hB7 : Below w2.heap.size w2 w7 := hB1.grown hg7 hB1.size (fun jj hjj => by have h9 : w6.heap.size = jj := (by simpa [Value.ownBlock] using hjj); omega)
           have hf7 : ∀ x, (Value.slice v7a 0 v7c).ownBlock = some x → w6.heap.size ≤ x := fun x hx => by
             rcases ha7 with e | e
             · rw [e] at hx
               have h9 : w6.heap.size = x := (by simpa [Value.ownBlock] using hx)
               omega
             · rw [e] at hx
               injection hx with hx
               have := hEb.size
               omega
           have hk7 : ∀ x, x < w6.heap.size → w7.heap[x]? = w6.heap[x]? := fun x hx => (hg7.block x (by have := hEb.size; omega) (fun e => by have h9 : w6.heap.size = x := (by simpa [Value.ownBlock] using e.symm); omega)).trans (hEb.block x hx)
           have hld : (N.tm.drop n).length = 0 := by rw [List.length_drop]; have := HS.out.2.2; omega
           have hend := rsetT_end (v := .slice v7a 0 v7c) (l := N.tm.drop n) HS2.out.1 (gb_of_below hB7 _) (by rw [hld, tmL_drop]; exact ho7) (Or.inr (fun x hx => by have := hf7 x hx; omega))
           have hrow := ownsRow_heap H6.out.2.1 (fun x hx => hk7 x (H6.out.2.1.lt x hx).2)
           have hbz := HS2.out.1.lt
           have hrow2 : (w7.setCell ⟨b, 4, none⟩ (.slice v7a 0 v7c)).ownsRow 0 92 3 (.slice v6a n v6c) n ((tmL N.tm).take (n * 3)) := ownsRow_heap hrow (fun x hx => Below.heap_setCell _ _ _ _ (fun e => by have := H6.out.2.2 x hx; have e' : x = b := e; omega))
           have z7 : w7.frozen? ⟨b, 4, none⟩ = false := unfrozen_of_block ((hB7.block b hbz).trans HS2.out.1.net) 4
           have H7 : Hid (RIs (w7.setCell ⟨b, 4, none⟩ (.slice v7a 0 v7c)) b (rsetT (rsetCk N A0) (.slice v7a 0 v7c) (N.tm.drop n)) ∧ RFr w (w7.setCell ⟨b, 4, none⟩ (.slice v7a 0 v7c)) N (rsetT (rsetCk N A0) (.slice v7a 0 v7c) (N.tm.drop n)) ∧ (w7.setCell ⟨b, 4, none⟩ (.slice v7a 0 v7c)).ownsRow 0 92 3 (.slice v6a n v6c) n ((tmL N.tm).take (n * 3)) ∧ (∀ x, (Value.slice v6a n v6c).ownBlock = some x → w2.heap.size ≤ x ∧ (rsetT (rsetCk N A0) (.slice v7a 0 v7c) (N.tm.drop n)).own x = 0)) := ⟨hend.1, HS2.out.2.trans hend.2, hrow2, fun x hx => ⟨H6.out.2.2 x hx, by
             show (if (Value.slice v7a 0 v7c).ownBlock = some x then 4 else N.own x) = 0
             rw [if_neg (fun hc => by have h1 := hf7 x hc; have h2 := (H6.out.2.1.lt x hx).2; omega)]
             exact HS.out.1.fresh x (by have h1 := H6.out.2.2 x hx; have h2 := HS2.out.2.size; omega)⟩⟩
           have e4 : w7.cell? ⟨b, 4, none⟩ = some (.slice (some ⟨g, 0, none⟩) n tc) := ((HS2.out.1.below hB7).cells.2.2.2.2).trans (by show some N.tv = _; rw [HS.out.2.1])
           clear hE hEb hB1 hs1 hr1 ho7 hg7 ha7 hB7 hf7 hk7 hld hend hrow hrow2 hbz H6 d4))
      all_goals
        go_ret
        have hk9 := HK.out
        refine ⟨.slice v6a n v6c, _, rfl, ?_, H7.out.1, H7.out.2.1, ?_, fun x hx => (H7.out.2.2.2 x hx).2⟩
        · have hlt : (N.tm.take (many N.tm)).length = n := by rw [hk9, List.length_take]; have := HS.out.2.2; omega
          rw [hlt, hk9, tmL_take]
          have hsz := HS2.out.2.size
          have h1 := H7.out.2.2.1
          refine ⟨h1.1, ?_⟩
          rcases h1.2 with h | ⟨g8, cap, cur, e, _, r⟩
          · exact Or.inl h
          · exact Or.inr ⟨g8, cap, cur, e, Nat.le_trans hsz (H7.out.2.2.2 g8 (by rw [e]; rfl)).1, r⟩
        · rw [hk9]
          rfl
end Go.Proofs.Ytemapnfbmhjlbaa
