/- net: NetPlays, the walk. -/
import Derived.Test.YtemapnfbmhjlbaaQZ
import Derived.Deep.Cut
import Derived.Deep.CutBlock
import Derived.Deep.CutRange
import Derived.Deep.DeepCutAuto
namespace Go.Proofs.Ytemapnfbmhjlbaa
open Go.RowKit Go.Maps Go.Joins
set_option linter.unusedSimpArgs false
set_option linter.unusedVariables false
set_option maxRecDepth 100000 in
set_option maxHeartbeats 64000000 in
/-- NetPlays of a number of nodes that is one. -/
theorem plays_yes {w : World} (n : Int) (h1 : 1 ≤ n) (h2 : n ≤ 16) (sa : Option Addr) (m sc : Nat) (hm : m ≤ 4611686018427387000) (hops : ∀ k, k < m → ∃ g o, sa = some ⟨g, o, none⟩ ∧ OpAt w g (o + k * 5)) :
    Calls Try.prog 3 #[.int .i64 n, .slice sa m sc] w fun e w' => e = .returned (.bool true) ∧ Below w.heap.size w w' := by
  have HN : Hid _ := New_ok (w := w) n h1 h2
  have HR : Hid (∀ w : World, Calls Try.prog 9 #[.int .i64 n] w fun e w' => e = .returned (.pointer (some ⟨w.heap.size, 0, none⟩)) ∧ RIs w' w.heap.size (newR w.heap.size n) ∧ Below w.heap.size w w') := fun w => rNew_ok n h1 h2
  have HO : Hid (m ≤ 4611686018427387000 ∧ ∀ k, k < m → ∃ g o, sa = some ⟨g, o, none⟩ ∧ OpAt w g (o + k * 5)) := ⟨hm, hops⟩
  clear hops h1 h2 hm
  go_enter Try.func3, Try.ntmps3
  go_wp2_with (first
    | (go_at_call 8; refine Calls.mono HN.out ?_; rintro e w1 ⟨rfl, hn, hb⟩; have H1 : Hid (NetIs w1 w.heap.size (newN w.heap.size n) ∧ Below w.heap.size w w1) := ⟨hn, hb⟩; clear hn hb HN)
    | (go_at_call 9; refine Calls.mono (HR.out _) ?_; rintro e w2 ⟨rfl, hr, hb⟩; have H2 : Hid (Tw w w2 w.heap.size w1.heap.size (newN w.heap.size n) (newR w1.heap.size n) (A0 n) 0) := Tw.start H1.out.1 H1.out.2 hr hb; clear hr hb HR H1; generalize w1.heap.size = c at H2 ⊢; generalize newN w.heap.size n = N0 at H2 ⊢; generalize newR c n = R0 at H2 ⊢; obtain ⟨b, hb⟩ : ∃ b, b = w.heap.size := ⟨_, rfl⟩; rw [← hb] at H2 ⊢; clear hb)
    | (go_at_call 10; refine (alive_any _).mono ?_; rintro e w3 ⟨rfl, hb⟩; have H3 : Hid (Tw w w3 b c N0 R0 (A0 n) 0) := H2.out.below hb; clear hb H2))
  go_loopw [8] (fun i wr => ∃ k : Nat, k ≤ m ∧ i = .int .i64 k ∧ ∃ N R A, Hid (Tw w wr b c N R A k)) (fun i _ => m - (intOf i).toNat)
  case atStart => exact ⟨0, Nat.zero_le _, rfl, _, _, _, H3.out⟩
  case round =>
    clear H3
    obtain ⟨k, hk, rfl, N, R, A, HT⟩ := hrel
    by_cases hlt : k < m
    · obtain ⟨g, o, rfl, kd, x, y, z, va, vc, bs, hcell, hbs, h63⟩ := HO.out.2 k hlt
      have hki : (k : Int) < m := by omega
      have c0 : wr.cell? ⟨g, o + k * 5, none⟩ = some (.int .i64 kd) := bel_kept HT.out.lo.bel (hcell 0 _ rfl)
      have c1 : wr.cell? ⟨g, o + k * 5 + 1, none⟩ = some (.int .i64 x) := bel_kept HT.out.lo.bel (hcell 1 _ rfl)
      have c2 : wr.cell? ⟨g, o + k * 5 + 2, none⟩ = some (.int .i64 y) := bel_kept HT.out.lo.bel (hcell 2 _ rfl)
      have c3 : wr.cell? ⟨g, o + k * 5 + 3, none⟩ = some (.int .i64 z) := bel_kept HT.out.lo.bel (hcell 3 _ rfl)
      have c4 : wr.cell? ⟨g, o + k * 5 + 4, none⟩ = some (.slice va bs.length vc) := bel_kept HT.out.lo.bel (hcell 4 _ rfl)
      have HK : Hid (BytesV w (.slice va bs.length vc) bs ∧ bs.length ≤ 9223372036854775807 ∧ k < m ∧ (k : Int) + 1 ≤ 4611686018427387904) := ⟨hbs, h63, hlt, by have := HO.out.1; omega⟩
      clear hcell hbs h63 hlt
      go_upto_block 2 with fail
      have hbx := HT.out.boxed #[.int .i64 kd, .int .i64 x, .int .i64 y, .int .i64 z, .slice va bs.length vc]
      clear c0 c1 c2 c3 c4 HT
      generalize wr.alloc (.cells #[.int .i64 kd, .int .i64 x, .int .i64 y, .int .i64 z, .slice va bs.length vc] 32) = wb at hbx ⊢
      generalize wr.heap.size = xb at hbx ⊢
      have HB : Hid (Tw w wb b c N R A k ∧ Bx wb N R xb #[.int .i64 kd, .int .i64 x, .int .i64 y, .int .i64 z, .slice va bs.length vc]) := hbx
      clear hbx
      go_cut [10, 11] (fun s10 s11 wx => ∃ (e : Int) (N : NS) (R : RS) (A : NA), s10 = .int .i64 e ∧ s11 = .int .i64 e ∧ Hid (Tw w wx b c N R A ((k : Int) + 1)))
      case first =>
        rcases (show kd = 1 ∨ kd = 2 ∨ kd = 3 ∨ kd = 4 ∨ kd = 5 ∨ kd = 6 ∨ (¬ kd = 1 ∧ ¬ kd = 2 ∧ ¬ kd = 3 ∧ ¬ kd = 4 ∧ ¬ kd = 5 ∧ ¬ kd = 6) by omega) with rfl | rfl | rfl | rfl | rfl | rfl | ⟨n1, n2, n3, n4, n5, n6⟩
        · have e1 : wb.cell? ⟨xb, 1, none⟩ = some (.int .i64 x) := HB.out.2.cell 1 _ rfl
          go_wp2_with fail
          have HBd : Hid (Tw w wb.drew b c N R A k ∧ Bx wb.drew N R xb #[.int .i64 1, .int .i64 x, .int .i64 y, .int .i64 z, .slice va bs.length vc]) := ⟨HB.out.1.below (Below.refl _ wb).drew, HB.out.2.nfr (NFr.below (Below.refl _ wb).drew)⟩
          refine wp_region_X (fun _ => false) (S := fun w' => w'.heap[xb]? = some (.cells #[.int .i64 1, .int .i64 x, .int .i64 y, .int .i64 z, .slice va bs.length vc] 32)) (by kernel_rfl) HB.out.2.at_ (fun hHeld => ?_)
          clear HB
          have HB := HBd
          clear HBd
          generalize wb.drew = wb at HB hHeld ⊢
          refine wpAnyX_take (i := 0) (v := .pointer (some ⟨b, 0, none⟩)) rfl (by kernel_rfl) (by kernel_rfl) (by kernel_rfl) (by kernel_rfl) (fun _ _ _ h => h) (Or.inl ⟨by rfl, fun w9 hSw => ?_⟩) hHeld ?_
          · go_simp
          simp only [List.getElem_toArray, List.getElem_cons_succ, List.getElem_cons_zero, Act.put, List.setIfInBounds_toArray, List.set_cons_zero, List.set_cons_succ]
          refine wpAnyX_take (i := 1) (v := .pointer (some ⟨xb, 1, none⟩)) rfl (by kernel_rfl) (by kernel_rfl) (by kernel_rfl) (by kernel_rfl) (fun _ _ _ h => h) (Or.inl ⟨by rfl, fun w9 hSw => ?_⟩) hHeld ?_
          · go_simp
          simp only [List.getElem_toArray, List.getElem_cons_succ, List.getElem_cons_zero, Act.put, List.setIfInBounds_toArray, List.set_cons_zero, List.set_cons_succ]
          refine wpAnyX_take (i := 2) (v := .int .i64 x) rfl (by kernel_rfl) (by kernel_rfl) (by kernel_rfl) (by kernel_rfl) (fun _ _ _ h => h) (Or.inl ⟨by rfl, fun w9 hSw => ?_⟩) hHeld ?_
          · have hc : w9.cell? ⟨xb, 1, none⟩ = some (.int .i64 x) := by rw [cell_of_block hSw]; rfl
            go_simp
          simp only [List.getElem_toArray, List.getElem_cons_succ, List.getElem_cons_zero, Act.put, List.setIfInBounds_toArray, List.set_cons_zero, List.set_cons_succ]
          refine wpAnyX_take (i := 3) (v := .pointer (some ⟨xb, 2, none⟩)) rfl (by kernel_rfl) (by kernel_rfl) (by kernel_rfl) (by kernel_rfl) (fun _ _ _ h => h) (Or.inl ⟨by rfl, fun w9 hSw => ?_⟩) hHeld ?_
          · go_simp
          simp only [List.getElem_toArray, List.getElem_cons_succ, List.getElem_cons_zero, Act.put, List.setIfInBounds_toArray, List.set_cons_zero, List.set_cons_succ]
          refine wpAnyX_take (i := 4) (v := .int .i64 y) rfl (by kernel_rfl) (by kernel_rfl) (by kernel_rfl) (by kernel_rfl) (fun _ _ _ h => h) (Or.inl ⟨by rfl, fun w9 hSw => ?_⟩) hHeld ?_
          · have hc : w9.cell? ⟨xb, 2, none⟩ = some (.int .i64 y) := by rw [cell_of_block hSw]; rfl
            go_simp
          simp only [List.getElem_toArray, List.getElem_cons_succ, List.getElem_cons_zero, Act.put, List.setIfInBounds_toArray, List.set_cons_zero, List.set_cons_succ]
          refine wpAnyX_take (i := 5) (v := .pointer (some ⟨xb, 4, none⟩)) rfl (by kernel_rfl) (by kernel_rfl) (by kernel_rfl) (by kernel_rfl) (fun _ _ _ h => h) (Or.inl ⟨by rfl, fun w9 hSw => ?_⟩) hHeld ?_
          · go_simp
          simp only [List.getElem_toArray, List.getElem_cons_succ, List.getElem_cons_zero, Act.put, List.setIfInBounds_toArray, List.set_cons_zero, List.set_cons_succ]
          refine wpAnyX_take (i := 6) (v := .slice va bs.length vc) rfl (by kernel_rfl) (by kernel_rfl) (by kernel_rfl) (by kernel_rfl) (fun _ _ _ h => h) (Or.inl ⟨by rfl, fun w9 hSw => ?_⟩) hHeld ?_
          · have hc : w9.cell? ⟨xb, 4, none⟩ = some (.slice va bs.length vc) := by rw [cell_of_block hSw]; rfl
            go_simp
          simp only [List.getElem_toArray, List.getElem_cons_succ, List.getElem_cons_zero, Act.put, List.setIfInBounds_toArray, List.set_cons_zero, List.set_cons_succ]
          refine wpAnyX_take (i := 8) (v := .pointer (some ⟨c, 0, none⟩)) rfl (by kernel_rfl) (by kernel_rfl) (by kernel_rfl) (by kernel_rfl) (fun _ _ _ h => h) (Or.inl ⟨by rfl, fun w9 hSw => ?_⟩) hHeld ?_
          · go_simp
          simp only [List.getElem_toArray, List.getElem_cons_succ, List.getElem_cons_zero, Act.put, List.setIfInBounds_toArray, List.set_cons_zero, List.set_cons_succ]
          refine wpAnyX_take (i := 9) (v := .pointer (some ⟨xb, 1, none⟩)) rfl (by kernel_rfl) (by kernel_rfl) (by kernel_rfl) (by kernel_rfl) (fun _ _ _ h => h) (Or.inl ⟨by rfl, fun w9 hSw => ?_⟩) hHeld ?_
          · go_simp
          simp only [List.getElem_toArray, List.getElem_cons_succ, List.getElem_cons_zero, Act.put, List.setIfInBounds_toArray, List.set_cons_zero, List.set_cons_succ]
          refine wpAnyX_take (i := 10) (v := .int .i64 x) rfl (by kernel_rfl) (by kernel_rfl) (by kernel_rfl) (by kernel_rfl) (fun _ _ _ h => h) (Or.inl ⟨by rfl, fun w9 hSw => ?_⟩) hHeld ?_
          · have hc : w9.cell? ⟨xb, 1, none⟩ = some (.int .i64 x) := by rw [cell_of_block hSw]; rfl
            go_simp
          simp only [List.getElem_toArray, List.getElem_cons_succ, List.getElem_cons_zero, Act.put, List.setIfInBounds_toArray, List.set_cons_zero, List.set_cons_succ]
          refine wpAnyX_take (i := 11) (v := .pointer (some ⟨xb, 2, none⟩)) rfl (by kernel_rfl) (by kernel_rfl) (by kernel_rfl) (by kernel_rfl) (fun _ _ _ h => h) (Or.inl ⟨by rfl, fun w9 hSw => ?_⟩) hHeld ?_
          · go_simp
          simp only [List.getElem_toArray, List.getElem_cons_succ, List.getElem_cons_zero, Act.put, List.setIfInBounds_toArray, List.set_cons_zero, List.set_cons_succ]
          refine wpAnyX_take (i := 12) (v := .int .i64 y) rfl (by kernel_rfl) (by kernel_rfl) (by kernel_rfl) (by kernel_rfl) (fun _ _ _ h => h) (Or.inl ⟨by rfl, fun w9 hSw => ?_⟩) hHeld ?_
          · have hc : w9.cell? ⟨xb, 2, none⟩ = some (.int .i64 y) := by rw [cell_of_block hSw]; rfl
            go_simp
          simp only [List.getElem_toArray, List.getElem_cons_succ, List.getElem_cons_zero, Act.put, List.setIfInBounds_toArray, List.set_cons_zero, List.set_cons_succ]
          refine wpAnyX_take (i := 13) (v := .pointer (some ⟨xb, 4, none⟩)) rfl (by kernel_rfl) (by kernel_rfl) (by kernel_rfl) (by kernel_rfl) (fun _ _ _ h => h) (Or.inl ⟨by rfl, fun w9 hSw => ?_⟩) hHeld ?_
          · go_simp
          simp only [List.getElem_toArray, List.getElem_cons_succ, List.getElem_cons_zero, Act.put, List.setIfInBounds_toArray, List.set_cons_zero, List.set_cons_succ]
          refine wpAnyX_take (i := 14) (v := .slice va bs.length vc) rfl (by kernel_rfl) (by kernel_rfl) (by kernel_rfl) (by kernel_rfl) (fun _ _ _ h => h) (Or.inl ⟨by rfl, fun w9 hSw => ?_⟩) hHeld ?_
          · have hc : w9.cell? ⟨xb, 4, none⟩ = some (.slice va bs.length vc) := by rw [cell_of_block hSw]; rfl
            go_simp
          simp only [List.getElem_toArray, List.getElem_cons_succ, List.getElem_cons_zero, Act.put, List.setIfInBounds_toArray, List.set_cons_zero, List.set_cons_succ]
          refine wpAnyX_one (i := 7) (by kernel_rfl) rfl (by rfl) (fun K hK => ?_)
          go_simp
          refine Calls.mono (HB.out.1.sendP (by have := HK.out.2.2.2; omega) x y (.slice va bs.length vc) bs (HB.out.1.bytes HK.out.1)) ?_
          rintro e w4 ⟨rfl, N4, h4, f4⟩
          have b4 := HB.out.2.nfr f4
          have H4 : Hid (Hf w w4 b c N4 R A (nSend A x y bs).2 k ∧ Bx w4 N4 R xb #[.int .i64 1, .int .i64 x, .int .i64 y, .int .i64 z, .slice va bs.length vc]) := ⟨h4, b4⟩
          have hS4 := b4.at_
          clear h4 f4 b4 HB
          go_wp2_with fail
          refine hK.out _ _ (Or.inr hS4) ?_
          clear hK K
          try simp only [List.getElem_toArray, List.getElem_cons_succ, List.getElem_cons_zero, Act.put, List.setIfInBounds_toArray, List.set_cons_zero, List.set_cons_succ]
          clear hHeld
          have hHeld := hS4
          clear hS4
          refine wpAnyX_one (i := 15) (by kernel_rfl) rfl (by rfl) (fun K hK => ?_)
          go_simp
          refine Calls.mono (H4.out.1.sendD (by have := HK.out.2.2.2; omega) (.slice va bs.length vc) (H4.out.1.bytes HK.out.1) HK.out.2.1) ?_
          rintro e w5 ⟨rfl, R5, h5, f5⟩
          have b5 := H4.out.2.rfr f5
          have H5 : Hid (Tw w w5 b c N4 R5 (nSend A x y bs).2 ((k : Int) + 1)) := h5
          have hS5 := b5.at_
          clear h5 f5 b5 H4
          go_wp2_with fail
          refine hK.out _ _ (Or.inr hS5) ?_
          clear hK K
          try simp only [List.getElem_toArray, List.getElem_cons_succ, List.getElem_cons_zero, Act.put, List.setIfInBounds_toArray, List.set_cons_zero, List.set_cons_succ]
          clear hHeld
          have hHeld := hS5
          clear hS5
          refine wpAnyX_take (i := 16) (v := .int .i64 (nSend A x y bs).1) rfl (by kernel_rfl) (by kernel_rfl) (by kernel_rfl) (by kernel_rfl) (fun _ _ _ h => h) (Or.inl ⟨by rfl, fun w9 hSw => ?_⟩) hHeld ?_
          · go_simp
          simp only [List.getElem_toArray, List.getElem_cons_succ, List.getElem_cons_zero, Act.put, List.setIfInBounds_toArray, List.set_cons_zero, List.set_cons_succ]
          refine wpAnyX_take (i := 17) (v := .int .i64 (nSend A x y bs).1) rfl (by kernel_rfl) (by kernel_rfl) (by kernel_rfl) (by kernel_rfl) (fun _ _ _ h => h) (Or.inl ⟨by rfl, fun w9 hSw => ?_⟩) hHeld ?_
          · go_simp
          simp only [List.getElem_toArray, List.getElem_cons_succ, List.getElem_cons_zero, Act.put, List.setIfInBounds_toArray, List.set_cons_zero, List.set_cons_succ]
          refine wpAnyX_done (by kernel_rfl) ?_ _
          clear hHeld
          go_wp2_with fail
          go_meet
          exact ⟨_, _, _, _, rfl, rfl, H5.out⟩
        · have e1 : wb.cell? ⟨xb, 1, none⟩ = some (.int .i64 x) := HB.out.2.cell 1 _ rfl
          go_upto_region 17 with (
            go_at_call 13
            refine Calls.mono (HB.out.1.takeP (by have := HK.out.2.2.2; omega) x) ?_
            rintro e w4 ⟨q, rfl, hq, hd, hr0, N4, h4, f4⟩
            have b4 := HB.out.2.nfr f4
            obtain ⟨qi, qf, qt, qd, qb⟩ := q
            simp only at hd hr0 ⊢
            obtain ⟨qa, qc, rfl⟩ := hd.form
            have H4 : Hid (Hf w w4 b c N4 R A (nTake A x).2.2 k ∧ Bx w4 N4 R xb #[.int .i64 2, .int .i64 x, .int .i64 y, .int .i64 z, .slice va bs.length vc] ∧ BytesV w4 (.slice qa qb.length qc) qb ∧ (∀ y, dBlock (.slice qa qb.length qc) qb.length = some y → R.own y = 0) ∧ (qi, qf, qt, qb) = (nTake A x).2.1) := ⟨h4, b4, hd, hr0, hq⟩
            clear h4 f4 b4 hd hr0 hq HB e1)
          have hbw : Below w4.heap.size w4 (w4.alloc (.cells #[.int .i64 qi, .int .i64 qf, .int .i64 qt, .slice qa qb.length qc] 35)) := (Below.refl _ w4).alloc (Nat.le_refl _) _
          have hal := heap_alloc_new w4 (.cells #[.int .i64 qi, .int .i64 qf, .int .i64 qt, .slice qa qb.length qc] 35)
          have H5 : Hid (Hf w (w4.alloc (.cells #[.int .i64 qi, .int .i64 qf, .int .i64 qt, .slice qa qb.length qc] 35)) b c N4 R A (nTake A x).2.2 k ∧ Bx (w4.alloc (.cells #[.int .i64 qi, .int .i64 qf, .int .i64 qt, .slice qa qb.length qc] 35)) N4 R xb #[.int .i64 2, .int .i64 x, .int .i64 y, .int .i64 z, .slice va bs.length vc] ∧ BytesV (w4.alloc (.cells #[.int .i64 qi, .int .i64 qf, .int .i64 qt, .slice qa qb.length qc] 35)) (.slice qa qb.length qc) qb ∧ (w4.alloc (.cells #[.int .i64 qi, .int .i64 qf, .int .i64 qt, .slice qa qb.length qc] 35)).heap[w4.heap.size]? = some (.cells #[.int .i64 qi, .int .i64 qf, .int .i64 qt, .slice qa qb.length qc] 35) ∧ R.own w4.heap.size = 0) := ⟨H4.out.1.below hbw, H4.out.2.1.nfr (NFr.below hbw), H4.out.2.2.1.below hbw, hal, H4.out.1.sd.ref.fresh _ (Nat.le_refl _)⟩
          have HQ : Hid ((∀ y, dBlock (.slice qa qb.length qc) qb.length = some y → R.own y = 0) ∧ (qi, qf, qt, qb) = (nTake A x).2.1) := H4.out.2.2.2
          clear hbw hal H4
          generalize w4.alloc (.cells #[.int .i64 qi, .int .i64 qf, .int .i64 qt, .slice qa qb.length qc] 35) = w5 at H5 ⊢
          generalize w4.heap.size = y1 at H5 ⊢
          have e1 : w5.cell? ⟨xb, 1, none⟩ = some (.int .i64 x) := H5.out.2.1.cell 1 _ rfl
          go_upto_region 18 with (
            go_at_call 14
            refine Calls.mono (H5.out.1.takeD (by have := HK.out.2.2.2; omega)) ?_
            rintro e w6 ⟨q, rfl, hq, hd, R6, h6, f6⟩
            obtain ⟨pi, pf, pt, pd, pb⟩ := q
            have hq2 := hq.trans HQ.out.2.symm
            simp only [pkA, Prod.mk.injEq] at hq2
            obtain ⟨rfl, rfl, rfl, rfl⟩ := hq2
            simp only at hd ⊢
            obtain ⟨pa, pc, rfl⟩ := hd.form
            have H6 : Hid (Tw w w6 b c N4 R6 (nTake A x).2.2 k ∧ BytesV w6 (.slice qa pb.length qc) pb ∧ BytesV w6 (.slice pa pb.length pc) pb ∧ w6.heap[y1]? = some (.cells #[.int .i64 pi, .int .i64 pf, .int .i64 pt, .slice qa pb.length qc] 35)) := ⟨h6, f6.bytes H5.out.2.2.1 HQ.out.1, hd, (f6.block y1 (heap_lt H5.out.2.2.2.1) H5.out.2.2.2.2).trans H5.out.2.2.2.1⟩
            clear h6 f6 hd hq H5 HQ e1)
          have hbw : Below w6.heap.size w6 (w6.alloc (.cells #[.int .i64 pi, .int .i64 pf, .int .i64 pt, .slice pa pb.length pc] 38)) := (Below.refl _ w6).alloc (Nat.le_refl _) _
          have hal := heap_alloc_new w6 (.cells #[.int .i64 pi, .int .i64 pf, .int .i64 pt, .slice pa pb.length pc] 38)
          have H7 : Hid (Tw w (w6.alloc (.cells #[.int .i64 pi, .int .i64 pf, .int .i64 pt, .slice pa pb.length pc] 38)) b c N4 R6 (nTake A x).2.2 k ∧ BytesV (w6.alloc (.cells #[.int .i64 pi, .int .i64 pf, .int .i64 pt, .slice pa pb.length pc] 38)) (.slice qa pb.length qc) pb ∧ BytesV (w6.alloc (.cells #[.int .i64 pi, .int .i64 pf, .int .i64 pt, .slice pa pb.length pc] 38)) (.slice pa pb.length pc) pb ∧ (w6.alloc (.cells #[.int .i64 pi, .int .i64 pf, .int .i64 pt, .slice pa pb.length pc] 38)).heap[y1]? = some (.cells #[.int .i64 pi, .int .i64 pf, .int .i64 pt, .slice qa pb.length qc] 35)) := ⟨H6.out.1.below hbw, H6.out.2.1.below hbw, H6.out.2.2.1.below hbw, (hbw.block y1 (heap_lt H6.out.2.2.2)).trans H6.out.2.2.2⟩
          clear hbw H6
          generalize w6.alloc (.cells #[.int .i64 pi, .int .i64 pf, .int .i64 pt, .slice pa pb.length pc] 38) = w7 at H7 hal ⊢
          generalize w6.heap.size = y2 at hal ⊢
          obtain ⟨i0, i1, i2, i3⟩ := box4 H7.out.2.2.2
          obtain ⟨j0, j1, j2, j3⟩ := box4 hal
          clear hal
          go_wp2_with (
            go_at_call 15
            refine Calls.mono (samePk_any _ _ _ _ _ _ H7.out.2.1 H7.out.2.2.1) ?_
            rintro e w8 ⟨rfl, hb8⟩
            have H8 : Hid (Tw w w8 b c N4 R6 (nTake A x).2.2 ((k : Int) + 1)) := (H7.out.1.below hb8).up (by omega)
            clear hb8 H7 i0 i1 i2 i3 j0 j1 j2 j3)
          go_meet
          exact ⟨_, _, _, _, rfl, rfl, H8.out⟩
        · have e1 : wb.cell? ⟨xb, 1, none⟩ = some (.int .i64 x) := HB.out.2.cell 1 _ rfl
          go_wp2_with fail
          have HBd : Hid (Tw w wb.drew b c N R A k ∧ Bx wb.drew N R xb #[.int .i64 3, .int .i64 x, .int .i64 y, .int .i64 z, .slice va bs.length vc]) := ⟨HB.out.1.below (Below.refl _ wb).drew, HB.out.2.nfr (NFr.below (Below.refl _ wb).drew)⟩
          refine wp_region_X (fun _ => false) (S := fun w' => w'.heap[xb]? = some (.cells #[.int .i64 3, .int .i64 x, .int .i64 y, .int .i64 z, .slice va bs.length vc] 32)) (by kernel_rfl) HB.out.2.at_ (fun hHeld => ?_)
          clear HB
          have HB := HBd
          clear HBd
          generalize wb.drew = wb at HB hHeld ⊢
          refine wpAnyX_take (i := 0) (v := .pointer (some ⟨b, 0, none⟩)) rfl (by kernel_rfl) (by kernel_rfl) (by kernel_rfl) (by kernel_rfl) (fun _ _ _ h => h) (Or.inl ⟨by rfl, fun w9 hSw => ?_⟩) hHeld ?_
          · go_simp
          simp only [List.getElem_toArray, List.getElem_cons_succ, List.getElem_cons_zero, Act.put, List.setIfInBounds_toArray, List.set_cons_zero, List.set_cons_succ]
          refine wpAnyX_take (i := 1) (v := .pointer (some ⟨xb, 1, none⟩)) rfl (by kernel_rfl) (by kernel_rfl) (by kernel_rfl) (by kernel_rfl) (fun _ _ _ h => h) (Or.inl ⟨by rfl, fun w9 hSw => ?_⟩) hHeld ?_
          · go_simp
          simp only [List.getElem_toArray, List.getElem_cons_succ, List.getElem_cons_zero, Act.put, List.setIfInBounds_toArray, List.set_cons_zero, List.set_cons_succ]
          refine wpAnyX_take (i := 2) (v := .int .i64 x) rfl (by kernel_rfl) (by kernel_rfl) (by kernel_rfl) (by kernel_rfl) (fun _ _ _ h => h) (Or.inl ⟨by rfl, fun w9 hSw => ?_⟩) hHeld ?_
          · have hc : w9.cell? ⟨xb, 1, none⟩ = some (.int .i64 x) := by rw [cell_of_block hSw]; rfl
            go_simp
          simp only [List.getElem_toArray, List.getElem_cons_succ, List.getElem_cons_zero, Act.put, List.setIfInBounds_toArray, List.set_cons_zero, List.set_cons_succ]
          refine wpAnyX_take (i := 4) (v := .pointer (some ⟨c, 0, none⟩)) rfl (by kernel_rfl) (by kernel_rfl) (by kernel_rfl) (by kernel_rfl) (fun _ _ _ h => h) (Or.inl ⟨by rfl, fun w9 hSw => ?_⟩) hHeld ?_
          · go_simp
          simp only [List.getElem_toArray, List.getElem_cons_succ, List.getElem_cons_zero, Act.put, List.setIfInBounds_toArray, List.set_cons_zero, List.set_cons_succ]
          refine wpAnyX_take (i := 5) (v := .pointer (some ⟨xb, 1, none⟩)) rfl (by kernel_rfl) (by kernel_rfl) (by kernel_rfl) (by kernel_rfl) (fun _ _ _ h => h) (Or.inl ⟨by rfl, fun w9 hSw => ?_⟩) hHeld ?_
          · go_simp
          simp only [List.getElem_toArray, List.getElem_cons_succ, List.getElem_cons_zero, Act.put, List.setIfInBounds_toArray, List.set_cons_zero, List.set_cons_succ]
          refine wpAnyX_take (i := 6) (v := .int .i64 x) rfl (by kernel_rfl) (by kernel_rfl) (by kernel_rfl) (by kernel_rfl) (fun _ _ _ h => h) (Or.inl ⟨by rfl, fun w9 hSw => ?_⟩) hHeld ?_
          · have hc : w9.cell? ⟨xb, 1, none⟩ = some (.int .i64 x) := by rw [cell_of_block hSw]; rfl
            go_simp
          simp only [List.getElem_toArray, List.getElem_cons_succ, List.getElem_cons_zero, Act.put, List.setIfInBounds_toArray, List.set_cons_zero, List.set_cons_succ]
          refine wpAnyX_one (i := 3) (by kernel_rfl) rfl (by rfl) (fun K hK => ?_)
          go_simp
          refine Calls.mono (HB.out.1.copyP (by have := HK.out.2.2.2; omega) x) ?_
          rintro e w4 ⟨rfl, N4, h4, f4⟩
          have b4 := HB.out.2.nfr f4
          have H4 : Hid (Hf w w4 b c N4 R A (nCopy A x).2 k ∧ Bx w4 N4 R xb #[.int .i64 3, .int .i64 x, .int .i64 y, .int .i64 z, .slice va bs.length vc]) := ⟨h4, b4⟩
          have hS4 := b4.at_
          clear h4 f4 b4 HB
          go_wp2_with fail
          refine hK.out _ _ (Or.inr hS4) ?_
          clear hK K
          try simp only [List.getElem_toArray, List.getElem_cons_succ, List.getElem_cons_zero, Act.put, List.setIfInBounds_toArray, List.set_cons_zero, List.set_cons_succ]
          clear hHeld
          have hHeld := hS4
          clear hS4
          refine wpAnyX_one (i := 7) (by kernel_rfl) rfl (by rfl) (fun K hK => ?_)
          go_simp
          refine Calls.mono (H4.out.1.copyD (by have := HK.out.2.2.2; omega)) ?_
          rintro e w5 ⟨rfl, R5, h5, f5⟩
          have b5 := H4.out.2.rfr f5
          have H5 : Hid (Tw w w5 b c N4 R5 (nCopy A x).2 ((k : Int) + 1)) := h5
          have hS5 := b5.at_
          clear h5 f5 b5 H4
          go_wp2_with fail
          refine hK.out _ _ (Or.inr hS5) ?_
          clear hK K
          try simp only [List.getElem_toArray, List.getElem_cons_succ, List.getElem_cons_zero, Act.put, List.setIfInBounds_toArray, List.set_cons_zero, List.set_cons_succ]
          clear hHeld
          have hHeld := hS5
          clear hS5
          refine wpAnyX_take (i := 8) (v := .int .i64 (nCopy A x).1) rfl (by kernel_rfl) (by kernel_rfl) (by kernel_rfl) (by kernel_rfl) (fun _ _ _ h => h) (Or.inl ⟨by rfl, fun w9 hSw => ?_⟩) hHeld ?_
          · go_simp
          simp only [List.getElem_toArray, List.getElem_cons_succ, List.getElem_cons_zero, Act.put, List.setIfInBounds_toArray, List.set_cons_zero, List.set_cons_succ]
          refine wpAnyX_take (i := 9) (v := .int .i64 (nCopy A x).1) rfl (by kernel_rfl) (by kernel_rfl) (by kernel_rfl) (by kernel_rfl) (fun _ _ _ h => h) (Or.inl ⟨by rfl, fun w9 hSw => ?_⟩) hHeld ?_
          · go_simp
          simp only [List.getElem_toArray, List.getElem_cons_succ, List.getElem_cons_zero, Act.put, List.setIfInBounds_toArray, List.set_cons_zero, List.set_cons_succ]
          refine wpAnyX_done (by kernel_rfl) ?_ _
          clear hHeld
          go_wp2_with fail
          go_meet
          exact ⟨_, _, _, _, rfl, rfl, H5.out⟩
        · have e1 : wb.cell? ⟨xb, 1, none⟩ = some (.int .i64 x) := HB.out.2.cell 1 _ rfl
          go_wp2_with fail
          have HBd : Hid (Tw w wb.drew b c N R A k ∧ Bx wb.drew N R xb #[.int .i64 4, .int .i64 x, .int .i64 y, .int .i64 z, .slice va bs.length vc]) := ⟨HB.out.1.below (Below.refl _ wb).drew, HB.out.2.nfr (NFr.below (Below.refl _ wb).drew)⟩
          refine wp_region_X (fun _ => false) (S := fun w' => w'.heap[xb]? = some (.cells #[.int .i64 4, .int .i64 x, .int .i64 y, .int .i64 z, .slice va bs.length vc] 32)) (by kernel_rfl) HB.out.2.at_ (fun hHeld => ?_)
          clear HB
          have HB := HBd
          clear HBd
          generalize wb.drew = wb at HB hHeld ⊢
          refine wpAnyX_take (i := 0) (v := .pointer (some ⟨b, 0, none⟩)) rfl (by kernel_rfl) (by kernel_rfl) (by kernel_rfl) (by kernel_rfl) (fun _ _ _ h => h) (Or.inl ⟨by rfl, fun w9 hSw => ?_⟩) hHeld ?_
          · go_simp
          simp only [List.getElem_toArray, List.getElem_cons_succ, List.getElem_cons_zero, Act.put, List.setIfInBounds_toArray, List.set_cons_zero, List.set_cons_succ]
          refine wpAnyX_take (i := 1) (v := .pointer (some ⟨xb, 1, none⟩)) rfl (by kernel_rfl) (by kernel_rfl) (by kernel_rfl) (by kernel_rfl) (fun _ _ _ h => h) (Or.inl ⟨by rfl, fun w9 hSw => ?_⟩) hHeld ?_
          · go_simp
          simp only [List.getElem_toArray, List.getElem_cons_succ, List.getElem_cons_zero, Act.put, List.setIfInBounds_toArray, List.set_cons_zero, List.set_cons_succ]
          refine wpAnyX_take (i := 2) (v := .int .i64 x) rfl (by kernel_rfl) (by kernel_rfl) (by kernel_rfl) (by kernel_rfl) (fun _ _ _ h => h) (Or.inl ⟨by rfl, fun w9 hSw => ?_⟩) hHeld ?_
          · have hc : w9.cell? ⟨xb, 1, none⟩ = some (.int .i64 x) := by rw [cell_of_block hSw]; rfl
            go_simp
          simp only [List.getElem_toArray, List.getElem_cons_succ, List.getElem_cons_zero, Act.put, List.setIfInBounds_toArray, List.set_cons_zero, List.set_cons_succ]
          refine wpAnyX_take (i := 3) (v := .pointer (some ⟨xb, 2, none⟩)) rfl (by kernel_rfl) (by kernel_rfl) (by kernel_rfl) (by kernel_rfl) (fun _ _ _ h => h) (Or.inl ⟨by rfl, fun w9 hSw => ?_⟩) hHeld ?_
          · go_simp
          simp only [List.getElem_toArray, List.getElem_cons_succ, List.getElem_cons_zero, Act.put, List.setIfInBounds_toArray, List.set_cons_zero, List.set_cons_succ]
          refine wpAnyX_take (i := 4) (v := .int .i64 y) rfl (by kernel_rfl) (by kernel_rfl) (by kernel_rfl) (by kernel_rfl) (fun _ _ _ h => h) (Or.inl ⟨by rfl, fun w9 hSw => ?_⟩) hHeld ?_
          · have hc : w9.cell? ⟨xb, 2, none⟩ = some (.int .i64 y) := by rw [cell_of_block hSw]; rfl
            go_simp
          simp only [List.getElem_toArray, List.getElem_cons_succ, List.getElem_cons_zero, Act.put, List.setIfInBounds_toArray, List.set_cons_zero, List.set_cons_succ]
          refine wpAnyX_take (i := 5) (v := .pointer (some ⟨xb, 3, none⟩)) rfl (by kernel_rfl) (by kernel_rfl) (by kernel_rfl) (by kernel_rfl) (fun _ _ _ h => h) (Or.inl ⟨by rfl, fun w9 hSw => ?_⟩) hHeld ?_
          · go_simp
          simp only [List.getElem_toArray, List.getElem_cons_succ, List.getElem_cons_zero, Act.put, List.setIfInBounds_toArray, List.set_cons_zero, List.set_cons_succ]
          refine wpAnyX_take (i := 6) (v := .int .i64 z) rfl (by kernel_rfl) (by kernel_rfl) (by kernel_rfl) (by kernel_rfl) (fun _ _ _ h => h) (Or.inl ⟨by rfl, fun w9 hSw => ?_⟩) hHeld ?_
          · have hc : w9.cell? ⟨xb, 3, none⟩ = some (.int .i64 z) := by rw [cell_of_block hSw]; rfl
            go_simp
          simp only [List.getElem_toArray, List.getElem_cons_succ, List.getElem_cons_zero, Act.put, List.setIfInBounds_toArray, List.set_cons_zero, List.set_cons_succ]
          refine wpAnyX_take (i := 8) (v := .pointer (some ⟨c, 0, none⟩)) rfl (by kernel_rfl) (by kernel_rfl) (by kernel_rfl) (by kernel_rfl) (fun _ _ _ h => h) (Or.inl ⟨by rfl, fun w9 hSw => ?_⟩) hHeld ?_
          · go_simp
          simp only [List.getElem_toArray, List.getElem_cons_succ, List.getElem_cons_zero, Act.put, List.setIfInBounds_toArray, List.set_cons_zero, List.set_cons_succ]
          refine wpAnyX_take (i := 9) (v := .pointer (some ⟨xb, 1, none⟩)) rfl (by kernel_rfl) (by kernel_rfl) (by kernel_rfl) (by kernel_rfl) (fun _ _ _ h => h) (Or.inl ⟨by rfl, fun w9 hSw => ?_⟩) hHeld ?_
          · go_simp
          simp only [List.getElem_toArray, List.getElem_cons_succ, List.getElem_cons_zero, Act.put, List.setIfInBounds_toArray, List.set_cons_zero, List.set_cons_succ]
          refine wpAnyX_take (i := 10) (v := .int .i64 x) rfl (by kernel_rfl) (by kernel_rfl) (by kernel_rfl) (by kernel_rfl) (fun _ _ _ h => h) (Or.inl ⟨by rfl, fun w9 hSw => ?_⟩) hHeld ?_
          · have hc : w9.cell? ⟨xb, 1, none⟩ = some (.int .i64 x) := by rw [cell_of_block hSw]; rfl
            go_simp
          simp only [List.getElem_toArray, List.getElem_cons_succ, List.getElem_cons_zero, Act.put, List.setIfInBounds_toArray, List.set_cons_zero, List.set_cons_succ]
          refine wpAnyX_take (i := 11) (v := .pointer (some ⟨xb, 2, none⟩)) rfl (by kernel_rfl) (by kernel_rfl) (by kernel_rfl) (by kernel_rfl) (fun _ _ _ h => h) (Or.inl ⟨by rfl, fun w9 hSw => ?_⟩) hHeld ?_
          · go_simp
          simp only [List.getElem_toArray, List.getElem_cons_succ, List.getElem_cons_zero, Act.put, List.setIfInBounds_toArray, List.set_cons_zero, List.set_cons_succ]
          refine wpAnyX_take (i := 12) (v := .int .i64 y) rfl (by kernel_rfl) (by kernel_rfl) (by kernel_rfl) (by kernel_rfl) (fun _ _ _ h => h) (Or.inl ⟨by rfl, fun w9 hSw => ?_⟩) hHeld ?_
          · have hc : w9.cell? ⟨xb, 2, none⟩ = some (.int .i64 y) := by rw [cell_of_block hSw]; rfl
            go_simp
          simp only [List.getElem_toArray, List.getElem_cons_succ, List.getElem_cons_zero, Act.put, List.setIfInBounds_toArray, List.set_cons_zero, List.set_cons_succ]
          refine wpAnyX_take (i := 13) (v := .pointer (some ⟨xb, 3, none⟩)) rfl (by kernel_rfl) (by kernel_rfl) (by kernel_rfl) (by kernel_rfl) (fun _ _ _ h => h) (Or.inl ⟨by rfl, fun w9 hSw => ?_⟩) hHeld ?_
          · go_simp
          simp only [List.getElem_toArray, List.getElem_cons_succ, List.getElem_cons_zero, Act.put, List.setIfInBounds_toArray, List.set_cons_zero, List.set_cons_succ]
          refine wpAnyX_take (i := 14) (v := .int .i64 z) rfl (by kernel_rfl) (by kernel_rfl) (by kernel_rfl) (by kernel_rfl) (fun _ _ _ h => h) (Or.inl ⟨by rfl, fun w9 hSw => ?_⟩) hHeld ?_
          · have hc : w9.cell? ⟨xb, 3, none⟩ = some (.int .i64 z) := by rw [cell_of_block hSw]; rfl
            go_simp
          simp only [List.getElem_toArray, List.getElem_cons_succ, List.getElem_cons_zero, Act.put, List.setIfInBounds_toArray, List.set_cons_zero, List.set_cons_succ]
          refine wpAnyX_one (i := 7) (by kernel_rfl) rfl (by rfl) (fun K hK => ?_)
          go_simp
          refine Calls.mono (HB.out.1.setP (by have := HK.out.2.2.2; omega) x y z) ?_
          rintro e w4 ⟨rfl, N4, h4, f4⟩
          have b4 := HB.out.2.nfr f4
          have H4 : Hid (Hf w w4 b c N4 R A (nSet A x y z).2 k ∧ Bx w4 N4 R xb #[.int .i64 4, .int .i64 x, .int .i64 y, .int .i64 z, .slice va bs.length vc]) := ⟨h4, b4⟩
          have hS4 := b4.at_
          clear h4 f4 b4 HB
          go_wp2_with fail
          refine hK.out _ _ (Or.inr hS4) ?_
          clear hK K
          try simp only [List.getElem_toArray, List.getElem_cons_succ, List.getElem_cons_zero, Act.put, List.setIfInBounds_toArray, List.set_cons_zero, List.set_cons_succ]
          clear hHeld
          have hHeld := hS4
          clear hS4
          refine wpAnyX_one (i := 15) (by kernel_rfl) rfl (by rfl) (fun K hK => ?_)
          go_simp
          refine Calls.mono (H4.out.1.setD (by have := HK.out.2.2.2; omega)) ?_
          rintro e w5 ⟨rfl, R5, h5, f5⟩
          have b5 := H4.out.2.rfr f5
          have H5 : Hid (Tw w w5 b c N4 R5 (nSet A x y z).2 ((k : Int) + 1)) := h5.up (by omega)
          have hS5 := b5.at_
          clear h5 f5 b5 H4
          go_wp2_with fail
          refine hK.out _ _ (Or.inr hS5) ?_
          clear hK K
          try simp only [List.getElem_toArray, List.getElem_cons_succ, List.getElem_cons_zero, Act.put, List.setIfInBounds_toArray, List.set_cons_zero, List.set_cons_succ]
          clear hHeld
          have hHeld := hS5
          clear hS5
          refine wpAnyX_take (i := 16) (v := .int .i64 (nSet A x y z).1) rfl (by kernel_rfl) (by kernel_rfl) (by kernel_rfl) (by kernel_rfl) (fun _ _ _ h => h) (Or.inl ⟨by rfl, fun w9 hSw => ?_⟩) hHeld ?_
          · go_simp
          simp only [List.getElem_toArray, List.getElem_cons_succ, List.getElem_cons_zero, Act.put, List.setIfInBounds_toArray, List.set_cons_zero, List.set_cons_succ]
          refine wpAnyX_take (i := 17) (v := .int .i64 (nSet A x y z).1) rfl (by kernel_rfl) (by kernel_rfl) (by kernel_rfl) (by kernel_rfl) (fun _ _ _ h => h) (Or.inl ⟨by rfl, fun w9 hSw => ?_⟩) hHeld ?_
          · go_simp
          simp only [List.getElem_toArray, List.getElem_cons_succ, List.getElem_cons_zero, Act.put, List.setIfInBounds_toArray, List.set_cons_zero, List.set_cons_succ]
          refine wpAnyX_done (by kernel_rfl) ?_ _
          clear hHeld
          go_wp2_with fail
          go_meet
          exact ⟨_, _, _, _, rfl, rfl, H5.out⟩
        · have e1 : wb.cell? ⟨xb, 1, none⟩ = some (.int .i64 x) := HB.out.2.cell 1 _ rfl
          go_upto_region 27 with (
            go_at_call 20
            refine Calls.mono (HB.out.1.clearP (by have := HK.out.2.2.2; omega) x) ?_
            rintro e w4 ⟨rfl, N4, h4, f4⟩
            have b4 := HB.out.2.nfr f4
            have H4 : Hid (Hf w w4 b c N4 R A (nClear A x) k) := h4
            have i1 : w4.cell? ⟨xb, 1, none⟩ = some (.int .i64 x) := b4.cell 1 _ rfl
            clear h4 f4 b4 HB e1)
          go_wp2_with (
            go_at_call 21
            refine Calls.mono (H4.out.clearD (by have := HK.out.2.2.2; omega)) ?_
            rintro e w5 ⟨rfl, R5, h5, f5⟩
            have H5 : Hid (Tw w w5 b c N4 R5 (nClear A x) ((k : Int) + 1)) := h5.up (by omega)
            clear h5 f5 H4 i1)
          go_meet
          exact ⟨0, _, _, _, rfl, rfl, H5.out⟩
        · have e1 : wb.cell? ⟨xb, 1, none⟩ = some (.int .i64 x) := HB.out.2.cell 1 _ rfl
          go_wp2_with fail
          have HBd : Hid (Tw w wb.drew b c N R A k ∧ Bx wb.drew N R xb #[.int .i64 6, .int .i64 x, .int .i64 y, .int .i64 z, .slice va bs.length vc]) := ⟨HB.out.1.below (Below.refl _ wb).drew, HB.out.2.nfr (NFr.below (Below.refl _ wb).drew)⟩
          refine wp_region_X (fun _ => false) (S := fun w' => w'.heap[xb]? = some (.cells #[.int .i64 6, .int .i64 x, .int .i64 y, .int .i64 z, .slice va bs.length vc] 32)) (by kernel_rfl) HB.out.2.at_ (fun hHeld => ?_)
          clear HB
          have HB := HBd
          clear HBd
          generalize wb.drew = wb at HB hHeld ⊢
          refine wpAnyX_take (i := 0) (v := .pointer (some ⟨b, 0, none⟩)) rfl (by kernel_rfl) (by kernel_rfl) (by kernel_rfl) (by kernel_rfl) (fun _ _ _ h => h) (Or.inl ⟨by rfl, fun w9 hSw => ?_⟩) hHeld ?_
          · go_simp
          simp only [List.getElem_toArray, List.getElem_cons_succ, List.getElem_cons_zero, Act.put, List.setIfInBounds_toArray, List.set_cons_zero, List.set_cons_succ]
          refine wpAnyX_take (i := 1) (v := .pointer (some ⟨xb, 1, none⟩)) rfl (by kernel_rfl) (by kernel_rfl) (by kernel_rfl) (by kernel_rfl) (fun _ _ _ h => h) (Or.inl ⟨by rfl, fun w9 hSw => ?_⟩) hHeld ?_
          · go_simp
          simp only [List.getElem_toArray, List.getElem_cons_succ, List.getElem_cons_zero, Act.put, List.setIfInBounds_toArray, List.set_cons_zero, List.set_cons_succ]
          refine wpAnyX_take (i := 2) (v := .int .i64 x) rfl (by kernel_rfl) (by kernel_rfl) (by kernel_rfl) (by kernel_rfl) (fun _ _ _ h => h) (Or.inl ⟨by rfl, fun w9 hSw => ?_⟩) hHeld ?_
          · have hc : w9.cell? ⟨xb, 1, none⟩ = some (.int .i64 x) := by rw [cell_of_block hSw]; rfl
            go_simp
          simp only [List.getElem_toArray, List.getElem_cons_succ, List.getElem_cons_zero, Act.put, List.setIfInBounds_toArray, List.set_cons_zero, List.set_cons_succ]
          refine wpAnyX_take (i := 4) (v := .pointer (some ⟨c, 0, none⟩)) rfl (by kernel_rfl) (by kernel_rfl) (by kernel_rfl) (by kernel_rfl) (fun _ _ _ h => h) (Or.inl ⟨by rfl, fun w9 hSw => ?_⟩) hHeld ?_
          · go_simp
          simp only [List.getElem_toArray, List.getElem_cons_succ, List.getElem_cons_zero, Act.put, List.setIfInBounds_toArray, List.set_cons_zero, List.set_cons_succ]
          refine wpAnyX_take (i := 5) (v := .pointer (some ⟨xb, 1, none⟩)) rfl (by kernel_rfl) (by kernel_rfl) (by kernel_rfl) (by kernel_rfl) (fun _ _ _ h => h) (Or.inl ⟨by rfl, fun w9 hSw => ?_⟩) hHeld ?_
          · go_simp
          simp only [List.getElem_toArray, List.getElem_cons_succ, List.getElem_cons_zero, Act.put, List.setIfInBounds_toArray, List.set_cons_zero, List.set_cons_succ]
          refine wpAnyX_take (i := 6) (v := .int .i64 x) rfl (by kernel_rfl) (by kernel_rfl) (by kernel_rfl) (by kernel_rfl) (fun _ _ _ h => h) (Or.inl ⟨by rfl, fun w9 hSw => ?_⟩) hHeld ?_
          · have hc : w9.cell? ⟨xb, 1, none⟩ = some (.int .i64 x) := by rw [cell_of_block hSw]; rfl
            go_simp
          simp only [List.getElem_toArray, List.getElem_cons_succ, List.getElem_cons_zero, Act.put, List.setIfInBounds_toArray, List.set_cons_zero, List.set_cons_succ]
          refine wpAnyX_one (i := 3) (by kernel_rfl) rfl (by rfl) (fun K hK => ?_)
          go_simp
          refine Calls.mono (HB.out.1.tickP (by have := HK.out.2.2.2; omega) x) ?_
          rintro e w4 ⟨v4, rfl, r4, o4, N4, h4, f4⟩
          have b4 := HB.out.2.nfr f4
          have H4 : Hid (Hf w w4 b c N4 R A (nTick A x).2 k ∧ Bx w4 N4 R xb #[.int .i64 6, .int .i64 x, .int .i64 y, .int .i64 z, .slice va bs.length vc] ∧ w4.ownsRow wb.heap.size 63 3 v4 (nTick A x).1.length (tmL (nTick A x).1) ∧ ∀ g, v4.ownBlock = some g → R.own g = 0) := ⟨h4, b4, r4, o4⟩
          have hS4 := b4.at_
          clear h4 f4 b4 r4 o4 HB e1
          go_wp2_with fail
          refine hK.out _ _ (Or.inr hS4) ?_
          clear hK K
          try simp only [List.getElem_toArray, List.getElem_cons_succ, List.getElem_cons_zero, Act.put, List.setIfInBounds_toArray, List.set_cons_zero, List.set_cons_succ]
          clear hHeld
          have hHeld := hS4
          clear hS4
          refine wpAnyX_one (i := 7) (by kernel_rfl) rfl (by rfl) (fun K hK => ?_)
          go_simp
          refine Calls.mono (H4.out.1.tickD (by have := HK.out.2.2.2; omega)) ?_
          rintro e w5 ⟨v5, rfl, r5, R5, h5, f5⟩
          have b5 := H4.out.2.1.rfr f5
          have H5 : Hid (Tw w w5 b c N4 R5 (nTick A x).2 k ∧ Bx w5 N4 R5 xb #[.int .i64 6, .int .i64 x, .int .i64 y, .int .i64 z, .slice va bs.length vc] ∧ TmR w5 v4 (nTick A x).1 ∧ TmR w5 v5 (nTick A x).1) := ⟨h5, b5, TmR.of (f5.rowk H4.out.2.2.1 H4.out.2.2.2), TmR.of r5⟩
          have HL : Hid ((nTick A x).1.length ≤ 4096) := by have := tick_len A x; have := H4.out.1.ok.tm; exact Nat.le_trans (tick_len A x) this
          have hS5 := b5.at_
          clear h5 f5 b5 r5 H4
          go_wp2_with fail
          refine hK.out _ _ (Or.inr hS5) ?_
          clear hK K
          try simp only [List.getElem_toArray, List.getElem_cons_succ, List.getElem_cons_zero, Act.put, List.setIfInBounds_toArray, List.set_cons_zero, List.set_cons_succ]
          clear hHeld
          have hHeld := hS5
          clear hS5
          refine wpAnyX_one (i := 8) (by kernel_rfl) rfl (by rfl) (fun K hK => ?_)
          go_simp
          refine Calls.mono (sameTm_any _ _ _ HL.out H5.out.2.2.1 H5.out.2.2.2) ?_
          rintro e w6 ⟨rfl, hb6⟩
          have H6 : Hid (Tw w w6 b c N4 R5 (nTick A x).2 ((k : Int) + 1)) := (H5.out.1.below hb6).up (by omega)
          have hS6 := (hb6.block xb (heap_lt H5.out.2.1.at_)).trans H5.out.2.1.at_
          clear hb6 H5
          go_wp2_with fail
          refine hK.out _ _ (Or.inr hS6) ?_
          clear hK K
          try simp only [List.getElem_toArray, List.getElem_cons_succ, List.getElem_cons_zero, Act.put, List.setIfInBounds_toArray, List.set_cons_zero, List.set_cons_succ]
          clear hHeld
          have hHeld := hS6
          clear hS6
          refine wpAnyX_take (i := 9) (v := .bool false) rfl (by kernel_rfl) (by kernel_rfl) (by kernel_rfl) (by kernel_rfl) (fun _ _ _ h => h) (Or.inl ⟨by rfl, fun w9 hSw => ?_⟩) hHeld ?_
          · go_simp
          simp only [List.getElem_toArray, List.getElem_cons_succ, List.getElem_cons_zero, Act.put, List.setIfInBounds_toArray, List.set_cons_zero, List.set_cons_succ]
          refine wpAnyX_done (by kernel_rfl) ?_ _
          clear hHeld
          go_wp2_with fail
          go_meet
          exact ⟨0, _, _, _, rfl, rfl, H6.out⟩
        · go_wp2_with fail
          go_meet
          exact ⟨0, N, R, A, rfl, rfl, HB.out.1.up (by omega)⟩
      case rest =>
        clear HB
        obtain ⟨e, N, R, A, rfl, rfl, HT⟩ := hcut
        go_wp2_with (
          go_at_call 25
          refine Calls.mono (HT.out.flightP (by have := HK.out.2.2.2; omega)) ?_
          rintro e1 w4 ⟨fa, fc, l, rfl, hf, ht⟩
          have H4 : Hid (Fo w4 N A fa fc l ∧ Tw w w4 b c N R A ((k : Int) + 1)) := ⟨hf, ht⟩
          obtain ⟨ra, rc, hrv⟩ := row_form ht.sd.ref.fl
          rw [hf.rlen ht] at hrv
          obtain ⟨ta, tc, htv, _⟩ := ht.sd.ref.tmv
          have HV : Hid (R.fv = .slice ra l.length rc ∧ R.tv = .slice ta R.tm.length tc ∧ R.clk = A.clk ∧ A.tm.length ≤ 4096) := ⟨hrv, htv, by rw [← ht.ar]; rfl, ht.ok.tm⟩
          have hS0 := ht.sd.ref.net
          clear hf ht hrv htv HT)
        have H4d : Hid (Fo w4.drew N A fa fc l ∧ Tw w w4.drew b c N R A ((k : Int) + 1)) := ⟨H4.out.1.below (Below.refl _ w4).drew, H4.out.2.below (Below.refl _ w4).drew⟩
        refine wp_region_X (fun _ => false) (S := fun w' => w'.heap[c]? = some (.cells (rC R) 54)) (by kernel_rfl) hS0 (fun hHeld => ?_)
        clear H4
        have H4 := H4d
        clear H4d
        generalize w4.drew = w4d at H4 hHeld ⊢
        refine wpAnyX_take (i := 0) (v := .int .i64 e) rfl (by kernel_rfl) (by kernel_rfl) (by kernel_rfl) (by kernel_rfl) (fun _ _ _ h => h) (Or.inl ⟨by rfl, fun w9 hSw => ?_⟩) hHeld ?_
        · go_simp
        simp only [List.getElem_toArray, List.getElem_cons_succ, List.getElem_cons_zero, Act.put, List.setIfInBounds_toArray, List.set_cons_zero, List.set_cons_succ]
        refine wpAnyX_take (i := 1) (v := .int .i64 e) rfl (by kernel_rfl) (by kernel_rfl) (by kernel_rfl) (by kernel_rfl) (fun _ _ _ h => h) (Or.inl ⟨by rfl, fun w9 hSw => ?_⟩) hHeld ?_
        · go_simp
        simp only [List.getElem_toArray, List.getElem_cons_succ, List.getElem_cons_zero, Act.put, List.setIfInBounds_toArray, List.set_cons_zero, List.set_cons_succ]
        refine wpAnyX_take (i := 2) (v := .bool false) rfl (by kernel_rfl) (by kernel_rfl) (by kernel_rfl) (by kernel_rfl) (fun _ _ _ h => h) (Or.inl ⟨by rfl, fun w9 hSw => ?_⟩) hHeld ?_
        · go_simp
        simp only [List.getElem_toArray, List.getElem_cons_succ, List.getElem_cons_zero, Act.put, List.setIfInBounds_toArray, List.set_cons_zero, List.set_cons_succ]
        refine wpAnyX_take (i := 3) (v := .bool false) rfl (by kernel_rfl) (by kernel_rfl) (by kernel_rfl) (by kernel_rfl) (fun _ _ _ h => h) (Or.inl ⟨by rfl, fun w9 hSw => ?_⟩) hHeld ?_
        · go_simp
        simp only [List.getElem_toArray, List.getElem_cons_succ, List.getElem_cons_zero, Act.put, List.setIfInBounds_toArray, List.set_cons_zero, List.set_cons_succ]
        refine wpAnyX_take (i := 4) (v := .slice fa l.length fc) rfl (by kernel_rfl) (by kernel_rfl) (by kernel_rfl) (by kernel_rfl) (fun _ _ _ h => h) (Or.inl ⟨by rfl, fun w9 hSw => ?_⟩) hHeld ?_
        · go_simp
        simp only [List.getElem_toArray, List.getElem_cons_succ, List.getElem_cons_zero, Act.put, List.setIfInBounds_toArray, List.set_cons_zero, List.set_cons_succ]
        refine wpAnyX_take (i := 5) (v := .int .i64 l.length) rfl (by kernel_rfl) (by kernel_rfl) (by kernel_rfl) (by kernel_rfl) (fun _ _ _ h => h) (Or.inl ⟨by rfl, fun w9 hSw => ?_⟩) hHeld ?_
        · go_simp
        simp only [List.getElem_toArray, List.getElem_cons_succ, List.getElem_cons_zero, Act.put, List.setIfInBounds_toArray, List.set_cons_zero, List.set_cons_succ]
        refine wpAnyX_take (i := 6) (v := .pointer (some ⟨c, 0, none⟩)) rfl (by kernel_rfl) (by kernel_rfl) (by kernel_rfl) (by kernel_rfl) (fun _ _ _ h => h) (Or.inl ⟨by rfl, fun w9 hSw => ?_⟩) hHeld ?_
        · go_simp
        simp only [List.getElem_toArray, List.getElem_cons_succ, List.getElem_cons_zero, Act.put, List.setIfInBounds_toArray, List.set_cons_zero, List.set_cons_succ]
        refine wpAnyX_take (i := 7) (v := .pointer (some ⟨c, 0, none⟩)) rfl (by kernel_rfl) (by kernel_rfl) (by kernel_rfl) (by kernel_rfl) (fun _ _ _ h => h) (Or.inl ⟨by rfl, fun w9 hSw => ?_⟩) hHeld ?_
        · go_simp
        simp only [List.getElem_toArray, List.getElem_cons_succ, List.getElem_cons_zero, Act.put, List.setIfInBounds_toArray, List.set_cons_zero, List.set_cons_succ]
        refine wpAnyX_take (i := 8) (v := .pointer (some ⟨c, 3, none⟩)) rfl (by kernel_rfl) (by kernel_rfl) (by kernel_rfl) (by kernel_rfl) (fun _ _ _ h => h) (Or.inl ⟨by rfl, fun w9 hSw => ?_⟩) hHeld ?_
        · go_simp
        simp only [List.getElem_toArray, List.getElem_cons_succ, List.getElem_cons_zero, Act.put, List.setIfInBounds_toArray, List.set_cons_zero, List.set_cons_succ]
        refine wpAnyX_take (i := 9) (v := .slice ra l.length rc) rfl (by kernel_rfl) (by kernel_rfl) (by kernel_rfl) (by kernel_rfl) (fun _ _ _ h => h) (Or.inl ⟨by rfl, fun w9 hSw => ?_⟩) hHeld ?_
        · have hc : w9.cell? ⟨c, 3, none⟩ = some (.slice ra l.length rc) := (cell_of_block hSw 3).trans (by show some R.fv = _; rw [HV.out.1])
          go_simp
        simp only [List.getElem_toArray, List.getElem_cons_succ, List.getElem_cons_zero, Act.put, List.setIfInBounds_toArray, List.set_cons_zero, List.set_cons_succ]
        refine wpAnyX_take (i := 10) (v := .int .i64 l.length) rfl (by kernel_rfl) (by kernel_rfl) (by kernel_rfl) (by kernel_rfl) (fun _ _ _ h => h) (Or.inl ⟨by rfl, fun w9 hSw => ?_⟩) hHeld ?_
        · go_simp
        simp only [List.getElem_toArray, List.getElem_cons_succ, List.getElem_cons_zero, Act.put, List.setIfInBounds_toArray, List.set_cons_zero, List.set_cons_succ]
        refine wpAnyX_take (i := 11) (v := .bool false) rfl (by kernel_rfl) (by kernel_rfl) (by kernel_rfl) (by kernel_rfl) (fun _ _ _ h => h) (Or.inl ⟨by rfl, fun w9 hSw => ?_⟩) hHeld ?_
        · go_simp
        simp only [List.getElem_toArray, List.getElem_cons_succ, List.getElem_cons_zero, Act.put, List.setIfInBounds_toArray, List.set_cons_zero, List.set_cons_succ]
        refine wpAnyX_take (i := 12) (v := .bool false) rfl (by kernel_rfl) (by kernel_rfl) (by kernel_rfl) (by kernel_rfl) (fun _ _ _ h => h) (Or.inl ⟨by rfl, fun w9 hSw => ?_⟩) hHeld ?_
        · go_simp
        simp only [List.getElem_toArray, List.getElem_cons_succ, List.getElem_cons_zero, Act.put, List.setIfInBounds_toArray, List.set_cons_zero, List.set_cons_succ]
        refine wpAnyX_take (i := 13) (v := .bool false) rfl (by kernel_rfl) (by kernel_rfl) (by kernel_rfl) (by kernel_rfl) (fun _ _ _ h => h) (Or.inl ⟨by rfl, fun w9 hSw => ?_⟩) hHeld ?_
        · go_simp
        simp only [List.getElem_toArray, List.getElem_cons_succ, List.getElem_cons_zero, Act.put, List.setIfInBounds_toArray, List.set_cons_zero, List.set_cons_succ]
        refine wpAnyX_take (i := 14) (v := .pointer (some ⟨b, 0, none⟩)) rfl (by kernel_rfl) (by kernel_rfl) (by kernel_rfl) (by kernel_rfl) (fun _ _ _ h => h) (Or.inl ⟨by rfl, fun w9 hSw => ?_⟩) hHeld ?_
        · go_simp
        simp only [List.getElem_toArray, List.getElem_cons_succ, List.getElem_cons_zero, Act.put, List.setIfInBounds_toArray, List.set_cons_zero, List.set_cons_succ]
        refine wpAnyX_take (i := 16) (v := .pointer (some ⟨c, 0, none⟩)) rfl (by kernel_rfl) (by kernel_rfl) (by kernel_rfl) (by kernel_rfl) (fun _ _ _ h => h) (Or.inl ⟨by rfl, fun w9 hSw => ?_⟩) hHeld ?_
        · go_simp
        simp only [List.getElem_toArray, List.getElem_cons_succ, List.getElem_cons_zero, Act.put, List.setIfInBounds_toArray, List.set_cons_zero, List.set_cons_succ]
        refine wpAnyX_take (i := 17) (v := .pointer (some ⟨c, 0, none⟩)) rfl (by kernel_rfl) (by kernel_rfl) (by kernel_rfl) (by kernel_rfl) (fun _ _ _ h => h) (Or.inl ⟨by rfl, fun w9 hSw => ?_⟩) hHeld ?_
        · go_simp
        simp only [List.getElem_toArray, List.getElem_cons_succ, List.getElem_cons_zero, Act.put, List.setIfInBounds_toArray, List.set_cons_zero, List.set_cons_succ]
        refine wpAnyX_take (i := 18) (v := .pointer (some ⟨c, 2, none⟩)) rfl (by kernel_rfl) (by kernel_rfl) (by kernel_rfl) (by kernel_rfl) (fun _ _ _ h => h) (Or.inl ⟨by rfl, fun w9 hSw => ?_⟩) hHeld ?_
        · go_simp
        simp only [List.getElem_toArray, List.getElem_cons_succ, List.getElem_cons_zero, Act.put, List.setIfInBounds_toArray, List.set_cons_zero, List.set_cons_succ]
        refine wpAnyX_take (i := 19) (v := .int .i64 A.clk) rfl (by kernel_rfl) (by kernel_rfl) (by kernel_rfl) (by kernel_rfl) (fun _ _ _ h => h) (Or.inl ⟨by rfl, fun w9 hSw => ?_⟩) hHeld ?_
        · have hc : w9.cell? ⟨c, 2, none⟩ = some (.int .i64 A.clk) := (cell_of_block hSw 2).trans (by show some (Value.int .i64 R.clk) = _; rw [HV.out.2.2.1])
          go_simp
        simp only [List.getElem_toArray, List.getElem_cons_succ, List.getElem_cons_zero, Act.put, List.setIfInBounds_toArray, List.set_cons_zero, List.set_cons_succ]
        refine wpAnyX_one (i := 15) (by kernel_rfl) rfl (by rfl) (fun K hK => ?_)
        go_simp
        refine Calls.mono (H4.out.2.nowP) ?_
        rintro e1 w5 ⟨rfl, N5, h5, f5⟩
        have H5 : Hid (Fo w5 N5 A fa fc l ∧ Tw w w5 b c N5 R A ((k : Int) + 1)) := ⟨H4.out.1.nfr f5, h5⟩
        have hS5 := h5.sd.ref.net
        clear h5 f5 H4
        go_wp2_with fail
        refine hK.out _ _ (Or.inr hS5) ?_
        clear hK K
        try simp only [List.getElem_toArray, List.getElem_cons_succ, List.getElem_cons_zero, Act.put, List.setIfInBounds_toArray, List.set_cons_zero, List.set_cons_succ]
        clear hHeld
        have hHeld := hS5
        clear hS5
        refine wpAnyX_take (i := 20) (v := .bool false) rfl (by kernel_rfl) (by kernel_rfl) (by kernel_rfl) (by kernel_rfl) (fun _ _ _ h => h) (Or.inl ⟨by rfl, fun w9 hSw => ?_⟩) hHeld ?_
        · go_simp
        simp only [List.getElem_toArray, List.getElem_cons_succ, List.getElem_cons_zero, Act.put, List.setIfInBounds_toArray, List.set_cons_zero, List.set_cons_succ]
        refine wpAnyX_take (i := 21) (v := .bool false) rfl (by kernel_rfl) (by kernel_rfl) (by kernel_rfl) (by kernel_rfl) (fun _ _ _ h => h) (Or.inl ⟨by rfl, fun w9 hSw => ?_⟩) hHeld ?_
        · go_simp
        simp only [List.getElem_toArray, List.getElem_cons_succ, List.getElem_cons_zero, Act.put, List.setIfInBounds_toArray, List.set_cons_zero, List.set_cons_succ]
        refine wpAnyX_take (i := 22) (v := .bool false) rfl (by kernel_rfl) (by kernel_rfl) (by kernel_rfl) (by kernel_rfl) (fun _ _ _ h => h) (Or.inl ⟨by rfl, fun w9 hSw => ?_⟩) hHeld ?_
        · go_simp
        simp only [List.getElem_toArray, List.getElem_cons_succ, List.getElem_cons_zero, Act.put, List.setIfInBounds_toArray, List.set_cons_zero, List.set_cons_succ]
        refine wpAnyX_take (i := 23) (v := .pointer (some ⟨b, 0, none⟩)) rfl (by kernel_rfl) (by kernel_rfl) (by kernel_rfl) (by kernel_rfl) (fun _ _ _ h => h) (Or.inl ⟨by rfl, fun w9 hSw => ?_⟩) hHeld ?_
        · go_simp
        simp only [List.getElem_toArray, List.getElem_cons_succ, List.getElem_cons_zero, Act.put, List.setIfInBounds_toArray, List.set_cons_zero, List.set_cons_succ]
        refine wpAnyX_take (i := 25) (v := .pointer (some ⟨c, 0, none⟩)) rfl (by kernel_rfl) (by kernel_rfl) (by kernel_rfl) (by kernel_rfl) (fun _ _ _ h => h) (Or.inl ⟨by rfl, fun w9 hSw => ?_⟩) hHeld ?_
        · go_simp
        simp only [List.getElem_toArray, List.getElem_cons_succ, List.getElem_cons_zero, Act.put, List.setIfInBounds_toArray, List.set_cons_zero, List.set_cons_succ]
        refine wpAnyX_take (i := 26) (v := .pointer (some ⟨c, 0, none⟩)) rfl (by kernel_rfl) (by kernel_rfl) (by kernel_rfl) (by kernel_rfl) (fun _ _ _ h => h) (Or.inl ⟨by rfl, fun w9 hSw => ?_⟩) hHeld ?_
        · go_simp
        simp only [List.getElem_toArray, List.getElem_cons_succ, List.getElem_cons_zero, Act.put, List.setIfInBounds_toArray, List.set_cons_zero, List.set_cons_succ]
        refine wpAnyX_take (i := 27) (v := .pointer (some ⟨c, 4, none⟩)) rfl (by kernel_rfl) (by kernel_rfl) (by kernel_rfl) (by kernel_rfl) (fun _ _ _ h => h) (Or.inl ⟨by rfl, fun w9 hSw => ?_⟩) hHeld ?_
        · go_simp
        simp only [List.getElem_toArray, List.getElem_cons_succ, List.getElem_cons_zero, Act.put, List.setIfInBounds_toArray, List.set_cons_zero, List.set_cons_succ]
        refine wpAnyX_take (i := 28) (v := .slice ta R.tm.length tc) rfl (by kernel_rfl) (by kernel_rfl) (by kernel_rfl) (by kernel_rfl) (fun _ _ _ h => h) (Or.inl ⟨by rfl, fun w9 hSw => ?_⟩) hHeld ?_
        · have hc : w9.cell? ⟨c, 4, none⟩ = some (.slice ta R.tm.length tc) := (cell_of_block hSw 4).trans (by show some R.tv = _; rw [HV.out.2.1])
          go_simp
        simp only [List.getElem_toArray, List.getElem_cons_succ, List.getElem_cons_zero, Act.put, List.setIfInBounds_toArray, List.set_cons_zero, List.set_cons_succ]
        refine wpAnyX_one (i := 24) (by kernel_rfl) rfl (by rfl) (fun K hK => ?_)
        go_simp
        refine Calls.mono (timers_any H5.out.2.sd.net (H5.out.2.nok (by have := HK.out.2.2.2; omega))) ?_
        rintro e1 w6 ⟨v6, rfl, r6, hb6⟩
        have H6 : Hid (Fo w6 N5 A fa fc l ∧ Tw w w6 b c N5 R A ((k : Int) + 1) ∧ TmR w6 v6 A.tm) := ⟨H5.out.1.below hb6, H5.out.2.below hb6, by have := TmR.of r6; rwa [show N5.tm = A.tm by rw [← H5.out.2.an]; rfl] at this⟩
        have hS6 := H6.out.2.1.sd.ref.net
        clear r6 hb6 H5
        go_wp2_with fail
        refine hK.out _ _ (Or.inr hS6) ?_
        clear hK K
        try simp only [List.getElem_toArray, List.getElem_cons_succ, List.getElem_cons_zero, Act.put, List.setIfInBounds_toArray, List.set_cons_zero, List.set_cons_succ]
        clear hHeld
        have hHeld := hS6
        clear hS6
        refine wpAnyX_one (i := 29) (by kernel_rfl) rfl (by rfl) (fun K hK => ?_)
        go_simp
        refine Calls.mono (sameTm_any _ _ _ HV.out.2.2.2 H6.out.2.2 (by have := H6.out.2.1.rtm; rwa [HV.out.2.1] at this)) ?_
        rintro e1 w7 ⟨rfl, hb7⟩
        have H7 : Hid (Fo w7 N5 A fa fc l ∧ Tw w w7 b c N5 R A ((k : Int) + 1)) := ⟨H6.out.1.below hb7, H6.out.2.1.below hb7⟩
        have hS7 := H7.out.2.sd.ref.net
        clear hb7 H6
        go_wp2_with fail
        refine hK.out _ _ (Or.inr hS7) ?_
        clear hK K
        try simp only [List.getElem_toArray, List.getElem_cons_succ, List.getElem_cons_zero, Act.put, List.setIfInBounds_toArray, List.set_cons_zero, List.set_cons_succ]
        clear hHeld
        have hHeld := hS7
        clear hS7
        refine wpAnyX_take (i := 30) (v := .bool false) rfl (by kernel_rfl) (by kernel_rfl) (by kernel_rfl) (by kernel_rfl) (fun _ _ _ h => h) (Or.inl ⟨by rfl, fun w9 hSw => ?_⟩) hHeld ?_
        · go_simp
        simp only [List.getElem_toArray, List.getElem_cons_succ, List.getElem_cons_zero, Act.put, List.setIfInBounds_toArray, List.set_cons_zero, List.set_cons_succ]
        refine wpAnyX_take (i := 31) (v := .bool false) rfl (by kernel_rfl) (by kernel_rfl) (by kernel_rfl) (by kernel_rfl) (fun _ _ _ h => h) (Or.inl ⟨by rfl, fun w9 hSw => ?_⟩) hHeld ?_
        · go_simp
        simp only [List.getElem_toArray, List.getElem_cons_succ, List.getElem_cons_zero, Act.put, List.setIfInBounds_toArray, List.set_cons_zero, List.set_cons_succ]
        refine wpAnyX_done (by kernel_rfl) ?_ _
        have H8 : Hid (Fo w7 N5 A fa fc l ∧ Tw w w7 b c N5 R A ((k : Int) + 1)) := H7.out
        clear hHeld hS0 H7 HV
        obtain ⟨ln, hln⟩ : ∃ ln, ln = l.length := ⟨_, rfl⟩
        have HL : Hid (ln = l.length ∧ ln ≤ 4096) := ⟨hln, by rw [hln]; have h9 := congrArg List.length H8.out.1.eq; rw [List.length_map] at h9; rw [h9]; exact H8.out.2.ok.fl⟩
        rw [← hln]
        clear hln
        go_wp2_with fail
        go_loopw [17] (fun i wr => ∃ j : Nat, j ≤ ln ∧ i = .int .i64 j ∧ Hid (Fo wr N5 A fa fc l ∧ Tw w wr b c N5 R A ((k : Int) + 1))) (fun i _ => ln - (intOf i).toNat)
        case atStart => exact ⟨0, Nat.zero_le _, rfl, H8.out⟩
        case round =>
          clear H8
          obtain ⟨j, hj, rfl, HJ⟩ := hrel
          by_cases hlt : j < ln
          · have hji : (j : Int) < ln := by omega
            obtain ⟨p, q, g, o, ra, rg, ro, rn, rc, rfl, hfv, hrn, rfl, pe1, pe2, pe3, hd1, hd2, ⟨c0, c1, c2, c3⟩, ⟨d0, d1, d2, d3⟩⟩ := HJ.out.1.both HJ.out.2 j (by have := HL.out.1; omega)
            have hlr : rn = ln := by have := HL.out.1; omega
            rw [hlr] at hfv
            have hr3 : wr.cell? ⟨c, 3, none⟩ = some (.slice (some ⟨rg, ro, none⟩) ln rc) := by have := HJ.out.2.sd.ref.cells.2.2.2.1; rw [hfv] at this; exact this
            obtain ⟨pi, pf, pt, pd, pb⟩ := p
            obtain ⟨qi, qf, qt, qd, qb⟩ := q
            simp only at c0 c1 c2 c3 d0 d1 d2 d3 hd1 hd2
            obtain ⟨qa1, qc1, rfl⟩ := hd1.form
            obtain ⟨qa2, qc2, rfl⟩ := hd2.form
            have HD : Hid (BytesV wr (.slice qa1 pb.length qc1) pb ∧ BytesV wr (.slice qa2 pb.length qc2) pb ∧ j < ln) := ⟨hd1, hd2, hlt⟩
            clear hd1 hd2 pe1 pe2 pe3 hrn hlr hfv hlt hj
            go_wp2_with fail
            refine wp_region_X (fun _ => false) (S := fun w' => w'.cell? ⟨c, 3, none⟩ = some (.slice (some ⟨rg, ro, none⟩) ln rc) ∧ w'.cell? ⟨g, o + j * 4, none⟩ = some (.int .i64 pi) ∧ w'.cell? ⟨g, o + j * 4 + 1, none⟩ = some (.int .i64 pf) ∧ w'.cell? ⟨g, o + j * 4 + 2, none⟩ = some (.int .i64 pt) ∧ w'.cell? ⟨g, o + j * 4 + 3, none⟩ = some (.slice qa1 pb.length qc1) ∧ w'.cell? ⟨rg, ro + j * 4, none⟩ = some (.int .i64 pi) ∧ w'.cell? ⟨rg, ro + j * 4 + 1, none⟩ = some (.int .i64 pf) ∧ w'.cell? ⟨rg, ro + j * 4 + 2, none⟩ = some (.int .i64 pt) ∧ w'.cell? ⟨rg, ro + j * 4 + 3, none⟩ = some (.slice qa2 pb.length qc2)) (by kernel_rfl) ⟨hr3, c0, c1, c2, c3, d0, d1, d2, d3⟩ (fun hHeld => ?_)
            have HJd : Hid (Fo wr.drew N5 A (some ⟨g, o, none⟩) fc l ∧ Tw w wr.drew b c N5 R A ((k : Int) + 1) ∧ BytesV wr.drew (.slice qa1 pb.length qc1) pb ∧ BytesV wr.drew (.slice qa2 pb.length qc2) pb ∧ j < ln) := ⟨HJ.out.1.below (Below.refl _ wr).drew, HJ.out.2.below (Below.refl _ wr).drew, HD.out.1.below (Below.refl _ wr).drew, HD.out.2.1.below (Below.refl _ wr).drew, HD.out.2.2⟩
            have hSd := And.intro (bel_kept (Below.refl _ wr).drew hr3) <| And.intro (bel_kept (Below.refl _ wr).drew c0) <| And.intro (bel_kept (Below.refl _ wr).drew c1) <| And.intro (bel_kept (Below.refl _ wr).drew c2) <| And.intro (bel_kept (Below.refl _ wr).drew c3) <| And.intro (bel_kept (Below.refl _ wr).drew d0) <| And.intro (bel_kept (Below.refl _ wr).drew d1) <| And.intro (bel_kept (Below.refl _ wr).drew d2) <| bel_kept (Below.refl _ wr).drew d3
            clear HJ HD hr3 c0 c1 c2 c3 d0 d1 d2 d3
            generalize wr.drew = wd at HJd hHeld hSd ⊢
            obtain ⟨hr3, c0, c1, c2, c3, d0, d1, d2, d3⟩ := hSd
            refine wpAnyX_take (i := 0) (v := .slice (some ⟨g, o, none⟩) ln fc) rfl (by kernel_rfl) (by kernel_rfl) (by kernel_rfl) (by kernel_rfl) (fun _ _ _ h => h) (Or.inl ⟨by rfl, fun w9 hSw => ?_⟩) hHeld ?_
            · go_simp
            simp only [List.getElem_toArray, List.getElem_cons_succ, List.getElem_cons_zero, Act.put, List.setIfInBounds_toArray, List.set_cons_zero, List.set_cons_succ]
            refine wpAnyX_take (i := 1) (v := .int .i64 j) rfl (by kernel_rfl) (by kernel_rfl) (by kernel_rfl) (by kernel_rfl) (fun _ _ _ h => h) (Or.inl ⟨by rfl, fun w9 hSw => ?_⟩) hHeld ?_
            · go_simp
            simp only [List.getElem_toArray, List.getElem_cons_succ, List.getElem_cons_zero, Act.put, List.setIfInBounds_toArray, List.set_cons_zero, List.set_cons_succ]
            refine wpAnyX_take (i := 2) (v := .pointer (some ⟨g, o + j * 4, none⟩)) rfl (by kernel_rfl) (by kernel_rfl) (by kernel_rfl) (by kernel_rfl) (fun _ _ _ h => h) (Or.inl ⟨by rfl, fun w9 hSw => ?_⟩) hHeld ?_
            · go_simp
            simp only [List.getElem_toArray, List.getElem_cons_succ, List.getElem_cons_zero, Act.put, List.setIfInBounds_toArray, List.set_cons_zero, List.set_cons_succ]
            refine wpAnyX_take (i := 3) (v := .agg #[.int .i64 pi, .int .i64 pf, .int .i64 pt, .slice qa1 pb.length qc1]) rfl (by kernel_rfl) (by kernel_rfl) (by kernel_rfl) (by kernel_rfl) (fun _ _ _ h => h) (Or.inl ⟨by rfl, fun w9 hSw => ?_⟩) hHeld ?_
            · obtain ⟨s9, k0, k1, k2, k3, m0, m1, m2, m3⟩ := hSw
              go_simp
            simp only [List.getElem_toArray, List.getElem_cons_succ, List.getElem_cons_zero, Act.put, List.setIfInBounds_toArray, List.set_cons_zero, List.set_cons_succ]
            refine wpAnyX_take (i := 4) (v := .pointer (some ⟨c, 0, none⟩)) rfl (by kernel_rfl) (by kernel_rfl) (by kernel_rfl) (by kernel_rfl) (fun _ _ _ h => h) (Or.inl ⟨by rfl, fun w9 hSw => ?_⟩) hHeld ?_
            · go_simp
            simp only [List.getElem_toArray, List.getElem_cons_succ, List.getElem_cons_zero, Act.put, List.setIfInBounds_toArray, List.set_cons_zero, List.set_cons_succ]
            refine wpAnyX_take (i := 5) (v := .pointer (some ⟨c, 0, none⟩)) rfl (by kernel_rfl) (by kernel_rfl) (by kernel_rfl) (by kernel_rfl) (fun _ _ _ h => h) (Or.inl ⟨by rfl, fun w9 hSw => ?_⟩) hHeld ?_
            · go_simp
            simp only [List.getElem_toArray, List.getElem_cons_succ, List.getElem_cons_zero, Act.put, List.setIfInBounds_toArray, List.set_cons_zero, List.set_cons_succ]
            refine wpAnyX_take (i := 6) (v := .pointer (some ⟨c, 3, none⟩)) rfl (by kernel_rfl) (by kernel_rfl) (by kernel_rfl) (by kernel_rfl) (fun _ _ _ h => h) (Or.inl ⟨by rfl, fun w9 hSw => ?_⟩) hHeld ?_
            · go_simp
            simp only [List.getElem_toArray, List.getElem_cons_succ, List.getElem_cons_zero, Act.put, List.setIfInBounds_toArray, List.set_cons_zero, List.set_cons_succ]
            refine wpAnyX_take (i := 7) (v := .slice (some ⟨rg, ro, none⟩) ln rc) rfl (by kernel_rfl) (by kernel_rfl) (by kernel_rfl) (by kernel_rfl) (fun _ _ _ h => h) (Or.inl ⟨by rfl, fun w9 hSw => ?_⟩) hHeld ?_
            · obtain ⟨s9, k0, k1, k2, k3, m0, m1, m2, m3⟩ := hSw
              go_simp
            simp only [List.getElem_toArray, List.getElem_cons_succ, List.getElem_cons_zero, Act.put, List.setIfInBounds_toArray, List.set_cons_zero, List.set_cons_succ]
            refine wpAnyX_take (i := 8) (v := .int .i64 j) rfl (by kernel_rfl) (by kernel_rfl) (by kernel_rfl) (by kernel_rfl) (fun _ _ _ h => h) (Or.inl ⟨by rfl, fun w9 hSw => ?_⟩) hHeld ?_
            · go_simp
            simp only [List.getElem_toArray, List.getElem_cons_succ, List.getElem_cons_zero, Act.put, List.setIfInBounds_toArray, List.set_cons_zero, List.set_cons_succ]
            refine wpAnyX_take (i := 9) (v := .pointer (some ⟨rg, ro + j * 4, none⟩)) rfl (by kernel_rfl) (by kernel_rfl) (by kernel_rfl) (by kernel_rfl) (fun _ _ _ h => h) (Or.inl ⟨by rfl, fun w9 hSw => ?_⟩) hHeld ?_
            · go_simp
            simp only [List.getElem_toArray, List.getElem_cons_succ, List.getElem_cons_zero, Act.put, List.setIfInBounds_toArray, List.set_cons_zero, List.set_cons_succ]
            refine wpAnyX_take (i := 10) (v := .agg #[.int .i64 pi, .int .i64 pf, .int .i64 pt, .slice qa2 pb.length qc2]) rfl (by kernel_rfl) (by kernel_rfl) (by kernel_rfl) (by kernel_rfl) (fun _ _ _ h => h) (Or.inl ⟨by rfl, fun w9 hSw => ?_⟩) hHeld ?_
            · obtain ⟨s9, k0, k1, k2, k3, m0, m1, m2, m3⟩ := hSw
              go_simp
            simp only [List.getElem_toArray, List.getElem_cons_succ, List.getElem_cons_zero, Act.put, List.setIfInBounds_toArray, List.set_cons_zero, List.set_cons_succ]
            refine wpAnyX_one (i := 11) (by kernel_rfl) rfl (by rfl) (fun K hK => ?_)
            go_simp
            refine Calls.mono (samePk_any _ _ _ _ _ _ HJd.out.2.2.1 HJd.out.2.2.2.1) ?_
            rintro e1 w9 ⟨rfl, hb9⟩
            have H9 : Hid (Fo w9 N5 A (some ⟨g, o, none⟩) fc l ∧ Tw w w9 b c N5 R A ((k : Int) + 1)) := ⟨HJd.out.1.below hb9, HJd.out.2.1.below hb9⟩
            have HD : Hid (j < ln) := HJd.out.2.2.2.2
            have hS9 := And.intro (bel_kept hb9 hr3) <| And.intro (bel_kept hb9 c0) <| And.intro (bel_kept hb9 c1) <| And.intro (bel_kept hb9 c2) <| And.intro (bel_kept hb9 c3) <| And.intro (bel_kept hb9 d0) <| And.intro (bel_kept hb9 d1) <| And.intro (bel_kept hb9 d2) <| bel_kept hb9 d3
            clear hb9 HJd
            go_wp2_with fail
            refine hK.out _ _ (Or.inr hS9) ?_
            clear hK K
            try simp only [List.getElem_toArray, List.getElem_cons_succ, List.getElem_cons_zero, Act.put, List.setIfInBounds_toArray, List.set_cons_zero, List.set_cons_succ]
            clear hHeld
            have hHeld := hS9
            clear hS9
            refine wpAnyX_take (i := 12) (v := .bool false) rfl (by kernel_rfl) (by kernel_rfl) (by kernel_rfl) (by kernel_rfl) (fun _ _ _ h => h) (Or.inl ⟨by rfl, fun w9 hSw => ?_⟩) hHeld ?_
            · go_simp
            simp only [List.getElem_toArray, List.getElem_cons_succ, List.getElem_cons_zero, Act.put, List.setIfInBounds_toArray, List.set_cons_zero, List.set_cons_succ]
            refine wpAnyX_done (by kernel_rfl) ?_ _
            clear hHeld hr3 c0 c1 c2 c3 d0 d1 d2 d3
            have hjb := HL.out.2
            have hjc := HD.out
            go_wp2_with fail
            go_roundw
            case rel => exact ⟨j + 1, by have := HD.out; omega, by go_num, H9.out⟩
            case measure => have := HD.out; simp [intOf]; omega
          · obtain rfl : ln = j := by omega
            clear hlt hj
            have hkb := HK.out.2.2.2
            go_wp2_with fail
            go_roundw
            case rel => exact ⟨k + 1, by have := HK.out.2.2.1; omega, by go_num, _, _, _, HJ.out.2⟩
            case measure => have := HK.out.2.2.1; simp [intOf]; omega
    · obtain rfl : m = k := by omega
      clear hlt hk
      go_wp2_with fail
      go_ret
      exact ⟨rfl, HT.out.lo.bel⟩
end Go.Proofs.Ytemapnfbmhjlbaa
