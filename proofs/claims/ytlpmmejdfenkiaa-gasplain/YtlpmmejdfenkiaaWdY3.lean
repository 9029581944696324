/- Walks over bytes: how many a word has. -/
import Derived.Test.YtlpmmejdfenkiaaWdY1
import Derived.Laws.AppendOwnNone
import Derived.Test.YtlpmmejdfenkiaaWdE1
namespace Go.Proofs.Ytlpmmejdfenkiaa.Wd
open Go.RowKit
set_option linter.unusedSimpArgs false
set_option linter.unusedVariables false
theorem two_pow_le {j k : Nat} (h : j ≤ k) : (2 : Int) ^ j ≤ 2 ^ k := by
  have := Nat.pow_le_pow_right (n := 2) (by decide) h
  have e : ∀ k : Nat, (2 : Int) ^ k = ((2 ^ k : Nat) : Int) := fun k => by simp
  rw [e, e]; omega
set_option maxHeartbeats 1000000 in
theorem trim_top (w : World) (b o cap : Nat) (d : List Int) (hd : d.length < 4096) (hcap : d.length ≤ cap) (hb : b < w.heap.size) (hc : ∀ k, k < d.length → w.cell? ⟨b, o + k, none⟩ = some (.int .i64 (d.getD k 0))) :
    Calls Try.prog 53 #[.slice (some ⟨b, o, none⟩) d.length cap] w fun e w' => ∃ (v : Value) (k : Nat), e = .returned v ∧ IsN w' v (d.take k) ∧ Hid (k ≤ d.length ∧ (∀ j, k ≤ j → d.getD j 0 = 0) ∧ (k = 0 ∨ d.getD (k - 1) 0 ≠ 0)) ∧ Below w.heap.size w w' := by
  have HC : Hid _ := hc
  clear hc
  obtain ⟨i0, hi, hz0, hz1, hz2⟩ := info_parts Try.info3
  have HI : Hid _ := hi
  clear hi
  go_enter Try.func53, Try.ntmps53
  go_wp2
  go_loop [3] (fun s => ∃ k : Nat, k ≤ d.length ∧ s = .int .i64 k ∧ Hid (∀ j, k ≤ j → d.getD j 0 = 0)) (fun s => (intOf s).toNat)
  case atStart => exact ⟨d.length, Nat.le_refl _, rfl, fun j hj => by simp [List.getD, List.getElem?_eq_none hj]⟩
  case round =>
    obtain ⟨k, hk, rfl, hz⟩ := hrel
    have HN : Hid _ := trim_news (w.alloc (.cells #[] 3)) b o d k hk (fun k hk => (World.cell?_alloc_past _ _ _ hb).trans (HC.out k hk))
    by_cases h0 : k = 0
    · subst h0
      go_wp2_with (first | (at_builtin; refine wpList_append_own _ rfl _ _ 54 rfl w.heap.size 3 i0 (.int .i64 0) 1 8 Try.underlying54 HI.out hz0 hz1 hz2 rfl (by decide) _ _ _ rfl (World.ownsRow_made w #[] 0 (Nat.le_refl _) (by decide) rfl) ⟨b, o, none⟩ 0 cap [] rfl rfl ?c1 ?c2 ?c3 ?c4 ?c5 ?_))
      all_goals first
        | (intro v' w1 hown hg hnn
           clear hnn
           go_wp2
           go_ret
           exact ⟨v', 0, rfl, IsN.of_owns (by simpa using hown), ⟨hk, hz.out, Or.inl rfl⟩, Below.grown (by go_grown) hg (by simp) (by simp [Value.ownBlock])⟩)
        | (intro j u hj; simp at hj; done)
        | (intro u hu; simp at hu; done)
        | decide
        | (simp; done)
    · obtain ⟨m, rfl⟩ : ∃ m, k = m + 1 := ⟨k - 1, by omega⟩
      have hcm := HC.out m (by omega)
      by_cases hx : d.getD m 0 = 0
      · have hxx : (d[m]?.getD 0 == 0) = true := by simpa [List.getD] using hx
        have hzm : Hid (∀ j, m ≤ j → d.getD j 0 = 0) := fun j hj => by
          rcases Nat.lt_or_ge m j with g | g
          · exact hz.out j (by omega)
          · have e : j = m := by omega
            rw [e]; exact hx
        go_wp2
        exact ⟨⟨m, by omega, by go_num, hzm⟩, by simp [intOf]⟩
      · have hxx : (d[m]?.getD 0 == 0) = false := by simpa [List.getD] using hx
        have hle : (m : Int) + 1 ≤ cap := by omega
        go_wp2_with (first | (at_builtin; go_must (refine wpList_append_own _ rfl _ _ 54 rfl w.heap.size 3 i0 (.int .i64 0) 1 8 Try.underlying54 HI.out hz0 hz1 hz2 rfl (by decide) _ _ _ rfl (World.ownsRow_made w #[] 0 (Nat.le_refl _) (by decide) rfl) ⟨b, o, none⟩ (m + 1) cap ((d.take (m + 1)).map (Value.int .i64)) rfl ?e0 HN.out ?e2 ?e3 ?e4 ?e5 ?_)))
        all_goals first
          | (intro v' w1 hown hg hnn
             clear hnn
             go_wp2
             go_ret
             exact ⟨v', m + 1, rfl, IsN.of_owns (by simpa using hown), ⟨hk, hz.out, Or.inr hx⟩, Below.grown (by go_grown) hg (by simp) (by simp [Value.ownBlock])⟩)
          | exact oneCell_take d _
          | (unfold maxLen; omega)
          | omega
          | (simp; done)
          | (simp; omega)
/-- The digits of a number, no nought at the end. -/
def Top (d : List Int) (n : Int) : Prop := Byt d ∧ d.length ≤ 32 ∧ valB d = n ∧ (d.length = 0 ∨ d.getD (d.length - 1) 0 ≠ 0)
theorem trim_topped (w : World) (v : Value) (d : List Int) (h : IsN w v d) (h0 : 0 < d.length) (hd : d.length < 4096) (hB : Byt d) :
    Calls Try.prog 53 #[v] w fun e w' => ∃ (v' : Value) (d' : List Int), e = .returned v' ∧ IsN w' v' d' ∧ Hid (Byt d' ∧ valB d' = valB d ∧ (d'.length = 0 ∨ d'.getD (d'.length - 1) 0 ≠ 0)) ∧ d'.length ≤ d.length ∧ Below w.heap.size w w' := by
  obtain ⟨a, cap, rfl, hcap, h⟩ := h
  obtain ⟨b, o, rfl, hb, hc⟩ := h h0
  refine (trim_top w b o cap d hd hcap hb hc).mono ?_
  rintro e w' ⟨v, k, rfl, hN, hk, hw⟩
  obtain ⟨h1, h2, h3⟩ := hk.out
  have hl : (d.take k).length = k := by simp; omega
  refine ⟨v, _, rfl, hN, ⟨hB.take k, valB_take d k h2, ?_⟩, by omega, hw⟩
  rw [hl]
  rcases h3 with h | h
  · exact Or.inl h
  · rcases Nat.eq_zero_or_pos k with hk0 | hk0
    · exact Or.inl hk0
    · refine Or.inr ?_
      have : (d.take k).getD (k - 1) 0 = d.getD (k - 1) 0 := by simp only [List.getD]; rw [List.getElem?_take_of_lt (by omega)]
      rw [this]; exact h
set_option maxHeartbeats 4000000 in
theorem of_top (a0 a1 a2 a3 : Int) (ha : L4 a0 a1 a2 a3) (w : World) :
    Calls Try.prog 45 #[W4 a0 a1 a2 a3] w fun e w' => ∃ (v : Value) (d : List Int), e = .returned v ∧ IsN w' v d ∧ Hid (Top d (num a0 a1 a2 a3)) ∧ Below w.heap.size w w' := by
  have HA : Hid _ := ha
  clear ha
  obtain ⟨i0, hi, hz0, hz1, hz2⟩ := info_parts Try.info3
  have HI : Hid _ := hi
  clear hi
  unfold W4
  go_enter Try.func45, Try.ntmps45
  go_wp2
  go_loopw [3, 4] (fun s i wr => ∃ (k : Nat) (d : List Int), k ≤ 32 ∧ i = .int .i64 k ∧ d.length = k ∧ wr.ownsRow (w.heap.size + 1) 3 1 s k (d.map (Value.int .i64)) ∧ Hid (Byt d) ∧ Hid (valB d = num a0 a1 a2 a3 % 256 ^ k) ∧ Below (w.heap.size + 1) (w.alloc (.cells #[.int .u64 a0, .int .u64 a1, .int .u64 a2, .int .u64 a3] 30)) wr) (fun _ i _ => 32 - (intOf i).toNat)
  case atStart => exact ⟨0, [], by omega, rfl, rfl, World.ownsRow_nil _ _ _ _, fun k => ⟨by simp, by simp⟩, by show _ = _; simp [valB, Int.emod_one], Below.refl _ _⟩
  case round =>
    obtain ⟨k, d, hk, rfl, hl, hown, hB, hE, hbw⟩ := hrel
    have c0 : wr.cell? ⟨w.heap.size, 0, none⟩ = some (.int .u64 a0) := (hbw.cell (p := ⟨w.heap.size, 0, none⟩) (by simp)).trans (by simp [go_sem])
    have c1 : wr.cell? ⟨w.heap.size, 1, none⟩ = some (.int .u64 a1) := (hbw.cell (p := ⟨w.heap.size, 1, none⟩) (by simp)).trans (by simp [go_sem])
    have c2 : wr.cell? ⟨w.heap.size, 2, none⟩ = some (.int .u64 a2) := (hbw.cell (p := ⟨w.heap.size, 2, none⟩) (by simp)).trans (by simp [go_sem])
    have c3 : wr.cell? ⟨w.heap.size, 3, none⟩ = some (.int .u64 a3) := (hbw.cell (p := ⟨w.heap.size, 3, none⟩) (by simp)).trans (by simp [go_sem])
    have hsz : w.heap.size + 1 ≤ wr.heap.size := by have := hbw.size; simp at this; omega
    have HO : Hid _ := hown
    clear hown
    by_cases hlt : k < 32
    · rcases (by omega : k < 8 ∨ (8 ≤ k ∧ k < 16) ∨ (16 ≤ k ∧ k < 24) ∨ (24 ≤ k ∧ k < 32)) with h8 | ⟨h8, h8'⟩ | ⟨h8, h8'⟩ | ⟨h8, h8'⟩
      · skip
        have hq : (k : Int) / 8 = 0 := by omega
        obtain ⟨x, hx⟩ : ∃ x, x = bits .and .i64 (wrap64 (a0 / 2 ^ (8 * (k % 8)))) 255 := ⟨_, rfl⟩
        have hxe : x = lowN (num a0 a1 a2 a3) k := by
          rw [hx, byte_of a0 (8 * (k % 8))]
          have := low_num0 (i := (k : Int)) (by omega) (by omega) HA.out
          rw [show (8 * ((k : Int) % 8)).toNat = 8 * (k % 8) from by omega] at this
          exact this
        have hx0 : 0 ≤ x ∧ x < 256 := by rw [hxe]; unfold lowN; omega
        obtain ⟨hx0, hx1⟩ := hx0
        have HE2 : Hid (valB (d ++ [x]) = num a0 a1 a2 a3 % 256 ^ (k + 1)) := by
          show _ = _
          rw [valB_append, hl, hE.out, hxe]; exact low_step _ k
        have HB2 : Hid (Byt (d ++ [x])) := hB.out.append hx0 hx1
        have hxr : bits .and .i64 (wrap64 (a0 / 2 ^ (8 * (k % 8)))) 255 = x := hx.symm
        clear hx hxe hE hB
        go_wp2_with (first | (at_builtin; go_must (refine wpList_append_own _ rfl _ _ 54 rfl (w.heap.size + 1) 3 i0 (.int .i64 0) 1 8 Try.underlying54 HI.out hz0 hz1 hz2 rfl (by decide) _ _ _ rfl (World.ownsRow.alloc HO.out _) ⟨wr.heap.size, 0, none⟩ 1 1 [.int .i64 x] rfl rfl ?c10 ?c20 ?c30 ?c40 ?c50 ?_)))
        any_goals (first
          | (intro q u hq; exact one_cell hq)
          | (intro u hu; simp at hu; subst hu; rfl)
          | (unfold maxLen; omega)
          | omega
          | (simp; omega))
        intro v' w1 hown' hg hnn
        have HO2 : Hid _ := hown'
        have HG : Hid _ := hg
        clear hown' hg hnn
        go_wp2
        refine ⟨⟨k + 1, d ++ [x], by omega, by go_num, ?_, ?_, HB2, HE2, ?_⟩, ?_⟩
        · rw [List.length_append, hl]; rfl
        · rw [List.map_append]; exact HO2.out
        · exact of_grown hbw HG.out (fun g hg => (World.ownsRow.lt HO.out g hg).1) hsz
        · simp [intOf]; omega
      · skip
        have hq : (k : Int) / 8 = 1 := by omega
        obtain ⟨x, hx⟩ : ∃ x, x = bits .and .i64 (wrap64 (a1 / 2 ^ (8 * (k % 8)))) 255 := ⟨_, rfl⟩
        have hxe : x = lowN (num a0 a1 a2 a3) k := by
          rw [hx, byte_of a1 (8 * (k % 8))]
          have := low_num1 (i := (k : Int)) (by omega) (by omega) HA.out
          rw [show (8 * ((k : Int) % 8)).toNat = 8 * (k % 8) from by omega] at this
          exact this
        have hx0 : 0 ≤ x ∧ x < 256 := by rw [hxe]; unfold lowN; omega
        obtain ⟨hx0, hx1⟩ := hx0
        have HE2 : Hid (valB (d ++ [x]) = num a0 a1 a2 a3 % 256 ^ (k + 1)) := by
          show _ = _
          rw [valB_append, hl, hE.out, hxe]; exact low_step _ k
        have HB2 : Hid (Byt (d ++ [x])) := hB.out.append hx0 hx1
        have hxr : bits .and .i64 (wrap64 (a1 / 2 ^ (8 * (k % 8)))) 255 = x := hx.symm
        clear hx hxe hE hB
        go_wp2_with (first | (at_builtin; go_must (refine wpList_append_own _ rfl _ _ 54 rfl (w.heap.size + 1) 3 i0 (.int .i64 0) 1 8 Try.underlying54 HI.out hz0 hz1 hz2 rfl (by decide) _ _ _ rfl (World.ownsRow.alloc HO.out _) ⟨wr.heap.size, 0, none⟩ 1 1 [.int .i64 x] rfl rfl ?c11 ?c21 ?c31 ?c41 ?c51 ?_)))
        any_goals (first
          | (intro q u hq; exact one_cell hq)
          | (intro u hu; simp at hu; subst hu; rfl)
          | (unfold maxLen; omega)
          | omega
          | (simp; omega))
        intro v' w1 hown' hg hnn
        have HO2 : Hid _ := hown'
        have HG : Hid _ := hg
        clear hown' hg hnn
        go_wp2
        refine ⟨⟨k + 1, d ++ [x], by omega, by go_num, ?_, ?_, HB2, HE2, ?_⟩, ?_⟩
        · rw [List.length_append, hl]; rfl
        · rw [List.map_append]; exact HO2.out
        · exact of_grown hbw HG.out (fun g hg => (World.ownsRow.lt HO.out g hg).1) hsz
        · simp [intOf]; omega
      · skip
        have hq : (k : Int) / 8 = 2 := by omega
        obtain ⟨x, hx⟩ : ∃ x, x = bits .and .i64 (wrap64 (a2 / 2 ^ (8 * (k % 8)))) 255 := ⟨_, rfl⟩
        have hxe : x = lowN (num a0 a1 a2 a3) k := by
          rw [hx, byte_of a2 (8 * (k % 8))]
          have := low_num2 (i := (k : Int)) (by omega) (by omega) HA.out
          rw [show (8 * ((k : Int) % 8)).toNat = 8 * (k % 8) from by omega] at this
          exact this
        have hx0 : 0 ≤ x ∧ x < 256 := by rw [hxe]; unfold lowN; omega
        obtain ⟨hx0, hx1⟩ := hx0
        have HE2 : Hid (valB (d ++ [x]) = num a0 a1 a2 a3 % 256 ^ (k + 1)) := by
          show _ = _
          rw [valB_append, hl, hE.out, hxe]; exact low_step _ k
        have HB2 : Hid (Byt (d ++ [x])) := hB.out.append hx0 hx1
        have hxr : bits .and .i64 (wrap64 (a2 / 2 ^ (8 * (k % 8)))) 255 = x := hx.symm
        clear hx hxe hE hB
        go_wp2_with (first | (at_builtin; go_must (refine wpList_append_own _ rfl _ _ 54 rfl (w.heap.size + 1) 3 i0 (.int .i64 0) 1 8 Try.underlying54 HI.out hz0 hz1 hz2 rfl (by decide) _ _ _ rfl (World.ownsRow.alloc HO.out _) ⟨wr.heap.size, 0, none⟩ 1 1 [.int .i64 x] rfl rfl ?c12 ?c22 ?c32 ?c42 ?c52 ?_)))
        any_goals (first
          | (intro q u hq; exact one_cell hq)
          | (intro u hu; simp at hu; subst hu; rfl)
          | (unfold maxLen; omega)
          | omega
          | (simp; omega))
        intro v' w1 hown' hg hnn
        have HO2 : Hid _ := hown'
        have HG : Hid _ := hg
        clear hown' hg hnn
        go_wp2
        refine ⟨⟨k + 1, d ++ [x], by omega, by go_num, ?_, ?_, HB2, HE2, ?_⟩, ?_⟩
        · rw [List.length_append, hl]; rfl
        · rw [List.map_append]; exact HO2.out
        · exact of_grown hbw HG.out (fun g hg => (World.ownsRow.lt HO.out g hg).1) hsz
        · simp [intOf]; omega
      · skip
        have hq : (k : Int) / 8 = 3 := by omega
        obtain ⟨x, hx⟩ : ∃ x, x = bits .and .i64 (wrap64 (a3 / 2 ^ (8 * (k % 8)))) 255 := ⟨_, rfl⟩
        have hxe : x = lowN (num a0 a1 a2 a3) k := by
          rw [hx, byte_of a3 (8 * (k % 8))]
          have := low_num3 (i := (k : Int)) (by omega) (by omega) HA.out
          rw [show (8 * ((k : Int) % 8)).toNat = 8 * (k % 8) from by omega] at this
          exact this
        have hx0 : 0 ≤ x ∧ x < 256 := by rw [hxe]; unfold lowN; omega
        obtain ⟨hx0, hx1⟩ := hx0
        have HE2 : Hid (valB (d ++ [x]) = num a0 a1 a2 a3 % 256 ^ (k + 1)) := by
          show _ = _
          rw [valB_append, hl, hE.out, hxe]; exact low_step _ k
        have HB2 : Hid (Byt (d ++ [x])) := hB.out.append hx0 hx1
        have hxr : bits .and .i64 (wrap64 (a3 / 2 ^ (8 * (k % 8)))) 255 = x := hx.symm
        clear hx hxe hE hB
        go_wp2_with (first | (at_builtin; go_must (refine wpList_append_own _ rfl _ _ 54 rfl (w.heap.size + 1) 3 i0 (.int .i64 0) 1 8 Try.underlying54 HI.out hz0 hz1 hz2 rfl (by decide) _ _ _ rfl (World.ownsRow.alloc HO.out _) ⟨wr.heap.size, 0, none⟩ 1 1 [.int .i64 x] rfl rfl ?c13 ?c23 ?c33 ?c43 ?c53 ?_)))
        any_goals (first
          | (intro q u hq; exact one_cell hq)
          | (intro u hu; simp at hu; subst hu; rfl)
          | (unfold maxLen; omega)
          | omega
          | (simp; omega))
        intro v' w1 hown' hg hnn
        have HO2 : Hid _ := hown'
        have HG : Hid _ := hg
        clear hown' hg hnn
        go_wp2
        refine ⟨⟨k + 1, d ++ [x], by omega, by go_num, ?_, ?_, HB2, HE2, ?_⟩, ?_⟩
        · rw [List.length_append, hl]; rfl
        · rw [List.map_append]; exact HO2.out
        · exact of_grown hbw HG.out (fun g hg => (World.ownsRow.lt HO.out g hg).1) hsz
        · simp [intOf]; omega
    · have hk32 : k = 32 := by omega
      subst hk32
      clear c0 c1 c2 c3
      go_wp2_with fail
      refine (trim_topped _ _ d (IsN.of_owns HO.out) (by omega) (by omega) hB.out).mono ?_
      rintro e w2 ⟨v, d', rfl, hN, hT, hld, hw2⟩
      have hB2 : Below w.heap.size w w2 := Below.trans (Below.trans (by go_grown) (hbw.mono (by omega))) (hw2.mono (by omega))
      have HT : Hid (Top d' (num a0 a1 a2 a3)) := by
        have := num_bd HA.out
        refine ⟨hT.out.1, by omega, ?_, hT.out.2.2⟩
        rw [hT.out.2.1, hE.out]
        exact Int.emod_eq_of_lt this.1 this.2
      clear hT hE
      go_wp2
      go_ret
      exact ⟨v, d', rfl, hN, HT, hB2⟩
theorem top_low {d : List Int} {n : Int} (h : Top d n) (h0 : d.length ≠ 0) : 256 ^ (d.length - 1) ≤ n := by
  obtain ⟨B, _, e, t⟩ := h
  have h1 := valB_split d (d.length - 1)
  have h2 := drop_step d (d.length - 1)
  have h3 := valB_bd (d.take (d.length - 1)) (B.take _)
  have h4 : valB (d.drop (d.length - 1 + 1)) = 0 := by rw [List.drop_of_length_le (by omega)]; rfl
  have h5 := B (d.length - 1)
  have h6 : 1 ≤ d.getD (d.length - 1) 0 := by
    rcases t with t | t
    · exact absurd t h0
    · omega
  rw [h4] at h2
  have h7 : (256 : Int) ^ (d.length - 1) * 1 ≤ 256 ^ (d.length - 1) * valB (d.drop (d.length - 1)) := Int.mul_le_mul_of_nonneg_left (by omega) (Int.le_of_lt (Int.pow_pos (by decide)))
  omega
theorem top_up {d : List Int} {n : Int} (h : Top d n) : n < 256 ^ d.length := by
  obtain ⟨B, _, e, _⟩ := h
  rw [← e]; exact (valB_bd d B).2
/-- How many bytes a number has. -/
def lenN (n : Int) (l : Nat) : Prop := n < 256 ^ l ∧ (l = 0 ∨ 256 ^ (l - 1) ≤ n)
theorem pow_lt_of {a b : Nat} (h : (256 : Int) ^ a < 256 ^ b) : a < b := by
  rcases Nat.lt_or_ge a b with g | g
  · exact g
  · have := Int.pow_le_pow_of_le_right' g; omega
theorem lenN_eq {n : Int} {a b : Nat} (h0 : 0 ≤ n) (ha : lenN n a) (hb : lenN n b) : a = b := by
  obtain ⟨a1, a2⟩ := ha
  obtain ⟨b1, b2⟩ := hb
  have key : ∀ x y : Nat, n < 256 ^ y → (x = 0 ∨ 256 ^ (x - 1) ≤ n) → x ≤ y := fun x y h1 h2 => by
    rcases h2 with h | h
    · omega
    · have := pow_lt_of (Int.lt_of_le_of_lt h h1); omega
  have h1 := key a b b1 a2
  have h2 := key b a a1 b2
  omega
theorem lenN_top {d : List Int} {n : Int} (h : Top d n) : lenN n d.length := ⟨top_up h, by
  rcases Nat.eq_zero_or_pos d.length with h0 | h0
  · exact Or.inl h0
  · exact Or.inr (top_low h (by omega))⟩
theorem lenN_bits {n : Int} {k : Nat} (h : n < 2 ^ k ∧ (k = 0 ∨ 2 ^ (k - 1) ≤ n)) : lenN n ((k + 7) / 8) := by
  obtain ⟨h1, h2⟩ := h
  refine ⟨?_, ?_⟩
  · rw [pow256]; exact Int.lt_of_lt_of_le h1 (two_pow_le (by omega))
  · rcases h2 with h | h
    · left; omega
    · rcases Nat.eq_zero_or_pos ((k + 7) / 8) with g | g
      · exact Or.inl g
      · right
        rw [pow256]; exact Int.le_trans (two_pow_le (by omega)) h
set_option maxHeartbeats 1000000 in
/-- word.Len -/
theorem len_any (a0 a1 a2 a3 : Int) (ha : L4 a0 a1 a2 a3) (w : World) :
    Calls Try.prog 40 #[W4 a0 a1 a2 a3] w fun e w' => ∃ l : Nat, e = .returned (.int .i64 l) ∧ l ≤ 32 ∧ Hid (lenN (num a0 a1 a2 a3) l) ∧ Below w.heap.size w w' := by
  have HA : Hid _ := ha
  clear ha
  unfold W4
  go_enter Try.func40, Try.ntmps40
  go_wp2_with fail
  refine (bitLen_any a0 a1 a2 a3 HA.out _).mono ?_
  rintro e w1 ⟨n, rfl, hn, HN, hw⟩
  have hB : Below w.heap.size w w1 := Below.trans (by go_grown) (hw.mono (by simp))
  clear hw
  have HL : Hid _ := lenN_bits HN.out
  clear HN
  go_wp2
  go_ret
  exact ⟨(n + 7) / 8, by first | go_num | (simp; done) | (simp; omega), by omega, HL, by go_grown⟩
end Go.Proofs.Ytlpmmejdfenkiaa.Wd
