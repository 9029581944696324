/- WdY3, WdX5, WdB4, WdB6, WdY4, laid into one text. -/
import Derived.Test.YtmnlcpfehbpogaaM5
import Derived.Test.YtmnlcpfehbpogaaM4
import Derived.Laws.IdiomCopy
import Derived.Test.YtmnlcpfehbpogaaM2
import Derived.Test.YtmnlcpfehbpogaaM3
import Derived.Laws.BytesString
import Derived.Laws.BytesArg
/- Walks over bytes: how many a word has. -/
namespace Go.Proofs.Ytmnlcpfehbpogaa.Wd
open Go.RowKit
set_option linter.unusedSimpArgs false
set_option linter.unusedVariables false
theorem two_pow_le {j k : Nat} (h : j ≤ k) : (2 : Int) ^ j ≤ 2 ^ k := by
  have := Nat.pow_le_pow_right (n := 2) (by decide) h
  have e : ∀ k : Nat, (2 : Int) ^ k = ((2 ^ k : Nat) : Int) := fun k => by simp
  rw [e, e]; omega
set_option maxRecDepth 100000 in
set_option maxHeartbeats 1000000 in
theorem trim_top (w : World) (b o cap : Nat) (d : List Int) (hd : d.length < 4096) (hcap : d.length ≤ cap) (hb : b < w.heap.size) (hc : ∀ k, k < d.length → w.cell? ⟨b, o + k, none⟩ = some (.int .i64 (d.getD k 0))) :
    Calls Try.prog 59 #[.slice (some ⟨b, o, none⟩) d.length cap] w fun e w' => ∃ (v : Value) (k : Nat), e = .returned v ∧ IsN w' v (d.take k) ∧ Hid (k ≤ d.length ∧ (∀ j, k ≤ j → d.getD j 0 = 0) ∧ (k = 0 ∨ d.getD (k - 1) 0 ≠ 0)) ∧ Below w.heap.size w w' := by
  have HC : Hid _ := hc
  clear hc
  obtain ⟨i0, hi, hz0, hz1, hz2⟩ := info_parts Try.info3
  have HI : Hid _ := hi
  clear hi
  go_enter Try.func59, Try.ntmps59
  go_wp2
  go_loop [3] (fun s => ∃ k : Nat, k ≤ d.length ∧ s = .int .i64 k ∧ Hid (∀ j, k ≤ j → d.getD j 0 = 0)) (fun s => (intOf s).toNat)
  case atStart => exact ⟨d.length, Nat.le_refl _, rfl, fun j hj => by simp [List.getD, List.getElem?_eq_none hj]⟩
  case round =>
    obtain ⟨k, hk, rfl, hz⟩ := hrel
    have HN : Hid _ := trim_news (w.alloc (.cells #[] 3)) b o d k hk (fun k hk => (World.cell?_alloc_past _ _ _ hb).trans (HC.out k hk))
    by_cases h0 : k = 0
    · subst h0
      go_wp2_with (first | (at_builtin; refine wpList_append_own _ rfl _ _ 93 rfl w.heap.size 3 i0 (.int .i64 0) 1 8 Try.underlying93 HI.out hz0 hz1 hz2 rfl (by decide) _ _ _ rfl (World.ownsRow_made w #[] 0 (Nat.le_refl _) (by decide) rfl) ⟨b, o, none⟩ 0 cap [] rfl rfl ?c1 ?c2 ?c3 ?c4 ?c5 ?_))
      all_goals first
        | (intro v' w1 hown hg hnn
           clear hnn
           go_wp2
           go_ret
           exact ⟨v', 0, rfl, IsN.of_owns (by simpa using hown), ⟨hk, hz.out, Or.inl rfl⟩, Below.grown (by go_grown) hg (by simp) (by simp [Value.ownBlock])⟩)
        | (intro j u hj; simp at hj; done)
        | (intro u hu; simp at hu; done)
        | decide
        | (simp; done)
    · obtain ⟨m, rfl⟩ : ∃ m, k = m + 1 := ⟨k - 1, by omega⟩
      have hcm := HC.out m (by omega)
      by_cases hx : d.getD m 0 = 0
      · have hxx : (d[m]?.getD 0 == 0) = true := by simpa [List.getD] using hx
        have hzm : Hid (∀ j, m ≤ j → d.getD j 0 = 0) := fun j hj => by
          rcases Nat.lt_or_ge m j with g | g
          · exact hz.out j (by omega)
          · have e : j = m := by omega
            rw [e]; exact hx
        go_wp2
        exact ⟨⟨m, by omega, by go_num, hzm⟩, by simp [intOf]⟩
      · have hxx : (d[m]?.getD 0 == 0) = false := by simpa [List.getD] using hx
        have hle : (m : Int) + 1 ≤ cap := by omega
        go_wp2_with (first | (at_builtin; go_must (refine wpList_append_own _ rfl _ _ 93 rfl w.heap.size 3 i0 (.int .i64 0) 1 8 Try.underlying93 HI.out hz0 hz1 hz2 rfl (by decide) _ _ _ rfl (World.ownsRow_made w #[] 0 (Nat.le_refl _) (by decide) rfl) ⟨b, o, none⟩ (m + 1) cap ((d.take (m + 1)).map (Value.int .i64)) rfl ?e0 HN.out ?e2 ?e3 ?e4 ?e5 ?_)))
        all_goals first
          | (intro v' w1 hown hg hnn
             clear hnn
             go_wp2
             go_ret
             exact ⟨v', m + 1, rfl, IsN.of_owns (by simpa using hown), ⟨hk, hz.out, Or.inr hx⟩, Below.grown (by go_grown) hg (by simp) (by simp [Value.ownBlock])⟩)
          | exact oneCell_take d _
          | (unfold maxLen; omega)
          | omega
          | (simp; done)
          | (simp; omega)
/-- The digits of a number, no nought at the end. -/
def Top (d : List Int) (n : Int) : Prop := Byt d ∧ d.length ≤ 32 ∧ valB d = n ∧ (d.length = 0 ∨ d.getD (d.length - 1) 0 ≠ 0)
theorem trim_topped (w : World) (v : Value) (d : List Int) (h : IsN w v d) (h0 : 0 < d.length) (hd : d.length < 4096) (hB : Byt d) :
    Calls Try.prog 59 #[v] w fun e w' => ∃ (v' : Value) (d' : List Int), e = .returned v' ∧ IsN w' v' d' ∧ Hid (Byt d' ∧ valB d' = valB d ∧ (d'.length = 0 ∨ d'.getD (d'.length - 1) 0 ≠ 0)) ∧ d'.length ≤ d.length ∧ Below w.heap.size w w' := by
  obtain ⟨a, cap, rfl, hcap, h⟩ := h
  obtain ⟨b, o, rfl, hb, hc⟩ := h h0
  refine (trim_top w b o cap d hd hcap hb hc).mono ?_
  rintro e w' ⟨v, k, rfl, hN, hk, hw⟩
  obtain ⟨h1, h2, h3⟩ := hk.out
  have hl : (d.take k).length = k := by simp; omega
  refine ⟨v, _, rfl, hN, ⟨hB.take k, valB_take d k h2, ?_⟩, by omega, hw⟩
  rw [hl]
  rcases h3 with h | h
  · exact Or.inl h
  · rcases Nat.eq_zero_or_pos k with hk0 | hk0
    · exact Or.inl hk0
    · refine Or.inr ?_
      have : (d.take k).getD (k - 1) 0 = d.getD (k - 1) 0 := by simp only [List.getD]; rw [List.getElem?_take_of_lt (by omega)]
      rw [this]; exact h
set_option maxRecDepth 100000 in
set_option maxHeartbeats 4000000 in
theorem of_top (a0 a1 a2 a3 : Int) (ha : L4 a0 a1 a2 a3) (w : World) :
    Calls Try.prog 62 #[W4 a0 a1 a2 a3] w fun e w' => ∃ (v : Value) (d : List Int), e = .returned v ∧ IsN w' v d ∧ Hid (Top d (num a0 a1 a2 a3)) ∧ Below w.heap.size w w' := by
  have HA : Hid _ := ha
  clear ha
  obtain ⟨i0, hi, hz0, hz1, hz2⟩ := info_parts Try.info3
  have HI : Hid _ := hi
  clear hi
  unfold W4
  go_enter Try.func62, Try.ntmps62
  go_wp2
  go_loopw [3, 4] (fun s i wr => ∃ (k : Nat) (d : List Int), k ≤ 32 ∧ i = .int .i64 k ∧ d.length = k ∧ wr.ownsRow (w.heap.size + 1) 3 1 s k (d.map (Value.int .i64)) ∧ Hid (Byt d) ∧ Hid (valB d = num a0 a1 a2 a3 % 256 ^ k) ∧ Below (w.heap.size + 1) (w.alloc (.cells #[.int .u64 a0, .int .u64 a1, .int .u64 a2, .int .u64 a3] 50)) wr) (fun _ i _ => 32 - (intOf i).toNat)
  case atStart => exact ⟨0, [], by omega, rfl, rfl, World.ownsRow_nil _ _ _ _, fun k => ⟨by simp, by simp⟩, by show _ = _; simp [valB, Int.emod_one], Below.refl _ _⟩
  case round =>
    obtain ⟨k, d, hk, rfl, hl, hown, hB, hE, hbw⟩ := hrel
    have c0 : wr.cell? ⟨w.heap.size, 0, none⟩ = some (.int .u64 a0) := (hbw.cell (p := ⟨w.heap.size, 0, none⟩) (by simp)).trans (by simp [go_sem])
    have c1 : wr.cell? ⟨w.heap.size, 1, none⟩ = some (.int .u64 a1) := (hbw.cell (p := ⟨w.heap.size, 1, none⟩) (by simp)).trans (by simp [go_sem])
    have c2 : wr.cell? ⟨w.heap.size, 2, none⟩ = some (.int .u64 a2) := (hbw.cell (p := ⟨w.heap.size, 2, none⟩) (by simp)).trans (by simp [go_sem])
    have c3 : wr.cell? ⟨w.heap.size, 3, none⟩ = some (.int .u64 a3) := (hbw.cell (p := ⟨w.heap.size, 3, none⟩) (by simp)).trans (by simp [go_sem])
    have hsz : w.heap.size + 1 ≤ wr.heap.size := by have := hbw.size; simp at this; omega
    have HO : Hid _ := hown
    clear hown
    by_cases hlt : k < 32
    · rcases (by omega : k < 8 ∨ (8 ≤ k ∧ k < 16) ∨ (16 ≤ k ∧ k < 24) ∨ (24 ≤ k ∧ k < 32)) with h8 | ⟨h8, h8'⟩ | ⟨h8, h8'⟩ | ⟨h8, h8'⟩
      · skip
        have hq : (k : Int) / 8 = 0 := by omega
        obtain ⟨x, hx⟩ : ∃ x, x = bits .and .i64 (wrap64 (a0 / 2 ^ (8 * (k % 8)))) 255 := ⟨_, rfl⟩
        have hxe : x = lowN (num a0 a1 a2 a3) k := by
          rw [hx, byte_of a0 (8 * (k % 8))]
          have := low_num0 (i := (k : Int)) (by omega) (by omega) HA.out
          rw [show (8 * ((k : Int) % 8)).toNat = 8 * (k % 8) from by omega] at this
          exact this
        have hx0 : 0 ≤ x ∧ x < 256 := by rw [hxe]; unfold lowN; omega
        obtain ⟨hx0, hx1⟩ := hx0
        have HE2 : Hid (valB (d ++ [x]) = num a0 a1 a2 a3 % 256 ^ (k + 1)) := by
          show _ = _
          rw [valB_append, hl, hE.out, hxe]; exact low_step _ k
        have HB2 : Hid (Byt (d ++ [x])) := hB.out.append hx0 hx1
        have hxr : bits .and .i64 (wrap64 (a0 / 2 ^ (8 * (k % 8)))) 255 = x := hx.symm
        clear hx hxe hE hB
        go_wp2_with (first | (at_builtin; go_must (refine wpList_append_own _ rfl _ _ 93 rfl (w.heap.size + 1) 3 i0 (.int .i64 0) 1 8 Try.underlying93 HI.out hz0 hz1 hz2 rfl (by decide) _ _ _ rfl (World.ownsRow.alloc HO.out _) ⟨wr.heap.size, 0, none⟩ 1 1 [.int .i64 x] rfl rfl ?c10 ?c20 ?c30 ?c40 ?c50 ?_)))
        any_goals (first
          | (intro q u hq; exact one_cell hq)
          | (intro u hu; simp at hu; subst hu; rfl)
          | (unfold maxLen; omega)
          | omega
          | (simp; omega))
        intro v' w1 hown' hg hnn
        have HO2 : Hid _ := hown'
        have HG : Hid _ := hg
        clear hown' hg hnn
        go_wp2
        refine ⟨⟨k + 1, d ++ [x], by omega, by go_num, ?_, ?_, HB2, HE2, ?_⟩, ?_⟩
        · rw [List.length_append, hl]; rfl
        · rw [List.map_append]; exact HO2.out
        · exact of_grown hbw HG.out (fun g hg => (World.ownsRow.lt HO.out g hg).1) hsz
        · simp [intOf]; omega
      · skip
        have hq : (k : Int) / 8 = 1 := by omega
        obtain ⟨x, hx⟩ : ∃ x, x = bits .and .i64 (wrap64 (a1 / 2 ^ (8 * (k % 8)))) 255 := ⟨_, rfl⟩
        have hxe : x = lowN (num a0 a1 a2 a3) k := by
          rw [hx, byte_of a1 (8 * (k % 8))]
          have := low_num1 (i := (k : Int)) (by omega) (by omega) HA.out
          rw [show (8 * ((k : Int) % 8)).toNat = 8 * (k % 8) from by omega] at this
          exact this
        have hx0 : 0 ≤ x ∧ x < 256 := by rw [hxe]; unfold lowN; omega
        obtain ⟨hx0, hx1⟩ := hx0
        have HE2 : Hid (valB (d ++ [x]) = num a0 a1 a2 a3 % 256 ^ (k + 1)) := by
          show _ = _
          rw [valB_append, hl, hE.out, hxe]; exact low_step _ k
        have HB2 : Hid (Byt (d ++ [x])) := hB.out.append hx0 hx1
        have hxr : bits .and .i64 (wrap64 (a1 / 2 ^ (8 * (k % 8)))) 255 = x := hx.symm
        clear hx hxe hE hB
        go_wp2_with (first | (at_builtin; go_must (refine wpList_append_own _ rfl _ _ 93 rfl (w.heap.size + 1) 3 i0 (.int .i64 0) 1 8 Try.underlying93 HI.out hz0 hz1 hz2 rfl (by decide) _ _ _ rfl (World.ownsRow.alloc HO.out _) ⟨wr.heap.size, 0, none⟩ 1 1 [.int .i64 x] rfl rfl ?c11 ?c21 ?c31 ?c41 ?c51 ?_)))
        any_goals (first
          | (intro q u hq; exact one_cell hq)
          | (intro u hu; simp at hu; subst hu; rfl)
          | (unfold maxLen; omega)
          | omega
          | (simp; omega))
        intro v' w1 hown' hg hnn
        have HO2 : Hid _ := hown'
        have HG : Hid _ := hg
        clear hown' hg hnn
        go_wp2
        refine ⟨⟨k + 1, d ++ [x], by omega, by go_num, ?_, ?_, HB2, HE2, ?_⟩, ?_⟩
        · rw [List.length_append, hl]; rfl
        · rw [List.map_append]; exact HO2.out
        · exact of_grown hbw HG.out (fun g hg => (World.ownsRow.lt HO.out g hg).1) hsz
        · simp [intOf]; omega
      · skip
        have hq : (k : Int) / 8 = 2 := by omega
        obtain ⟨x, hx⟩ : ∃ x, x = bits .and .i64 (wrap64 (a2 / 2 ^ (8 * (k % 8)))) 255 := ⟨_, rfl⟩
        have hxe : x = lowN (num a0 a1 a2 a3) k := by
          rw [hx, byte_of a2 (8 * (k % 8))]
          have := low_num2 (i := (k : Int)) (by omega) (by omega) HA.out
          rw [show (8 * ((k : Int) % 8)).toNat = 8 * (k % 8) from by omega] at this
          exact this
        have hx0 : 0 ≤ x ∧ x < 256 := by rw [hxe]; unfold lowN; omega
        obtain ⟨hx0, hx1⟩ := hx0
        have HE2 : Hid (valB (d ++ [x]) = num a0 a1 a2 a3 % 256 ^ (k + 1)) := by
          show _ = _
          rw [valB_append, hl, hE.out, hxe]; exact low_step _ k
        have HB2 : Hid (Byt (d ++ [x])) := hB.out.append hx0 hx1
        have hxr : bits .and .i64 (wrap64 (a2 / 2 ^ (8 * (k % 8)))) 255 = x := hx.symm
        clear hx hxe hE hB
        go_wp2_with (first | (at_builtin; go_must (refine wpList_append_own _ rfl _ _ 93 rfl (w.heap.size + 1) 3 i0 (.int .i64 0) 1 8 Try.underlying93 HI.out hz0 hz1 hz2 rfl (by decide) _ _ _ rfl (World.ownsRow.alloc HO.out _) ⟨wr.heap.size, 0, none⟩ 1 1 [.int .i64 x] rfl rfl ?c12 ?c22 ?c32 ?c42 ?c52 ?_)))
        any_goals (first
          | (intro q u hq; exact one_cell hq)
          | (intro u hu; simp at hu; subst hu; rfl)
          | (unfold maxLen; omega)
          | omega
          | (simp; omega))
        intro v' w1 hown' hg hnn
        have HO2 : Hid _ := hown'
        have HG : Hid _ := hg
        clear hown' hg hnn
        go_wp2
        refine ⟨⟨k + 1, d ++ [x], by omega, by go_num, ?_, ?_, HB2, HE2, ?_⟩, ?_⟩
        · rw [List.length_append, hl]; rfl
        · rw [List.map_append]; exact HO2.out
        · exact of_grown hbw HG.out (fun g hg => (World.ownsRow.lt HO.out g hg).1) hsz
        · simp [intOf]; omega
      · skip
        have hq : (k : Int) / 8 = 3 := by omega
        obtain ⟨x, hx⟩ : ∃ x, x = bits .and .i64 (wrap64 (a3 / 2 ^ (8 * (k % 8)))) 255 := ⟨_, rfl⟩
        have hxe : x = lowN (num a0 a1 a2 a3) k := by
          rw [hx, byte_of a3 (8 * (k % 8))]
          have := low_num3 (i := (k : Int)) (by omega) (by omega) HA.out
          rw [show (8 * ((k : Int) % 8)).toNat = 8 * (k % 8) from by omega] at this
          exact this
        have hx0 : 0 ≤ x ∧ x < 256 := by rw [hxe]; unfold lowN; omega
        obtain ⟨hx0, hx1⟩ := hx0
        have HE2 : Hid (valB (d ++ [x]) = num a0 a1 a2 a3 % 256 ^ (k + 1)) := by
          show _ = _
          rw [valB_append, hl, hE.out, hxe]; exact low_step _ k
        have HB2 : Hid (Byt (d ++ [x])) := hB.out.append hx0 hx1
        have hxr : bits .and .i64 (wrap64 (a3 / 2 ^ (8 * (k % 8)))) 255 = x := hx.symm
        clear hx hxe hE hB
        go_wp2_with (first | (at_builtin; go_must (refine wpList_append_own _ rfl _ _ 93 rfl (w.heap.size + 1) 3 i0 (.int .i64 0) 1 8 Try.underlying93 HI.out hz0 hz1 hz2 rfl (by decide) _ _ _ rfl (World.ownsRow.alloc HO.out _) ⟨wr.heap.size, 0, none⟩ 1 1 [.int .i64 x] rfl rfl ?c13 ?c23 ?c33 ?c43 ?c53 ?_)))
        any_goals (first
          | (intro q u hq; exact one_cell hq)
          | (intro u hu; simp at hu; subst hu; rfl)
          | (unfold maxLen; omega)
          | omega
          | (simp; omega))
        intro v' w1 hown' hg hnn
        have HO2 : Hid _ := hown'
        have HG : Hid _ := hg
        clear hown' hg hnn
        go_wp2
        refine ⟨⟨k + 1, d ++ [x], by omega, by go_num, ?_, ?_, HB2, HE2, ?_⟩, ?_⟩
        · rw [List.length_append, hl]; rfl
        · rw [List.map_append]; exact HO2.out
        · exact of_grown hbw HG.out (fun g hg => (World.ownsRow.lt HO.out g hg).1) hsz
        · simp [intOf]; omega
    · have hk32 : k = 32 := by omega
      subst hk32
      clear c0 c1 c2 c3
      go_wp2_with fail
      refine (trim_topped _ _ d (IsN.of_owns HO.out) (by omega) (by omega) hB.out).mono ?_
      rintro e w2 ⟨v, d', rfl, hN, hT, hld, hw2⟩
      have hB2 : Below w.heap.size w w2 := Below.trans (Below.trans (by go_grown) (hbw.mono (by omega))) (hw2.mono (by omega))
      have HT : Hid (Top d' (num a0 a1 a2 a3)) := by
        have := num_bd HA.out
        refine ⟨hT.out.1, by omega, ?_, hT.out.2.2⟩
        rw [hT.out.2.1, hE.out]
        exact Int.emod_eq_of_lt this.1 this.2
      clear hT hE
      go_wp2
      go_ret
      exact ⟨v, d', rfl, hN, HT, hB2⟩
theorem top_low {d : List Int} {n : Int} (h : Top d n) (h0 : d.length ≠ 0) : 256 ^ (d.length - 1) ≤ n := by
  obtain ⟨B, _, e, t⟩ := h
  have h1 := valB_split d (d.length - 1)
  have h2 := drop_step d (d.length - 1)
  have h3 := valB_bd (d.take (d.length - 1)) (B.take _)
  have h4 : valB (d.drop (d.length - 1 + 1)) = 0 := by rw [List.drop_of_length_le (by omega)]; rfl
  have h5 := B (d.length - 1)
  have h6 : 1 ≤ d.getD (d.length - 1) 0 := by
    rcases t with t | t
    · exact absurd t h0
    · omega
  rw [h4] at h2
  have h7 : (256 : Int) ^ (d.length - 1) * 1 ≤ 256 ^ (d.length - 1) * valB (d.drop (d.length - 1)) := Int.mul_le_mul_of_nonneg_left (by omega) (Int.le_of_lt (Int.pow_pos (by decide)))
  omega
theorem top_up {d : List Int} {n : Int} (h : Top d n) : n < 256 ^ d.length := by
  obtain ⟨B, _, e, _⟩ := h
  rw [← e]; exact (valB_bd d B).2
/-- How many bytes a number has. -/
def lenN (n : Int) (l : Nat) : Prop := n < 256 ^ l ∧ (l = 0 ∨ 256 ^ (l - 1) ≤ n)
theorem lenN_top {d : List Int} {n : Int} (h : Top d n) : lenN n d.length := ⟨top_up h, by
  rcases Nat.eq_zero_or_pos d.length with h0 | h0
  · exact Or.inl h0
  · exact Or.inr (top_low h (by omega))⟩
theorem lenN_bits {n : Int} {k : Nat} (h : n < 2 ^ k ∧ (k = 0 ∨ 2 ^ (k - 1) ≤ n)) : lenN n ((k + 7) / 8) := by
  obtain ⟨h1, h2⟩ := h
  refine ⟨?_, ?_⟩
  · rw [pow256]; exact Int.lt_of_lt_of_le h1 (two_pow_le (by omega))
  · rcases h2 with h | h
    · left; omega
    · rcases Nat.eq_zero_or_pos ((k + 7) / 8) with g | g
      · exact Or.inl g
      · right
        rw [pow256]; exact Int.le_trans (two_pow_le (by omega)) h
set_option maxRecDepth 100000 in
set_option maxHeartbeats 1000000 in
/-- word.Len -/
theorem len_any (a0 a1 a2 a3 : Int) (ha : L4 a0 a1 a2 a3) (w : World) :
    Calls Try.prog 60 #[W4 a0 a1 a2 a3] w fun e w' => ∃ l : Nat, e = .returned (.int .i64 l) ∧ l ≤ 32 ∧ Hid (lenN (num a0 a1 a2 a3) l) ∧ Below w.heap.size w w' := by
  have HA : Hid _ := ha
  clear ha
  unfold W4
  go_enter Try.func60, Try.ntmps60
  go_wp2_with fail
  refine (bitLen_any a0 a1 a2 a3 HA.out _).mono ?_
  rintro e w1 ⟨n, rfl, hn, HN, hw⟩
  have hB : Below w.heap.size w w1 := Below.trans (by go_grown) (hw.mono (by simp))
  clear hw
  have HL : Hid _ := lenN_bits HN.out
  clear HN
  go_wp2
  go_ret
  exact ⟨(n + 7) / 8, by first | go_num | (simp; done) | (simp; omega), by omega, HL, by go_grown⟩
end Go.Proofs.Ytmnlcpfehbpogaa.Wd
/- Walks over package word: quotients and what is left, signed. -/
namespace Go.Proofs.Ytmnlcpfehbpogaa.Wd
open Go.RowKit
set_option linter.unusedSimpArgs false
set_option linter.unusedVariables false
/-- A block of four limbs. -/
def Cel (w : World) (b : Nat) (x0 x1 x2 x3 : Int) : Prop := b < w.heap.size ∧ w.cell? ⟨b, 0, none⟩ = some (.int .u64 x0) ∧ w.cell? ⟨b, 1, none⟩ = some (.int .u64 x1) ∧ w.cell? ⟨b, 2, none⟩ = some (.int .u64 x2) ∧ w.cell? ⟨b, 3, none⟩ = some (.int .u64 x3)
theorem Cel.on {W0 W w1 : World} {b : Nat} {x0 x1 x2 x3 : Int} (h : Cel W0 b x0 x1 x2 x3) (e : W.heap = W0.heap) (hb : Below W.heap.size W w1) : Cel w1 b x0 x1 x2 x3 := by
  obtain ⟨hz, c0, c1, c2, c3⟩ := h
  have hz' : b < W.heap.size := by rw [e]; exact hz
  have hc : ∀ k, W.cell? ⟨b, k, none⟩ = W0.cell? ⟨b, k, none⟩ := fun k => by unfold World.cell?; rw [e]
  exact ⟨Nat.lt_of_lt_of_le hz' hb.size, ((hb.cell (p := ⟨b, 0, none⟩) hz').trans (hc 0)).trans c0, ((hb.cell (p := ⟨b, 1, none⟩) hz').trans (hc 1)).trans c1, ((hb.cell (p := ⟨b, 2, none⟩) hz').trans (hc 2)).trans c2, ((hb.cell (p := ⟨b, 3, none⟩) hz').trans (hc 3)).trans c3⟩
end Go.Proofs.Ytmnlcpfehbpogaa.Wd
/- The document's shifts and signs: plain arithmetic. -/
namespace Go.Proofs.Ytmnlcpfehbpogaa.Wd
open Go.RowKit
set_option linter.unusedVariables false
theorem turned (x P R : Int) (hP : 0 < P) (h : P * R = T256) : T256 - 1 - (T256 - 1 - x) / P = x / P + (T256 - R) := by
  have h1 := Int.mul_ediv_add_emod x P
  have h2 := Int.emod_nonneg x (Int.ne_of_gt hP)
  have h3 := Int.emod_lt_of_pos x hP
  generalize x / P = q at *
  generalize x % P = r at *
  have e : T256 - 1 - x = (P - 1 - r) + P * (R - q - 1) := by rw [Int.mul_sub, Int.mul_sub, h, Int.mul_one, ← h1]; omega
  rw [e, Int.add_mul_ediv_left _ _ (Int.ne_of_gt hP), Int.ediv_eq_zero_of_lt (by omega) (by omega)]
  omega
end Go.Proofs.Ytmnlcpfehbpogaa.Wd
/- Walks over the document's own answers: shifts down. -/
namespace Go.Proofs.Ytmnlcpfehbpogaa.Wd
open Go.RowKit
set_option linter.unusedSimpArgs false
set_option linter.unusedVariables false
theorem Blk.onto {w : World} {b : Nat} {x0 x1 x2 x3 : Int} (h : Blk w b x0 x1 x2 x3) (o : Obj) : Blk (w.alloc o) b x0 x1 x2 x3 := by
  obtain ⟨hz, c0, c1, c2, c3, f⟩ := h
  refine ⟨by simp; omega, ?_, ?_, ?_, ?_, fun k => ?_⟩
  · rw [World.cell?_alloc_past _ _ _ hz]; exact c0
  · rw [World.cell?_alloc_past _ _ _ hz]; exact c1
  · rw [World.cell?_alloc_past _ _ _ hz]; exact c2
  · rw [World.cell?_alloc_past _ _ _ hz]; exact c3
  · rw [World.frozen?_alloc_past _ _ _ hz]; exact f k
end Go.Proofs.Ytmnlcpfehbpogaa.Wd
/- Walks over bytes: how words are written. -/
namespace Go.Proofs.Ytmnlcpfehbpogaa.Wd
open Go.RowKit
set_option linter.unusedSimpArgs false
set_option linter.unusedVariables false
/-- The byte number j of n, the highest first, laid up to k from the lowest on. -/
def laidN (X : Int) (n k : Nat) (j : Nat) : Value := .int .u8 (if n - 1 - j < k then X / 256 ^ (n - 1 - j) % 256 else 0)
theorem laidN_step {w : World} {c : Nat} {X : Int} {n k : Nat} (h : w.rowIs c 5 n (laidN X n k)) (hk : k < n) : (w.setCell ⟨c, n - 1 - k, none⟩ (.int .u8 (X / 256 ^ k % 256))).rowIs c 5 n (laidN X n (k + 1)) :=
  World.rowIs.congr (World.rowIs.set h (n - 1 - k) (.int .u8 (X / 256 ^ k % 256))) (fun i hi => by
    by_cases e : i = n - 1 - k
    · rw [if_pos e]; unfold laidN; rw [if_pos (by omega), show n - 1 - i = k from by omega]
    · rw [if_neg e]; unfold laidN
      by_cases h : n - 1 - i < k
      · rw [if_pos h, if_pos (by omega)]
      · rw [if_neg h, if_neg (by omega)])
theorem blk_far {w : World} {b c : Nat} {x0 x1 x2 x3 : Int} (h : Blk w b x0 x1 x2 x3) (e : c ≠ b) (o : Nat) (v : Value) : Blk (w.setCell ⟨c, o, none⟩ v) b x0 x1 x2 x3 := by
  obtain ⟨hz, c0, c1, c2, c3, f⟩ := h
  refine ⟨by rw [size_set]; exact hz, ?_, ?_, ?_, ?_, fun k => frozen_set (f k)⟩
  all_goals (rw [World.cell?_setCell_far _ _ _ _ (by simpa using e)]; assumption)
set_option maxRecDepth 100000 in
set_option maxHeartbeats 4000000 in
/-- word.Short -/
theorem short_any (a0 a1 a2 a3 : Int) (ha : L4 a0 a1 a2 a3) (w : World) :
    Calls Try.prog 43 #[W4 a0 a1 a2 a3] w fun e w' => ∃ l : Nat, l ≤ 32 ∧ Hid (lenN (num a0 a1 a2 a3) l) ∧ ∃ b, e = .returned (.slice (some ⟨b, 0, none⟩) l l) ∧ w.heap.size ≤ b ∧ w'.rowIs b 5 l (fun j => .int .u8 (num a0 a1 a2 a3 / 256 ^ (l - 1 - j) % 256)) ∧ Below w.heap.size w w' := by
  have HA : Hid _ := ha
  clear ha
  have hmk0 : ∀ (l : Nat), l ≤ 32 → ∀ w : World, (Instr.makeSlice 22 (.int .i64 l) (.int .i64 l)).run Try.prog w = .ok (.slice (some ⟨w.heap.size, 0, none⟩) l l) (w.alloc (.cells (madeCells #[.int .u8 0] l) 5)) := fun l hl => run_make_row' (P := Try.prog) 22 5 (.int .u8 0) 1 Try.underlying22 Try.info5 rfl .i64 .i64 l (by omega) (by omega)
  unfold W4
  go_enter Try.func43, Try.ntmps43
  go_wp2_with fail
  have KW : Hid (Blk (w.alloc (.cells #[.int .u64 a0, .int .u64 a1, .int .u64 a2, .int .u64 a3] 50)) w.heap.size a0 a1 a2 a3) := by refine ⟨by simp, ?_, ?_, ?_, ?_, fun k => ?_⟩ <;> simp [go_sem]
  have hB : Below w.heap.size w (w.alloc (.cells #[.int .u64 a0, .int .u64 a1, .int .u64 a2, .int .u64 a3] 50)) := by go_grown
  generalize (w.alloc (.cells #[.int .u64 a0, .int .u64 a1, .int .u64 a2, .int .u64 a3] 50)) = w0 at *
  refine (len_any a0 a1 a2 a3 HA.out _).mono ?_
  rintro e w1 ⟨l, rfl, hl, HL, hw⟩
  have KW : Hid _ := Blk.below KW.out hw
  have hB : Below w.heap.size w w1 := hB.trans (hw.mono hB.size)
  clear hw
  have hmk := hmk0 l hl
  clear hmk0
  go_wp2
  have hz1 : w.heap.size < w1.heap.size := KW.out.1
  have KW : Hid (Blk (w1.alloc (.cells (madeCells #[.int .u8 0] l) 5)) w.heap.size a0 a1 a2 a3) := Blk.onto KW.out _
  have hrow : (w1.alloc (.cells (madeCells #[.int .u8 0] l) 5)).rowIs w1.heap.size 5 l (laidN (num a0 a1 a2 a3) l 0) := World.rowIs.congr (World.rowIs_made w1 (.int .u8 0) l 5) (fun i hi => by unfold laidN; rw [if_neg (by omega)])
  have hB : Below w.heap.size w (w1.alloc (.cells (madeCells #[.int .u8 0] l) 5)) := hB.alloc hB.size _
  clear hmk
  have hcw : w.heap.size ≤ w1.heap.size := by omega
  have hne : w1.heap.size ≠ w.heap.size := by omega
  clear hz1
  generalize w1.heap.size = c at *
  generalize (w1.alloc (.cells (madeCells #[.int .u8 0] l) 5)) = w2 at *
  go_loopw [11] (fun i wr => ∃ (k : Nat), k ≤ l ∧ i = .int .i64 k ∧ wr.rowIs c 5 l (laidN (num a0 a1 a2 a3) l k) ∧ Hid (Blk wr w.heap.size a0 a1 a2 a3) ∧ Below w.heap.size w wr) (fun i _ => 32 - (intOf i).toNat)
  case atStart => exact ⟨0, by omega, rfl, hrow, KW, hB⟩
  case round =>
    clear hrow KW hB
    obtain ⟨k, hk, rfl, hrow, KW, hB⟩ := hrel
    by_cases hlt : k < l
    · have HLB : Hid _ := lowByte_any a0 a1 a2 a3 (k : Int) HA.out (by omega) (by omega)
      have hlow : lowN (num a0 a1 a2 a3) (k : Int) = num a0 a1 a2 a3 / 256 ^ k % 256 := by unfold lowN; rw [pow256, show (8 * (k : Int)).toNat = 8 * k from by omega]
      have hx : 0 ≤ num a0 a1 a2 a3 / 256 ^ k % 256 ∧ num a0 a1 a2 a3 / 256 ^ k % 256 < 256 := by omega
      rw [hlow] at HLB
      have hrow2 : Hid (∀ o, ((wr.setCell ⟨c, l - 1 - k, none⟩ (.int .u8 (num a0 a1 a2 a3 / 256 ^ k % 256))).alloc o).rowIs c 5 l (laidN (num a0 a1 a2 a3) l (k + 1))) := fun o => World.rowIs.alloc (laidN_step hrow hlt) o
      have hcl := World.rowIs.lt hrow
      have hc2 : ∀ o, (wr.alloc o).cell? ⟨c, l - 1 - k, none⟩ = some (laidN (num a0 a1 a2 a3) l k (l - 1 - k)) := fun o => World.rowIs.cell (World.rowIs.alloc hrow o) (by omega)
      have hfz : ∀ o, (wr.alloc o).frozen? ⟨c, l - 1 - k, none⟩ = false := fun o => World.rowIs.frozen (World.rowIs.alloc hrow o) _
      obtain ⟨old, hold⟩ : ∃ old, laidN (num a0 a1 a2 a3) l k (l - 1 - k) = .int .u8 old := ⟨_, rfl⟩
      rw [hold] at hc2
      have e31 : ((l : Int) - 1 - (k : Int)).toNat = l - 1 - k := by omega
      generalize num a0 a1 a2 a3 / 256 ^ k % 256 = x at *
      obtain ⟨hx0, hx1⟩ := hx
      clear hlow hold hrow
      obtain ⟨zW, W0_, W1_, W2_, W3_, fW⟩ := KW.out
      
      go_wp2_with fail
      refine Calls.mono (HLB.out _) ?_
      rintro e w3 ⟨rfl, cc, rfl⟩
      have hc3 := hc2 (.cells cc 50)
      have hfz3 := hfz (.cells cc 50)
      clear hc2 hfz
      go_wp2
      exact ⟨⟨k + 1, by omega, by go_num, hrow2.out _, Blk.onto (blk_far KW.out hne _ _) _, by go_grown⟩, by simp [intOf]; omega⟩
    · have hkl : k = l := by omega
      have hrow3 : Hid (wr.rowIs c 5 l (fun j => .int .u8 (num a0 a1 a2 a3 / 256 ^ (l - 1 - j) % 256))) := World.rowIs.congr hrow (fun i hi => by
        unfold laidN; rw [if_pos (by omega)])
      clear hrow hkl
      have hd' : decide ((k : Int) < (l : Int)) = false := by simp; omega
      go_wp2
      go_ret
      exact ⟨l, hl, HL, c, rfl, hcw, hrow3.out, hB⟩

end Go.Proofs.Ytmnlcpfehbpogaa.Wd
