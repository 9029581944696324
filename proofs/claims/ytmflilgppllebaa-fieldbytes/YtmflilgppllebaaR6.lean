/- Walks over the document's own numbers: differences. -/
import Derived.Test.YtmflilgppllebaaR4
namespace Go.Proofs.Ytmflilgppllebaa
open Go.RowKit
set_option linter.unusedSimpArgs false
set_option maxRecDepth 20000
set_option linter.unusedVariables false
set_option maxHeartbeats 2000000 in
theorem less_any (w : World) (va vb : Value) (a b : List Int) (ha : IsN w va a) (hb : IsN w vb b) (la0 : 0 < a.length) (la : a.length < 1000) (lb : b.length < 1000) (Ba : Byt a) (Bb : Byt b) (hle : valB b ≤ valB a) :
    Calls Try.prog 43 #[va, vb] w fun e w' => ∃ (v : Value) (d : List Int), e = .returned v ∧ IsN w' v d ∧ Byt d ∧ d.length ≤ a.length ∧ Hid (valB d = valB a - valB b) ∧ Below w.heap.size w w' := by
  have HA : Hid (∀ wr, Below w.heap.size w wr → ∀ (i : Nat), i < 4096 → Calls Try.prog 69 #[va, .int .i64 i] wr fun e w' => e = .returned (.int .i64 (a.getD i 0)) ∧ w' = wr) := fun wr hw i hi => at_any _ va a i (ha.below hw) (by omega) hi
  have HB : Hid (∀ wr, Below w.heap.size w wr → ∀ (i : Nat), i < 4096 → Calls Try.prog 69 #[vb, .int .i64 i] wr fun e w' => e = .returned (.int .i64 (b.getD i 0)) ∧ w' = wr) := fun wr hw i hi => at_any _ vb b i (hb.below hw) (by omega) hi
  obtain ⟨aa, ca, rfl, hca⟩ := ha.shape
  obtain ⟨ab, cb, rfl, hcb⟩ := hb.shape
  clear ha hb
  have HBa : Hid (Byt a) := Ba
  have HBb : Hid (Byt b) := Bb
  have HLE : Hid (valB b ≤ valB a) := hle
  clear Ba Bb hle
  obtain ⟨i0, hi, hz0, hz1, hz2⟩ := info_parts Try.info3
  have HI : Hid _ := hi
  clear hi
  go_enter Try.func43, Try.ntmps43
  go_wp2
  go_loopw [5, 6, 7] (fun s c i wr => ∃ (k : Nat) (d : List Int) (c' : Int), k ≤ a.length ∧ c = .int .i64 c' ∧ i = .int .i64 k ∧ -1 ≤ c' ∧ c' ≤ 0 ∧ d.length = k ∧ wr.ownsRow w.heap.size 3 1 s k (d.map (Value.int .i64)) ∧ Hid (Byt d) ∧ Hid (valB d + 256 ^ k * c' = valB (a.take k) - valB (b.take k)) ∧ Below w.heap.size w wr) (fun _ _ i _ => 2000 - (intOf i).toNat)
  case atStart => exact ⟨0, [], 0, by omega, rfl, rfl, by omega, by omega, rfl, World.ownsRow_nil _ _ _ _, byt_nil, by show _ = _; simp [valB], Below.refl _ _⟩
  case round =>
    obtain ⟨k, d, c, hk, rfl, rfl, hc0, hc1, hl, hown, hB, hE, hbw⟩ := hrel
    have hsz : w.heap.size ≤ wr.heap.size := hbw.size
    have HO : Hid _ := hown
    clear hown
    by_cases hlt : k < a.length
    · have hx0 := HBa.out k
      have hy0 := HBb.out k
      have HX : Hid _ := HA.out wr hbw k (by omega)
      have HY : Hid _ := HB.out wr hbw k (by omega)
      have hta := valB_take_succ a k
      have htb := valB_take_succ b k
      generalize a.getD k 0 = x at *
      generalize b.getD k 0 = y at *
      obtain ⟨hx0, hx1⟩ := hx0
      obtain ⟨hy0, hy1⟩ := hy0
      have hsum : Hid ((256 : Int) ^ k * (c + x - y) = 256 ^ k * c + 256 ^ k * x - 256 ^ k * y) := by
        show _ = _
        rw [Int.mul_sub, Int.mul_add]
      by_cases hneg : c + x - y < 0
      · have HB2 : Hid (Byt (d ++ [c + x - y + 256])) := hB.out.append (by omega) (by omega)
        have HE2 : Hid (valB (d ++ [c + x - y + 256]) + 256 ^ (k + 1) * (-1) = valB (a.take (k + 1)) - valB (b.take (k + 1))) := by
          show _ = _
          have he := hE.out
          have h1 := hsum.out
          rw [valB_append, hl, hta, htb, Int.pow_succ, Int.mul_assoc, Int.mul_add]
          omega
        clear hta htb hsum
        go_wp2_with (first
          | (go_at_call_of 69 ([Value.slice aa a.length ca, Value.int .i64 k]); go_must (refine Calls.mono HX.out ?_; rintro e w' ⟨rfl, rfl⟩))
          | (go_at_call_of 69 ([Value.slice ab b.length cb, Value.int .i64 k]); go_must (refine Calls.mono HY.out ?_; rintro e w' ⟨rfl, rfl⟩))
          | (at_builtin; go_must (refine wpList_append_own _ rfl _ _ 46 rfl w.heap.size 3 i0 (.int .i64 0) 1 8 Try.underlying46 HI.out hz0 hz1 hz2 rfl (by decide) _ _ _ rfl (World.ownsRow.alloc HO.out _) ⟨w'.heap.size, 0, none⟩ 1 1 [.int .i64 (c + x - y + 256)] rfl rfl ?c10 ?c20 ?c30 ?c40 ?c50 ?_)))
        any_goals (first
          | (intro q u hq; exact one_cell hq)
          | (intro u hu; simp at hu; subst hu; rfl)
          | (unfold maxLen; omega)
          | omega
          | (simp; omega))
        intro v' w1 hown' hg hnn
        have HO2 : Hid _ := hown'
        have HG : Hid _ := hg
        clear hown' hg hnn
        go_wp2
        refine ⟨⟨k + 1, d ++ [c + x - y + 256], -1, by omega, by go_num, by go_num, by omega, by omega, ?_, ?_, HB2, HE2, ?_⟩, ?_⟩
        · rw [List.length_append, hl]; rfl
        · rw [List.map_append]; exact HO2.out
        · exact of_grown hbw HG.out (fun g hg => (World.ownsRow.lt HO.out g hg).1) hsz
        · simp [intOf]; omega

      · have hneg' : decide (c + x - y < 0) = false := by simp; omega
        have HB2 : Hid (Byt (d ++ [c + x - y])) := hB.out.append (by omega) (by omega)
        have HE2 : Hid (valB (d ++ [c + x - y]) + 256 ^ (k + 1) * 0 = valB (a.take (k + 1)) - valB (b.take (k + 1))) := by
          show _ = _
          have he := hE.out
          have h1 := hsum.out
          rw [valB_append, hl, hta, htb]
          omega
        clear hta htb hsum
        go_wp2_with (first
          | (go_at_call_of 69 ([Value.slice aa a.length ca, Value.int .i64 k]); go_must (refine Calls.mono HX.out ?_; rintro e w' ⟨rfl, rfl⟩))
          | (go_at_call_of 69 ([Value.slice ab b.length cb, Value.int .i64 k]); go_must (refine Calls.mono HY.out ?_; rintro e w' ⟨rfl, rfl⟩))
          | (at_builtin; go_must (refine wpList_append_own _ rfl _ _ 46 rfl w.heap.size 3 i0 (.int .i64 0) 1 8 Try.underlying46 HI.out hz0 hz1 hz2 rfl (by decide) _ _ _ rfl (World.ownsRow.alloc HO.out _) ⟨w'.heap.size, 0, none⟩ 1 1 [.int .i64 (c + x - y)] rfl rfl ?c11 ?c21 ?c31 ?c41 ?c51 ?_)))
        any_goals (first
          | (intro q u hq; exact one_cell hq)
          | (intro u hu; simp at hu; subst hu; rfl)
          | (unfold maxLen; omega)
          | omega
          | (simp; omega))
        intro v' w1 hown' hg hnn
        have HO2 : Hid _ := hown'
        have HG : Hid _ := hg
        clear hown' hg hnn
        go_wp2
        refine ⟨⟨k + 1, d ++ [c + x - y], 0, by omega, by go_num, by go_num, by omega, by omega, ?_, ?_, HB2, HE2, ?_⟩, ?_⟩
        · rw [List.length_append, hl]; rfl
        · rw [List.map_append]; exact HO2.out
        · exact of_grown hbw HG.out (fun g hg => (World.ownsRow.lt HO.out g hg).1) hsz
        · simp [intOf]; omega

    · have hkl : k = a.length := by omega
      have HE : Hid (valB d = valB a - valB b) := by
        show _ = _
        have h1 := valB_bd a HBa.out
        have h2 := valB_bd (b.take k) (HBb.out.take k)
        have h3 := valB_bd d hB.out
        have h4 := valB_bd (b.drop k) (fun j => by have := HBb.out (k + j); simpa [List.getD] using this)
        have h5 := valB_split b k
        have he := hE.out
        have hle := HLE.out
        rw [valB_take_all a k (by omega)] at he
        rw [hl] at h3
        rw [← hkl] at h1
        have hP : (0 : Int) < 256 ^ k := Int.pow_pos (by decide)
        have h6 : valB (b.drop k) = 0 := by
          rcases (by omega : valB (b.drop k) = 0 ∨ 1 ≤ valB (b.drop k)) with h | h
          · exact h
          · have : (256 : Int) ^ k * 1 ≤ 256 ^ k * valB (b.drop k) := Int.mul_le_mul_of_nonneg_left h (by omega)
            omega
        rw [h6, Int.mul_zero, Int.add_zero] at h5
        rcases (by omega : c = 0 ∨ c = -1) with rfl | rfl
        · omega
        · omega
      subst hkl
      clear hE
      go_wp2_with fail
      refine (trim_any _ _ d (IsN.of_owns HO.out) (by omega) (by omega) hB.out).mono ?_
      rintro e w2 ⟨v, d', rfl, hN, hBd, hld, hV, hw2⟩
      have hB2 : Below w.heap.size w w2 := Below.trans hbw (hw2.mono (by omega))
      go_wp2
      go_ret
      exact ⟨v, d', rfl, hN, hBd, by omega, hV.out.trans HE.out, hB2⟩
end Go.Proofs.Ytmflilgppllebaa
