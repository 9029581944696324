/- net: NetFull, the walk. -/
import Derived.Test.YtemapnfbmhjlbaaPD
import Derived.Test.YtemapnfbmhjlbaaPA
namespace Go.Proofs.Ytemapnfbmhjlbaa
open Go.RowKit Go.Maps Go.Joins
set_option linter.unusedSimpArgs false
set_option linter.unusedVariables false
set_option maxRecDepth 100000 in
set_option maxHeartbeats 16000000 in
theorem full_no {w : World} (n m : Int) (h : n < 1 ∨ 16 < n) :
    Calls Try.prog 4 #[.int .i64 n, .int .i64 m] w fun e w' => e = .returned (.bool true) ∧ Below w.heap.size w w' := by
  have HN : Hid _ := New_no (w := w) n h
  rcases (show n < 1 ∨ (¬ n < 1 ∧ 16 < n) by omega) with h1 | ⟨h1, h2⟩
  all_goals
    clear h
    go_enter Try.func4, Try.ntmps4
    go_wp2_with (first
      | (go_at_call 8; refine Calls.mono HN.out ?_; rintro e w1 ⟨rfl, rfl⟩; clear HN)
      | (go_at_call 10; refine (alive_any _).mono ?_; rintro e w6 ⟨rfl, hb⟩; have HB6 : Hid (Below w1.heap.size w1 w6) := hb; clear hb))
    go_ret
    exact ⟨rfl, HB6.out⟩
set_option maxRecDepth 100000 in
set_option maxHeartbeats 16000000 in
theorem full_yes {w : World} (n m : Int) (hn1 : 1 ≤ n) (hn2 : n ≤ 16) :
    Calls Try.prog 4 #[.int .i64 n, .int .i64 m] w fun e w' => e = .returned (.bool true) ∧ Below w.heap.size w w' := by
  have HN : Hid _ := New_ok (w := w) n hn1 hn2
  have HN1 : Hid (1 ≤ n) := hn1
  clear hn1 hn2
  go_enter Try.func4, Try.ntmps4
  go_wp2_with (first
    | (go_at_call 8
       refine Calls.mono HN.out ?_
       rintro e w1 ⟨rfl, hn, hb1⟩
       obtain ⟨b, hb⟩ : ∃ b, b = w.heap.size := ⟨_, rfl⟩
       have hs1 := St.new (w := w) n hn
       rw [← hb] at hs1 ⊢
       obtain ⟨N1, hN1⟩ : ∃ N1, N1 = newN b n := ⟨_, rfl⟩
       rw [← hN1] at hs1
       have HB : Hid (Below w.heap.size w w1 ∧ b = w.heap.size ∧ N1 = newN b n) := ⟨hb1, hb, hN1⟩
       have H1 : Hid (St w1 w1 b N1 N1 (A0 n) 0) := hs1
       clear hn hb1 hs1 hb hN1 HN))
  go_loopw [7] (fun i wr => ∃ k : Nat, k ≤ 4096 ∧ i = .int .i64 k ∧ ∃ N, Hid (St w1 wr b N1 N (fA n k k) k)) (fun i _ => 4096 - (intOf i).toNat)
  case atStart => exact ⟨0, Nat.zero_le _, rfl, N1, H1.out⟩
  case round =>
    clear H1
    obtain ⟨k, hk, rfl, N, HJ⟩ := hrel
    by_cases hlt : k < 4096
    · have hki : (k : Int) < 4096 := by omega
      have HS : Hid (k < 4096) := hlt
      clear hlt
      go_wp2_with (first
        | (go_at_call 11
           have hc := HJ.out.send (by have := HS.out; omega) 0 0 (.slice none 0 0) [] (Or.inl ⟨rfl, rfl⟩)
           simp only [fA_send HN1.out HS.out] at hc
           refine Calls.mono hc ?_
           clear hc
           rintro e w2 ⟨rfl, N2, h2, f2⟩
           have H2 : Hid (St w1 w2 b N1 N2 (fA n (k + 1) k) (k + 1)) := h2
           clear h2 f2 HJ)
        | (go_at_call 18
           have hc := H2.out.set (by have := HS.out; omega) 0 k k
           simp only [fA_set HN1.out HS.out] at hc
           refine Calls.mono hc ?_
           clear hc
           rintro e w3 ⟨rfl, N3, h3, f3⟩
           have H3 : Hid (St w1 w3 b N1 N3 (fA n (k + 1) (k + 1)) ((k + 1 : Nat) : Int)) := h3
           clear h3 f3 H2))
      go_roundw
      case rel => exact ⟨k + 1, HS.out, by go_num, N3, H3.out⟩
      case measure => have := HS.out; simp [intOf]; omega
    · obtain rfl : k = 4096 := by omega
      obtain ⟨F, hF⟩ : ∃ F, F = fA n 4096 4096 := ⟨_, rfl⟩
      have H0 : Hid (St w1 wr b N1 N F 4096) := by rw [hF]; exact HJ.out
      have hF1 := fA_full_send HN1.out
      have hF2 := fA_full_copy n
      have hF3 := fA_full_set HN1.out
      have hF4 := @fA_take_no n m
      have hF5 := @fA_take n m
      rw [← hF] at hF1 hF2 hF3 hF4 hF5
      have HF : Hid (nSend F 0 0 [] = (3, F) ∧ nCopy F 3 = (3, F) ∧ nSet F 0 0 0 = (3, F)) := ⟨hF1, hF2, hF3⟩
      clear hlt HJ hk hF1 hF2 hF3 hF
      by_cases hm : 0 ≤ m ∧ m < 4096
      · obtain ⟨hm0, hm1⟩ := hm
        obtain ⟨B, hB1, hB2⟩ := hF5 hm0 hm1
        have HM : Hid (nTake (F) m = (0, (m, 0, 0, []), B) ∧ (nCopy B ((m + 1) % 4096)).1 = 0) := ⟨hB1, hB2⟩
        have h1 : ¬ m < 0 := by omega
        have h2 : ¬ 4096 ≤ m := by omega
        clear hB1 hB2 hF4 hF5
        go_wp2_with (first
          | (go_at_call 11
             have hc := H0.out.send (by decide) 0 0 (.slice none 0 0) [] (Or.inl ⟨rfl, rfl⟩)
             simp only [HF.out.1] at hc
             refine Calls.mono hc ?_
             clear hc
             rintro e w2 ⟨rfl, N2, h2', f2⟩
             have H2 : Hid (St w1 w2 b N1 N2 (F) (4096 + 1)) := h2'
             clear h2' f2 H0)
          | (go_at_call 16
             have hc := H2.out.copy (by decide) 3
             simp only [HF.out.2.1] at hc
             refine Calls.mono hc ?_
             clear hc
             rintro e w3 ⟨rfl, N3, h3, f3⟩
             have H3 : Hid (St w1 w3 b N1 N3 (F) (4096 + 1 + 1)) := h3
             clear h3 f3 H2)
          | (go_at_call 18
             have hc := H3.out.set (by decide) 0 0 0
             simp only [HF.out.2.2] at hc
             refine Calls.mono hc ?_
             clear hc
             rintro e w4 ⟨rfl, N4, h4, f4⟩
             have H4 : Hid (St w1 w4 b N1 N4 (F) (4096 + 1 + 1)) := h4
             clear h4 f4 H3)
          | (go_at_call 13
             have hc := H4.out.take (by decide) m
             simp only [HM.out.1] at hc
             refine Calls.mono hc ?_
             clear hc
             rintro e w5 ⟨q, rfl, hq, hd, N5, h5, f5, d5⟩
             obtain ⟨qi, qf, qt, qd, qb⟩ := q
             simp only [pkA, Prod.mk.injEq] at hq
             obtain ⟨rfl, rfl, rfl, rfl⟩ := hq
             simp only at hd d5 ⊢
             obtain ⟨qa, qc, rfl⟩ := hd.form
             have hb5 : Below w5.heap.size w5 (w5.alloc (.cells #[.int .i64 qi, .int .i64 0, .int .i64 0, .slice qa 0 qc] 35)) := (Below.refl _ w5).alloc (Nat.le_refl _) _
             have H5 : Hid (St w1 (w5.alloc (.cells #[.int .i64 qi, .int .i64 0, .int .i64 0, .slice qa 0 qc] 35)) b N1 N5 B (4096 + 1 + 1)) := h5.below hb5
             clear hd h5 f5 d5 hb5 H4)
          | (go_at_call 16
             have hc := H5.out.copy (by decide) ((qi + 1) % 4096)
             simp only [HM.out.2] at hc
             refine Calls.mono hc ?_
             clear hc
             rintro e w6 ⟨rfl, N6, h6, f6⟩
             have H6 : Hid (Below w.heap.size w w6) := h6.bel HB.out
             clear h6 f6 H5)
          | (go_at_call 10; refine (alive_any _).mono ?_; rintro e w7 ⟨rfl, hb⟩; have H7 : Hid (Below w.heap.size w w7) := H6.out.trans (hb.mono H6.out.size); clear hb H6))
        go_ret
        exact ⟨rfl, H7.out⟩
      · have HM : Hid (nTake F m = (33, (0, 0, 0, []), F)) := hF4 (by omega)
        clear hF4 hF5
        rcases (show m < 0 ∨ (¬ m < 0 ∧ 4096 ≤ m) by omega) with h1 | ⟨h1, h2⟩
        all_goals
          clear hm
          go_wp2_with (first
            | (go_at_call 11
               have hc := H0.out.send (by decide) 0 0 (.slice none 0 0) [] (Or.inl ⟨rfl, rfl⟩)
               simp only [HF.out.1] at hc
               refine Calls.mono hc ?_
               clear hc
               rintro e w2 ⟨rfl, N2, h2', f2⟩
               have H2 : Hid (St w1 w2 b N1 N2 (F) (4096 + 1)) := h2'
               clear h2' f2 H0)
            | (go_at_call 16
               have hc := H2.out.copy (by decide) 3
               simp only [HF.out.2.1] at hc
               refine Calls.mono hc ?_
               clear hc
               rintro e w3 ⟨rfl, N3, h3, f3⟩
               have H3 : Hid (St w1 w3 b N1 N3 (F) (4096 + 1 + 1)) := h3
               clear h3 f3 H2)
            | (go_at_call 18
               have hc := H3.out.set (by decide) 0 0 0
               simp only [HF.out.2.2] at hc
               refine Calls.mono hc ?_
               clear hc
               rintro e w4 ⟨rfl, N4, h4, f4⟩
               have H4 : Hid (St w1 w4 b N1 N4 (F) (4096 + 1 + 1)) := h4
               clear h4 f4 H3)
            | (go_at_call 13
               have hc := H4.out.take (by decide) m
               simp only [HM.out] at hc
               refine Calls.mono hc ?_
               clear hc
               rintro e w5 ⟨q, rfl, hq, hd, N5, h5, f5, d5⟩
               obtain ⟨qi, qf, qt, qd, qb⟩ := q
               simp only [pkA, Prod.mk.injEq] at hq
               obtain ⟨rfl, rfl, rfl, rfl⟩ := hq
               simp only at hd d5 ⊢
               obtain ⟨qa, qc, rfl⟩ := hd.form
               have hb5 : Below w5.heap.size w5 (w5.alloc (.cells #[.int .i64 0, .int .i64 0, .int .i64 0, .slice qa 0 qc] 35)) := (Below.refl _ w5).alloc (Nat.le_refl _) _
               have H5 : Hid (St w1 (w5.alloc (.cells #[.int .i64 0, .int .i64 0, .int .i64 0, .slice qa 0 qc] 35)) b N1 N5 F (4096 + 1 + 1)) := h5.below hb5
               clear hd h5 f5 d5 hb5 H4)
            | (go_at_call 11
               have hc := H5.out.send (by decide) 0 0 (.slice none 0 0) [] (Or.inl ⟨rfl, rfl⟩)
               simp only [HF.out.1] at hc
               refine Calls.mono hc ?_
               clear hc
               rintro e w6 ⟨rfl, N6, h6, f6⟩
               have H6 : Hid (Below w.heap.size w w6) := h6.bel HB.out
               clear h6 f6 H5)
            | (go_at_call 10; refine (alive_any _).mono ?_; rintro e w7 ⟨rfl, hb⟩; have H7 : Hid (Below w.heap.size w w7) := H6.out.trans (hb.mono H6.out.size); clear hb H6))
          go_ret
          exact ⟨rfl, H7.out⟩
end Go.Proofs.Ytemapnfbmhjlbaa
