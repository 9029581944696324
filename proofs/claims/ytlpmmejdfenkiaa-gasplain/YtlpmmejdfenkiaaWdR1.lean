/- Walks over the document's own numbers: a word's number. -/
import Derived.Test.YtlpmmejdfenkiaaWdR3
import Derived.Test.YtlpmmejdfenkiaaWdW5
namespace Go.Proofs.Ytlpmmejdfenkiaa.Wd
open Go.RowKit
set_option linter.unusedSimpArgs false
set_option linter.unusedVariables false
theorem i64_and255 (n : Int) : bits .and .i64 n 255 = n % 256 := by
  have h255 : (BitVec.ofInt 64 255).toNat = 2 ^ 8 - 1 := by decide
  have key : (BitVec.ofInt 64 n &&& BitVec.ofInt 64 255).toNat = (n % ((2 ^ 64 : Nat) : Int)).toNat % 2 ^ 8 := by
    rw [BitVec.toNat_and, BitVec.toNat_ofInt, h255, Nat.and_two_pow_sub_one_eq_mod]
  show IntKind.i64.wrap ((BitVec.ofInt 64 n &&& BitVec.ofInt 64 255).toNat : Nat) = n % 256
  rw [key, IntKind.wrap_i64]
  omega
theorem byte_of (a : Int) (s : Nat) : bits .and .i64 (wrap64 (a / 2 ^ s)) 255 = a / 2 ^ s % 256 := by
  rw [i64_and255]
  generalize a / 2 ^ s = z
  unfold wrap64
  omega
theorem mod_mul (n P : Int) (hP : 0 < P) : n % P + P * (n / P % 256) = n % (P * 256) := by
  have h1 := Int.mul_ediv_add_emod n P
  have h2 := Int.emod_nonneg n (Int.ne_of_gt hP)
  have h3 := Int.emod_lt_of_pos n hP
  generalize n / P = q at *
  generalize n % P = r at *
  have h4 : q = 256 * (q / 256) + q % 256 := by omega
  have h5 : 0 ≤ q % 256 := by omega
  have h6 : q % 256 ≤ 255 := by omega
  have h7 : n = (r + P * (q % 256)) + P * 256 * (q / 256) := by
    rw [← h1, Int.mul_assoc, ← Int.add_comm]
    have : P * q = P * (256 * (q / 256) + q % 256) := by rw [← h4]
    rw [Int.mul_add] at this
    omega
  have h8 : P * (q % 256) ≤ P * 255 := Int.mul_le_mul_of_nonneg_left h6 (by omega)
  have h9 : 0 ≤ P * (q % 256) := Int.mul_nonneg (by omega) h5
  rw [h7, Int.add_mul_emod_self_left]
  exact (Int.emod_eq_of_lt (by omega) (by omega)).symm
theorem low_step (n : Int) (k : Nat) : n % 256 ^ k + 256 ^ k * lowN n k = n % 256 ^ (k + 1) := by
  unfold lowN
  have e : (2 : Int) ^ (8 * (k : Int)).toNat = 256 ^ k := by
    rw [show (8 * (k : Int)).toNat = 8 * k from by omega, Int.pow_mul]; rfl
  rw [e, Int.pow_succ]
  exact mod_mul n _ (Int.pow_pos (by decide))
set_option maxHeartbeats 4000000 in
theorem of_ref (a0 a1 a2 a3 : Int) (ha : L4 a0 a1 a2 a3) (w : World) :
    Calls Try.prog 45 #[W4 a0 a1 a2 a3] w fun e w' => ∃ (v : Value) (d : List Int), e = .returned v ∧ IsN w' v d ∧ Byt d ∧ d.length ≤ 32 ∧ Hid (valB d = num a0 a1 a2 a3) ∧ Below w.heap.size w w' := by
  have HA : Hid _ := ha
  clear ha
  obtain ⟨i0, hi, hz0, hz1, hz2⟩ := info_parts Try.info3
  have HI : Hid _ := hi
  clear hi
  unfold W4
  go_enter Try.func45, Try.ntmps45
  go_wp2
  go_loopw [3, 4] (fun s i wr => ∃ (k : Nat) (d : List Int), k ≤ 32 ∧ i = .int .i64 k ∧ d.length = k ∧ wr.ownsRow (w.heap.size + 1) 3 1 s k (d.map (Value.int .i64)) ∧ Hid (Byt d) ∧ Hid (valB d = num a0 a1 a2 a3 % 256 ^ k) ∧ Below (w.heap.size + 1) (w.alloc (.cells #[.int .u64 a0, .int .u64 a1, .int .u64 a2, .int .u64 a3] 30)) wr) (fun _ i _ => 32 - (intOf i).toNat)
  case atStart => exact ⟨0, [], by omega, rfl, rfl, World.ownsRow_nil _ _ _ _, fun k => ⟨by simp, by simp⟩, by show _ = _; simp [valB, Int.emod_one], Below.refl _ _⟩
  case round =>
    obtain ⟨k, d, hk, rfl, hl, hown, hB, hE, hbw⟩ := hrel
    have c0 : wr.cell? ⟨w.heap.size, 0, none⟩ = some (.int .u64 a0) := (hbw.cell (p := ⟨w.heap.size, 0, none⟩) (by simp)).trans (by simp [go_sem])
    have c1 : wr.cell? ⟨w.heap.size, 1, none⟩ = some (.int .u64 a1) := (hbw.cell (p := ⟨w.heap.size, 1, none⟩) (by simp)).trans (by simp [go_sem])
    have c2 : wr.cell? ⟨w.heap.size, 2, none⟩ = some (.int .u64 a2) := (hbw.cell (p := ⟨w.heap.size, 2, none⟩) (by simp)).trans (by simp [go_sem])
    have c3 : wr.cell? ⟨w.heap.size, 3, none⟩ = some (.int .u64 a3) := (hbw.cell (p := ⟨w.heap.size, 3, none⟩) (by simp)).trans (by simp [go_sem])
    have hsz : w.heap.size + 1 ≤ wr.heap.size := by have := hbw.size; simp at this; omega
    have HO : Hid _ := hown
    clear hown
    by_cases hlt : k < 32
    · rcases (by omega : k < 8 ∨ (8 ≤ k ∧ k < 16) ∨ (16 ≤ k ∧ k < 24) ∨ (24 ≤ k ∧ k < 32)) with h8 | ⟨h8, h8'⟩ | ⟨h8, h8'⟩ | ⟨h8, h8'⟩
      · skip
        have hq : (k : Int) / 8 = 0 := by omega
        obtain ⟨x, hx⟩ : ∃ x, x = bits .and .i64 (wrap64 (a0 / 2 ^ (8 * (k % 8)))) 255 := ⟨_, rfl⟩
        have hxe : x = lowN (num a0 a1 a2 a3) k := by
          rw [hx, byte_of a0 (8 * (k % 8))]
          have := low_num0 (i := (k : Int)) (by omega) (by omega) HA.out
          rw [show (8 * ((k : Int) % 8)).toNat = 8 * (k % 8) from by omega] at this
          exact this
        have hx0 : 0 ≤ x ∧ x < 256 := by rw [hxe]; unfold lowN; omega
        obtain ⟨hx0, hx1⟩ := hx0
        have HE2 : Hid (valB (d ++ [x]) = num a0 a1 a2 a3 % 256 ^ (k + 1)) := by
          show _ = _
          rw [valB_append, hl, hE.out, hxe]; exact low_step _ k
        have HB2 : Hid (Byt (d ++ [x])) := hB.out.append hx0 hx1
        have hxr : bits .and .i64 (wrap64 (a0 / 2 ^ (8 * (k % 8)))) 255 = x := hx.symm
        clear hx hxe hE hB
        go_wp2_with (first | (at_builtin; go_must (refine wpList_append_own _ rfl _ _ 54 rfl (w.heap.size + 1) 3 i0 (.int .i64 0) 1 8 Try.underlying54 HI.out hz0 hz1 hz2 rfl (by decide) _ _ _ rfl (World.ownsRow.alloc HO.out _) ⟨wr.heap.size, 0, none⟩ 1 1 [.int .i64 x] rfl rfl ?c10 ?c20 ?c30 ?c40 ?c50 ?_)))
        any_goals (first
          | (intro q u hq; exact one_cell hq)
          | (intro u hu; simp at hu; subst hu; rfl)
          | (unfold maxLen; omega)
          | omega
          | (simp; omega))
        intro v' w1 hown' hg hnn
        have HO2 : Hid _ := hown'
        have HG : Hid _ := hg
        clear hown' hg hnn
        go_wp2
        refine ⟨⟨k + 1, d ++ [x], by omega, by go_num, ?_, ?_, HB2, HE2, ?_⟩, ?_⟩
        · rw [List.length_append, hl]; rfl
        · rw [List.map_append]; exact HO2.out
        · exact of_grown hbw HG.out (fun g hg => (World.ownsRow.lt HO.out g hg).1) hsz
        · simp [intOf]; omega
      · skip
        have hq : (k : Int) / 8 = 1 := by omega
        obtain ⟨x, hx⟩ : ∃ x, x = bits .and .i64 (wrap64 (a1 / 2 ^ (8 * (k % 8)))) 255 := ⟨_, rfl⟩
        have hxe : x = lowN (num a0 a1 a2 a3) k := by
          rw [hx, byte_of a1 (8 * (k % 8))]
          have := low_num1 (i := (k : Int)) (by omega) (by omega) HA.out
          rw [show (8 * ((k : Int) % 8)).toNat = 8 * (k % 8) from by omega] at this
          exact this
        have hx0 : 0 ≤ x ∧ x < 256 := by rw [hxe]; unfold lowN; omega
        obtain ⟨hx0, hx1⟩ := hx0
        have HE2 : Hid (valB (d ++ [x]) = num a0 a1 a2 a3 % 256 ^ (k + 1)) := by
          show _ = _
          rw [valB_append, hl, hE.out, hxe]; exact low_step _ k
        have HB2 : Hid (Byt (d ++ [x])) := hB.out.append hx0 hx1
        have hxr : bits .and .i64 (wrap64 (a1 / 2 ^ (8 * (k % 8)))) 255 = x := hx.symm
        clear hx hxe hE hB
        go_wp2_with (first | (at_builtin; go_must (refine wpList_append_own _ rfl _ _ 54 rfl (w.heap.size + 1) 3 i0 (.int .i64 0) 1 8 Try.underlying54 HI.out hz0 hz1 hz2 rfl (by decide) _ _ _ rfl (World.ownsRow.alloc HO.out _) ⟨wr.heap.size, 0, none⟩ 1 1 [.int .i64 x] rfl rfl ?c11 ?c21 ?c31 ?c41 ?c51 ?_)))
        any_goals (first
          | (intro q u hq; exact one_cell hq)
          | (intro u hu; simp at hu; subst hu; rfl)
          | (unfold maxLen; omega)
          | omega
          | (simp; omega))
        intro v' w1 hown' hg hnn
        have HO2 : Hid _ := hown'
        have HG : Hid _ := hg
        clear hown' hg hnn
        go_wp2
        refine ⟨⟨k + 1, d ++ [x], by omega, by go_num, ?_, ?_, HB2, HE2, ?_⟩, ?_⟩
        · rw [List.length_append, hl]; rfl
        · rw [List.map_append]; exact HO2.out
        · exact of_grown hbw HG.out (fun g hg => (World.ownsRow.lt HO.out g hg).1) hsz
        · simp [intOf]; omega
      · skip
        have hq : (k : Int) / 8 = 2 := by omega
        obtain ⟨x, hx⟩ : ∃ x, x = bits .and .i64 (wrap64 (a2 / 2 ^ (8 * (k % 8)))) 255 := ⟨_, rfl⟩
        have hxe : x = lowN (num a0 a1 a2 a3) k := by
          rw [hx, byte_of a2 (8 * (k % 8))]
          have := low_num2 (i := (k : Int)) (by omega) (by omega) HA.out
          rw [show (8 * ((k : Int) % 8)).toNat = 8 * (k % 8) from by omega] at this
          exact this
        have hx0 : 0 ≤ x ∧ x < 256 := by rw [hxe]; unfold lowN; omega
        obtain ⟨hx0, hx1⟩ := hx0
        have HE2 : Hid (valB (d ++ [x]) = num a0 a1 a2 a3 % 256 ^ (k + 1)) := by
          show _ = _
          rw [valB_append, hl, hE.out, hxe]; exact low_step _ k
        have HB2 : Hid (Byt (d ++ [x])) := hB.out.append hx0 hx1
        have hxr : bits .and .i64 (wrap64 (a2 / 2 ^ (8 * (k % 8)))) 255 = x := hx.symm
        clear hx hxe hE hB
        go_wp2_with (first | (at_builtin; go_must (refine wpList_append_own _ rfl _ _ 54 rfl (w.heap.size + 1) 3 i0 (.int .i64 0) 1 8 Try.underlying54 HI.out hz0 hz1 hz2 rfl (by decide) _ _ _ rfl (World.ownsRow.alloc HO.out _) ⟨wr.heap.size, 0, none⟩ 1 1 [.int .i64 x] rfl rfl ?c12 ?c22 ?c32 ?c42 ?c52 ?_)))
        any_goals (first
          | (intro q u hq; exact one_cell hq)
          | (intro u hu; simp at hu; subst hu; rfl)
          | (unfold maxLen; omega)
          | omega
          | (simp; omega))
        intro v' w1 hown' hg hnn
        have HO2 : Hid _ := hown'
        have HG : Hid _ := hg
        clear hown' hg hnn
        go_wp2
        refine ⟨⟨k + 1, d ++ [x], by omega, by go_num, ?_, ?_, HB2, HE2, ?_⟩, ?_⟩
        · rw [List.length_append, hl]; rfl
        · rw [List.map_append]; exact HO2.out
        · exact of_grown hbw HG.out (fun g hg => (World.ownsRow.lt HO.out g hg).1) hsz
        · simp [intOf]; omega
      · skip
        have hq : (k : Int) / 8 = 3 := by omega
        obtain ⟨x, hx⟩ : ∃ x, x = bits .and .i64 (wrap64 (a3 / 2 ^ (8 * (k % 8)))) 255 := ⟨_, rfl⟩
        have hxe : x = lowN (num a0 a1 a2 a3) k := by
          rw [hx, byte_of a3 (8 * (k % 8))]
          have := low_num3 (i := (k : Int)) (by omega) (by omega) HA.out
          rw [show (8 * ((k : Int) % 8)).toNat = 8 * (k % 8) from by omega] at this
          exact this
        have hx0 : 0 ≤ x ∧ x < 256 := by rw [hxe]; unfold lowN; omega
        obtain ⟨hx0, hx1⟩ := hx0
        have HE2 : Hid (valB (d ++ [x]) = num a0 a1 a2 a3 % 256 ^ (k + 1)) := by
          show _ = _
          rw [valB_append, hl, hE.out, hxe]; exact low_step _ k
        have HB2 : Hid (Byt (d ++ [x])) := hB.out.append hx0 hx1
        have hxr : bits .and .i64 (wrap64 (a3 / 2 ^ (8 * (k % 8)))) 255 = x := hx.symm
        clear hx hxe hE hB
        go_wp2_with (first | (at_builtin; go_must (refine wpList_append_own _ rfl _ _ 54 rfl (w.heap.size + 1) 3 i0 (.int .i64 0) 1 8 Try.underlying54 HI.out hz0 hz1 hz2 rfl (by decide) _ _ _ rfl (World.ownsRow.alloc HO.out _) ⟨wr.heap.size, 0, none⟩ 1 1 [.int .i64 x] rfl rfl ?c13 ?c23 ?c33 ?c43 ?c53 ?_)))
        any_goals (first
          | (intro q u hq; exact one_cell hq)
          | (intro u hu; simp at hu; subst hu; rfl)
          | (unfold maxLen; omega)
          | omega
          | (simp; omega))
        intro v' w1 hown' hg hnn
        have HO2 : Hid _ := hown'
        have HG : Hid _ := hg
        clear hown' hg hnn
        go_wp2
        refine ⟨⟨k + 1, d ++ [x], by omega, by go_num, ?_, ?_, HB2, HE2, ?_⟩, ?_⟩
        · rw [List.length_append, hl]; rfl
        · rw [List.map_append]; exact HO2.out
        · exact of_grown hbw HG.out (fun g hg => (World.ownsRow.lt HO.out g hg).1) hsz
        · simp [intOf]; omega
    · have hk32 : k = 32 := by omega
      subst hk32
      clear c0 c1 c2 c3
      go_wp2_with fail
      refine (trim_any _ _ d (IsN.of_owns HO.out) (by omega) (by omega) hB.out).mono ?_
      rintro e w2 ⟨v, d', rfl, hN, hBd, hld, hV, hw2⟩
      have hB2 : Below w.heap.size w w2 := Below.trans (Below.trans (by go_grown) (hbw.mono (by omega))) (hw2.mono (by omega))
      go_wp2
      go_ret
      refine ⟨v, d', rfl, hN, hBd, by omega, ?_, hB2⟩
      show _ = _
      rw [hV.out, hE.out]
      have := num_bd HA.out
      exact Int.emod_eq_of_lt this.1 this.2
end Go.Proofs.Ytlpmmejdfenkiaa.Wd
