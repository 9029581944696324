/- Walks over the document's own answers: which bytes are words. -/
import Derived.Test.YtjbdfmepeniglaaY1
import Derived.Laws.AppendOwnNone
namespace Go.Proofs.Ytjbdfmepeniglaa
open Go.RowKit
set_option linter.unusedSimpArgs false
set_option linter.unusedVariables false
set_option maxHeartbeats 1000000 in
theorem trim_nil (w : World) :
    Calls Try.prog 82 #[.slice none 0 0] w fun e w' => ∃ (v' : Value), e = .returned v' ∧ IsN w' v' [] ∧ Below w.heap.size w w' := by
  obtain ⟨i0, hi, hz0, hz1, hz2⟩ := info_parts Try.info3
  have HI : Hid _ := hi
  clear hi
  go_enter Try.func82, Try.ntmps82
  go_wp2
  refine wp_loop_rounds 1 ?_
  rw [rounds_succ]
  go_wp2_with (first | (at_builtin; go_must (refine wpList_append_own_none rfl _ _ 45 rfl w.heap.size 3 i0 1 Try.underlying45 HI.out _ _ _ rfl (World.ownsRow_made w #[] 0 (Nat.le_refl _) (by decide) rfl) rfl ?_)))
  go_ret
  exact ⟨_, rfl, ⟨_, 0, rfl, Nat.le_refl _, fun h => absurd h (by simp)⟩, by go_grown⟩
set_option maxHeartbeats 1000000 in
theorem readref_big (a : Option Addr) (l c : Nat) (hl : 32 < l) (hm : l ≤ 9223372036854775807) (w : World) :
    Calls Try.prog 45 #[.slice a l c] w fun e w' => e = .returned (.tuple #[W4 0 0 0 0, .int .i64 3]) ∧ Below w.heap.size w w' := by
  have hd : decide ((32 : Int) < l) = true := by simp; omega
  unfold W4
  go_enter Try.func45, Try.ntmps45
  go_wp2
  go_returns
  exact ⟨rfl, by go_grown⟩
theorem take_app (d : List Int) (k : Nat) (h : k < d.length) : d.take k ++ [d.getD k 0] = d.take (k + 1) := by
  rw [List.take_succ_eq_append_getElem h]; simp [List.getD, List.getElem?_eq_getElem h]
set_option maxHeartbeats 4000000 in
/-- conclaveref01.Read -/
theorem readref_any (w : World) (v : Value) (d : List Int) (h : IsU w v d) (l : d.length ≤ 32) (B : Byt d) :
    Calls Try.prog 45 #[v] w fun e w' => ∃ r0 r1 r2 r3, e = .returned (.tuple #[W4 r0 r1 r2 r3, .int .i64 0]) ∧ L4 r0 r1 r2 r3 ∧ Hid (num r0 r1 r2 r3 = valB d) ∧ Below w.heap.size w w' := by
  obtain ⟨aa, ca, rfl, hca, h⟩ := h
  have HC : Hid _ := h
  have HB : Hid (Byt d) := B
  clear h B
  obtain ⟨i0, hi, hz0, hz1, hz2⟩ := info_parts Try.info3
  have HI : Hid _ := hi
  clear hi
  have hd : decide ((32 : Int) < d.length) = false := by simp; omega
  unfold W4
  go_enter Try.func45, Try.ntmps45
  go_wp2
  have KR : Hid (Blk (w.alloc (.cells #[.int .u64 0, .int .u64 0, .int .u64 0, .int .u64 0] 24)) w.heap.size 0 0 0 0) := by refine ⟨by simp, ?_, ?_, ?_, ?_, fun k => ?_⟩ <;> simp [go_sem]
  have hA : Below w.heap.size w (w.alloc (.cells #[.int .u64 0, .int .u64 0, .int .u64 0, .int .u64 0] 24)) := by go_grown
  have hsA : (w.alloc (.cells #[.int .u64 0, .int .u64 0, .int .u64 0, .int .u64 0] 24)).heap.size = w.heap.size + 1 := by simp
  generalize (w.alloc (.cells #[.int .u64 0, .int .u64 0, .int .u64 0, .int .u64 0] 24)) = w0 at *
  go_loopw [4, 5] (fun s i wr => ∃ (k : Nat), k ≤ d.length ∧ i = .int .i64 ((d.length : Int) - 1 - k) ∧ wr.ownsRow (w.heap.size + 1) 3 1 s k ((d.take k).map (Value.int .i64)) ∧ (k = 0 → s = .slice none 0 0) ∧ Below (w.heap.size + 1) w0 wr) (fun _ i _ => (intOf i + 1).toNat)
  case atStart => exact ⟨0, by omega, by simp, World.ownsRow_nil _ _ _ _, fun _ => rfl, Below.refl _ _⟩
  case round =>
    obtain ⟨k, hk, rfl, hown, hnil, hbw⟩ := hrel
    have hsz : w.heap.size + 1 ≤ wr.heap.size := by have := hbw.size; omega
    by_cases hlt : k < d.length
    · obtain ⟨b, o, rfl, hb, hcell⟩ := HC.out k hlt
      have hx := HB.out k
      have hc1 := (hbw.cell (p := ⟨b, o + (d.length - 1 - k), none⟩) (by show b < _; omega)).trans ((hA.cell (p := ⟨b, o + (d.length - 1 - k), none⟩) hb).trans hcell)
      have happ := take_app d k hlt
      have HO : Hid _ := hown
      clear hown hcell hnil
      generalize d.getD k 0 = x at *
      obtain ⟨hx0, hx1⟩ := hx
      have hiK : ((d.length : Int) - 1 - k).toNat = d.length - 1 - k := by omega
      rw [← hiK] at hc1
      have hi0 : 0 ≤ (d.length : Int) - 1 - k := by omega
      have hi1 : (d.length : Int) - 1 - k < d.length := by omega
      clear hiK
      generalize hI : (d.length : Int) - 1 - k = I at *
      have hIm : I < 32 := by omega
      have hwx : IntKind.i64.wrap x = x := by rw [IntKind.wrap_i64]; omega
      go_wp2_with (first | (at_builtin; go_must (refine wpList_append_own _ rfl _ _ 45 rfl (w.heap.size + 1) 3 i0 (.int .i64 0) 1 8 Try.underlying45 HI.out hz0 hz1 hz2 rfl (by decide) _ _ _ rfl (World.ownsRow.alloc HO.out _) ⟨wr.heap.size, 0, none⟩ 1 1 [.int .i64 x] rfl rfl ?c1 ?c2 ?c3 ?c4 ?c5 ?_)))
      any_goals (first
        | (intro q u hq; exact one_cell hq)
        | (intro u hu; simp at hu; subst hu; rfl)
        | (unfold maxLen; omega)
        | omega
        | (simp; omega))
      intro v' w1 hown' hg hnn
      have HO2 : Hid _ := hown'
      have HG : Hid _ := hg
      clear hown' hg hnn
      go_wp2
      refine ⟨⟨k + 1, by omega, by first | (simp [← hI]; omega) | go_num, ?_, fun h => absurd h (by omega), ?_⟩, ?_⟩
      · rw [← happ, List.map_append, List.map_take]; exact HO2.out
      · exact of_grown hbw HG.out (fun g hg => (World.ownsRow.lt HO.out g hg).1) hsz
      · simp [intOf]; omega
    · have hkl : k = d.length := by omega
      subst hkl
      have KR : Hid (Blk wr w.heap.size 0 0 0 0) := by
        obtain ⟨hz, c0, c1, c2, c3, f⟩ := KR.out
        exact ⟨by omega, (hbw.cell (p := ⟨_, 0, none⟩) (by simp)).trans c0, (hbw.cell (p := ⟨_, 1, none⟩) (by simp)).trans c1, (hbw.cell (p := ⟨_, 2, none⟩) (by simp)).trans c2, (hbw.cell (p := ⟨_, 3, none⟩) (by simp)).trans c3, fun k => (hbw.frozen (p := ⟨_, k, none⟩) (by simp)).trans (f k)⟩
      have HO : Hid _ := hown
      rw [List.take_length] at hown
      have hB : Below w.heap.size w wr := hA.trans (hbw.mono (by omega))
      have HT : Hid (Calls Try.prog 82 #[u4] wr fun e w' => ∃ (v' : Value) (d' : List Int), e = .returned v' ∧ IsN w' v' d' ∧ Hid (St 32 d' (valB d)) ∧ Below wr.heap.size wr w') := by
        rcases Nat.eq_zero_or_pos d.length with h0 | h0
        · rw [hnil h0]
          have e : d = [] := List.eq_nil_of_length_eq_zero h0
          exact (trim_nil wr).mono fun e' w' ⟨v', he, hN, hw⟩ => ⟨v', [], he, hN, ⟨byt_nil, by simp, by rw [e]⟩, hw⟩
        · exact (trim_any wr u4 d (IsN.of_owns hown) h0 (by omega) HB.out).mono fun e' w' ⟨v', d', he, hN, hB', hl', hV, hw⟩ => ⟨v', d', he, hN, ⟨hB', by omega, hV.out⟩, hw⟩
      clear hown HO hnil
      have e1 : (d.length : Int) - 1 - d.length = -1 := by omega
      rw [e1]
      go_wp2_with fail
      refine Calls.mono HT.out ?_
      rintro e w2 ⟨v2, d2, rfl, N2, P2, hw2⟩
      have KR : Hid _ := Blk.below KR.out hw2
      have hB : Below w.heap.size w w2 := hB.trans (hw2.mono hB.size)
      clear hw2
      go_wp2_with fail
      refine (word_st _ _ _ _ (by decide) N2 P2).mono ?_
      rintro e w3 ⟨r0, r1, r2, r3, rfl, Lr, Er, hw3⟩
      have KR : Hid _ := Blk.below KR.out hw3
      have hB : Below w.heap.size w w3 := hB.trans (hw3.mono hB.size)
      clear hw3
      have HE : Hid (num r0 r1 r2 r3 = valB d) := by
        show _ = _
        have h1 := valB_bd d HB.out
        have h2 : (256 : Int) ^ d.length ≤ 256 ^ 32 := Int.pow_le_pow_of_le_right' l
        have e : (256 : Int) ^ 32 = T256 := by decide
        rw [Er.out, Int.emod_eq_of_lt h1.1 (by omega)]
      clear Er
      obtain ⟨zR, R0_, R1_, R2_, R3_, fR⟩ := KR.out
      unfold W4
      go_wp2
      refine bodyPost_ret (v := .tuple #[W4 r0 r1 r2 r3, .int .i64 0]) (by simp [results, Try.results45, go_sem, R0_, R1_, R2_, R3_, zR]) rfl ?_
      exact ⟨r0, r1, r2, r3, rfl, Lr, HE, by go_grown⟩
end Go.Proofs.Ytjbdfmepeniglaa
