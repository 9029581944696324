/- WT0, WT1, WT3 -/
import Derived.Test.YtoplejbmgpgkhaaGreatDoorGWB
import Derived.Test.YtoplejbmgpgkhaaGreatDoorGDI
namespace Go.Proofs.YtoplejbmgpgkhaaGreatDoor
open Go.RowKit
set_option linter.unusedSimpArgs false
set_option linter.unusedVariables false
def bN : Nat → BitVec 32 → BitVec 32
  | 0, s => s
  | n + 1, s => b1 (bN n s)
theorem b1_odd (s : BitVec 32) (h : s.getLsbD 0 = true) : bits .xor .u32 (J s / 2) 3988292384 = J (b1 s) := by
  have e : J s / (2 : Int) = J (s >>> 1) := J_shr s 1
  have e2 : (3988292384 : Int) = J 3988292384#32 := by decide
  rw [e, e2, jx]
  unfold b1
  rw [h]
  rfl
theorem b1_ev (s : BitVec 32) (h : s.getLsbD 0 = false) : J s / 2 = J (b1 s) := by
  have e : J s / (2 : Int) = J (s >>> 1) := J_shr s 1
  rw [e, b1_even h]
theorem low1 (s : BitVec 32) : bits .and .u32 (J s) 1 = if s.getLsbD 0 then 1 else 0 := by
  have e2 : (1 : Int) = J 1#32 := by decide
  rw [show bits .and .u32 (J s) 1 = bits .and .u32 (J s) (J 1#32) from rfl, ja]
  have : s &&& 1#32 = if s.getLsbD 0 then 1#32 else 0#32 := by
    apply BitVec.eq_of_toNat_eq
    rw [BitVec.toNat_and]
    have h1 : (1#32).toNat = 1 := rfl
    rw [h1, Nat.and_one_is_mod]
    have h2 : s.getLsbD 0 = decide (s.toNat % 2 = 1) := by
      unfold BitVec.getLsbD
      rw [Nat.testBit_zero]
    rw [h2]
    by_cases h : s.toNat % 2 = 1
    · simp [h]
    · have : s.toNat % 2 = 0 := by omega
      simp [this]
  rw [this]
  cases s.getLsbD 0 <;> rfl
set_option maxRecDepth 100000 in
set_option maxHeartbeats 8000000 in
theorem rsum_any {w : World} (va : Option Addr) (vc : Nat) (bs : List Int) (hv : BytesV w (.slice va bs.length vc) bs) (hl : bs.length ≤ 4611686018427387904) :
    Calls Tryz.prog 41 #[.slice va bs.length vc] w fun e w' => e = .returned (.int .u32 (J (sumB bs))) ∧ w' = w := by
  have HV : Hid (BytesV w (.slice va bs.length vc) bs) := hv
  clear hv
  go_enter Tryz.func41, Tryz.ntmps41
  go_wp2
  go_loop [3, 4] (fun s i => ∃ k : Nat, k ≤ bs.length ∧ i = .int .i64 k ∧ s = .int .u32 (J (sumF (4294967295#32) (bs.take k)))) (fun _ i => bs.length - (intOf i).toNat)
  case atStart => exact ⟨0, Nat.zero_le _, rfl, rfl⟩
  case round =>
    obtain ⟨k, hk, rfl, rfl⟩ := hrel
    by_cases hkl : k < bs.length
    · obtain ⟨x, hx⟩ : ∃ x, bs[k]? = some x := ⟨_, List.getElem?_eq_getElem hkl⟩
      obtain ⟨g, o, rfl, hc⟩ := HV.out.at hx
      have hki : (k : Int) < bs.length := by omega
      have hS := sumF_take_succ hx (4294967295#32)
      generalize sumF (4294967295#32) (bs.take k) = s0 at hS ⊢
      have HS : Hid (sumF (4294967295#32) (bs.take (k + 1)) = st8 s0 x) := hS
      clear hS hx
      have e1 : bits .xor .u32 (J s0) (x % 4294967296) = J (s0 ^^^ BitVec.ofInt 32 x) := by rw [← IntKind.wrap_u32, J_ofInt, jx]
      have hst : st8 s0 x = bN 8 (s0 ^^^ BitVec.ofInt 32 x) := rfl
      generalize s0 ^^^ BitVec.ofInt 32 x = s1 at e1 hst
      have HT : Hid _ := hst
      clear hst
      go_wp2
      go_loop [3, 5] (fun s i => ∃ m : Nat, m ≤ 8 ∧ i = .int .i64 m ∧ s = .int .u32 (J (bN m s1))) (fun _ i => 8 - (intOf i).toNat)
      case atStart => exact ⟨0, Nat.zero_le _, rfl, rfl⟩
      case round =>
        obtain ⟨m, hm, rfl, rfl⟩ := hrel
        by_cases hm8 : m < 8
        · have hmi : (m : Int) < 8 := by omega
          have hbn : bN (m + 1) s1 = b1 (bN m s1) := rfl
          have HB : Hid _ := hbn
          clear hbn
          generalize bN m s1 = t at HB ⊢
          have hl1 := low1 t
          cases ht : t.getLsbD 0 with
          | true =>
            rw [ht, if_pos rfl] at hl1
            have hb := b1_odd t ht
            generalize b1 t = t2 at HB hb
            clear ht
            go_wp2
            go_round
            case rel => exact ⟨m + 1, by omega, by go_num, by rw [HB.out]⟩
            case measure => simp [intOf]; omega
          | false =>
            rw [ht, if_neg (by simp)] at hl1
            have hb := b1_ev t ht
            generalize b1 t = t2 at HB hb
            clear ht
            go_wp2
            go_round
            case rel => exact ⟨m + 1, by omega, by go_num, by rw [HB.out]⟩
            case measure => simp [intOf]; omega
        · have hmi : decide ((m : Int) < 8) = false := by simp; omega
          obtain rfl : m = 8 := by omega
          rw [← HT.out]
          go_wp2
          go_round
          case rel => exact ⟨k + 1, by omega, by go_num, by rw [HS.out]⟩
          case measure => simp [intOf]; omega
    · have hki : decide ((k : Int) < bs.length) = false := by simp; omega
      obtain rfl : k = bs.length := by omega
      rw [List.take_length]
      have hn : bits .xor .u32 IntKind.u32.max (J (sumF 4294967295#32 bs)) = J (sumB bs) := jn _
      have HN : Hid _ := hn
      clear hn hkl
      go_wp2
      go_ret
      refine ⟨?_, rfl⟩
      rw [← HN.out]
      rfl
end Go.Proofs.YtoplejbmgpgkhaaGreatDoor
namespace Go.Proofs.YtoplejbmgpgkhaaGreatDoor
open Go.RowKit Go.Maps Go.Joins
set_option linter.unusedSimpArgs false
set_option linter.unusedVariables false
set_option maxRecDepth 100000 in
set_option maxHeartbeats 8000000 in
theorem rnum_any {w : World} (va : Option Addr) (n vc : Nat) (bs : List Int) (hv : BytesV w (.slice va n vc) bs) {x0 x1 x2 x3 : Int} {r : List Int} (hb : bs = x0 :: x1 :: x2 :: x3 :: r) :
    Calls Tryz.prog 71 #[.slice va n vc] w fun e w' => e = .returned (.int .u32 (J (num4 x0 x1 x2 x3))) ∧ ∃ m, w' = w.drewN m := by
  subst hb
  have hn := hv.len
  obtain ⟨g, o, rfl, c0⟩ := hv.at (k := 0) rfl
  obtain ⟨_, _, e1, c1⟩ := hv.at (k := 1) rfl
  obtain ⟨_, _, e2, c2⟩ := hv.at (k := 2) rfl
  obtain ⟨_, _, e3, c3⟩ := hv.at (k := 3) rfl
  injection e1 with e1
  injection e1 with e1 e1' _
  injection e2 with e2
  injection e2 with e2 e2' _
  injection e3 with e3
  injection e3 with e3 e3' _
  subst e1 e1' e2 e2' e3 e3'
  rw [Nat.add_zero] at c0
  have q0 : (0 : Int) < n := by simp at hn; omega
  have q1 : (1 : Int) < n := by simp at hn; omega
  have q2 : (2 : Int) < n := by simp at hn; omega
  have q3 : (3 : Int) < n := by simp at hn; omega
  have s0 := shlJ x0 24 16777216 (by decide)
  have s1 := shlJ x1 16 65536 (by decide)
  have s2 := shlJ x2 8 256 (by decide)
  have s3 := modJ x3
  have t1 := jo (BitVec.ofInt 32 x0 <<< 24) (BitVec.ofInt 32 x1 <<< 16)
  have t2 := jo (BitVec.ofInt 32 x0 <<< 24 ||| BitVec.ofInt 32 x1 <<< 16) (BitVec.ofInt 32 x2 <<< 8)
  have t3 := jo (BitVec.ofInt 32 x0 <<< 24 ||| BitVec.ofInt 32 x1 <<< 16 ||| BitVec.ofInt 32 x2 <<< 8) (BitVec.ofInt 32 x3)
  have HT : Hid (bits .or .u32 (bits .or .u32 (bits .or .u32 (x0 % 4294967296 * 16777216 % 4294967296) (x1 % 4294967296 * 65536 % 4294967296)) (x2 % 4294967296 * 256 % 4294967296)) (x3 % 4294967296) = J (num4 x0 x1 x2 x3)) := by
    show _ = _
    rw [s0, s1, s2, s3, t1, t2, t3]
    rfl
  clear s0 s1 s2 s3 t1 t2 t3 hv hn
  go_enter Tryz.func71, Tryz.ntmps71
  go_wp2_with fail
  go_quiet (fail)
  go_wp2
  go_ret
  refine ⟨?_, _, rfl⟩
  rw [← HT.out]
  rfl
set_option maxHeartbeats 4000000 in
theorem rwname_any (s : ByteArray) (hs : s.size ≤ 9223372036854775807) (w : World) :
    Calls Tryz.prog 43 #[.string s] w fun e w' => e = .returned (.bool (wnameB s)) ∧ w' = w := by
  by_cases h1 : 1 ≤ s.size ∧ s.size ≤ 16
  · obtain ⟨h1, h2⟩ := h1
    have d1 : decide ((s.size : Int) < 1) = false := by simp; omega
    have d2 : decide ((16 : Int) < s.size) = false := by simp; omega
    go_enter Tryz.func43, Tryz.ntmps43
    go_wp2
    go_loop [3] (fun i => ∃ k : Nat, k ≤ s.size ∧ i = .int .i64 k ∧ (s.data.toList.take k).all ldB = true) (fun i => s.size - (intOf i).toNat)
    case atStart => exact ⟨0, Nat.zero_le _, rfl, rfl⟩
    case round =>
      obtain ⟨k, hk, rfl, hall⟩ := hrel
      by_cases hks : k < s.size
      · have hki : (k : Int) < s.size := by omega
        cases hb : ldB s[k] with
        | false =>
          have HB : Hid _ := hb
          clear hb
          go_wp2
          all_goals first
            | (go_ret
               exact ⟨by rw [wnameB_false hks HB.out]; rfl, rfl⟩)
            | (exfalso
               have hb := HB.out
               simp [ldB] at hb
               first
                 | omega
                 | (rename_i hz
                    simp only [Bool.not_eq_eq_eq_not, Bool.not_true, Bool.not_false, decide_eq_false_iff_not, decide_eq_true_eq] at hz
                    omega)
                 | (rename_i hz _
                    simp only [Bool.not_eq_eq_eq_not, Bool.not_true, Bool.not_false, decide_eq_false_iff_not, decide_eq_true_eq] at hz
                    omega)
                 | (rename_i hz _ _
                    simp only [Bool.not_eq_eq_eq_not, Bool.not_true, Bool.not_false, decide_eq_false_iff_not, decide_eq_true_eq] at hz
                    omega)
                 | (rename_i hz _ _ _
                    simp only [Bool.not_eq_eq_eq_not, Bool.not_true, Bool.not_false, decide_eq_false_iff_not, decide_eq_true_eq] at hz
                    omega))
        | true =>
          have HB : Hid _ := hb
          clear hb
          go_wp2
          all_goals first
            | (exfalso
               have hb := HB.out
               simp [ldB] at hb
               first
                 | omega
                 | (rename_i hz
                    simp only [Bool.not_eq_eq_eq_not, Bool.not_true, Bool.not_false, decide_eq_false_iff_not, decide_eq_true_eq] at hz
                    omega)
                 | (rename_i hz _
                    simp only [Bool.not_eq_eq_eq_not, Bool.not_true, Bool.not_false, decide_eq_false_iff_not, decide_eq_true_eq] at hz
                    omega)
                 | (rename_i hz _ _
                    simp only [Bool.not_eq_eq_eq_not, Bool.not_true, Bool.not_false, decide_eq_false_iff_not, decide_eq_true_eq] at hz
                    omega)
                 | (rename_i hz _ _ _
                    simp only [Bool.not_eq_eq_eq_not, Bool.not_true, Bool.not_false, decide_eq_false_iff_not, decide_eq_true_eq] at hz
                    omega))
            | (refine ⟨⟨k + 1, by omega, by go_num, by rw [allLd_succ hks, hall, HB.out]; rfl⟩, ?_⟩
               simp [intOf]; omega)
      · have hki : decide ((k : Int) < s.size) = false := by simp; omega
        obtain rfl : k = s.size := by omega
        go_wp2
        go_ret
        refine ⟨?_, rfl⟩
        rw [wnameB_of h1 h2]
        rw [List.take_of_length_le (by simp)] at hall
        rw [hall]
        rfl
  · have hf : wnameB s = false := by
      simp only [wnameB, Bool.and_eq_false_iff, decide_eq_false_iff_not]
      omega
    rw [hf]
    by_cases h0 : s.size < 1
    · have d1 : decide ((s.size : Int) < 1) = true := by simp; omega
      go_enter Tryz.func43, Tryz.ntmps43
      go_wp2
      go_ret
      exact ⟨rfl, rfl⟩
    · have d1 : decide ((s.size : Int) < 1) = false := by simp; omega
      have d2 : decide ((16 : Int) < s.size) = true := by simp; omega
      go_enter Tryz.func43, Tryz.ntmps43
      go_wp2
      go_ret
      exact ⟨rfl, rfl⟩
end Go.Proofs.YtoplejbmgpgkhaaGreatDoor
namespace Go.Proofs.YtoplejbmgpgkhaaGreatDoor
open Go.RowKit Go.Maps Go.Joins
set_option linter.unusedSimpArgs false
set_option linter.unusedVariables false
theorem rnum_v {w : World} {g o n vc : Nat} {bs : List Int} (hv : BytesV w (.slice (some ⟨g, o, none⟩) n vc) bs) (i c : Nat) (hl : i + 4 ≤ bs.length) (k : Nat) (hk : k = bs.length - i) : Calls Tryz.prog 71 #[.slice (some ⟨g, o + i, none⟩) k c] w fun e w' => e = .returned (.int .u32 (J (numAt bs i))) ∧ ∃ m, w' = w.drewN m := by
  have hp := hv.part i (bs.length - i) c (by omega)
  have h4 : (bs.drop i).take (bs.length - i) = bs.getD i 0 :: bs.getD (i + 1) 0 :: bs.getD (i + 2) 0 :: bs.getD (i + 3) 0 :: (bs.drop (i + 4)) := by
    rw [List.take_of_length_le (by rw [List.length_drop]; omega)]
    have e : ∀ j, j < bs.length → bs.drop j = bs.getD j 0 :: bs.drop (j + 1) := fun j hj => by
      rw [List.drop_eq_getElem_cons hj]
      simp [List.getD, List.getElem?_eq_getElem hj]
    rw [e i (by omega), e (i + 1) (by omega), e (i + 2) (by omega), e (i + 3) (by omega)]
  subst hk
  exact rnum_any _ _ _ _ hp h4
theorem rx41 {w5 : World} {B N k5 : Nat} {a5 : Option Addr} {xs : List Int} (h : w5.ownsRow B 5 1 (.slice a5 xs.length k5) xs.length (vB xs)) (hl : xs.length = N) (hN : N ≤ 65536) (w' : World) (hw : ∃ m, w' = w5.drewN m) : Calls Tryz.prog 41 #[.slice a5 xs.length k5] w' fun e w'' => e = .returned (.int .u32 (J (sumB xs))) ∧ w'' = w' := by
  obtain ⟨m, rfl⟩ := hw
  have hv : BytesV (w5.drewN m) (.slice a5 xs.length k5) xs := (BytesV.of_own h).below (below_drewN' w5 m)
  have := rsum_any (w := w5.drewN m) a5 k5 xs hv (by omega)
  exact this
set_option maxRecDepth 100000 in
set_option maxHeartbeats 8000000 in
/-- The reference's Next -/
theorem rnext_any {w : World} (va : Option Addr) (vc : Nat) (bs : List Int) (hv : BytesV w (.slice va bs.length vc) bs) (hc : bs.length ≤ vc) (hm : vc ≤ 9223372036854775807) (hl : bs.length ≤ 140737488355328) :
    Calls Tryz.prog 37 #[.slice va bs.length vc] w fun e w' => NxR bs w e w' := by
  by_cases h12 : bs.length < 12
  · have hn : nx bs = (10, 0, []) := by unfold nx; rw [if_pos h12]
    have HN : Hid _ := hn
    clear hv hn
    go_enter Tryz.func37, Tryz.ntmps37
    go_wp2
    go_returns
    exact NxR.nil HN.out (Below.refl _ _)
  have hnx : nx bs = if numAt bs 4 ≠ sumB (bs.take 4) ∨ 65536 < (numAt bs 0).toNat then (34, 0, []) else
      if bs.length < 12 + (numAt bs 0).toNat then (10, 0, []) else
      if numAt bs 8 ≠ sumB ((bs.drop 12).take (numAt bs 0).toNat) then (34, 0, []) else
      (0, 12 + (numAt bs 0).toNat, (bs.drop 12).take (numAt bs 0).toNat) := by
    conv => lhs; unfold nx
    rw [if_neg h12]
  obtain ⟨x, hx⟩ : ∃ x, bs[0]? = some x := ⟨_, List.getElem?_eq_getElem (by omega)⟩
  obtain ⟨g, o, rfl, _⟩ := hv.at hx
  have HV : Hid (True ∧ BytesV w (.slice (some ⟨g, o, none⟩) bs.length vc) bs) := ⟨trivial, hv⟩
  have c0 := fun (w' : World) (h : Below w.heap.size w w') => rnum_v (HV.out.2.below h) 0 vc (by omega) bs.length (by omega)
  have c4 := fun (w' : World) (h : Below w.heap.size w w') => rnum_v (HV.out.2.below h) 4 (vc - 4) (by omega) (bs.length - 4) rfl
  have c8 := fun (w' : World) (h : Below w.heap.size w w') => rnum_v (HV.out.2.below h) 8 (vc - 8) (by omega) (bs.length - 8) rfl
  have s4 := fun (w' : World) (h : Below w.heap.size w w') => rsum_any (some ⟨g, o, none⟩) vc (bs.take 4) (by
    have := (HV.out.2.below h).part 0 4 vc (by omega)
    rw [List.drop_zero, Nat.add_zero] at this
    have e : (bs.take 4).length = 4 := by rw [List.length_take]; omega
    rw [e]
    exact this) (by rw [List.length_take]; omega)
  have e4 : (bs.take 4).length = 4 := by rw [List.length_take]; omega
  rw [e4] at s4
  rw [Nat.add_zero] at c0
  have L4 := fun w' => slL w' g o bs.length vc 4 4 rfl (by omega) (by omega)
  have L8 := fun w' => slL w' g o bs.length vc 8 8 rfl (by omega) (by omega)
  have H4 := fun w' => slH w' g o bs.length vc 4 4 rfl (by omega) (by omega)
  have HC : Hid _ := c0
  have HC4 : Hid _ := c4
  have HC8 : Hid _ := c8
  have HS4 : Hid _ := s4
  have HNX : Hid _ := hnx
  clear hv c0 c4 c8 s4 hnx hx e4
  by_cases hA : numAt bs 4 = sumB (bs.take 4)
  rotate_left
  · have hA1 : (J (sumB (bs.take 4)) != J (numAt bs 4)) = true := by simpa using fun h => hA (J_inj h).symm
    have hn : nx bs = (34, 0, []) := by rw [HNX.out, if_pos (Or.inl hA)]
    have HN : Hid _ := hn
    clear hn hA HNX
    go_enter Tryz.func37, Tryz.ntmps37
    go_wp2_with (first
      | (go_at_call 71
         refine Calls.mono (HC.out w (Below.refl _ _)) ?_
         rintro e w1 ⟨rfl, hm1⟩
         have HB1 : Hid (Below w.heap.size w w1) := (by obtain ⟨m, rfl⟩ := hm1; exact below_drewN' w m)
         clear hm1))
    go_quiet (first
      | (go_at_call 71; refine Calls.quiet_of (HC4.out _ ?_); exact bd2 HB1.out _)
      | (go_at_call 41; refine Calls.quiet_of_same (HS4.out _ ?_); exact bd2 HB1.out _))
    go_wp2
    go_returns
    exact NxR.nil HN.out (bd2 HB1.out _)
  have hA1 : (J (sumB (bs.take 4)) != J (numAt bs 4)) = false := by rw [hA]; simp
  by_cases hB : 65536 < (numAt bs 0).toNat
  · have hB1 : decide (65536 < J (numAt bs 0)) = true := by unfold J; simp; omega
    have hn : nx bs = (34, 0, []) := by rw [HNX.out, if_pos (Or.inr hB)]
    have HN : Hid _ := hn
    clear hn hA hB HNX
    go_enter Tryz.func37, Tryz.ntmps37
    go_wp2_with (first
      | (go_at_call 71
         refine Calls.mono (HC.out w (Below.refl _ _)) ?_
         rintro e w1 ⟨rfl, hm1⟩
         have HB1 : Hid (Below w.heap.size w w1) := (by obtain ⟨m, rfl⟩ := hm1; exact below_drewN' w m)
         clear hm1))
    go_quiet (first
      | (go_at_call 71; refine Calls.quiet_of (HC4.out _ ?_); exact bd2 HB1.out _)
      | (go_at_call 41; refine Calls.quiet_of_same (HS4.out _ ?_); exact bd2 HB1.out _))
    go_wp2
    go_returns
    exact NxR.nil HN.out (bd2 HB1.out _)
  have hB1 : decide (65536 < J (numAt bs 0)) = false := by unfold J; simp; omega
  have hAB : ¬ (numAt bs 4 ≠ sumB (bs.take 4) ∨ 65536 < (numAt bs 0).toNat) := fun h => h.elim (fun h => h hA) hB
  have hnx := HNX.out
  rw [if_neg hAB] at hnx
  have HNX2 : Hid _ := hnx
  obtain ⟨N, hN⟩ : ∃ N, (numAt bs 0).toNat = N := ⟨_, rfl⟩
  rw [hN] at hnx hB
  have hJ : J (numAt bs 0) = (N : Int) := by unfold J; rw [hN]
  have HNX3 : Hid _ := hnx
  clear hnx HNX HNX2 hA hAB hN
  have hB2 : decide (65536 < (N : Int)) = false := by simp; omega
  have hw12 : 12 + (N : Int) ≤ 9223372036854775807 := by omega
  by_cases hD : bs.length < 12 + N
  · have hD1 : (bs.length : Int) - 12 < N := by omega
    have hn : nx bs = (10, 0, []) := by rw [HNX3.out, if_pos hD]
    have HN : Hid _ := hn
    clear hn hD HNX3
    go_enter Tryz.func37, Tryz.ntmps37
    go_wp2_with (first
      | (go_at_call 71
         refine Calls.mono (HC.out w (Below.refl _ _)) ?_
         rintro e w1 ⟨rfl, hm1⟩
         have HB1 : Hid (Below w.heap.size w w1) := (by obtain ⟨m, rfl⟩ := hm1; exact below_drewN' w m)
         clear hm1))
    go_quiet (first
      | (go_at_call 71; refine Calls.quiet_of (HC4.out _ ?_); exact bd2 HB1.out _)
      | (go_at_call 41; refine Calls.quiet_of_same (HS4.out _ ?_); exact bd2 HB1.out _))
    go_wp2
    go_returns
    exact NxR.nil HN.out (bd2 HB1.out _)
  have hD1 : decide ((bs.length : Int) - 12 < N) = false := by simp; omega
  have hnx := HNX3.out
  rw [if_neg hD] at hnx
  have HNX4 : Hid _ := hnx
  clear hnx HNX3
  have LH := fun w' => slLH w' g o bs.length vc 12 (12 + N) 12 (12 + N) rfl (by omega) (by omega) (by omega)
  rw [show 12 + N - 12 = N from by omega] at LH
  have hrl : ((bs.drop 12).take N).length = N := by rw [List.length_take, List.length_drop]; omega
  have rv := fun (w' : World) (h : Below w.heap.size w w') => (show BytesV w' (.slice (some ⟨g, if vc = 12 then o else o + 12, none⟩) N (vc - 12)) ((bs.drop 12).take N) from by
    by_cases e : vc = 12
    · have hN0 : N = 0 := by omega
      subst hN0
      exact Or.inr ⟨⟨g, if vc = 12 then o else o + 12, none⟩, vc - 12, by simp, fun j u hu => by simp [vB] at hu⟩
    · rw [if_neg e]
      exact (HV.out.2.below h).part 12 N _ (by omega))
  have sR := fun (w' : World) (h : Below w.heap.size w w') => rsum_any (some ⟨g, if vc = 12 then o else o + 12, none⟩) (vc - 12) ((bs.drop 12).take N) (by rw [hrl]; exact rv w' h) (by rw [hrl]; omega)
  rw [hrl] at sR
  have HSR : Hid _ := sR
  have HRV : Hid _ := rv
  clear sR rv
  generalize (if vc = 12 then o else o + 12) = o2 at LH HSR HRV
  have HRL : Hid _ := hrl
  clear hrl
  by_cases hE : numAt bs 8 = sumB ((bs.drop 12).take N)
  rotate_left
  · have hE1 : (J (sumB ((bs.drop 12).take N)) != J (numAt bs 8)) = true := by simpa using fun h => hE (J_inj h).symm
    have hn : nx bs = (34, 0, []) := by rw [HNX4.out, if_pos hE]
    have HN : Hid _ := hn
    clear hn hE HNX4 HSR
    generalize (bs.drop 12).take N = xs at HRV HRL hE1 HN
    go_enter Tryz.func37, Tryz.ntmps37
    go_wp2_with (first
      | (go_at_call 71
         refine Calls.mono (HC.out w (Below.refl _ _)) ?_
         rintro e w1 ⟨rfl, hm1⟩
         have HB1 : Hid (Below w.heap.size w w1) := (by obtain ⟨m, rfl⟩ := hm1; exact below_drewN' w m)
         clear hm1))
    go_quiet (first
      | (go_at_call 71; refine Calls.quiet_of (HC4.out _ ?_); exact bd2 HB1.out _)
      | (go_at_call 41; refine Calls.quiet_of_same (HS4.out _ ?_); exact bd2 HB1.out _))
    have HN65 : Hid (N ≤ 65536) := (by show N ≤ 65536; omega)
    have HBW : Hid (Below w.heap.size w (w1.drewN nq)) := bd2 HB1.out _
    generalize w1.drewN nq = W0 at HBW ⊢
    go_wp2_with (first
      | (at_builtin
         have hx := HRV.out (W0.alloc (.cells #[] 5)) (HBW.out.alloc HBW.out.size _)
         refine wpList_append_b rfl _ _ rfl W0.heap.size (.slice (some ⟨W0.heap.size, 0, none⟩) 0 0) (.slice (some ⟨g, o2, none⟩) N (vc - 12)) [] xs rfl ⟨rfl, Or.inr ⟨W0.heap.size, 0, #[], by simp, Nat.le_refl _, by have := heap_alloc_new W0 (.cells #[] 5); simpa using this, Nat.le_refl _, by decide, rfl, rfl⟩⟩ rfl hx (by rw [HRL.out]; simp; omega) (by simp) ?_
         intro v5 w5 ho5 hg5 ha5
         rw [List.nil_append] at ho5
         have H5 : Hid (w5.ownsRow w.heap.size 5 1 v5 xs.length (vB xs) ∧ Below w.heap.size w w5) := ⟨ownsRow_le ho5 HBW.out.size, (HBW.out.alloc HBW.out.size _).grown hg5 (by have := HBW.out.size; simp; omega) (fun j hj => by injection hj with hj; rw [← hj]; exact HBW.out.size)⟩
         clear ho5 hg5 ha5 hx
         obtain ⟨a5, k5, hv5⟩ := row_form H5.out.1
         subst hv5))
    go_quiet (first
      | (go_at_call 71; refine Calls.quiet_of (HC8.out _ ?_); exact bd2 H5.out.2 _)
      | (go_at_call 41; refine Calls.quiet_of_same (rx41 H5.out.1 HRL.out HN65.out _ ?_); exact ⟨_, rfl⟩))
    go_wp2
    go_returns
    exact NxR.nil HN.out (bd2 H5.out.2 _)
  · have hE1 : (J (sumB ((bs.drop 12).take N)) != J (numAt bs 8)) = false := by rw [hE]; simp
    have hn : nx bs = (0, 12 + N, (bs.drop 12).take N) := by rw [HNX4.out, if_neg (fun h => h hE)]
    have HN : Hid _ := hn
    clear hn hE HNX4 HSR
    generalize (bs.drop 12).take N = xs at HRV HRL hE1 HN
    go_enter Tryz.func37, Tryz.ntmps37
    go_wp2_with (first
      | (go_at_call 71
         refine Calls.mono (HC.out w (Below.refl _ _)) ?_
         rintro e w1 ⟨rfl, hm1⟩
         have HB1 : Hid (Below w.heap.size w w1) := (by obtain ⟨m, rfl⟩ := hm1; exact below_drewN' w m)
         clear hm1))
    go_quiet (first
      | (go_at_call 71; refine Calls.quiet_of (HC4.out _ ?_); exact bd2 HB1.out _)
      | (go_at_call 41; refine Calls.quiet_of_same (HS4.out _ ?_); exact bd2 HB1.out _))
    have HN65 : Hid (N ≤ 65536) := (by show N ≤ 65536; omega)
    have HBW : Hid (Below w.heap.size w (w1.drewN nq)) := bd2 HB1.out _
    generalize w1.drewN nq = W0 at HBW ⊢
    go_wp2_with (first
      | (at_builtin
         have hx := HRV.out (W0.alloc (.cells #[] 5)) (HBW.out.alloc HBW.out.size _)
         refine wpList_append_b rfl _ _ rfl W0.heap.size (.slice (some ⟨W0.heap.size, 0, none⟩) 0 0) (.slice (some ⟨g, o2, none⟩) N (vc - 12)) [] xs rfl ⟨rfl, Or.inr ⟨W0.heap.size, 0, #[], by simp, Nat.le_refl _, by have := heap_alloc_new W0 (.cells #[] 5); simpa using this, Nat.le_refl _, by decide, rfl, rfl⟩⟩ rfl hx (by rw [HRL.out]; simp; omega) (by simp) ?_
         intro v5 w5 ho5 hg5 ha5
         rw [List.nil_append] at ho5
         have H5 : Hid (w5.ownsRow w.heap.size 5 1 v5 xs.length (vB xs) ∧ Below w.heap.size w w5) := ⟨ownsRow_le ho5 HBW.out.size, (HBW.out.alloc HBW.out.size _).grown hg5 (by have := HBW.out.size; simp; omega) (fun j hj => by injection hj with hj; rw [← hj]; exact HBW.out.size)⟩
         clear ho5 hg5 ha5 hx
         obtain ⟨a5, k5, hv5⟩ := row_form H5.out.1
         subst hv5))
    go_quiet (first
      | (go_at_call 71; refine Calls.quiet_of (HC8.out _ ?_); exact bd2 H5.out.2 _)
      | (go_at_call 41; refine Calls.quiet_of_same (rx41 H5.out.1 HRL.out HN65.out _ ?_); exact ⟨_, rfl⟩))
    go_wp2
    go_returns
    unfold NxR
    rw [HN.out]
    exact ⟨_, by simp, H5.out.1, bd2 H5.out.2 _⟩
end Go.Proofs.YtoplejbmgpgkhaaGreatDoor
