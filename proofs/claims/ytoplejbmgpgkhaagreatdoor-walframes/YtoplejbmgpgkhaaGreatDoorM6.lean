/- WT3, WT4, DH, laid into one text. -/
import Derived.Test.YtoplejbmgpgkhaaGreatDoorM5
import Derived.Test.YtoplejbmgpgkhaaGreatDoorM2
/- wal: the reference's Next. -/
namespace Go.Proofs.YtoplejbmgpgkhaaGreatDoor
open Go.RowKit Go.Maps Go.Joins
set_option linter.unusedSimpArgs false
set_option linter.unusedVariables false
theorem rnum_v {w : World} {g o n vc : Nat} {bs : List Int} (hv : BytesV w (.slice (some ⟨g, o, none⟩) n vc) bs) (i c : Nat) (hl : i + 4 ≤ bs.length) (k : Nat) (hk : k = bs.length - i) : Calls Tryz.prog 71 #[.slice (some ⟨g, o + i, none⟩) k c] w fun e w' => e = .returned (.int .u32 (J (numAt bs i))) ∧ ∃ m, w' = w.drewN m := by
  have hp := hv.part i (bs.length - i) c (by omega)
  have h4 : (bs.drop i).take (bs.length - i) = bs.getD i 0 :: bs.getD (i + 1) 0 :: bs.getD (i + 2) 0 :: bs.getD (i + 3) 0 :: (bs.drop (i + 4)) := by
    rw [List.take_of_length_le (by rw [List.length_drop]; omega)]
    have e : ∀ j, j < bs.length → bs.drop j = bs.getD j 0 :: bs.drop (j + 1) := fun j hj => by
      rw [List.drop_eq_getElem_cons hj]
      simp [List.getD, List.getElem?_eq_getElem hj]
    rw [e i (by omega), e (i + 1) (by omega), e (i + 2) (by omega), e (i + 3) (by omega)]
  subst hk
  exact rnum_any _ _ _ _ hp h4
theorem rx41 {w5 : World} {B N k5 : Nat} {a5 : Option Addr} {xs : List Int} (h : w5.ownsRow B 5 1 (.slice a5 xs.length k5) xs.length (vB xs)) (hl : xs.length = N) (hN : N ≤ 65536) (w' : World) (hw : ∃ m, w' = w5.drewN m) : Calls Tryz.prog 41 #[.slice a5 xs.length k5] w' fun e w'' => e = .returned (.int .u32 (J (sumB xs))) ∧ w'' = w' := by
  obtain ⟨m, rfl⟩ := hw
  have hv : BytesV (w5.drewN m) (.slice a5 xs.length k5) xs := (BytesV.of_own h).below (below_drewN' w5 m)
  have := rsum_any (w := w5.drewN m) a5 k5 xs hv (by omega)
  exact this
set_option maxRecDepth 100000 in
set_option maxHeartbeats 8000000 in
/-- The reference's Next -/
theorem rnext_any {w : World} (va : Option Addr) (vc : Nat) (bs : List Int) (hv : BytesV w (.slice va bs.length vc) bs) (hc : bs.length ≤ vc) (hm : vc ≤ 9223372036854775807) (hl : bs.length ≤ 140737488355328) :
    Calls Tryz.prog 37 #[.slice va bs.length vc] w fun e w' => NxR bs w e w' := by
  by_cases h12 : bs.length < 12
  · have hn : nx bs = (10, 0, []) := by unfold nx; rw [if_pos h12]
    have HN : Hid _ := hn
    clear hv hn
    go_enter Tryz.func37, Tryz.ntmps37
    go_wp2
    go_returns
    exact NxR.nil HN.out (Below.refl _ _)
  have hnx : nx bs = if numAt bs 4 ≠ sumB (bs.take 4) ∨ 65536 < (numAt bs 0).toNat then (34, 0, []) else
      if bs.length < 12 + (numAt bs 0).toNat then (10, 0, []) else
      if numAt bs 8 ≠ sumB ((bs.drop 12).take (numAt bs 0).toNat) then (34, 0, []) else
      (0, 12 + (numAt bs 0).toNat, (bs.drop 12).take (numAt bs 0).toNat) := by
    conv => lhs; unfold nx
    rw [if_neg h12]
  obtain ⟨x, hx⟩ : ∃ x, bs[0]? = some x := ⟨_, List.getElem?_eq_getElem (by omega)⟩
  obtain ⟨g, o, rfl, _⟩ := hv.at hx
  have HV : Hid (True ∧ BytesV w (.slice (some ⟨g, o, none⟩) bs.length vc) bs) := ⟨trivial, hv⟩
  have c0 := fun (w' : World) (h : Below w.heap.size w w') => rnum_v (HV.out.2.below h) 0 vc (by omega) bs.length (by omega)
  have c4 := fun (w' : World) (h : Below w.heap.size w w') => rnum_v (HV.out.2.below h) 4 (vc - 4) (by omega) (bs.length - 4) rfl
  have c8 := fun (w' : World) (h : Below w.heap.size w w') => rnum_v (HV.out.2.below h) 8 (vc - 8) (by omega) (bs.length - 8) rfl
  have s4 := fun (w' : World) (h : Below w.heap.size w w') => rsum_any (some ⟨g, o, none⟩) vc (bs.take 4) (by
    have := (HV.out.2.below h).part 0 4 vc (by omega)
    rw [List.drop_zero, Nat.add_zero] at this
    have e : (bs.take 4).length = 4 := by rw [List.length_take]; omega
    rw [e]
    exact this) (by rw [List.length_take]; omega)
  have e4 : (bs.take 4).length = 4 := by rw [List.length_take]; omega
  rw [e4] at s4
  rw [Nat.add_zero] at c0
  have L4 := fun w' => slL w' g o bs.length vc 4 4 rfl (by omega) (by omega)
  have L8 := fun w' => slL w' g o bs.length vc 8 8 rfl (by omega) (by omega)
  have H4 := fun w' => slH w' g o bs.length vc 4 4 rfl (by omega) (by omega)
  have HC : Hid _ := c0
  have HC4 : Hid _ := c4
  have HC8 : Hid _ := c8
  have HS4 : Hid _ := s4
  have HNX : Hid _ := hnx
  clear hv c0 c4 c8 s4 hnx hx e4
  by_cases hA : numAt bs 4 = sumB (bs.take 4)
  rotate_left
  · have hA1 : (J (sumB (bs.take 4)) != J (numAt bs 4)) = true := by simpa using fun h => hA (J_inj h).symm
    have hn : nx bs = (34, 0, []) := by rw [HNX.out, if_pos (Or.inl hA)]
    have HN : Hid _ := hn
    clear hn hA HNX
    go_enter Tryz.func37, Tryz.ntmps37
    go_wp2_with (first
      | (go_at_call 71
         refine Calls.mono (HC.out w (Below.refl _ _)) ?_
         rintro e w1 ⟨rfl, hm1⟩
         have HB1 : Hid (Below w.heap.size w w1) := (by obtain ⟨m, rfl⟩ := hm1; exact below_drewN' w m)
         clear hm1))
    go_quiet (first
      | (go_at_call 71; refine Calls.quiet_of (HC4.out _ ?_); exact bd2 HB1.out _)
      | (go_at_call 41; refine Calls.quiet_of_same (HS4.out _ ?_); exact bd2 HB1.out _))
    go_wp2
    go_returns
    exact NxR.nil HN.out (bd2 HB1.out _)
  have hA1 : (J (sumB (bs.take 4)) != J (numAt bs 4)) = false := by rw [hA]; simp
  by_cases hB : 65536 < (numAt bs 0).toNat
  · have hB1 : decide (65536 < J (numAt bs 0)) = true := by unfold J; simp; omega
    have hn : nx bs = (34, 0, []) := by rw [HNX.out, if_pos (Or.inr hB)]
    have HN : Hid _ := hn
    clear hn hA hB HNX
    go_enter Tryz.func37, Tryz.ntmps37
    go_wp2_with (first
      | (go_at_call 71
         refine Calls.mono (HC.out w (Below.refl _ _)) ?_
         rintro e w1 ⟨rfl, hm1⟩
         have HB1 : Hid (Below w.heap.size w w1) := (by obtain ⟨m, rfl⟩ := hm1; exact below_drewN' w m)
         clear hm1))
    go_quiet (first
      | (go_at_call 71; refine Calls.quiet_of (HC4.out _ ?_); exact bd2 HB1.out _)
      | (go_at_call 41; refine Calls.quiet_of_same (HS4.out _ ?_); exact bd2 HB1.out _))
    go_wp2
    go_returns
    exact NxR.nil HN.out (bd2 HB1.out _)
  have hB1 : decide (65536 < J (numAt bs 0)) = false := by unfold J; simp; omega
  have hAB : ¬ (numAt bs 4 ≠ sumB (bs.take 4) ∨ 65536 < (numAt bs 0).toNat) := fun h => h.elim (fun h => h hA) hB
  have hnx := HNX.out
  rw [if_neg hAB] at hnx
  have HNX2 : Hid _ := hnx
  obtain ⟨N, hN⟩ : ∃ N, (numAt bs 0).toNat = N := ⟨_, rfl⟩
  rw [hN] at hnx hB
  have hJ : J (numAt bs 0) = (N : Int) := by unfold J; rw [hN]
  have HNX3 : Hid _ := hnx
  clear hnx HNX HNX2 hA hAB hN
  have hB2 : decide (65536 < (N : Int)) = false := by simp; omega
  have hw12 : 12 + (N : Int) ≤ 9223372036854775807 := by omega
  by_cases hD : bs.length < 12 + N
  · have hD1 : (bs.length : Int) - 12 < N := by omega
    have hn : nx bs = (10, 0, []) := by rw [HNX3.out, if_pos hD]
    have HN : Hid _ := hn
    clear hn hD HNX3
    go_enter Tryz.func37, Tryz.ntmps37
    go_wp2_with (first
      | (go_at_call 71
         refine Calls.mono (HC.out w (Below.refl _ _)) ?_
         rintro e w1 ⟨rfl, hm1⟩
         have HB1 : Hid (Below w.heap.size w w1) := (by obtain ⟨m, rfl⟩ := hm1; exact below_drewN' w m)
         clear hm1))
    go_quiet (first
      | (go_at_call 71; refine Calls.quiet_of (HC4.out _ ?_); exact bd2 HB1.out _)
      | (go_at_call 41; refine Calls.quiet_of_same (HS4.out _ ?_); exact bd2 HB1.out _))
    go_wp2
    go_returns
    exact NxR.nil HN.out (bd2 HB1.out _)
  have hD1 : decide ((bs.length : Int) - 12 < N) = false := by simp; omega
  have hnx := HNX3.out
  rw [if_neg hD] at hnx
  have HNX4 : Hid _ := hnx
  clear hnx HNX3
  have LH := fun w' => slLH w' g o bs.length vc 12 (12 + N) 12 (12 + N) rfl (by omega) (by omega) (by omega)
  rw [show 12 + N - 12 = N from by omega] at LH
  have hrl : ((bs.drop 12).take N).length = N := by rw [List.length_take, List.length_drop]; omega
  have rv := fun (w' : World) (h : Below w.heap.size w w') => (show BytesV w' (.slice (some ⟨g, if vc = 12 then o else o + 12, none⟩) N (vc - 12)) ((bs.drop 12).take N) from by
    by_cases e : vc = 12
    · have hN0 : N = 0 := by omega
      subst hN0
      exact Or.inr ⟨⟨g, if vc = 12 then o else o + 12, none⟩, vc - 12, by simp, fun j u hu => by simp [vB] at hu⟩
    · rw [if_neg e]
      exact (HV.out.2.below h).part 12 N _ (by omega))
  have sR := fun (w' : World) (h : Below w.heap.size w w') => rsum_any (some ⟨g, if vc = 12 then o else o + 12, none⟩) (vc - 12) ((bs.drop 12).take N) (by rw [hrl]; exact rv w' h) (by rw [hrl]; omega)
  rw [hrl] at sR
  have HSR : Hid _ := sR
  have HRV : Hid _ := rv
  clear sR rv
  generalize (if vc = 12 then o else o + 12) = o2 at LH HSR HRV
  have HRL : Hid _ := hrl
  clear hrl
  by_cases hE : numAt bs 8 = sumB ((bs.drop 12).take N)
  rotate_left
  · have hE1 : (J (sumB ((bs.drop 12).take N)) != J (numAt bs 8)) = true := by simpa using fun h => hE (J_inj h).symm
    have hn : nx bs = (34, 0, []) := by rw [HNX4.out, if_pos hE]
    have HN : Hid _ := hn
    clear hn hE HNX4 HSR
    generalize (bs.drop 12).take N = xs at HRV HRL hE1 HN
    go_enter Tryz.func37, Tryz.ntmps37
    go_wp2_with (first
      | (go_at_call 71
         refine Calls.mono (HC.out w (Below.refl _ _)) ?_
         rintro e w1 ⟨rfl, hm1⟩
         have HB1 : Hid (Below w.heap.size w w1) := (by obtain ⟨m, rfl⟩ := hm1; exact below_drewN' w m)
         clear hm1))
    go_quiet (first
      | (go_at_call 71; refine Calls.quiet_of (HC4.out _ ?_); exact bd2 HB1.out _)
      | (go_at_call 41; refine Calls.quiet_of_same (HS4.out _ ?_); exact bd2 HB1.out _))
    have HN65 : Hid (N ≤ 65536) := (by show N ≤ 65536; omega)
    have HBW : Hid (Below w.heap.size w (w1.drewN nq)) := bd2 HB1.out _
    generalize w1.drewN nq = W0 at HBW ⊢
    go_wp2_with (first
      | (at_builtin
         have hx := HRV.out (W0.alloc (.cells #[] 5)) (HBW.out.alloc HBW.out.size _)
         refine wpList_append_b rfl _ _ rfl W0.heap.size (.slice (some ⟨W0.heap.size, 0, none⟩) 0 0) (.slice (some ⟨g, o2, none⟩) N (vc - 12)) [] xs rfl ⟨rfl, Or.inr ⟨W0.heap.size, 0, #[], by simp, Nat.le_refl _, by have := heap_alloc_new W0 (.cells #[] 5); simpa using this, Nat.le_refl _, by decide, rfl, rfl⟩⟩ rfl hx (by rw [HRL.out]; simp; omega) (by simp) ?_
         intro v5 w5 ho5 hg5 ha5
         rw [List.nil_append] at ho5
         have H5 : Hid (w5.ownsRow w.heap.size 5 1 v5 xs.length (vB xs) ∧ Below w.heap.size w w5) := ⟨ownsRow_le ho5 HBW.out.size, (HBW.out.alloc HBW.out.size _).grown hg5 (by have := HBW.out.size; simp; omega) (fun j hj => by injection hj with hj; rw [← hj]; exact HBW.out.size)⟩
         clear ho5 hg5 ha5 hx
         obtain ⟨a5, k5, hv5⟩ := row_form H5.out.1
         subst hv5))
    go_quiet (first
      | (go_at_call 71; refine Calls.quiet_of (HC8.out _ ?_); exact bd2 H5.out.2 _)
      | (go_at_call 41; refine Calls.quiet_of_same (rx41 H5.out.1 HRL.out HN65.out _ ?_); exact ⟨_, rfl⟩))
    go_wp2
    go_returns
    exact NxR.nil HN.out (bd2 H5.out.2 _)
  · have hE1 : (J (sumB ((bs.drop 12).take N)) != J (numAt bs 8)) = false := by rw [hE]; simp
    have hn : nx bs = (0, 12 + N, (bs.drop 12).take N) := by rw [HNX4.out, if_neg (fun h => h hE)]
    have HN : Hid _ := hn
    clear hn hE HNX4 HSR
    generalize (bs.drop 12).take N = xs at HRV HRL hE1 HN
    go_enter Tryz.func37, Tryz.ntmps37
    go_wp2_with (first
      | (go_at_call 71
         refine Calls.mono (HC.out w (Below.refl _ _)) ?_
         rintro e w1 ⟨rfl, hm1⟩
         have HB1 : Hid (Below w.heap.size w w1) := (by obtain ⟨m, rfl⟩ := hm1; exact below_drewN' w m)
         clear hm1))
    go_quiet (first
      | (go_at_call 71; refine Calls.quiet_of (HC4.out _ ?_); exact bd2 HB1.out _)
      | (go_at_call 41; refine Calls.quiet_of_same (HS4.out _ ?_); exact bd2 HB1.out _))
    have HN65 : Hid (N ≤ 65536) := (by show N ≤ 65536; omega)
    have HBW : Hid (Below w.heap.size w (w1.drewN nq)) := bd2 HB1.out _
    generalize w1.drewN nq = W0 at HBW ⊢
    go_wp2_with (first
      | (at_builtin
         have hx := HRV.out (W0.alloc (.cells #[] 5)) (HBW.out.alloc HBW.out.size _)
         refine wpList_append_b rfl _ _ rfl W0.heap.size (.slice (some ⟨W0.heap.size, 0, none⟩) 0 0) (.slice (some ⟨g, o2, none⟩) N (vc - 12)) [] xs rfl ⟨rfl, Or.inr ⟨W0.heap.size, 0, #[], by simp, Nat.le_refl _, by have := heap_alloc_new W0 (.cells #[] 5); simpa using this, Nat.le_refl _, by decide, rfl, rfl⟩⟩ rfl hx (by rw [HRL.out]; simp; omega) (by simp) ?_
         intro v5 w5 ho5 hg5 ha5
         rw [List.nil_append] at ho5
         have H5 : Hid (w5.ownsRow w.heap.size 5 1 v5 xs.length (vB xs) ∧ Below w.heap.size w w5) := ⟨ownsRow_le ho5 HBW.out.size, (HBW.out.alloc HBW.out.size _).grown hg5 (by have := HBW.out.size; simp; omega) (fun j hj => by injection hj with hj; rw [← hj]; exact HBW.out.size)⟩
         clear ho5 hg5 ha5 hx
         obtain ⟨a5, k5, hv5⟩ := row_form H5.out.1
         subst hv5))
    go_quiet (first
      | (go_at_call 71; refine Calls.quiet_of (HC8.out _ ?_); exact bd2 H5.out.2 _)
      | (go_at_call 41; refine Calls.quiet_of_same (rx41 H5.out.1 HRL.out HN65.out _ ?_); exact ⟨_, rfl⟩))
    go_wp2
    go_returns
    unfold NxR
    rw [HN.out]
    exact ⟨_, by simp, H5.out.1, bd2 H5.out.2 _⟩
end Go.Proofs.YtoplejbmgpgkhaaGreatDoor
/- wal: the reference's Frame. -/
namespace Go.Proofs.YtoplejbmgpgkhaaGreatDoor
open Go.RowKit Go.Maps Go.Joins
set_option linter.unusedSimpArgs false
set_option linter.unusedVariables false
theorem own_below {w w' : World} {B n : Nat} {v : Value} {l : List Value} (h : w.ownsRow B 5 1 v n l) (hb : Below w.heap.size w w') : w'.ownsRow B 5 1 v n l :=
  ownsRow_heap h (fun b hb' => hb.block b (h.lt b hb').2)
theorem rfour_own (w : World) (n : BitVec 32) : Calls Tryz.prog 73 #[.int .u32 (J n)] w fun e w' => ∃ a k, e = .returned (.slice a 4 k) ∧ w'.ownsRow w.heap.size 5 1 (.slice a 4 k) (fourB n).length (vB (fourB n)) ∧ Below w.heap.size w w' := by
  refine (rfour_any w n).mono ?_
  rintro e w' ⟨rfl, rfl⟩
  refine ⟨_, _, rfl, ⟨rfl, Or.inr ⟨w.heap.size, 4, #[.int .u8 (J n / 16777216 % 256), .int .u8 (J n / 65536 % 256), .int .u8 (J n / 256 % 256), .int .u8 (J n % 256)], rfl, Nat.le_refl _, heap_alloc_new _ _, Nat.le_refl _, by decide, rfl, rfl⟩⟩, by go_grown⟩
set_option maxRecDepth 100000 in
set_option maxHeartbeats 8000000 in
theorem rframe_any {w : World} (va : Option Addr) (vc : Nat) (bs : List Int) (hv : BytesV w (.slice va bs.length vc) bs) (hl : bs.length ≤ 140737488351232) :
    Calls Tryz.prog 39 #[.slice va bs.length vc] w fun e w' => ∃ v, e = .returned v ∧ w'.ownsRow w.heap.size 5 1 v (frameB bs).length (vB (frameB bs)) ∧ Below w.heap.size w w' := by
  have HV : Hid (BytesV w (.slice va bs.length vc) bs) := hv
  clear hv
  have hln : (bs.length : Int) % 4294967296 = J (BitVec.ofNat 32 bs.length) := by
    unfold J
    rw [BitVec.toNat_ofNat]
    omega
  have hh : fourB (BitVec.ofNat 32 bs.length) = headB bs := rfl
  have HL : Hid ((headB bs).length = 4) := rfl
  obtain ⟨n0, hn0⟩ : ∃ n0, n0 = BitVec.ofNat 32 bs.length := ⟨_, rfl⟩
  rw [← hn0] at hln hh
  have HH : Hid _ := hh
  clear hh hn0
  go_enter Tryz.func39, Tryz.ntmps39
  go_wp2_with (first
    | (have K4 := H4.out.2
       go_at_call 73
       refine Calls.mono (rfour_own _ (sumB bs)) ?_
       rintro e w5 ⟨a5, k5, rfl, ho5, hb5⟩
       have H5 : Hid (w5.ownsRow w4.heap.size 5 1 (.slice a5 4 k5) (fourB (sumB bs)).length (vB (fourB (sumB bs))) ∧ w5.ownsRow w.heap.size 5 1 (.slice a4 c4 k4) (headB bs ++ fourB (sumB (headB bs))).length (vB (headB bs ++ fourB (sumB (headB bs)))) ∧ Below w.heap.size w w5) := ⟨ho5, own_below H4.out.1 hb5, H4.out.2.trans (hb5.mono H4.out.2.size)⟩
       clear ho5 hb5 K4)
    | (have K4 := H2.out.2
       go_at_call 73
       refine Calls.mono (rfour_own _ (sumB (headB bs))) ?_
       rintro e w3 ⟨a3, k3, rfl, ho3, hb3⟩
       have H3 : Hid (w3.ownsRow w2.heap.size 5 1 (.slice a3 4 k3) (fourB (sumB (headB bs))).length (vB (fourB (sumB (headB bs)))) ∧ w3.ownsRow w.heap.size 5 1 (.slice a2 c2 k2) (headB bs).length (vB (headB bs)) ∧ Below w.heap.size w w3) := ⟨ho3, own_below H2.out.1 hb3, H2.out.2.2.trans (hb3.mono H2.out.2.2.size)⟩
       clear ho3 hb3 K4)
    | (go_at_call 73
       refine Calls.mono (rfour_own _ n0) ?_
       rintro e w1 ⟨a1, k1, rfl, ho1, hb1⟩
       rw [HH.out] at ho1
       have H1 : Hid (w1.ownsRow w.heap.size 5 1 (.slice a1 4 k1) (headB bs).length (vB (headB bs)) ∧ Below w.heap.size w w1) := ⟨ho1, hb1⟩
       clear ho1 hb1)
    | (have K4 := H4.out.2
       go_at_call 41
       refine Calls.mono (rsum_any va vc bs (HV.out.below H4.out.2) (by omega)) ?_
       rintro e w9 ⟨rfl, hw9⟩
       obtain rfl := hw9.symm
       clear hw9 K4)
    | (have K4 := H2.out.2
       go_at_call 41
       refine Calls.mono (rsum_any a1 k1 (headB bs) H2.out.2.1 (by rw [HL.out]; omega)) ?_
       rintro e w9 ⟨rfl, hw9⟩
       obtain rfl := hw9.symm
       clear hw9 K4)
    | (at_builtin
       have K := H6.out
       refine wpList_append_b rfl _ _ rfl w.heap.size (.slice a6 c6 k6) (.slice va bs.length vc) (headB bs ++ fourB (sumB (headB bs)) ++ fourB (sumB bs)) bs rfl K.1 rfl (HV.out.below K.2) (by simp [headB, fourB_length]; omega) K.2.size ?_
       intro v7 w7 ho7 hg7 ha7
       have H7 : Hid (w7.ownsRow w.heap.size 5 1 v7 (frameB bs).length (vB (frameB bs)) ∧ Below w.heap.size w w7) := ⟨ho7, K.2.grown hg7 K.2.size (fun j hj => (K.1.lt j hj).1)⟩
       clear ho7 hg7 ha7 K)
    | (at_builtin
       have K := H5.out
       refine wpList_append_b rfl _ _ rfl w.heap.size (.slice a4 c4 k4) (.slice a5 4 k5) (headB bs ++ fourB (sumB (headB bs))) (fourB (sumB bs)) rfl K.2.1 rfl (BytesV.of_own K.1) (by simp [headB, fourB_length]) K.2.2.size ?_
       intro v6 w6 ho6 hg6 ha6
       have H6 : Hid (w6.ownsRow w.heap.size 5 1 v6 (headB bs ++ fourB (sumB (headB bs)) ++ fourB (sumB bs)).length (vB (headB bs ++ fourB (sumB (headB bs)) ++ fourB (sumB bs))) ∧ Below w.heap.size w w6) := ⟨ho6, K.2.2.grown hg6 K.2.2.size (fun j hj => (K.2.1.lt j hj).1)⟩
       obtain ⟨a6, c6, k6, hv6⟩ : ∃ a c k, v6 = .slice a c k := (by obtain ⟨a, k, e⟩ := row_form H6.out.1; exact ⟨_, _, _, e⟩)
       subst hv6
       clear ho6 hg6 ha6 K)
    | (at_builtin
       have K := H3.out
       refine wpList_append_b rfl _ _ rfl w.heap.size (.slice a2 c2 k2) (.slice a3 4 k3) (headB bs) (fourB (sumB (headB bs))) rfl K.2.1 rfl (BytesV.of_own K.1) (by simp [headB, fourB_length]) K.2.2.size ?_
       intro v4 w4 ho4 hg4 ha4
       have H4 : Hid (w4.ownsRow w.heap.size 5 1 v4 (headB bs ++ fourB (sumB (headB bs))).length (vB (headB bs ++ fourB (sumB (headB bs)))) ∧ Below w.heap.size w w4) := ⟨ho4, K.2.2.grown hg4 K.2.2.size (fun j hj => (K.2.1.lt j hj).1)⟩
       obtain ⟨a4, c4, k4, hv4⟩ : ∃ a c k, v4 = .slice a c k := (by obtain ⟨a, k, e⟩ := row_form H4.out.1; exact ⟨_, _, _, e⟩)
       subst hv4
       clear ho4 hg4 ha4 K)
    | (at_builtin
       have K := H1.out
       have hb' : Below w1.heap.size w1 (w1.alloc (.cells #[] 5)) := (Below.refl _ _).alloc (Nat.le_refl _) _
       have hr1 := own_below K.1 hb'
       refine wpList_append_b rfl _ _ rfl w1.heap.size (.slice (some ⟨w1.heap.size, 0, none⟩) 0 0) (.slice a1 4 k1) [] (headB bs) rfl ⟨rfl, Or.inr ⟨w1.heap.size, 0, #[], by simp, Nat.le_refl _, by have := heap_alloc_new w1 (.cells #[] 5); simpa using this, Nat.le_refl _, by decide, rfl, rfl⟩⟩ rfl (BytesV.of_own hr1) (by rw [HL.out]; simp) (by simp) ?_
       intro v2 w2 ho2 hg2 ha2
       rw [List.nil_append] at ho2
       have hb2 : Below w1.heap.size w1 w2 := hb'.grown hg2 (by simp) (fun j hj => by injection hj with hj; rw [← hj]; exact Nat.le_refl _)
       have H2 : Hid (w2.ownsRow w.heap.size 5 1 v2 (headB bs).length (vB (headB bs)) ∧ BytesV w2 (.slice a1 (headB bs).length k1) (headB bs) ∧ Below w.heap.size w w2) := ⟨ownsRow_le ho2 K.2.size, BytesV.of_own (own_below K.1 hb2), K.2.trans (hb2.mono K.2.size)⟩
       obtain ⟨a2, c2, k2, hv2⟩ : ∃ a c k, v2 = .slice a c k := (by obtain ⟨a, k, e⟩ := row_form H2.out.1; exact ⟨_, _, _, e⟩)
       subst hv2
       clear ho2 hg2 ha2 K hb' hr1 hb2))
  go_ret
  exact ⟨v7, rfl, H7.out⟩
end Go.Proofs.YtoplejbmgpgkhaaGreatDoor
/- disk: used. -/
namespace Go.Proofs.YtoplejbmgpgkhaaGreatDoor
open Go.RowKit Go.Maps Go.Joins
set_option linter.unusedSimpArgs false
set_option linter.unusedVariables false
/-- What those that are no longer to come have together. -/
def sumL (f : List UInt8 → Nat) (left : Lit → Bool) : List (List UInt8 × Nat) → Nat
  | [] => 0
  | p :: r => (if left (.string p.1) then 0 else f p.1) + sumL f left r
def total (S : DS) : Nat := sumL (fun n => (S.fl n).bs.length) (fun _ => false) S.fs
theorem sumL_le (f : List UInt8 → Nat) (left : Lit → Bool) : ∀ l, sumL f left l ≤ sumL f (fun _ => false) l
  | [] => Nat.le_refl _
  | p :: r => by
    have := sumL_le f left r
    simp only [sumL]
    split <;> simp <;> omega
theorem sumL_end {f : List UInt8 → Nat} {left : Lit → Bool} (h : ∀ k, left k = false) : ∀ l, sumL f left l = sumL f (fun _ => false) l
  | [] => rfl
  | p :: r => by simp only [sumL, h, sumL_end h r]
theorem sumL_start {f : List UInt8 → Nat} {left : Lit → Bool} : ∀ l, (∀ p ∈ l, left (.string p.1) = true) → sumL f left l = 0
  | [], _ => rfl
  | p :: r, h => by simp only [sumL, h p (List.mem_cons_self ..), if_true, sumL_start r (fun q hq => h q (List.mem_cons_of_mem _ hq))]
theorem sumL_other {f : List UInt8 → Nat} {left : Lit → Bool} {n : List UInt8} : ∀ l : List (List UInt8 × Nat), (∀ p ∈ l, p.1 ≠ n) → sumL f (fun z => left z && !z.sameKey (.string n)) l = sumL f left l
  | [], _ => rfl
  | p :: r, h => by
    have e : (Lit.string p.1).sameKey (.string n) = false := by
      have := h p (List.mem_cons_self ..)
      simpa [Lit.sameKey] using this
    simp only [sumL, e, Bool.not_false, Bool.and_true, sumL_other r (fun q hq => h q (List.mem_cons_of_mem _ hq))]
theorem sumL_step {f : List UInt8 → Nat} {left : Lit → Bool} {n : List UInt8} {g : Nat} (hl : left (.string n) = true) : ∀ l : List (List UInt8 × Nat), (l.map toE).Pairwise (fun p q => p.1 ≠ q.1) → (n, g) ∈ l → sumL f (fun z => left z && !z.sameKey (.string n)) l = sumL f left l + f n
  | [], _, h => by cases h
  | p :: r, hp, h => by
    rw [List.map_cons, List.pairwise_cons] at hp
    by_cases e : p.1 = n
    · have hr : ∀ q ∈ r, q.1 ≠ n := fun q hq e' => hp.1 _ (List.mem_map_of_mem hq) (by show Lit.string p.1 = Lit.string q.1; rw [e, e'])
      have e1 : (Lit.string p.1).sameKey (.string n) = true := by simp [Lit.sameKey, e]
      simp only [sumL, sumL_other r hr, e1, Bool.not_true, Bool.and_false]
      rw [e, hl]
      simp
      omega
    · have e1 : (Lit.string p.1).sameKey (.string n) = false := by simpa [Lit.sameKey] using e
      have hm : (n, g) ∈ r := by
        rcases List.mem_cons.1 h with h | h
        · exact absurd (by rw [← h]) e
        · exact h
      have := sumL_step (f := f) hl r hp.2 hm
      simp only [sumL, e1, Bool.not_false, Bool.and_true, this]
      omega
theorem DiskIs.apart {w : World} {bd : Nat} {S : DS} (h : DiskIs w bd S) : (S.fs.map toE).Pairwise (fun p q => p.1 ≠ q.1) := by
  obtain ⟨es, he, hp, _⟩ := h.files.entries law9
  have : S.fs.map toE = es := by
    unfold toD at he
    injection he
  rw [this]
  exact hp
theorem at_some {fs : List (List UInt8 × Nat)} {n : List UInt8} {y : DataW Unit} (h : ∀ z, (toD fs).atKey (.string n) z = y) : ∃ g, look fs n = some g ∧ y = .lit (.int .i64 (g : Int)) := by
  cases hl : look fs n with
  | none =>
    have h1 := h .nil
    have h2 := h (.lit (.bool true))
    rw [at_toD, hl] at h1 h2
    rw [← h1] at h2
    cases h2
  | some g =>
    have h1 := h .nil
    rw [at_toD, hl] at h1
    exact ⟨g, rfl, h1.symm⟩
set_option maxRecDepth 100000 in
set_option maxHeartbeats 4000000 in
/-- (*Disk).used -/
theorem used_any {w : World} {bd : Nat} {S : DS} (h : DiskIs w bd S) (hT : total S ≤ 4611686018427387904) :
    Calls Tryz.prog 77 #[.pointer (some ⟨bd, 0, none⟩)] w fun e w' => e = .returned (.int .i64 (total S)) ∧ Below w.heap.size w w' := by
  have HD : Hid (DiskIs w bd S) := h
  have HT : Hid (total S ≤ 4611686018427387904) := hT
  have c1 : w.cell? ⟨bd, 1, none⟩ = some (.map (some S.bm)) := by rw [cell_of_block h.disk]; rfl
  clear h hT
  go_enter Tryz.func77, Tryz.ntmps77
  go_wp2_with (first
    | (at_range; refine wpList_range_own _ rfl _ 77 rfl 9 99 law9 Tryz.underlying77 Rp S.bm S.fs.length (toD S.fs) rfl HD.out.files ?_; intro w0 hrg0 hg0 hs0)
    | go_in)
  go_frame
  go_loopw [3] (fun n wr => ∃ (left : Lit → Bool) (cnt : Nat), n = .int .i64 (sumL (fun n => (S.fl n).bs.length) left S.fs : Nat) ∧ wr.ranges Tryz.prog 9 Rp S.bm w.heap.size S.fs.length (toD S.fs) left cnt ∧ Below w.heap.size w wr)
    (fun _ wr => wr.rangeLeft S.bm w.heap.size)
  case atStart =>
    refine ⟨_, _, ?_, hrg0, ⟨hg0.os, hg0.tape, hg0.output, hg0.size, fun k hk => hg0.block k hk (by simp)⟩⟩
    rw [sumL_start]
    · rfl
    · intro p hp
      rw [has_toD]
      unfold look
      rw [Option.isSome_map, List.find?_isSome]
      exact ⟨p, hp, by simp⟩
  case round =>
    obtain ⟨left, cnt, rfl, hrg, hb⟩ := hrel
    go_wp2_with (first
      | (at_next; refine wpList_next_ranges _ rfl _ rfl 9 law9 Rp encStr pv (fun key kl hk => by obtain ⟨x, hx, _⟩ := Maps.keyOf_str Tryz.underlying9 hk; exact ⟨x, hx⟩) Rp_inv S.bm w.heap.size S.fs.length (toD S.fs) left cnt rfl hrg ?_ ?_)
      | go_in)
    · intro _ hl0
      go_wp2
      go_ret
      refine ⟨?_, hb⟩
      rw [sumL_end hl0]
      rfl
    · intro x c kl yd yp w2 cnt2 hkey hlk hv hat hrg2 hlt hg2 hs2 hen
      obtain ⟨x', ex, rfl, _⟩ := Maps.keyOf_str Tryz.underlying9 hkey
      obtain rfl : x = x' := encStr_inj ex
      obtain ⟨g, hlg, hy⟩ := at_some hat
      subst hy
      have hc : pv c = .pointer (some ⟨g, 0, none⟩) := Rp_lit hv
      have hm := look_mem hlg
      have hb2 : Below w.heap.size w w2 := hb.grown hg2 hb.size (fun j hj => by cases hj; exact Nat.le_refl _)
      have hfile := (HD.out.below hb2).file _ hm
      obtain ⟨a, cap, hsl⟩ := row_form (HD.out.row _ hm)
      have c0 : w2.cell? ⟨g, 0, none⟩ = some (.slice a (S.fl x).bs.length cap) := by rw [cell_of_block hfile, hsl]; rfl
      have hsum := sumL_step (f := fun n => (S.fl n).bs.length) hlk S.fs HD.out.apart hm
      have hle := sumL_le (fun n => (S.fl n).bs.length) (fun z => left z && !z.sameKey (.string x)) S.fs
      have hTT := HT.out
      unfold total at hTT
      rw [hc] at hen ⊢
      clear hs2 hc hfile hsl hkey hv hat
      have hbd : ((sumL (fun n => (S.fl n).bs.length) left S.fs : Nat) : Int) + ((S.fl x).bs.length : Int) ≤ 4611686018427387904 := by omega
      go_wp2
      go_roundw
      case rel => exact ⟨_, cnt2, by rw [hsum]; simp, hrg2, hb2⟩
      case measure => rw [hrg2.left_eq, hrg.left_eq]; exact hlt
end Go.Proofs.YtoplejbmgpgkhaaGreatDoor
