/- wal: Clone, Next. -/
import Derived.Test.YtoplejbmgpgkhaaGreatDoorGWB
namespace Go.Proofs.YtoplejbmgpgkhaaGreatDoor
open Go.RowKit Go.Maps Go.Joins
set_option linter.unusedSimpArgs false
set_option linter.unusedVariables false
theorem below_drewN' (w : World) (n : Nat) : Below w.heap.size w (w.drewN n) := ⟨rfl, rfl, rfl, Nat.le_refl _, fun _ _ => rfl⟩
theorem bd2 {w w1 : World} {B : Nat} (h : Below B w w1) (n : Nat) : Below B w (w1.drewN n) := ⟨h.os, h.tape, h.output, h.size, h.block⟩
/-- A part of a slice of bytes. -/
theorem BytesV.part {w : World} {g o n vc : Nat} {bs : List Int} (h : BytesV w (.slice (some ⟨g, o, none⟩) n vc) bs) (i l c : Nat) (hl : i + l ≤ bs.length) : BytesV w (.slice (some ⟨g, o + i, none⟩) l c) ((bs.drop i).take l) := by
  have hlen : ((bs.drop i).take l).length = l := by rw [List.length_take, List.length_drop]; omega
  refine Or.inr ⟨⟨g, o + i, none⟩, c, by rw [hlen], fun j u hu => ?_⟩
  have hj : j < l := by
    have := (List.getElem?_eq_some_iff.1 hu).1
    rw [vB_length, hlen] at this
    exact this
  obtain ⟨x, hx⟩ : ∃ x, bs[i + j]? = some x := ⟨_, List.getElem?_eq_getElem (by omega)⟩
  obtain ⟨_, _, e, hc⟩ := h.at hx
  injection e with e
  injection e with e1 e2 _
  subst e1 e2
  have hu' : u = .int .u8 x := by
    unfold vB at hu
    rw [List.getElem?_map, List.getElem?_take, if_pos hj, List.getElem?_drop, hx] at hu
    injection hu with hu
    exact hu.symm
  rw [Addr.add_lit, hu', Nat.add_assoc]
  exact hc
set_option maxRecDepth 100000 in
set_option maxHeartbeats 4000000 in
/-- bytes.Clone -/
theorem bclone_any {w : World} (v : Value) (bs : List Int) (hv : BytesV w v bs) (hl : bs.length ≤ 140737488355328) :
    Calls Tryz.prog 58 #[v] w fun e w' => ∃ v', e = .returned v' ∧ w'.ownsRow w.heap.size 5 1 v' bs.length (vB bs) ∧ Below w.heap.size w w' := by
  rcases hv with ⟨rfl, rfl⟩ | ⟨ad, cap, rfl, hc⟩
  · have he : ∀ w : World, (binOp .eql 36 (.slice none 0 0) (.slice none 0 0) : Sem Value).run Tryz.prog w = .ok (.bool true) w := fun w => by kernel_rfl
    go_enter Tryz.func58, Tryz.ntmps58
    go_wp2
    go_ret
    exact ⟨_, rfl, World.ownsRow_nil _ _ _ _, Below.refl _ _⟩
  · have HC : Hid (∀ j u, (vB bs)[j]? = some u → w.cell? (ad.add j) = some u) := hc
    clear hc
    have he : ∀ w : World, (binOp .eql 36 (.slice (some ad) bs.length cap) (.slice none 0 0) : Sem Value).run Tryz.prog w = .ok (.bool false) w := fun w => by kernel_rfl
    go_enter Tryz.func58, Tryz.ntmps58
    go_wp2_with (first
      | (at_builtin
         have ho0 : (w.alloc (.cells #[] 5)).ownsRow w.heap.size 5 1 (.slice (some ⟨w.heap.size, 0, none⟩) 0 0) ([] : List Int).length (vB []) := ⟨rfl, Or.inr ⟨w.heap.size, 0, #[], by simp, Nat.le_refl _, by have := heap_alloc_new w (.cells #[] 5); simpa using this, Nat.le_refl _, by decide, rfl, rfl⟩⟩
         refine wpList_append_b rfl _ _ rfl w.heap.size (.slice (some ⟨w.heap.size, 0, none⟩) 0 0) (.slice (some ad) bs.length cap) [] bs rfl ho0 rfl (Or.inr ⟨ad, cap, rfl, fun j u hu => (Below.cell (by go_grown) (cell_lt (HC.out j u hu))).trans (HC.out j u hu)⟩) (by simpa using hl) (by simp) ?_
         intro v' w2 ho hg ha
         rw [List.nil_append] at ho
         have H2 : Hid (w2.ownsRow w.heap.size 5 1 v' bs.length (vB bs) ∧ Below w.heap.size w w2) := ⟨ho, ((Below.refl _ w).alloc (Nat.le_refl _) _).grown hg (by simp) (fun j hj => by have h9 : w.heap.size = j := (by simpa [Value.ownBlock] using hj); omega)⟩
         clear ho hg ha ho0))
    go_ret
    exact ⟨v', rfl, H2.out⟩
theorem el36 : Tryz.prog.underlying 36 = some (.slice (Tryz.prog.elem 36)) := by kernel_rfl
theorem sz36 (w : World) : (sizeOf (Tryz.prog.elem 36)).run Tryz.prog w = .ok 1 w := by kernel_rfl
theorem slL (w : World) (g o n vc l : Nat) (L : Int) (hL : L = l) (hl : l ≤ n) (hc : l < vc) : (Instr.slice 36 (.slice (some ⟨g, o, none⟩) n vc) (some (.int .i64 L)) none none).run Tryz.prog w = .ok (.slice (some ⟨g, o + l, none⟩) (n - l) (vc - l)) w := by
  subst hL
  rw [run_slice_l w 36 _ n vc el36 .i64 l (by omega) (by omega), sz36]
  have : ¬ vc = l := by omega
  simp [Result.andThen, sliced, this, Addr.add_lit]
theorem slH (w : World) (g o n vc h : Nat) (H : Int) (hH : H = h) (hc : h ≤ vc) (h0 : 0 < vc) : (Instr.slice 36 (.slice (some ⟨g, o, none⟩) n vc) none (some (.int .i64 H)) none).run Tryz.prog w = .ok (.slice (some ⟨g, o, none⟩) h vc) w := by
  subst hH
  rw [run_slice_h w 36 _ n vc el36 .i64 h (by omega) (by omega), sz36]
  have : ¬ vc = 0 := by omega
  simp [Result.andThen, sliced, this, Addr.add]
theorem slLH (w : World) (g o n vc l h : Nat) (L H : Int) (hL : L = l) (hH : H = h) (h1 : l ≤ h) (hc : h ≤ vc) : (Instr.slice 36 (.slice (some ⟨g, o, none⟩) n vc) (some (.int .i64 L)) (some (.int .i64 H)) none).run Tryz.prog w = .ok (.slice (some ⟨g, if vc = l then o else o + l, none⟩) (h - l) (vc - l)) w := by
  subst hL hH
  rw [run_slice_lh w 36 _ n vc el36 .i64 .i64 l h (by omega) (by omega) (by omega), sz36]
  by_cases e : vc = l
  · simp [Result.andThen, sliced, e]
  · simp [Result.andThen, sliced, e, Addr.add_lit]
/-- The number in four bytes from the i-th on. -/
def numAt (bs : List Int) (i : Nat) : BitVec 32 := num4 (bs.getD i 0) (bs.getD (i + 1) 0) (bs.getD (i + 2) 0) (bs.getD (i + 3) 0)
/-- What stands at the beginning of bytes: its error, how many bytes the frame has, the record. -/
def nx (bs : List Int) : Int × Nat × List Int :=
  if bs.length < 12 then (10, 0, []) else
  if numAt bs 4 ≠ sumB (bs.take 4) ∨ 65536 < (numAt bs 0).toNat then (34, 0, []) else
  if bs.length < 12 + (numAt bs 0).toNat then (10, 0, []) else
  if numAt bs 8 ≠ sumB ((bs.drop 12).take (numAt bs 0).toNat) then (34, 0, []) else
  (0, 12 + (numAt bs 0).toNat, (bs.drop 12).take (numAt bs 0).toNat)
theorem four_v {w : World} {g o n vc : Nat} {bs : List Int} (hv : BytesV w (.slice (some ⟨g, o, none⟩) n vc) bs) (i c : Nat) (hl : i + 4 ≤ bs.length) (k : Nat) (hk : k = bs.length - i) : Calls Tryz.prog 70 #[.slice (some ⟨g, o + i, none⟩) k c] w fun e w' => e = .returned (.int .u32 (J (numAt bs i))) ∧ ∃ m, w' = w.drewN m := by
  have hp := hv.part i (bs.length - i) c (by omega)
  have h4 : (bs.drop i).take (bs.length - i) = bs.getD i 0 :: bs.getD (i + 1) 0 :: bs.getD (i + 2) 0 :: bs.getD (i + 3) 0 :: (bs.drop (i + 4)) := by
    rw [List.take_of_length_le (by rw [List.length_drop]; omega)]
    have e : ∀ j, j < bs.length → bs.drop j = bs.getD j 0 :: bs.drop (j + 1) := fun j hj => by
      rw [List.drop_eq_getElem_cons hj]
      simp [List.getD, List.getElem?_eq_getElem hj]
    rw [e i (by omega), e (i + 1) (by omega), e (i + 2) (by omega), e (i + 3) (by omega)]
  subst hk
  exact four_any _ _ _ _ hp h4
def NxR (bs : List Int) (w : World) (e : Ending) (w' : World) : Prop := ∃ v, e = .returned (.tuple #[v, .int .i64 (nx bs).2.1, .int .i64 (nx bs).1]) ∧ w'.ownsRow w.heap.size 5 1 v (nx bs).2.2.length (vB (nx bs).2.2) ∧ Below w.heap.size w w'
theorem NxR.nil {bs : List Int} {w w' : World} {c : Int} (h : nx bs = (c, 0, [])) (hb : Below w.heap.size w w') : NxR bs w (.returned (.tuple #[.slice none 0 0, .int .i64 0, .int .i64 c])) w' := by
  unfold NxR
  rw [h]
  exact ⟨_, rfl, World.ownsRow_nil _ _ _ _, hb⟩
set_option maxRecDepth 100000 in
set_option maxHeartbeats 8000000 in
/-- Next -/
theorem next_any {w : World} (hT : Half w) (va : Option Addr) (vc : Nat) (bs : List Int) (hv : BytesV w (.slice va bs.length vc) bs) (hc : bs.length ≤ vc) (hm : vc ≤ 9223372036854775807) (hl : bs.length ≤ 140737488355328) :
    Calls Tryz.prog 36 #[.slice va bs.length vc] w fun e w' => NxR bs w e w' := by
  by_cases h12 : bs.length < 12
  · have hn : nx bs = (10, 0, []) := by unfold nx; rw [if_pos h12]
    have HN : Hid _ := hn
    clear hv hn
    go_enter Tryz.func36, Tryz.ntmps36
    go_wp2
    go_returns
    exact NxR.nil HN.out (Below.refl _ _)
  have hnx : nx bs = if numAt bs 4 ≠ sumB (bs.take 4) ∨ 65536 < (numAt bs 0).toNat then (34, 0, []) else
      if bs.length < 12 + (numAt bs 0).toNat then (10, 0, []) else
      if numAt bs 8 ≠ sumB ((bs.drop 12).take (numAt bs 0).toNat) then (34, 0, []) else
      (0, 12 + (numAt bs 0).toNat, (bs.drop 12).take (numAt bs 0).toNat) := by
    conv => lhs; unfold nx
    rw [if_neg h12]
  obtain ⟨x, hx⟩ : ∃ x, bs[0]? = some x := ⟨_, List.getElem?_eq_getElem (by omega)⟩
  obtain ⟨g, o, rfl, _⟩ := hv.at hx
  have HV : Hid (Half w ∧ BytesV w (.slice (some ⟨g, o, none⟩) bs.length vc) bs) := ⟨hT, hv⟩
  have c0 := fun (w' : World) (h : Below w.heap.size w w') => four_v (HV.out.2.below h) 0 vc (by omega) bs.length (by omega)
  have c4 := fun (w' : World) (h : Below w.heap.size w w') => four_v (HV.out.2.below h) 4 (vc - 4) (by omega) (bs.length - 4) rfl
  have c8 := fun (w' : World) (h : Below w.heap.size w w') => four_v (HV.out.2.below h) 8 (vc - 8) (by omega) (bs.length - 8) rfl
  have s4 := fun (w' : World) (h : Below w.heap.size w w') => sum_any (HV.out.1.below h) (some ⟨g, o, none⟩) vc (bs.take 4) (by
    have := (HV.out.2.below h).part 0 4 vc (by omega)
    rw [List.drop_zero, Nat.add_zero] at this
    have e : (bs.take 4).length = 4 := by rw [List.length_take]; omega
    rw [e]
    exact this) (by rw [List.length_take]; omega)
  have e4 : (bs.take 4).length = 4 := by rw [List.length_take]; omega
  rw [e4] at s4
  rw [Nat.add_zero] at c0
  have L4 := fun w' => slL w' g o bs.length vc 4 4 rfl (by omega) (by omega)
  have L8 := fun w' => slL w' g o bs.length vc 8 8 rfl (by omega) (by omega)
  have H4 := fun w' => slH w' g o bs.length vc 4 4 rfl (by omega) (by omega)
  have HC : Hid _ := c0
  have HC4 : Hid _ := c4
  have HC8 : Hid _ := c8
  have HS4 : Hid _ := s4
  have HNX : Hid _ := hnx
  clear hT hv c0 c4 c8 s4 hnx hx e4
  by_cases hA : numAt bs 4 = sumB (bs.take 4)
  rotate_left
  · have hA1 : (J (numAt bs 4) != J (sumB (bs.take 4))) = true := by simpa using fun h => hA (J_inj h)
    have hn : nx bs = (34, 0, []) := by rw [HNX.out, if_pos (Or.inl hA)]
    have HN : Hid _ := hn
    clear hn hA HNX
    go_enter Tryz.func36, Tryz.ntmps36
    go_wp2_with (first
      | (go_at_call 70
         refine Calls.mono (HC.out w (Below.refl _ _)) ?_
         rintro e w1 ⟨rfl, hm1⟩
         have HB1 : Hid (Below w.heap.size w w1) := (by obtain ⟨m, rfl⟩ := hm1; exact below_drewN' w m)
         clear hm1))
    go_quiet (first
      | (go_at_call 70; refine Calls.quiet_of (HC4.out _ ?_); exact bd2 HB1.out _)
      | (go_at_call 40; refine Calls.quiet_of_same (HS4.out _ ?_); exact bd2 HB1.out _))
    go_wp2
    go_returns
    exact NxR.nil HN.out (bd2 HB1.out _)
  have hA1 : (J (numAt bs 4) != J (sumB (bs.take 4))) = false := by rw [hA]; simp
  by_cases hB : 65536 < (numAt bs 0).toNat
  · have hB1 : decide (65536 < J (numAt bs 0)) = true := by unfold J; simp; omega
    have hn : nx bs = (34, 0, []) := by rw [HNX.out, if_pos (Or.inr hB)]
    have HN : Hid _ := hn
    clear hn hA hB HNX
    go_enter Tryz.func36, Tryz.ntmps36
    go_wp2_with (first
      | (go_at_call 70
         refine Calls.mono (HC.out w (Below.refl _ _)) ?_
         rintro e w1 ⟨rfl, hm1⟩
         have HB1 : Hid (Below w.heap.size w w1) := (by obtain ⟨m, rfl⟩ := hm1; exact below_drewN' w m)
         clear hm1))
    go_quiet (first
      | (go_at_call 70; refine Calls.quiet_of (HC4.out _ ?_); exact bd2 HB1.out _)
      | (go_at_call 40; refine Calls.quiet_of_same (HS4.out _ ?_); exact bd2 HB1.out _))
    go_wp2
    go_returns
    exact NxR.nil HN.out (bd2 HB1.out _)
  have hB1 : decide (65536 < J (numAt bs 0)) = false := by unfold J; simp; omega
  have hAB : ¬ (numAt bs 4 ≠ sumB (bs.take 4) ∨ 65536 < (numAt bs 0).toNat) := fun h => h.elim (fun h => h hA) hB
  have hnx := HNX.out
  rw [if_neg hAB] at hnx
  have HNX2 : Hid _ := hnx
  obtain ⟨N, hN⟩ : ∃ N, (numAt bs 0).toNat = N := ⟨_, rfl⟩
  rw [hN] at hnx hB
  have hJ : J (numAt bs 0) = (N : Int) := by unfold J; rw [hN]
  have HNX3 : Hid _ := hnx
  clear hnx HNX HNX2 hA hAB hN
  have hB2 : decide (65536 < (N : Int)) = false := by simp; omega
  have hw12 : 12 + (N : Int) ≤ 9223372036854775807 := by omega
  by_cases hD : bs.length < 12 + N
  · have hD1 : (bs.length : Int) < 12 + N := by omega
    have hn : nx bs = (10, 0, []) := by rw [HNX3.out, if_pos hD]
    have HN : Hid _ := hn
    clear hn hD HNX3
    go_enter Tryz.func36, Tryz.ntmps36
    go_wp2_with (first
      | (go_at_call 70
         refine Calls.mono (HC.out w (Below.refl _ _)) ?_
         rintro e w1 ⟨rfl, hm1⟩
         have HB1 : Hid (Below w.heap.size w w1) := (by obtain ⟨m, rfl⟩ := hm1; exact below_drewN' w m)
         clear hm1))
    go_quiet (first
      | (go_at_call 70; refine Calls.quiet_of (HC4.out _ ?_); exact bd2 HB1.out _)
      | (go_at_call 40; refine Calls.quiet_of_same (HS4.out _ ?_); exact bd2 HB1.out _))
    go_wp2
    go_returns
    exact NxR.nil HN.out (bd2 HB1.out _)
  have hD1 : decide ((bs.length : Int) < 12 + N) = false := by simp; omega
  have hnx := HNX3.out
  rw [if_neg hD] at hnx
  have HNX4 : Hid _ := hnx
  clear hnx HNX3
  have LH := fun w' => slLH w' g o bs.length vc 12 (12 + N) 12 (12 + N) rfl (by omega) (by omega) (by omega)
  rw [show 12 + N - 12 = N from by omega] at LH
  have hrl : ((bs.drop 12).take N).length = N := by rw [List.length_take, List.length_drop]; omega
  have rv := fun (w' : World) (h : Below w.heap.size w w') => (show BytesV w' (.slice (some ⟨g, if vc = 12 then o else o + 12, none⟩) N (vc - 12)) ((bs.drop 12).take N) from by
    by_cases e : vc = 12
    · have hN0 : N = 0 := by omega
      subst hN0
      exact Or.inr ⟨⟨g, if vc = 12 then o else o + 12, none⟩, vc - 12, by simp, fun j u hu => by simp [vB] at hu⟩
    · rw [if_neg e]
      exact (HV.out.2.below h).part 12 N _ (by omega))
  have sR := fun (w' : World) (h : Below w.heap.size w w') => sum_any (HV.out.1.below h) (some ⟨g, if vc = 12 then o else o + 12, none⟩) (vc - 12) ((bs.drop 12).take N) (by rw [hrl]; exact rv w' h) (by rw [hrl]; omega)
  rw [hrl] at sR
  have HSR : Hid _ := sR
  have HRV : Hid _ := rv
  clear sR rv
  generalize (if vc = 12 then o else o + 12) = o2 at LH HSR HRV
  have HRL : Hid _ := hrl
  clear hrl
  by_cases hE : numAt bs 8 = sumB ((bs.drop 12).take N)
  rotate_left
  · have hE1 : (J (numAt bs 8) != J (sumB ((bs.drop 12).take N))) = true := by simpa using fun h => hE (J_inj h)
    have hn : nx bs = (34, 0, []) := by rw [HNX4.out, if_pos hE]
    have HN : Hid _ := hn
    clear hn hE HNX4
    go_enter Tryz.func36, Tryz.ntmps36
    go_wp2_with (first
      | (go_at_call 70
         refine Calls.mono (HC.out w (Below.refl _ _)) ?_
         rintro e w1 ⟨rfl, hm1⟩
         have HB1 : Hid (Below w.heap.size w w1) := (by obtain ⟨m, rfl⟩ := hm1; exact below_drewN' w m)
         clear hm1))
    go_quiet (first
      | (go_at_call 70; refine Calls.quiet_of (HC4.out _ ?_); exact bd2 HB1.out _)
      | (go_at_call 40; refine Calls.quiet_of_same (HS4.out _ ?_); exact bd2 HB1.out _))
    go_wp2_with (first
      | (go_at_call 70
         refine Calls.mono (HC8.out _ (bd2 HB1.out _)) ?_
         rintro e w3 ⟨rfl, hm3⟩
         have HB3 : Hid (Below w.heap.size w w3) := (by obtain ⟨m, rfl⟩ := hm3; exact bd2 (bd2 HB1.out _) _)
         clear hm3)
      | (go_at_call 40
         refine Calls.mono (HSR.out _ HB3.out) ?_
         rintro e w4 ⟨rfl, rfl⟩))
    go_returns
    exact NxR.nil HN.out HB3.out
  · have hE1 : (J (numAt bs 8) != J (sumB ((bs.drop 12).take N))) = false := by rw [hE]; simp
    have hn : nx bs = (0, 12 + N, (bs.drop 12).take N) := by rw [HNX4.out, if_neg (fun h => h hE)]
    have HN : Hid _ := hn
    clear hn hE HNX4
    go_enter Tryz.func36, Tryz.ntmps36
    go_wp2_with (first
      | (go_at_call 70
         refine Calls.mono (HC.out w (Below.refl _ _)) ?_
         rintro e w1 ⟨rfl, hm1⟩
         have HB1 : Hid (Below w.heap.size w w1) := (by obtain ⟨m, rfl⟩ := hm1; exact below_drewN' w m)
         clear hm1))
    go_quiet (first
      | (go_at_call 70; refine Calls.quiet_of (HC4.out _ ?_); exact bd2 HB1.out _)
      | (go_at_call 40; refine Calls.quiet_of_same (HS4.out _ ?_); exact bd2 HB1.out _))
    go_wp2_with (first
      | (go_at_call 70
         refine Calls.mono (HC8.out _ (bd2 HB1.out _)) ?_
         rintro e w3 ⟨rfl, hm3⟩
         have HB3 : Hid (Below w.heap.size w w3) := (by obtain ⟨m, rfl⟩ := hm3; exact bd2 (bd2 HB1.out _) _)
         clear hm3)
      | (go_at_call 40
         refine Calls.mono (HSR.out _ HB3.out) ?_
         rintro e w4 ⟨rfl, rfl⟩)
      | (go_at_call 58
         refine Calls.mono (bclone_any _ _ (HRV.out _ HB3.out) (by rw [HRL.out]; omega)) ?_
         rintro e w5 ⟨v5, rfl, ho, hb5⟩
         have H5 : Hid (w5.ownsRow w.heap.size 5 1 v5 ((bs.drop 12).take N).length (vB ((bs.drop 12).take N)) ∧ Below w.heap.size w w5) := ⟨ownsRow_le ho HB3.out.size, HB3.out.trans (hb5.mono HB3.out.size)⟩
         clear ho hb5))
    go_returns
    unfold NxR
    rw [HN.out]
    exact ⟨v5, by simp, H5.out⟩
end Go.Proofs.YtoplejbmgpgkhaaGreatDoor
