/- WT3, X5 -/
import Derived.Test.YtconkienlcegaaaGreatDoorGWT1
namespace Go.Proofs.YtconkienlcegaaaGreatDoor
open Go.RowKit Go.Maps Go.Joins
set_option linter.unusedSimpArgs false
set_option linter.unusedVariables false
theorem rnum_v {w : World} {g o n vc : Nat} {bs : List Int} (hv : BytesV w (.slice (some ⟨g, o, none⟩) n vc) bs) (i c : Nat) (hl : i + 4 ≤ bs.length) (k : Nat) (hk : k = bs.length - i) : Calls Tryz.prog 114 #[.slice (some ⟨g, o + i, none⟩) k c] w fun e w' => e = .returned (.int .u32 (J (numAt bs i))) ∧ ∃ m, w' = w.drewN m := by
 have hp := hv.part i (bs.length - i) c (by omega); have h4 : (bs.drop i).take (bs.length - i) = bs.getD i 0 :: bs.getD (i + 1) 0 :: bs.getD (i + 2) 0 :: bs.getD (i + 3) 0 :: (bs.drop (i + 4)) := by
  rw [List.take_of_length_le (by rw [List.length_drop]; omega)]; have e : ∀ j, j < bs.length → bs.drop j = bs.getD j 0 :: bs.drop (j + 1) := fun j hj => by
   rw [List.drop_eq_getElem_cons hj]; simp [List.getD, List.getElem?_eq_getElem hj]
  rw [e i (by omega), e (i + 1) (by omega), e (i + 2) (by omega), e (i + 3) (by omega)]
 subst hk; exact rnum_any _ _ _ _ hp h4
theorem rx41 {w5 : World} {B N k5 : Nat} {a5 : Option Addr} {xs : List Int} (h : w5.ownsRow B 5 1 (.slice a5 xs.length k5) xs.length (vB xs)) (hl : xs.length = N) (hN : N ≤ 65536) (w' : World) (hw : ∃ m, w' = w5.drewN m) : Calls Tryz.prog 66 #[.slice a5 xs.length k5] w' fun e w'' => e = .returned (.int .u32 (J (sumB xs))) ∧ w'' = w' := by
 obtain ⟨m, rfl⟩ := hw; have hv : BytesV (w5.drewN m) (.slice a5 xs.length k5) xs := (BytesV.of_own h).below (below_drewN' w5 m); have := rsum_any (w := w5.drewN m) a5 k5 xs hv (by omega); exact this
set_option maxRecDepth 100000 in
set_option maxHeartbeats 8000000 in
theorem rnext_any {w : World} (va : Option Addr) (vc : Nat) (bs : List Int) (hv : BytesV w (.slice va bs.length vc) bs) (hc : bs.length ≤ vc) (hm : vc ≤ 9223372036854775807) (hl : bs.length ≤ 140737488355328) :
 Calls Tryz.prog 81 #[.slice va bs.length vc] w fun e w' => NxR bs w e w' := by
 by_cases h12 : bs.length < 12
 · have hn : nx bs = (10, 0, []) := by unfold nx; rw [if_pos h12]
   have HN : Hid _ := hn; clear hv hn; go_enter Tryz.func81, Tryz.ntmps81; go_wp2; go_returns; exact NxR.nil HN.out (Below.refl _ _)
 have hnx : nx bs = if numAt bs 4 ≠ sumB (bs.take 4) ∨ 65536 < (numAt bs 0).toNat then (34, 0, []) else
  if bs.length < 12 + (numAt bs 0).toNat then (10, 0, []) else
  if numAt bs 8 ≠ sumB ((bs.drop 12).take (numAt bs 0).toNat) then (34, 0, []) else
  (0, 12 + (numAt bs 0).toNat, (bs.drop 12).take (numAt bs 0).toNat) := by
  conv => lhs; unfold nx
  rw [if_neg h12]
 obtain ⟨x, hx⟩ : ∃ x, bs[0]? = some x := ⟨_, List.getElem?_eq_getElem (by omega)⟩
 obtain ⟨g, o, rfl, _⟩ := hv.at hx; have HV : Hid (True ∧ BytesV w (.slice (some ⟨g, o, none⟩) bs.length vc) bs) := ⟨trivial, hv⟩
 have c0 := fun (w' : World) (h : Below w.heap.size w w') => rnum_v (HV.out.2.below h) 0 vc (by omega) bs.length (by omega)
 have c4 := fun (w' : World) (h : Below w.heap.size w w') => rnum_v (HV.out.2.below h) 4 (vc - 4) (by omega) (bs.length - 4) rfl
 have c8 := fun (w' : World) (h : Below w.heap.size w w') => rnum_v (HV.out.2.below h) 8 (vc - 8) (by omega) (bs.length - 8) rfl
 have s4 := fun (w' : World) (h : Below w.heap.size w w') => rsum_any (some ⟨g, o, none⟩) vc (bs.take 4) (by
  have := (HV.out.2.below h).part 0 4 vc (by omega); rw [List.drop_zero, Nat.add_zero] at this; have e : (bs.take 4).length = 4 := by rw [List.length_take]; omega
  rw [e]; exact this) (by rw [List.length_take]; omega)
 have e4 : (bs.take 4).length = 4 := by rw [List.length_take]; omega
 rw [e4] at s4; rw [Nat.add_zero] at c0; have L4 := fun w' => slL w' g o bs.length vc 4 4 rfl (by omega) (by omega)
 have L8 := fun w' => slL w' g o bs.length vc 8 8 rfl (by omega) (by omega)
 have H4 := fun w' => slH w' g o bs.length vc 4 4 rfl (by omega) (by omega)
 have HC : Hid _ := c0; have HC4 : Hid _ := c4; have HC8 : Hid _ := c8; have HS4 : Hid _ := s4; have HNX : Hid _ := hnx; clear hv c0 c4 c8 s4 hnx hx e4; by_cases hA : numAt bs 4 = sumB (bs.take 4); rotate_left
 · have hA1 : (J (sumB (bs.take 4)) != J (numAt bs 4)) = true := by simpa using fun h => hA (J_inj h).symm
   have hn : nx bs = (34, 0, []) := by rw [HNX.out, if_pos (Or.inl hA)]
   have HN : Hid _ := hn; clear hn hA HNX; go_enter Tryz.func81, Tryz.ntmps81; go_wp2_with (first
    | (go_at_call 114
       refine Calls.mono (HC.out w (Below.refl _ _)) ?_; rintro e w1 ⟨rfl, hm1⟩; have HB1 : Hid (Below w.heap.size w w1) := (by obtain ⟨m, rfl⟩ := hm1; exact below_drewN' w m)
       clear hm1))
   go_quiet (first
    | (go_at_call 114; refine Calls.quiet_of (HC4.out _ ?_); exact bd2 HB1.out _)
    | (go_at_call 66; refine Calls.quiet_of_same (HS4.out _ ?_); exact bd2 HB1.out _))
   go_wp2; go_returns
   exact NxR.nil HN.out (bd2 HB1.out _)
 have hA1 : (J (sumB (bs.take 4)) != J (numAt bs 4)) = false := by rw [hA]; simp
 by_cases hB : 65536 < (numAt bs 0).toNat
 · have hB1 : decide (65536 < J (numAt bs 0)) = true := by unfold J; simp; omega
   have hn : nx bs = (34, 0, []) := by rw [HNX.out, if_pos (Or.inr hB)]
   have HN : Hid _ := hn; clear hn hA hB HNX; go_enter Tryz.func81, Tryz.ntmps81; go_wp2_with (first
    | (go_at_call 114
       refine Calls.mono (HC.out w (Below.refl _ _)) ?_; rintro e w1 ⟨rfl, hm1⟩; have HB1 : Hid (Below w.heap.size w w1) := (by obtain ⟨m, rfl⟩ := hm1; exact below_drewN' w m)
       clear hm1))
   go_quiet (first
    | (go_at_call 114; refine Calls.quiet_of (HC4.out _ ?_); exact bd2 HB1.out _)
    | (go_at_call 66; refine Calls.quiet_of_same (HS4.out _ ?_); exact bd2 HB1.out _))
   go_wp2; go_returns
   exact NxR.nil HN.out (bd2 HB1.out _)
 have hB1 : decide (65536 < J (numAt bs 0)) = false := by unfold J; simp; omega
 have hAB : ¬ (numAt bs 4 ≠ sumB (bs.take 4) ∨ 65536 < (numAt bs 0).toNat) := fun h => h.elim (fun h => h hA) hB
 have hnx := HNX.out; rw [if_neg hAB] at hnx; have HNX2 : Hid _ := hnx; obtain ⟨N, hN⟩ : ∃ N, (numAt bs 0).toNat = N := ⟨_, rfl⟩
 rw [hN] at hnx hB; have hJ : J (numAt bs 0) = (N : Int) := by unfold J; rw [hN]
 have HNX3 : Hid _ := hnx; clear hnx HNX HNX2 hA hAB hN; have hB2 : decide (65536 < (N : Int)) = false := by simp; omega
 have hw12 : 12 + (N : Int) ≤ 9223372036854775807 := by omega
 by_cases hD : bs.length < 12 + N
 · have hD1 : (bs.length : Int) - 12 < N := by omega
   have hn : nx bs = (10, 0, []) := by rw [HNX3.out, if_pos hD]
   have HN : Hid _ := hn; clear hn hD HNX3; go_enter Tryz.func81, Tryz.ntmps81; go_wp2_with (first
    | (go_at_call 114
       refine Calls.mono (HC.out w (Below.refl _ _)) ?_; rintro e w1 ⟨rfl, hm1⟩; have HB1 : Hid (Below w.heap.size w w1) := (by obtain ⟨m, rfl⟩ := hm1; exact below_drewN' w m)
       clear hm1))
   go_quiet (first
    | (go_at_call 114; refine Calls.quiet_of (HC4.out _ ?_); exact bd2 HB1.out _)
    | (go_at_call 66; refine Calls.quiet_of_same (HS4.out _ ?_); exact bd2 HB1.out _))
   go_wp2; go_returns
   exact NxR.nil HN.out (bd2 HB1.out _)
 have hD1 : decide ((bs.length : Int) - 12 < N) = false := by simp; omega
 have hnx := HNX3.out; rw [if_neg hD] at hnx; have HNX4 : Hid _ := hnx; clear hnx HNX3; have LH := fun w' => slLH w' g o bs.length vc 12 (12 + N) 12 (12 + N) rfl (by omega) (by omega) (by omega)
 rw [show 12 + N - 12 = N from by omega] at LH; have hrl : ((bs.drop 12).take N).length = N := by rw [List.length_take, List.length_drop]; omega
 have rv := fun (w' : World) (h : Below w.heap.size w w') => (show BytesV w' (.slice (some ⟨g, if vc = 12 then o else o + 12, none⟩) N (vc - 12)) ((bs.drop 12).take N) from by
  by_cases e : vc = 12
  · have hN0 : N = 0 := by omega
    subst hN0; exact Or.inr ⟨⟨g, if vc = 12 then o else o + 12, none⟩, vc - 12, by simp, fun j u hu => by simp [vB] at hu⟩
  · rw [if_neg e]
    exact (HV.out.2.below h).part 12 N _ (by omega))
 have sR := fun (w' : World) (h : Below w.heap.size w w') => rsum_any (some ⟨g, if vc = 12 then o else o + 12, none⟩) (vc - 12) ((bs.drop 12).take N) (by rw [hrl]; exact rv w' h) (by rw [hrl]; omega)
 rw [hrl] at sR; have HSR : Hid _ := sR; have HRV : Hid _ := rv; clear sR rv; generalize (if vc = 12 then o else o + 12) = o2 at LH HSR HRV; have HRL : Hid _ := hrl; clear hrl; by_cases hE : numAt bs 8 = sumB ((bs.drop 12).take N); rotate_left
 · have hE1 : (J (sumB ((bs.drop 12).take N)) != J (numAt bs 8)) = true := by simpa using fun h => hE (J_inj h).symm
   have hn : nx bs = (34, 0, []) := by rw [HNX4.out, if_pos hE]
   have HN : Hid _ := hn; clear hn hE HNX4 HSR; generalize (bs.drop 12).take N = xs at HRV HRL hE1 HN; go_enter Tryz.func81, Tryz.ntmps81; go_wp2_with (first
    | (go_at_call 114
       refine Calls.mono (HC.out w (Below.refl _ _)) ?_; rintro e w1 ⟨rfl, hm1⟩; have HB1 : Hid (Below w.heap.size w w1) := (by obtain ⟨m, rfl⟩ := hm1; exact below_drewN' w m)
       clear hm1))
   go_quiet (first
    | (go_at_call 114; refine Calls.quiet_of (HC4.out _ ?_); exact bd2 HB1.out _)
    | (go_at_call 66; refine Calls.quiet_of_same (HS4.out _ ?_); exact bd2 HB1.out _))
   have HN65 : Hid (N ≤ 65536) := (by show N ≤ 65536; omega)
   have HBW : Hid (Below w.heap.size w (w1.drewN nq)) := bd2 HB1.out _; generalize w1.drewN nq = W0 at HBW ⊢; go_wp2_with (first
    | (at_builtin
       have hx := HRV.out (W0.alloc (.cells #[] 5)) (HBW.out.alloc HBW.out.size _); refine wpList_append_b rfl _ _ rfl W0.heap.size (.slice (some ⟨W0.heap.size, 0, none⟩) 0 0) (.slice (some ⟨g, o2, none⟩) N (vc - 12)) [] xs rfl ⟨rfl, Or.inr ⟨W0.heap.size, 0, #[], by simp, Nat.le_refl _, by have := heap_alloc_new W0 (.cells #[] 5); simpa using this, Nat.le_refl _, by decide, rfl, rfl⟩⟩ rfl hx (by rw [HRL.out]; simp; omega) (by simp) ?_; intro v5 w5 ho5 hg5 ha5; rw [List.nil_append] at ho5; have H5 : Hid (w5.ownsRow w.heap.size 5 1 v5 xs.length (vB xs) ∧ Below w.heap.size w w5) := ⟨ownsRow_le ho5 HBW.out.size, (HBW.out.alloc HBW.out.size _).grown hg5 (by have := HBW.out.size; simp; omega) (fun j hj => by injection hj with hj; rw [← hj]; exact HBW.out.size)⟩
       clear ho5 hg5 ha5 hx; obtain ⟨a5, k5, hv5⟩ := row_form H5.out.1; subst hv5))
   go_quiet (first
    | (go_at_call 114; refine Calls.quiet_of (HC8.out _ ?_); exact bd2 H5.out.2 _)
    | (go_at_call 66; refine Calls.quiet_of_same (rx41 H5.out.1 HRL.out HN65.out _ ?_); exact ⟨_, rfl⟩))
   go_wp2; go_returns
   exact NxR.nil HN.out (bd2 H5.out.2 _)
 · have hE1 : (J (sumB ((bs.drop 12).take N)) != J (numAt bs 8)) = false := by rw [hE]; simp
   have hn : nx bs = (0, 12 + N, (bs.drop 12).take N) := by rw [HNX4.out, if_neg (fun h => h hE)]
   have HN : Hid _ := hn; clear hn hE HNX4 HSR; generalize (bs.drop 12).take N = xs at HRV HRL hE1 HN; go_enter Tryz.func81, Tryz.ntmps81; go_wp2_with (first
    | (go_at_call 114
       refine Calls.mono (HC.out w (Below.refl _ _)) ?_; rintro e w1 ⟨rfl, hm1⟩; have HB1 : Hid (Below w.heap.size w w1) := (by obtain ⟨m, rfl⟩ := hm1; exact below_drewN' w m)
       clear hm1))
   go_quiet (first
    | (go_at_call 114; refine Calls.quiet_of (HC4.out _ ?_); exact bd2 HB1.out _)
    | (go_at_call 66; refine Calls.quiet_of_same (HS4.out _ ?_); exact bd2 HB1.out _))
   have HN65 : Hid (N ≤ 65536) := (by show N ≤ 65536; omega)
   have HBW : Hid (Below w.heap.size w (w1.drewN nq)) := bd2 HB1.out _; generalize w1.drewN nq = W0 at HBW ⊢; go_wp2_with (first
    | (at_builtin
       have hx := HRV.out (W0.alloc (.cells #[] 5)) (HBW.out.alloc HBW.out.size _); refine wpList_append_b rfl _ _ rfl W0.heap.size (.slice (some ⟨W0.heap.size, 0, none⟩) 0 0) (.slice (some ⟨g, o2, none⟩) N (vc - 12)) [] xs rfl ⟨rfl, Or.inr ⟨W0.heap.size, 0, #[], by simp, Nat.le_refl _, by have := heap_alloc_new W0 (.cells #[] 5); simpa using this, Nat.le_refl _, by decide, rfl, rfl⟩⟩ rfl hx (by rw [HRL.out]; simp; omega) (by simp) ?_; intro v5 w5 ho5 hg5 ha5; rw [List.nil_append] at ho5; have H5 : Hid (w5.ownsRow w.heap.size 5 1 v5 xs.length (vB xs) ∧ Below w.heap.size w w5) := ⟨ownsRow_le ho5 HBW.out.size, (HBW.out.alloc HBW.out.size _).grown hg5 (by have := HBW.out.size; simp; omega) (fun j hj => by injection hj with hj; rw [← hj]; exact HBW.out.size)⟩
       clear ho5 hg5 ha5 hx; obtain ⟨a5, k5, hv5⟩ := row_form H5.out.1; subst hv5))
   go_quiet (first
    | (go_at_call 114; refine Calls.quiet_of (HC8.out _ ?_); exact bd2 H5.out.2 _)
    | (go_at_call 66; refine Calls.quiet_of_same (rx41 H5.out.1 HRL.out HN65.out _ ?_); exact ⟨_, rfl⟩))
   go_wp2; go_returns
   unfold NxR; rw [HN.out]; exact ⟨_, by simp, H5.out.1, bd2 H5.out.2 _⟩
end Go.Proofs.YtconkienlcegaaaGreatDoor
namespace Go.Proofs.YtconkienlcegaaaGreatDoor
open Go.RowKit Go.Maps Go.Joins Go.Sort
set_option linter.unusedVariables false
set_option linter.unusedSimpArgs false
structure QS where
 br : Nat
 nm : ByteArray
 most : Int
 lv : Value
 gs : List (Int × Int × Int)
 bv : Value
 rs : List (Value × List Int)
 frm : Int
 dirty : Bool
 own : Nat → Nat
def sgL (l : List (Int × Int × Int)) : List Value := l.flatMap fun s => [.int .i64 s.1, .int .i64 s.2.1, .int .i64 s.2.2]
theorem sgL_append (a b : List (Int × Int × Int)) : sgL (a ++ b) = sgL a ++ sgL b := List.flatMap_append
def qC (Q : QS) : Array Value := #[.pointer (some ⟨Q.br, 0, none⟩), .string Q.nm, .int .i64 Q.most, Q.lv, Q.bv, .int .i64 Q.frm, .bool Q.dirty]
def CapOk (v : Value) : Prop := ∃ a n c, v = .slice a n c ∧ n ≤ c ∧ c ≤ 9223372036854775807
theorem cap_own {w : World} {base size n : Nat} {e : TypeId} {v : Value} {xs : List Value} (h : w.ownsRow base e size v n xs) : CapOk v := by
 rcases h.2 with ⟨rfl, _⟩ | ⟨g, cap, cur, rfl, _, _, h1, h2, _⟩
 · exact ⟨_, _, _, rfl, Nat.le_refl _, by omega⟩
 · exact ⟨_, _, _, rfl, h1, by unfold maxLen at h2; omega⟩
structure QIs (w : World) (bq : Nat) (Q : QS) : Prop where
 log : w.heap[bq]? = some (.cells (qC Q) 104)
 rl : Q.own bq = 1
 segs : w.ownsRow 0 149 3 Q.lv Q.gs.length (sgL Q.gs)
 rf : ∀ b, Q.lv.ownBlock = some b → Q.own b = 2
 recs : w.ownsRow 0 23 1 Q.bv Q.rs.length (Q.rs.map (·.1))
 rr : ∀ b, Q.bv.ownBlock = some b → Q.own b = 3
 each : ∀ p ∈ Q.rs, BytesV w p.1 p.2
 re : ∀ p ∈ Q.rs, ∀ b, dBlock p.1 p.2 = some b → Q.own b = 4
 fresh : ∀ b, w.heap.size ≤ b → Q.own b = 0
 cp : ∀ p ∈ Q.rs, CapOk p.1
theorem QIs.kept {w w' : World} {bq : Nat} {Q : QS} (h : QIs w bq Q) (hk : ∀ b, Q.own b ≠ 0 → w'.heap[b]? = w.heap[b]?) (hs : w.heap.size ≤ w'.heap.size) : QIs w' bq Q where
 log := (hk bq (by rw [h.rl]; simp)).trans h.log
 rl := h.rl
 segs := ownsRow_heap h.segs (fun b hb => hk b (by rw [h.rf b hb]; simp))
 rf := h.rf
 recs := ownsRow_heap h.recs (fun b hb => hk b (by rw [h.rr b hb]; simp))
 rr := h.rr
 each := fun p hp => (h.each p hp).keep (fun b hb => hk b (by rw [h.re p hp b hb]; simp))
 re := h.re
 fresh := fun b hb => h.fresh b (by omega)
 cp := h.cp
theorem QIs.lt {w : World} {bq : Nat} {Q : QS} (h : QIs w bq Q) : bq < w.heap.size := heap_lt h.log
theorem QIs.own_lt {w : World} {bq b : Nat} {Q : QS} (h : QIs w bq Q) (hb : Q.own b ≠ 0) : b < w.heap.size := by
 rcases Nat.lt_or_ge b w.heap.size with h1 | h1
 · exact h1
 · exact absurd (h.fresh b h1) hb
theorem QIs.below {w w' : World} {bq : Nat} {Q : QS} (h : QIs w bq Q) (hb : Below w.heap.size w w') : QIs w' bq Q := h.kept (fun b hr => hb.block b (h.own_lt hr)) hb.size
structure QFr (w w' : World) (Q Q' : QS) (p : Option Nat) : Prop where
 os : w'.os = w.os
 tape : w'.tape = w.tape
 output : w'.output = w.output
 size : w.heap.size ≤ w'.heap.size
 block : ∀ b, b < w.heap.size → Q.own b = 0 → w'.heap[b]? = w.heap[b]?
 own : ∀ b, b < w.heap.size → Q.own b = 0 → p ≠ some b → Q'.own b = 0
def setFrm (Q : QS) (x : Int) : QS := { Q with frm := x }
theorem QIs.setFrm {w : World} {bq : Nat} {Q : QS} (h : QIs w bq Q) (x : Int) : QIs (w.setCell ⟨bq, 5, none⟩ (.int .i64 x)) bq (setFrm Q x) ∧ QFr w (w.setCell ⟨bq, 5, none⟩ (.int .i64 x)) Q (Proofs.YtconkienlcegaaaGreatDoor.setFrm Q x) none := by
 have hk : ∀ b, b ≠ bq → (w.setCell ⟨bq, 5, none⟩ (.int .i64 x)).heap[b]? = w.heap[b]? := fun b hb => Below.heap_setCell _ _ _ _ hb
 have hne : ∀ b, Q.own b ≠ 1 → b ≠ bq := fun b h1 e => h1 (by rw [e]; exact h.rl)
 refine ⟨⟨?_, h.rl, ownsRow_heap h.segs (fun b hb => hk b (hne b (by rw [h.rf b hb]; simp))), h.rf, ownsRow_heap h.recs (fun b hb => hk b (hne b (by rw [h.rr b hb]; simp))), h.rr, fun p hp => (h.each p hp).keep (fun b hb => hk b (hne b (by rw [h.re p hp b hb]; simp))), h.re, fun b hb => h.fresh b (by simpa using hb), h.cp⟩, rfl, rfl, rfl, by simp, fun b h0 h1 => hk b (hne b (by rw [h1]; simp)), fun b h0 h1 _ => h1⟩; rw [block_setCell h.log]; simp [qC, Proofs.YtconkienlcegaaaGreatDoor.setFrm]
def addB (Q : QS) (v : Value) (p : Value × List Int) : QS := { Q with bv := v, rs := Q.rs ++ [p], own := fun b => if v.ownBlock = some b then 3 else if dBlock p.1 p.2 = some b then 4 else Q.own b }
theorem QIs.putB {w w2 : World} {bq : Nat} {Q : QS} {v : Value} {p : Value × List Int} (h : QIs w bq Q) (hp : BytesV w p.1 p.2) (hpc : CapOk p.1) (hpo : ∀ b, dBlock p.1 p.2 = some b → Q.own b = 0 ∧ b < w.heap.size) (hg : w.grownBy w2 Q.bv.ownBlock) (ho : w2.ownsRow 0 23 1 v (Q.rs ++ [p]).length ((Q.rs ++ [p]).map (·.1))) (ha : v.ownBlock = Q.bv.ownBlock ∨ ∀ b, v.ownBlock = some b → w.heap.size ≤ b) :
 QIs (w2.setCell ⟨bq, 4, none⟩ v) bq (addB Q v p) ∧ QFr w (w2.setCell ⟨bq, 4, none⟩ v) Q (addB Q v p) (dBlock p.1 p.2) := by
 have hlt := h.lt; have hfne : ∀ b, Q.bv.ownBlock = some b → b ≠ bq := fun b hb e => by have := h.rr b hb; rw [e, h.rl] at this; cases this
 have hvne : ∀ b, v.ownBlock = some b → b ≠ bq := fun b hb => by
  rcases ha with ha | ha
  · exact hfne b (ha ▸ hb)
  · have := ha b hb; omega
 have hk : ∀ b, b ≠ bq → (w2.setCell ⟨bq, 4, none⟩ v).heap[b]? = w2.heap[b]? := fun b hb => Below.heap_setCell _ _ _ _ hb
 have hv3 : ∀ b, Q.own b ≠ 0 → Q.own b ≠ 3 → ¬ v.ownBlock = some b := fun b h0 h2 hc => by
  rcases ha with ha | ha
  · exact h2 (h.rr b (ha ▸ hc))
  · have := ha b hc; have := h.own_lt h0; omega
 have hold : ∀ b, Q.own b ≠ 0 → Q.own b ≠ 3 → (addB Q v p).own b = Q.own b := fun b h0 h2 => by
  show (if v.ownBlock = some b then 3 else if dBlock p.1 p.2 = some b then 4 else Q.own b) = _; rw [if_neg (hv3 b h0 h2), if_neg (fun hc => h0 (hpo b hc).1)]
 have hsame : ∀ b, b < w.heap.size → Q.own b ≠ 1 → Q.own b ≠ 3 → (w2.setCell ⟨bq, 4, none⟩ v).heap[b]? = w.heap[b]? := fun b h0 h1 h2 => (hk b (fun e => h1 (by rw [e]; exact h.rl))).trans (hg.block b h0 (fun e => h2 (h.rr b e.symm)))
 have hb2 : w2.heap[bq]? = some (.cells (qC Q) 104) := (hg.block bq hlt (fun e => hfne bq e.symm rfl)).trans h.log; refine ⟨⟨?_, ?_, ?_, fun b hb => ?_, ?_, fun b hb => if_pos hb, fun q hq => ?_, fun q hq b hb => ?_, fun b hb => ?_, fun q hq => (List.mem_append.1 hq).elim (h.cp q) (fun h9 => by rw [List.mem_singleton.1 h9]; exact hpc)⟩, hg.os, hg.tape, hg.output, by simpa using hg.size, fun b hb h0 => ?_, fun b hb h0 hN => ?_⟩
 · rw [block_setCell hb2 _]
   simp [qC, addB]
 · rw [hold bq (by rw [h.rl]; simp) (by rw [h.rl]; simp)]
   exact h.rl
 · exact ownsRow_heap h.segs (fun b hb => hsame b (h.own_lt (by rw [h.rf b hb]; simp)) (by rw [h.rf b hb]; simp) (by rw [h.rf b hb]; simp))
 · rw [hold b (by rw [h.rf b hb]; simp) (by rw [h.rf b hb]; simp)]
   exact h.rf b hb
 · exact ownsRow_heap ho (fun b hb => hk b (hvne b hb))
 · rcases List.mem_append.1 hq with hq | hq
   · exact (h.each q hq).keep (fun b hb => hsame b (h.own_lt (by rw [h.re q hq b hb]; simp)) (by rw [h.re q hq b hb]; simp) (by rw [h.re q hq b hb]; simp))
   · simp at hq
     subst hq; exact hp.keep (fun b hb => hsame b (hpo b hb).2 (by rw [(hpo b hb).1]; simp) (by rw [(hpo b hb).1]; simp))
 · rcases List.mem_append.1 hq with hq | hq
   · rw [hold b (by rw [h.re q hq b hb]; simp) (by rw [h.re q hq b hb]; simp)]
     exact h.re q hq b hb
   · simp at hq
     subst hq; show (if v.ownBlock = some b then 3 else if dBlock q.1 q.2 = some b then 4 else Q.own b) = 4; rw [if_neg (fun hc => ?_), if_pos hb]; rcases ha with ha | ha
     · have := h.rr b (ha ▸ hc); rw [(hpo b hb).1] at this; cases this
     · have := ha b hc; have := (hpo b hb).2; omega
 · have hb' : w2.heap.size ≤ b := by simpa using hb
   show (if v.ownBlock = some b then 3 else if dBlock p.1 p.2 = some b then 4 else Q.own b) = 0; rw [if_neg (fun hc => by have := (ho.lt b hc).2; omega), if_neg (fun hc => by have := (hpo b hc).2; have := hg.size; omega)]; exact h.fresh b (by have := hg.size; omega)
 · exact hsame b hb (by rw [h0]; simp) (by rw [h0]; simp)
 · show (if v.ownBlock = some b then 3 else if dBlock p.1 p.2 = some b then 4 else Q.own b) = 0
   rw [if_neg (fun hc => ?_), if_neg hN]
   · exact h0
   · rcases ha with ha | ha
     · have := h.rr b (ha ▸ hc); rw [h0] at this; cases this
     · have := ha b hc; omega
def addL (Q : QS) (v : Value) (l : List (Int × Int × Int)) : QS := { Q with lv := v, gs := l, own := fun b => if v.ownBlock = some b then 2 else Q.own b }
theorem QIs.putL {w w2 : World} {bq : Nat} {Q : QS} {v : Value} {l : List (Int × Int × Int)} (h : QIs w bq Q) (hg : w.grownBy w2 Q.lv.ownBlock) (ho : w2.ownsRow 0 149 3 v l.length (sgL l)) (ha : v.ownBlock = Q.lv.ownBlock ∨ ∀ b, v.ownBlock = some b → w.heap.size ≤ b) :
 QIs (w2.setCell ⟨bq, 3, none⟩ v) bq (addL Q v l) ∧ QFr w (w2.setCell ⟨bq, 3, none⟩ v) Q (addL Q v l) none := by
 have hlt := h.lt; have hfne : ∀ b, Q.lv.ownBlock = some b → b ≠ bq := fun b hb e => by have := h.rf b hb; rw [e, h.rl] at this; cases this
 have hvne : ∀ b, v.ownBlock = some b → b ≠ bq := fun b hb => by
  rcases ha with ha | ha
  · exact hfne b (ha ▸ hb)
  · have := ha b hb; omega
 have hk : ∀ b, b ≠ bq → (w2.setCell ⟨bq, 3, none⟩ v).heap[b]? = w2.heap[b]? := fun b hb => Below.heap_setCell _ _ _ _ hb
 have hold : ∀ b, Q.own b ≠ 0 → Q.own b ≠ 2 → (addL Q v l).own b = Q.own b := fun b h0 h2 => if_neg (fun hc => by
  rcases ha with ha | ha
  · exact h2 (h.rf b (ha ▸ hc))
  · have := ha b hc; have := h.own_lt h0; omega)
 have hsame : ∀ b, Q.own b ≠ 0 → Q.own b ≠ 1 → Q.own b ≠ 2 → (w2.setCell ⟨bq, 3, none⟩ v).heap[b]? = w.heap[b]? := fun b h0 h1 h2 => (hk b (fun e => h1 (by rw [e]; exact h.rl))).trans (hg.block b (h.own_lt h0) (fun e => h2 (h.rf b e.symm)))
 have hb2 : w2.heap[bq]? = some (.cells (qC Q) 104) := (hg.block bq hlt (fun e => hfne bq e.symm rfl)).trans h.log; refine ⟨⟨?_, ?_, ?_, fun b hb => if_pos hb, ?_, fun b hb => ?_, fun p hp => ?_, fun p hp b hb => ?_, fun b hb => ?_, h.cp⟩, ?_⟩
 · rw [block_setCell hb2 _]
   simp [qC, addL]
 · rw [hold bq (by rw [h.rl]; simp) (by rw [h.rl]; simp)]
   exact h.rl
 · exact ownsRow_heap ho (fun b hb => hk b (hvne b hb))
 · exact ownsRow_heap h.recs (fun b hb => hsame b (by rw [h.rr b hb]; simp) (by rw [h.rr b hb]; simp) (by rw [h.rr b hb]; simp))
 · rw [hold b (by rw [h.rr b hb]; simp) (by rw [h.rr b hb]; simp)]
   exact h.rr b hb
 · exact (h.each p hp).keep (fun b hb => hsame b (by rw [h.re p hp b hb]; simp) (by rw [h.re p hp b hb]; simp) (by rw [h.re p hp b hb]; simp))
 · rw [hold b (by rw [h.re p hp b hb]; simp) (by rw [h.re p hp b hb]; simp)]
   exact h.re p hp b hb
 · have hb' : w2.heap.size ≤ b := by simpa using hb
   show (if v.ownBlock = some b then 2 else Q.own b) = 0; rw [if_neg (fun hc => by have := (ho.lt b hc).2; omega)]; exact h.fresh b (by have := hg.size; omega)
 · refine ⟨hg.os, hg.tape, hg.output, by simpa using hg.size, fun b h0 h1 => ?_, fun b h0 h1 _ => ?_⟩
   · exact (hk b (fun e => by rw [e, h.rl] at h1; cases h1)).trans (hg.block b h0 (fun e => by rw [h.rf b e.symm] at h1; cases h1))
   · show (if v.ownBlock = some b then 2 else Q.own b) = 0
     rw [if_neg (fun hc => by
      rcases ha with ha | ha
      · rw [h.rf b (ha ▸ hc)] at h1; cases h1
      · have := ha b hc; omega)]
     exact h1
end Go.Proofs.YtconkienlcegaaaGreatDoor
