/- sha.behind. -/
import Derived.Test.YtkenaccagcdofaaH3
namespace Go.Proofs.Ytkenaccagcdofaa
open Go.RowKit Go.Shelf
set_option linter.unusedSimpArgs false
set_option linter.unusedVariables false

/-- The worlds of the loops: the state, the answer's place, the words. -/
def BhIn (R x : Nat → BitVec 64) (z : Nat) (w wr : World) : Prop :=
  wr.rowIs w.heap.size 38 8 (lan R) ∧ wr.rowIs (w.heap.size + 2) 38 8 (lan fun _ => 0#64) ∧ (w.heap.size + 2 < z ∧ wr.rowIs z 41 80 (lan x)) ∧ Below w.heap.size w wr
theorem BhIn.step {R R' x : Nat → BitVec 64} {z : Nat} {w w1 w2 : World} (h : BhIn R x z w w1) (hr : w2.rowIs w.heap.size 38 8 (lan R')) (o : Only w.heap.size w1 w2) : BhIn R' x z w w2 :=
  ⟨hr, o.row (by omega) h.2.1, ⟨h.2.2.1.1, o.row (by have := h.2.2.1.1; omega) h.2.2.1.2⟩, o.below h.2.2.2 (by omega)⟩
theorem BhIn.more {R x : Nat → BitVec 64} {z : Nat} {w w1 w2 : World} (h : BhIn R x z w w1) (o : Below w1.heap.size w1 w2) : BhIn R x z w w2 :=
  ⟨h.1.of_block (o.block _ h.1.lt), h.2.1.of_block (o.block _ h.2.1.lt), ⟨h.2.2.1.1, h.2.2.1.2.of_block (o.block _ h.2.2.1.2.lt)⟩, h.2.2.2.trans (o.mono h.2.2.2.size)⟩
theorem bh_start (s : Nat → BitVec 64) (b : Nat → BitVec 8) (x : Nat → BitVec 64) (w w1 : World) (h1 : Below (((w.alloc (.cells (vec 8 (lan s)) 38)).alloc (.cells (vec 128 (byt b)) 50)).alloc (.cells (vec 8 (lan fun _ => 0#64)) 38)).heap.size (((w.alloc (.cells (vec 8 (lan s)) 38)).alloc (.cells (vec 128 (byt b)) 50)).alloc (.cells (vec 8 (lan fun _ => 0#64)) 38)) w1) :
    BhIn s x w1.heap.size w (w1.alloc (.cells (vec 80 (lan x)) 41)) := by
  have hs := h1.size
  simp at hs
  have r1 : w1.rowIs w.heap.size 38 8 (lan s) := (heap_row (heap1of3 _ _ _ _)).of_block (h1.block _ (by simp; omega))
  have r2 : w1.rowIs (w.heap.size + 2) 38 8 (lan fun _ => 0#64) := (heap_row (heap3of3 _ _ _ _)).of_block (h1.block _ (by simp))
  refine ⟨r1.alloc _, r2.alloc _, ⟨by omega, heap_row (heap_alloc_new _ _)⟩, ?_⟩
  exact (Below.trans (by go_grown) (h1.mono (by simp; omega))).alloc (by omega) _
theorem below_drewN (w : World) (n B : Nat) : Below B w (w.drewN n) := ⟨(Below.refl B w).os, (Below.refl B w).tape, (Below.refl B w).output, (Below.refl B w).size, (Below.refl B w).block⟩
/-- The state with its first k words summed. -/
def smTo (s v : Nat → BitVec 64) (k i : Nat) : BitVec 64 := if i < k then s i + v i else s i
theorem sm_row {s v : Nat → BitVec 64} {k g t : Nat} {w : World} (hk : k < 8) (h : w.rowIs g t 8 (lan (smTo s v k))) {u : Value} (hu : u = .int .u64 (I (s k + v k))) : (w.setCell ⟨g, k, none⟩ u).rowIs g t 8 (lan (smTo s v (k + 1))) := by
  refine (h.set _ _).congr ?_
  intro i hi
  subst hu
  simp only [lan, smTo]
  by_cases e : i = k
  · subst e; rw [if_pos rfl, if_pos (by omega)]
  · rw [if_neg e]
    by_cases hl : i < k
    · rw [if_pos hl, if_pos (by omega)]
    · rw [if_neg hl, if_neg (by omega)]
/-- The eight words behind a step, one by one. -/
theorem stp0 (c x : BitVec 64) (v : Nat → BitVec 64) : stp c x v 0 = (v 7 + bg1 (v 4) + ((v 4 &&& v 5) ^^^ (~~~ (v 4) &&& v 6)) + c + x) + (bg0 (v 0) + ((v 0 &&& v 1) ^^^ (v 0 &&& v 2) ^^^ (v 1 &&& v 2))) := rfl
theorem stp4 (c x : BitVec 64) (v : Nat → BitVec 64) : stp c x v 4 = v 3 + (v 7 + bg1 (v 4) + ((v 4 &&& v 5) ^^^ (~~~ (v 4) &&& v 6)) + c + x) := rfl
set_option maxRecDepth 20000 in
set_option maxHeartbeats 2000000 in
theorem behind_any (s : Nat → BitVec 64) (b : Nat → BitVec 8) (w : World) :
    Calls Try.prog 26 #[.agg (vec 8 (lan s)), .agg (vec 128 (byt b))] w fun e w' => e = .returned (.agg (vec 8 (lan (beh KK s b)))) ∧ Below w.heap.size w w' := by
  have hix := run_index_vec (P := Try.prog) 41 27 80 (fun w => run_underlying Try.underlying41 w) Try.sizeOf27 Try.isAgg27 (lan KK)
  have hz := (zero_of_info zero38).1
  have hz1 := (zero_of_info zero41).1
  go_enter Try.func26, Try.ntmps26
  go_wp2_with (first | (refine wpList_load_row rfl 50 _ rfl (w.heap.size + 1) rfl 50 _ (0, 0) _ (heap2of3 _ _ _ _) Try.underlying50 rfl (info50v _) ?_) | (go_at_call 32; refine (schedule_any _ _).mono ?_; rintro e w1 ⟨rfl, h1⟩) | (refine wpList_store_row rfl 41 _ _ rfl w1.heap.size _ rfl rfl 41 _ (heap_alloc_new _ _) (info41v _) (by simp) (one_lan _ _) ?_; rw [World.setRow_alloc_new]))
  have hB := bh_start s b (schTo (wdTo b 128) 64) w w1 h1
  obtain ⟨x, hx⟩ : ∃ x, x = schTo (wdTo b 128) 64 := ⟨_, rfl⟩
  have HX : Hid (x = schTo (wdTo b 128) 64) := hx
  rw [← hx] at hB ⊢
  clear hx h1 hz hz1
  obtain ⟨z, hz⟩ : ∃ z, z = w1.heap.size := ⟨_, rfl⟩
  rw [← hz] at hB ⊢
  generalize w1.alloc (.cells (vec 80 (lan x)) 41) = W at hB ⊢
  clear hz w1
  have c0 : W.cell? ⟨w.heap.size, 0, none⟩ = some (.int .u64 (I (s 0))) := hB.1.cell (by decide)
  have c1 : W.cell? ⟨w.heap.size, 1, none⟩ = some (.int .u64 (I (s 1))) := hB.1.cell (by decide)
  have c2 : W.cell? ⟨w.heap.size, 2, none⟩ = some (.int .u64 (I (s 2))) := hB.1.cell (by decide)
  have c3 : W.cell? ⟨w.heap.size, 3, none⟩ = some (.int .u64 (I (s 3))) := hB.1.cell (by decide)
  have c4 : W.cell? ⟨w.heap.size, 4, none⟩ = some (.int .u64 (I (s 4))) := hB.1.cell (by decide)
  have c5 : W.cell? ⟨w.heap.size, 5, none⟩ = some (.int .u64 (I (s 5))) := hB.1.cell (by decide)
  have c6 : W.cell? ⟨w.heap.size, 6, none⟩ = some (.int .u64 (I (s 6))) := hB.1.cell (by decide)
  have c7 : W.cell? ⟨w.heap.size, 7, none⟩ = some (.int .u64 (I (s 7))) := hB.1.cell (by decide)
  have H0 : Hid (BhIn s x z w W) := hB
  clear hB
  go_quiet (fail)
  clear c0 c1 c2 c3 c4 c5 c6 c7
  go_wp2_with (go_at_call 17; refine (stepConstants_any _).mono ?_; rintro e w' ⟨rfl, hs⟩; obtain rfl := hs.symm)
  have H1 : Hid (BhIn s x z w ((W.drewN nq).alloc (.cells (vec 80 (lan KK)) 41))) := H0.out.more ((below_drewN _ _ _).alloc (Nat.le_refl _) _)
  clear H0
  generalize (W.drewN nq).alloc (.cells (vec 80 (lan KK)) 41) = W1 at H1 ⊢
  go_loopw [6, 7, 8, 9, 10, 11, 12, 13, 39] (fun s0 s1 s2 s3 s4 s5 s6 s7 i wr => ∃ k : Nat, k ≤ 80 ∧ i = .int .i64 (k : Int) ∧ s0 = .int .u64 (I (stpTo KK x s k 0)) ∧ s1 = .int .u64 (I (stpTo KK x s k 1)) ∧ s2 = .int .u64 (I (stpTo KK x s k 2)) ∧ s3 = .int .u64 (I (stpTo KK x s k 3)) ∧ s4 = .int .u64 (I (stpTo KK x s k 4)) ∧ s5 = .int .u64 (I (stpTo KK x s k 5)) ∧ s6 = .int .u64 (I (stpTo KK x s k 6)) ∧ s7 = .int .u64 (I (stpTo KK x s k 7)) ∧ BhIn s x z w wr) (fun s0 s1 s2 s3 s4 s5 s6 s7 i _ => 80 - (intOf i).toNat)
  case atStart => exact ⟨0, by omega, rfl, rfl, rfl, rfl, rfl, rfl, rfl, rfl, rfl, H1.out⟩
  case round =>
    obtain ⟨k, hk, rfl, rfl, rfl, rfl, rfl, rfl, rfl, rfl, rfl, hin⟩ := hrel
    clear H1
    by_cases hlt : k < 80
    · have hik := hix k hlt
      have cx : wr.cell? ⟨z, k, none⟩ = some (.int .u64 (I (x k))) := hin.2.2.1.2.cell (by omega)
      have H1 : Hid (BhIn s x z w wr) := hin
      clear hix hin
      obtain ⟨v, hv⟩ : ∃ v, v = stpTo KK x s k := ⟨_, rfl⟩
      have HV : Hid (stpTo KK x s (k + 1) = stp (KK k) (x k) v) := by rw [hv]; rfl
      rw [← hv]
      clear hv
      go_wp2
      go_quiet (first | (go_at_call 33; refine Calls.quiet_of_same (bg1_any _ _)) | (go_at_call 34; refine Calls.quiet_of_same (choose_any _ _ _ _)))
      clear hik cx
      go_wp2_with (first | (go_at_call 35; refine (bg0_any _ _).mono ?_; rintro e w' ⟨rfl, hs⟩; obtain rfl := hs.symm) | (go_at_call 36; refine (majority_any _ _ _ _).mono ?_; rintro e w' ⟨rfl, hs⟩; obtain rfl := hs.symm))
      go_roundw
      case rel =>
        refine ⟨k + 1, by omega, by go_num, ?_, ?_, ?_, ?_, ?_, ?_, ?_, ?_, H1.out.more (below_drewN _ _ _)⟩ <;> rw [HV.out]
        · rw [stp0]; simp only [I_add]
        · rfl
        · rfl
        · rfl
        · rw [stp4]; simp only [I_add]
        · rfl
        · rfl
        · rfl
      case measure => simp [intOf]; omega
    · have hk2 : k = 80 := by omega
      clear hix
      have H1 : Hid (BhIn (smTo s (stpTo KK x s 80) 0) x z w wr) := hin.step (hin.1.congr (fun i _ => by simp [lan, smTo])) (Only.refl _ _)
      have hd : ¬ (k : Int) < 80 := by omega
      obtain ⟨v, hv⟩ : ∃ v, v = stpTo KK x s k := ⟨_, rfl⟩
      have HV : Hid (v = stpTo KK x s 80) := by rw [hv, hk2]; exact rfl
      rw [← HV.out] at H1
      rw [← hv]
      clear hin hk2 hv
      have hix2 := run_index_vec (P := Try.prog) 38 27 8 (fun w => run_underlying Try.underlying38 w) Try.sizeOf27 Try.isAgg27 (lan v)
      go_wp2_with (refine wpList_build rfl 38 _ rfl (by kernel_rfl) ?_; generalize hG : (Program.built _ _ _).getD #[] = G; obtain rfl : G = vec 8 (lan v) := by rw [← hG]; kernel_rfl)
      clear hG
      go_loopw [87] (fun i wr => ∃ k : Nat, k ≤ 8 ∧ i = .int .i64 (k : Int) ∧ BhIn (smTo s v k) x z w wr) (fun i _ => 8 - (intOf i).toNat)
      case atStart => exact ⟨0, by omega, rfl, H1.out⟩
      case round =>
        clear hlt hk hd
        obtain ⟨k, hk, rfl, hin⟩ := hrel
        clear H1
        by_cases hlt : k < 8
        · have hik := hix2 k hlt
          have c0 : wr.cell? ⟨w.heap.size, k, none⟩ = some (.int .u64 (I (s k))) := by rw [hin.1.cell hlt]; simp [lan, smTo]
          have f0 : wr.frozen? ⟨w.heap.size, k, none⟩ = false := hin.1.frozen _
          have H1 : Hid (BhIn (smTo s v k) x z w wr) := hin
          clear hix2 hin
          go_wp2
          go_roundw
          case rel => exact ⟨k + 1, by omega, by go_num, H1.out.step (sm_row hlt H1.out.1 (by rw [I_add])) ((Only.refl _ _).setCell _ _)⟩
          case measure => simp [intOf]; omega
        · have : k = 8 := by omega
          subst this
          go_wp2_with (first | (refine wpList_load_row rfl 38 _ rfl w.heap.size rfl 38 _ (0, 0) _ (row_heap hin.1) Try.underlying38 rfl (info38v _) ?_) | (refine wpList_store_row rfl 38 _ _ rfl (w.heap.size + 2) _ rfl rfl 38 _ (row_heap hin.2.1) (info38v _) (by simp) (one_lan _ _) ?_))
          refine bodyPost_ret (results_cell_row rfl _ _ _ _ _ _ _ rfl (setRow_heap _ _ _ _ _ _ (row_heap hin.2.1)) Try.underlying38 rfl (info38v _)) rfl ⟨?_, ?_⟩
          · rw [vec_congr (g := lan (beh KK s b)) (fun i hi => by simp only [lan, smTo, beh]; rw [if_pos hi, HV.out, HX.out])]
          · exact ((Only.refl _ _).setRow _).below hin.2.2.2 (by omega)
end Go.Proofs.Ytkenaccagcdofaa
