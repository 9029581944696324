/- ShH3, ShH4, ShH6 -/
import Derived.Test.YtojfcdjgcgnajaaGreatGShH2
import Derived.Test.YtojfcdjgcgnajaaGreatGCM
namespace Go.Proofs.YtojfcdjgcgnajaaGreat.Sha
open Go.RowKit Go.Shelf
set_option linter.unusedSimpArgs false
set_option linter.unusedVariables false
def KKl : List Nat := [0x428a2f98d728ae22, 0x7137449123ef65cd, 0xb5c0fbcfec4d3b2f, 0xe9b5dba58189dbbc, 0x3956c25bf348b538, 0x59f111f1b605d019, 0x923f82a4af194f9b, 0xab1c5ed5da6d8118, 0xd807aa98a3030242, 0x12835b0145706fbe, 0x243185be4ee4b28c, 0x550c7dc3d5ffb4e2, 0x72be5d74f27b896f, 0x80deb1fe3b1696b1, 0x9bdc06a725c71235, 0xc19bf174cf692694, 0xe49b69c19ef14ad2, 0xefbe4786384f25e3, 0x0fc19dc68b8cd5b5, 0x240ca1cc77ac9c65, 0x2de92c6f592b0275, 0x4a7484aa6ea6e483, 0x5cb0a9dcbd41fbd4, 0x76f988da831153b5, 0x983e5152ee66dfab, 0xa831c66d2db43210, 0xb00327c898fb213f, 0xbf597fc7beef0ee4, 0xc6e00bf33da88fc2, 0xd5a79147930aa725, 0x06ca6351e003826f, 0x142929670a0e6e70, 0x27b70a8546d22ffc, 0x2e1b21385c26c926, 0x4d2c6dfc5ac42aed, 0x53380d139d95b3df, 0x650a73548baf63de, 0x766a0abb3c77b2a8, 0x81c2c92e47edaee6, 0x92722c851482353b, 0xa2bfe8a14cf10364, 0xa81a664bbc423001, 0xc24b8b70d0f89791, 0xc76c51a30654be30, 0xd192e819d6ef5218, 0xd69906245565a910, 0xf40e35855771202a, 0x106aa07032bbd1b8, 0x19a4c116b8d2d0c8, 0x1e376c085141ab53, 0x2748774cdf8eeb99, 0x34b0bcb5e19b48a8, 0x391c0cb3c5c95a63, 0x4ed8aa4ae3418acb, 0x5b9cca4f7763e373, 0x682e6ff3d6b2b8a3, 0x748f82ee5defb2fc, 0x78a5636f43172f60, 0x84c87814a1f0ab72, 0x8cc702081a6439ec, 0x90befffa23631e28, 0xa4506cebde82bde9, 0xbef9a3f7b2c67915, 0xc67178f2e372532b, 0xca273eceea26619c, 0xd186b8c721c0c207, 0xeada7dd6cde0eb1e, 0xf57d4f7fee6ed178, 0x06f067aa72176fba, 0x0a637dc5a2c898a6, 0x113f9804bef90dae, 0x1b710b35131c471b, 0x28db77f523047d84, 0x32caab7b40c72493, 0x3c9ebe0a15c9bebc, 0x431d67c49c100d4c, 0x4cc5d4becb3e42b6, 0x597f299cfc657e2a, 0x5fcb6fab3ad6faec, 0x6c44198c4a475817]
def HHl : List Nat := [0x6a09e667f3bcc908, 0xbb67ae8584caa73b, 0x3c6ef372fe94f82b, 0xa54ff53a5f1d36f1, 0x510e527fade682d1, 0x9b05688c2b3e6c1f, 0x1f83d9abfb41bd6b, 0x5be0cd19137e2179]
def KK (j : Nat) : BitVec 64 := BitVec.ofNat 64 (KKl.getD j 0)
def HH (j : Nat) : BitVec 64 := BitVec.ofNat 64 (HHl.getD j 0)
set_option maxRecDepth 20000 in
set_option maxHeartbeats 1000000 in
theorem stepConstants_any (w : World) :
 Calls Tryz.prog 116 #[] w fun e w' => e = .returned (.agg (vec 80 (lan KK))) ∧ w' = w.alloc (.cells (vec 80 (lan KK)) 172) := by
 have hz := (zero_of_info zero41).1; go_enter Tryz.func116, Tryz.ntmps116; go_wp2_with (first | (refine wpList_store_row rfl 172 _ _ rfl w.heap.size (vec 80 (lan KK)) rfl rfl 172 _ (heap_alloc_new _ _) (info41v _) (by simp) (one_lan _ _) ?_; rw [World.setRow_alloc_new]) | (refine wpList_build rfl 172 _ rfl (by kernel_rfl) ?_; generalize hG : (Program.built _ _ _).getD #[] = G; obtain rfl : G = vec 80 (lan KK) := by rw [← hG]; kernel_rfl)); clear hG; exact bodyPost_ret (results_cell_row rfl _ _ _ _ _ _ _ rfl (heap_alloc_new _ _) Tryz.underlying172 rfl (info41v _)) rfl ⟨rfl, rfl⟩
set_option maxRecDepth 20000 in
set_option maxHeartbeats 1000000 in
theorem firstState_any (w : World) :
 Calls Tryz.prog 76 #[] w fun e w' => e = .returned (.agg (vec 8 (lan HH))) ∧ w' = w.alloc (.cells (vec 8 (lan HH)) 111) := by
 have hz := (zero_of_info zero38).1; go_enter Tryz.func76, Tryz.ntmps76; go_wp2_with (first | (refine wpList_store_row rfl 111 _ _ rfl w.heap.size (vec 8 (lan HH)) rfl rfl 111 _ (heap_alloc_new _ _) (info38v _) (by simp) (one_lan _ _) ?_; rw [World.setRow_alloc_new]) | (refine wpList_build rfl 111 _ rfl (by kernel_rfl) ?_; generalize hG : (Program.built _ _ _).getD #[] = G; obtain rfl : G = vec 8 (lan HH) := by rw [← hG]; kernel_rfl)); clear hG; exact bodyPost_ret (results_cell_row rfl _ _ _ _ _ _ _ rfl (heap_alloc_new _ _) Tryz.underlying111 rfl (info38v _)) rfl ⟨rfl, rfl⟩
end Go.Proofs.YtojfcdjgcgnajaaGreat.Sha
namespace Go.Proofs.YtojfcdjgcgnajaaGreat.Sha
open Go.RowKit Go.Shelf
set_option linter.unusedSimpArgs false
set_option linter.unusedVariables false
def BhIn (R x : Nat → BitVec 64) (z : Nat) (w wr : World) : Prop :=
 wr.rowIs w.heap.size 111 8 (lan R) ∧ wr.rowIs (w.heap.size + 2) 111 8 (lan fun _ => 0#64) ∧ (w.heap.size + 2 < z ∧ wr.rowIs z 172 80 (lan x)) ∧ Below w.heap.size w wr
theorem BhIn.step {R R' x : Nat → BitVec 64} {z : Nat} {w w1 w2 : World} (h : BhIn R x z w w1) (hr : w2.rowIs w.heap.size 111 8 (lan R')) (o : Only w.heap.size w1 w2) : BhIn R' x z w w2 :=
 ⟨hr, o.row (by omega) h.2.1, ⟨h.2.2.1.1, o.row (by have := h.2.2.1.1; omega) h.2.2.1.2⟩, o.below h.2.2.2 (by omega)⟩
theorem BhIn.more {R x : Nat → BitVec 64} {z : Nat} {w w1 w2 : World} (h : BhIn R x z w w1) (o : Below w1.heap.size w1 w2) : BhIn R x z w w2 :=
 ⟨h.1.of_block (o.block _ h.1.lt), h.2.1.of_block (o.block _ h.2.1.lt), ⟨h.2.2.1.1, h.2.2.1.2.of_block (o.block _ h.2.2.1.2.lt)⟩, h.2.2.2.trans (o.mono h.2.2.2.size)⟩
theorem bh_start (s : Nat → BitVec 64) (b : Nat → BitVec 8) (x : Nat → BitVec 64) (w w1 : World) (h1 : Below (((w.alloc (.cells (vec 8 (lan s)) 111)).alloc (.cells (vec 128 (byt b)) 132)).alloc (.cells (vec 8 (lan fun _ => 0#64)) 111)).heap.size (((w.alloc (.cells (vec 8 (lan s)) 111)).alloc (.cells (vec 128 (byt b)) 132)).alloc (.cells (vec 8 (lan fun _ => 0#64)) 111)) w1) :
 BhIn s x w1.heap.size w (w1.alloc (.cells (vec 80 (lan x)) 172)) := by
 have hs := h1.size; simp at hs; have r1 : w1.rowIs w.heap.size 111 8 (lan s) := (heap_row (heap1of3 _ _ _ _)).of_block (h1.block _ (by simp; omega)); have r2 : w1.rowIs (w.heap.size + 2) 111 8 (lan fun _ => 0#64) := (heap_row (heap3of3 _ _ _ _)).of_block (h1.block _ (by simp)); refine ⟨r1.alloc _, r2.alloc _, ⟨by omega, heap_row (heap_alloc_new _ _)⟩, ?_⟩; exact (Below.trans (by go_grown) (h1.mono (by simp; omega))).alloc (by omega) _
theorem below_drewN (w : World) (n B : Nat) : Below B w (w.drewN n) := ⟨(Below.refl B w).os, (Below.refl B w).tape, (Below.refl B w).output, (Below.refl B w).size, (Below.refl B w).block⟩
def smTo (s v : Nat → BitVec 64) (k i : Nat) : BitVec 64 := if i < k then s i + v i else s i
theorem sm_row {s v : Nat → BitVec 64} {k g t : Nat} {w : World} (hk : k < 8) (h : w.rowIs g t 8 (lan (smTo s v k))) {u : Value} (hu : u = .int .u64 (I (s k + v k))) : (w.setCell ⟨g, k, none⟩ u).rowIs g t 8 (lan (smTo s v (k + 1))) := by
 refine (h.set _ _).congr ?_; intro i hi; subst hu; simp only [lan, smTo]; by_cases e : i = k
 · subst e; rw [if_pos rfl, if_pos (by omega)]
 · rw [if_neg e]
   by_cases hl : i < k
   · rw [if_pos hl, if_pos (by omega)]
   · rw [if_neg hl, if_neg (by omega)]
theorem stp0 (c x : BitVec 64) (v : Nat → BitVec 64) : stp c x v 0 = (v 7 + bg1 (v 4) + ((v 4 &&& v 5) ^^^ (~~~ (v 4) &&& v 6)) + c + x) + (bg0 (v 0) + ((v 0 &&& v 1) ^^^ (v 0 &&& v 2) ^^^ (v 1 &&& v 2))) := rfl
theorem stp4 (c x : BitVec 64) (v : Nat → BitVec 64) : stp c x v 4 = v 3 + (v 7 + bg1 (v 4) + ((v 4 &&& v 5) ^^^ (~~~ (v 4) &&& v 6)) + c + x) := rfl
set_option maxRecDepth 20000 in
set_option maxHeartbeats 2000000 in
theorem behind_any (s : Nat → BitVec 64) (b : Nat → BitVec 8) (w : World) :
 Calls Tryz.prog 78 #[.agg (vec 8 (lan s)), .agg (vec 128 (byt b))] w fun e w' => e = .returned (.agg (vec 8 (lan (beh KK s b)))) ∧ Below w.heap.size w w' := by
 have hix := run_index_vec (P := Tryz.prog) 172 22 80 (fun w => run_underlying Tryz.underlying172 w) Tryz.sizeOf22 Tryz.isAgg22 (lan KK); have hz := (zero_of_info zero38).1; have hz1 := (zero_of_info zero41).1; go_enter Tryz.func78, Tryz.ntmps78; go_wp2_with (first | (refine wpList_load_row rfl 132 _ rfl (w.heap.size + 1) rfl 132 _ (0, 0) _ (heap2of3 _ _ _ _) Tryz.underlying132 rfl (info50v _) ?_) | (go_at_call 115; refine (schedule_any _ _).mono ?_; rintro e w1 ⟨rfl, h1⟩) | (refine wpList_store_row rfl 172 _ _ rfl w1.heap.size _ rfl rfl 172 _ (heap_alloc_new _ _) (info41v _) (by simp) (one_lan _ _) ?_; rw [World.setRow_alloc_new])); have hB := bh_start s b (schTo (wdTo b 128) 64) w w1 h1; obtain ⟨x, hx⟩ : ∃ x, x = schTo (wdTo b 128) 64 := ⟨_, rfl⟩
 have HX : Hid (x = schTo (wdTo b 128) 64) := hx; rw [← hx] at hB ⊢; clear hx h1 hz hz1; obtain ⟨z, hz⟩ : ∃ z, z = w1.heap.size := ⟨_, rfl⟩
 rw [← hz] at hB ⊢; generalize w1.alloc (.cells (vec 80 (lan x)) 172) = W at hB ⊢; clear hz w1; have c0 : W.cell? ⟨w.heap.size, 0, none⟩ = some (.int .u64 (I (s 0))) := hB.1.cell (by decide); have c1 : W.cell? ⟨w.heap.size, 1, none⟩ = some (.int .u64 (I (s 1))) := hB.1.cell (by decide); have c2 : W.cell? ⟨w.heap.size, 2, none⟩ = some (.int .u64 (I (s 2))) := hB.1.cell (by decide); have c3 : W.cell? ⟨w.heap.size, 3, none⟩ = some (.int .u64 (I (s 3))) := hB.1.cell (by decide); have c4 : W.cell? ⟨w.heap.size, 4, none⟩ = some (.int .u64 (I (s 4))) := hB.1.cell (by decide); have c5 : W.cell? ⟨w.heap.size, 5, none⟩ = some (.int .u64 (I (s 5))) := hB.1.cell (by decide); have c6 : W.cell? ⟨w.heap.size, 6, none⟩ = some (.int .u64 (I (s 6))) := hB.1.cell (by decide); have c7 : W.cell? ⟨w.heap.size, 7, none⟩ = some (.int .u64 (I (s 7))) := hB.1.cell (by decide); have H0 : Hid (BhIn s x z w W) := hB; clear hB; go_quiet (fail); clear c0 c1 c2 c3 c4 c5 c6 c7; go_wp2_with (go_at_call 116; refine (stepConstants_any _).mono ?_; rintro e w' ⟨rfl, hs⟩; obtain rfl := hs.symm); have H1 : Hid (BhIn s x z w ((W.drewN nq).alloc (.cells (vec 80 (lan KK)) 172))) := H0.out.more ((below_drewN _ _ _).alloc (Nat.le_refl _) _); clear H0; generalize (W.drewN nq).alloc (.cells (vec 80 (lan KK)) 172) = W1 at H1 ⊢; go_loopw [6, 7, 8, 9, 10, 11, 12, 13, 39] (fun s0 s1 s2 s3 s4 s5 s6 s7 i wr => ∃ k : Nat, k ≤ 80 ∧ i = .int .i64 (k : Int) ∧ s0 = .int .u64 (I (stpTo KK x s k 0)) ∧ s1 = .int .u64 (I (stpTo KK x s k 1)) ∧ s2 = .int .u64 (I (stpTo KK x s k 2)) ∧ s3 = .int .u64 (I (stpTo KK x s k 3)) ∧ s4 = .int .u64 (I (stpTo KK x s k 4)) ∧ s5 = .int .u64 (I (stpTo KK x s k 5)) ∧ s6 = .int .u64 (I (stpTo KK x s k 6)) ∧ s7 = .int .u64 (I (stpTo KK x s k 7)) ∧ BhIn s x z w wr) (fun s0 s1 s2 s3 s4 s5 s6 s7 i _ => 80 - (intOf i).toNat)
 case atStart => exact ⟨0, by omega, rfl, rfl, rfl, rfl, rfl, rfl, rfl, rfl, rfl, H1.out⟩
 case round =>
  obtain ⟨k, hk, rfl, rfl, rfl, rfl, rfl, rfl, rfl, rfl, rfl, hin⟩ := hrel; clear H1; by_cases hlt : k < 80
  · have hik := hix k hlt
    have cx : wr.cell? ⟨z, k, none⟩ = some (.int .u64 (I (x k))) := hin.2.2.1.2.cell (by omega); have H1 : Hid (BhIn s x z w wr) := hin; clear hix hin; obtain ⟨v, hv⟩ : ∃ v, v = stpTo KK x s k := ⟨_, rfl⟩
    have HV : Hid (stpTo KK x s (k + 1) = stp (KK k) (x k) v) := by rw [hv]; rfl
    rw [← hv]; clear hv; go_wp2; go_quiet (first | (go_at_call 117; refine Calls.quiet_of_same (bg1_any _ _)) | (go_at_call 118; refine Calls.quiet_of_same (choose_any _ _ _ _))); clear hik cx; go_wp2_with (first | (go_at_call 119; refine (bg0_any _ _).mono ?_; rintro e w' ⟨rfl, hs⟩; obtain rfl := hs.symm) | (go_at_call 120; refine (majority_any _ _ _ _).mono ?_; rintro e w' ⟨rfl, hs⟩; obtain rfl := hs.symm)); go_roundw
    case rel =>
     refine ⟨k + 1, by omega, by go_num, ?_, ?_, ?_, ?_, ?_, ?_, ?_, ?_, H1.out.more (below_drewN _ _ _)⟩ <;> rw [HV.out]
     · rw [stp0]; simp only [I_add]
     · rfl
     · rfl
     · rfl
     · rw [stp4]; simp only [I_add]
     · rfl
     · rfl
     · rfl
    case measure => simp [intOf]; omega
  · have hk2 : k = 80 := by omega
    clear hix; have H1 : Hid (BhIn (smTo s (stpTo KK x s 80) 0) x z w wr) := hin.step (hin.1.congr (fun i _ => by simp [lan, smTo])) (Only.refl _ _); have hd : ¬ (k : Int) < 80 := by omega
    obtain ⟨v, hv⟩ : ∃ v, v = stpTo KK x s k := ⟨_, rfl⟩
    have HV : Hid (v = stpTo KK x s 80) := by rw [hv, hk2]; exact rfl
    rw [← HV.out] at H1; rw [← hv]; clear hin hk2 hv; have hix2 := run_index_vec (P := Tryz.prog) 111 22 8 (fun w => run_underlying Tryz.underlying111 w) Tryz.sizeOf22 Tryz.isAgg22 (lan v); go_wp2_with (refine wpList_build rfl 111 _ rfl (by kernel_rfl) ?_; generalize hG : (Program.built _ _ _).getD #[] = G; obtain rfl : G = vec 8 (lan v) := by rw [← hG]; kernel_rfl); clear hG; go_loopw [87] (fun i wr => ∃ k : Nat, k ≤ 8 ∧ i = .int .i64 (k : Int) ∧ BhIn (smTo s v k) x z w wr) (fun i _ => 8 - (intOf i).toNat)
    case atStart => exact ⟨0, by omega, rfl, H1.out⟩
    case round =>
     clear hlt hk hd; obtain ⟨k, hk, rfl, hin⟩ := hrel; clear H1; by_cases hlt : k < 8
     · have hik := hix2 k hlt
       have c0 : wr.cell? ⟨w.heap.size, k, none⟩ = some (.int .u64 (I (s k))) := by rw [hin.1.cell hlt]; simp [lan, smTo]
       have f0 : wr.frozen? ⟨w.heap.size, k, none⟩ = false := hin.1.frozen _; have H1 : Hid (BhIn (smTo s v k) x z w wr) := hin; clear hix2 hin; go_wp2; go_roundw
       case rel => exact ⟨k + 1, by omega, by go_num, H1.out.step (sm_row hlt H1.out.1 (by rw [I_add])) ((Only.refl _ _).setCell _ _)⟩
       case measure => simp [intOf]; omega
     · have : k = 8 := by omega
       subst this; go_wp2_with (first | (refine wpList_load_row rfl 111 _ rfl w.heap.size rfl 111 _ (0, 0) _ (row_heap hin.1) Tryz.underlying111 rfl (info38v _) ?_) | (refine wpList_store_row rfl 111 _ _ rfl (w.heap.size + 2) _ rfl rfl 111 _ (row_heap hin.2.1) (info38v _) (by simp) (one_lan _ _) ?_)); refine bodyPost_ret (results_cell_row rfl _ _ _ _ _ _ _ rfl (setRow_heap _ _ _ _ _ _ (row_heap hin.2.1)) Tryz.underlying111 rfl (info38v _)) rfl ⟨?_, ?_⟩
       · rw [vec_congr (g := lan (beh KK s b)) (fun i hi => by simp only [lan, smTo, beh]; rw [if_pos hi, HV.out, HX.out])]
       · exact ((Only.refl _ _).setRow _).below hin.2.2.2 (by omega)
end Go.Proofs.YtojfcdjgcgnajaaGreat.Sha
namespace Go.Proofs.YtojfcdjgcgnajaaGreat.Sha
open Go.RowKit Go.Shelf
set_option linter.unusedSimpArgs false
set_option linter.unusedVariables false
def has (S : Nat → BitVec 64) (p : Nat → BitVec 8) (n : Nat) : Nat → Value := fun j => if j < 8 then .int .u64 (I (S j)) else if j < 136 then .int .u8 (I8 (p (j - 8))) else .int .u64 (n : Int)
theorem has_state {S : Nat → BitVec 64} {p : Nat → BitVec 8} {h j : Nat} (hj : j < 8) : has S p h j = .int .u64 (I (S j)) := by unfold has; rw [if_pos hj]
theorem has_part {S : Nat → BitVec 64} {p : Nat → BitVec 8} {h i : Nat} (hi : i < 128) : has S p h (8 + i) = .int .u8 (I8 (p i)) := by unfold has; rw [if_neg (by omega), if_pos (by omega), Nat.add_sub_cancel_left]
theorem has_held {S : Nat → BitVec 64} {p : Nat → BitVec 8} {h : Nat} : has S p h 136 = .int .u64 (h : Int) := by unfold has; rw [if_neg (by omega), if_neg (by omega)]
def stAfter (msg : Nat → BitVec 8) : Nat → Nat → BitVec 64
 | 0 => HH
 | k + 1 => beh KK (stAfter msg k) (fun i => msg (128 * k + i))
theorem wdTo_congr {p q : Nat → BitVec 8} : ∀ k, (∀ i, i < k → p i = q i) → wdTo p k = wdTo q k
 | 0, _ => rfl
 | k + 1, h => by
   unfold wdTo; rw [wdTo_congr k (fun i hi => h i (by omega)), h k (by omega)]
theorem beh_congr {K s : Nat → BitVec 64} {p q : Nat → BitVec 8} (h : ∀ i, i < 128 → p i = q i) : beh K s p = beh K s q := by
 unfold beh; rw [wdTo_congr 128 h]
def HasIn (W : World) (hb : Nat) (msg : Nat → BitVec 8) (n : Nat) : Prop :=
 ∃ p : Nat → BitVec 8, W.rowIs hb 134 137 (has (stAfter msg (n / 128)) p n) ∧ ∀ i, i < n % 128 → p i = msg (128 * (n / 128) + i)
theorem held_any (hb n : Nat) (hn : n < 18446744073709551616) (w : World) (hc : w.cell? ⟨hb, 136, none⟩ = some (.int .u64 (n : Int))) :
 Calls Tryz.prog 77 #[.pointer (some ⟨hb, 0, none⟩)] w fun e w' => e = .returned (.int .i64 ((n % 128 : Nat) : Int)) ∧ w' = w := by
 go_enter Tryz.func77, Tryz.ntmps77
 go_wp2; go_ret
 exact ⟨rfl, rfl⟩
def bof (x : BitVec 64) (i : Nat) : BitVec 8 := (x >>> (8 * (7 - i))).setWidth 8
theorem bof_val (x : BitVec 64) (i : Nat) : IntKind.u8.wrap (I x / 2 ^ (8 * (7 - i))) = I8 (bof x i) := by
 rw [I_shr, IntKind.wrap_u8']; unfold I8 I bof; rw [BitVec.toNat_setWidth]; omega
theorem byteOf_any (x : BitVec 64) (i : Nat) (hi : i < 8) (w : World) :
 Calls Tryz.prog 121 #[.int .u64 (I x), .int .i64 (i : Int)] w fun e w' => e = .returned (.int .u8 (I8 (bof x i))) ∧ w' = w := by
 have h1 : (8 * (7 - (i : Int))).toNat = 8 * (7 - i) := by omega
 have hv := bof_val x i; have HV : Hid _ := hv; clear hv; go_enter Tryz.func121, Tryz.ntmps121; go_wp2; go_ret; refine ⟨?_, rfl⟩; rw [← HV.out, IntKind.wrap_u8']; rfl
def outb (S : Nat → BitVec 64) (i : Nat) : BitVec 8 := bof (S (i / 8)) (i % 8)
def outTo (S : Nat → BitVec 64) (k i : Nat) : BitVec 8 := if i < k then outb S i else 0
theorem out_row {S : Nat → BitVec 64} {k b t : Nat} {w : World} (hk : k < 64) (h : w.rowIs b t 64 (byt (outTo S k))) {v : Value} (hv : v = .int .u8 (I8 (outb S k))) :
 (w.setCell ⟨b, k, none⟩ v).rowIs b t 64 (byt (outTo S (k + 1))) := by
 refine (h.set _ _).congr ?_; intro i hi; subst hv; simp only [byt, outTo]; by_cases e : i = k
 · subst e; rw [if_pos rfl, if_pos (by omega)]
 · rw [if_neg e]
   by_cases hl : i < k
   · rw [if_pos hl, if_pos (by omega)]
   · rw [if_neg hl, if_neg (by omega)]
def FiIn (S : Nat → BitVec 64) (k : Nat) (w wr : World) : Prop :=
 wr.rowIs w.heap.size 111 8 (lan S) ∧ wr.rowIs (w.heap.size + 1) 39 64 (byt fun _ => 0#8) ∧ wr.rowIs (w.heap.size + 2) 39 64 (byt (outTo S k)) ∧ Below w.heap.size w wr
theorem fi_start (S : Nat → BitVec 64) (w : World) : FiIn S 0 w (((w.alloc (.cells (vec 8 (lan S)) 111)).alloc (.cells (vec 64 (byt fun _ => 0#8)) 39)).alloc (.cells (vec 64 (byt fun _ => 0#8)) 39)) :=
 ⟨heap_row (heap1of3 _ _ _ _), heap_row (heap2of3 _ _ _ _), (heap_row (heap3of3 _ _ _ _)).congr (fun i _ => by simp [byt, outTo]), by go_grown⟩
theorem FiIn.step {S : Nat → BitVec 64} {k : Nat} {w w1 : World} (hk : k < 64) (h : FiIn S k w w1) {v : Value} (hv : v = .int .u8 (I8 (outb S k))) : FiIn S (k + 1) w (w1.setCell ⟨w.heap.size + 2, k, none⟩ v) :=
 ⟨h.1.setOther (by show w.heap.size ≠ w.heap.size + 2; omega) _, h.2.1.setOther (by show w.heap.size + 1 ≠ w.heap.size + 2; omega) _, out_row hk h.2.2.1 hv, h.2.2.2.setCell (by show w.heap.size ≤ w.heap.size + 2; omega) _⟩
set_option maxRecDepth 20000 in
set_option maxHeartbeats 1000000 in
theorem bytesOf_any (S : Nat → BitVec 64) (w : World) :
 Calls Tryz.prog 80 #[.agg (vec 8 (lan S))] w fun e w' => e = .returned (.agg (vec 64 (byt (outb S)))) ∧ Below w.heap.size w w' := by
 have HS : Hid _ := fi_start S w; have hz := (zero_of_info zero23).1; go_enter Tryz.func80, Tryz.ntmps80; go_wp2; go_loopw [5] (fun i wr => ∃ k : Nat, k ≤ 64 ∧ i = .int .i64 (k : Int) ∧ FiIn S k w wr) (fun i _ => 64 - (intOf i).toNat)
 case atStart => exact ⟨0, by omega, rfl, HS.out⟩
 case round =>
  obtain ⟨k, hk, rfl, hin⟩ := hrel; clear HS hz; by_cases hlt : k < 64
  · have c0 : wr.cell? ⟨w.heap.size, k / 8, none⟩ = some (.int .u64 (I (S (k / 8)))) := hin.1.cell (by omega)
    obtain ⟨u, cu⟩ : ∃ u, wr.cell? ⟨w.heap.size + 1 + 1, k, none⟩ = some u := ⟨_, hin.2.2.1.cell hlt⟩
    have f0 : wr.frozen? ⟨w.heap.size + 1 + 1, k, none⟩ = false := hin.2.2.1.frozen _; have H1 : Hid (FiIn S k w wr) := hin; clear hin; go_wp2_with (go_at_call 121; refine (byteOf_any (S (k / 8)) (k % 8) (by omega) _).mono ?_; rintro e w' ⟨rfl, hs⟩; obtain rfl := hs.symm); go_roundw
    case rel => exact ⟨k + 1, by omega, by go_num, H1.out.step hlt rfl⟩
    case measure => simp [intOf]; omega
  · have : k = 64 := by omega
    subst this; go_wp2_with (first | (refine wpList_load_row rfl 39 _ rfl (w.heap.size + 2) rfl 39 _ (0, 0) _ (row_heap hin.2.2.1) Tryz.underlying39 rfl (info23v _) ?_) | (refine wpList_store_row rfl 39 _ _ rfl (w.heap.size + 1) _ rfl rfl 39 _ (row_heap hin.2.1) (info23v _) (by simp) (one_byt _ _) ?_)); refine bodyPost_ret (results_cell_row rfl _ _ _ _ _ _ _ rfl (setRow_heap _ _ _ _ _ _ (row_heap hin.2.1)) Tryz.underlying39 rfl (info23v _)) rfl ⟨?_, ?_⟩
    · rw [vec_congr (g := byt (outb S)) (fun i hi => by simp only [byt, outTo]; rw [if_pos hi])]
    · exact ((Only.refl _ _).setRow _).below hin.2.2.2 (by omega)
def putTo (p : Nat → BitVec 8) (x : BitVec 64) (k i : Nat) : BitVec 8 := if 112 ≤ i ∧ i < 112 + k then bof (x >>> 61) (i - 112) else if 120 ≤ i ∧ i < 120 + k then bof (x <<< 3) (i - 120) else p i
theorem put_row {p : Nat → BitVec 8} {x : BitVec 64} {k g t : Nat} {w : World} (hk : k < 8) (h : w.rowIs g t 128 (byt (putTo p x k))) {v u : Value} (hv : v = .int .u8 (I8 (bof (x >>> 61) k))) (hu : u = .int .u8 (I8 (bof (x <<< 3) k))) :
 ((w.setCell ⟨g, 112 + k, none⟩ v).setCell ⟨g, 120 + k, none⟩ u).rowIs g t 128 (byt (putTo p x (k + 1))) := by
 refine ((h.set _ _).set _ _).congr ?_; intro i hi; subst hv hu; simp only [byt, putTo]; by_cases e : i = 120 + k
 · subst e; rw [if_pos rfl, if_neg (by omega), if_pos (by omega), Nat.add_sub_cancel_left]
 · rw [if_neg e]
   by_cases e2 : i = 112 + k
   · subst e2; rw [if_pos rfl, if_pos (by omega), Nat.add_sub_cancel_left]
   · rw [if_neg e2]
     by_cases h1 : 112 ≤ i ∧ i < 112 + k
     · rw [if_pos h1, if_pos (show 112 ≤ i ∧ i < 112 + (k + 1) by omega)]
     · rw [if_neg h1, if_neg (show ¬ (112 ≤ i ∧ i < 112 + (k + 1)) by omega)]
       by_cases h2 : 120 ≤ i ∧ i < 120 + k
       · rw [if_pos h2, if_pos (show 120 ≤ i ∧ i < 120 + (k + 1) by omega)]
       · rw [if_neg h2, if_neg (show ¬ (120 ≤ i ∧ i < 120 + (k + 1)) by omega)]
set_option maxRecDepth 20000 in
set_option maxHeartbeats 1000000 in
theorem putBits_any (p : Nat → BitVec 8) (x : BitVec 64) (g : Nat) (w : World) (hr : w.rowIs g 132 128 (byt p)) :
 Calls Tryz.prog 79 #[.pointer (some ⟨g, 0, none⟩), .int .u64 (I x)] w fun e w' => e = .returned (.tuple #[]) ∧ w'.rowIs g 132 128 (byt (putTo p x 8)) ∧ Only g w w' := by
 have e1 : I x / (2305843009213693952 : Int) = I (x >>> 61) := by rw [← I_shr]; rfl
 have e2 : IntKind.u64.wrap (I x * 8) = I (x <<< 3) := by rw [← I_shl]; rfl
 have HR : Hid (w.rowIs g 132 128 (byt p)) := hr; clear hr; go_enter Tryz.func79, Tryz.ntmps79; go_wp2; go_loopw [11] (fun i wr => ∃ k : Nat, k ≤ 8 ∧ i = .int .i64 (k : Int) ∧ wr.rowIs g 132 128 (byt (putTo p x k)) ∧ Only g w wr) (fun i _ => 8 - (intOf i).toNat)
 case atStart => exact ⟨0, by omega, rfl, HR.out.congr (fun i _ => by simp only [byt, putTo]; rw [if_neg (by omega), if_neg (by omega)]), Only.refl _ _⟩
 case round =>
  obtain ⟨k, hk, rfl, hrow, hon⟩ := hrel; clear HR; by_cases hlt : k < 8
  · have a1 : IntKind.i64.wrap (112 + (k : Int)) = ((112 + k : Nat) : Int) := by rw [IntKind.wrap_i64]; omega
    obtain ⟨u, cu⟩ : ∃ u, wr.cell? ⟨g, 112 + k, none⟩ = some u := ⟨_, hrow.cell (by omega)⟩
    obtain ⟨u2, cu2⟩ : ∃ u, wr.cell? ⟨g, 120 + k, none⟩ = some u := ⟨_, hrow.cell (by omega)⟩
    have f0 := hrow.frozen; have H1 : Hid (wr.rowIs g 132 128 (byt (putTo p x k)) ∧ Only g w wr) := ⟨hrow, hon⟩
    clear hrow hon a1; have b1 : (0 : Int) ≤ 112 + (k : Int) := by omega
    have b2 : 112 + (k : Int) < 128 := by omega
    have b3 : (112 + (k : Int)).toNat = 112 + k := by omega
    have b4 : (0 : Int) ≤ 120 + (k : Int) := by omega
    have b5 : 120 + (k : Int) < 128 := by omega
    have b6 : (120 + (k : Int)).toNat = 120 + k := by omega
    go_wp2; refine wp_region_held_drew (S := fun w' => w'.frozen? ⟨g, 112 + k, none⟩ = false ∧ ∃ u, w'.cell? ⟨g, 112 + k, none⟩ = some u) (by kernel_rfl) (⟨f0 _, _, cu⟩) (fun hHeld => ?_)
    refine tk 0 (.pointer (some ⟨g, 0, none⟩)) (fun w9 hSw => ?_) hHeld ?_
    · go_simp
    simp only [sm]; refine tk 1 (.int .i64 (k : Int)) (fun w9 hSw => ?_) hHeld ?_
    · go_simp
    simp only [sm]; refine tk 2 (.int .i64 (112 + (k : Int))) (fun w9 hSw => ?_) hHeld ?_
    · have a1 : IntKind.i64.wrap (112 + (k : Int)) = 112 + (k : Int) := by rw [IntKind.wrap_i64]; omega
      go_simp
    simp only [sm]; refine tk 3 (.int .u64 (I (x >>> 61))) (fun w9 hSw => ?_) hHeld ?_
    · go_simp
    simp only [sm]; refine tk 4 (.int .i64 (k : Int)) (fun w9 hSw => ?_) hHeld ?_
    · go_simp
    simp only [sm]; refine tk 6 (.pointer (some ⟨g, 0, none⟩)) (fun w9 hSw => ?_) hHeld ?_
    · go_simp
    simp only [sm]; refine rd 5 (fun K hK => ?_); go_simp; refine (byteOf_any (x >>> 61) k hlt _).mono ?_; rintro e w' ⟨rfl, hs⟩; obtain rfl := hs.symm; go_wp2_with fail; refine hK.out _ _ ?_ (fun hHeld => ?_)
    · exact hHeld
    clear hK K; try simp only [sm]
    refine tk 7 (.pointer (some ⟨g, 112 + k, none⟩)) (fun w9 hSw => ?_) hHeld ?_
    · go_simp
    simp only [sm]; refine rd 8 (fun K hK => ?_); obtain ⟨hf, u, hu⟩ := hHeld; go_simp; refine hK.out _ _ ?_ (fun hHeld => ?_)
    · exact ⟨by simpa using hf, _, World.cell?_setCell_same _ _ _ hu⟩
    clear hK K; try simp only [sm]
    refine wpAnyH_done (by kernel_rfl) ?_ _; clear hHeld hf hu u; have f1 : ∀ i, ((wr.setCell ⟨g, 112 + k, none⟩ (.int .u8 (I8 (bof (x >>> 61) k)))).drew).frozen? ⟨g, i, none⟩ = false := fun i => by simpa using f0 i
    have cu3 : ∃ u, ((wr.setCell ⟨g, 112 + k, none⟩ (.int .u8 (I8 (bof (x >>> 61) k)))).drew).cell? ⟨g, 120 + k, none⟩ = some u := ⟨_, ((H1.out.1.set _ _).drew).cell (by omega)⟩
    clear f0 cu cu2; go_wp2; refine wp_region_held_drew (S := fun w' => w'.frozen? ⟨g, 120 + k, none⟩ = false ∧ ∃ u, w'.cell? ⟨g, 120 + k, none⟩ = some u) (by kernel_rfl) (⟨f1 _, cu3⟩) (fun hHeld => ?_); refine tk 0 (.pointer (some ⟨g, 0, none⟩)) (fun w9 hSw => ?_) hHeld ?_
    · go_simp
    simp only [sm]; refine tk 1 (.int .i64 (k : Int)) (fun w9 hSw => ?_) hHeld ?_
    · go_simp
    simp only [sm]; refine tk 2 (.int .i64 (120 + (k : Int))) (fun w9 hSw => ?_) hHeld ?_
    · have a1 : IntKind.i64.wrap (120 + (k : Int)) = 120 + (k : Int) := by rw [IntKind.wrap_i64]; omega
      go_simp
    simp only [sm]; refine tk 3 (.int .u64 (I (x <<< 3))) (fun w9 hSw => ?_) hHeld ?_
    · go_simp
    simp only [sm]; refine tk 4 (.int .i64 (k : Int)) (fun w9 hSw => ?_) hHeld ?_
    · go_simp
    simp only [sm]; refine tk 6 (.pointer (some ⟨g, 0, none⟩)) (fun w9 hSw => ?_) hHeld ?_
    · go_simp
    simp only [sm]; refine rd 5 (fun K hK => ?_); go_simp; refine (byteOf_any (x <<< 3) k hlt _).mono ?_; rintro e w' ⟨rfl, hs⟩; obtain rfl := hs.symm; go_wp2_with fail; refine hK.out _ _ ?_ (fun hHeld => ?_)
    · exact hHeld
    clear hK K; try simp only [sm]
    refine tk 7 (.pointer (some ⟨g, 120 + k, none⟩)) (fun w9 hSw => ?_) hHeld ?_
    · go_simp
    simp only [sm]; refine rd 8 (fun K hK => ?_); obtain ⟨hf, u, hu⟩ := hHeld; go_simp; refine hK.out _ _ ?_ (fun hHeld => ?_)
    · exact ⟨by simpa using hf, _, World.cell?_setCell_same _ _ _ hu⟩
    clear hK K; try simp only [sm]
    refine wpAnyH_done (by kernel_rfl) ?_ _; clear hHeld hf hu u; go_wp2; go_roundw
    case rel => exact ⟨k + 1, by omega, by go_num, (put_row hlt H1.out.1 rfl rfl).drew.drew, ((H1.out.2.setCell _ _).setCell _ _).drew.drew⟩
    case measure => simp [intOf]; omega
  · have : k = 8 := by omega
    subst this; go_wp2; go_returns; exact ⟨rfl, hrow, hon⟩
end Go.Proofs.YtojfcdjgcgnajaaGreat.Sha
