/- ShH9, HA, EY, EV -/
import Derived.Test.YtojfcdjgcgnajaaGreatShH8
import Derived.Test.YtojfcdjgcgnajaaGreatGShH2
import Derived.Test.YtojfcdjgcgnajaaGreatGCM
namespace Go.Proofs.YtojfcdjgcgnajaaGreat.Sha
open Go.RowKit Go.Shelf
set_option linter.unusedSimpArgs false
set_option linter.unusedVariables false
abbrev has0 : Nat → Value := has HH (fun _ => 0) 0
set_option maxRecDepth 100000 in
set_option maxHeartbeats 1000000 in
theorem new_any (w : World) : Calls Tryz.prog 54 #[] w fun e w' => e = .returned (.pointer (some ⟨w.heap.size + 1, 0, none⟩)) ∧ w' = (w.alloc (.cells (vec 8 (lan HH)) 111)).alloc (.cells (vec 137 has0) 134) := by
 go_enter Tryz.func54, Tryz.ntmps54
 go_wp2_with (first | (go_at_call 76; refine (firstState_any _).mono ?_; rintro e w' ⟨rfl, hs⟩; obtain rfl := hs.symm) | (refine wpList_build rfl 134 _ rfl (by kernel_rfl) ?_; generalize hG : (Program.built _ _ _).getD #[] = G; obtain rfl : G = vec 137 has0 := by rw [← hG]; kernel_rfl))
 clear hG; go_ret; exact ⟨rfl, rfl⟩
theorem has_new (w : World) (msg : Nat → BitVec 8) : HasIn ((w.alloc (.cells (vec 8 (lan HH)) 111)).alloc (.cells (vec 137 has0) 134)) (w.heap.size + 1) msg 0 :=
 ⟨fun _ => 0, heap_row (heap2of2 _ _ _), fun i hi => absurd hi (by omega)⟩
def Bytes (w : World) (ao : Option Addr) (len cap : Nat) (m : Nat → BitVec 8) : Prop :=
 ∃ bb off, (0 < len → ao = some ⟨bb, off, none⟩) ∧ (∀ j, j < len → w.cell? ⟨bb, off + j, none⟩ = some (.int .u8 (I8 (m j)))) ∧ len ≤ cap ∧ cap ≤ 9223372036854775807 ∧ len ≤ 140737488351232
theorem Bytes.below {w w' : World} {ao : Option Addr} {len cap : Nat} {m : Nat → BitVec 8} (h : Bytes w ao len cap m) (hb : Below w.heap.size w w') : Bytes w' ao len cap m := by
 obtain ⟨bb, off, h1, h2, h3⟩ := h; exact ⟨bb, off, h1, fun j hj => (hb.cell (p := ⟨bb, off + j, none⟩) (block_lt_of_cell (h2 j hj))).trans (h2 j hj), h3⟩
end Go.Proofs.YtojfcdjgcgnajaaGreat.Sha
namespace Go.Proofs.YtojfcdjgcgnajaaGreat.Sha
open Go.RowKit Go.Shelf
set_option linter.unusedSimpArgs false
set_option linter.unusedVariables false
structure PartsH (W : World) (lb L : Nat) (ao : Nat → Option Addr) (ln cp tot : Nat → Nat) (msg : Nat → BitVec 8) : Prop where
 cell : ∀ i, i < L → W.cell? ⟨lb, i, none⟩ = some (.slice (ao i) (ln i) (cp i))
 byt : ∀ i, i < L → Bytes W (ao i) (ln i) (cp i) (fun j => msg (tot i + j))
 t0 : tot 0 = 0
 ts : ∀ i, i < L → tot (i + 1) = tot i + ln i
 tl : ∀ i, i ≤ L → tot i < 2305843009213693952
def nat9 : Value → Nat
 | .int _ i => i.toNat
 | _ => 0
set_option maxRecDepth 100000 in
set_option maxHeartbeats 4000000 in
theorem hash_any (lb L C : Nat) (ao : Nat → Option Addr) (ln cp tot : Nat → Nat) (msg : Nat → BitVec 8) (W : World) (hp : PartsH W lb L ao ln cp tot msg) (hL : L < 1000) (hC : L ≤ C) (hC2 : C ≤ 9223372036854775807) :
 Calls Tryz.prog 31 #[.slice (some ⟨lb, 0, none⟩) L C] W fun e w' => e = .returned (.agg (vec 64 (byt (digest msg (tot L))))) ∧ Below W.heap.size W w' := by
 have HP : Hid (PartsH W lb L ao ln cp tot msg) := hp; clear hp; have hz := (zero_of_info zero23).1; go_enter Tryz.func31, Tryz.ntmps31; go_wp2_with (first | (go_at_call 54; refine (new_any _).mono ?_; rintro e w1 ⟨rfl, rfl⟩)); obtain ⟨W1, hW⟩ : ∃ W1, ((W.alloc (.cells (vec 64 (Sha.byt fun _ => 0#8)) 39)).alloc (.cells (vec 8 (lan HH)) 111)).alloc (.cells (vec 137 has0) 134) = W1 := ⟨_, rfl⟩
 have hWb : Below W.heap.size W W1 := by rw [← hW]; go_grown
 have hWh : HasIn W1 (W.heap.size + 2) msg 0 := by
  rw [← hW]; have := has_new (W.alloc (.cells (vec 64 (Sha.byt fun _ => 0#8)) 39)) msg; simpa using this
 have hW0 : W1.rowIs W.heap.size 39 64 (Sha.byt fun _ => 0#8) := by
  rw [← hW]; exact heap_row (heap1of3 _ _ _ _)
 rw [hW]; clear hW hz; go_loopw [9] (fun i wr => ∃ k : Nat, k ≤ L ∧ i = .int .i64 (k : Int) ∧ Hid (wr.rowIs W.heap.size 39 64 (Sha.byt fun _ => 0#8) ∧ HasIn wr (W.heap.size + 2) msg (tot k) ∧ Below W.heap.size W wr)) (fun i _ => L - nat9 i)
 case atStart => exact ⟨0, by omega, rfl, hW0, by rw [HP.out.t0]; exact hWh, hWb⟩
 case round =>
  clear hW0 hWh hWb; obtain ⟨k, hk, rfl, hin⟩ := hrel; by_cases hlt : k < L
  · have hc := HP.out.cell k hlt
    have hcw : wr.cell? ⟨lb, k, none⟩ = some (.slice (ao k) (ln k) (cp k)) := (hin.out.2.2.cell (p := ⟨lb, k, none⟩) (block_lt_of_cell hc)).trans hc; have hclt : lb < W.heap.size := block_lt_of_cell hc; clear hc; have hd : decide ((k : Int) < (L : Int)) = true := by simp; omega
    go_wp2_with fail
    obtain ⟨bb, off, b1, b2, b3, b4, b5⟩ := HP.out.byt k hlt; have htk := HP.out.tl (k + 1) (by omega); rw [HP.out.ts k hlt] at htk; have hbb : 0 < ln k → bb < W.heap.size := fun h => block_lt_of_cell (b2 0 h)
    refine (write_any (W.heap.size + 2) (tot k) (ln k) (cp k) bb off (ao k) msg wr hin.out.2.1 b1 (fun j hj => (hin.out.2.2.cell (p := ⟨bb, off + j, none⟩) (block_lt_of_cell (b2 j hj))).trans (b2 j hj)) (fun h => by have := hbb h; omega) b3 b4 b5 htk).mono ?_; rintro e w2 ⟨rfl, hg2, hin2⟩; rw [← HP.out.ts k hlt] at hin2; have H2 : Hid (w2.rowIs W.heap.size 39 64 (Sha.byt fun _ => 0#8) ∧ HasIn w2 (W.heap.size + 2) msg (tot (k + 1)) ∧ Below W.heap.size W w2) := ⟨hin.out.1.of_block (hg2.block _ hin.out.1.lt (by simp)), hin2, hin.out.2.2.grown hg2 hin.out.2.2.size (fun k e => by cases e; omega)⟩
    clear hin hg2 hin2 b1 b2 b3 b4 b5 hbb hcw htk hclt; go_wp2; go_roundw
    case rel => exact ⟨k + 1, by omega, by go_num, H2.out⟩
    case measure => simp [nat9]; omega
  · have hd : decide ((k : Int) < (L : Int)) = false := by simp; omega
    have hkl : Hid (k = L) := (by omega : k = L)
    go_wp2_with fail
    refine (hsum_any (W.heap.size + 2) (tot k) msg wr (HP.out.tl k hk) hin.out.2.1).mono ?_; rintro e W3 ⟨rfl, hb3⟩; have hr3 : W3.rowIs W.heap.size 39 64 (Sha.byt fun _ => 0#8) := hin.out.1.of_block (hb3.block _ hin.out.1.lt); have hB3 : Hid (Below W.heap.size W W3) := hin.out.2.2.trans (hb3.mono hin.out.2.2.size); clear hin hb3; rw [hkl.out]; obtain ⟨D, hD⟩ : ∃ D, D = digest msg (tot L) := ⟨_, rfl⟩
    rw [← hD]; have HD : Hid (D = digest msg (tot L)) := hD; clear hD; go_wp2_with (refine wpList_store_row rfl 39 _ _ rfl W.heap.size _ rfl rfl 39 _ (row_heap hr3) (info23v _) (by simp) (one_byt _ _) ?_); refine bodyPost_ret (results_cell_row rfl _ _ _ _ _ _ _ rfl (setRow_heap _ _ _ _ _ _ (row_heap hr3)) Tryz.underlying39 rfl (info23v _)) rfl ⟨by rw [HD.out], ?_⟩; exact ((Only.refl _ _).setRow _).below hB3.out (Nat.le_refl _)
end Go.Proofs.YtojfcdjgcgnajaaGreat.Sha
namespace Go.Proofs.YtojfcdjgcgnajaaGreat
open Go.RowKit
set_option linter.unusedSimpArgs false
set_option linter.unusedVariables false
def dg (D : Nat → BitVec 8) : Nat → Int := fun j => Sha.I8 (D j)
theorem dg_bd (D : Nat → BitVec 8) (j : Nat) : 0 ≤ dg D j ∧ dg D j < 256 := Sha.I8_bd _
theorem byt_bI (D : Nat → BitVec 8) : Sha.byt D = bI (dg D) := rfl
def hnum (D : Nat → BitVec 8) : Int := valB (lsI (dg D) 64)
theorem Sha.PartsH.below {W W' : World} {lb L : Nat} {ao : Nat → Option Addr} {ln cp tot : Nat → Nat} {msg : Nat → BitVec 8} (h : Sha.PartsH W lb L ao ln cp tot msg) (hb : Below W.heap.size W W') : Sha.PartsH W' lb L ao ln cp tot msg :=
 ⟨fun i hi => (hb.cell (p := ⟨lb, i, none⟩) (block_lt_of_cell (h.cell i hi))).trans (h.cell i hi), fun i hi => (h.byt i hi).below hb, h.t0, h.ts, h.tl⟩
set_option maxRecDepth 100000 in
set_option maxHeartbeats 2000000 in
theorem number_h (lb L C : Nat) (ao : Nat → Option Addr) (ln cp tot : Nat → Nat) (msg : Nat → BitVec 8) (W : World) (hp : Sha.PartsH W lb L ao ln cp tot msg) (hL : L < 1000) (hC : L ≤ C) (hC2 : C ≤ 9223372036854775807) :
 Calls Tryz.prog 19 #[.slice (some ⟨lb, 0, none⟩) L C] W fun e w' => ∃ v, e = .returned v ∧ IsW v (hnum (Sha.digest msg (tot L)) % LL) ∧ Below W.heap.size W w' := by
 have V0 : Hid (VarW (W.alloc (.cells (C4 0 0 0 0) 51)) W.heap.size (W4 0 0 0 0) ∧ Below W.heap.size W (W.alloc (.cells (C4 0 0 0 0) 51))) := ⟨VarW.new W, by go_grown⟩
 have HP : Hid (Sha.PartsH (W.alloc (.cells (C4 0 0 0 0) 51)) lb L ao ln cp tot msg) := hp.below V0.out.2; clear hp; go_enter Tryz.func19, Tryz.ntmps19; go_wp2_with fail; generalize W.alloc (.cells (C4 0 0 0 0) 51) = W0 at V0 HP ⊢; refine Calls.mono (Sha.hash_any lb L C ao ln cp tot msg W0 HP.out hL hC hC2) ?_; rintro e w1 ⟨rfl, b1⟩; obtain ⟨D, hD⟩ : ∃ D, D = Sha.digest msg (tot L) := ⟨_, rfl⟩
 rw [← hD]; have HDD : Hid (D = Sha.digest msg (tot L)) := hD; clear hD; rw [byt_bI]; have V1 : Hid (VarW w1 W.heap.size (W4 0 0 0 0) ∧ Below W.heap.size W w1) := ⟨V0.out.1.kept b1, V0.out.2.trans (b1.mono V0.out.2.size)⟩
 clear V0 HP b1; have hz := (zero_of_info Sha.zero23).1; go_wp2_with (refine wpList_store_row rfl 39 _ _ rfl w1.heap.size (vec 64 (bI (dg D))) rfl rfl 39 _ (heap_alloc_new _ _) (Sha.info23v _) (by simp) (one_bI _ _) ?_; rw [World.setRow_alloc_new]); have hr : (w1.alloc (.cells (vec 64 (bI (dg D))) 39)).rowIs w1.heap.size 39 64 (bI (dg D)) := heap_row (heap_alloc_new _ _); have V2 : Hid (VarW (w1.alloc (.cells (vec 64 (bI (dg D))) 39)) W.heap.size (W4 0 0 0 0) ∧ Below W.heap.size W (w1.alloc (.cells (vec 64 (bI (dg D))) 39))) := ⟨V1.out.1.old _, V1.out.2.alloc V1.out.2.size _⟩
 clear V1 hz; generalize w1.alloc (.cells (vec 64 (bI (dg D))) 39) = w2 at hr V2 ⊢; have HD : Hid _ := isD_bI hr 0 64 64 (by decide) (by decide); have hs := arr53 w1.heap.size; go_wp2_with fail; clear hs; refine Calls.mono (lfold_any w2 _ _ HD.out (lsI_byt fun j _ => dg_bd D _) (by rw [lsI_len]; decide)) ?_; rintro e w3 ⟨u, rfl, hu, b3⟩; rw [show lfV (lsI (fun j => dg D (0 + j)) 64) = hnum D % LL from by unfold lfV hnum; rw [lsI_len]; simp only [Nat.zero_add]; rfl] at hu; have HU : Hid (IsW u (hnum D % LL)) := hu; have V3 : Hid (VarW w3 W.heap.size (W4 0 0 0 0) ∧ Below W.heap.size W w3) := ⟨V2.out.1.kept b3, V2.out.2.trans (b3.mono V2.out.2.size)⟩
 clear hu V2 b3 hr HD; have V4 : Hid (VarW ((w3.alloc (.cells (C4 0 0 0 0) 51)).setRow w3.heap.size (cw u)) w3.heap.size u ∧ VarW ((w3.alloc (.cells (C4 0 0 0 0) 51)).setRow w3.heap.size (cw u)) W.heap.size (W4 0 0 0 0) ∧ Below W.heap.size W ((w3.alloc (.cells (C4 0 0 0 0) 51)).setRow w3.heap.size (cw u))) :=
  ⟨(VarW.new w3).put HU.out, (V3.out.1.old _).other (Nat.ne_of_lt V3.out.1.lt) _, below_setRow (V3.out.2.alloc V3.out.2.size _) V3.out.2.size _⟩
 have hn := VarW.new w3; go_wp2_with (first | (refine wpList_store_varW rfl _ _ rfl w3.heap.size rfl rfl HU.out hn ?_) | (refine wpList_load_varW rfl _ rfl w3.heap.size rfl V4.out.1 ?_) | (refine wpList_store_varW (u := u) rfl _ _ rfl W.heap.size rfl rfl HU.out V4.out.2.1 ?_)); clear hn V3; generalize (w3.alloc (.cells (C4 0 0 0 0) 51)).setRow w3.heap.size (cw u) = w4 at V4 ⊢; have hl := (V4.out.2.1.put HU.out).load; exact bodyPost_ret (v := u) (by simp [results, Tryz.results19, asAddr, Act.put, hl]) rfl ⟨u, rfl, by rw [← HDD.out]; exact HU.out, below_setRow V4.out.2.2 (Nat.le_refl _) _⟩
end Go.Proofs.YtojfcdjgcgnajaaGreat
namespace Go.Proofs.YtojfcdjgcgnajaaGreat
open Go.RowKit
set_option linter.unusedSimpArgs false
set_option linter.unusedVariables false
theorem info41v (f : Nat → Value) : (Tryz.prog.info? 30).map (·.size) = some (vec 32 f).size := by rw [size_vec]; kernel_rfl
theorem zero41 : (Tryz.prog.info? 30).map (fun i => (i.zero, i.size)) = some (some (.agg (vec 32 (kb 0))), 32) := by kernel_rfl
theorem one_kb (n : Nat) (x : Int) : (vec n (kb x)).all (·.oneCell') = true := by
 rw [Array.all_eq_true]; intro i hi; simp [vec, kb, Value.oneCell']
theorem rowOld {w : World} {b : Nat} {t : TypeId} {n : Nat} {f : Nat → Value} (h : w.rowIs b t n f) (o : Obj) : (w.alloc o).rowIs b t n f := h.of_block (heap_alloc_old _ _ h.lt)
set_option maxRecDepth 100000 in
set_option maxHeartbeats 2000000 in
theorem encode_any {p0 p1 : Value} {x y : Int} (h0 : IsW p0 x) (h1 : IsW p1 y) (odd : Bool) (hodd : (x % PP) % 2 = (if odd then 1 else 0)) (w : World) : Calls Tryz.prog 33 #[.agg (catW [p0, p1])] w fun e w' => e = .returned (keyV (y % PP + (if odd then H255 else 0))) ∧ Below w.heap.size w w' := by
 have A0 : Hid (IsW p0 x) := h0; have A1 : Hid (IsW p1 y) := h1; have V0 : Hid (VarS (((w.alloc (.cells (catW [p0, p1]) 77)).alloc (.cells (vec 32 (kb 0)) 30)).alloc (.cells (vec 32 (kb 0)) 30)) w.heap.size 77 [p0, p1] ∧ (((w.alloc (.cells (catW [p0, p1]) 77)).alloc (.cells (vec 32 (kb 0)) 30)).alloc (.cells (vec 32 (kb 0)) 30)).rowIs (w.heap.size + 1) 30 32 (kb 0) ∧ (((w.alloc (.cells (catW [p0, p1]) 77)).alloc (.cells (vec 32 (kb 0)) 30)).alloc (.cells (vec 32 (kb 0)) 30)).rowIs (w.heap.size + 2) 30 32 (kb 0) ∧ Below w.heap.size w (((w.alloc (.cells (catW [p0, p1]) 77)).alloc (.cells (vec 32 (kb 0)) 30)).alloc (.cells (vec 32 (kb 0)) 30))) :=
  ⟨⟨words2 h0 h1, heap_old _ _ _ _ (heap_old _ _ _ _ (heap_alloc_new _ _))⟩, heap_row (heap_old _ _ _ _ (heapAt _ _ _ (by simp))), heap_row (heapAt _ _ _ (by simp)), by go_grown⟩
 clear h0 h1; have hz := (zero_of_info zero41).1; have HO : Hid _ := hodd; clear hodd; go_enter Tryz.func33, Tryz.ntmps33; go_wp2; generalize (((w.alloc (.cells (catW [p0, p1]) 77)).alloc (.cells (vec 32 (kb 0)) 30)).alloc (.cells (vec 32 (kb 0)) 30)) = W0 at V0 ⊢; clear hz; refine wp_region_held_drew (S := fun w' => VarS w' w.heap.size 77 [p0, p1]) (by kernel_rfl) V0.out.1.drew (fun hHeld => ?_); refine tk 0 (.slice (some ⟨w.heap.size + 2, 0, none⟩) 32 32) (fun w9 hSw => ?_) hHeld ?_
 · have := arr41 (w.heap.size + 2) w9; go_simp
 simp only [sm]; refine tk 1 (.pointer (some ⟨w.heap.size, 4, none⟩)) (fun w9 hSw => ?_) hHeld ?_
 · go_simp
 simp only [sm]; refine tk 2 (p1) (fun w9 hSw => ?_) hHeld ?_
 · exact run_load_exec 51 _ rfl _ rfl (hSw.part 1 rfl)
 simp only [sm]; refine rd 3 (fun K hK => ?_); go_simp; refine (fbytes_any A1.out _).mono ?_; rintro e w1 ⟨b, rfl, hbl, hrow, b1⟩; have V1 : Hid (VarS w1 w.heap.size 77 [p0, p1] ∧ w1.rowIs (w.heap.size + 1) 30 32 (kb 0) ∧ w1.rowIs (w.heap.size + 2) 30 32 (kb 0) ∧ Below w.heap.size w w1) := ⟨hHeld.kept b1, V0.out.2.1.of_block (b1.block _ V0.out.2.1.lt), V0.out.2.2.1.of_block (b1.block _ V0.out.2.2.1.lt), V0.out.2.2.2.drew.trans (b1.mono V0.out.2.2.2.size)⟩
 have hbne : w.heap.size + 2 < b := Nat.lt_of_lt_of_le V0.out.2.2.1.lt hbl; clear V0 b1 hbl; go_wp2_with fail; refine hK.out _ _ V1.out.1 (fun hHeld => ?_); clear hK K; try simp only [sm]
 refine rd 4 (fun K hK => ?_); refine Sha.step_copy_vec rfl _ _ 28 28 rfl 5 Tryz.underlying28 (by kernel_rfl) (w.heap.size + 2) 0 32 30 _ V1.out.2.2.1 32 32 32 32 32 ⟨b, 0, none⟩ rfl rfl rfl (kb (y % PP)) (fun j hj => ?_) (fun j _ => rfl) (by decide) ?_
 · have := hrow.cell (i := j) hj
   have hadd : (⟨b, 0, none⟩ : Addr).add j = ⟨b, j, none⟩ := by unfold Addr.add; split <;> simp_all
   rw [hadd]; exact this
 intro w2 hr2 ho2; have hr2' : w2.rowIs (w.heap.size + 2) 30 32 (kb (y % PP)) := hr2.congr (fun i hi => by rw [if_pos ⟨by omega, by omega⟩, Nat.sub_zero]); have V2 : Hid (VarS w2 w.heap.size 77 [p0, p1] ∧ w2.rowIs (w.heap.size + 1) 30 32 (kb 0) ∧ w2.rowIs (w.heap.size + 2) 30 32 (kb (y % PP)) ∧ Below w.heap.size w w2) := ⟨⟨V1.out.1.1, (ho2.block _ (by omega)).trans V1.out.1.2⟩, ho2.row (by omega) V1.out.2.1, hr2', ho2.below V1.out.2.2.2 (by omega)⟩
 refine hK.out _ _ V2.out.1 (fun hHeld => ?_); clear hK K hr2 hr2' ho2 V1 hrow hbne hHeld; try simp only [sm]
 refine wpAnyH_done (by kernel_rfl) ?_ _; go_wp2_with (first | (refine wpList_load_run rfl 51 _ rfl _ rfl (V2.out.1.part 0 rfl) ?_)); refine (fbytes_any A0.out _).mono ?_; rintro e w3 ⟨b', rfl, hbl, hrow, b3⟩; have V3 : Hid (w3.rowIs (w.heap.size + 1) 30 32 (kb 0) ∧ w3.rowIs (w.heap.size + 2) 30 32 (kb (y % PP)) ∧ Below w.heap.size w w3) := ⟨V2.out.2.1.of_block (b3.block _ V2.out.2.1.lt), V2.out.2.2.1.of_block (b3.block _ V2.out.2.2.1.lt), V2.out.2.2.2.trans (b3.mono V2.out.2.2.2.size)⟩
 clear V2 b3 hbl A0 A1; have hym := mod_PP y; have hyH : y % PP < H255 := Int.lt_trans hym.2 (by decide); obtain ⟨Y, hY⟩ : ∃ Y, Y = y % PP := ⟨_, rfl⟩
 rw [← hY] at V3 hym hyH; have HYY : Hid (Y = y % PP) := hY; clear hY; have hc0 : w3.cell? ⟨b', 0, none⟩ = some (.int .u8 ((x % PP) % 256)) := by
  have := hrow.cell (i := 0) (by decide)
  simpa using this
 have hxm := mod_PP x; have hand := u8_and1 ((x % PP) % 256) (by omega) (by omega); have hand2 : (x % PP) % 256 % 2 = (if odd then 1 else 0) := by rw [← HO.out]; omega
 have htop := kb_top hym.1 hyH; have hc31 : w3.cell? ⟨w.heap.size + 2, 31, none⟩ = some (.int .u8 (Y / 256 ^ 31)) := by
  have := V3.out.2.1.cell (i := 31) (by decide)
  rwa [htop.1] at this
 have hfz : w3.frozen? ⟨w.heap.size + 2, 31, none⟩ = false := V3.out.2.1.frozen _; have hor := u8_or128 (Y / 256 ^ 31) htop.2.2.1 (by omega); rw [Int.emod_eq_of_lt htop.2.2.1 htop.2.2.2] at hor; have HY : Hid (0 ≤ Y ∧ Y < H255) := ⟨hym.1, hyH⟩
 clear hym hyH htop hrow HO hxm; generalize (x % PP) % 256 = xb at *; cases odd
 · rw [hand2] at hand
   clear hand2; go_wp2_with (first | (refine wpList_load_row rfl 30 _ rfl (w.heap.size + 2) rfl 30 _ (0, 0) _ (row_heap V3.out.2.1) Tryz.underlying30 rfl (info41v _) ?_) | (refine wpList_store_row rfl 30 _ _ rfl (w.heap.size + 1) _ rfl rfl 30 _ (row_heap V3.out.1) (info41v _) (by simp) (one_kb _ _) ?_)); refine bodyPost_ret (results_cell_row rfl _ _ _ _ _ _ _ rfl (setRow_heap _ _ _ _ _ _ (row_heap V3.out.1)) Tryz.underlying30 rfl (info41v _)) rfl ⟨?_, below_setRow V3.out.2.2 (by omega) _⟩; rw [← HYY.out]; simp [keyV]
 · rw [hand2] at hand
   clear hand2; have V4 : Hid ((w3.setCell ⟨w.heap.size + 2, 31, none⟩ (.int .u8 (Y / 256 ^ 31 + 128))).rowIs (w.heap.size + 1) 30 32 (kb 0) ∧ (w3.setCell ⟨w.heap.size + 2, 31, none⟩ (.int .u8 (Y / 256 ^ 31 + 128))).rowIs (w.heap.size + 2) 30 32 (kb (Y + H255)) ∧ Below w.heap.size w (w3.setCell ⟨w.heap.size + 2, 31, none⟩ (.int .u8 (Y / 256 ^ 31 + 128)))) :=
    ⟨V3.out.1.of_block (heap_setCell_other _ _ _ _ (by show w.heap.size + 1 ≠ w.heap.size + 2; omega)), kb_set HY.out.1 HY.out.2 V3.out.2.1, V3.out.2.2.setCell (by show w.heap.size ≤ w.heap.size + 2; omega) _⟩
   clear V3; generalize Y / 256 ^ 31 = q at *; go_wp2_with (first | (refine wpList_load_row rfl 30 _ rfl (w.heap.size + 2) rfl 30 _ (0, 0) _ (row_heap V4.out.2.1) Tryz.underlying30 rfl (info41v _) ?_) | (refine wpList_store_row rfl 30 _ _ rfl (w.heap.size + 1) _ rfl rfl 30 _ (row_heap V4.out.1) (info41v _) (by simp) (one_kb _ _) ?_)); refine bodyPost_ret (results_cell_row rfl _ _ _ _ _ _ _ rfl (setRow_heap _ _ _ _ _ _ (row_heap V4.out.1)) Tryz.underlying30 rfl (info41v _)) rfl ⟨?_, below_setRow V4.out.2.2 (by omega) _⟩; rw [← HYY.out]; simp [keyV]
theorem g_encode {p0 p1 : Value} {a b : K} (h0 : IsF p0 a) (h1 : IsF p1 b) (w : World) : Calls Tryz.prog 33 #[.agg (catW [p0, p1])] w fun e w' => e = .returned (keyV (encN a b)) ∧ Below w.heap.size w w' := by
 have ha : (a.val : Int) % PP = (a.val : Int) := by have := toF_val (a.val : Int); rw [val_toF] at this; exact this.symm
 have hb : (b.val : Int) % PP = (b.val : Int) := by have := toF_val (b.val : Int); rw [val_toF] at this; exact this.symm
 refine (encode_any h0 h1 (decide ((a.val : Int) % 2 = 1)) (by rw [ha]; by_cases h : (a.val : Int) % 2 = 1 <;> simp [h]; omega) w).mono ?_; rintro e w' ⟨rfl, hB⟩; refine ⟨?_, hB⟩; rw [hb]; unfold encN; simp only [decide_eq_true_eq]
end Go.Proofs.YtojfcdjgcgnajaaGreat
