/- (*Hasher).Sum. -/
import Derived.Test.YtojfcdjgcgnajaaGreatGCM
import Derived.Test.YtojfcdjgcgnajaaGreatShH7
namespace Go.Proofs.YtojfcdjgcgnajaaGreat.Sha
open Go.RowKit Go.Shelf
set_option linter.unusedSimpArgs false
set_option linter.unusedVariables false
def lastB (msg : Nat → BitVec 8) (n : Nat) (i : Nat) : BitVec 8 := if i < n % 128 then msg (128 * (n / 128) + i) else if i = n % 128 then 128#8 else 0#8
def digest (msg : Nat → BitVec 8) (n : Nat) : Nat → BitVec 8 :=
 if n % 128 < 112 then outb (beh KK (stAfter msg (n / 128)) (putTo (lastB msg n) (BitVec.ofNat 64 n) 8))
 else outb (beh KK (beh KK (stAfter msg (n / 128)) (lastB msg n)) (putTo (fun _ => 0#8) (BitVec.ofNat 64 n) 8))
theorem digest_small (msg : Nat → BitVec 8) (n : Nat) (h : n % 128 < 112) : digest msg n = outb (beh KK (stAfter msg (n / 128)) (putTo (lastB msg n) (BitVec.ofNat 64 n) 8)) := by unfold digest; rw [if_pos h]
theorem digest_big (msg : Nat → BitVec 8) (n : Nat) (h : ¬ n % 128 < 112) : digest msg n = outb (beh KK (beh KK (stAfter msg (n / 128)) (lastB msg n)) (putTo (fun _ => 0#8) (BitVec.ofNat 64 n) 8)) := by unfold digest; rw [if_neg h]
theorem part_upto (hb r : Nat) (hr : r < 128) (w : World) : (Instr.sliceAt 132 (.pointer (some ⟨hb, 8, none⟩)) none (some (.int .i64 (r : Int))) none).run Tryz.prog w = .ok (.slice (some ⟨hb, 8, none⟩) r 128) w := by
 have ha : Tryz.prog.arrayLen 132 = 128 := by kernel_rfl
 have he : Tryz.prog.elem 132 = 5 := by kernel_rfl
 rw [run_sliceAt_array_h w 132 ⟨hb, 8, none⟩ (by kernel_rfl) .i64 (r : Int) (by omega) (by rw [ha]; omega), he, Tryz.sizeOf5, ha]; simp only [Result.andThen, slicedAt, Int.toNat_natCast]; simp [Addr.add]
theorem part_all (b : Nat) (w : World) : (Instr.sliceAt 132 (.pointer (some ⟨b, 0, none⟩)) none none none).run Tryz.prog w = .ok (.slice (some ⟨b, 0, none⟩) 128 128) w := by
 have ha : Tryz.prog.arrayLen 132 = 128 := by kernel_rfl
 have he : Tryz.prog.elem 132 = 5 := by kernel_rfl
 rw [run_sliceAt_array_all w 132 ⟨b, 0, none⟩ (by kernel_rfl), he, Tryz.sizeOf5, ha]; simp [Result.andThen, slicedAt, Addr.add]
def HsIn (hb n q : Nat) (msg p : Nat → BitVec 8) (S : Nat → BitVec 64) (l : Nat → BitVec 8) (w W : World) : Prop :=
 W.rowIs hb 134 137 (has (stAfter msg q) p n) ∧ W.rowIs w.heap.size 39 64 (byt fun _ => 0#8) ∧ W.rowIs (w.heap.size + 1) 111 8 (lan S) ∧ W.rowIs (w.heap.size + 2) 132 128 (byt l) ∧ Below w.heap.size w W
theorem last_row {w2 : World} {g n q r : Nat} {msg p : Nat → BitVec 8} (hr : r = n % 128) (hq : q = n / 128) (hp : ∀ i, i < r → p i = msg (128 * q + i)) (h : w2.rowIs g 132 128 (fun j => if 0 ≤ j ∧ j < 0 + r then byt p (j - 0) else byt (fun _ => 0#8) j)) :
 (w2.setCell ⟨g, r, none⟩ (.int .u8 128)).rowIs g 132 128 (byt (lastB msg n)) := by
 refine (h.set _ _).congr ?_; intro i hi; have h1' : Value.int .u8 128 = .int .u8 (I8 128#8) := rfl; simp only [byt, lastB, ← hr, ← hq]; by_cases e : i = r
 · subst e; rw [if_pos rfl, if_neg (by omega), if_pos rfl]; exact h1'
 · rw [if_neg e]
   by_cases e3 : i < r
   · rw [if_pos ⟨by omega, by omega⟩, if_pos e3, Nat.sub_zero, hp i e3]
   · rw [if_neg (by omega), if_neg e3, if_neg e]
set_option maxRecDepth 100000 in
set_option maxHeartbeats 2000000 in
theorem hsum_any (hb n : Nat) (msg : Nat → BitVec 8) (w : World) (hn61 : n < 2305843009213693952) (hin : HasIn w hb msg n) :
 Calls Tryz.prog 56 #[.pointer (some ⟨hb, 0, none⟩)] w fun e w' => e = .returned (.agg (vec 64 (byt (digest msg n)))) ∧ Below w.heap.size w w' := by
 obtain ⟨p, hrow, hpp⟩ := hin; obtain ⟨r, hr⟩ : ∃ r, r = n % 128 := ⟨_, rfl⟩
 obtain ⟨q, hq⟩ : ∃ q, q = n / 128 := ⟨_, rfl⟩
 rw [← hq] at hrow; rw [← hr, ← hq] at hpp; have hr1 : r < 128 := by omega
 have hlt : hb < w.heap.size := hrow.lt; have HI : Hid ((n : Int) = I (BitVec.ofNat 64 n)) := by show (n : Int) = ((BitVec.ofNat 64 n).toNat : Int); rw [BitVec.toNat_ofNat]; omega
 have HR : Hid (r = n % 128) := hr; have H0 : Hid ((∀ i, i < r → p i = msg (128 * q + i)) ∧ r = n % 128 ∧ q = n / 128) := ⟨hpp, hr, hq⟩
 have HW : Hid (w.rowIs hb 134 137 (has (stAfter msg q) p n)) := hrow; clear hrow hpp hr hq; have hz := (zero_of_info zero23).1; have hz1 := (zero_of_info zero38).1; have hz2 := (zero_of_info zero50).1; have hsl := part_upto hb r hr1; have hsa := part_all (w.heap.size + 2); go_enter Tryz.func56, Tryz.ntmps56; go_wp2; have H1 : Hid (Below w.heap.size w (w.alloc (.cells (vec 64 (byt fun _ => 0#8)) 39)) ∧ (w.alloc (.cells (vec 64 (byt fun _ => 0#8)) 39)).rowIs hb 134 137 (has (stAfter msg q) p n) ∧ (w.alloc (.cells (vec 64 (byt fun _ => 0#8)) 39)).rowIs w.heap.size 39 64 (byt fun _ => 0#8)) := ⟨by go_grown, HW.out.alloc _, heap_row (heap_alloc_new _ _)⟩
 have hWs : (w.alloc (.cells (vec 64 (byt fun _ => 0#8)) 39)).heap.size = w.heap.size + 1 := by simp
 generalize w.alloc (.cells (vec 64 (byt fun _ => 0#8)) 39) = W at H1 hWs ⊢; refine wp_region_held_drew (S := fun w' => w'.rowIs hb 134 137 (has (stAfter msg q) p n)) (by kernel_rfl) (H1.out.2.1.drew) (fun hHeld => ?_); refine tk 0 (.pointer (some ⟨hb, 0, none⟩)) (fun w9 hSw => ?_) hHeld ?_
 · go_simp
 simp only [sm]; refine tk 1 (.pointer (some ⟨hb, 0, none⟩)) (fun w9 hSw => ?_) hHeld ?_
 · go_simp
 simp only [sm]; refine tk 2 (.pointer (some ⟨hb, 0, none⟩)) (fun w9 hSw => ?_) hHeld ?_
 · go_simp
 simp only [sm]; refine tk 4 (.pointer (some ⟨hb, 0, none⟩)) (fun w9 hSw => ?_) hHeld ?_
 · go_simp
 simp only [sm]; refine tk 3 (.agg (vec 8 (lan (stAfter msg q)))) (fun w9 hSw => ?_) hHeld ?_
 · exact run_load_exec 111 _ rfl _ rfl (run_loadVar_mid w9 hb 0 8 111 22 _ (fun j hj => by rw [Nat.zero_add]; exact (hSw.cell (i := j) (by omega)).trans (by rw [has_state hj])) Tryz.underlying111 (by kernel_rfl))
 simp only [sm]; refine wpAnyH_ready (rs := [5, 6]) (by kernel_rfl) (by simp) ?_; refine AllReadyH.cons rfl (fun K hK => ?_) (AllReadyH.cons rfl (fun K hK => ?_) AllReadyH.nil)
 focus
  go_simp; refine (held_any hb n (by omega) _ (by rw [hHeld.cell (by decide), has_held])).mono ?_
  rintro e w' ⟨rfl, hs⟩; obtain rfl := hs.symm; rw [← HR.out]; go_wp2_with fail; refine hK.out _ _ ?_ (fun hHeld => ?_)
  · exact hHeld
  clear hK K; try simp only [sm]
  refine rd 6 (fun K hK => ?_); go_simp; refine hK.out _ _ ?_ (fun hHeld => ?_)
  · exact hHeld.alloc _
  clear hK K; try simp only [sm]
 rotate_left
 focus
  go_simp; refine hK.out _ _ ?_ (fun hHeld => ?_)
  · exact hHeld.alloc _
  clear hK K; try simp only [sm]
  refine rd 5 (fun K hK => ?_); go_simp; refine (held_any hb n (by omega) _ (by rw [hHeld.cell (by decide), has_held])).mono ?_; rintro e w' ⟨rfl, hs⟩; obtain rfl := hs.symm; rw [← HR.out]; go_wp2_with fail; refine hK.out _ _ ?_ (fun hHeld => ?_)
  · exact hHeld
  clear hK K; try simp only [sm]
 all_goals
  refine rd 7 (fun K hK => ?_); refine step_store_vec (by rfl) 111 _ _ rfl (w.heap.size + 1) 0 8 8 (lan (stAfter msg q)) _ 111 rfl rfl (heap_row (heap_n _ _ _ hWs)) (by decide) (by kernel_rfl) (fun _ _ => rfl) ?_; refine hK.out _ _ ?_ (fun hHeld => ?_)
  · exact hHeld.of_block (setRow_other _ _ _ _ (by omega))
  clear hK K; try simp only [sm]
  refine tk 8 (.int .i64 (r : Int)) (fun w9 hSw => ?_) hHeld ?_
  · go_simp
  simp only [sm]; refine wpAnyH_done (by kernel_rfl) ?_ _; obtain ⟨W2, hW2⟩ : ∃ W2, W2 = ((W.alloc (.cells (vec 8 (lan fun _ => 0#64)) 111)).drew).setRow (w.heap.size + 1) (vec 8 (fun j => if 0 ≤ j ∧ j < 0 + 8 then lan (stAfter msg q) (j - 0) else lan (fun _ => 0#64) j)) := ⟨_, rfl⟩
  have h2a : W2.rowIs (w.heap.size + 1) 111 8 (lan (stAfter msg q)) := by
   rw [hW2]; refine (heap_row (setRow_heap _ _ _ _ _ _ (show (W.alloc (.cells (vec 8 (lan fun _ => 0#64)) 111)).drew.heap[w.heap.size + 1]? = _ from heap_n _ _ _ hWs))).congr ?_; intro i hi; rw [if_pos ⟨by omega, by omega⟩, Nat.sub_zero]
  have h2b : W2.rowIs w.heap.size 39 64 (byt fun _ => 0#8) := by
   rw [hW2]; exact ((H1.out.2.2.alloc _).drew).of_block (setRow_other _ _ _ _ (by omega))
  have h2c : Below w.heap.size w W2 := by
   rw [hW2]; exact ((Only.refl _ _).setRow _).below (Below.drew (Below.alloc H1.out.1 (by omega) _)) (by omega)
  have h2d : W2.rowIs hb 134 137 (has (stAfter msg q) p n) := by rw [hW2]; exact hHeld
  have h2s : W2.heap.size = w.heap.size + 2 := by
   rw [hW2]; simp; omega
  rw [← hW2]; have H2 : Hid ((W2.alloc (.cells (vec 128 (byt fun _ => 0#8)) 132)).rowIs hb 134 137 (has (stAfter msg q) p n) ∧ (W2.alloc (.cells (vec 128 (byt fun _ => 0#8)) 132)).rowIs w.heap.size 39 64 (byt fun _ => 0#8) ∧ (W2.alloc (.cells (vec 128 (byt fun _ => 0#8)) 132)).rowIs (w.heap.size + 1) 111 8 (lan (stAfter msg q)) ∧ (W2.alloc (.cells (vec 128 (byt fun _ => 0#8)) 132)).rowIs (w.heap.size + 2) 132 128 (byt fun _ => 0#8) ∧ Below w.heap.size w (W2.alloc (.cells (vec 128 (byt fun _ => 0#8)) 132))) :=
   ⟨h2d.alloc _, h2b.alloc _, h2a.alloc _, heap_row (heap_n _ _ _ h2s), h2c.alloc (by omega) _⟩
  clear hW2 h2a h2b h2c h2d hHeld hWs H1 HW; go_wp2; clear h2s; generalize W2.alloc (.cells (vec 128 (byt fun _ => 0#8)) 132) = W3 at H2 ⊢; refine wp_region_held_drew (S := fun w' => w'.rowIs hb 134 137 (has (stAfter msg q) p n)) (by kernel_rfl) (H2.out.1.drew) (fun hHeld => ?_); refine tk 0 (.slice (some ⟨w.heap.size + 2, 0, none⟩) 128 128) (fun w9 hSw => ?_) hHeld ?_
  · have a := hsa w9; go_simp
  simp only [sm]; refine tk 1 (.pointer (some ⟨hb, 0, none⟩)) (fun w9 hSw => ?_) hHeld ?_
  · go_simp
  simp only [sm]; refine tk 2 (.pointer (some ⟨hb, 0, none⟩)) (fun w9 hSw => ?_) hHeld ?_
  · go_simp
  simp only [sm]; refine tk 3 (.pointer (some ⟨hb, 8, none⟩)) (fun w9 hSw => ?_) hHeld ?_
  · go_simp
  simp only [sm]; refine tk 4 (.int .i64 (r : Int)) (fun w9 hSw => ?_) hHeld ?_
  · go_simp
  simp only [sm]; refine tk 5 (.slice (some ⟨hb, 8, none⟩) r 128) (fun w9 hSw => ?_) hHeld ?_
  · have a := hsl w9; go_simp
  simp only [sm]; refine rd 6 (fun K hK => ?_); refine step_copy_vec rfl (.tmp 15) (.tmp 20) 28 28 rfl 5 Tryz.underlying28 (by kernel_rfl) (w.heap.size + 2) 0 128 132 _ H2.out.2.2.2.1.drew r _ _ _ _ ⟨hb, 8, none⟩ rfl rfl (Nat.min_eq_left (by omega)).symm (byt p) (fun j hj => ?hsrc) (fun _ _ => rfl) (by omega) ?_
  case hsrc =>
   have e : (⟨hb, 8, none⟩ : Addr).add j = ⟨hb, 8 + j, none⟩ := by unfold Addr.add; simp
   rw [e]; exact (hHeld.cell (i := 8 + j) (by omega)).trans (by rw [has_part (by omega)])
  intro w2 hr2 ho2; refine hK.out _ _ ?_ (fun hHeld => ?_)
  · exact ho2.row (by omega) hHeld
  clear hK K; try simp only [sm]
  refine wpAnyH_done (by kernel_rfl) ?_ _; clear hz hz1 hsl hsa hHeld; have row3 := last_row H0.out.2.1 H0.out.2.2 H0.out.1 hr2; have f3 : w2.frozen? ⟨w.heap.size + 2, r, none⟩ = false := hr2.frozen _; obtain ⟨u3, c3⟩ : ∃ u, w2.cell? ⟨w.heap.size + 2, r, none⟩ = some u := ⟨_, hr2.cell hr1⟩
  have H3 : Hid (HsIn hb n q msg p (stAfter msg q) (lastB msg n) w (w2.setCell ⟨w.heap.size + 2, r, none⟩ (.int .u8 128))) :=
   ⟨(ho2.row (by omega) H2.out.1.drew).setOther (by show hb ≠ w.heap.size + 2; omega) _, (ho2.row (by omega) H2.out.2.1.drew).setOther (by show w.heap.size ≠ w.heap.size + 2; omega) _, (ho2.row (by omega) H2.out.2.2.1.drew).setOther (by show w.heap.size + 1 ≠ w.heap.size + 2; omega) _, row3, (ho2.below (Below.drew H2.out.2.2.2.2) (by omega)).setCell (by show w.heap.size ≤ w.heap.size + 2; omega) _⟩
  clear row3 hr2 ho2 H2; by_cases hbig : n % 128 < 112
  · have hd : decide ((112 : Int) ≤ (r : Int)) = false := decide_eq_false (by have := H0.out.2.1; omega)
    have hd2 : (r : Int) < 112 := by have := H0.out.2.1; omega
    obtain ⟨W, hW⟩ : ∃ W, W = w2.setCell ⟨w.heap.size + 2, r, none⟩ (.int .u8 128) := ⟨_, rfl⟩
    have HF : Hid (HsIn hb n q msg p (stAfter msg q) (lastB msg n) w W) := by rw [hW]; exact H3.out
    clear H3; have c136 : (w2.setCell ⟨w.heap.size + 2, r, none⟩ (.int .u8 128)).cell? ⟨hb, 136, none⟩ = some (.int .u64 (I (BitVec.ofNat 64 n))) := by rw [← hW, HF.out.1.cell (by decide), has_held, HI.out]
    go_wp2_with fail
    clear c136; rw [← hW]; clear hW; refine (putBits_any _ _ _ _ HF.out.2.2.2.1).mono ?_; rintro e W7 ⟨rfl, hr7, ho7⟩; have H7 : Hid (W7.rowIs w.heap.size 39 64 (byt fun _ => 0#8) ∧ W7.rowIs (w.heap.size + 1) 111 8 (lan (stAfter msg q)) ∧ W7.rowIs (w.heap.size + 2) 132 128 (byt (putTo (lastB msg n) (BitVec.ofNat 64 n) 8)) ∧ Below w.heap.size w W7) := ⟨ho7.row (by omega) HF.out.2.1, ho7.row (by omega) HF.out.2.2.1, hr7, ho7.below HF.out.2.2.2.2 (by omega)⟩
    clear HF hr7 ho7; go_wp2_with (first | (refine wpList_load_row rfl 111 _ rfl (w.heap.size + 1) rfl 111 _ (0, 0) _ (row_heap H7.out.2.1) Tryz.underlying111 rfl (info38v _) ?_) | (refine wpList_load_row rfl 132 _ rfl (w.heap.size + 2) rfl 132 _ (0, 0) _ (row_heap H7.out.2.2.1) Tryz.underlying132 rfl (info50v _) ?_) | (go_at_call 78; refine (behind_any _ _ _).mono ?_; rintro e W8 ⟨rfl, hb8⟩) | (go_at_call 80; refine (bytesOf_any _ _).mono ?_; rintro e W9 ⟨rfl, hb9⟩) | (refine wpList_store_row rfl 39 _ _ rfl w.heap.size _ rfl rfl 39 _ (row_heap ((H7.out.1.of_block (hb8.block _ H7.out.1.lt)).of_block (hb9.block _ (Nat.lt_of_lt_of_le H7.out.1.lt hb8.size)))) (info23v _) (by simp) (one_byt _ _) ?_)); have hr9 : W9.rowIs w.heap.size 39 64 (byt fun _ => 0#8) := (H7.out.1.of_block (hb8.block _ H7.out.1.lt)).of_block (hb9.block _ (Nat.lt_of_lt_of_le H7.out.1.lt hb8.size)); refine bodyPost_ret (results_cell_row rfl _ _ _ _ _ _ _ rfl (setRow_heap _ _ _ _ _ _ (row_heap hr9)) Tryz.underlying39 rfl (info23v _)) rfl ⟨?_, ?_⟩
    · rw [digest_small msg n hbig, ← H0.out.2.2]
    · exact ((Only.refl _ _).setRow _).below ((H7.out.2.2.2.trans (hb8.mono H7.out.2.2.2.size)).trans (hb9.mono (Nat.le_trans H7.out.2.2.2.size hb8.size))) (Nat.le_refl _)
  · have hd : (112 : Int) ≤ (r : Int) := by have := H0.out.2.1; omega
    have H4 : Hid (∀ W5, Below (w2.setCell ⟨w.heap.size + 2, r, none⟩ (.int .u8 128)).heap.size (w2.setCell ⟨w.heap.size + 2, r, none⟩ (.int .u8 128)) W5 → HsIn hb n q msg p (stAfter msg q) (lastB msg n) w W5) := fun W5 h5 =>
     ⟨H3.out.1.of_block (h5.block _ H3.out.1.lt), H3.out.2.1.of_block (h5.block _ H3.out.2.1.lt), H3.out.2.2.1.of_block (h5.block _ H3.out.2.2.1.lt), H3.out.2.2.2.1.of_block (h5.block _ H3.out.2.2.2.1.lt), H3.out.2.2.2.2.trans (h5.mono H3.out.2.2.2.2.size)⟩
    go_wp2_with (first | (refine wpList_load_row rfl 111 _ rfl (w.heap.size + 1) rfl 111 _ (0, 0) _ (row_heap H3.out.2.2.1) Tryz.underlying111 rfl (info38v _) ?_) | (refine wpList_load_row rfl 132 _ rfl (w.heap.size + 2) rfl 132 _ (0, 0) _ (row_heap H3.out.2.2.2.1) Tryz.underlying132 rfl (info50v _) ?_))
    refine (behind_any _ _ _).mono ?_; rintro e W5 ⟨rfl, hb5⟩; have H5 := H4.out W5 hb5; have H6 : Hid (HsIn hb n q msg p (beh KK (stAfter msg q) (lastB msg n)) (lastB msg n) w (W5.setRow (w.heap.size + 1) (vec 8 (lan (beh KK (stAfter msg q) (lastB msg n)))))) :=
     ⟨((Only.refl _ _).setRow _).row (by omega) H5.1, ((Only.refl _ _).setRow _).row (by omega) H5.2.1, heap_row (setRow_heap _ _ _ _ _ _ (row_heap H5.2.2.1)), ((Only.refl _ _).setRow _).row (by omega) H5.2.2.2.1, ((Only.refl _ _).setRow _).below H5.2.2.2.2 (by omega)⟩
    have HF : Hid (HsIn hb n q msg p (beh KK (stAfter msg q) (lastB msg n)) (fun _ => 0#8) w ((W5.setRow (w.heap.size + 1) (vec 8 (lan (beh KK (stAfter msg q) (lastB msg n))))).setRow (w.heap.size + 2) (vec 128 (byt fun _ => 0#8)))) :=
     ⟨((Only.refl _ _).setRow _).row (by omega) H6.out.1, ((Only.refl _ _).setRow _).row (by omega) H6.out.2.1, ((Only.refl _ _).setRow _).row (by omega) H6.out.2.2.1, heap_row (setRow_heap _ _ _ _ _ _ (row_heap H6.out.2.2.2.1)), ((Only.refl _ _).setRow _).below H6.out.2.2.2.2 (by omega)⟩
    have HL5 : Hid (W5.rowIs (w.heap.size + 1) 111 8 (lan (stAfter msg q))) := H5.2.2.1; clear H5 H4 H3 hb5; obtain ⟨W, hW⟩ : ∃ W, W = (W5.setRow (w.heap.size + 1) (vec 8 (lan (beh KK (stAfter msg q) (lastB msg n))))).setRow (w.heap.size + 2) (vec 128 (byt fun _ => 0#8)) := ⟨_, rfl⟩
    have c136 : ((W5.setRow (w.heap.size + 1) (vec 8 (lan (beh KK (stAfter msg q) (lastB msg n))))).setRow (w.heap.size + 2) (vec 128 (byt fun _ => 0#8))).cell? ⟨hb, 136, none⟩ = some (.int .u64 (I (BitVec.ofNat 64 n))) := by rw [HF.out.1.cell (by decide), has_held, HI.out]
    rw [← hW] at HF; go_wp2_with (first | (refine wpList_store_row rfl 111 _ _ rfl (w.heap.size + 1) _ rfl rfl 111 _ (row_heap HL5.out) (info38v _) (by simp) (one_lan _ _) ?_) | (refine wpList_store_row rfl 132 _ _ rfl (w.heap.size + 2) _ rfl rfl 132 _ (row_heap H6.out.2.2.2.1) (info50v _) (by simp) (one_byt _ _) ?_) | (refine wpList_build rfl 132 _ rfl (by kernel_rfl) ?_; generalize hG : (Program.built _ _ _).getD #[] = G; obtain rfl : G = vec 128 (byt fun _ => 0#8) := by rw [← hG]; kernel_rfl)); clear c136; rw [← hW]; clear hW; refine (putBits_any _ _ _ _ HF.out.2.2.2.1).mono ?_; rintro e W7 ⟨rfl, hr7, ho7⟩; have H7 : Hid (W7.rowIs w.heap.size 39 64 (byt fun _ => 0#8) ∧ W7.rowIs (w.heap.size + 1) 111 8 (lan (beh KK (stAfter msg q) (lastB msg n))) ∧ W7.rowIs (w.heap.size + 2) 132 128 (byt (putTo (fun _ => 0#8) (BitVec.ofNat 64 n) 8)) ∧ Below w.heap.size w W7) := ⟨ho7.row (by omega) HF.out.2.1, ho7.row (by omega) HF.out.2.2.1, hr7, ho7.below HF.out.2.2.2.2 (by omega)⟩
    clear HF hr7 ho7; go_wp2_with (first | (refine wpList_load_row rfl 111 _ rfl (w.heap.size + 1) rfl 111 _ (0, 0) _ (row_heap H7.out.2.1) Tryz.underlying111 rfl (info38v _) ?_) | (refine wpList_load_row rfl 132 _ rfl (w.heap.size + 2) rfl 132 _ (0, 0) _ (row_heap H7.out.2.2.1) Tryz.underlying132 rfl (info50v _) ?_) | (go_at_call 78; refine (behind_any _ _ _).mono ?_; rintro e W8 ⟨rfl, hb8⟩) | (go_at_call 80; refine (bytesOf_any _ _).mono ?_; rintro e W9 ⟨rfl, hb9⟩) | (refine wpList_store_row rfl 39 _ _ rfl w.heap.size _ rfl rfl 39 _ (row_heap ((H7.out.1.of_block (hb8.block _ H7.out.1.lt)).of_block (hb9.block _ (Nat.lt_of_lt_of_le H7.out.1.lt hb8.size)))) (info23v _) (by simp) (one_byt _ _) ?_)); have hr9 : W9.rowIs w.heap.size 39 64 (byt fun _ => 0#8) := (H7.out.1.of_block (hb8.block _ H7.out.1.lt)).of_block (hb9.block _ (Nat.lt_of_lt_of_le H7.out.1.lt hb8.size)); refine bodyPost_ret (results_cell_row rfl _ _ _ _ _ _ _ rfl (setRow_heap _ _ _ _ _ _ (row_heap hr9)) Tryz.underlying39 rfl (info23v _)) rfl ⟨?_, ?_⟩
    · rw [digest_big msg n hbig, ← H0.out.2.2]
    · exact ((Only.refl _ _).setRow _).below ((H7.out.2.2.2.trans (hb8.mono H7.out.2.2.2.size)).trans (hb9.mono (Nat.le_trans H7.out.2.2.2.size hb8.size))) (Nat.le_refl _)
end Go.Proofs.YtojfcdjgcgnajaaGreat.Sha
