/- trie: alive. -/
import Derived.Test.YtboeokmaepchgaaGreatDoorTM
import Derived.Test.YtboeokmaepchgaaGreatDoorTF
import Derived.Lib.SlBytesConst
namespace Go.Proofs.YtboeokmaepchgaaGreatDoor
open Go.RowKit Go.Maps Go.Joins Go.Shelf
set_option linter.unusedSimpArgs false
set_option linter.unusedVariables false
theorem src_newB {w : World} (xs : List Int) (q : Nat × Nat) : BytesV (w.alloc (.cells (vB xs).toArray 5 q)) (.slice (some ⟨w.heap.size, 0, none⟩) xs.length xs.length) xs := by
  refine Or.inr ⟨_, _, rfl, fun j u hu => ?_⟩
  rw [Addr.add_lit]
  refine (cell_of_block (heap_alloc_new w _) (0 + j)).trans ?_
  simpa using hu
set_option maxRecDepth 100000 in
set_option maxHeartbeats 4000000 in
/-- Put into an empty tree -/
theorem put_any {w : World} {b : Nat} {ak av : Option Addr} {ck cv : Nat} {ks vs : List Int} (hb : w.heap[b]? = some (.cells #[.nilIface, .nilFunc] 78)) (hk : BytesV w (.slice ak ks.length ck) ks) (hkb : Byt ks) (hkl : ks.length ≤ 64) (hv : BytesV w (.slice av vs.length cv) vs) (hv0 : 0 < vs.length) (hvl : vs.length ≤ 8192) :
    Calls Tryz.prog 13 #[.pointer (some ⟨b, 0, none⟩), .slice ak ks.length ck, .slice av vs.length cv] w fun e w' => e = .returned (.int .i64 0) ∧ w.grownBy w' (some b) ∧ LeafT w' b ks vs := by
  have HC : Hid _ := set_any hb hk hkb hkl hv hv0 hvl
  clear hb hk hkb hkl hv hv0 hvl
  go_enter Tryz.func13, Tryz.ntmps13
  go_wp2_with (first | (refine Calls.mono HC.out ?_; rintro e w1 ⟨rfl, h1⟩))
  go_ret
  exact ⟨rfl, h1⟩
theorem e_0 : Kc.I8 (Kc.digest (Kc.mB Kc.eM) 1 0) = 86 := by rw [Kc.eD 0 (by decide)]; kernel_rfl
theorem e_31 : Kc.I8 (Kc.digest (Kc.mB Kc.eM) 1 31) = 33 := by rw [Kc.eD 31 (by decide)]; kernel_rfl
theorem cp123 : cpE [1, 2, 3] = 0 ∧ cpR [1, 2, 3] false = [17, 35] := by decide
set_option maxRecDepth 100000 in
set_option maxHeartbeats 16000000 in
/-- The law's examples. -/
theorem alive_any {w : World} (D : Nat → BitVec 8) (hD : D = Kc.digest (Kc.mB Kc.eM) 1) (hp : Kc.PathIn w) : Calls Tryz.prog 15 #[] w fun e w' => Below w.heap.size w w' ∧ e = .returned (.bool true) := by
  have HP : Hid (Kc.PathIn w ∧ 1 < w.heap.size) := ⟨hp, Kc.pathIn_pos hp⟩
  have HD : Hid (D = Kc.digest (Kc.mB Kc.eM) 1) := hD
  have HC : Hid _ := empty_d D hD hp
  clear hp hD
  go_enter Tryz.func15, Tryz.ntmps15
  go_wp2_with fail
  refine Calls.mono HC.out ?_
  rintro e W0 ⟨rfl, hb0⟩
  have HB0 : Hid (Below w.heap.size w W0) := hb0
  clear hb0 HC
  go_wp2_with (first | (refine wpList_store_row rfl 33 _ _ rfl W0.heap.size (Kc.vec 32 (Kc.byt D)) rfl rfl 33 _ (heap_alloc_new _ _) (Kc.info29v _) rfl (Kc.one_byt _ _) ?_; rw [World.setRow_alloc_new]))
  have hA1 : Below W0.heap.size W0 ((W0.alloc (.cells (Kc.vec 32 (Kc.byt D)) 33)).alloc (.cells #[.int .u8 1, .int .u8 2, .int .u8 3] 5)) := by go_grown
  have hE1 : ((W0.alloc (.cells (Kc.vec 32 (Kc.byt D)) 33)).alloc (.cells #[.int .u8 1, .int .u8 2, .int .u8 3] 5)).heap[W0.heap.size]? = some (.cells (Kc.vec 32 (Kc.byt D)) 33) := allocs_heap [.cells (Kc.vec 32 (Kc.byt D)) 33, .cells #[.int .u8 1, .int .u8 2, .int .u8 3] 5] W0 0 _ rfl
  have hS1 : SrcN ((W0.alloc (.cells (Kc.vec 32 (Kc.byt D)) 33)).alloc (.cells #[.int .u8 1, .int .u8 2, .int .u8 3] 5)) (some ⟨W0.heap.size + 1, 0, none⟩) 3 [1, 2, 3] := by
    refine ⟨?_, by decide, by unfold Byt; decide, by decide⟩
    have := src_newB (w := W0.alloc (.cells (Kc.vec 32 (Kc.byt D)) 33)) [1, 2, 3] (0, 0)
    rw [show (W0.alloc (.cells (Kc.vec 32 (Kc.byt D)) 33)).heap.size = W0.heap.size + 1 from by simp] at this
    exact this
  have HC1 : Hid _ := Compact_any false hS1
  obtain ⟨be, hbe⟩ : ∃ be, be = W0.heap.size := ⟨_, rfl⟩
  rw [← hbe] at hE1 HC1 ⊢
  have H1 : Hid (Below w.heap.size w ((W0.alloc (.cells (Kc.vec 32 (Kc.byt D)) 33)).alloc (.cells #[.int .u8 1, .int .u8 2, .int .u8 3] 5)) ∧ ((W0.alloc (.cells (Kc.vec 32 (Kc.byt D)) 33)).alloc (.cells #[.int .u8 1, .int .u8 2, .int .u8 3] 5)).heap[be]? = some (.cells (Kc.vec 32 (Kc.byt D)) 33)) := ⟨HB0.out.trans (hA1.mono HB0.out.size), hE1⟩
  clear hA1 hE1 hS1 hbe HB0
  generalize (W0.alloc (.cells (Kc.vec 32 (Kc.byt D)) 33)).alloc (.cells #[.int .u8 1, .int .u8 2, .int .u8 3] 5) = W1 at H1 HC1 ⊢
  refine Calls.mono HC1.out ?_
  rintro e W2 ⟨hb2, v2, rfl, ho2⟩
  rw [cp123.1, cp123.2] at *
  obtain ⟨a2, c2, rfl⟩ := row_form ho2
  have H2 : Hid (Below w.heap.size w W2 ∧ W2.heap[be]? = some (.cells (Kc.vec 32 (Kc.byt D)) 33) ∧ BytesV W2 (.slice a2 2 c2) [17, 35]) := ⟨H1.out.1.trans (hb2.mono H1.out.1.size), (hb2.block be (heap_lt H1.out.2)).trans H1.out.2, BytesV.of_own ho2⟩
  clear hb2 ho2 H1 HC1
  have HO : Hid _ := open_any (w := W2) D HD.out (HP.out.1.below H2.out.1 HP.out.2)
  go_wp2_with (first | (refine wpList_load_row rfl 33 _ rfl be rfl 33 _ (0, 0) _ H2.out.2.1 Tryz.underlying33 rfl (Kc.info29v _) ?_))
  refine Calls.mono HO.out ?_
  rintro e W3 ⟨b, rfl, hbg, ht3, hb3⟩
  have H3 : Hid (Below w.heap.size w W3 ∧ W3.heap[be]? = some (.cells (Kc.vec 32 (Kc.byt D)) 33) ∧ BytesV W3 (.slice a2 2 c2) [17, 35] ∧ W3.heap[b]? = some (.cells #[.nilIface, .nilFunc] 78) ∧ be ≠ b ∧ w.heap.size ≤ b) := ⟨H2.out.1.trans (hb3.mono H2.out.1.size), (hb3.block be (heap_lt H2.out.2.1)).trans H2.out.2.1, H2.out.2.2.below hb3, ht3, by have := heap_lt H2.out.2.1; omega, by have := H2.out.1.size; omega⟩
  clear hb3 ht3 hbg H2 HO
  have hcv3 := fun W : World => Lib.run_convert_bytes_const (P := Tryz.prog) W 22 5 #[.int .u8 100, .int .u8 111, .int .u8 103] 3 3 Tryz.underlying22 Tryz.underlying5
  have hcv5 := Lib.run_convert_bytes_const (P := Tryz.prog) (W3.alloc (.cells #[.int .u8 100, .int .u8 111, .int .u8 103] 5 (3, 4))) 22 5 #[.int .u8 112, .int .u8 117, .int .u8 112, .int .u8 112, .int .u8 121] 5 5 Tryz.underlying22 Tryz.underlying5
  rw [show (W3.alloc (.cells #[.int .u8 100, .int .u8 111, .int .u8 103] 5 (3, 4))).heap.size = W3.heap.size + 1 from by simp] at hcv5
  have hA4 : Below W3.heap.size W3 ((W3.alloc (.cells #[.int .u8 100, .int .u8 111, .int .u8 103] 5 (3, 4))).alloc (.cells #[.int .u8 112, .int .u8 117, .int .u8 112, .int .u8 112, .int .u8 121] 5 (5, 6))) := by go_grown
  have hk4 : BytesV ((W3.alloc (.cells #[.int .u8 100, .int .u8 111, .int .u8 103] 5 (3, 4))).alloc (.cells #[.int .u8 112, .int .u8 117, .int .u8 112, .int .u8 112, .int .u8 121] 5 (5, 6))) (.slice (some ⟨W3.heap.size, 0, none⟩) 3 3) [100, 111, 103] := BytesV.below (w := W3.alloc (.cells #[.int .u8 100, .int .u8 111, .int .u8 103] 5 (3, 4))) (src_newB (w := W3) [100, 111, 103] (3, 4)) (by go_grown)
  have hv4 : BytesV ((W3.alloc (.cells #[.int .u8 100, .int .u8 111, .int .u8 103] 5 (3, 4))).alloc (.cells #[.int .u8 112, .int .u8 117, .int .u8 112, .int .u8 112, .int .u8 121] 5 (5, 6))) (.slice (some ⟨W3.heap.size + 1, 0, none⟩) 5 5) [112, 117, 112, 112, 121] := by
    have := src_newB (w := W3.alloc (.cells #[.int .u8 100, .int .u8 111, .int .u8 103] 5 (3, 4))) [112, 117, 112, 112, 121] (5, 6)
    rw [show (W3.alloc (.cells #[.int .u8 100, .int .u8 111, .int .u8 103] 5 (3, 4))).heap.size = W3.heap.size + 1 from by simp] at this
    exact this
  have HU : Hid _ := put_any (ks := [100, 111, 103]) (vs := [112, 117, 112, 112, 121]) ((hA4.block b (heap_lt H3.out.2.2.2.1)).trans H3.out.2.2.2.1) hk4 (by unfold Byt; decide) (by decide) hv4 (by decide) (by decide)
  have H4 : Hid (Below w.heap.size w ((W3.alloc (.cells #[.int .u8 100, .int .u8 111, .int .u8 103] 5 (3, 4))).alloc (.cells #[.int .u8 112, .int .u8 117, .int .u8 112, .int .u8 112, .int .u8 121] 5 (5, 6))) ∧ ((W3.alloc (.cells #[.int .u8 100, .int .u8 111, .int .u8 103] 5 (3, 4))).alloc (.cells #[.int .u8 112, .int .u8 117, .int .u8 112, .int .u8 112, .int .u8 121] 5 (5, 6))).heap[be]? = some (.cells (Kc.vec 32 (Kc.byt D)) 33) ∧ BytesV ((W3.alloc (.cells #[.int .u8 100, .int .u8 111, .int .u8 103] 5 (3, 4))).alloc (.cells #[.int .u8 112, .int .u8 117, .int .u8 112, .int .u8 112, .int .u8 121] 5 (5, 6))) (.slice a2 2 c2) [17, 35] ∧ ((W3.alloc (.cells #[.int .u8 100, .int .u8 111, .int .u8 103] 5 (3, 4))).alloc (.cells #[.int .u8 112, .int .u8 117, .int .u8 112, .int .u8 112, .int .u8 121] 5 (5, 6))).heap[b]? = some (.cells #[.nilIface, .nilFunc] 78) ∧ be ≠ b ∧ w.heap.size ≤ b) := ⟨H3.out.1.trans (hA4.mono H3.out.1.size), (hA4.block be (heap_lt H3.out.2.1)).trans H3.out.2.1, H3.out.2.2.1.below hA4, (hA4.block b (heap_lt H3.out.2.2.2.1)).trans H3.out.2.2.2.1, H3.out.2.2.2.2⟩
  clear hA4 hk4 hv4
  go_wp2_with fail
  obtain ⟨s3, hs3⟩ : ∃ s3, s3 = W3.heap.size := ⟨_, rfl⟩
  rw [← hs3] at HU ⊢
  generalize ((W3.alloc (.cells #[.int .u8 100, .int .u8 111, .int .u8 103] 5 (3, 4))).alloc (.cells #[.int .u8 112, .int .u8 117, .int .u8 112, .int .u8 112, .int .u8 121] 5 (5, 6))) = W4 at H4 HU ⊢
  refine Calls.mono HU.out ?_
  rintro e W5 ⟨rfl, hg5, hl5⟩
  have hc5 : BytesV W5 (.slice a2 2 c2) [17, 35] := H4.out.2.2.1.kept (fun k hk => by
    obtain ⟨g, o, e, kc⟩ := H4.out.2.2.1.at (k := 0) (x := 17) rfl
    subst e
    have hk' := dBlock_own hk
    simp [Value.ownBlock] at hk'
    subst hk'
    refine hg5.block g (cell_lt kc) (fun e => ?_)
    cases e
    rw [cell_of_block H4.out.2.2.2.1] at kc
    rcases o with _ | _ | o <;> simp at kc)
  have hb5 : Below w.heap.size w W5 := H4.out.1.grown hg5 H4.out.1.size (fun k hk => by cases hk; exact H4.out.2.2.2.2.2)
  have H5 : Hid (Below w.heap.size w W5 ∧ W5.heap[be]? = some (.cells (Kc.vec 32 (Kc.byt D)) 33) ∧ BytesV W5 (.slice a2 2 c2) [17, 35] ∧ LeafT W5 b [100, 111, 103] [112, 117, 112, 112, 121]) := ⟨hb5, (hg5.block be (heap_lt H4.out.2.1) (fun e => by cases e; exact H4.out.2.2.2.2.1 rfl)).trans H4.out.2.1, hc5, hl5⟩
  clear hg5 hl5 hc5 hb5 H4 HU H3 hcv3 hcv5 hs3
  have hcv6 := Lib.run_convert_bytes_const (P := Tryz.prog) W5 22 5 #[.int .u8 100, .int .u8 111, .int .u8 103] 3 3 Tryz.underlying22 Tryz.underlying5
  have hA6 : Below W5.heap.size W5 (W5.alloc (.cells #[.int .u8 100, .int .u8 111, .int .u8 103] 5 (3, 4))) := by go_grown
  have HG : Hid _ := get_any (ks := [100, 111, 103]) (vs := [112, 117, 112, 112, 121]) (H5.out.2.2.2.below hA6) (src_newB (w := W5) [100, 111, 103] (3, 4)) (by unfold Byt; decide) (by decide) (by decide) (by decide)
  have H6 : Hid (Below w.heap.size w (W5.alloc (.cells #[.int .u8 100, .int .u8 111, .int .u8 103] 5 (3, 4))) ∧ (W5.alloc (.cells #[.int .u8 100, .int .u8 111, .int .u8 103] 5 (3, 4))).heap[be]? = some (.cells (Kc.vec 32 (Kc.byt D)) 33) ∧ BytesV (W5.alloc (.cells #[.int .u8 100, .int .u8 111, .int .u8 103] 5 (3, 4))) (.slice a2 2 c2) [17, 35]) := ⟨H5.out.1.trans (hA6.mono H5.out.1.size), (hA6.block be (heap_lt H5.out.2.1)).trans H5.out.2.1, H5.out.2.2.1.below hA6⟩
  clear hA6 H5
  go_wp2_with fail
  generalize W5.alloc (.cells #[.int .u8 100, .int .u8 111, .int .u8 103] 5 (3, 4)) = W6 at H6 HG ⊢
  refine Calls.mono HG.out ?_
  rintro e W7 ⟨hb7, v7, rfl, hv7⟩
  obtain ⟨a7, c7, rfl⟩ := hv7.form
  have H7 : Hid (Below w.heap.size w W7 ∧ BytesV W7 (.slice a2 2 c2) [17, 35] ∧ BytesV W7 (.slice a7 5 c7) [112, 117, 112, 112, 121]) := ⟨H6.out.1.trans (hb7.mono H6.out.1.size), H6.out.2.2.below hb7, hv7⟩
  have hbe : W7.heap[be]? = some (.cells (Kc.vec 32 (Kc.byt D)) 33) := (hb7.block be (heap_lt H6.out.2.1)).trans H6.out.2.1
  have k0 : W7.cell? ⟨be, 0, none⟩ = some (.int .u8 86) := (cell_of_block hbe 0).trans (by rw [Kc.get_vec 32 _ 0 (by decide), HD.out]; show some (Value.int .u8 (Kc.I8 _)) = _; rw [e_0])
  have k31 : W7.cell? ⟨be, 31, none⟩ = some (.int .u8 33) := (cell_of_block hbe 31).trans (by rw [Kc.get_vec 32 _ 31 (by decide), HD.out]; show some (Value.int .u8 (Kc.I8 _)) = _; rw [e_31])
  clear hb7 hv7 H6 HG hcv6 hbe
  have hA8 : Below W7.heap.size W7 (W7.alloc (.cells #[.int .u8 17, .int .u8 35] 5)) := by go_grown
  have HS : Hid _ := lsame_t (H7.out.2.1.below hA8) (src_newB (w := W7) [17, 35] (0, 0))
  have hcv := conv_b (H7.out.2.2.below hA8)
  have H8 : Hid (Below w.heap.size w (W7.alloc (.cells #[.int .u8 17, .int .u8 35] 5))) := H7.out.1.trans (hA8.mono H7.out.1.size)
  clear hA8 H7
  go_wp2_with (first | (go_at_call 12; refine Calls.mono HS.out ?_; rintro e w8 ⟨rfl, h8⟩; obtain rfl := h8.symm; clear h8))
  go_ret
  exact ⟨H8.out, by rw [show ((strOfNums [112, 117, 112, 112, 121]).toList == [112, 117, 112, 112, 121]) = true from by kernel_rfl]; rfl⟩
end Go.Proofs.YtboeokmaepchgaaGreatDoor
