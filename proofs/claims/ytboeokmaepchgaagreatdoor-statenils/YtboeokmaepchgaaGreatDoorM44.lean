/- TN, VW, laid into one text. -/
import Derived.Test.YtboeokmaepchgaaGreatDoorTM
import Derived.Test.YtboeokmaepchgaaGreatDoorTF
import Derived.Lib.SlBytesConst
import Derived.Test.YtboeokmaepchgaaGreatDoorVV
/- trie: alive. -/
namespace Go.Proofs.YtboeokmaepchgaaGreatDoor
open Go.RowKit Go.Maps Go.Joins Go.Shelf
set_option linter.unusedSimpArgs false
set_option linter.unusedVariables false
theorem src_newB {w : World} (xs : List Int) (q : Nat × Nat) : BytesV (w.alloc (.cells (vB xs).toArray 5 q)) (.slice (some ⟨w.heap.size, 0, none⟩) xs.length xs.length) xs := by
  refine Or.inr ⟨_, _, rfl, fun j u hu => ?_⟩
  rw [Addr.add_lit]
  refine (cell_of_block (heap_alloc_new w _) (0 + j)).trans ?_
  simpa using hu
set_option maxRecDepth 100000 in
set_option maxHeartbeats 4000000 in
/-- Put into an empty tree -/
theorem put_any {w : World} {b : Nat} {ak av : Option Addr} {ck cv : Nat} {ks vs : List Int} (hb : w.heap[b]? = some (.cells #[.nilIface, .nilFunc] 78)) (hk : BytesV w (.slice ak ks.length ck) ks) (hkb : Byt ks) (hkl : ks.length ≤ 64) (hv : BytesV w (.slice av vs.length cv) vs) (hv0 : 0 < vs.length) (hvl : vs.length ≤ 8192) :
    Calls Tryz.prog 13 #[.pointer (some ⟨b, 0, none⟩), .slice ak ks.length ck, .slice av vs.length cv] w fun e w' => e = .returned (.int .i64 0) ∧ w.grownBy w' (some b) ∧ LeafT w' b ks vs := by
  have HC : Hid _ := set_any hb hk hkb hkl hv hv0 hvl
  clear hb hk hkb hkl hv hv0 hvl
  go_enter Tryz.func13, Tryz.ntmps13
  go_wp2_with (first | (refine Calls.mono HC.out ?_; rintro e w1 ⟨rfl, h1⟩))
  go_ret
  exact ⟨rfl, h1⟩
theorem e_0 : Kc.I8 (Kc.digest (Kc.mB Kc.eM) 1 0) = 86 := by rw [Kc.eD 0 (by decide)]; kernel_rfl
theorem e_31 : Kc.I8 (Kc.digest (Kc.mB Kc.eM) 1 31) = 33 := by rw [Kc.eD 31 (by decide)]; kernel_rfl
theorem cp123 : cpE [1, 2, 3] = 0 ∧ cpR [1, 2, 3] false = [17, 35] := by decide
set_option maxRecDepth 100000 in
set_option maxHeartbeats 16000000 in
/-- The law's examples. -/
theorem alive_any {w : World} (D : Nat → BitVec 8) (hD : D = Kc.digest (Kc.mB Kc.eM) 1) (hp : Kc.PathIn w) : Calls Tryz.prog 15 #[] w fun e w' => Below w.heap.size w w' ∧ e = .returned (.bool true) := by
  have HP : Hid (Kc.PathIn w ∧ 1 < w.heap.size) := ⟨hp, Kc.pathIn_pos hp⟩
  have HD : Hid (D = Kc.digest (Kc.mB Kc.eM) 1) := hD
  have HC : Hid _ := empty_d D hD hp
  clear hp hD
  go_enter Tryz.func15, Tryz.ntmps15
  go_wp2_with fail
  refine Calls.mono HC.out ?_
  rintro e W0 ⟨rfl, hb0⟩
  have HB0 : Hid (Below w.heap.size w W0) := hb0
  clear hb0 HC
  go_wp2_with (first | (refine wpList_store_row rfl 33 _ _ rfl W0.heap.size (Kc.vec 32 (Kc.byt D)) rfl rfl 33 _ (heap_alloc_new _ _) (Kc.info29v _) rfl (Kc.one_byt _ _) ?_; rw [World.setRow_alloc_new]))
  have hA1 : Below W0.heap.size W0 ((W0.alloc (.cells (Kc.vec 32 (Kc.byt D)) 33)).alloc (.cells #[.int .u8 1, .int .u8 2, .int .u8 3] 5)) := by go_grown
  have hE1 : ((W0.alloc (.cells (Kc.vec 32 (Kc.byt D)) 33)).alloc (.cells #[.int .u8 1, .int .u8 2, .int .u8 3] 5)).heap[W0.heap.size]? = some (.cells (Kc.vec 32 (Kc.byt D)) 33) := allocs_heap [.cells (Kc.vec 32 (Kc.byt D)) 33, .cells #[.int .u8 1, .int .u8 2, .int .u8 3] 5] W0 0 _ rfl
  have hS1 : SrcN ((W0.alloc (.cells (Kc.vec 32 (Kc.byt D)) 33)).alloc (.cells #[.int .u8 1, .int .u8 2, .int .u8 3] 5)) (some ⟨W0.heap.size + 1, 0, none⟩) 3 [1, 2, 3] := by
    refine ⟨?_, by decide, by unfold Byt; decide, by decide⟩
    have := src_newB (w := W0.alloc (.cells (Kc.vec 32 (Kc.byt D)) 33)) [1, 2, 3] (0, 0)
    rw [show (W0.alloc (.cells (Kc.vec 32 (Kc.byt D)) 33)).heap.size = W0.heap.size + 1 from by simp] at this
    exact this
  have HC1 : Hid _ := Compact_any false hS1
  obtain ⟨be, hbe⟩ : ∃ be, be = W0.heap.size := ⟨_, rfl⟩
  rw [← hbe] at hE1 HC1 ⊢
  have H1 : Hid (Below w.heap.size w ((W0.alloc (.cells (Kc.vec 32 (Kc.byt D)) 33)).alloc (.cells #[.int .u8 1, .int .u8 2, .int .u8 3] 5)) ∧ ((W0.alloc (.cells (Kc.vec 32 (Kc.byt D)) 33)).alloc (.cells #[.int .u8 1, .int .u8 2, .int .u8 3] 5)).heap[be]? = some (.cells (Kc.vec 32 (Kc.byt D)) 33)) := ⟨HB0.out.trans (hA1.mono HB0.out.size), hE1⟩
  clear hA1 hE1 hS1 hbe HB0
  generalize (W0.alloc (.cells (Kc.vec 32 (Kc.byt D)) 33)).alloc (.cells #[.int .u8 1, .int .u8 2, .int .u8 3] 5) = W1 at H1 HC1 ⊢
  refine Calls.mono HC1.out ?_
  rintro e W2 ⟨hb2, v2, rfl, ho2⟩
  rw [cp123.1, cp123.2] at *
  obtain ⟨a2, c2, rfl⟩ := row_form ho2
  have H2 : Hid (Below w.heap.size w W2 ∧ W2.heap[be]? = some (.cells (Kc.vec 32 (Kc.byt D)) 33) ∧ BytesV W2 (.slice a2 2 c2) [17, 35]) := ⟨H1.out.1.trans (hb2.mono H1.out.1.size), (hb2.block be (heap_lt H1.out.2)).trans H1.out.2, BytesV.of_own ho2⟩
  clear hb2 ho2 H1 HC1
  have HO : Hid _ := open_any (w := W2) D HD.out (HP.out.1.below H2.out.1 HP.out.2)
  go_wp2_with (first | (refine wpList_load_row rfl 33 _ rfl be rfl 33 _ (0, 0) _ H2.out.2.1 Tryz.underlying33 rfl (Kc.info29v _) ?_))
  refine Calls.mono HO.out ?_
  rintro e W3 ⟨b, rfl, hbg, ht3, hb3⟩
  have H3 : Hid (Below w.heap.size w W3 ∧ W3.heap[be]? = some (.cells (Kc.vec 32 (Kc.byt D)) 33) ∧ BytesV W3 (.slice a2 2 c2) [17, 35] ∧ W3.heap[b]? = some (.cells #[.nilIface, .nilFunc] 78) ∧ be ≠ b ∧ w.heap.size ≤ b) := ⟨H2.out.1.trans (hb3.mono H2.out.1.size), (hb3.block be (heap_lt H2.out.2.1)).trans H2.out.2.1, H2.out.2.2.below hb3, ht3, by have := heap_lt H2.out.2.1; omega, by have := H2.out.1.size; omega⟩
  clear hb3 ht3 hbg H2 HO
  have hcv3 := fun W : World => Lib.run_convert_bytes_const (P := Tryz.prog) W 22 5 #[.int .u8 100, .int .u8 111, .int .u8 103] 3 3 Tryz.underlying22 Tryz.underlying5
  have hcv5 := Lib.run_convert_bytes_const (P := Tryz.prog) (W3.alloc (.cells #[.int .u8 100, .int .u8 111, .int .u8 103] 5 (3, 4))) 22 5 #[.int .u8 112, .int .u8 117, .int .u8 112, .int .u8 112, .int .u8 121] 5 5 Tryz.underlying22 Tryz.underlying5
  rw [show (W3.alloc (.cells #[.int .u8 100, .int .u8 111, .int .u8 103] 5 (3, 4))).heap.size = W3.heap.size + 1 from by simp] at hcv5
  have hA4 : Below W3.heap.size W3 ((W3.alloc (.cells #[.int .u8 100, .int .u8 111, .int .u8 103] 5 (3, 4))).alloc (.cells #[.int .u8 112, .int .u8 117, .int .u8 112, .int .u8 112, .int .u8 121] 5 (5, 6))) := by go_grown
  have hk4 : BytesV ((W3.alloc (.cells #[.int .u8 100, .int .u8 111, .int .u8 103] 5 (3, 4))).alloc (.cells #[.int .u8 112, .int .u8 117, .int .u8 112, .int .u8 112, .int .u8 121] 5 (5, 6))) (.slice (some ⟨W3.heap.size, 0, none⟩) 3 3) [100, 111, 103] := BytesV.below (w := W3.alloc (.cells #[.int .u8 100, .int .u8 111, .int .u8 103] 5 (3, 4))) (src_newB (w := W3) [100, 111, 103] (3, 4)) (by go_grown)
  have hv4 : BytesV ((W3.alloc (.cells #[.int .u8 100, .int .u8 111, .int .u8 103] 5 (3, 4))).alloc (.cells #[.int .u8 112, .int .u8 117, .int .u8 112, .int .u8 112, .int .u8 121] 5 (5, 6))) (.slice (some ⟨W3.heap.size + 1, 0, none⟩) 5 5) [112, 117, 112, 112, 121] := by
    have := src_newB (w := W3.alloc (.cells #[.int .u8 100, .int .u8 111, .int .u8 103] 5 (3, 4))) [112, 117, 112, 112, 121] (5, 6)
    rw [show (W3.alloc (.cells #[.int .u8 100, .int .u8 111, .int .u8 103] 5 (3, 4))).heap.size = W3.heap.size + 1 from by simp] at this
    exact this
  have HU : Hid _ := put_any (ks := [100, 111, 103]) (vs := [112, 117, 112, 112, 121]) ((hA4.block b (heap_lt H3.out.2.2.2.1)).trans H3.out.2.2.2.1) hk4 (by unfold Byt; decide) (by decide) hv4 (by decide) (by decide)
  have H4 : Hid (Below w.heap.size w ((W3.alloc (.cells #[.int .u8 100, .int .u8 111, .int .u8 103] 5 (3, 4))).alloc (.cells #[.int .u8 112, .int .u8 117, .int .u8 112, .int .u8 112, .int .u8 121] 5 (5, 6))) ∧ ((W3.alloc (.cells #[.int .u8 100, .int .u8 111, .int .u8 103] 5 (3, 4))).alloc (.cells #[.int .u8 112, .int .u8 117, .int .u8 112, .int .u8 112, .int .u8 121] 5 (5, 6))).heap[be]? = some (.cells (Kc.vec 32 (Kc.byt D)) 33) ∧ BytesV ((W3.alloc (.cells #[.int .u8 100, .int .u8 111, .int .u8 103] 5 (3, 4))).alloc (.cells #[.int .u8 112, .int .u8 117, .int .u8 112, .int .u8 112, .int .u8 121] 5 (5, 6))) (.slice a2 2 c2) [17, 35] ∧ ((W3.alloc (.cells #[.int .u8 100, .int .u8 111, .int .u8 103] 5 (3, 4))).alloc (.cells #[.int .u8 112, .int .u8 117, .int .u8 112, .int .u8 112, .int .u8 121] 5 (5, 6))).heap[b]? = some (.cells #[.nilIface, .nilFunc] 78) ∧ be ≠ b ∧ w.heap.size ≤ b) := ⟨H3.out.1.trans (hA4.mono H3.out.1.size), (hA4.block be (heap_lt H3.out.2.1)).trans H3.out.2.1, H3.out.2.2.1.below hA4, (hA4.block b (heap_lt H3.out.2.2.2.1)).trans H3.out.2.2.2.1, H3.out.2.2.2.2⟩
  clear hA4 hk4 hv4
  go_wp2_with fail
  obtain ⟨s3, hs3⟩ : ∃ s3, s3 = W3.heap.size := ⟨_, rfl⟩
  rw [← hs3] at HU ⊢
  generalize ((W3.alloc (.cells #[.int .u8 100, .int .u8 111, .int .u8 103] 5 (3, 4))).alloc (.cells #[.int .u8 112, .int .u8 117, .int .u8 112, .int .u8 112, .int .u8 121] 5 (5, 6))) = W4 at H4 HU ⊢
  refine Calls.mono HU.out ?_
  rintro e W5 ⟨rfl, hg5, hl5⟩
  have hc5 : BytesV W5 (.slice a2 2 c2) [17, 35] := H4.out.2.2.1.kept (fun k hk => by
    obtain ⟨g, o, e, kc⟩ := H4.out.2.2.1.at (k := 0) (x := 17) rfl
    subst e
    have hk' := dBlock_own hk
    simp [Value.ownBlock] at hk'
    subst hk'
    refine hg5.block g (cell_lt kc) (fun e => ?_)
    cases e
    rw [cell_of_block H4.out.2.2.2.1] at kc
    rcases o with _ | _ | o <;> simp at kc)
  have hb5 : Below w.heap.size w W5 := H4.out.1.grown hg5 H4.out.1.size (fun k hk => by cases hk; exact H4.out.2.2.2.2.2)
  have H5 : Hid (Below w.heap.size w W5 ∧ W5.heap[be]? = some (.cells (Kc.vec 32 (Kc.byt D)) 33) ∧ BytesV W5 (.slice a2 2 c2) [17, 35] ∧ LeafT W5 b [100, 111, 103] [112, 117, 112, 112, 121]) := ⟨hb5, (hg5.block be (heap_lt H4.out.2.1) (fun e => by cases e; exact H4.out.2.2.2.2.1 rfl)).trans H4.out.2.1, hc5, hl5⟩
  clear hg5 hl5 hc5 hb5 H4 HU H3 hcv3 hcv5 hs3
  have hcv6 := Lib.run_convert_bytes_const (P := Tryz.prog) W5 22 5 #[.int .u8 100, .int .u8 111, .int .u8 103] 3 3 Tryz.underlying22 Tryz.underlying5
  have hA6 : Below W5.heap.size W5 (W5.alloc (.cells #[.int .u8 100, .int .u8 111, .int .u8 103] 5 (3, 4))) := by go_grown
  have HG : Hid _ := get_any (ks := [100, 111, 103]) (vs := [112, 117, 112, 112, 121]) (H5.out.2.2.2.below hA6) (src_newB (w := W5) [100, 111, 103] (3, 4)) (by unfold Byt; decide) (by decide) (by decide) (by decide)
  have H6 : Hid (Below w.heap.size w (W5.alloc (.cells #[.int .u8 100, .int .u8 111, .int .u8 103] 5 (3, 4))) ∧ (W5.alloc (.cells #[.int .u8 100, .int .u8 111, .int .u8 103] 5 (3, 4))).heap[be]? = some (.cells (Kc.vec 32 (Kc.byt D)) 33) ∧ BytesV (W5.alloc (.cells #[.int .u8 100, .int .u8 111, .int .u8 103] 5 (3, 4))) (.slice a2 2 c2) [17, 35]) := ⟨H5.out.1.trans (hA6.mono H5.out.1.size), (hA6.block be (heap_lt H5.out.2.1)).trans H5.out.2.1, H5.out.2.2.1.below hA6⟩
  clear hA6 H5
  go_wp2_with fail
  generalize W5.alloc (.cells #[.int .u8 100, .int .u8 111, .int .u8 103] 5 (3, 4)) = W6 at H6 HG ⊢
  refine Calls.mono HG.out ?_
  rintro e W7 ⟨hb7, v7, rfl, hv7⟩
  obtain ⟨a7, c7, rfl⟩ := hv7.form
  have H7 : Hid (Below w.heap.size w W7 ∧ BytesV W7 (.slice a2 2 c2) [17, 35] ∧ BytesV W7 (.slice a7 5 c7) [112, 117, 112, 112, 121]) := ⟨H6.out.1.trans (hb7.mono H6.out.1.size), H6.out.2.2.below hb7, hv7⟩
  have hbe : W7.heap[be]? = some (.cells (Kc.vec 32 (Kc.byt D)) 33) := (hb7.block be (heap_lt H6.out.2.1)).trans H6.out.2.1
  have k0 : W7.cell? ⟨be, 0, none⟩ = some (.int .u8 86) := (cell_of_block hbe 0).trans (by rw [Kc.get_vec 32 _ 0 (by decide), HD.out]; show some (Value.int .u8 (Kc.I8 _)) = _; rw [e_0])
  have k31 : W7.cell? ⟨be, 31, none⟩ = some (.int .u8 33) := (cell_of_block hbe 31).trans (by rw [Kc.get_vec 32 _ 31 (by decide), HD.out]; show some (Value.int .u8 (Kc.I8 _)) = _; rw [e_31])
  clear hb7 hv7 H6 HG hcv6 hbe
  have hA8 : Below W7.heap.size W7 (W7.alloc (.cells #[.int .u8 17, .int .u8 35] 5)) := by go_grown
  have HS : Hid _ := lsame_t (H7.out.2.1.below hA8) (src_newB (w := W7) [17, 35] (0, 0))
  have hcv := conv_b (H7.out.2.2.below hA8)
  have H8 : Hid (Below w.heap.size w (W7.alloc (.cells #[.int .u8 17, .int .u8 35] 5))) := H7.out.1.trans (hA8.mono H7.out.1.size)
  clear hA8 H7
  go_wp2_with (first | (go_at_call 12; refine Calls.mono HS.out ?_; rintro e w8 ⟨rfl, h8⟩; obtain rfl := h8.symm; clear h8))
  go_ret
  exact ⟨H8.out, by rw [show ((strOfNums [112, 117, 112, 112, 121]).toList == [112, 117, 112, 112, 121]) = true from by kernel_rfl]; rfl⟩
end Go.Proofs.YtboeokmaepchgaaGreatDoor
/- state: changed of a tree without pairs, by one. -/
namespace Go.Proofs.YtboeokmaepchgaaGreatDoor
open Go.RowKit Go.Maps Go.Joins Go.Shelf
set_option linter.unusedSimpArgs false
set_option linter.unusedVariables false
theorem agg142 (w : World) : (isAgg 142).run Tryz.prog w = .ok true w := by kernel_rfl
theorem load142 {w : World} {B : Nat} {x y : Value} (h0 : w.cell? ⟨B, 0, none⟩ = some x) (h1 : w.cell? ⟨B, 1, none⟩ = some y) : (loadVar 142 ⟨B, 0, none⟩).run Tryz.prog w = .ok (.agg #[x, y]) w := by
  have := run_loadVar_midS (P := Tryz.prog) w B 0 2 142 (fun j => if j = 0 then x else y) (fun j hj => by
    rw [Nat.zero_add]
    have : j = 0 ∨ j = 1 := by omega
    rcases this with rfl | rfl
    · exact h0
    · exact h1) agg142 (by kernel_rfl)
  exact this
set_option maxRecDepth 100000 in
set_option maxHeartbeats 16000000 in
theorem changed_one {w : World} {t b k m1 m2 tr : Nat} {lg jr sn v : Value} {rf : Int} {vs : List Int} (D C Y : Nat → BitVec 8) (hD : D = Kc.digest (Kc.mB Kc.eM) 1) (hY : Y = Kc.digest (Kc.mB (lfB (rwB 32 C) vs)) (lfB (rwB 32 C) vs).length) (hp : Kc.PathIn w) (ht : w.heap[t]? = some (TeC b (.slice none 0 0) k)) (hk : w.heap[k]? = some (.map #[] 0)) (hs : w.heap[b]? = some (.cells (Kc.vec 43 (stF D 0 m1 m2 tr rf lg jr sn)) 101)) (ho : OneP w v C vs)
    (hv0 : 0 < vs.length) (hv1 : vs.length ≤ 8192) (hcl : (cpB (hvB (rwB 32 C)) true).length ≤ 140737488355328) (heb : Byt (lfB (rwB 32 C) vs)) (hel : (lfB (rwB 32 C) vs).length ≤ 140737488351232) :
    Calls Tryz.prog 65 #[.pointer (some ⟨t, 0, none⟩), .agg (Kc.vec 32 (Kc.byt D)), v] w fun e w' => e = .returned (.agg (Kc.vec 32 (Kc.byt Y))) ∧ GrowT t k w w' ∧ ∃ p cap, w'.heap[t]? = some (TeC b (.slice p 1 cap) k) := by
  obtain ⟨B, cap, gk, va, vc, rfl, hcap, hc0, hc1, hgk, hbv⟩ := ho.ex
  obtain ⟨vl, hvl⟩ : ∃ n, n = vs.length := ⟨_, rfl⟩
  rw [← hvl] at hc1 hbv
  have htk : t ≠ k := fun he => by rw [he, hk] at ht; cases ht
  have HP : Hid (Kc.PathIn w ∧ 1 < w.heap.size ∧ D = Kc.digest (Kc.mB Kc.eM) 1 ∧ w.heap[t]? = some (TeC b (.slice none 0 0) k) ∧ w.heap[b]? = some (.cells (Kc.vec 43 (stF D 0 m1 m2 tr rf lg jr sn)) 101) ∧ w.heap[k]? = some (.map #[] 0) ∧ t ≠ k) := ⟨hp, Kc.pathIn_pos hp, hD, ht, hs, hk, htk⟩
  have HV : Hid (w.cell? ⟨B, 0, none⟩ = some (.slice (some ⟨gk, 0, none⟩) 32 32) ∧ w.cell? ⟨B, 1, none⟩ = some (.slice va vl vc) ∧ w.heap[gk]? = some (.cells (Kc.vec 32 (Kc.byt C)) 33) ∧ BytesV w (.slice va vl vc) vs ∧ vl = vs.length) := ⟨hc0, hc1, hgk, hbv, hvl⟩
  have HY : Hid (Y = Kc.digest (Kc.mB (lfB (rwB 32 C) vs)) (lfB (rwB 32 C) vs).length ∧ 0 < vs.length ∧ vs.length ≤ 8192 ∧ (cpB (hvB (rwB 32 C)) true).length ≤ 140737488355328 ∧ Byt (lfB (rwB 32 C) vs) ∧ (lfB (rwB 32 C) vs).length ≤ 140737488351232) := ⟨hY, hv0, hv1, hcl, heb, hel⟩
  have HS : Hid (∀ w, _) := fun w => sortP_small (w := w) 1 (Or.inr rfl) (some ⟨B, 0, none⟩) cap (.func (.func 103) #[] #[])
  clear hp hD ht hs hk htk hc0 hc1 hgk hbv hvl ho hY hv0 hv1 hcl heb hel
  go_enter Tryz.func65, Tryz.ntmps65
  go_wp2_with (first | (go_at_call 102; refine Calls.mono (HS.out _) ?_; rintro e w2 ⟨rfl, h⟩; obtain rfl := h.symm; clear h))
  rw [lit32]
  have hB0 : Below w.heap.size w ((w.alloc (.cells (Kc.vec 32 (Kc.byt D)) 33)).alloc (.cells z32 33)) := by go_grown
  have H0 : Hid (Below w.heap.size w ((w.alloc (.cells (Kc.vec 32 (Kc.byt D)) 33)).alloc (.cells z32 33)) ∧ ((w.alloc (.cells (Kc.vec 32 (Kc.byt D)) 33)).alloc (.cells z32 33)).heap[w.heap.size]? = some (.cells (Kc.vec 32 (Kc.byt D)) 33) ∧ ((w.alloc (.cells (Kc.vec 32 (Kc.byt D)) 33)).alloc (.cells z32 33)).heap[w.heap.size + 1]? = some (.cells z32 33)) := ⟨hB0, allocs_heap [.cells (Kc.vec 32 (Kc.byt D)) 33, .cells z32 33] w 0 _ rfl, allocs_heap [.cells (Kc.vec 32 (Kc.byt D)) 33, .cells z32 33] w 1 _ rfl⟩
  clear hB0
  generalize (w.alloc (.cells (Kc.vec 32 (Kc.byt D)) 33)).alloc (.cells z32 33) = W0 at H0 ⊢
  have hsz : w.heap.size + 1 < W0.heap.size := heap_lt H0.out.2.2
  refine wp_noP ?_
  refine wp_region_held_drew (S := (fun w' : World => w'.heap[t]? = some (TeC b (.slice none 0 0) k) ∧ w'.heap[b]? = some (.cells (Kc.vec 43 (stF D 0 m1 m2 tr rf lg jr sn)) 101) ∧ w'.heap[w.heap.size]? = some (.cells (Kc.vec 32 (Kc.byt D)) 33) ∧ Kc.PathIn w' ∧ 1 < w'.heap.size)) (by kernel_rfl) ⟨(H0.out.1.block _ (heap_lt HP.out.2.2.2.1)).trans HP.out.2.2.2.1, (H0.out.1.block _ (heap_lt HP.out.2.2.2.2.1)).trans HP.out.2.2.2.2.1, H0.out.2.1, (show Kc.PathIn W0 from HP.out.1.below H0.out.1 HP.out.2.1), by have := HP.out.2.1; have := H0.out.1.size; show 1 < W0.heap.size; omega⟩ (fun hHeld => ?_)
  have G0 : Hid (Below w.heap.size w W0.drew ∧ W0.drew.heap[w.heap.size + 1]? = some (.cells z32 33)) := ⟨⟨H0.out.1.os, H0.out.1.tape, H0.out.1.output, H0.out.1.size, H0.out.1.block⟩, H0.out.2.2⟩
  clear H0 hsz
  generalize W0.drew = U0 at G0 hHeld ⊢
  refine wpAnyH_take (i := 0) (v := .agg (Kc.vec 32 (Kc.byt D))) rfl (by kernel_rfl) (by kernel_rfl) (by kernel_rfl) (fun _ _ _ h => h) (Or.inl ⟨by rfl, fun w9 hSw => ?_⟩) hHeld ?_
  · exact Kc.run_load_exec 33 _ rfl _ rfl (load33 hSw.2.2.1)
  simp only [List.getElem_toArray, List.getElem_cons_succ, List.getElem_cons_zero, Act.put, List.setIfInBounds_toArray, List.set_cons_zero, List.set_cons_succ]
  refine wpAnyH_take (i := 1) (v := .pointer (some ⟨t, 0, none⟩)) rfl (by kernel_rfl) (by kernel_rfl) (by kernel_rfl) (fun _ _ _ h => h) (Or.inl ⟨by rfl, fun w9 hSw => ?_⟩) hHeld ?_
  · go_simp
  simp only [List.getElem_toArray, List.getElem_cons_succ, List.getElem_cons_zero, Act.put, List.setIfInBounds_toArray, List.set_cons_zero, List.set_cons_succ]
  refine wpAnyH_take (i := 2) (v := .pointer (some ⟨t, 0, none⟩)) rfl (by kernel_rfl) (by kernel_rfl) (by kernel_rfl) (fun _ _ _ h => h) (Or.inl ⟨by rfl, fun w9 hSw => ?_⟩) hHeld ?_
  · go_simp
  simp only [List.getElem_toArray, List.getElem_cons_succ, List.getElem_cons_zero, Act.put, List.setIfInBounds_toArray, List.set_cons_zero, List.set_cons_succ]
  refine wpAnyH_take (i := 3) (v := .pointer (some ⟨t, 0, none⟩)) rfl (by kernel_rfl) (by kernel_rfl) (by kernel_rfl) (fun _ _ _ h => h) (Or.inl ⟨by rfl, fun w9 hSw => ?_⟩) hHeld ?_
  · go_simp
  simp only [List.getElem_toArray, List.getElem_cons_succ, List.getElem_cons_zero, Act.put, List.setIfInBounds_toArray, List.set_cons_zero, List.set_cons_succ]
  refine wpAnyH_take (i := 4) (v := .pointer (some ⟨b, 0, none⟩)) rfl (by kernel_rfl) (by kernel_rfl) (by kernel_rfl) (fun _ _ _ h => h) (Or.inl ⟨by rfl, fun w9 hSw => ?_⟩) hHeld ?_
  · have k0 : w9.cell? ⟨t, 0, none⟩ = some (.pointer (some ⟨b, 0, none⟩)) := by rw [cell_of_block hSw.1]; rfl
    go_simp
  simp only [List.getElem_toArray, List.getElem_cons_succ, List.getElem_cons_zero, Act.put, List.setIfInBounds_toArray, List.set_cons_zero, List.set_cons_succ]
  refine wpAnyH_take (i := 5) (v := .pointer (some ⟨b, 0, none⟩)) rfl (by kernel_rfl) (by kernel_rfl) (by kernel_rfl) (fun _ _ _ h => h) (Or.inl ⟨by rfl, fun w9 hSw => ?_⟩) hHeld ?_
  · go_simp
  simp only [List.getElem_toArray, List.getElem_cons_succ, List.getElem_cons_zero, Act.put, List.setIfInBounds_toArray, List.set_cons_zero, List.set_cons_succ]
  refine wpAnyH_take (i := 6) (v := .pointer (some ⟨b, 32, none⟩)) rfl (by kernel_rfl) (by kernel_rfl) (by kernel_rfl) (fun _ _ _ h => h) (Or.inl ⟨by rfl, fun w9 hSw => ?_⟩) hHeld ?_
  · go_simp
  simp only [List.getElem_toArray, List.getElem_cons_succ, List.getElem_cons_zero, Act.put, List.setIfInBounds_toArray, List.set_cons_zero, List.set_cons_succ]
  refine wpAnyH_take (i := 7) (v := .nilFunc) rfl (by kernel_rfl) (by kernel_rfl) (by kernel_rfl) (fun _ _ _ h => h) (Or.inl ⟨by rfl, fun w9 hSw => ?_⟩) hHeld ?_
  · have k0 : w9.cell? ⟨b, 32, none⟩ = some .nilFunc := st_cell hSw.2.1 32 (by decide)
    go_simp
  simp only [List.getElem_toArray, List.getElem_cons_succ, List.getElem_cons_zero, Act.put, List.setIfInBounds_toArray, List.set_cons_zero, List.set_cons_succ]
  refine wpAnyH_ready (rs := [8]) (by kernel_rfl) (by simp) ?_
  refine AllReadyH.cons rfl (fun K hK => ?_) AllReadyH.nil
  have hC := open_any (w := U0) D HP.out.2.2.1 hHeld.2.2.2.1
  go_simp
  refine Calls.mono hC ?_
  clear hC
  rintro e U1 ⟨g, rfl, hg, hg1, hb1⟩
  have hx1 : (fun w' : World => w'.heap[t]? = some (TeC b (.slice none 0 0) k) ∧ w'.heap[b]? = some (.cells (Kc.vec 43 (stF D 0 m1 m2 tr rf lg jr sn)) 101) ∧ w'.heap[w.heap.size]? = some (.cells (Kc.vec 32 (Kc.byt D)) 33) ∧ Kc.PathIn w' ∧ 1 < w'.heap.size) U1 := ⟨(hb1.block _ (heap_lt hHeld.1)).trans hHeld.1, (hb1.block _ (heap_lt hHeld.2.1)).trans hHeld.2.1, (hb1.block _ (heap_lt hHeld.2.2.1)).trans hHeld.2.2.1, hHeld.2.2.2.1.below hb1 hHeld.2.2.2.2, Nat.lt_of_lt_of_le hHeld.2.2.2.2 hb1.size⟩
  have H1 : Hid (Below w.heap.size w U1 ∧ U1.heap[w.heap.size + 1]? = some (.cells z32 33) ∧ U1.heap[g]? = some (.cells #[.nilIface, .nilFunc] 78) ∧ w.heap.size + 1 < g) := ⟨G0.out.1.trans (hb1.mono G0.out.1.size), (hb1.block _ (heap_lt G0.out.2)).trans G0.out.2, hg1, by have := heap_lt G0.out.2; omega⟩
  clear hb1 G0 hg hg1
  refine hK.out _ _ hx1 (fun hHeld => ?_)
  clear hK K
  try simp only [List.getElem_toArray, List.getElem_cons_succ, List.getElem_cons_zero, Act.put, List.setIfInBounds_toArray, List.set_cons_zero, List.set_cons_succ]
  refine wpAnyH_take (i := 9) (v := .pointer (some ⟨g, 0, none⟩)) rfl (by kernel_rfl) (by kernel_rfl) (by kernel_rfl) (fun _ _ _ h => h) (Or.inl ⟨by rfl, fun w9 hSw => ?_⟩) hHeld ?_
  · go_simp
  simp only [List.getElem_toArray, List.getElem_cons_succ, List.getElem_cons_zero, Act.put, List.setIfInBounds_toArray, List.set_cons_zero, List.set_cons_succ]
  refine wpAnyH_done (by kernel_rfl) ?_ _
  simp only [noP]
  clear hHeld hx1
  go_wp2_with fail
  refine wp_loop_rounds 2 ?_
  rw [rounds_succ]
  have hbB : B < w.heap.size := by have := block_lt_of_cell HV.out.1; simpa using this
  have b0 : U1.cell? ⟨B, 0, none⟩ = some (.slice (some ⟨gk, 0, none⟩) 32 32) := (H1.out.1.cell (p := ⟨B, 0, none⟩) hbB).trans HV.out.1
  have b1 : U1.cell? ⟨B, 1, none⟩ = some (.slice va vl vc) := (H1.out.1.cell (p := ⟨B, 1, none⟩) hbB).trans HV.out.2.1
  have HB : Hid _ := And.intro b0 b1
  clear b0 b1 hbB
  go_wp2_with (first | (refine wpList_load_r (o := { dst := some 28, op := Op.load 142 (Operand.tmp 27), type := 142, pos := "root.go:75", after := _, guard := none }) rfl 142 _ rfl ⟨B, 0, none⟩ rfl (.agg #[.slice (some ⟨gk, 0, none⟩) 32 32, .slice va vl vc]) (by exact load142 HB.out.1 HB.out.2) ?_))
  have hb2 : Below U1.heap.size U1 (U1.alloc (.cells #[.slice (some ⟨gk, 0, none⟩) 32 32, .slice va vl vc] 142)) := by go_grown
  have H2 : Hid (Below w.heap.size w (U1.alloc (.cells #[.slice (some ⟨gk, 0, none⟩) 32 32, .slice va vl vc] 142)) ∧ (U1.alloc (.cells #[.slice (some ⟨gk, 0, none⟩) 32 32, .slice va vl vc] 142)).heap[w.heap.size + 1]? = some (.cells z32 33) ∧ (U1.alloc (.cells #[.slice (some ⟨gk, 0, none⟩) 32 32, .slice va vl vc] 142)).heap[g]? = some (.cells #[.nilIface, .nilFunc] 78) ∧ w.heap.size + 1 < g) := ⟨H1.out.1.trans (hb2.mono H1.out.1.size), (hb2.block _ (heap_lt H1.out.2.1)).trans H1.out.2.1, (hb2.block _ (heap_lt H1.out.2.2.1)).trans H1.out.2.2.1, H1.out.2.2.2⟩
  clear hb2 H1 HB
  generalize U1.alloc (.cells #[.slice (some ⟨gk, 0, none⟩) 32 32, .slice va vl vc] 142) = U2 at H2 ⊢
  have hC := put_any (w := U2) (b := g) (ak := some ⟨gk, 0, none⟩) (ck := 32) (av := va) (cv := vc) (ks := (rwB 32 C)) (vs := vs) H2.out.2.2.1 (by rw [rwB_length]; exact rwB_v ((H2.out.1.block _ (heap_lt HV.out.2.2.1)).trans HV.out.2.2.1)) (rwB_byt 32 C) (by rw [rwB_length]; decide) (by rw [← HV.out.2.2.2.2]; exact HV.out.2.2.2.1.below H2.out.1) HY.out.2.1 HY.out.2.2.1
  rw [rwB_length, ← HV.out.2.2.2.2] at hC
  refine Calls.mono hC ?_
  clear hC
  rintro e U3 ⟨rfl, hgr, hlt⟩
  have H3 : Hid (Below w.heap.size w U3 ∧ U3.heap[w.heap.size + 1]? = some (.cells z32 33) ∧ LeafT U3 g (rwB 32 C) vs) := ⟨⟨hgr.os.trans H2.out.1.os, hgr.tape.trans H2.out.1.tape, hgr.output.trans H2.out.1.output, Nat.le_trans H2.out.1.size hgr.size, fun i hi => (hgr.block i (Nat.lt_of_lt_of_le hi H2.out.1.size) (fun he => by cases he; have := H2.out.2.2.2; omega)).trans (H2.out.1.block i hi)⟩, (hgr.block _ (heap_lt H2.out.2.1) (fun he => by cases he; have := H2.out.2.2.2; omega)).trans H2.out.2.1, hlt⟩
  clear hgr hlt H2
  go_wp2_with fail
  rw [rounds_succ]
  go_wp2_with fail
  refine Calls.mono (troot_leaf (w := U3) (b := g) (ks := (rwB 32 C)) (vs := vs) Y HY.out.1 (HP.out.1.below H3.out.1 HP.out.2.1) H3.out.2.2 (rwB_byt 32 C) (by rw [rwB_length]; decide) HY.out.2.2.1 HY.out.2.2.2.1 HY.out.2.2.2.2.1 HY.out.2.2.2.2.2) ?_
  rintro e U4 ⟨hb4, nv, rfl, hn⟩
  obtain ⟨B4, cap4, ea, en, ec, rfl, hcp4, hcs4⟩ := hn.ex
  have H4 : Hid (Below w.heap.size w U4 ∧ U4.heap[w.heap.size + 1]? = some (.cells z32 33) ∧ 1 ≤ cap4 ∧ (∀ j, j < 33 → U4.cell? ⟨B4, j, none⟩ = some (ndF Y (.slice ea en ec) j))) := ⟨H3.out.1.trans (hb4.mono H3.out.1.size), (hb4.block _ (heap_lt H3.out.2.1)).trans H3.out.2.1, hcp4, hcs4⟩
  clear hb4 hn hcp4 hcs4 H3
  go_wp2_with (first | (refine wpList_store_row (o := { dst := none, op := Op.store 33 (Operand.tmp 10) (Operand.tmp 47), type := 0, pos := "root.go:81", after := _, guard := none }) rfl 33 _ _ rfl U4.heap.size (Kc.vec 32 (Kc.byt Y)) rfl rfl 33 _ (heap_alloc_new _ _) (Kc.info29v _) (by simp) (Kc.one_byt _ _) ?_; rw [World.setRow_alloc_new]))
  have hb5 : Below U4.heap.size U4 (U4.alloc (.cells (Kc.vec 32 (Kc.byt Y)) 33)) := by go_grown
  have hbw5 : Below w.heap.size w (U4.alloc (.cells (Kc.vec 32 (Kc.byt Y)) 33)) := H4.out.1.trans (hb5.mono H4.out.1.size)
  have HC : Hid _ := tell_one (w := U4.alloc (.cells (Kc.vec 32 (Kc.byt Y)) 33)) (t := t) (b := b) (k := k) (B0 := B4) (cap0 := cap4) (ea := ea) (en := en) (ec := ec) Y ((hbw5.block _ (heap_lt HP.out.2.2.2.1)).trans HP.out.2.2.2.1) ((hbw5.block _ (heap_lt HP.out.2.2.2.2.2.1)).trans HP.out.2.2.2.2.2.1) H4.out.2.2.1 (fun j hj => (hb5.cell (p := ⟨B4, j, none⟩) (by have := block_lt_of_cell (H4.out.2.2.2 j hj); simpa using this)).trans (H4.out.2.2.2 j hj))
  have H5 : Hid (Below w.heap.size w (U4.alloc (.cells (Kc.vec 32 (Kc.byt Y)) 33)) ∧ (U4.alloc (.cells (Kc.vec 32 (Kc.byt Y)) 33)).heap[w.heap.size + 1]? = some (.cells z32 33) ∧ (U4.alloc (.cells (Kc.vec 32 (Kc.byt Y)) 33)).heap[U4.heap.size]? = some (.cells (Kc.vec 32 (Kc.byt Y)) 33) ∧ w.heap.size + 1 < U4.heap.size) := ⟨hbw5, (hb5.block _ (heap_lt H4.out.2.1)).trans H4.out.2.1, heap_alloc_new _ _, heap_lt H4.out.2.1⟩
  clear hb5 hbw5 H4
  obtain ⟨q, hq⟩ : ∃ q, q = U4.heap.size := ⟨_, rfl⟩
  rw [← hq] at H5 ⊢
  clear hq
  generalize U4.alloc (.cells (Kc.vec 32 (Kc.byt Y)) 33) = U5 at H5 HC ⊢
  refine Calls.mono HC.out ?_
  rintro e U6 ⟨rfl, hg6, p6, c6, ht6⟩
  have htw : t < w.heap.size := heap_lt HP.out.2.2.2.1
  have hkw : k < w.heap.size := heap_lt HP.out.2.2.2.2.2.1
  have H6 : Hid (GrowT t k w U6 ∧ U6.heap[w.heap.size + 1]? = some (.cells z32 33) ∧ U6.heap[q]? = some (.cells (Kc.vec 32 (Kc.byt Y)) 33) ∧ U6.heap[t]? = some (TeC b (.slice p6 1 c6) k) ∧ t < w.heap.size) := ⟨(GrowT.of_below H5.out.1).trans hg6, (hg6.block _ (heap_lt H5.out.2.1) (by omega) (by omega)).trans H5.out.2.1, (hg6.block _ (heap_lt H5.out.2.2.1) (by have := H5.out.2.2.2; omega) (by have := H5.out.2.2.2; omega)).trans H5.out.2.2.1, ht6, htw⟩
  clear hg6 ht6 H5 HC htw hkw
  go_wp2_with (first | (refine wpList_load_r (o := { dst := some 52, op := Op.load 33 (Operand.tmp 10), type := 33, pos := "root.go:83", after := _, guard := none }) rfl 33 _ rfl ⟨q, 0, none⟩ rfl (.agg (Kc.vec 32 (Kc.byt Y))) (by exact load33 H6.out.2.2.1) ?_) | (refine wpList_store_row rfl 33 _ _ rfl (w.heap.size + 1) (Kc.vec 32 (Kc.byt Y)) rfl rfl 33 _ H6.out.2.1 (Kc.info29v _) (by simp) (Kc.one_byt _ _) ?_))
  refine bodyPost_ret (results_cell_row rfl _ _ _ _ _ _ _ rfl (setRow_heap _ _ _ _ _ _ H6.out.2.1) Tryz.underlying33 rfl (Kc.info29v _)) rfl ⟨rfl, ?_, p6, c6, (setRow_other _ _ _ _ (by have := H6.out.2.2.2.2; omega)).trans H6.out.2.2.2.1⟩
  exact ⟨H6.out.1.os, H6.out.1.tape, H6.out.1.output, by have := H6.out.1.size; simpa [World.setRow] using this, fun i hi h1 h2 => (setRow_other _ _ _ _ (by omega)).trans (H6.out.1.block i hi h1 h2)⟩
end Go.Proofs.YtboeokmaepchgaaGreatDoor
