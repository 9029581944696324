/- EdGroup: the walk. -/
import Derived.Test.YtionjibiemncbaaGreatGShH1
import Derived.Test.YtionjibiemncbaaGreatGAL
set_option linter.unusedSimpArgs false
set_option linter.unusedVariables false
namespace Go.Proofs.YtionjibiemncbaaGreat
open Go.RowKit
theorem load26 {w : World} {z : Nat} {v0 v1 : Value} (h : VarS w z 26 [v0, v1]) : (loadVar 26 ⟨z, 0, none⟩).run Tryz.prog w = .ok (.agg (catW [v0, v1])) w :=
  run_loadVar_row w z 26 26 _ (0, 0) _ h.2 Tryz.underlying26 rfl (by rw [catW_size h.1]; kernel_rfl)
set_option maxRecDepth 100000 in
set_option maxHeartbeats 2000000 in
theorem g_own {p0 p1 : Value} {x y : Int} (h0 : IsW p0 x) (h1 : IsW p1 y) (w : World) : Calls Tryz.prog 10 #[.agg (catW [p0, p1])] w fun e w' => e = .returned (.agg (catW [p0, p1])) ∧ Below w.heap.size w w' := by
  have A0 : Hid (IsW p0 x) := h0
  have A1 : Hid (IsW p1 y) := h1
  have V0 : Hid (VarS ((w.alloc (.cells (catW [p0, p1]) 26)).alloc (.cells #[.int .u64 0, .int .u64 0, .int .u64 0, .int .u64 0, .int .u64 0, .int .u64 0, .int .u64 0, .int .u64 0] 28)) w.heap.size 26 [p0, p1] ∧ VarS ((w.alloc (.cells (catW [p0, p1]) 26)).alloc (.cells #[.int .u64 0, .int .u64 0, .int .u64 0, .int .u64 0, .int .u64 0, .int .u64 0, .int .u64 0, .int .u64 0] 28)) (w.heap.size + 1) 28 [W4 0 0 0 0, W4 0 0 0 0] ∧ Below w.heap.size w ((w.alloc (.cells (catW [p0, p1]) 26)).alloc (.cells #[.int .u64 0, .int .u64 0, .int .u64 0, .int .u64 0, .int .u64 0, .int .u64 0, .int .u64 0, .int .u64 0] 28))) := ⟨⟨words2 h0 h1, heap_old _ _ _ _ (heap_alloc_new _ _)⟩, ⟨words2 isw0 isw0, by rw [← zero8]; exact heapAt _ _ _ (by simp)⟩, by go_grown⟩
  clear h0 h1
  have hst := V0.out.2.1.store (us := [p0, p1]) (words2 A0.out A1.out) rfl (by kernel_rfl)
  have hl := load28 (V0.out.2.1.put (words2 A0.out A1.out))
  obtain ⟨a0, a1, a2, a3, rfl, _, _⟩ := A0.out
  obtain ⟨b0, b1, b2, b3, rfl, _, _⟩ := A1.out
  go_enter Tryz.func10, Tryz.ntmps10
  go_wp2_with (first | (refine wpList_load_run rfl 24 _ rfl _ rfl (V0.out.1.part 0 rfl) ?_) | (refine wpList_load_run rfl 24 _ rfl _ rfl (V0.out.1.part 1 rfl) ?_) | (refine wpList_build rfl 28 _ rfl (by kernel_rfl) ?_; generalize hG : (Program.built _ _ _).getD #[] = G; obtain rfl : G = catW [W4 a0 a1 a2 a3, W4 b0 b1 b2 b3] := by rw [← hG]; kernel_rfl) | (refine wpList_store_run rfl 28 _ _ rfl (w.heap.size + 1) (catW [W4 a0 a1 a2 a3, W4 b0 b1 b2 b3]) rfl rfl hst ?_))
  exact bodyPost_ret (v := .agg (catW [W4 a0 a1 a2 a3, W4 b0 b1 b2 b3])) (by simp [results, Tryz.results10, asAddr, Act.put, hl]) rfl ⟨rfl, below_setRow V0.out.2.2 (by omega) _⟩
theorem g_addPt {p0 p1 q0 q1 : Value} {p q : Pt} (h0 : IsF p0 p.x) (h1 : IsF p1 p.y) (k0 : IsF q0 q.x) (k1 : IsF q1 q.y) (w : World) : Calls Tryz.prog 13 #[.agg (catW [p0, p1]), .agg (catW [q0, q1])] w fun e w' => ∃ v0 v1, e = .returned (.agg (catW [v0, v1])) ∧ (IsF v0 (p.add q).x ∧ IsF v1 (p.add q).y) ∧ Below w.heap.size w w' := by
  have h := g_padd h0 h1 k0 k1 w
  rw [ptOf_pt, ptOf_pt] at h
  exact h
theorem eqPt {a0 a1 b0 b1 : Value} {p q : Pt} (ha0 : IsF a0 p.x) (ha1 : IsF a1 p.y) (hb0 : IsF b0 q.x) (hb1 : IsF b1 q.y) (h : p = q) (w : World) : (Op.equalIn 10000 28 (.agg (catW [a0, a1])) (.agg (catW [b0, b1]))).run Tryz.prog w = .ok true w := by
  rw [eqP ha0 ha1 hb0 hb1 w, h]
  simp
theorem isF1 : IsF (W4 1 0 0 0) 1 := isw1
theorem isw2 : IsW (W4 2 0 0 0) 2 := isw_small 2 (by decide)
theorem mul_two (p : Pt) : Pt.mul (2 : Int).toNat p = p.add p := by
  show Pt.mul (1 + 1) p = _
  rw [mul_add, mul_one]
theorem mul_LL : Pt.mul LL.toNat Pt.base = Pt.zero := by
  rw [LL_nat, Int.toNat_natCast]; exact base_L
set_option maxRecDepth 100000 in
set_option maxHeartbeats 8000000 in
theorem group_all {a0 a1 b0 b1 c0 c1 : Value} {xa ya xb yb xc yc : Int} (ha0 : IsW a0 xa) (ha1 : IsW a1 ya) (hb0 : IsW b0 xb) (hb1 : IsW b1 yb) (hc0 : IsW c0 xc) (hc1 : IsW c1 yc)  (w : World) : Calls Tryz.prog 7 #[.agg (catW [a0, a1]), .agg (catW [b0, b1]), .agg (catW [c0, c1])] w fun e w' => e = .returned (.bool true) ∧ Below w.heap.size w w' := by
  have HA : Hid (IsW a0 xa ∧ IsW a1 ya) := ⟨ha0, ha1⟩
  have HB : Hid (IsW b0 xb ∧ IsW b1 yb) := ⟨hb0, hb1⟩
  have HC : Hid (IsW c0 xc ∧ IsW c1 yc) := ⟨hc0, hc1⟩
  have V0 : Hid (VarS (((w.alloc (.cells (catW [a0, a1]) 26)).alloc (.cells (catW [b0, b1]) 26)).alloc (.cells (catW [c0, c1]) 26)) w.heap.size 26 [a0, a1] ∧ VarS (((w.alloc (.cells (catW [a0, a1]) 26)).alloc (.cells (catW [b0, b1]) 26)).alloc (.cells (catW [c0, c1]) 26)) (w.heap.size + 1) 26 [b0, b1] ∧ VarS (((w.alloc (.cells (catW [a0, a1]) 26)).alloc (.cells (catW [b0, b1]) 26)).alloc (.cells (catW [c0, c1]) 26)) (w.heap.size + 2) 26 [c0, c1] ∧ Below w.heap.size w (((w.alloc (.cells (catW [a0, a1]) 26)).alloc (.cells (catW [b0, b1]) 26)).alloc (.cells (catW [c0, c1]) 26))) := ⟨⟨words2 ha0 ha1, heap_old _ _ _ _ (heap_old _ _ _ _ (heap_alloc_new _ _))⟩, ⟨words2 hb0 hb1, heap_old _ _ _ _ (heapAt _ _ _ (by simp))⟩, ⟨words2 hc0 hc1, heapAt _ _ _ (by simp)⟩, by go_grown⟩
  clear ha0 ha1 hb0 hb1 hc0 hc1
  go_enter Tryz.func7, Tryz.ntmps7
  go_wp2
  generalize (((w.alloc (.cells (catW [a0, a1]) 26)).alloc (.cells (catW [b0, b1]) 26)).alloc (.cells (catW [c0, c1]) 26)) = w0 at V0 ⊢
  refine wp_region_inv (by kernel_rfl) 12 rfl (fun l a w' => ∃ (β0 β1 β2 β3 β4 β5 β6 β7 β8 β9 β10 β11 : Bool) (z1_6 z1_7 z1_8 : Nat), l = #[β0, β1, β2, β3, β4, β5, β6, β7, β8, β9, β10, β11] ∧ a = ⟨#[.agg (catW [a0, a1]), .agg (catW [b0, b1]), .agg (catW [c0, c1]), .pointer (some ⟨w.heap.size, 0, none⟩), .pointer (some ⟨w.heap.size + 1, 0, none⟩), .pointer (some ⟨w.heap.size + 2, 0, none⟩), .bool false, bif β6 then .pointer (some ⟨z1_6, 0, none⟩) else undef, bif β7 then .pointer (some ⟨z1_7, 0, none⟩) else undef, bif β8 then .pointer (some ⟨z1_8, 0, none⟩) else undef, undef, undef, bif β0 then .agg (catW [a0, a1]) else undef, bif β1 then .agg (catW [a0, a1]) else undef, bif β2 then .agg (catW [b0, b1]) else undef, bif β3 then .agg (catW [b0, b1]) else undef, bif β4 then .agg (catW [c0, c1]) else undef, bif β5 then .agg (catW [c0, c1]) else undef, undef, undef, undef, undef, undef, undef, undef, undef, undef, undef, undef, undef, undef, undef, undef, undef, undef, undef, undef, undef, undef, undef, undef, undef, undef, undef, undef, undef, undef, undef, undef, undef, undef, undef, undef, undef, undef, undef, undef, undef, undef, undef, undef, undef, undef, undef, undef, undef, undef, undef, undef, undef, undef, undef, undef, undef, undef, undef, undef, undef, undef, undef, undef, undef, undef, undef, undef, undef, undef, undef, undef, undef, undef, undef, undef, undef], []⟩ ∧ Below w0.heap.size w0 w' ∧ Hid (β6 = true → w0.heap.size ≤ z1_6 ∧ VarS w' z1_6 28 (bif β9 then [a0, a1] else [W4 0 0 0 0, W4 0 0 0 0])) ∧ Hid (β7 = true → w0.heap.size ≤ z1_7 ∧ VarS w' z1_7 28 (bif β10 then [b0, b1] else [W4 0 0 0 0, W4 0 0 0 0])) ∧ Hid (β8 = true → w0.heap.size ≤ z1_8 ∧ VarS w' z1_8 28 (bif β11 then [c0, c1] else [W4 0 0 0 0, W4 0 0 0 0])) ∧ Hid (β6 = true → β7 = true → z1_6 ≠ z1_7) ∧ Hid (β6 = true → β8 = true → z1_6 ≠ z1_8) ∧ Hid (β7 = true → β8 = true → z1_7 ≠ z1_8) ∧ Hid (β9 = true → β6 = true) ∧ Hid (β10 = true → β7 = true) ∧ Hid (β11 = true → β8 = true)) ?h01 ?hend1 ?hstep1
  case h01 => exact ⟨false, false, false, false, false, false, false, false, false, false, false, false, 0, 0, 0, rfl, rfl, Below.drew (Below.refl _ _), (fun h => by cases h), (fun h => by cases h), (fun h => by cases h), (fun h => by cases h), (fun h => by cases h), (fun h => by cases h), (fun h => by cases h), (fun h => by cases h), (fun h => by cases h)⟩
  case hend1 =>
    intro l a w' hs hI hr0
    obtain ⟨β0, β1, β2, β3, β4, β5, β6, β7, β8, β9, β10, β11, z1_6, z1_7, z1_8, rfl, rfl, hB, ha1_6, ha1_7, ha1_8, hd1_6_7, hd1_6_8, hd1_7_8, hm1_9_6, hm1_10_7, hm1_11_8⟩ := hI
    have hall := ready_none (by rfl) (depsLow_spec (by kernel_rfl)) hr0
    obtain rfl : β0 = true := hall 0 (by decide)
    obtain rfl : β1 = true := hall 1 (by decide)
    obtain rfl : β2 = true := hall 2 (by decide)
    obtain rfl : β3 = true := hall 3 (by decide)
    obtain rfl : β4 = true := hall 4 (by decide)
    obtain rfl : β5 = true := hall 5 (by decide)
    obtain rfl : β6 = true := hall 6 (by decide)
    obtain rfl : β7 = true := hall 7 (by decide)
    obtain rfl : β8 = true := hall 8 (by decide)
    obtain rfl : β9 = true := hall 9 (by decide)
    obtain rfl : β10 = true := hall 10 (by decide)
    obtain rfl : β11 = true := hall 11 (by decide)
    clear hall hr0 hs
    replace ha1_6 := ha1_6.out rfl
    replace ha1_7 := ha1_7.out rfl
    replace ha1_8 := ha1_8.out rfl
    replace hd1_6_7 := hd1_6_7.out rfl rfl
    replace hd1_6_8 := hd1_6_8.out rfl rfl
    replace hd1_7_8 := hd1_7_8.out rfl rfl
    clear hm1_9_6 hm1_10_7 hm1_11_8
    simp only [cond_true] at ha1_6 ha1_7 ha1_8 ⊢
    have V1 : Hid (VarS w' z1_6 28 [a0, a1] ∧ VarS w' z1_7 28 [b0, b1] ∧ VarS w' z1_8 28 [c0, c1] ∧ Below w.heap.size w w') := ⟨ha1_6.2, ha1_7.2, ha1_8.2, V0.out.2.2.2.trans (hB.mono V0.out.2.2.2.size)⟩
    clear V0 hB ha1_6 ha1_7 ha1_8 hd1_6_7 hd1_6_8 hd1_7_8
    generalize w' = w1 at V1 ⊢
    go_wp2_with (first | (refine wpList_load_run rfl 28 _ rfl _ rfl (load28 V1.out.1) ?_))
    refine Calls.mono (g_on HA.out.1 HA.out.2 _) ?_
    rintro e w2 ⟨rfl, b⟩
    have V2 : Hid (VarS w2 z1_6 28 [a0, a1] ∧ VarS w2 z1_7 28 [b0, b1] ∧ VarS w2 z1_8 28 [c0, c1] ∧ Below w.heap.size w w2) := ⟨V1.out.1.kept b, V1.out.2.1.kept b, V1.out.2.2.1.kept b, V1.out.2.2.2.trans (b.mono V1.out.2.2.2.size)⟩
    clear V1 b
    rcases hp : ptOf xa ya with _ | pa
    · go_wp2_with fail
      refine Calls.mono (alive_any _) ?_
      rintro e wx ⟨rfl, bx⟩
      have hbl := V2.out.2.2.2.trans (bx.mono V2.out.2.2.2.size)
      clear V2 bx
      go_wp2
      go_ret
      exact ⟨rfl, hbl⟩
    have FA : Hid (IsF a0 pa.x ∧ IsF a1 pa.y) := by
      obtain ⟨⟨l0, l1⟩, e0, e1⟩ := ptOf_some hp
      rw [e0, e1]; exact ⟨isF_lt HA.out.1 l0, isF_lt HA.out.2 l1⟩
    clear hp
    go_wp2_with (first | (refine wpList_load_want (by rfl) 28 _ rfl _ rfl (load28 V2.out.2.1) ?_))
    refine Calls.mono (g_on HB.out.1 HB.out.2 _) ?_
    rintro e w3 ⟨rfl, b⟩
    have V3 : Hid (VarS w3 z1_6 28 [a0, a1] ∧ VarS w3 z1_7 28 [b0, b1] ∧ VarS w3 z1_8 28 [c0, c1] ∧ Below w.heap.size w w3) := ⟨V2.out.1.kept b, V2.out.2.1.kept b, V2.out.2.2.1.kept b, V2.out.2.2.2.trans (b.mono V2.out.2.2.2.size)⟩
    clear V2 b
    rcases hp : ptOf xb yb with _ | pb
    · go_wp2_with fail
      refine Calls.mono (alive_any _) ?_
      rintro e wx ⟨rfl, bx⟩
      have hbl := V3.out.2.2.2.trans (bx.mono V3.out.2.2.2.size)
      clear V3 bx
      go_wp2
      go_ret
      exact ⟨rfl, hbl⟩
    have FB : Hid (IsF b0 pb.x ∧ IsF b1 pb.y) := by
      obtain ⟨⟨l0, l1⟩, e0, e1⟩ := ptOf_some hp
      rw [e0, e1]; exact ⟨isF_lt HB.out.1 l0, isF_lt HB.out.2 l1⟩
    clear hp
    go_wp2_with (first | (refine wpList_load_want (by rfl) 28 _ rfl _ rfl (load28 V3.out.2.2.1) ?_))
    refine Calls.mono (g_on HC.out.1 HC.out.2 _) ?_
    rintro e w4 ⟨rfl, b⟩
    have V4 : Hid (VarS w4 z1_6 28 [a0, a1] ∧ VarS w4 z1_7 28 [b0, b1] ∧ VarS w4 z1_8 28 [c0, c1] ∧ Below w.heap.size w w4) := ⟨V3.out.1.kept b, V3.out.2.1.kept b, V3.out.2.2.1.kept b, V3.out.2.2.2.trans (b.mono V3.out.2.2.2.size)⟩
    clear V3 b
    rcases hp : ptOf xc yc with _ | pc
    · go_wp2_with fail
      refine Calls.mono (alive_any _) ?_
      rintro e wx ⟨rfl, bx⟩
      have hbl := V4.out.2.2.2.trans (bx.mono V4.out.2.2.2.size)
      clear V4 bx
      go_wp2
      go_ret
      exact ⟨rfl, hbl⟩
    have FC : Hid (IsF c0 pc.x ∧ IsF c1 pc.y) := by
      obtain ⟨⟨l0, l1⟩, e0, e1⟩ := ptOf_some hp
      rw [e0, e1]; exact ⟨isF_lt HC.out.1 l0, isF_lt HC.out.2 l1⟩
    clear hp
    have hst := (VarS.new28 w4).store (us := [W4 0 0 0 0, W4 1 0 0 0]) (words2 isw0 isw1) rfl (by kernel_rfl)
    have bx : Below w4.heap.size w4 ((w4.alloc (.cells #[.int .u64 0, .int .u64 0, .int .u64 0, .int .u64 0, .int .u64 0, .int .u64 0, .int .u64 0, .int .u64 0] 28)).setRow w4.heap.size (catW [W4 0 0 0 0, W4 1 0 0 0])) := below_setRow ((Below.refl _ _).alloc (Nat.le_refl _) _) (Nat.le_refl _) _
    obtain ⟨w5, hw5⟩ : ∃ w5, w5 = ((w4.alloc (.cells #[.int .u64 0, .int .u64 0, .int .u64 0, .int .u64 0, .int .u64 0, .int .u64 0, .int .u64 0, .int .u64 0] 28)).setRow w4.heap.size (catW [W4 0 0 0 0, W4 1 0 0 0])) := ⟨_, rfl⟩
    have HW5 : Hid (w5 = ((w4.alloc (.cells #[.int .u64 0, .int .u64 0, .int .u64 0, .int .u64 0, .int .u64 0, .int .u64 0, .int .u64 0, .int .u64 0] 28)).setRow w4.heap.size (catW [W4 0 0 0 0, W4 1 0 0 0]))) := hw5
    have V5 : Hid (VarS w5 z1_6 28 [a0, a1] ∧ VarS w5 z1_7 28 [b0, b1] ∧ VarS w5 z1_8 28 [c0, c1] ∧ Below w.heap.size w w5 ∧ VarS w5 w4.heap.size 28 [W4 0 0 0 0, W4 1 0 0 0]) := by
      rw [hw5]; exact ⟨V4.out.1.kept bx, V4.out.2.1.kept bx, V4.out.2.2.1.kept bx, V4.out.2.2.2.trans (bx.mono V4.out.2.2.2.size), (VarS.new28 w4).put (words2 isw0 isw1)⟩
    clear hw5 bx V4
    go_wp2_with (first | (refine wpList_build rfl 28 _ rfl (by kernel_rfl) ?_; generalize hG : (Program.built _ _ _).getD #[] = G; obtain rfl : G = catW [W4 0 0 0 0, W4 1 0 0 0] := by rw [← hG]; kernel_rfl) | (refine wpList_store_run rfl 28 _ _ rfl w4.heap.size (catW [W4 0 0 0 0, W4 1 0 0 0]) rfl (by kernel_rfl) hst ?_; rw [← HW5.out]))
    clear hst HW5
    generalize w4.heap.size = zn at V5 ⊢
    refine wp_region_inv (by kernel_rfl) 9 rfl (fun l a w' => ∃ (β0 β1 β2 β3 β4 β5 β6 β7 β8 : Bool) (x5_3 : Value) (z5_7 : Nat), l = #[β0, β1, β2, β3, β4, β5, β6, β7, β8] ∧ a = ⟨#[.agg (catW [a0, a1]), .agg (catW [b0, b1]), .agg (catW [c0, c1]), .pointer (some ⟨w.heap.size, 0, none⟩), .pointer (some ⟨w.heap.size + 1, 0, none⟩), .pointer (some ⟨w.heap.size + 2, 0, none⟩), .bool false, .pointer (some ⟨z1_6, 0, none⟩), .pointer (some ⟨z1_7, 0, none⟩), .pointer (some ⟨z1_8, 0, none⟩), .pointer (some ⟨zn, 0, none⟩), bif β7 then .pointer (some ⟨z5_7, 0, none⟩) else undef, .agg (catW [a0, a1]), .agg (catW [a0, a1]), .agg (catW [b0, b1]), .agg (catW [b0, b1]), .agg (catW [c0, c1]), .agg (catW [c0, c1]), .agg (catW [a0, a1]), .bool true, .bool false, .bool false, .agg (catW [b0, b1]), .bool true, .bool false, .bool false, .bool false, .agg (catW [c0, c1]), .bool true, .bool false, .bool false, undef, .agg #[.int .u64 1, .int .u64 0, .int .u64 0, .int .u64 0], .agg (catW [W4 0 0 0 0, W4 1 0 0 0]), bif β0 then W4 0 0 0 0 else undef, bif β1 then .pointer (some ⟨z1_6, 0, none⟩) else undef, bif β2 then a0 else undef, bif β3 then x5_3 else undef, bif β4 then .pointer (some ⟨z1_6, 4, none⟩) else undef, bif β5 then a1 else undef, bif β6 then .agg (catW [x5_3, a1]) else undef, undef, undef, undef, undef, undef, undef, undef, undef, undef, undef, undef, undef, undef, undef, undef, undef, undef, undef, undef, undef, undef, undef, undef, undef, undef, undef, undef, undef, undef, undef, undef, undef, undef, undef, undef, undef, undef, undef, undef, undef, undef, undef, undef, undef, undef, undef, undef, undef, undef, undef, undef, undef, undef], []⟩ ∧ Below w5.heap.size w5 w' ∧ Hid (β3 = true → IsW x5_3 (((0 - pa.x : K).val : Int))) ∧ Hid (β7 = true → w5.heap.size ≤ z5_7 ∧ VarS w' z5_7 28 (bif β8 then [x5_3, a1] else [W4 0 0 0 0, W4 0 0 0 0])) ∧ Hid (β6 = true → β3 = true) ∧ Hid (β8 = true → β3 = true) ∧ Hid (β8 = true → β7 = true)) ?h05 ?hend5 ?hstep5
    case h05 => exact ⟨false, false, false, false, false, false, false, false, false, undef, 0, rfl, rfl, Below.drew (Below.refl _ _), (fun h => by cases h), (fun h => by cases h), (fun h => by cases h), (fun h => by cases h), (fun h => by cases h)⟩
    case hend5 =>
      intro l a w' hs hI hr0
      obtain ⟨β0, β1, β2, β3, β4, β5, β6, β7, β8, x5_3, z5_7, rfl, rfl, hB, hc5_3, ha5_7, hm5_6_3, hm5_8_3, hm5_8_7⟩ := hI
      have hall := ready_none (by rfl) (depsLow_spec (by kernel_rfl)) hr0
      obtain rfl : β0 = true := hall 0 (by decide)
      obtain rfl : β1 = true := hall 1 (by decide)
      obtain rfl : β2 = true := hall 2 (by decide)
      obtain rfl : β3 = true := hall 3 (by decide)
      obtain rfl : β4 = true := hall 4 (by decide)
      obtain rfl : β5 = true := hall 5 (by decide)
      obtain rfl : β6 = true := hall 6 (by decide)
      obtain rfl : β7 = true := hall 7 (by decide)
      obtain rfl : β8 = true := hall 8 (by decide)
      clear hall hr0 hs
      replace hc5_3 := hc5_3.out rfl
      replace ha5_7 := ha5_7.out rfl
      clear hm5_6_3 hm5_8_3 hm5_8_7
      simp only [cond_true] at ha5_7 ⊢
      have HX : Hid (IsF x5_3 pa.neg.x ∧ IsF a1 pa.neg.y) := by
        have hx : IsF x5_3 (0 - pa.x) := hc5_3
        rw [neg_x] at hx
        exact ⟨hx, FA.out.2⟩
      have V6 : Hid (VarS w' z1_6 28 [a0, a1] ∧ VarS w' z1_7 28 [b0, b1] ∧ VarS w' z1_8 28 [c0, c1] ∧ Below w.heap.size w w' ∧ VarS w' zn 28 [W4 0 0 0 0, W4 1 0 0 0] ∧ VarS w' z5_7 28 [x5_3, a1]) := ⟨V5.out.1.kept hB, V5.out.2.1.kept hB, V5.out.2.2.1.kept hB, V5.out.2.2.2.1.trans (hB.mono V5.out.2.2.2.1.size), V5.out.2.2.2.2.kept hB, ha5_7.2⟩
      clear V5 hB hc5_3 ha5_7
      generalize w' = w6 at V6 ⊢
      go_wp2
      refine wp_region_held_drew (S := fun w' => Below w6.heap.size w6 w') (by kernel_rfl) (Below.drew (Below.refl _ _)) (fun hHeld => ?_)
      generalize w6.drew = wd at hHeld ⊢
      refine tk 0 (.agg (catW [a0, a1])) (fun w9 hSw => ?_) hHeld ?_
      · exact run_load_exec 28 _ rfl _ rfl (load28 (V6.out.1.kept hSw))
      simp only [sm]
      refine tk 1 (.agg (catW [b0, b1])) (fun w9 hSw => ?_) hHeld ?_
      · exact run_load_exec 28 _ rfl _ rfl (load28 (V6.out.2.1.kept hSw))
      simp only [sm]
      refine tk 3 (.agg (catW [b0, b1])) (fun w9 hSw => ?_) hHeld ?_
      · exact run_load_exec 28 _ rfl _ rfl (load28 (V6.out.2.1.kept hSw))
      simp only [sm]
      refine tk 4 (.agg (catW [a0, a1])) (fun w9 hSw => ?_) hHeld ?_
      · exact run_load_exec 28 _ rfl _ rfl (load28 (V6.out.1.kept hSw))
      simp only [sm]
      refine rd 2 (fun K hK => ?_)
      go_simp
      refine Calls.mono (g_addPt (p := pa) (q := pb) FA.out.1 FA.out.2 FB.out.1 FB.out.2 _) ?_
      rintro e wc43 ⟨r43_0, r43_1, rfl, hr43, b43⟩
      have HR43 : Hid (IsF r43_0 ((pa).add (pb)).x ∧ IsF r43_1 ((pa).add (pb)).y) := hr43
      go_wp2_with fail
      refine hK.out _ _ (hHeld.trans (b43.mono hHeld.size)) (fun hHeld => ?_)
      clear hK K hr43 b43
      try simp only [sm]
      refine rd 5 (fun K hK => ?_)
      go_simp
      refine Calls.mono (g_addPt (p := pb) (q := pa) FB.out.1 FB.out.2 FA.out.1 FA.out.2 _) ?_
      rintro e wc46 ⟨r46_0, r46_1, rfl, hr46, b46⟩
      have HR46 : Hid (IsF r46_0 ((pb).add (pa)).x ∧ IsF r46_1 ((pb).add (pa)).y) := hr46
      go_wp2_with fail
      refine hK.out _ _ (hHeld.trans (b46.mono hHeld.size)) (fun hHeld => ?_)
      clear hK K hr46 b46
      try simp only [sm]
      refine tk 6 (.bool true) (fun w9 hSw => ?_) hHeld ?_
      · have heq := fun w => eqPt HR43.out.1 HR43.out.2 HR46.out.1 HR46.out.2 (add_comm pa pb) w
        have := heq w9
        go_simp
      simp only [sm]
      refine tk 7 (.bool true) (fun w9 hSw => ?_) hHeld ?_
      · go_simp
      simp only [sm]
      refine tk 8 (.agg (catW [a0, a1])) (fun w9 hSw => ?_) hHeld ?_
      · exact run_load_exec 28 _ rfl _ rfl (load28 (V6.out.1.kept hSw))
      simp only [sm]
      refine tk 9 (.agg (catW [b0, b1])) (fun w9 hSw => ?_) hHeld ?_
      · exact run_load_exec 28 _ rfl _ rfl (load28 (V6.out.2.1.kept hSw))
      simp only [sm]
      refine tk 11 (.agg (catW [c0, c1])) (fun w9 hSw => ?_) hHeld ?_
      · exact run_load_exec 28 _ rfl _ rfl (load28 (V6.out.2.2.1.kept hSw))
      simp only [sm]
      refine tk 13 (.agg (catW [a0, a1])) (fun w9 hSw => ?_) hHeld ?_
      · exact run_load_exec 28 _ rfl _ rfl (load28 (V6.out.1.kept hSw))
      simp only [sm]
      refine tk 14 (.agg (catW [b0, b1])) (fun w9 hSw => ?_) hHeld ?_
      · exact run_load_exec 28 _ rfl _ rfl (load28 (V6.out.2.1.kept hSw))
      simp only [sm]
      refine tk 15 (.agg (catW [c0, c1])) (fun w9 hSw => ?_) hHeld ?_
      · exact run_load_exec 28 _ rfl _ rfl (load28 (V6.out.2.2.1.kept hSw))
      simp only [sm]
      refine rd 10 (fun K hK => ?_)
      go_simp
      refine Calls.mono (g_addPt (p := pa) (q := pb) FA.out.1 FA.out.2 FB.out.1 FB.out.2 _) ?_
      rintro e wc51 ⟨r51_0, r51_1, rfl, hr51, b51⟩
      have HR51 : Hid (IsF r51_0 ((pa).add (pb)).x ∧ IsF r51_1 ((pa).add (pb)).y) := hr51
      go_wp2_with fail
      refine hK.out _ _ (hHeld.trans (b51.mono hHeld.size)) (fun hHeld => ?_)
      clear hK K hr51 b51
      try simp only [sm]
      refine rd 12 (fun K hK => ?_)
      go_simp
      refine Calls.mono (g_addPt (p := ((pa).add (pb))) (q := pc) HR51.out.1 HR51.out.2 FC.out.1 FC.out.2 _) ?_
      rintro e wc53 ⟨r53_0, r53_1, rfl, hr53, b53⟩
      have HR53 : Hid (IsF r53_0 ((((pa).add (pb))).add (pc)).x ∧ IsF r53_1 ((((pa).add (pb))).add (pc)).y) := hr53
      go_wp2_with fail
      refine hK.out _ _ (hHeld.trans (b53.mono hHeld.size)) (fun hHeld => ?_)
      clear hK K hr53 b53
      try simp only [sm]
      refine rd 16 (fun K hK => ?_)
      go_simp
      refine Calls.mono (g_addPt (p := pb) (q := pc) FB.out.1 FB.out.2 FC.out.1 FC.out.2 _) ?_
      rintro e wc57 ⟨r57_0, r57_1, rfl, hr57, b57⟩
      have HR57 : Hid (IsF r57_0 ((pb).add (pc)).x ∧ IsF r57_1 ((pb).add (pc)).y) := hr57
      go_wp2_with fail
      refine hK.out _ _ (hHeld.trans (b57.mono hHeld.size)) (fun hHeld => ?_)
      clear hK K hr57 b57
      try simp only [sm]
      refine rd 17 (fun K hK => ?_)
      go_simp
      refine Calls.mono (g_addPt (p := pa) (q := ((pb).add (pc))) FA.out.1 FA.out.2 HR57.out.1 HR57.out.2 _) ?_
      rintro e wc58 ⟨r58_0, r58_1, rfl, hr58, b58⟩
      have HR58 : Hid (IsF r58_0 ((pa).add (((pb).add (pc)))).x ∧ IsF r58_1 ((pa).add (((pb).add (pc)))).y) := hr58
      go_wp2_with fail
      refine hK.out _ _ (hHeld.trans (b58.mono hHeld.size)) (fun hHeld => ?_)
      clear hK K hr58 b58
      try simp only [sm]
      refine tk 18 (.bool true) (fun w9 hSw => ?_) hHeld ?_
      · have heq := fun w => eqPt HR53.out.1 HR53.out.2 HR58.out.1 HR58.out.2 (add_assoc pa pb pc) w
        have := heq w9
        go_simp
      simp only [sm]
      refine tk 19 (.bool true) (fun w9 hSw => ?_) hHeld ?_
      · go_simp
      simp only [sm]
      refine tk 20 (.bool true) (fun w9 hSw => ?_) hHeld ?_
      · go_simp
      simp only [sm]
      refine tk 21 (.agg (catW [a0, a1])) (fun w9 hSw => ?_) hHeld ?_
      · exact run_load_exec 28 _ rfl _ rfl (load28 (V6.out.1.kept hSw))
      simp only [sm]
      refine tk 22 (.agg (catW [W4 0 0 0 0, W4 1 0 0 0])) (fun w9 hSw => ?_) hHeld ?_
      · exact run_load_exec 28 _ rfl _ rfl (load28 (V6.out.2.2.2.2.1.kept hSw))
      simp only [sm]
      refine tk 24 (.agg (catW [a0, a1])) (fun w9 hSw => ?_) hHeld ?_
      · exact run_load_exec 28 _ rfl _ rfl (load28 (V6.out.1.kept hSw))
      simp only [sm]
      refine rd 23 (fun K hK => ?_)
      go_simp
      refine Calls.mono (g_addPt (p := pa) (q := Pt.zero) FA.out.1 FA.out.2 isF0 isF1 _) ?_
      rintro e wc64 ⟨r64_0, r64_1, rfl, hr64, b64⟩
      have HR64 : Hid (IsF r64_0 ((pa).add (Pt.zero)).x ∧ IsF r64_1 ((pa).add (Pt.zero)).y) := hr64
      go_wp2_with fail
      refine hK.out _ _ (hHeld.trans (b64.mono hHeld.size)) (fun hHeld => ?_)
      clear hK K hr64 b64
      try simp only [sm]
      refine tk 25 (.bool true) (fun w9 hSw => ?_) hHeld ?_
      · have heq := fun w => eqPt HR64.out.1 HR64.out.2 FA.out.1 FA.out.2 (add_zero pa) w
        have := heq w9
        go_simp
      simp only [sm]
      refine tk 26 (.bool true) (fun w9 hSw => ?_) hHeld ?_
      · go_simp
      simp only [sm]
      refine tk 27 (.bool true) (fun w9 hSw => ?_) hHeld ?_
      · go_simp
      simp only [sm]
      refine tk 28 (.agg (catW [a0, a1])) (fun w9 hSw => ?_) hHeld ?_
      · exact run_load_exec 28 _ rfl _ rfl (load28 (V6.out.1.kept hSw))
      simp only [sm]
      refine tk 29 (.agg (catW [x5_3, a1])) (fun w9 hSw => ?_) hHeld ?_
      · exact run_load_exec 28 _ rfl _ rfl (load28 (V6.out.2.2.2.2.2.kept hSw))
      simp only [sm]
      refine tk 31 (.agg (catW [W4 0 0 0 0, W4 1 0 0 0])) (fun w9 hSw => ?_) hHeld ?_
      · exact run_load_exec 28 _ rfl _ rfl (load28 (V6.out.2.2.2.2.1.kept hSw))
      simp only [sm]
      refine rd 30 (fun K hK => ?_)
      go_simp
      refine Calls.mono (g_addPt (p := pa) (q := pa.neg) FA.out.1 FA.out.2 HX.out.1 HX.out.2 _) ?_
      rintro e wc71 ⟨r71_0, r71_1, rfl, hr71, b71⟩
      have HR71 : Hid (IsF r71_0 ((pa).add (pa.neg)).x ∧ IsF r71_1 ((pa).add (pa.neg)).y) := hr71
      go_wp2_with fail
      refine hK.out _ _ (hHeld.trans (b71.mono hHeld.size)) (fun hHeld => ?_)
      clear hK K hr71 b71
      try simp only [sm]
      refine tk 32 (.bool true) (fun w9 hSw => ?_) hHeld ?_
      · have heq := fun w => eqPt HR71.out.1 HR71.out.2 isF0 isF1 (add_neg pa) w
        have := heq w9
        go_simp
      simp only [sm]
      refine tk 33 (.bool true) (fun w9 hSw => ?_) hHeld ?_
      · go_simp
      simp only [sm]
      refine tk 34 (.bool true) (fun w9 hSw => ?_) hHeld ?_
      · go_simp
      simp only [sm]
      refine tk 38 (.agg (catW [W4 0 0 0 0, W4 1 0 0 0])) (fun w9 hSw => ?_) hHeld ?_
      · exact run_load_exec 28 _ rfl _ rfl (load28 (V6.out.2.2.2.2.1.kept hSw))
      simp only [sm]
      refine rd 35 (fun K hK => ?_)
      go_simp
      refine Calls.mono (g_l _) ?_
      rintro e wc76 ⟨r76, rfl, hr76, b76⟩
      have HR76 : Hid (IsW r76 LL) := hr76
      go_wp2_with fail
      refine hK.out _ _ (hHeld.trans (b76.mono hHeld.size)) (fun hHeld => ?_)
      clear hK K hr76 b76
      try simp only [sm]
      refine rd 36 (fun K hK => ?_)
      go_simp
      refine Calls.mono (g_baseX _) ?_
      rintro e wc77 ⟨rfl, b77⟩
      go_wp2_with fail
      refine hK.out _ _ (hHeld.trans (b77.mono hHeld.size)) (fun hHeld => ?_)
      clear hK K b77
      try simp only [sm]
      refine rd 37 (fun K hK => ?_)
      go_simp
      refine Calls.mono (g_mulPt (p := Pt.base) HR76.out isF_BX isF_BY _) ?_
      rintro e wc78 ⟨r78_0, r78_1, rfl, hr78, b78⟩
      have HR78 : Hid (IsF r78_0 (Pt.mul (LL : Int).toNat Pt.base).x ∧ IsF r78_1 (Pt.mul (LL : Int).toNat Pt.base).y) := hr78
      go_wp2_with fail
      refine hK.out _ _ (hHeld.trans (b78.mono hHeld.size)) (fun hHeld => ?_)
      clear hK K hr78 b78
      try simp only [sm]
      refine tk 39 (.bool true) (fun w9 hSw => ?_) hHeld ?_
      · have heq := fun w => eqPt HR78.out.1 HR78.out.2 isF0 isF1 (mul_LL) w
        have := heq w9
        go_simp
      simp only [sm]
      refine tk 40 (.bool true) (fun w9 hSw => ?_) hHeld ?_
      · go_simp
      simp only [sm]
      refine tk 41 (.bool true) (fun w9 hSw => ?_) hHeld ?_
      · go_simp
      simp only [sm]
      refine tk 42 (W4 2 0 0 0) (fun w9 hSw => ?_) hHeld ?_
      · go_simp
        try kernel_rfl
      simp only [sm]
      refine tk 43 (.agg (catW [a0, a1])) (fun w9 hSw => ?_) hHeld ?_
      · exact run_load_exec 28 _ rfl _ rfl (load28 (V6.out.1.kept hSw))
      simp only [sm]
      refine tk 45 (.agg (catW [a0, a1])) (fun w9 hSw => ?_) hHeld ?_
      · exact run_load_exec 28 _ rfl _ rfl (load28 (V6.out.1.kept hSw))
      simp only [sm]
      refine tk 46 (.agg (catW [a0, a1])) (fun w9 hSw => ?_) hHeld ?_
      · exact run_load_exec 28 _ rfl _ rfl (load28 (V6.out.1.kept hSw))
      simp only [sm]
      refine rd 44 (fun K hK => ?_)
      go_simp
      refine Calls.mono (g_mulPt (p := pa) isw2 FA.out.1 FA.out.2 _) ?_
      rintro e wc85 ⟨r85_0, r85_1, rfl, hr85, b85⟩
      have HR85 : Hid (IsF r85_0 (Pt.mul (2 : Int).toNat pa).x ∧ IsF r85_1 (Pt.mul (2 : Int).toNat pa).y) := hr85
      go_wp2_with fail
      refine hK.out _ _ (hHeld.trans (b85.mono hHeld.size)) (fun hHeld => ?_)
      clear hK K hr85 b85
      try simp only [sm]
      refine rd 47 (fun K hK => ?_)
      go_simp
      refine Calls.mono (g_addPt (p := pa) (q := pa) FA.out.1 FA.out.2 FA.out.1 FA.out.2 _) ?_
      rintro e wc88 ⟨r88_0, r88_1, rfl, hr88, b88⟩
      have HR88 : Hid (IsF r88_0 ((pa).add (pa)).x ∧ IsF r88_1 ((pa).add (pa)).y) := hr88
      go_wp2_with fail
      refine hK.out _ _ (hHeld.trans (b88.mono hHeld.size)) (fun hHeld => ?_)
      clear hK K hr88 b88
      try simp only [sm]
      refine tk 48 (.bool true) (fun w9 hSw => ?_) hHeld ?_
      · have heq := fun w => eqPt HR85.out.1 HR85.out.2 HR88.out.1 HR88.out.2 (mul_two pa) w
        have := heq w9
        go_simp
      simp only [sm]
      refine tk 49 (.bool true) (fun w9 hSw => ?_) hHeld ?_
      · go_simp
      simp only [sm]
      refine tk 50 (.bool true) (fun w9 hSw => ?_) hHeld ?_
      · go_simp
      simp only [sm]
      refine rd 51 (fun K hK => ?_)
      go_simp
      refine Calls.mono (alive_any _) ?_
      rintro e wc92 ⟨rfl, b92⟩
      go_wp2_with fail
      refine hK.out _ _ (hHeld.trans (b92.mono hHeld.size)) (fun hHeld => ?_)
      clear hK K b92
      try simp only [sm]
      refine tk 52 (.bool true) (fun w9 hSw => ?_) hHeld ?_
      · go_simp
      simp only [sm]
      refine tk 53 (.bool true) (fun w9 hSw => ?_) hHeld ?_
      · go_simp
      simp only [sm]
      refine wpAnyH_done (by kernel_rfl) ?_ _
      have hbl := V6.out.2.2.2.1.trans (hHeld.mono V6.out.2.2.2.1.size)
      go_wp2
      go_ret
      exact ⟨rfl, hbl⟩
    case hstep5 =>
      intro i l a w' hs hI hi
      obtain ⟨β0, β1, β2, β3, β4, β5, β6, β7, β8, x5_3, z5_7, rfl, rfl, hB, hc5_3, ha5_7, hm5_6_3, hm5_8_3, hm5_8_7⟩ := hI
      obtain ⟨hlt, hun, _⟩ := ready_mem hi
      have hlt' : i < 9 := hlt
      clear hlt hs
      have hcs : i = 0 ∨ i = 1 ∨ i = 2 ∨ i = 3 ∨ i = 4 ∨ i = 5 ∨ i = 6 ∨ i = 7 ∨ i = 8 := by omega
      clear hlt'
      rcases hcs with rfl | rfl | rfl | rfl | rfl | rfl | rfl | rfl | rfl
      · obtain rfl : β0 = false := hun
        clear hi
        try simp only [cond_true, cond_false]
        refine ws (fun Kx hK => ?_)
        refine step_yield (v := W4 0 0 0 0) (by rfl) ?_ ?_
        · go_simp
          try kernel_rfl
        · exact hK.out _ _ ⟨true, β1, β2, β3, β4, β5, β6, β7, β8, x5_3, z5_7, rfl, rfl, hB, hc5_3, ha5_7, hm5_6_3, hm5_8_3, hm5_8_7⟩
      · obtain rfl : β1 = false := hun
        clear hi
        try simp only [cond_true, cond_false]
        refine ws (fun Kx hK => ?_)
        refine step_yield (v := .pointer (some ⟨z1_6, 0, none⟩)) (by rfl) ?_ ?_
        · go_simp
        · exact hK.out _ _ ⟨β0, true, β2, β3, β4, β5, β6, β7, β8, x5_3, z5_7, rfl, rfl, hB, hc5_3, ha5_7, hm5_6_3, hm5_8_3, hm5_8_7⟩
      · obtain rfl : β2 = false := hun
        obtain rfl : β1 = true := ready_dep (k := 0) hi rfl rfl rfl
        clear hi
        try simp only [cond_true, cond_false]
        refine ws (fun Kx hK => ?_)
        refine step_yield (v := a0) (by rfl) ?_ ?_
        · exact run_load_exec 24 _ rfl _ rfl ((V5.out.1.kept hB).part 0 rfl)
        · exact hK.out _ _ ⟨β0, true, true, β3, β4, β5, β6, β7, β8, x5_3, z5_7, rfl, rfl, hB, hc5_3, ha5_7, hm5_6_3, hm5_8_3, hm5_8_7⟩
      · obtain rfl : β3 = false := hun
        obtain rfl : β0 = true := ready_dep (k := 0) hi rfl rfl rfl
        obtain rfl : β2 = true := ready_dep (k := 1) hi rfl rfl rfl
        obtain rfl : β6 = false := Bool.eq_false_iff.2 (fun h => by have := hm5_6_3.out h; cases this)
        obtain rfl : β8 = false := Bool.eq_false_iff.2 (fun h => by have := hm5_8_3.out h; cases this)
        clear hi
        try simp only [cond_true, cond_false]
        refine ws (fun Kx hK => ?_)
        go_simp
        refine Calls.mono (f_sub isF0 FA.out.1 _) ?_
        rintro e w2 ⟨v, rfl, hv, hb2⟩
        go_wp2_with fail
        exact hK.out _ _ ⟨true, β1, true, true, β4, β5, false, β7, false, v, z5_7, rfl, rfl, (hB.trans (hb2.mono hB.size)), (fun _ => hv), (fun h => ⟨(ha5_7.out h).1, (ha5_7.out h).2.kept hb2⟩), (fun _ => rfl), (fun _ => rfl), hm5_8_7⟩
      · obtain rfl : β4 = false := hun
        clear hi
        try simp only [cond_true, cond_false]
        refine ws (fun Kx hK => ?_)
        refine step_yield (v := .pointer (some ⟨z1_6, 4, none⟩)) (by rfl) ?_ ?_
        · go_simp
        · exact hK.out _ _ ⟨β0, β1, β2, β3, true, β5, β6, β7, β8, x5_3, z5_7, rfl, rfl, hB, hc5_3, ha5_7, hm5_6_3, hm5_8_3, hm5_8_7⟩
      · obtain rfl : β5 = false := hun
        obtain rfl : β4 = true := ready_dep (k := 0) hi rfl rfl rfl
        clear hi
        try simp only [cond_true, cond_false]
        refine ws (fun Kx hK => ?_)
        refine step_yield (v := a1) (by rfl) ?_ ?_
        · exact run_load_exec 24 _ rfl _ rfl ((V5.out.1.kept hB).part 1 rfl)
        · exact hK.out _ _ ⟨β0, β1, β2, β3, true, true, β6, β7, β8, x5_3, z5_7, rfl, rfl, hB, hc5_3, ha5_7, hm5_6_3, hm5_8_3, hm5_8_7⟩
      · obtain rfl : β6 = false := hun
        obtain rfl : β3 = true := ready_dep (k := 0) hi rfl rfl rfl
        obtain rfl : β5 = true := ready_dep (k := 1) hi rfl rfl rfl
        replace hc5_3 := hc5_3.out rfl
        clear hi
        try simp only [cond_true, cond_false]
        refine ws (fun Kx hK => ?_)
        refine step_yield (v := .agg (catW [x5_3, a1])) (by rfl) ?_ ?_
        · obtain ⟨p00, p01, p02, p03, rfl, _, _⟩ := hc5_3
          obtain ⟨p10, p11, p12, p13, rfl, _, _⟩ := HA.out.2
          go_simp
          kernel_rfl
        · exact hK.out _ _ ⟨β0, β1, β2, true, β4, true, true, β7, β8, x5_3, z5_7, rfl, rfl, hB, (fun _ => hc5_3), ha5_7, (fun _ => rfl), (fun _ => rfl), hm5_8_7⟩
      · obtain rfl : β7 = false := hun
        obtain rfl : β8 = false := Bool.eq_false_iff.2 (fun h => by have := hm5_8_7.out h; cases this)
        clear hi
        try simp only [cond_true, cond_false]
        refine ws (fun Kx hK => ?_)
        go_simp
        exact hK.out _ _ ⟨β0, β1, β2, β3, β4, β5, β6, true, false, x5_3, w'.heap.size, rfl, rfl, (hB.alloc hB.size _), hc5_3, (fun _ => ⟨hB.size, VarS.new28 _⟩), hm5_6_3, hm5_8_3, (fun _ => rfl)⟩
      · obtain rfl : β8 = false := hun
        obtain rfl : β3 = true := ready_dep (k := 2) hi rfl rfl rfl
        obtain rfl : β6 = true := ready_dep (k := 1) hi rfl rfl rfl
        obtain rfl : β7 = true := ready_dep (k := 0) hi rfl rfl rfl
        replace hc5_3 := hc5_3.out rfl
        replace ha5_7 := ha5_7.out rfl
        clear hi
        try simp only [cond_true, cond_false]
        refine ws (fun Kx hK => ?_)
        refine step_store_S (us := [x5_3, a1]) (vs := [W4 0 0 0 0, W4 0 0 0 0]) (by rfl) 28 _ _ rfl z5_7 rfl rfl (words2 hc5_3 HA.out.2) rfl (by kernel_rfl) ha5_7.2 ?_
        exact hK.out _ _ ⟨β0, β1, β2, true, β4, β5, true, true, true, x5_3, z5_7, rfl, rfl, (below_setRow hB ha5_7.1 _), (fun _ => hc5_3), (fun _ => ⟨ha5_7.1, ha5_7.2.put (words2 hc5_3 HA.out.2)⟩), (fun _ => rfl), (fun _ => rfl), (fun _ => rfl)⟩
  case hstep1 =>
    intro i l a w' hs hI hi
    obtain ⟨β0, β1, β2, β3, β4, β5, β6, β7, β8, β9, β10, β11, z1_6, z1_7, z1_8, rfl, rfl, hB, ha1_6, ha1_7, ha1_8, hd1_6_7, hd1_6_8, hd1_7_8, hm1_9_6, hm1_10_7, hm1_11_8⟩ := hI
    obtain ⟨hlt, hun, _⟩ := ready_mem hi
    have hlt' : i < 12 := hlt
    clear hlt hs
    have hcs : i = 0 ∨ i = 1 ∨ i = 2 ∨ i = 3 ∨ i = 4 ∨ i = 5 ∨ i = 6 ∨ i = 7 ∨ i = 8 ∨ i = 9 ∨ i = 10 ∨ i = 11 := by omega
    clear hlt'
    rcases hcs with rfl | rfl | rfl | rfl | rfl | rfl | rfl | rfl | rfl | rfl | rfl | rfl
    · obtain rfl : β0 = false := hun
      clear hi
      try simp only [cond_true, cond_false]
      refine ws (fun Kx hK => ?_)
      refine step_yield (v := .agg (catW [a0, a1])) (by rfl) ?_ ?_
      · exact run_load_exec 26 _ rfl _ rfl (load26 (V0.out.1.kept hB))
      · exact hK.out _ _ ⟨true, β1, β2, β3, β4, β5, β6, β7, β8, β9, β10, β11, z1_6, z1_7, z1_8, rfl, rfl, hB, ha1_6, ha1_7, ha1_8, hd1_6_7, hd1_6_8, hd1_7_8, hm1_9_6, hm1_10_7, hm1_11_8⟩
    · obtain rfl : β1 = false := hun
      obtain rfl : β0 = true := ready_dep (k := 0) hi rfl rfl rfl
      clear hi
      try simp only [cond_true, cond_false]
      refine ws (fun Kx hK => ?_)
      go_simp
      refine Calls.mono (g_own HA.out.1 HA.out.2 _) ?_
      rintro e w2 ⟨rfl, hb2⟩
      go_wp2_with fail
      exact hK.out _ _ ⟨true, true, β2, β3, β4, β5, β6, β7, β8, β9, β10, β11, z1_6, z1_7, z1_8, rfl, rfl, (hB.trans (hb2.mono hB.size)), (fun h => ⟨(ha1_6.out h).1, (ha1_6.out h).2.kept hb2⟩), (fun h => ⟨(ha1_7.out h).1, (ha1_7.out h).2.kept hb2⟩), (fun h => ⟨(ha1_8.out h).1, (ha1_8.out h).2.kept hb2⟩), hd1_6_7, hd1_6_8, hd1_7_8, hm1_9_6, hm1_10_7, hm1_11_8⟩
    · obtain rfl : β2 = false := hun
      clear hi
      try simp only [cond_true, cond_false]
      refine ws (fun Kx hK => ?_)
      refine step_yield (v := .agg (catW [b0, b1])) (by rfl) ?_ ?_
      · exact run_load_exec 26 _ rfl _ rfl (load26 (V0.out.2.1.kept hB))
      · exact hK.out _ _ ⟨β0, β1, true, β3, β4, β5, β6, β7, β8, β9, β10, β11, z1_6, z1_7, z1_8, rfl, rfl, hB, ha1_6, ha1_7, ha1_8, hd1_6_7, hd1_6_8, hd1_7_8, hm1_9_6, hm1_10_7, hm1_11_8⟩
    · obtain rfl : β3 = false := hun
      obtain rfl : β2 = true := ready_dep (k := 0) hi rfl rfl rfl
      clear hi
      try simp only [cond_true, cond_false]
      refine ws (fun Kx hK => ?_)
      go_simp
      refine Calls.mono (g_own HB.out.1 HB.out.2 _) ?_
      rintro e w2 ⟨rfl, hb2⟩
      go_wp2_with fail
      exact hK.out _ _ ⟨β0, β1, true, true, β4, β5, β6, β7, β8, β9, β10, β11, z1_6, z1_7, z1_8, rfl, rfl, (hB.trans (hb2.mono hB.size)), (fun h => ⟨(ha1_6.out h).1, (ha1_6.out h).2.kept hb2⟩), (fun h => ⟨(ha1_7.out h).1, (ha1_7.out h).2.kept hb2⟩), (fun h => ⟨(ha1_8.out h).1, (ha1_8.out h).2.kept hb2⟩), hd1_6_7, hd1_6_8, hd1_7_8, hm1_9_6, hm1_10_7, hm1_11_8⟩
    · obtain rfl : β4 = false := hun
      clear hi
      try simp only [cond_true, cond_false]
      refine ws (fun Kx hK => ?_)
      refine step_yield (v := .agg (catW [c0, c1])) (by rfl) ?_ ?_
      · exact run_load_exec 26 _ rfl _ rfl (load26 (V0.out.2.2.1.kept hB))
      · exact hK.out _ _ ⟨β0, β1, β2, β3, true, β5, β6, β7, β8, β9, β10, β11, z1_6, z1_7, z1_8, rfl, rfl, hB, ha1_6, ha1_7, ha1_8, hd1_6_7, hd1_6_8, hd1_7_8, hm1_9_6, hm1_10_7, hm1_11_8⟩
    · obtain rfl : β5 = false := hun
      obtain rfl : β4 = true := ready_dep (k := 0) hi rfl rfl rfl
      clear hi
      try simp only [cond_true, cond_false]
      refine ws (fun Kx hK => ?_)
      go_simp
      refine Calls.mono (g_own HC.out.1 HC.out.2 _) ?_
      rintro e w2 ⟨rfl, hb2⟩
      go_wp2_with fail
      exact hK.out _ _ ⟨β0, β1, β2, β3, true, true, β6, β7, β8, β9, β10, β11, z1_6, z1_7, z1_8, rfl, rfl, (hB.trans (hb2.mono hB.size)), (fun h => ⟨(ha1_6.out h).1, (ha1_6.out h).2.kept hb2⟩), (fun h => ⟨(ha1_7.out h).1, (ha1_7.out h).2.kept hb2⟩), (fun h => ⟨(ha1_8.out h).1, (ha1_8.out h).2.kept hb2⟩), hd1_6_7, hd1_6_8, hd1_7_8, hm1_9_6, hm1_10_7, hm1_11_8⟩
    · obtain rfl : β6 = false := hun
      obtain rfl : β9 = false := Bool.eq_false_iff.2 (fun h => by have := hm1_9_6.out h; cases this)
      clear hi
      try simp only [cond_true, cond_false]
      refine ws (fun Kx hK => ?_)
      go_simp
      exact hK.out _ _ ⟨β0, β1, β2, β3, β4, β5, true, β7, β8, false, β10, β11, w'.heap.size, z1_7, z1_8, rfl, rfl, (hB.alloc hB.size _), (fun _ => ⟨hB.size, VarS.new28 _⟩), (fun h => ⟨(ha1_7.out h).1, (ha1_7.out h).2.old _⟩), (fun h => ⟨(ha1_8.out h).1, (ha1_8.out h).2.old _⟩), (fun _ h => Nat.ne_of_gt (ha1_7.out h).2.lt), (fun _ h => Nat.ne_of_gt (ha1_8.out h).2.lt), hd1_7_8, (fun _ => rfl), hm1_10_7, hm1_11_8⟩
    · obtain rfl : β7 = false := hun
      obtain rfl : β10 = false := Bool.eq_false_iff.2 (fun h => by have := hm1_10_7.out h; cases this)
      clear hi
      try simp only [cond_true, cond_false]
      refine ws (fun Kx hK => ?_)
      go_simp
      exact hK.out _ _ ⟨β0, β1, β2, β3, β4, β5, β6, true, β8, β9, false, β11, z1_6, w'.heap.size, z1_8, rfl, rfl, (hB.alloc hB.size _), (fun h => ⟨(ha1_6.out h).1, (ha1_6.out h).2.old _⟩), (fun _ => ⟨hB.size, VarS.new28 _⟩), (fun h => ⟨(ha1_8.out h).1, (ha1_8.out h).2.old _⟩), (fun h _ => Nat.ne_of_lt (ha1_6.out h).2.lt), hd1_6_8, (fun _ h => Nat.ne_of_gt (ha1_8.out h).2.lt), hm1_9_6, (fun _ => rfl), hm1_11_8⟩
    · obtain rfl : β8 = false := hun
      obtain rfl : β11 = false := Bool.eq_false_iff.2 (fun h => by have := hm1_11_8.out h; cases this)
      clear hi
      try simp only [cond_true, cond_false]
      refine ws (fun Kx hK => ?_)
      go_simp
      exact hK.out _ _ ⟨β0, β1, β2, β3, β4, β5, β6, β7, true, β9, β10, false, z1_6, z1_7, w'.heap.size, rfl, rfl, (hB.alloc hB.size _), (fun h => ⟨(ha1_6.out h).1, (ha1_6.out h).2.old _⟩), (fun h => ⟨(ha1_7.out h).1, (ha1_7.out h).2.old _⟩), (fun _ => ⟨hB.size, VarS.new28 _⟩), hd1_6_7, (fun h _ => Nat.ne_of_lt (ha1_6.out h).2.lt), (fun h _ => Nat.ne_of_lt (ha1_7.out h).2.lt), hm1_9_6, hm1_10_7, (fun _ => rfl)⟩
    · obtain rfl : β9 = false := hun
      obtain rfl : β1 = true := ready_dep (k := 1) hi rfl rfl rfl
      obtain rfl : β6 = true := ready_dep (k := 0) hi rfl rfl rfl
      replace ha1_6 := ha1_6.out rfl
      have he1_6_7 : Hid (β7 = true → z1_6 ≠ z1_7) := fun h => hd1_6_7.out rfl h
      have he1_6_8 : Hid (β8 = true → z1_6 ≠ z1_8) := fun h => hd1_6_8.out rfl h
      clear hi
      try simp only [cond_true, cond_false]
      refine ws (fun Kx hK => ?_)
      refine step_store_S (us := [a0, a1]) (vs := [W4 0 0 0 0, W4 0 0 0 0]) (by rfl) 28 _ _ rfl z1_6 rfl rfl (words2 HA.out.1 HA.out.2) rfl (by kernel_rfl) ha1_6.2 ?_
      exact hK.out _ _ ⟨β0, true, β2, β3, β4, β5, true, β7, β8, true, β10, β11, z1_6, z1_7, z1_8, rfl, rfl, (below_setRow hB ha1_6.1 _), (fun _ => ⟨ha1_6.1, ha1_6.2.put (words2 HA.out.1 HA.out.2)⟩), (fun h => ⟨(ha1_7.out h).1, (ha1_7.out h).2.other (Ne.symm (hd1_6_7.out rfl h)) _⟩), (fun h => ⟨(ha1_8.out h).1, (ha1_8.out h).2.other (Ne.symm (hd1_6_8.out rfl h)) _⟩), hd1_6_7, hd1_6_8, hd1_7_8, (fun _ => rfl), hm1_10_7, hm1_11_8⟩
    · obtain rfl : β10 = false := hun
      obtain rfl : β3 = true := ready_dep (k := 1) hi rfl rfl rfl
      obtain rfl : β7 = true := ready_dep (k := 0) hi rfl rfl rfl
      replace ha1_7 := ha1_7.out rfl
      have he1_6_7 : Hid (β6 = true → z1_6 ≠ z1_7) := fun h => hd1_6_7.out h rfl
      have he1_7_8 : Hid (β8 = true → z1_7 ≠ z1_8) := fun h => hd1_7_8.out rfl h
      clear hi
      try simp only [cond_true, cond_false]
      refine ws (fun Kx hK => ?_)
      refine step_store_S (us := [b0, b1]) (vs := [W4 0 0 0 0, W4 0 0 0 0]) (by rfl) 28 _ _ rfl z1_7 rfl rfl (words2 HB.out.1 HB.out.2) rfl (by kernel_rfl) ha1_7.2 ?_
      exact hK.out _ _ ⟨β0, β1, β2, true, β4, β5, β6, true, β8, β9, true, β11, z1_6, z1_7, z1_8, rfl, rfl, (below_setRow hB ha1_7.1 _), (fun h => ⟨(ha1_6.out h).1, (ha1_6.out h).2.other (hd1_6_7.out h rfl) _⟩), (fun _ => ⟨ha1_7.1, ha1_7.2.put (words2 HB.out.1 HB.out.2)⟩), (fun h => ⟨(ha1_8.out h).1, (ha1_8.out h).2.other (Ne.symm (hd1_7_8.out rfl h)) _⟩), hd1_6_7, hd1_6_8, hd1_7_8, hm1_9_6, (fun _ => rfl), hm1_11_8⟩
    · obtain rfl : β11 = false := hun
      obtain rfl : β5 = true := ready_dep (k := 1) hi rfl rfl rfl
      obtain rfl : β8 = true := ready_dep (k := 0) hi rfl rfl rfl
      replace ha1_8 := ha1_8.out rfl
      have he1_6_8 : Hid (β6 = true → z1_6 ≠ z1_8) := fun h => hd1_6_8.out h rfl
      have he1_7_8 : Hid (β7 = true → z1_7 ≠ z1_8) := fun h => hd1_7_8.out h rfl
      clear hi
      try simp only [cond_true, cond_false]
      refine ws (fun Kx hK => ?_)
      refine step_store_S (us := [c0, c1]) (vs := [W4 0 0 0 0, W4 0 0 0 0]) (by rfl) 28 _ _ rfl z1_8 rfl rfl (words2 HC.out.1 HC.out.2) rfl (by kernel_rfl) ha1_8.2 ?_
      exact hK.out _ _ ⟨β0, β1, β2, β3, β4, true, β6, β7, true, β9, β10, true, z1_6, z1_7, z1_8, rfl, rfl, (below_setRow hB ha1_8.1 _), (fun h => ⟨(ha1_6.out h).1, (ha1_6.out h).2.other (hd1_6_8.out h rfl) _⟩), (fun h => ⟨(ha1_7.out h).1, (ha1_7.out h).2.other (hd1_7_8.out h rfl) _⟩), (fun _ => ⟨ha1_8.1, ha1_8.2.put (words2 HC.out.1 HC.out.2)⟩), hd1_6_7, hd1_6_8, hd1_7_8, hm1_9_6, hm1_10_7, (fun _ => rfl)⟩
end Go.Proofs.YtionjibiemncbaaGreat
