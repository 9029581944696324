/- field.Lfold. -/
import Derived.Test.YtojfcdjgcgnajaaGreatGCM
import Derived.Test.YtojfcdjgcgnajaaGreatGRB
namespace Go.Proofs.YtojfcdjgcgnajaaGreat
open Go.RowKit
set_option linter.unusedSimpArgs false
set_option linter.unusedVariables false
theorem pow256_32 : (256 : Int) ^ 32 = T256 := by decide
def lfE (d : List Int) : Int := if 64 < d.length then 1 else 0
def lfV (d : List Int) : Int := if 64 < d.length then 0 else valB d % LL
theorem step_load_varB {ops : Array Oper} {o : Oper} {a : Act} {w : World} {K : Act → World → Prop} {Q : Exit → Act → World → Prop} {E : Prop} (hw : Region.wanted o (yielded ops a.tmps) = true) (x : Operand) (ho : o.op = .load 51 x)
 (z : Nat) (hx : a.eval x = .pointer (some ⟨z, 0, none⟩)) {v : Value} (hz : VarW w z v) (h : K (a.put o.dst v) w) : if Region.wanted o (yielded ops a.tmps) = true then Oper.wp Tryz.prog o a w K Q else E := by
 rw [if_pos hw]; unfold Oper.wp; rw [run_load_exec 51 x ho _ hx hz.load]; exact h
theorem g_not0 (w : World) : Calls Tryz.prog 81 #[W4 0 0 0 0] w fun e w' => ∃ v, e = .returned v ∧ IsW v (T256 - 1) ∧ Below w.heap.size w w' := by
 refine (not_any 0 0 0 0 w).mono ?_; rintro e w' ⟨rfl, hb⟩; have h0 : L4 0 0 0 0 := ⟨limb_lit 0 (by decide), limb_lit 0 (by decide), limb_lit 0 (by decide), limb_lit 0 (by decide)⟩
 refine ⟨_, rfl, ⟨_, _, _, _, rfl, not_L4 h0, ?_⟩, hb⟩; rw [not_num h0]; decide
set_option maxRecDepth 20000 in
set_option maxHeartbeats 2000000 in
theorem g_beyond : GivesW 58 #[] (T256 % LL) := fun w => by
 have V0 : Hid (VarW (w.alloc (.cells (C4 0 0 0 0) 51)) w.heap.size (W4 0 0 0 0) ∧ Below w.heap.size w (w.alloc (.cells (C4 0 0 0 0) 51))) := ⟨VarW.new w, by go_grown⟩
 go_enter Tryz.func58, Tryz.ntmps58
 go_wp2_with fail
 generalize w.alloc (.cells (C4 0 0 0 0) 51) = W0 at V0 ⊢; refine Calls.mono (g_not0 _) ?_; rintro e w3 ⟨v3, rfl, h3, b3⟩; have H3 : Hid (IsW v3 (T256 - 1)) := h3; have hn := VarW.new w3; have hs : Hid (w.heap.size < w3.heap.size) := (V0.out.1.kept b3).lt; have V1 : Hid (VarW ((w3.alloc (.cells (C4 0 0 0 0) 51)).setRow w3.heap.size (cw v3)) w.heap.size (W4 0 0 0 0) ∧ VarW ((w3.alloc (.cells (C4 0 0 0 0) 51)).setRow w3.heap.size (cw v3)) w3.heap.size v3 ∧ Below w.heap.size w ((w3.alloc (.cells (C4 0 0 0 0) 51)).setRow w3.heap.size (cw v3))) :=
  ⟨((V0.out.1.kept b3).old _).other (by have := hs.out; omega) _, hn.put h3, below_setRow ((V0.out.2.trans (b3.mono V0.out.2.size)).alloc (Nat.le_of_lt hs.out) _) (Nat.le_of_lt hs.out) _⟩
 clear V0 b3; go_wp2_with (first | (refine wpList_store_varW (u := v3) rfl _ _ rfl w3.heap.size rfl rfl h3 hn ?_)); clear hn h3; generalize (w3.alloc (.cells (C4 0 0 0 0) 51)).setRow w3.heap.size (cw v3) = W1 at V1 ⊢; have hl1 : w.heap.size ≤ w3.heap.size := Nat.le_of_lt hs.out; have hne : w.heap.size < w3.heap.size := hs.out; clear hs; generalize w3.heap.size = z1 at V1 hl1 hne ⊢; have hzr := V1.out.1; have hz1 := V1.out.2.1; have hlr : w.heap.size ≤ w.heap.size := Nat.le_refl _; have hBW : w.heap.size ≤ W1.heap.size := Nat.le_of_lt hzr.lt; refine wp_region_held_drew (S := fun w' => Below (w.heap.size) W1 w') (by kernel_rfl) (Below.drew (Below.refl _ _)) (fun hHeld => ?_)
 replace hzr := hzr.drew
 replace hz1 := hz1.drew
 generalize W1.drew = wd at hHeld hzr hz1 ⊢; refine wpAnyH_ready (rs := [0, 1]) (by kernel_rfl) (by simp) ?_; refine AllReadyH.cons rfl (fun K hK => ?_) (AllReadyH.cons rfl (fun K hK => ?_) AllReadyH.nil)
 · refine step_load_varB (by rfl) _ rfl (z1) rfl hz1 ?_
   refine hK.out _ _ hHeld (fun hHeld => ?_); clear hK K; try simp only [sm]
   refine rd 1 (fun K hK => ?_); go_simp; refine Calls.mono (g_of1 _) ?_; rintro e w5 ⟨v5, rfl, h5, b5⟩
   replace hzr := hzr.kept b5
   replace hz1 := hz1.kept b5
   go_wp2_with fail
   refine hK.out _ _ (hHeld.trans (b5.mono (Nat.le_trans hBW hHeld.size))) (fun hHeld => ?_); clear hK K; try simp only [sm]
   refine rd 2 (fun K hK => ?_); go_simp; refine Calls.mono (g_ladd H3.out h5 _) ?_; rintro e w6 ⟨v6, rfl, h6, b6⟩
   replace hzr := hzr.kept b6
   replace hz1 := hz1.kept b6
   go_wp2_with fail
   refine hK.out _ _ (hHeld.trans (b6.mono (Nat.le_trans hBW hHeld.size))) (fun hHeld => ?_); clear hK K; try simp only [sm]
   refine rd 3 (fun K hK => ?_); refine step_store_varW (u := v6) (by rfl) _ _ rfl (w.heap.size) rfl rfl h6 hzr ?_; refine hK.out _ _ (below_setRow hHeld hlr _) (fun hHeld => ?_); clear hK K; try simp only [sm]
   replace hzr := hzr.put h6
   replace hz1 := hz1.other (y := w.heap.size) (by omega) (cw v6)
   generalize w6.setRow (w.heap.size) (cw v6) = wst at hzr hz1 hHeld ⊢; refine wpAnyH_done (by kernel_rfl) ?_ _; have hl := hzr.load; have hB : Below w.heap.size w wst := V1.out.2.2.trans hHeld; have hE : (T256 - 1 + 1) % LL = T256 % LL := by rw [Int.sub_add_cancel]
   rw [hE] at h6; go_wp2; exact bodyPost_ret (v := v6) (by simp [results, Tryz.results58, asAddr, hl]) rfl ⟨_, rfl, h6, hB⟩
 · go_simp
   refine Calls.mono (g_of1 _) ?_; rintro e w5 ⟨v5, rfl, h5, b5⟩
   replace hzr := hzr.kept b5
   replace hz1 := hz1.kept b5
   go_wp2_with fail
   refine hK.out _ _ (hHeld.trans (b5.mono (Nat.le_trans hBW hHeld.size))) (fun hHeld => ?_); clear hK K; try simp only [sm]
   refine rd 0 (fun K hK => ?_); refine step_load_varB (by rfl) _ rfl (z1) rfl hz1 ?_; refine hK.out _ _ hHeld (fun hHeld => ?_); clear hK K; try simp only [sm]
   refine rd 2 (fun K hK => ?_); go_simp; refine Calls.mono (g_ladd H3.out h5 _) ?_; rintro e w6 ⟨v6, rfl, h6, b6⟩
   replace hzr := hzr.kept b6
   replace hz1 := hz1.kept b6
   go_wp2_with fail
   refine hK.out _ _ (hHeld.trans (b6.mono (Nat.le_trans hBW hHeld.size))) (fun hHeld => ?_); clear hK K; try simp only [sm]
   refine rd 3 (fun K hK => ?_); refine step_store_varW (u := v6) (by rfl) _ _ rfl (w.heap.size) rfl rfl h6 hzr ?_; refine hK.out _ _ (below_setRow hHeld hlr _) (fun hHeld => ?_); clear hK K; try simp only [sm]
   replace hzr := hzr.put h6
   replace hz1 := hz1.other (y := w.heap.size) (by omega) (cw v6)
   generalize w6.setRow (w.heap.size) (cw v6) = wst at hzr hz1 hHeld ⊢; refine wpAnyH_done (by kernel_rfl) ?_ _; have hl := hzr.load; have hB : Below w.heap.size w wst := V1.out.2.2.trans hHeld; have hE : (T256 - 1 + 1) % LL = T256 % LL := by rw [Int.sub_add_cancel]
   rw [hE] at h6; go_wp2; exact bodyPost_ret (v := v6) (by simp [results, Tryz.results58, asAddr, hl]) rfl ⟨_, rfl, h6, hB⟩
theorem elem32 : Tryz.prog.elem 28 = 5 := by kernel_rfl
theorem slice_to (a : Option Addr) (L cp n : Nat) (hn : n ≤ L) (hL : L ≤ cp) : ∃ a1 : Option Addr, (∀ b o, a = some ⟨b, o, none⟩ → a1 = some ⟨b, o, none⟩) ∧ (∀ w, (Instr.sliceAt 28 (.slice a L cp) none (some (.int .i64 (n : Int))) none).run Tryz.prog w = .ok (.slice a1 n cp) w) ∧ (∀ w, (Instr.slice 28 (.slice a L cp) none (some (.int .i64 (n : Int))) none).run Tryz.prog w = .ok (.slice a1 n cp) w) := by
 have h2 : ∀ w, (Instr.slice 28 (.slice a L cp) none (some (.int .i64 (n : Int))) none).run Tryz.prog w = .ok (.slice (if cp = 0 then a else a.map (·.add (0 * 1))) n cp) w := fun w => by
  rw [run_slice_h w 28 _ L cp (by kernel_rfl) .i64 (n : Int) (by omega) (by omega), elem32, Tryz.sizeOf5]; simp only [Result.andThen, sliced, Int.toNat_natCast, Nat.sub_zero]
 refine ⟨_, fun b o h => ?_, fun w => ?_, h2⟩
 · subst h; split
   · rfl
   · simp [Addr.add]
 · rw [run_sliceAt_slice w 28 _ _ _ _ (by kernel_rfl)]
   exact h2 w
theorem slice_from (a : Option Addr) (L cp n : Nat) (hn : n ≤ L) (hL : L ≤ cp) : ∃ a1 : Option Addr, (∀ b o, a = some ⟨b, o, none⟩ → n < L → a1 = some ⟨b, o + n, none⟩) ∧ (∀ w, (Instr.sliceAt 28 (.slice a L cp) (some (.int .i64 (n : Int))) none none).run Tryz.prog w = .ok (.slice a1 (L - n) (cp - n)) w) ∧ (∀ w, (Instr.slice 28 (.slice a L cp) (some (.int .i64 (n : Int))) none none).run Tryz.prog w = .ok (.slice a1 (L - n) (cp - n)) w) := by
 have h2 : ∀ w, (Instr.slice 28 (.slice a L cp) (some (.int .i64 (n : Int))) none none).run Tryz.prog w = .ok (.slice (if cp = n then a else a.map (·.add (n * 1))) (L - n) (cp - n)) w := fun w => by
  rw [run_slice_l w 28 _ L cp (by kernel_rfl) .i64 (n : Int) (by omega) (by omega), elem32, Tryz.sizeOf5]; simp only [Result.andThen, sliced, Int.toNat_natCast]
 refine ⟨_, fun b o h hl => ?_, fun w => ?_, h2⟩
 · subst h
   rw [if_neg (by omega)]; by_cases h0 : n = 0
   · subst h0; simp [Addr.add]
   · simp [Addr.add, h0]
 · rw [run_sliceAt_slice w 28 _ _ _ _ (by kernel_rfl)]
   exact h2 w
theorem isD_take {w : World} {a a1 : Option Addr} {cp n : Nat} {d : List Int} (h : IsD w (.slice a d.length cp) d) (hn : n ≤ d.length) (h1 : ∀ b o, a = some ⟨b, o, none⟩ → a1 = some ⟨b, o, none⟩) : IsD w (.slice a1 n cp) (d.take n) := by
 obtain ⟨a', cap', e, hc, hh⟩ := h; cases e; have hl : (d.take n).length = n := by simp; omega
 refine ⟨a1, cp, by rw [hl], by omega, fun k hk => ?_⟩; rw [hl] at hk; obtain ⟨b, o, rfl, hb, hcell⟩ := hh k (by omega); refine ⟨b, o, h1 b o rfl, hb, ?_⟩; rw [hcell]; simp only [List.getD]; rw [List.getElem?_take_of_lt hk]
theorem isD_drop {w : World} {a a1 : Option Addr} {cp n : Nat} {d : List Int} (h : IsD w (.slice a d.length cp) d) (hn : n ≤ d.length) (h1 : ∀ b o, a = some ⟨b, o, none⟩ → n < d.length → a1 = some ⟨b, o + n, none⟩) : IsD w (.slice a1 (d.length - n) (cp - n)) (d.drop n) := by
 obtain ⟨a', cap', e, hc, hh⟩ := h; cases e; have hl : (d.drop n).length = d.length - n := by simp
 refine ⟨a1, cp - n, by rw [hl], by omega, fun k hk => ?_⟩; rw [hl] at hk; obtain ⟨b, o, rfl, hb, hcell⟩ := hh (n + k) (by omega); refine ⟨b, o + n, h1 b o rfl (by omega), hb, ?_⟩; rw [Nat.add_assoc, hcell]; simp only [List.getD]; rw [List.getElem?_drop]
theorem byt_drop {d : List Int} (h : Byt d) (n : Nat) : Byt (d.drop n) := fun k => by
 have := h (n + k); simp only [List.getD] at this ⊢; rw [List.getElem?_drop]; exact this
theorem lf_num (x y : Int) : (x + (y * (T256 % LL)) % LL) % LL = (x + T256 * y) % LL := by
 rw [Int.add_emod, Int.emod_emod, ← Int.add_emod]; rw [Int.add_emod x, Int.mul_emod y, Int.emod_emod, ← Int.mul_emod, Int.mul_comm y T256, ← Int.add_emod]
set_option maxRecDepth 20000 in
set_option maxHeartbeats 2000000 in
theorem lfold_some (w : World) (v : Value) (d : List Int) (h : IsD w v d) (B : Byt d) (hl : d.length ≤ 64) (n : Nat) (hn : n ≤ d.length) (hn2 : n ≤ 32) (hn3 : d.length - n ≤ 32) (hmin : n = min d.length 32) (hV : valB d = valB (d.take n) + T256 * valB (d.drop n)) :
 Calls Tryz.prog 32 #[v] w fun e w' => ∃ u, e = .returned (.tuple #[u, .int .i64 0]) ∧ IsW u (valB d % LL) ∧ Below w.heap.size w w' := by
 have HV : Hid (valB d = valB (d.take n) + T256 * valB (d.drop n)) := hV; have V0 : Hid (VarW (w.alloc (.cells (C4 0 0 0 0) 51)) w.heap.size (W4 0 0 0 0) ∧ Below w.heap.size w (w.alloc (.cells (C4 0 0 0 0) 51))) := ⟨VarW.new w, by go_grown⟩
 obtain ⟨aa, ca, rfl, hca, _⟩ := id h; obtain ⟨a1, h1, s1, t1⟩ := slice_to aa d.length ca n hn hca; obtain ⟨a2, h2, s2, t2⟩ := slice_from aa d.length ca n hn hca; have HT : Hid (IsD w (.slice a1 n ca) (d.take n)) := isD_take h hn h1; have HR : Hid (IsD w (.slice a2 (d.length - n) (ca - n)) (d.drop n)) := isD_drop h hn h2; have BT : Hid (Byt (d.take n) ∧ Byt (d.drop n) ∧ (d.take n).length ≤ 32 ∧ (d.drop n).length ≤ 32) := ⟨B.take n, byt_drop B n, by simp; omega, by simp; omega⟩
 have hd : ¬ ((64 : Int) < d.length) := by omega
 have hq : min (d.length : Int) 32 = (n : Int) := by omega
 have HQ : Hid (min (d.length : Int) 32 = (n : Int)) := hq; clear hq hmin; clear h1 h2 B hV h; go_enter Tryz.func32, Tryz.ntmps32; go_wp2; rw [HQ.out]; generalize w.alloc (.cells (C4 0 0 0 0) 51) = W0 at V0 ⊢; have hzr := V0.out.1; have hT := HT.out.below V0.out.2; have hR := HR.out.below V0.out.2; have hlr : w.heap.size ≤ w.heap.size := Nat.le_refl _; have hBW : w.heap.size ≤ W0.heap.size := Nat.le_of_lt hzr.lt; clear HT HR HQ; refine wp_region_held_drew (S := fun w' => Below (w.heap.size) W0 w') (by kernel_rfl) (Below.drew (Below.refl _ _)) (fun hHeld => ?_)
 replace hzr := hzr.drew
 replace hT := hT.below (Below.drew (Below.refl _ _))
 replace hR := hR.below (Below.drew (Below.refl _ _))
 generalize W0.drew = wd at hHeld hzr hT hR ⊢; refine tk 0 (.slice aa d.length ca) (fun w9 hSw => ?_) hHeld ?_
 · go_simp
 simp only [sm]; refine tk 1 (.int .i64 (n : Int)) (fun w9 hSw => ?_) hHeld ?_
 · go_simp
 simp only [sm]; refine tk 2 (.slice a1 n ca) (fun w9 hSw => ?_) hHeld ?_
 · go_simp
 simp only [sm]; refine tk 4 (.slice aa d.length ca) (fun w9 hSw => ?_) hHeld ?_
 · go_simp
 simp only [sm]; refine tk 5 (.int .i64 (n : Int)) (fun w9 hSw => ?_) hHeld ?_
 · go_simp
 simp only [sm]; refine tk 6 (.slice a2 (d.length - n) (ca - n)) (fun w9 hSw => ?_) hHeld ?_
 · go_simp
 simp only [sm]; refine rd 3 (fun K hK => ?_); go_simp; refine Calls.mono (g_number hT BT.out.2.2.1 BT.out.1) ?_; rintro e w15 ⟨v15, rfl, h15, b15⟩
 replace hzr := hzr.kept b15
 replace hT := hT.below b15
 replace hR := hR.below b15
 go_wp2_with fail
 refine hK.out _ _ (hHeld.trans (b15.mono (Nat.le_trans hBW hHeld.size))) (fun hHeld => ?_); clear hK K; try simp only [sm]
 refine rd 7 (fun K hK => ?_); go_simp; refine Calls.mono (g_number hR BT.out.2.2.2 BT.out.2.1) ?_; rintro e w19 ⟨v19, rfl, h19, b19⟩
 replace hzr := hzr.kept b19
 replace hT := hT.below b19
 replace hR := hR.below b19
 go_wp2_with fail
 refine hK.out _ _ (hHeld.trans (b19.mono (Nat.le_trans hBW hHeld.size))) (fun hHeld => ?_); clear hK K; try simp only [sm]
 refine rd 8 (fun K hK => ?_); go_simp; refine Calls.mono (g_beyond _) ?_; rintro e w20 ⟨v20, rfl, h20, b20⟩
 replace hzr := hzr.kept b20
 replace hT := hT.below b20
 replace hR := hR.below b20
 go_wp2_with fail
 refine hK.out _ _ (hHeld.trans (b20.mono (Nat.le_trans hBW hHeld.size))) (fun hHeld => ?_); clear hK K; try simp only [sm]
 refine rd 9 (fun K hK => ?_); go_simp; refine Calls.mono (g_lmul h19 h20 _) ?_; rintro e w21 ⟨v21, rfl, h21, b21⟩
 replace hzr := hzr.kept b21
 replace hT := hT.below b21
 replace hR := hR.below b21
 go_wp2_with fail
 refine hK.out _ _ (hHeld.trans (b21.mono (Nat.le_trans hBW hHeld.size))) (fun hHeld => ?_); clear hK K; try simp only [sm]
 refine rd 10 (fun K hK => ?_); go_simp; refine Calls.mono (g_ladd h15 h21 _) ?_; rintro e w22 ⟨v22, rfl, h22, b22⟩
 replace hzr := hzr.kept b22
 replace hT := hT.below b22
 replace hR := hR.below b22
 go_wp2_with fail
 refine hK.out _ _ (hHeld.trans (b22.mono (Nat.le_trans hBW hHeld.size))) (fun hHeld => ?_); clear hK K; try simp only [sm]
 refine rd 11 (fun K hK => ?_); refine step_store_varW (u := v22) (by rfl) _ _ rfl (w.heap.size) rfl rfl h22 hzr ?_; refine hK.out _ _ (below_setRow hHeld hlr _) (fun hHeld => ?_); clear hK K; try simp only [sm]
 replace hzr := hzr.put h22
 generalize w22.setRow (w.heap.size) (cw v22) = wst at hzr  hHeld ⊢; refine tk 12 (.int .i64 0) (fun w9 hSw => ?_) hHeld ?_
 · go_simp
 simp only [sm]; refine wpAnyH_done (by kernel_rfl) ?_ _; have hl := hzr.load; have hB : Below w.heap.size w wst := V0.out.2.trans hHeld; rw [lf_num, ← HV.out] at h22; go_wp2; exact bodyPost_ret (v := .tuple #[v22, .int .i64 0]) (by simp [results, Tryz.results32, asAddr, hl]) rfl ⟨_, rfl, h22, hB⟩
set_option maxHeartbeats 1000000 in
theorem lfold_big (a : Option Addr) (l c : Nat) (hl : 64 < l) (hm : l ≤ 9223372036854775807) (w : World) : Calls Tryz.prog 32 #[.slice a l c] w fun e w' => ∃ u, e = .returned (.tuple #[u, .int .i64 1]) ∧ IsW u 0 ∧ Below w.heap.size w w' := by
 have V0 : Hid (VarW (w.alloc (.cells (C4 0 0 0 0) 51)) w.heap.size (W4 0 0 0 0) ∧ Below w.heap.size w (w.alloc (.cells (C4 0 0 0 0) 51))) := ⟨VarW.new w, by go_grown⟩
 have hd : ((64 : Int) < l) := by omega
 go_enter Tryz.func32, Tryz.ntmps32
 go_wp2_with (first | (refine wpList_build rfl 51 _ rfl (by kernel_rfl) ?_; generalize hG : (Program.built _ _ _).getD #[] = G; obtain rfl : G = C4 0 0 0 0 := by rw [← hG]; kernel_rfl) | (refine wpList_store_varW (u := W4 0 0 0 0) rfl _ _ rfl w.heap.size rfl rfl isw0 V0.out.1 ?_))
 have hl := (V0.out.1.put isw0).load; refine bodyPost_ret (v := .tuple #[W4 0 0 0 0, .int .i64 1]) (by simp [results, Tryz.results32, asAddr, hl]) rfl ⟨_, rfl, isw0, below_setRow V0.out.2 (by omega) _⟩
theorem lfold_any (w : World) (v : Value) (d : List Int) (h : IsD w v d) (B : Byt d) (hm : d.length ≤ 9223372036854775807) :
 Calls Tryz.prog 32 #[v] w fun e w' => ∃ u, e = .returned (.tuple #[u, .int .i64 (lfE d)]) ∧ IsW u (lfV d) ∧ Below w.heap.size w w' := by
 by_cases hl : 64 < d.length
 · have e : lfE d = 1 ∧ lfV d = 0 := by unfold lfE lfV; rw [if_pos hl, if_pos hl]; exact ⟨rfl, rfl⟩
   rw [e.1, e.2]; obtain ⟨a, c, rfl, _, _⟩ := h; exact lfold_big a d.length c hl hm w
 · have e : lfE d = 0 ∧ lfV d = valB d % LL := by unfold lfE lfV; rw [if_neg hl, if_neg hl]; exact ⟨rfl, rfl⟩
   rw [e.1, e.2]; refine lfold_some w v d h B (by omega) (min d.length 32) (by omega) (by omega) (by omega) rfl ?_; by_cases h32 : d.length ≤ 32
   · rw [Nat.min_eq_left h32, List.take_length, List.drop_length]
     simp [valB]
   · rw [Nat.min_eq_right (by omega), ← pow256_32]; exact valB_split d 32
end Go.Proofs.YtojfcdjgcgnajaaGreat
