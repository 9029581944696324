/- EL2, E8, EQ0 -/
import Derived.Test.YtojfcdjgcgnajaaGreatGEK
import Derived.Test.YtojfcdjgcgnajaaGreatGEO
import Derived.Test.YtojfcdjgcgnajaaGreatGE6
namespace Go.Proofs.YtojfcdjgcgnajaaGreat
open Go.RowKit Go.Shelf
set_option linter.unusedSimpArgs false
set_option linter.unusedVariables false
attribute [local go_sem] Oper.semAt_some
theorem wpListIn_load_run {F : Fence} {n : Nat} {P : Program} {ops : Array Oper} {rest : List Oper} {o : Oper} {a : Act} {w : World} {Q : Exit → Act → World → Prop} (hw : Region.wanted o (yielded ops a.tmps) = true) (ty : TypeId) (x : Operand) (ho : o.op = .load ty x)
 (g : Addr) (hx : a.eval x = .pointer (some g)) {v : Value} (hrun : (loadVar ty g).run P w = .ok v w)
 (h : wpListIn F n P ops Q rest (a.put o.dst v) w) : wpListIn F n P ops Q (o :: rest) a w := by
 refine wpListIn_step fun K hK' => ?_
 rw [if_pos hw]; unfold Oper.wpIn; refine ⟨?_, ?_⟩
 · simp [Oper.about, ho]
 · rw [Oper.semAt_plain F _ _ (by rw [ho]; intro c hc'; cases hc')]
   rw [run_load_exec ty x ho g hx hrun]; exact hK' _ _ h
def cnt : Value → Nat
 | .int _ i => (i + 1).toNat
 | _ => 0
theorem wpOpIn_step {P : Program} {m : Nat} {ops : Array Oper} {Q : Exit → Act → World → Prop} {i : Nat} {o : Oper} {a : Act} {w : World} {K : Act → World → Prop} (ho : ops[i]? = some o) (hw : Region.wanted o (yielded ops a.tmps) = true) (hd : ∀ c, o.op ≠ .defer c)
 (h : ∀ Kx : Act → World → Prop, (∀ a w, K a w → Kx a w) → o.wp P a w Kx Q) : wpOpIn Fence.wide m P ops Q i K a w := wpOpIn_of_wp ho hw hd (h K fun _ _ h => h)
theorem wp_value {P : Program} {o : Oper} {a : Act} {w : World} {K : Act → World → Prop} {Q : Exit → Act → World → Prop} {v : Value} (hrun : (execOp a.eval o).run P w = .ok (.value v) w) (h : K (a.put o.dst v) w) : o.wp P a w K Q := by
 unfold Oper.wp; rw [hrun]; exact h
set_option maxRecDepth 100000 in
set_option maxHeartbeats 2000000 in
theorem bits1_in (m l X1 X2 : Nat) {va vb : Value} {x y : Int} (ha : IsW va x) (hb : IsW vb y) (J : Nat → World → Prop) (W0 : World)
 (hV : ∀ k W, J k W → VarW W X1 va ∧ VarW W X2 vb) (hJ : ∀ k W W', J k W → Below W.heap.size W W' → J k W') (h0 : ∀ n, n ≤ 256 → x < 2 ^ n → y < 2 ^ n → J n W0)
 (hs : J 256 W0)
 (hY : ∀ k W, k < 256 → J (k + 1) W → YieldAt Fence.wide m Tryz.prog l #[.bool (decide (x / 2 ^ k % 2 = 1)), .bool (decide (y / 2 ^ k % 2 = 1))] W fun e W' => e = .returned (.bool true) ∧ J k W') :
 CallsIn Fence.wide (m + 1) Tryz.prog 124 #[.func (.yield l) #[] #[], .pointer (some ⟨X1, 0, none⟩), .pointer (some ⟨X2, 0, none⟩)] W0 fun e W' => (∃ v, e = .returned v) ∧ J 0 W' := by
 refine callsIn_of_wp Tryz.func124 rfl trivial ?_ rfl; simp only [Tryz.ntmps124, List.size_toArray, List.length_cons, List.length_nil, Nat.reduceAdd, Nat.reduceSub, Array.replicate_succ, Array.replicate_zero, List.push_toArray, List.append_toArray, List.nil_append, List.cons_append]; have HA : Hid (IsW va x) := ha; have HB : Hid (IsW vb y) := hb; have HV : Hid _ := hV 256 W0 hs; have H0 : Hid _ := h0; have HJ : Hid _ := hJ; have HVV : Hid _ := hV; have HY : Hid _ := hY; clear ha hb hV hJ h0 hs hY; gi_wp2_with (first | (refine wpListIn_load_run (by rfl) 51 _ rfl _ rfl HV.out.1.load ?_) | (refine wpListIn_load_run (by rfl) 51 _ rfl _ rfl HV.out.2.load ?_)); refine ⟨trivial, CallsIn.mono (callsIn_wide.2 (g_or HA.out HB.out _)) ?_⟩; rintro e w1 ⟨v1, z1, rfl, h1, hxz, hyz, b1⟩; gi_wp2_with fail; refine ⟨trivial, CallsIn.mono (callsIn_wide.2 (g_len h1 _)) ?_⟩; rintro e w2 ⟨n, rfl, hn, hzn, b2⟩; have hJn : Hid (J (8 * n) w2) := HJ.out _ _ _ (HJ.out _ _ _ (H0.out (8 * n) (by omega) (by omega) (by omega)) b1) b2; clear H0 b1 b2 hzn hxz hyz; gi_wp2; gi_loopw [4] (fun v wr => ∃ k : Nat, k ≤ 256 ∧ v = .int .i64 ((k : Int) - 1) ∧ J k wr) (fun v _ => cnt v)
 case atStart => exact ⟨8 * n, by omega, by first | rfl | (congr 1; omega) | simp, hJn.out⟩
 case round =>
  clear hJn HV; obtain ⟨k, hk, rfl, hJk⟩ := hrel; have HK : Hid (J k wr) := hJk; clear hJk; cases k with
  | zero =>
    gi_wp2; go_end0
    exact ⟨⟨_, rfl⟩, HK.out⟩
  | succ k =>
    rw [show ((k + 1 : Nat) : Int) - 1 = (k : Int) from by omega]; gi_wp2; refine wpIn_region_inv (by kernel_rfl) 9 rfl (fun ls a w' => ∃ (β0 β1 β2 β3 β4 β5 β6 β7 β8 : Bool), ls = #[β0, β1, β2, β3, β4, β5, β6, β7, β8] ∧ a = ⟨#[.func (.yield l) #[] #[], .pointer (some ⟨X1, 0, none⟩), .pointer (some ⟨X2, 0, none⟩), undef, .int .i64 (k : Int), va, vb, v1, .int .i64 (n : Int), .int .i64 (8 * (n : Int)), .int .i64 (8 * (n : Int) - 1), .int .i64 (k : Int), .bool true, u13, u14, bif β0 then .func (.yield l) #[] #[] else u15, bif β1 then va else u16, bif β2 then .int .i64 (k : Int) else u17, bif β3 then .bool (decide (x / 2 ^ k % 2 = 1)) else u18, bif β4 then vb else u19, bif β5 then .int .i64 (k : Int) else u20, bif β6 then .bool (decide (y / 2 ^ k % 2 = 1)) else u21, bif β7 then .bool true else u22, bif β8 then .bool false else u23], []⟩ ∧ J (bif β7 then k else k + 1) w') ?h0 ?hend ?hstep
    case h0 => exact ⟨false, false, false, false, false, false, false, false, false, rfl, rfl, HJ.out _ _ _ HK.out (Below.drew (Below.refl _ _))⟩
    case hend =>
     intro ls a w' hs hI hr0; obtain ⟨β0, β1, β2, β3, β4, β5, β6, β7, β8, rfl, rfl, hj⟩ := hI; have hall := ready_none (by rfl) (depsLow_spec (by kernel_rfl)) hr0; obtain rfl : β0 = true := hall 0 (by decide); obtain rfl : β1 = true := hall 1 (by decide); obtain rfl : β2 = true := hall 2 (by decide); obtain rfl : β3 = true := hall 3 (by decide); obtain rfl : β4 = true := hall 4 (by decide); obtain rfl : β5 = true := hall 5 (by decide); obtain rfl : β6 = true := hall 6 (by decide); obtain rfl : β7 = true := hall 7 (by decide); obtain rfl : β8 = true := hall 8 (by decide); clear hall hr0 hs; simp only [cond_true] at hj ⊢; have HJ2 : Hid (J k w') := hj; clear hj HK; gi_wp2; go_roundw
     case rel => exact ⟨k, by omega, rfl, HJ2.out⟩
     case measure => simp [cnt]
    case hstep =>
     intro i ls a w' hs hI hi; obtain ⟨β0, β1, β2, β3, β4, β5, β6, β7, β8, rfl, rfl, hj⟩ := hI; obtain ⟨hlt, hun, _⟩ := ready_mem hi; have hlt' : i < 9 := hlt; clear hlt hs; have hcs : i = 0 ∨ i = 1 ∨ i = 2 ∨ i = 3 ∨ i = 4 ∨ i = 5 ∨ i = 6 ∨ i = 7 ∨ i = 8 := by omega
     clear hlt'; rcases hcs with rfl | rfl | rfl | rfl | rfl | rfl | rfl | rfl | rfl
     · obtain rfl : β0 = false := hun
       clear hi; refine wpOpIn_step rfl (by rfl) (by intro c h; cases h) (fun Kx hK0 => ?_); have hK : Hid _ := hK0; clear hK0; refine wp_value (v := .func (.yield l) #[] #[]) (by go_simp) ?_; exact hK.out _ _ ⟨true, β1, β2, β3, β4, β5, β6, β7, β8, rfl, rfl, hj⟩
     · obtain rfl : β1 = false := hun
       clear hi; refine wpOpIn_step rfl (by rfl) (by intro c h; cases h) (fun Kx hK0 => ?_); have hK : Hid _ := hK0; clear hK0; refine wp_value (v := va) (run_load_exec 51 _ rfl _ rfl (HVV.out _ _ hj).1.load) ?_; exact hK.out _ _ ⟨β0, true, β2, β3, β4, β5, β6, β7, β8, rfl, rfl, hj⟩
     · obtain rfl : β2 = false := hun
       clear hi; refine wpOpIn_step rfl (by rfl) (by intro c h; cases h) (fun Kx hK0 => ?_); have hK : Hid _ := hK0; clear hK0; refine wp_value (v := .int .i64 (k : Int)) (by go_simp) ?_; exact hK.out _ _ ⟨β0, β1, true, β3, β4, β5, β6, β7, β8, rfl, rfl, hj⟩
     · obtain rfl : β3 = false := hun
       obtain rfl : β1 = true := ready_dep (k := 0) hi rfl rfl rfl; obtain rfl : β2 = true := ready_dep (k := 1) hi rfl rfl rfl; clear hi; refine wpOpIn_step rfl (by rfl) (by intro c h; cases h) (fun Kx hK0 => ?_); have hK : Hid _ := hK0; clear hK0; have hj' : Hid _ := hj; clear hj; try simp only [cond_true, cond_false]
       go_simp; refine Calls.mono (g_ebit HA.out k (by omega) _) ?_
       rintro e w3 ⟨rfl, b3⟩; go_wp2_with fail; exact hK.out _ _ ⟨β0, true, true, true, β4, β5, β6, β7, β8, rfl, rfl, HJ.out _ _ _ hj'.out b3⟩
     · obtain rfl : β4 = false := hun
       clear hi; refine wpOpIn_step rfl (by rfl) (by intro c h; cases h) (fun Kx hK0 => ?_); have hK : Hid _ := hK0; clear hK0; refine wp_value (v := vb) (run_load_exec 51 _ rfl _ rfl (HVV.out _ _ hj).2.load) ?_; exact hK.out _ _ ⟨β0, β1, β2, β3, true, β5, β6, β7, β8, rfl, rfl, hj⟩
     · obtain rfl : β5 = false := hun
       clear hi; refine wpOpIn_step rfl (by rfl) (by intro c h; cases h) (fun Kx hK0 => ?_); have hK : Hid _ := hK0; clear hK0; refine wp_value (v := .int .i64 (k : Int)) (by go_simp) ?_; exact hK.out _ _ ⟨β0, β1, β2, β3, β4, true, β6, β7, β8, rfl, rfl, hj⟩
     · obtain rfl : β6 = false := hun
       obtain rfl : β3 = true := ready_dep (k := 2) hi rfl rfl rfl; obtain rfl : β4 = true := ready_dep (k := 0) hi rfl rfl rfl; obtain rfl : β5 = true := ready_dep (k := 1) hi rfl rfl rfl; clear hi; refine wpOpIn_step rfl (by rfl) (by intro c h; cases h) (fun Kx hK0 => ?_); have hK : Hid _ := hK0; clear hK0; have hj' : Hid _ := hj; clear hj; try simp only [cond_true, cond_false]
       go_simp; refine Calls.mono (g_ebit HB.out k (by omega) _) ?_
       rintro e w3 ⟨rfl, b3⟩; go_wp2_with fail; exact hK.out _ _ ⟨β0, β1, β2, true, true, true, true, β7, β8, rfl, rfl, HJ.out _ _ _ hj'.out b3⟩
     · obtain rfl : β7 = false := hun
       obtain rfl : β0 = true := ready_dep (k := 0) hi rfl rfl rfl; obtain rfl : β3 = true := ready_dep (k := 1) hi rfl rfl rfl; obtain rfl : β6 = true := ready_dep (k := 2) hi rfl rfl rfl; clear hi; refine wpOpIn_yield (l := l) (args := #[.bool (decide (x / 2 ^ k % 2 = 1)), .bool (decide (y / 2 ^ k % 2 = 1))]) rfl (by rfl) (by intro c h; cases h) (by go_simp) (HY.out k w' (by omega) hj) ?_; rintro e w3 ⟨rfl, hj3⟩; exact ⟨_, rfl, true, β1, β2, true, β4, β5, true, true, β8, rfl, rfl, hj3⟩
     · obtain rfl : β8 = false := hun
       obtain rfl : β7 = true := ready_dep (k := 0) hi rfl rfl rfl; clear hi; refine wpOpIn_step rfl (by rfl) (by intro c h; cases h) (fun Kx hK0 => ?_); have hK : Hid _ := hK0; clear hK0; refine wp_value (v := .bool false) (by go_simp) ?_; exact hK.out _ _ ⟨β0, β1, β2, β3, β4, β5, β6, true, true, rfl, rfl, hj⟩
end Go.Proofs.YtojfcdjgcgnajaaGreat
namespace Go.Proofs.YtojfcdjgcgnajaaGreat
open Go.RowKit
set_option linter.unusedSimpArgs false
set_option linter.unusedVariables false
set_option maxHeartbeats 1000000 in
theorem f_neutral : Gives2 61 #[] 0 1 := fun w => by
 have V0 : Hid (VarS (w.alloc (.cells #[.int .u64 0, .int .u64 0, .int .u64 0, .int .u64 0, .int .u64 0, .int .u64 0, .int .u64 0, .int .u64 0] 77)) w.heap.size 77 [W4 0 0 0 0, W4 0 0 0 0] ∧ Below w.heap.size w (w.alloc (.cells #[.int .u64 0, .int .u64 0, .int .u64 0, .int .u64 0, .int .u64 0, .int .u64 0, .int .u64 0, .int .u64 0] 77))) :=
  ⟨⟨words2 isw0 isw0, by rw [← zero8]; exact heap_alloc_new _ _⟩, by go_grown⟩
 go_enter Tryz.func61, Tryz.ntmps61
 go_wp2_with fail
 generalize w.alloc (.cells #[.int .u64 0, .int .u64 0, .int .u64 0, .int .u64 0, .int .u64 0, .int .u64 0, .int .u64 0, .int .u64 0] 77) = W0 at V0 ⊢; refine Calls.mono (f_one _) ?_; rintro e w1 ⟨v1, rfl, h1, b1⟩; have V1 : Hid (VarS w1 w.heap.size 77 [W4 0 0 0 0, W4 0 0 0 0] ∧ Below w.heap.size w w1) := ⟨V0.out.1.kept b1, V0.out.2.trans (b1.mono V0.out.2.size)⟩
 clear V0 b1; have H1 : Hid (IsF v1 1) := h1; obtain ⟨p0, p1, p2, p3, rfl, _, _⟩ := h1; have hst := V1.out.1.store (us := [W4 0 0 0 0, W4 p0 p1 p2 p3]) (words2 isw0 H1.out) rfl (by kernel_rfl); unfold W4; go_wp2_with (first | (refine wpList_store_run rfl 77 _ _ rfl w.heap.size (catW [W4 0 0 0 0, W4 p0 p1 p2 p3]) rfl (by kernel_rfl) hst ?_)); have hl := load28 (V1.out.1.put (words2 isw0 H1.out)); exact bodyPost_ret (v := .agg (catW [W4 0 0 0 0, W4 p0 p1 p2 p3])) (by simp [results, Tryz.results61, asAddr, Act.put, hl]) rfl ⟨_, _, rfl, ⟨isF0, H1.out⟩, below_setRow V1.out.2 (by omega) _⟩
def BX : Int := num 14507833142362363162 7578651490590762930 13881468655802702940 2407515759118799870
def BY : Int := num 7378697629483820632 7378697629483820646 7378697629483820646 7378697629483820646
theorem isF_BX : IsF (W4 14507833142362363162 7578651490590762930 13881468655802702940 2407515759118799870) (toF BX) := by
 unfold IsF; have hD : ((toF BX).val : Int) = BX := by rw [toF_val]; decide
 rw [hD]; exact ⟨_, _, _, _, rfl, ⟨⟨by decide, by decide⟩, ⟨by decide, by decide⟩, ⟨by decide, by decide⟩, ⟨by decide, by decide⟩⟩, rfl⟩
theorem isF_BY : IsF (W4 7378697629483820632 7378697629483820646 7378697629483820646 7378697629483820646) (toF BY) := by
 unfold IsF; have hD : ((toF BY).val : Int) = BY := by rw [toF_val]; decide
 rw [hD]; exact ⟨_, _, _, _, rfl, ⟨⟨by decide, by decide⟩, ⟨by decide, by decide⟩, ⟨by decide, by decide⟩, ⟨by decide, by decide⟩⟩, rfl⟩
set_option maxHeartbeats 1000000 in
theorem f_base : Gives2 35 #[] (toF BX) (toF BY) := fun w => by
 go_enter Tryz.func35, Tryz.ntmps35
 go_wp2; go_returns
 exact ⟨_, _, rfl, ⟨isF_BX, isF_BY⟩, by go_grown⟩
end Go.Proofs.YtojfcdjgcgnajaaGreat
namespace Go.Proofs.YtojfcdjgcgnajaaGreat
open Go.RowKit
set_option linter.unusedSimpArgs false
set_option linter.unusedVariables false
theorem below_putObj {B z : Nat} {u v : World} (h : Below B u v) (hz : B ≤ z) (o : Obj) : Below B u (v.putObj z o) :=
 ⟨h.os, h.tape, h.output, by simp only [World.putObj, Array.size_setIfInBounds]; exact h.size, fun k hk => (World.putObj_heap_other (by omega)).trans (h.block k hk)⟩
theorem VarS.obj {w : World} {z y : Nat} {ty : TypeId} {vs : List Value} (h : VarS w z ty vs) (hn : z ≠ y) (o : Obj) : VarS (w.putObj y o) z ty vs := ⟨h.1, (World.putObj_heap_other hn).trans h.2⟩
theorem VarW.obj {w : World} {z y : Nat} {v : Value} (h : VarW w z v) (hn : z ≠ y) (o : Obj) : VarW (w.putObj y o) z v := ⟨h.1, (World.putObj_heap_other hn).trans h.2⟩
structure BothJ (w : World) (r : Loop) (L X zr za zb zs : Nat) (va vb : Value) (A B : List Value) (s : Pt) (W : World) : Prop where
 sep : zr < zs ∧ za < zs ∧ zb < zs ∧ zs < X ∧ X + 1 < L ∧ w.heap.size ≤ zs
 lp : W.heap[L + 1]? = some (.loop r)
 df : W.heap[L]? = some (.deferred (some []))
 v1 : VarW W X va
 v2 : VarW W (X + 1) vb
 res : VarS W zr 77 [W4 0 0 0 0, W4 0 0 0 0]
 va : VarS W za 142 A
 vb : VarS W zb 142 B
 bel : Below w.heap.size w W
 pt : ∃ t0 t1 t2 t3 a b c d, VarS W zs 145 [t0, t1, t2, t3] ∧ (IsF t0 a ∧ IsF t1 b ∧ IsF t2 c ∧ IsF t3 d) ∧ RepP a b c d s
variable {w W : World} {r : Loop} {L X zr za zb zs : Nat} {va vb : Value} {A B : List Value} {s : Pt}
theorem BothJ.kept (h : BothJ w r L X zr za zb zs va vb A B s W) {W' : World} (hb : Below W.heap.size W W') : BothJ w r L X zr za zb zs va vb A B s W' := by
 obtain ⟨t0, t1, t2, t3, a, b, c, d, ht, hf, hr⟩ := h.pt; exact ⟨h.sep, Go.Proofs.YtojfcdjgcgnajaaGreat.kept h.lp hb, Go.Proofs.YtojfcdjgcgnajaaGreat.kept h.df hb, h.v1.kept hb, h.v2.kept hb, h.res.kept hb, h.va.kept hb, h.vb.kept hb, h.bel.trans (hb.mono h.bel.size), t0, t1, t2, t3, a, b, c, d, ht.kept hb, hf, hr⟩
theorem BothJ.loop (h : BothJ w r L X zr za zb zs va vb A B s W) (r' : Loop) : BothJ w r' L X zr za zb zs va vb A B s (W.putObj (L + 1) (.loop r')) := by
 obtain ⟨t0, t1, t2, t3, a, b, c, d, ht, hf, hr⟩ := h.pt; obtain ⟨s1, s2, s3, s4, s5, s6⟩ := h.sep; exact ⟨⟨s1, s2, s3, s4, s5, s6⟩, World.putObj_heap_same (flt_of_some h.lp), (World.putObj_heap_other (by omega)).trans h.df, h.v1.obj (by omega) _, h.v2.obj (by omega) _, h.res.obj (by omega) _, h.va.obj (by omega) _, h.vb.obj (by omega) _, below_putObj h.bel (by omega) _, t0, t1, t2, t3, a, b, c, d, ht.obj (by omega) _, hf, hr⟩
theorem BothJ.put (h : BothJ w r L X zr za zb zs va vb A B s W) {t0 t1 t2 t3 : Value} {a b c d : K} {s' : Pt} (hf : IsF t0 a ∧ IsF t1 b ∧ IsF t2 c ∧ IsF t3 d) (hr : RepP a b c d s') : BothJ w r L X zr za zb zs va vb A B s' (W.setRow zs (catW [t0, t1, t2, t3])) := by
 obtain ⟨u0, u1, u2, u3, _, _, _, _, ht, _, _⟩ := h.pt; obtain ⟨s1, s2, s3, s4, s5, s6⟩ := h.sep; exact ⟨⟨s1, s2, s3, s4, s5, s6⟩, (setRow_other _ _ _ _ (by omega)).trans h.lp, (setRow_other _ _ _ _ (by omega)).trans h.df, h.v1.other (by omega) _, h.v2.other (by omega) _, h.res.other (by omega) _, h.va.other (by omega) _, h.vb.other (by omega) _, below_setRow h.bel (by omega) _, t0, t1, t2, t3, a, b, c, d, ht.put (words4 hf.1 hf.2.1 hf.2.2.1 hf.2.2.2), hf, hr⟩
theorem BothJ.store (h : BothJ w r L X zr za zb zs va vb A B s W) {t0 t1 t2 t3 : Value} {a b c d : K} (hf : IsF t0 a ∧ IsF t1 b ∧ IsF t2 c ∧ IsF t3 d) : (storeVar 145 ⟨zs, 0, none⟩ (.agg (catW [t0, t1, t2, t3]))).run Tryz.prog W = .ok () (W.setRow zs (catW [t0, t1, t2, t3])) := by
 obtain ⟨u0, u1, u2, u3, _, _, _, _, ht, _, _⟩ := h.pt; exact ht.store (words4 hf.1 hf.2.1 hf.2.2.1 hf.2.2.2) rfl (by kernel_rfl)
theorem BothJ.putS (h : BothJ w r L X zr za zb zs va vb A B s W) {t0 t1 t2 t3 : Value} {a b c d : K} (hf : IsF t0 a ∧ IsF t1 b ∧ IsF t2 c ∧ IsF t3 d) : VarS (W.setRow zs (catW [t0, t1, t2, t3])) zs 145 [t0, t1, t2, t3] := by
 obtain ⟨u0, u1, u2, u3, _, _, _, _, ht, _, _⟩ := h.pt; exact ht.put (words4 hf.1 hf.2.1 hf.2.2.1 hf.2.2.2)
theorem bit_next {x : Int} (hx : 0 ≤ x) (k : Nat) : x.toNat / 2 ^ k = 2 * (x.toNat / 2 ^ (k + 1)) + (decide (x / 2 ^ k % 2 = 1)).toNat := by
 obtain ⟨n, rfl⟩ := Int.eq_ofNat_of_zero_le hx; rw [Int.toNat_natCast, Nat.pow_succ, ← Nat.div_div_eq_div_mul]; have e : ((n : Int) / 2 ^ k % 2 = 1) = (n / 2 ^ k % 2 = 1) := by
  have : ((n : Int) / 2 ^ k % 2) = ((n / 2 ^ k % 2 : Nat) : Int) := by simp
  rw [this]; exact propext ⟨fun h => by omega, fun h => by omega⟩
 simp only [e]; generalize n / 2 ^ k = m; by_cases h : m % 2 = 1
 · simp [h]; omega
 · simp [h]; omega
theorem mul_small {x : Int} (hx : 0 ≤ x) {n : Nat} (h : x < 2 ^ n) (p : Pt) : Pt.mul (x.toNat / 2 ^ n) p = Pt.zero := by
 have : x.toNat < 2 ^ n := by
  obtain ⟨m, rfl⟩ := Int.eq_ofNat_of_zero_le hx; rw [Int.toNat_natCast]; exact_mod_cast h
 rw [Nat.div_eq_of_lt this, mul_nought]
theorem isW_lt {v : Value} {x : Int} (h : IsW v x) : x < 2 ^ 256 := by
 obtain ⟨a0, a1, a2, a3, _, ⟨⟨_, h0⟩, ⟨_, h1⟩, ⟨_, h2⟩, ⟨_, h3⟩⟩, rfl⟩ := h; unfold num; omega
end Go.Proofs.YtojfcdjgcgnajaaGreat
