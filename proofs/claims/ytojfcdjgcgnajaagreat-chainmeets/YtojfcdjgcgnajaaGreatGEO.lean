/- RI, EG, E0, EO -/
import Derived.Test.YtojfcdjgcgnajaaGreatGR4
import Derived.Test.YtojfcdjgcgnajaaGreatGES
import Derived.Test.YtojfcdjgcgnajaaGreatGCM
namespace Go.Proofs.YtojfcdjgcgnajaaGreat
open Go.RowKit
set_option linter.unusedSimpArgs false
set_option linter.unusedVariables false
def left : Nat → Array Bool → Nat
 | 0, _ => 0
 | n + 1, l => left n l + (if l.getD n true then 0 else 1)
theorem getD_set_ne {l : Array Bool} {i j : Nat} (h : j ≠ i) (b : Bool) : (l.setIfInBounds i true).getD j b = l.getD j b := by
 simp [Array.getD_eq_getD_getElem?, Array.getElem?_setIfInBounds_ne (Ne.symm h)]
theorem getD_set_eq {l : Array Bool} {i : Nat} (h : i < l.size) (b : Bool) : (l.setIfInBounds i true).getD i b = true := by
 simp [Array.getD_eq_getD_getElem?, h]
theorem left_same : ∀ {n i : Nat} {l : Array Bool}, n ≤ i → left n (l.setIfInBounds i true) = left n l
 | 0, _, _, _ => rfl
 | n + 1, i, l, h => by
   unfold left; rw [left_same (by omega), getD_set_ne (by omega)]
theorem left_down : ∀ {n i : Nat} {l : Array Bool}, i < l.size → i < n → l.getD i true = false → left n (l.setIfInBounds i true) + 1 = left n l
 | 0, _, _, _, h, _ => by omega
 | n + 1, i, l, hs, h, hf => by
   unfold left; by_cases e : i = n
   · subst e
     rw [left_same (Nat.le_refl _), getD_set_eq hs, hf]; simp
   · rw [getD_set_ne (by omega)]
     have := left_down hs (show i < n by omega) hf; omega
theorem left_le : ∀ (n : Nat) (l : Array Bool), left n l ≤ n
 | 0, _ => Nat.le_refl _
 | n + 1, l => by
   unfold left; have := left_le n l; split <;> omega
theorem left_set {n i : Nat} {l : Array Bool} (hs : l.size = n) (hi : i < n) (hf : l.getD i true = false) : left n (l.setIfInBounds i true) < left n l := by
 have := left_down (n := n) (by omega) hi hf; omega
theorem ready_mem {md : Region.Mode} {ops : Array Oper} {l : Array Bool} {i : Nat} (h : i ∈ Region.ready md ops l) : i < ops.size ∧ l.getD i true = false ∧ ((ops[i]?).map (·.after.all fun e => !Region.binds md e || l.getD e.on false)).getD false = true := by
 unfold Region.ready at h; simp only [List.mem_filter, List.mem_range, Bool.and_eq_true, Bool.not_eq_true'] at h; exact ⟨h.1, h.2.1, h.2.2⟩
theorem wpOp_imp {P : Program} {ops : Array Oper} {Q : Exit → Act → World → Prop} {i : Nat} {K K' : Act → World → Prop} {a : Act} {w : World} (h : ∀ a w, K a w → K' a w) (hh : wpOp P ops Q i K a w) : wpOp P ops Q i K' a w := by
 unfold wpOp at *; cases ho : ops[i]? with
 | none => rw [ho] at hh; exact h _ _ hh
 | some o =>
   rw [ho] at hh; simp only at hh ⊢; split at hh
   · rename_i hw
     rw [if_pos hw]; rcases hh with hh | hh
     · exact Or.inl (Oper.wp_mono h hh)
     · exact Or.inr hh
   · rename_i hw
     rw [if_neg hw]; exact h _ _ hh
theorem wpAny_inv {P : Program} {md : Region.Mode} {ops : Array Oper} {Q : Exit → Act → World → Prop} (n : Nat) (hn : ops.size = n) (I : Array Bool → Act → World → Prop)
 (hend : ∀ l a w, l.size = n → I l a w → Region.ready md ops l = [] → Q .normal a w)
 (hstep : ∀ i l a w, l.size = n → I l a w → i ∈ Region.ready md ops l → wpOp P ops Q i (I (l.setIfInBounds i true)) a w) :
 ∀ (fuel : Nat) (l : Array Bool) (a : Act) (w : World), l.size = n → left n l ≤ fuel → I l a w → wpAny P md ops Q fuel l a w
 | 0, l, a, w, hs, hl, hI => by
   have hr : Region.ready md ops l = [] := by
    apply List.eq_nil_iff_forall_not_mem.2
    intro i hi; obtain ⟨h1, h2, _⟩ := ready_mem hi; have := left_set hs (by omega) h2; omega
   exact ⟨hr, hend l a w hs hI hr⟩
 | fuel + 1, l, a, w, hs, hl, hI => by
   refine ⟨fun hr => hend l a w hs hI hr, fun i hi => ?_⟩; obtain ⟨h1, h2, _⟩ := ready_mem hi; have hlt := left_set hs (by omega) h2; exact wpOp_imp (fun a' w' hI' => wpAny_inv n hn I hend hstep fuel _ a' w' (by simp [hs]) (by omega) hI') (hstep i l a w hs hI hi)
theorem wp_region_inv {P : Program} {ops : Array Oper} {Q : Exit → Act → World → Prop} {id : Nat} {a : Act} {w : World} (hm : P.follows .mixedOrders = true) (n : Nat) (hn : ops.size = n) (I : Array Bool → Act → World → Prop)
 (h0 : I (Array.replicate n false) a w.drew)
 (hend : ∀ l a w, l.size = n → I l a w → Region.ready .any ops l = [] → Q .normal a w)
 (hstep : ∀ i l a w, l.size = n → I l a w → i ∈ Region.ready .any ops l → wpOp P ops Q i (I (l.setIfInBounds i true)) a w) : (Code.region id ops true).wp P Q a w := by
 refine wp_region_any hm ?_; rw [hn]; exact wpAny_inv n hn I hend hstep n _ _ _ (by simp) (left_le n _) h0
theorem ready_dep {md : Region.Mode} {ops : Array Oper} {l : Array Bool} {i k : Nat} {o : Oper} {e : Edge} (h : i ∈ Region.ready md ops l) (ho : ops[i]? = some o) (he : o.after[k]? = some e) (hb : Region.binds md e = true) : l.getD e.on false = true := by
 obtain ⟨_, _, h3⟩ := ready_mem h; rw [ho] at h3; simp only [Option.map_some, Option.getD_some] at h3; have hk := Array.getElem?_eq_some_iff.1 he; have := Array.all_eq_true.1 h3 k hk.1; rw [hk.2, hb] at this
 simpa using this
theorem ready_none {md : Region.Mode} {ops : Array Oper} {l : Array Bool} (hs : l.size = ops.size) (hd : ∀ (i : Nat) (o : Oper), ops[i]? = some o → ∀ e : Edge, e ∈ o.after → e.on < i) (h : Region.ready md ops l = []) : ∀ i, i < ops.size → l.getD i true = true := by
 intro i; induction i using Nat.strongRecOn with
 | _ i ih =>
   intro hi; cases hb : l.getD i true with
   | true => rfl
   | false =>
     have : i ∈ Region.ready md ops l := by
      unfold Region.ready; rw [List.mem_filter]; refine ⟨List.mem_range.2 hi, ?_⟩; rw [hb, Array.getElem?_eq_getElem hi]; simp only [Bool.not_false, Bool.true_and, Option.map_some, Option.getD_some]; rw [Array.all_eq_true]; intro k hk; have hlt := hd i _ (Array.getElem?_eq_getElem hi) _ (Array.getElem_mem hk); have := ih _ hlt (by omega); have e2 : l.getD (ops[i].after[k]).on false = l.getD (ops[i].after[k]).on true := by
       simp [Array.getD_eq_getD_getElem?, Array.getElem?_eq_getElem (show (ops[i].after[k]).on < l.size by omega)]
      rw [e2, this]; simp
     rw [h] at this; cases this
def depsLow (ops : Array Oper) : Bool := (List.range ops.size).all fun i => ((ops[i]?).map (·.after.all fun e => decide (e.on < i))).getD true
theorem depsLow_spec {ops : Array Oper} (h : depsLow ops = true) : ∀ (i : Nat) (o : Oper), ops[i]? = some o → ∀ e : Edge, e ∈ o.after → e.on < i := by
 intro i o ho e he; unfold depsLow at h; have hi := (Array.getElem?_eq_some_iff.1 ho).1; have := List.all_eq_true.1 h i (List.mem_range.2 hi); rw [ho] at this; simp only [Option.map_some, Option.getD_some] at this; obtain ⟨k, hk, rfl⟩ := Array.mem_iff_getElem.1 he; have := Array.all_eq_true.1 this k hk
 simpa using this
theorem step_yield {P : Program} {ops : Array Oper} {o : Oper} {a : Act} {w : World} {K : Act → World → Prop} {Q : Exit → Act → World → Prop} {E : Prop} {v : Value} (hw : Region.wanted o (yielded ops a.tmps) = true) (hrun : (execOp a.eval o).run P w = .ok (.value v) w)
 (h : K (a.put o.dst v) w) : if Region.wanted o (yielded ops a.tmps) = true then Oper.wp P o a w K Q else E := by
 rw [if_pos hw]; unfold Oper.wp; rw [hrun]; exact h
end Go.Proofs.YtojfcdjgcgnajaaGreat
namespace Go.Proofs.YtojfcdjgcgnajaaGreat
open Go.RowKit
set_option linter.unusedSimpArgs false
set_option linter.unusedVariables false
theorem f_add {va vb : Value} {a b : K} (ha : IsF va a) (hb : IsF vb b) : GivesF 86 #[va, vb] (a + b) := fun w => by
 refine (g_fadd ha hb w).mono ?_; rintro e w' ⟨v, rfl, hv, hk⟩; exact ⟨v, rfl, by have := isF_of hv; rwa [toF_add, val_toF, val_toF] at this, hk⟩
theorem f_sub {va vb : Value} {a b : K} (ha : IsF va a) (hb : IsF vb b) : GivesF 85 #[va, vb] (a - b) := fun w => by
 refine (g_fsub ha hb w).mono ?_; rintro e w' ⟨v, rfl, hv, hk⟩; exact ⟨v, rfl, by have := isF_of hv; rwa [toF_sub, val_toF, val_toF] at this, hk⟩
theorem f_mul {va vb : Value} {a b : K} (ha : IsF va a) (hb : IsF vb b) : GivesF 84 #[va, vb] (a * b) := fun w => by
 refine (g_fmul ha hb w).mono ?_; rintro e w' ⟨v, rfl, hv, hk⟩; exact ⟨v, rfl, by have := isF_of hv; rwa [toF_mul, val_toF, val_toF] at this, hk⟩
def invK (a : K) : K := toF ((a.val : Int) ^ E2)
theorem f_inv {va : Value} {a : K} (ha : IsF va a) : GivesF 128 #[va] (invK a) := fun w => by
 refine (g_inv ha w).mono ?_; rintro e w' ⟨v, rfl, hv, hk⟩; exact ⟨v, rfl, isF_of hv, hk⟩
theorem invK_mul {a : K} (h : a ≠ 0) : a * invK a = 1 := by
 have hz : (a.val : Int) % PP ≠ 0 := fun e => h (by rw [← val_toF a]; exact toF_nz.2 e)
 have := inv_one (a.val : Int) hz; unfold invK; rw [← toF_one, ← val_toF a, ← toF_mul, toF_eq, val_toF, ← imul_r, this]; decide
theorem isF0 : IsF (W4 0 0 0 0) 0 := isw0
theorem zero4 : (#[.int .u64 0, .int .u64 0, .int .u64 0, .int .u64 0] : Array Value) = catW [W4 0 0 0 0] := by kernel_rfl
theorem zero8 : (#[.int .u64 0, .int .u64 0, .int .u64 0, .int .u64 0, .int .u64 0, .int .u64 0, .int .u64 0, .int .u64 0] : Array Value) = catW [W4 0 0 0 0, W4 0 0 0 0] := by kernel_rfl
theorem zero12 : (#[.int .u64 0, .int .u64 0, .int .u64 0, .int .u64 0, .int .u64 0, .int .u64 0, .int .u64 0, .int .u64 0, .int .u64 0, .int .u64 0, .int .u64 0, .int .u64 0] : Array Value) = catW [W4 0 0 0 0, W4 0 0 0 0, W4 0 0 0 0] := by kernel_rfl
theorem zero16w : (#[.int .u64 0, .int .u64 0, .int .u64 0, .int .u64 0, .int .u64 0, .int .u64 0, .int .u64 0, .int .u64 0, .int .u64 0, .int .u64 0, .int .u64 0, .int .u64 0, .int .u64 0, .int .u64 0, .int .u64 0, .int .u64 0] : Array Value) = catW [W4 0 0 0 0, W4 0 0 0 0, W4 0 0 0 0, W4 0 0 0 0] := by kernel_rfl
theorem wordsZ : Words [W4 0 0 0 0] := words1 isw0
theorem VarS.newZ (w : World) : VarS (w.alloc (.cells #[.int .u64 0, .int .u64 0, .int .u64 0, .int .u64 0] 51)) w.heap.size 51 [W4 0 0 0 0] := ⟨wordsZ, by rw [zero4]; exact heap_alloc_new _ _⟩
theorem VarS.new24 (w : World) : VarS (w.alloc (.cells #[.int .u64 0, .int .u64 0, .int .u64 0, .int .u64 0] 51)) w.heap.size 51 [W4 0 0 0 0] := VarS.newZ w
theorem load28 {w : World} {z : Nat} {v0 v1 : Value} (h : VarS w z 77 [v0, v1]) : (loadVar 77 ⟨z, 0, none⟩).run Tryz.prog w = .ok (.agg (catW [v0, v1])) w :=
 run_loadVar_row w z 77 77 _ (0, 0) _ h.2 Tryz.underlying77 rfl (by rw [catW_size h.1]; kernel_rfl)
theorem load76 {w : World} {z : Nat} {v0 v1 v2 v3 : Value} (h : VarS w z 145 [v0, v1, v2, v3]) : (loadVar 145 ⟨z, 0, none⟩).run Tryz.prog w = .ok (.agg (catW [v0, v1, v2, v3])) w :=
 run_loadVar_row w z 145 145 _ (0, 0) _ h.2 Tryz.underlying145 rfl (by rw [catW_size h.1]; kernel_rfl)
theorem load80 {w : World} {z : Nat} {v0 v1 v2 : Value} (h : VarS w z 142 [v0, v1, v2]) : (loadVar 142 ⟨z, 0, none⟩).run Tryz.prog w = .ok (.agg (catW [v0, v1, v2])) w :=
 run_loadVar_row w z 142 142 _ (0, 0) _ h.2 Tryz.underlying142 rfl (by rw [catW_size h.1]; kernel_rfl)
def Gives4 (f : Nat) (args : Array Value) (e0 e1 e2 e3 : K) : Prop := ∀ w : World, Calls Tryz.prog f args w fun e w' => ∃ v0 v1 v2 v3, e = .returned (.agg (catW [v0, v1, v2, v3])) ∧ (IsF v0 e0 ∧ IsF v1 e1 ∧ IsF v2 e2 ∧ IsF v3 e3) ∧ Below w.heap.size w w'
def Gives3 (f : Nat) (args : Array Value) (e0 e1 e2 : K) : Prop := ∀ w : World, Calls Tryz.prog f args w fun e w' => ∃ v0 v1 v2, e = .returned (.agg (catW [v0, v1, v2])) ∧ (IsF v0 e0 ∧ IsF v1 e1 ∧ IsF v2 e2) ∧ Below w.heap.size w w'
def Gives2 (f : Nat) (args : Array Value) (e0 e1 : K) : Prop := ∀ w : World, Calls Tryz.prog f args w fun e w' => ∃ v0 v1, e = .returned (.agg (catW [v0, v1])) ∧ (IsF v0 e0 ∧ IsF v1 e1) ∧ Below w.heap.size w w'
theorem IsW.cat {v : Value} {x : Int} (h : IsW v x) : v = .agg (catW [v]) := by
 unfold catW catW; rw [Array.append_empty]; exact h.agg.1
theorem info24w : (Tryz.prog.info? 51).map (·.size) = some (4 * 1) := by kernel_rfl
theorem step_store_wordS {ops : Array Oper} {o : Oper} {a : Act} {w : World} {K : Act → World → Prop} {Q : Exit → Act → World → Prop} {E : Prop} (hw : Region.wanted o (yielded ops a.tmps) = true) (x y : Operand) (ho : o.op = .store 51 x y)
 (z : Nat) (hx : a.eval x = .pointer (some ⟨z, 0, none⟩)) {u : Value} {n : Int} (hy : a.eval y = u) (hu : IsW u n) {v : Value} (hz : VarS w z 51 [v])
 (h : K (a.put o.dst undef) (w.setRow z (catW [u]))) : if Region.wanted o (yielded ops a.tmps) = true then Oper.wp Tryz.prog o a w K Q else E :=
 step_store_row hw 51 x y ho z (catW [u]) hx (hy.trans hu.cat) (hz.store (words1 hu) rfl info24w) h
theorem step_store_S {ops : Array Oper} {o : Oper} {a : Act} {w : World} {K : Act → World → Prop} {Q : Exit → Act → World → Prop} {E : Prop} (hw : Region.wanted o (yielded ops a.tmps) = true) (ty : TypeId) (x y : Operand) (ho : o.op = .store ty x y)
 (z : Nat) (hx : a.eval x = .pointer (some ⟨z, 0, none⟩)) {us vs : List Value} (hy : a.eval y = .agg (catW us)) (hu : Words us) (hl : vs.length = us.length) (hi : (Tryz.prog.info? ty).map (·.size) = some (4 * us.length)) (hz : VarS w z ty vs)
 (h : K (a.put o.dst undef) (w.setRow z (catW us))) : if Region.wanted o (yielded ops a.tmps) = true then Oper.wp Tryz.prog o a w K Q else E :=
 step_store_row hw ty x y ho z (catW us) hx hy (hz.store hu hl hi) h
end Go.Proofs.YtojfcdjgcgnajaaGreat
namespace Go.Proofs.YtojfcdjgcgnajaaGreat
open Go.RowKit
set_option linter.unusedSimpArgs false
set_option linter.unusedVariables false
set_option maxHeartbeats 1000000 in
theorem f_one : GivesF 87 #[] 1 := fun w => by
 have V0 : Hid (VarW (w.alloc (.cells (C4 0 0 0 0) 51)) w.heap.size (W4 0 0 0 0) ∧ Below w.heap.size w (w.alloc (.cells (C4 0 0 0 0) 51))) := ⟨VarW.new w, by go_grown⟩
 go_enter Tryz.func87, Tryz.ntmps87
 go_wp2_with fail
 generalize w.alloc (.cells (C4 0 0 0 0) 51) = W0 at V0 ⊢; refine Calls.mono (g_of1 _) ?_; rintro e w1 ⟨v1, rfl, h1, b1⟩; have V1 : Hid (VarW w1 w.heap.size (W4 0 0 0 0) ∧ Below w.heap.size w w1) := ⟨V0.out.1.kept b1, V0.out.2.trans (b1.mono V0.out.2.size)⟩
 clear V0 b1; have H1 : Hid (IsW v1 1) := h1; clear h1; go_wp2_with (first | (refine wpList_store_varW (u := v1) rfl _ _ rfl w.heap.size rfl rfl H1.out V1.out.1 ?_)); have hl := (V1.out.1.put H1.out).load; exact bodyPost_ret (v := v1) (by simp [results, Tryz.results87, asAddr, Act.put, hl]) rfl ⟨_, rfl, H1.out, below_setRow V1.out.2 (by omega) _⟩
theorem dd_num : num 8496970652267935907 31536524315187371 10144147576115030168 5909686906226998899 = DD := by decide
set_option maxHeartbeats 1000000 in
theorem f_curve : GivesF 88 #[] (toF DD) := fun w => by
 unfold IsF; have hD : ((toF DD).val : Int) = DD := by rw [toF_val]; decide
 rw [hD]; go_enter Tryz.func88, Tryz.ntmps88; go_wp2; go_returns; exact ⟨_, rfl, ⟨_, _, _, _, rfl, ⟨⟨by decide, by decide⟩, ⟨by decide, by decide⟩, ⟨by decide, by decide⟩, ⟨by decide, by decide⟩⟩, dd_num⟩, by go_grown⟩
end Go.Proofs.YtojfcdjgcgnajaaGreat
namespace Go.Proofs.YtojfcdjgcgnajaaGreat
open Go.RowKit
set_option linter.unusedSimpArgs false
set_option linter.unusedVariables false
set_option maxRecDepth 20000 in
set_option maxHeartbeats 4000000 in
theorem f_squareOfX {p00 : Value} {ky : K} (h00 : IsF p00 ky) : GivesF 112 #[p00] ((ky * ky - 1) * invK (toF DD * (ky * ky) + 1)) := fun w => by
 have H00 : Hid (IsF p00 ky) := h00; obtain ⟨l00_0, l00_1, l00_2, l00_3, rfl, L00, _⟩ := h00; clear L00; have V0 : Hid (VarS ((w.alloc (.cells (C4 l00_0 l00_1 l00_2 l00_3) 51)).alloc (.cells #[.int .u64 0, .int .u64 0, .int .u64 0, .int .u64 0] 51)) (w.heap.size) 51 [W4 l00_0 l00_1 l00_2 l00_3] ∧ VarS ((w.alloc (.cells (C4 l00_0 l00_1 l00_2 l00_3) 51)).alloc (.cells #[.int .u64 0, .int .u64 0, .int .u64 0, .int .u64 0] 51)) (w.heap.size + 1) 51 [W4 0 0 0 0] ∧ Below w.heap.size w ((w.alloc (.cells (C4 l00_0 l00_1 l00_2 l00_3) 51)).alloc (.cells #[.int .u64 0, .int .u64 0, .int .u64 0, .int .u64 0] 51))) :=
  ⟨⟨words1 H00.out, heap_old _ _ _ _ (heap_alloc_new _ _)⟩, ⟨words1 isw0, by rw [← zero4]; exact heapAt _ _ _ (by simp)⟩, by go_grown⟩
 go_enter Tryz.func112, Tryz.ntmps112
 unfold W4; go_wp2_with (first | (refine wpList_load_run rfl 51 _ rfl _ rfl (V0.out.1.part 0 rfl) ?_) | (refine wpList_load_run rfl 51 _ rfl _ rfl (V0.out.1.part 0 rfl) ?_)); generalize ((w.alloc (.cells (C4 l00_0 l00_1 l00_2 l00_3) 51)).alloc (.cells #[.int .u64 0, .int .u64 0, .int .u64 0, .int .u64 0] 51)) = W0 at V0 ⊢; refine Calls.mono (f_mul H00.out H00.out _) ?_; rintro e w1 ⟨v1, rfl, h1, b1⟩; have H1 : Hid (IsF v1 ((ky) * (ky))) := h1; clear h1; have hb1 := V0.out.2.2.trans (b1.mono V0.out.2.2.size); have hsep : w.heap.size + 1 < w1.heap.size := (V0.out.2.1.kept b1).lt; have V1 : Hid (VarS ((w1.alloc (.cells #[.int .u64 0, .int .u64 0, .int .u64 0, .int .u64 0] 51)).setRow w1.heap.size (catW [v1])) (w.heap.size) 51 [W4 l00_0 l00_1 l00_2 l00_3] ∧ VarS ((w1.alloc (.cells #[.int .u64 0, .int .u64 0, .int .u64 0, .int .u64 0] 51)).setRow w1.heap.size (catW [v1])) (w.heap.size + 1) 51 [W4 0 0 0 0] ∧ VarS ((w1.alloc (.cells #[.int .u64 0, .int .u64 0, .int .u64 0, .int .u64 0] 51)).setRow w1.heap.size (catW [v1])) w1.heap.size 51 [v1] ∧ Below w.heap.size w ((w1.alloc (.cells #[.int .u64 0, .int .u64 0, .int .u64 0, .int .u64 0] 51)).setRow w1.heap.size (catW [v1]))) :=
  ⟨((V0.out.1.kept b1).old _).other (Nat.ne_of_lt (V0.out.1.kept b1).lt) _, ((V0.out.2.1.kept b1).old _).other (Nat.ne_of_lt (V0.out.2.1.kept b1).lt) _, (VarS.new24 w1).put (words1 H1.out), below_setRow (hb1.alloc hb1.size _) hb1.size _⟩
 clear V0 b1 hb1; have hst := (VarS.new24 w1).store (words1 H1.out) rfl info24w; go_wp2_with (first | (refine wpList_store_run rfl 51 _ _ rfl w1.heap.size (catW [v1]) rfl (IsW.cat H1.out) hst ?_)); clear hst; generalize ((w1.alloc (.cells #[.int .u64 0, .int .u64 0, .int .u64 0, .int .u64 0] 51)).setRow w1.heap.size (catW [v1])) = W0 at V1 ⊢; have V0 := V1; clear V1; have g0 := V0.out.1; have hres := V0.out.2.1; have g2 := V0.out.2.2.1; have hBel := V0.out.2.2.2; clear V0; have hw0 : w.heap.size ≤ W0.heap.size := Nat.le_of_lt (Nat.lt_of_le_of_lt (by omega) hres.lt); have lt_g00 := g0.lt; have lt_g20 := g2.lt; have ltr0 := hres.lt; refine wp_region_inv (by kernel_rfl) 11 rfl (fun l a w' => ∃ (β0 β1 β2 β3 β4 β5 β6 β7 β8 β9 β10 : Bool) (x0_1 x0_2 x0_3 x0_5 x0_6 x0_7 x0_8 x0_9 : Value), l = #[β0, β1, β2, β3, β4, β5, β6, β7, β8, β9, β10] ∧ a = ⟨#[W4 l00_0 l00_1 l00_2 l00_3, .pointer (some ⟨w.heap.size, 0, none⟩), .pointer (some ⟨w.heap.size + 1, 0, none⟩), .pointer (some ⟨w1.heap.size, 0, none⟩), W4 l00_0 l00_1 l00_2 l00_3, W4 l00_0 l00_1 l00_2 l00_3, v1, bif β0 then v1 else undef, bif β1 then x0_1 else undef, bif β2 then x0_2 else undef, bif β3 then x0_3 else undef, bif β4 then v1 else undef, bif β5 then x0_5 else undef, bif β6 then x0_6 else undef, bif β7 then x0_7 else undef, bif β8 then x0_8 else undef, bif β9 then x0_9 else undef], []⟩ ∧ Below (w.heap.size) W0 w' ∧ Hid (β1 = true → IsF x0_1 (1)) ∧ Hid (β2 = true → IsF x0_2 (((ky) * (ky)) - (1))) ∧ Hid (β3 = true → IsF x0_3 (toF DD)) ∧ Hid (β5 = true → IsF x0_5 ((toF DD) * ((ky) * (ky)))) ∧ Hid (β6 = true → IsF x0_6 (1)) ∧ Hid (β7 = true → IsF x0_7 (((toF DD) * ((ky) * (ky))) + (1))) ∧ Hid (β8 = true → IsF x0_8 (invK (((toF DD) * ((ky) * (ky))) + (1)))) ∧ Hid (β9 = true → IsF x0_9 ((((ky) * (ky)) - (1)) * (invK (((toF DD) * ((ky) * (ky))) + (1))))) ∧ Hid (β10 = true → β9 = true) ∧ VarS w' (w.heap.size) 51 [W4 l00_0 l00_1 l00_2 l00_3] ∧ VarS w' (w1.heap.size) 51 [v1] ∧ VarS w' (w.heap.size + 1) 51 (bif β10 then [x0_9] else [W4 0 0 0 0])) ?h00 ?hend0 ?hstep0
 case h00 => exact ⟨false, false, false, false, false, false, false, false, false, false, false, undef, undef, undef, undef, undef, undef, undef, undef, rfl, rfl, Below.drew (Below.refl _ _), (fun h => by cases h), (fun h => by cases h), (fun h => by cases h), (fun h => by cases h), (fun h => by cases h), (fun h => by cases h), (fun h => by cases h), (fun h => by cases h), (fun h => by cases h), g0.drew, g2.drew, hres.drew⟩
 case hend0 =>
  intro l a w' hs hI hr0; obtain ⟨β0, β1, β2, β3, β4, β5, β6, β7, β8, β9, β10, x0_1, x0_2, x0_3, x0_5, x0_6, x0_7, x0_8, x0_9, rfl, rfl, hB, hc0_1, hc0_2, hc0_3, hc0_5, hc0_6, hc0_7, hc0_8, hc0_9, hm0_10_9, g0, g2, hr⟩ := hI; have hall := ready_none (by rfl) (depsLow_spec (by kernel_rfl)) hr0; obtain rfl : β0 = true := hall 0 (by decide); obtain rfl : β1 = true := hall 1 (by decide); obtain rfl : β2 = true := hall 2 (by decide); obtain rfl : β3 = true := hall 3 (by decide); obtain rfl : β4 = true := hall 4 (by decide); obtain rfl : β5 = true := hall 5 (by decide); obtain rfl : β6 = true := hall 6 (by decide); obtain rfl : β7 = true := hall 7 (by decide); obtain rfl : β8 = true := hall 8 (by decide); obtain rfl : β9 = true := hall 9 (by decide); obtain rfl : β10 = true := hall 10 (by decide); clear hall hr0 hs
  replace hc0_1 := hc0_1.out rfl
  replace hc0_2 := hc0_2.out rfl
  replace hc0_3 := hc0_3.out rfl
  replace hc0_5 := hc0_5.out rfl
  replace hc0_6 := hc0_6.out rfl
  replace hc0_7 := hc0_7.out rfl
  replace hc0_8 := hc0_8.out rfl
  replace hc0_9 := hc0_9.out rfl
  simp only [cond_true] at hr ⊢; have hBel := hBel.trans (hB.mono (Nat.le_refl _)); have hl := hr.part 0 rfl; go_wp2; exact bodyPost_ret (v := x0_9) (by simp [results, Tryz.results112, asAddr, hl]) rfl ⟨_, rfl, hc0_9, hBel⟩
 case hstep0 =>
  intro i l a w' hs hI hi; obtain ⟨β0, β1, β2, β3, β4, β5, β6, β7, β8, β9, β10, x0_1, x0_2, x0_3, x0_5, x0_6, x0_7, x0_8, x0_9, rfl, rfl, hB, hc0_1, hc0_2, hc0_3, hc0_5, hc0_6, hc0_7, hc0_8, hc0_9, hm0_10_9, g0, g2, hr⟩ := hI; obtain ⟨hlt, hun, _⟩ := ready_mem hi; have hlt' : i < 11 := hlt; clear hlt hs; have hcs : i = 0 ∨ i = 1 ∨ i = 2 ∨ i = 3 ∨ i = 4 ∨ i = 5 ∨ i = 6 ∨ i = 7 ∨ i = 8 ∨ i = 9 ∨ i = 10 := by omega
  clear hlt'; rcases hcs with rfl | rfl | rfl | rfl | rfl | rfl | rfl | rfl | rfl | rfl | rfl
  · obtain rfl : β0 = false := hun
    clear hi; try simp only [cond_true, cond_false]
    refine ws (fun Kx hK => ?_); refine step_yield (v := v1) (by rfl) ?_ ?_
    · exact run_load_exec 51 _ rfl _ rfl (g2.part 0 rfl)
    · exact hK.out _ _ ⟨true, β1, β2, β3, β4, β5, β6, β7, β8, β9, β10, x0_1, x0_2, x0_3, x0_5, x0_6, x0_7, x0_8, x0_9, rfl, rfl, hB, hc0_1, hc0_2, hc0_3, hc0_5, hc0_6, hc0_7, hc0_8, hc0_9, hm0_10_9, g0, g2, hr⟩
  · obtain rfl : β1 = false := hun
    clear hi; try simp only [cond_true, cond_false]
    refine ws (fun Kx hK => ?_); go_simp; refine Calls.mono (f_one _) ?_; rintro e w2 ⟨v, rfl, hv, hb2⟩; go_wp2_with fail; exact hK.out _ _ ⟨β0, true, β2, β3, β4, β5, β6, β7, β8, β9, β10, v, x0_2, x0_3, x0_5, x0_6, x0_7, x0_8, x0_9, rfl, rfl, (hB.trans (hb2.mono (Nat.le_trans hw0 hB.size))), (fun _ => hv), hc0_2, hc0_3, hc0_5, hc0_6, hc0_7, hc0_8, hc0_9, hm0_10_9, (g0.kept hb2), (g2.kept hb2), (hr.kept hb2)⟩
  · obtain rfl : β2 = false := hun
    obtain rfl : β0 = true := ready_dep (k := 0) hi rfl rfl rfl; obtain rfl : β1 = true := ready_dep (k := 1) hi rfl rfl rfl; clear hi; try simp only [cond_true, cond_false]
    refine ws (fun Kx hK => ?_)
    replace hc0_1 := hc0_1.out rfl
    go_simp; refine Calls.mono (f_sub H1.out hc0_1 _) ?_
    rintro e w2 ⟨v, rfl, hv, hb2⟩; go_wp2_with fail; exact hK.out _ _ ⟨true, true, true, β3, β4, β5, β6, β7, β8, β9, β10, x0_1, v, x0_3, x0_5, x0_6, x0_7, x0_8, x0_9, rfl, rfl, (hB.trans (hb2.mono (Nat.le_trans hw0 hB.size))), (fun _ => hc0_1), (fun _ => hv), hc0_3, hc0_5, hc0_6, hc0_7, hc0_8, hc0_9, hm0_10_9, (g0.kept hb2), (g2.kept hb2), (hr.kept hb2)⟩
  · obtain rfl : β3 = false := hun
    clear hi; try simp only [cond_true, cond_false]
    refine ws (fun Kx hK => ?_); go_simp; refine Calls.mono (f_curve _) ?_; rintro e w2 ⟨v, rfl, hv, hb2⟩; go_wp2_with fail; exact hK.out _ _ ⟨β0, β1, β2, true, β4, β5, β6, β7, β8, β9, β10, x0_1, x0_2, v, x0_5, x0_6, x0_7, x0_8, x0_9, rfl, rfl, (hB.trans (hb2.mono (Nat.le_trans hw0 hB.size))), hc0_1, hc0_2, (fun _ => hv), hc0_5, hc0_6, hc0_7, hc0_8, hc0_9, hm0_10_9, (g0.kept hb2), (g2.kept hb2), (hr.kept hb2)⟩
  · obtain rfl : β4 = false := hun
    clear hi; try simp only [cond_true, cond_false]
    refine ws (fun Kx hK => ?_); refine step_yield (v := v1) (by rfl) ?_ ?_
    · exact run_load_exec 51 _ rfl _ rfl (g2.part 0 rfl)
    · exact hK.out _ _ ⟨β0, β1, β2, β3, true, β5, β6, β7, β8, β9, β10, x0_1, x0_2, x0_3, x0_5, x0_6, x0_7, x0_8, x0_9, rfl, rfl, hB, hc0_1, hc0_2, hc0_3, hc0_5, hc0_6, hc0_7, hc0_8, hc0_9, hm0_10_9, g0, g2, hr⟩
  · obtain rfl : β5 = false := hun
    obtain rfl : β3 = true := ready_dep (k := 0) hi rfl rfl rfl; obtain rfl : β4 = true := ready_dep (k := 1) hi rfl rfl rfl; clear hi; try simp only [cond_true, cond_false]
    refine ws (fun Kx hK => ?_)
    replace hc0_3 := hc0_3.out rfl
    go_simp; refine Calls.mono (f_mul hc0_3 H1.out _) ?_
    rintro e w2 ⟨v, rfl, hv, hb2⟩; go_wp2_with fail; exact hK.out _ _ ⟨β0, β1, β2, true, true, true, β6, β7, β8, β9, β10, x0_1, x0_2, x0_3, v, x0_6, x0_7, x0_8, x0_9, rfl, rfl, (hB.trans (hb2.mono (Nat.le_trans hw0 hB.size))), hc0_1, hc0_2, (fun _ => hc0_3), (fun _ => hv), hc0_6, hc0_7, hc0_8, hc0_9, hm0_10_9, (g0.kept hb2), (g2.kept hb2), (hr.kept hb2)⟩
  · obtain rfl : β6 = false := hun
    clear hi; try simp only [cond_true, cond_false]
    refine ws (fun Kx hK => ?_); go_simp; refine Calls.mono (f_one _) ?_; rintro e w2 ⟨v, rfl, hv, hb2⟩; go_wp2_with fail; exact hK.out _ _ ⟨β0, β1, β2, β3, β4, β5, true, β7, β8, β9, β10, x0_1, x0_2, x0_3, x0_5, v, x0_7, x0_8, x0_9, rfl, rfl, (hB.trans (hb2.mono (Nat.le_trans hw0 hB.size))), hc0_1, hc0_2, hc0_3, hc0_5, (fun _ => hv), hc0_7, hc0_8, hc0_9, hm0_10_9, (g0.kept hb2), (g2.kept hb2), (hr.kept hb2)⟩
  · obtain rfl : β7 = false := hun
    obtain rfl : β5 = true := ready_dep (k := 0) hi rfl rfl rfl; obtain rfl : β6 = true := ready_dep (k := 1) hi rfl rfl rfl; clear hi; try simp only [cond_true, cond_false]
    refine ws (fun Kx hK => ?_)
    replace hc0_5 := hc0_5.out rfl
    replace hc0_6 := hc0_6.out rfl
    go_simp; refine Calls.mono (f_add hc0_5 hc0_6 _) ?_
    rintro e w2 ⟨v, rfl, hv, hb2⟩; go_wp2_with fail; exact hK.out _ _ ⟨β0, β1, β2, β3, β4, true, true, true, β8, β9, β10, x0_1, x0_2, x0_3, x0_5, x0_6, v, x0_8, x0_9, rfl, rfl, (hB.trans (hb2.mono (Nat.le_trans hw0 hB.size))), hc0_1, hc0_2, hc0_3, (fun _ => hc0_5), (fun _ => hc0_6), (fun _ => hv), hc0_8, hc0_9, hm0_10_9, (g0.kept hb2), (g2.kept hb2), (hr.kept hb2)⟩
  · obtain rfl : β8 = false := hun
    obtain rfl : β7 = true := ready_dep (k := 0) hi rfl rfl rfl; clear hi; try simp only [cond_true, cond_false]
    refine ws (fun Kx hK => ?_)
    replace hc0_7 := hc0_7.out rfl
    go_simp; refine Calls.mono (f_inv hc0_7 _) ?_
    rintro e w2 ⟨v, rfl, hv, hb2⟩; go_wp2_with fail; exact hK.out _ _ ⟨β0, β1, β2, β3, β4, β5, β6, true, true, β9, β10, x0_1, x0_2, x0_3, x0_5, x0_6, x0_7, v, x0_9, rfl, rfl, (hB.trans (hb2.mono (Nat.le_trans hw0 hB.size))), hc0_1, hc0_2, hc0_3, hc0_5, hc0_6, (fun _ => hc0_7), (fun _ => hv), hc0_9, hm0_10_9, (g0.kept hb2), (g2.kept hb2), (hr.kept hb2)⟩
  · obtain rfl : β9 = false := hun
    obtain rfl : β2 = true := ready_dep (k := 0) hi rfl rfl rfl; obtain rfl : β8 = true := ready_dep (k := 1) hi rfl rfl rfl; obtain rfl : β10 = false := Bool.eq_false_iff.2 (fun h => by have := hm0_10_9.out h; cases this); clear hi; try simp only [cond_true, cond_false]
    refine ws (fun Kx hK => ?_)
    replace hc0_8 := hc0_8.out rfl
    replace hc0_2 := hc0_2.out rfl
    go_simp; refine Calls.mono (f_mul hc0_2 hc0_8 _) ?_
    rintro e w2 ⟨v, rfl, hv, hb2⟩; go_wp2_with fail; exact hK.out _ _ ⟨β0, β1, true, β3, β4, β5, β6, β7, true, true, false, x0_1, x0_2, x0_3, x0_5, x0_6, x0_7, x0_8, v, rfl, rfl, (hB.trans (hb2.mono (Nat.le_trans hw0 hB.size))), hc0_1, (fun _ => hc0_2), hc0_3, hc0_5, hc0_6, hc0_7, (fun _ => hc0_8), (fun _ => hv), (fun _ => rfl), (g0.kept hb2), (g2.kept hb2), (hr.kept hb2)⟩
  · obtain rfl : β10 = false := hun
    obtain rfl : β9 = true := ready_dep (k := 0) hi rfl rfl rfl; clear hi; try simp only [cond_true, cond_false]
    refine ws (fun Kx hK => ?_); refine step_store_wordS (u := x0_9) (v := W4 0 0 0 0) (by rfl) _ _ rfl (w.heap.size + 1) rfl rfl (hc0_9.out rfl) hr ?_; exact hK.out _ _ ⟨β0, β1, β2, β3, β4, β5, β6, β7, β8, true, true, x0_1, x0_2, x0_3, x0_5, x0_6, x0_7, x0_8, x0_9, rfl, rfl, (below_setRow hB (by omega) _), hc0_1, hc0_2, hc0_3, hc0_5, hc0_6, hc0_7, hc0_8, hc0_9, (fun _ => rfl), (g0.other (by omega) _), (g2.other (by omega) _), (hr.put (words1 (hc0_9.out rfl)))⟩
end Go.Proofs.YtojfcdjgcgnajaaGreat
