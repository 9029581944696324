/- RE, RG, RH, RI -/
import Derived.Test.YtconkienlcegaaaGreatDoorRD
import Derived.Test.YtconkienlcegaaaGreatDoorGDD
namespace Go.Proofs.YtconkienlcegaaaGreatDoor
open Go.RowKit Go.Maps Go.Joins
set_option linter.unusedSimpArgs false
set_option linter.unusedVariables false
set_option maxHeartbeats 1000000 in
theorem rnew_any (r : Int) (h0 : 0 ≤ r) (h1 : r ≤ 1073741824) (w : World) :
 Calls Tryz.prog 9 #[.int .i64 r] w fun e w' => e = .returned (.pointer (some ⟨w.heap.size, 0, none⟩)) ∧ RefIs w' w.heap.size { room := r, frm := 0, n := 0, lv := .slice none 0 0, A := [], pv := .slice none 0 0, plan := [], down := false, own := fun b => if b = w.heap.size then 1 else 0 } ∧ Below w.heap.size w w' := by
 have d1 : decide (r < 0) = false := by simp; omega
 have d2 : decide (1073741824 < r) = false := by simp; omega
 go_enter Tryz.func9, Tryz.ntmps9
 go_wp2; go_ret
 refine ⟨rfl, ⟨?_, by simp, World.ownsRow_nil _ _ _ _, fun b hb => (by cases hb), fun f hf => (by cases hf), fun f hf => (by cases hf), fun f hf => (by cases hf), World.ownsRow_nil _ _ _ _, fun b hb => (by cases hb), fun b hb => ?_⟩, by go_grown⟩
 · exact heap_alloc_new _ _
 · have : w.heap.size + 1 ≤ b := by simpa using hb
   simp
   omega
theorem rth_zero {R : RS} {a b : ByteArray} (h : rthE R a b = 0) : rstE R a b = 0 ∧ 0 ≤ idxR a R.A ∧ rthI R a b = idxR a R.A := by
 unfold rthE at h; split at h
 · rename_i h0
   split at h
   · cases h
   · rename_i h1
     exact ⟨h0, by omega, by simp [rthI, h0, h1]⟩
 · rename_i h0
   exact absurd h h0
theorem idxR_some {nm : ByteArray} : ∀ {A : List RF}, 0 ≤ idxR nm A → ∃ k f, idxR nm A = (k : Nat) ∧ A[k]? = some f ∧ f.nm = nm
 | [], h => by simp [idxR] at h
 | a :: r, h => by
   unfold idxR at h ⊢; by_cases e : a.nm = nm
   · rw [if_pos e]
     exact ⟨0, a, rfl, rfl, e⟩
   · rw [if_neg e] at h ⊢
     by_cases e2 : idxR nm r = -1
     · rw [if_pos e2] at h
       omega
     · rw [if_neg e2] at h ⊢
       have h3 := idxR_ge nm r; obtain ⟨k, f, hk, hf, hn⟩ := idxR_some (A := r) (nm := nm) (by omega); exact ⟨k + 1, f, by rw [hk]; simp, by simpa using hf, hn⟩
def Rn (R : RS) : Prop := 0 ≤ R.n ∧ R.n < 4611686018427387904
set_option maxHeartbeats 4000000 in
theorem rread_no {w : World} {br : Nat} {R : RS} (h : RefIs w br R) (hp : PlanR R) (hn : Rn R) (hl : R.A.length ≤ 100) (s : ByteArray) (hs : s.size ≤ 9223372036854775807) (he : rthE R s s ≠ 0) :
 Calls Tryz.prog 79 #[.pointer (some ⟨br, 0, none⟩), .string s] w fun e w' => e = .returned (.tuple #[.slice none 0 0, .int .i64 (rthE R s s)]) ∧ RefIs w' br (rstS R s s) ∧ RFr w w' R (rstS R s s) := by
 have HR : Hid (RefIs w br R) := h; have hne : (rthE R s s != 0) = true := by simpa using he
 have hne2 : (rthE R s s == 0) = false := by simpa using he
 clear h he; go_enter Tryz.func79, Tryz.ntmps79; go_wp2_with (first
  | (go_at_call 112
     refine (rthere0 HR.out hp s s hs hs hn (by omega)).mono ?_; generalize hEE : rthE R s s = E at hne hne2 ⊢; generalize rthI R s s = II; rintro e w1 ⟨rfl, hR1, hF1⟩; have H1 : Hid (RefIs w1 br (rstS R s s) ∧ RFr w w1 R (rstS R s s)) := ⟨hR1, hF1⟩
     clear hR1 hF1)
  | go_in)
 go_returns
 rw [hEE]; exact ⟨rfl, H1.out⟩
set_option maxHeartbeats 4000000 in
theorem rtrunc_no {w : World} {br : Nat} {R : RS} (h : RefIs w br R) (hp : PlanR R) (hn : Rn R) (hl : R.A.length ≤ 100) (s : ByteArray) (hs : s.size ≤ 9223372036854775807) (n : Int) (he : rthE R s s ≠ 0) :
 Calls Tryz.prog 82 #[.pointer (some ⟨br, 0, none⟩), .string s, .int .i64 n] w fun e w' => e = .returned (.int .i64 (rthE R s s)) ∧ RefIs w' br (rstS R s s) ∧ RFr w w' R (rstS R s s) := by
 have HR : Hid (RefIs w br R) := h; have hne : (rthE R s s != 0) = true := by simpa using he
 have hne2 : (rthE R s s == 0) = false := by simpa using he
 clear h he; go_enter Tryz.func82, Tryz.ntmps82; go_wp2_with (first
  | (go_at_call 112
     refine (rthere0 HR.out hp s s hs hs hn (by omega)).mono ?_; generalize hEE : rthE R s s = E at hne hne2 ⊢; generalize rthI R s s = II; rintro e w1 ⟨rfl, hR1, hF1⟩; have H1 : Hid (RefIs w1 br (rstS R s s) ∧ RFr w w1 R (rstS R s s)) := ⟨hR1, hF1⟩
     clear hR1 hF1)
  | go_in)
 go_returns
 rw [hEE]; exact ⟨rfl, H1.out⟩
set_option maxRecDepth 100000 in
set_option maxHeartbeats 4000000 in
theorem rread_ok {w : World} {br : Nat} {R : RS} (h : RefIs w br R) (hp : PlanR R) (hn : Rn R) (hl : R.A.length ≤ 100) (s : ByteArray) (hs : s.size ≤ 9223372036854775807) (he : rthE R s s = 0) {k : Nat} {f : RF} (hi : idxR s R.A = (k : Nat)) (hkf : R.A[k]? = some f) (hbl : f.bs.length ≤ 1073741824) :
 Calls Tryz.prog 79 #[.pointer (some ⟨br, 0, none⟩), .string s] w fun e w' => ∃ v', e = .returned (.tuple #[v', .int .i64 0]) ∧ w'.ownsRow w.heap.size 5 1 v' f.bs.length (vB f.bs) ∧ RefIs w' br (rstS R s s) ∧ RFr w w' R (rstS R s s) := by
 have HR : Hid (RefIs w br R) := h; have hI : rthI R s s = (k : Nat) := by rw [(rth_zero he).2.2, hi]
 have hA := A_rstS R s s; clear h; generalize hS1 : rstS R s s = R1 at *; have hkf1 : R1.A[k]? = some f := by rw [hA]; exact hkf
 have hkl : k < R1.A.length := (List.getElem?_eq_some_iff.1 hkf1).1; have hki : (k : Int) < R1.A.length := by omega
 have hl1 : R1.A.length ≤ 100 := by rw [hA]; exact hl
 clear hA; go_enter Tryz.func79, Tryz.ntmps79; go_wp2_with (first
  | (go_at_call 112
     refine (rthere0 HR.out hp s s hs hs hn (by omega)).mono ?_; rw [he, hI, hS1]; rintro e w1 ⟨rfl, hR1, hF1⟩; have H1 : Hid (RefIs w1 br R1 ∧ RFr w w1 R R1) := ⟨hR1, hF1⟩
     obtain ⟨g, cap, hlv, hog, hgl, hlc, hcc⟩ := hR1.cell hkf1; have c3 : w1.cell? ⟨br, 3, none⟩ = some (.slice (some ⟨g, 0, none⟩) R1.A.length cap) := by rw [cell_of_block hR1.disk]; simp [rC, hlv]
     have hc0 := hcc 0 _ rfl; rw [Nat.add_zero] at hc0; have hc1 := hcc 1 _ rfl; have hc2 := hcc 2 _ rfl; obtain ⟨ba, bc, hbv⟩ := row_form (hR1.row f (List.mem_of_getElem? hkf1)); rw [hbv] at hc1; have hby := BytesV.of_own (hR1.row f (List.mem_of_getElem? hkf1)); rw [hbv] at hby
     have HBY : Hid (BytesV w1 (.slice ba f.bs.length bc) f.bs) := hby
     have c3' : (w1.alloc (.cells #[] 5)).cell? ⟨br, 3, none⟩ = some (.slice (some ⟨g, 0, none⟩) R1.A.length cap) := (World.cell?_alloc_past _ _ _ hR1.lt).trans c3; have hc1' : (w1.alloc (.cells #[] 5)).cell? ⟨g, k * 3 + 1, none⟩ = some (.slice ba f.bs.length bc) := (World.cell?_alloc_past _ _ _ hgl).trans hc1; clear hR1 hF1 hcc hby)
  | (at_builtin
     refine wpList_append_b rfl _ _ rfl w1.heap.size (.slice (some ⟨w1.heap.size, 0, none⟩) 0 0) (.slice ba f.bs.length bc) [] f.bs rfl ⟨rfl, Or.inr ⟨w1.heap.size, 0, #[], rfl, Nat.le_refl _, heap_alloc_new _ _, Nat.le_refl _, by decide, rfl, rfl⟩⟩ rfl (HBY.out.below (by go_grown)) (by simp only [List.length_nil, Nat.zero_add]; omega) (by simp) ?_; intro v' w2 ho hg2 ha; rw [List.nil_append] at ho; have H2 : Hid (w2.ownsRow w1.heap.size 5 1 v' f.bs.length (vB f.bs) ∧ Below w1.heap.size w1 w2) := ⟨ho, ((Below.refl _ w1).alloc (Nat.le_refl _) _).grown hg2 (by simp) (fun j hj => by cases hj; exact Nat.le_refl _)⟩
     clear ho hg2 ha)
  | go_in)
 go_returns
 refine ⟨v', rfl, ownsRow_le H2.out.1 H1.out.2.size, H1.out.1.below H2.out.2, H1.out.2.trans (RFr.below H2.out.2)⟩
theorem ownsRow_set {w : World} {base size n : Nat} {e : TypeId} {v : Value} {xs : List Value} (h : w.ownsRow base e size v n xs) {g : Nat} (hg : v.ownBlock = some g) (j : Nat) (u : Value) : (w.setCell ⟨g, j, none⟩ u).ownsRow base e size v n (xs.set j u) := by
 obtain ⟨h1, h2⟩ := h; refine ⟨by rw [List.length_set]; exact h1, ?_⟩; rcases h2 with ⟨h3, h4⟩ | ⟨g', cap, cur, rfl, hb, hc, h5, h6, h7, h8⟩
 · rw [h3] at hg; cases hg
 · have e1 : g' = g := by simpa [Value.ownBlock] using hg
   subst e1; refine Or.inr ⟨g', cap, cur.setIfInBounds j u, rfl, hb, block_setCell hc u, h5, h6, by simpa using h7, ?_⟩; rw [Array.toList_setIfInBounds, List.take_set, h8]
theorem rfL_set2 : ∀ (A : List RF) (k : Nat) (f : RF) (x : Int), A[k]? = some f → (rfL A).set (k * 3 + 2) (.int .i64 x) = rfL (A.set k { f with sf := x })
 | [], k, f, x, h => by simp at h
 | a :: r, 0, f, x, h => by
   simp at h; subst h; simp [rfL, rfC]
 | a :: r, k + 1, f, x, h => by
   simp at h; have ih := rfL_set2 r k f x h; have e : rfL (a :: r) = rfC a ++ rfL r := by simp [rfL]
   have e2 : rfL ((a :: r).set (k + 1) { f with sf := x }) = rfC a ++ rfL (r.set k { f with sf := x }) := by simp [rfL]
   rw [e, e2, ← ih, List.set_append_right _ _ (by simp [rfC]; omega)]; congr 2; simp [rfC]; omega
theorem rfL_set1 : ∀ (A : List RF) (k : Nat) (f : RF) (v : Value) (bs : List Int), A[k]? = some f → (rfL A).set (k * 3 + 1) v = rfL (A.set k { f with bv := v, bs := bs })
 | [], k, f, v, bs, h => by simp at h
 | a :: r, 0, f, v, bs, h => by
   simp at h; subst h; simp [rfL, rfC]
 | a :: r, k + 1, f, v, bs, h => by
   simp at h; have ih := rfL_set1 r k f v bs h; have e : rfL (a :: r) = rfC a ++ rfL r := by simp [rfL]
   have e2 : rfL ((a :: r).set (k + 1) { f with bv := v, bs := bs }) = rfC a ++ rfL (r.set k { f with bv := v, bs := bs }) := by simp [rfL]
   rw [e, e2, ← ih, List.set_append_right _ _ (by simp [rfC]; omega)]; congr 2; simp [rfC]; omega
theorem RefIs.setF {w w' : World} {br : Nat} {R : RS} (h : RefIs w br R) {k g : Nat} (hg : R.lv.ownBlock = some g) (f' : RF) (hk : ∀ b, b ≠ g → w'.heap[b]? = w.heap[b]?) (hs : w.heap.size ≤ w'.heap.size)
 (hl : w'.ownsRow 0 119 3 R.lv (R.A.set k f').length (rfL (R.A.set k f'))) (hr : w.ownsRow 0 5 1 f'.bv f'.bs.length (vB f'.bs)) (ho : ∀ b, f'.bv.ownBlock = some b → R.own b = 3) (hn : f'.nm.size ≤ 9223372036854775807) : RefIs w' br { R with A := R.A.set k f' } := by
 have h2 := h.rl g hg; have hk' : ∀ b, R.own b ≠ 2 → w'.heap[b]? = w.heap[b]? := fun b hb => hk b (fun e => hb (by rw [e]; exact h2))
 have hmem : ∀ x ∈ R.A.set k f', x = f' ∨ x ∈ R.A := fun x hx => (List.mem_or_eq_of_mem_set hx).symm
 refine ⟨?_, h.rd, hl, h.rl, fun x hx => ?_, fun x hx b hb => ?_, fun x hx => ?_, ?_, h.rp, fun b hb => h.fresh b (by omega)⟩
 · exact (hk' br (by rw [h.rd]; simp)).trans h.disk
 · rcases hmem x hx with rfl | hx
   · exact ownsRow_heap hr (fun b hb => hk' b (by rw [ho b hb]; simp))
   · exact ownsRow_heap (h.row x hx) (fun b hb => hk' b (by rw [h.rr x hx b hb]; simp))
 · rcases hmem x hx with rfl | hx
   · exact ho b hb
   · exact h.rr x hx b hb
 · rcases hmem x hx with rfl | hx
   · exact hn
   · exact h.nm x hx
 · exact ownsRow_heap h.plan (fun b hb => hk' b (by rw [h.rp b hb]; simp))
theorem RefIs.frF {w w' : World} {br : Nat} {R : RS} (h : RefIs w br R) {k g : Nat} (hg : R.lv.ownBlock = some g) (f' : RF) (hk : ∀ b, b ≠ g → w'.heap[b]? = w.heap[b]?) (hs : w.heap.size ≤ w'.heap.size) (ho : w'.os = w.os ∧ w'.tape = w.tape ∧ w'.output = w.output) : RFr w w' R { R with A := R.A.set k f' } :=
 ⟨ho.1, ho.2.1, ho.2.2, hs, fun b _ hr => hk b (fun e => by rw [e, h.rl g hg] at hr; cases hr), fun _ _ h => h⟩
set_option maxRecDepth 100000 in
set_option maxHeartbeats 4000000 in
theorem rtrunc_arg {w : World} {br : Nat} {R : RS} (h : RefIs w br R) (hp : PlanR R) (hn : Rn R) (hl : R.A.length ≤ 100) (s : ByteArray) (hs : s.size ≤ 9223372036854775807) (n : Int) (he : rthE R s s = 0) {k : Nat} {f : RF} (hi : idxR s R.A = (k : Nat)) (hkf : R.A[k]? = some f) (hnn : n < 0 ∨ (f.bs.length : Int) < n) :
 Calls Tryz.prog 82 #[.pointer (some ⟨br, 0, none⟩), .string s, .int .i64 n] w fun e w' => e = .returned (.int .i64 1) ∧ RefIs w' br (rstS R s s) ∧ RFr w w' R (rstS R s s) := by
 have HR : Hid (RefIs w br R) := h; have hI : rthI R s s = (k : Nat) := by rw [(rth_zero he).2.2, hi]
 have hA := A_rstS R s s; clear h; generalize hS1 : rstS R s s = R1 at *; have hkf1 : R1.A[k]? = some f := by rw [hA]; exact hkf
 have hkl : k < R1.A.length := (List.getElem?_eq_some_iff.1 hkf1).1; have hki : (k : Int) < R1.A.length := by omega
 have hl1 : R1.A.length ≤ 100 := by rw [hA]; exact hl
 clear hA; by_cases h0 : n < 0
 · clear hnn
   go_enter Tryz.func82, Tryz.ntmps82
   go_wp2_with (first
    | (go_at_call 112
       refine (rthere0 HR.out hp s s hs hs hn (by omega)).mono ?_; rw [he, hI, hS1]; rintro e w1 ⟨rfl, hR1, hF1⟩; have H1 : Hid (RefIs w1 br R1 ∧ RFr w w1 R R1) := ⟨hR1, hF1⟩
       obtain ⟨g, cap, hlv, hog, hgl, hlc, hcc⟩ := hR1.cell hkf1; have c3 : w1.cell? ⟨br, 3, none⟩ = some (.slice (some ⟨g, 0, none⟩) R1.A.length cap) := by rw [cell_of_block hR1.disk]; simp [rC, hlv]
       have hc0 := hcc 0 _ rfl; rw [Nat.add_zero] at hc0; have hc1 := hcc 1 _ rfl; have hc2 := hcc 2 _ rfl; obtain ⟨ba, bc, hbv⟩ := row_form (hR1.row f (List.mem_of_getElem? hkf1)); rw [hbv] at hc1; have hby := BytesV.of_own (hR1.row f (List.mem_of_getElem? hkf1)); rw [hbv] at hby
       have HBY : Hid (BytesV w1 (.slice ba f.bs.length bc) f.bs) := hby
       clear hR1 hF1 hcc hby)
    | go_in)
   go_ret; exact ⟨rfl, H1.out⟩
 · have d0 : decide (n < 0) = false := by simp; omega
   have d1 : (f.bs.length : Int) < n := by omega
   clear hnn h0; go_enter Tryz.func82, Tryz.ntmps82; go_wp2_with (first
    | (go_at_call 112
       refine (rthere0 HR.out hp s s hs hs hn (by omega)).mono ?_; rw [he, hI, hS1]; rintro e w1 ⟨rfl, hR1, hF1⟩; have H1 : Hid (RefIs w1 br R1 ∧ RFr w w1 R R1) := ⟨hR1, hF1⟩
       obtain ⟨g, cap, hlv, hog, hgl, hlc, hcc⟩ := hR1.cell hkf1; have c3 : w1.cell? ⟨br, 3, none⟩ = some (.slice (some ⟨g, 0, none⟩) R1.A.length cap) := by rw [cell_of_block hR1.disk]; simp [rC, hlv]
       have hc0 := hcc 0 _ rfl; rw [Nat.add_zero] at hc0; have hc1 := hcc 1 _ rfl; have hc2 := hcc 2 _ rfl; obtain ⟨ba, bc, hbv⟩ := row_form (hR1.row f (List.mem_of_getElem? hkf1)); rw [hbv] at hc1; have hby := BytesV.of_own (hR1.row f (List.mem_of_getElem? hkf1)); rw [hbv] at hby
       have HBY : Hid (BytesV w1 (.slice ba f.bs.length bc) f.bs) := hby
       clear hR1 hF1 hcc hby)
    | go_in)
   go_ret; exact ⟨rfl, H1.out⟩
set_option maxRecDepth 100000 in
set_option maxHeartbeats 4000000 in
theorem rtrunc_ok {w : World} {br : Nat} {R : RS} (h : RefIs w br R) (hp : PlanR R) (hn : Rn R) (hl : R.A.length ≤ 100) (s : ByteArray) (hs : s.size ≤ 9223372036854775807) (n : Int) (he : rthE R s s = 0) {k : Nat} {f : RF} (hi : idxR s R.A = (k : Nat)) (hkf : R.A[k]? = some f) (h0 : 0 ≤ n) (h1 : n ≤ (f.bs.length : Int)) :
 Calls Tryz.prog 82 #[.pointer (some ⟨br, 0, none⟩), .string s, .int .i64 n] w fun e w' => e = .returned (.int .i64 0) ∧ ∃ ba bc, RefIs w' br { rstS R s s with A := (rstS R s s).A.set k { f with bv := .slice ba n.toNat bc, bs := f.bs.take n.toNat, sf := n } } ∧ RFr w w' R { rstS R s s with A := (rstS R s s).A.set k { f with bv := .slice ba n.toNat bc, bs := f.bs.take n.toNat, sf := n } } := by
 have HR : Hid (RefIs w br R) := h; have hI : rthI R s s = (k : Nat) := by rw [(rth_zero he).2.2, hi]
 have hA := A_rstS R s s; clear h; generalize hS1 : rstS R s s = R1 at *; have hkf1 : R1.A[k]? = some f := by rw [hA]; exact hkf
 have hkl : k < R1.A.length := (List.getElem?_eq_some_iff.1 hkf1).1; have hki : (k : Int) < R1.A.length := by omega
 have hl1 : R1.A.length ≤ 100 := by rw [hA]; exact hl
 clear hA; have d0 : decide (n < 0) = false := by simp; omega
 have d1 : decide ((f.bs.length : Int) < n) = false := by simp; omega
 go_enter Tryz.func82, Tryz.ntmps82
 go_wp2_with (first
  | (go_at_call 112
     refine (rthere0 HR.out hp s s hs hs hn (by omega)).mono ?_; rw [he, hI, hS1]; rintro e w1 ⟨rfl, hR1, hF1⟩; have H1 : Hid (RefIs w1 br R1 ∧ RFr w w1 R R1) := ⟨hR1, hF1⟩
     obtain ⟨g, cap, hlv, hog, hgl, hlc, hcc⟩ := hR1.cell hkf1; have c3 : w1.cell? ⟨br, 3, none⟩ = some (.slice (some ⟨g, 0, none⟩) R1.A.length cap) := by rw [cell_of_block hR1.disk]; simp [rC, hlv]
     have hc0 := hcc 0 _ rfl; rw [Nat.add_zero] at hc0; have hc1 := hcc 1 _ rfl; have hc2 := hcc 2 _ rfl; obtain ⟨ba, bc, hbv⟩ := row_form (hR1.row f (List.mem_of_getElem? hkf1)); rw [hbv] at hc1; have hby := BytesV.of_own (hR1.row f (List.mem_of_getElem? hkf1)); rw [hbv] at hby
     have HBY : Hid (BytesV w1 (.slice ba f.bs.length bc) f.bs) := hby
     clear hR1 hF1 hcc hby)
  | go_in)
 have hgo : R1.lv.ownBlock = some g := by rw [hlv]; rfl
 have hfz : w1.frozen? ⟨g, k * 3 + 2, none⟩ = false ∧ w1.frozen? ⟨g, k * 3 + 1, none⟩ = false := by
  rcases H1.out.1.list.2 with ⟨h0, _⟩ | ⟨g', cap', cur, h0, _, hc, _⟩
  · rw [h0] at hgo; cases hgo
  · rw [h0] at hgo
    have e1 : g' = g := by simpa [Value.ownBlock] using hgo
    subst e1; exact ⟨unfrozen_of_block hc _, unfrozen_of_block hc _⟩
 have HC : Hid (w1.cell? ⟨br, 3, none⟩ = some (.slice (some ⟨g, 0, none⟩) R1.A.length cap) ∧ w1.cell? ⟨g, k * 3 + 1, none⟩ = some (.slice ba f.bs.length bc) ∧ w1.cell? ⟨g, k * 3 + 2, none⟩ = some (.int .i64 f.sf) ∧ w1.frozen? ⟨g, k * 3 + 2, none⟩ = false ∧ w1.frozen? ⟨g, k * 3 + 1, none⟩ = false) := ⟨c3, hc1, hc2, hfz⟩
 have hbrg : br ≠ g := fun e => by have := H1.out.1.rd; rw [e, hog] at this; cases this
 clear hfz c3 hc0 hc1 hc2; have hrw := H1.out.1.row f (List.mem_of_getElem? hkf1); rw [hbv] at hrw; have hcap := row_cap hrw; have hnc : (n : Int) ≤ bc := by omega
 clear hrw; obtain ⟨m, hmn⟩ := Int.eq_ofNat_of_zero_le h0; subst hmn; refine wp_region_held_drew (S := fun w' => w'.cell? ⟨br, 3, none⟩ = some (.slice (some ⟨g, 0, none⟩) R1.A.length cap)) (by kernel_rfl) HC.out.1 (fun hHeld => ?_); refine tk 0 (.pointer (some ⟨br, 0, none⟩)) (fun w9 hSw => ?_) hHeld ?_
 · go_simp
 simp only [sm]; refine tk 1 (.pointer (some ⟨br, 0, none⟩)) (fun w9 hSw => ?_) hHeld ?_
 · go_simp
 simp only [sm]; refine tk 2 (.pointer (some ⟨br, 3, none⟩)) (fun w9 hSw => ?_) hHeld ?_
 · go_simp
 simp only [sm]; refine tk 3 (.slice (some ⟨g, 0, none⟩) R1.A.length cap) (fun w9 hSw => ?_) hHeld ?_
 · have hc : w9.cell? ⟨br, 3, none⟩ = some (.slice (some ⟨g, 0, none⟩) R1.A.length cap) := hSw
   go_simp
 simp only [sm]; refine tk 4 (.int .i64 (k : Int)) (fun w9 hSw => ?_) hHeld ?_
 · go_simp
 simp only [sm]; refine tk 5 (.pointer (some ⟨br, 0, none⟩)) (fun w9 hSw => ?_) hHeld ?_
 · go_simp
 simp only [sm]; refine tk 6 (.pointer (some ⟨br, 0, none⟩)) (fun w9 hSw => ?_) hHeld ?_
 · go_simp
 simp only [sm]; refine tk 7 (.pointer (some ⟨br, 3, none⟩)) (fun w9 hSw => ?_) hHeld ?_
 · go_simp
 simp only [sm]; refine tk 8 (.slice (some ⟨g, 0, none⟩) R1.A.length cap) (fun w9 hSw => ?_) hHeld ?_
 · have hc : w9.cell? ⟨br, 3, none⟩ = some (.slice (some ⟨g, 0, none⟩) R1.A.length cap) := hSw
   go_simp
 simp only [sm]; refine tk 9 (.int .i64 (k : Int)) (fun w9 hSw => ?_) hHeld ?_
 · go_simp
 simp only [sm]; refine tk 10 (.pointer (some ⟨g, k * 3, none⟩)) (fun w9 hSw => ?_) hHeld ?_
 · go_simp
 simp only [sm]; refine tk 11 (.pointer (some ⟨g, k * 3 + 1, none⟩)) (fun w9 hSw => ?_) hHeld ?_
 · go_simp
 simp only [sm]; refine tk 13 (.int .i64 (m : Int)) (fun w9 hSw => ?_) hHeld ?_
 · go_simp
 simp only [sm]; refine rd 12 (fun K hK => ?_); have hc1' : w1.drew.cell? ⟨g, k * 3 + 1, none⟩ = some (.slice ba f.bs.length bc) := HC.out.2.1; have hf1' : w1.drew.frozen? ⟨g, k * 3 + 1, none⟩ = false := HC.out.2.2.2.2; have hc2' : w1.drew.cell? ⟨g, k * 3 + 2, none⟩ = some (.int .i64 f.sf) := HC.out.2.2.1; have hf2' : w1.drew.frozen? ⟨g, k * 3 + 2, none⟩ = false := HC.out.2.2.2.1; have HD2 : Hid (RefIs w1.drew br R1 ∧ RFr w w1.drew R R1) := ⟨H1.out.1.kept (fun _ _ => rfl) (Nat.le_refl _), ⟨H1.out.2.os, H1.out.2.tape, H1.out.2.output, H1.out.2.size, H1.out.2.block, H1.out.2.own⟩⟩
 generalize w1.drew = w2 at hHeld hc1' hf1' hc2' hf2' HD2 ⊢; go_simp; refine hK.out _ _ hHeld (fun hHeld => ?_); clear hK K; try simp only [sm]
 refine tk 14 (.slice ba m bc) (fun w9 hSw => ?_) hHeld ?_
 · have h63 : bc ≤ 9223372036854775807 := hcap.2.1
   go_simp
 simp only [sm]; refine tk 15 (.pointer (some ⟨g, k * 3, none⟩)) (fun w9 hSw => ?_) hHeld ?_
 · go_simp
 simp only [sm]; refine tk 16 (.pointer (some ⟨g, k * 3 + 1, none⟩)) (fun w9 hSw => ?_) hHeld ?_
 · go_simp
 simp only [sm]; refine rd 17 (fun K hK => ?_); go_simp; have hH2 : (w2.setCell ⟨g, k * 3 + 1, none⟩ (.slice ba m bc)).cell? ⟨br, 3, none⟩ = some (.slice (some ⟨g, 0, none⟩) R1.A.length cap) := by
  rw [World.cell?_of_block (Below.heap_setCell _ _ _ _ hbrg)]; exact hHeld
 have hC2 : (w2.setCell ⟨g, k * 3 + 1, none⟩ (.slice ba m bc)).cell? ⟨g, k * 3 + 2, none⟩ = some (.int .i64 f.sf) := (World.cell?_setCell_other _ ⟨g, k * 3 + 1, none⟩ ⟨g, k * 3 + 2, none⟩ _ (fun e => by injection e with _ e _; omega)).trans hc2'; have hF2 : (w2.setCell ⟨g, k * 3 + 1, none⟩ (.slice ba m bc)).frozen? ⟨g, k * 3 + 2, none⟩ = false := by
  rw [World.frozen?_setCell]; exact hf2'
 refine hK.out _ _ hH2 (fun hHeld => ?_); clear hK K; try simp only [sm]
 refine wpAnyH_done (by kernel_rfl) ?_ _; clear hHeld hc1' hf1' hc2' hf2'; go_wp2; go_ret; have hrow := HD2.out.1.row f (List.mem_of_getElem? hkf1); rw [hbv] at hrow; have hl2 := ownsRow_set HD2.out.1.list hgo (k * 3 + 1) (.slice ba m bc); rw [rfL_set1 R1.A k f _ (f.bs.take m) hkf1] at hl2; have hl3 := ownsRow_set hl2 hgo (k * 3 + 2) (.int .i64 (m : Int)); rw [rfL_set2 _ k { f with bv := .slice ba m bc, bs := f.bs.take m } _ (by rw [List.getElem?_set_self hkl]), List.set_set] at hl3; have hk : ∀ b, b ≠ g → ((w2.setCell ⟨g, k * 3 + 1, none⟩ (.slice ba m bc)).setCell ⟨g, k * 3 + 2, none⟩ (.int .i64 (m : Int))).heap[b]? = w2.heap[b]? := fun b hb => (Below.heap_setCell _ _ _ _ hb).trans (Below.heap_setCell _ _ _ _ hb)
 have hr2 := take_row hrow (m := m) (by omega); refine ⟨rfl, ba, bc, HD2.out.1.setF hgo { f with bv := .slice ba m bc, bs := f.bs.take m, sf := m } hk (by simp) ?_ hr2 (fun b hb => HD2.out.1.rr f (List.mem_of_getElem? hkf1) b (by rw [hbv]; cases ba <;> exact hb)) (HD2.out.1.nm f (List.mem_of_getElem? hkf1)), HD2.out.2.trans (HD2.out.1.frF hgo _ hk (by simp) ⟨rfl, rfl, rfl⟩)⟩; rw [List.length_set]; exact hl3
theorem own_setA {R : RS} {ov : Value} {A : List RF} {ex : Option Nat} {z b : Nat} (hov : ∀ b, ov.ownBlock = some b → z ≤ b) (hb : b < z) (hex : ex ≠ some b) : (setA R ov A ex).own b = R.own b := by
 show (if _ then _ else if _ then _ else _) = _; rw [if_neg (fun e => by have := hov b e; omega), if_neg hex]
theorem RefIs.putL {w w' : World} {br : Nat} {R : RS} (h : RefIs w br R) (f : RF) (ov : Value) (hl : w'.ownsRow (w.heap.size + 1) 119 3 ov (putR f R.A).length (rfL (putR f R.A))) (hd : w'.heap[br]? = some (.cells (rC { R with lv := ov }) 55)) (hG : w.grownBy w' (some br))
 (hr : w.ownsRow 0 5 1 f.bv f.bs.length (vB f.bs)) (hown : ∀ b, f.bv.ownBlock = some b → R.own b = 0 ∨ R.own b = 3) (hn : f.nm.size ≤ 9223372036854775807) : RefIs w' br (setA R ov (putR f R.A) f.bv.ownBlock) := by
 refine h.setL ov (putR f R.A) f.bv.ownBlock (fun b h1 h2 => hG.block b h1 (fun e => by injection e with e; exact h2 e)) hG.size hd (ownsRow_le hl (by omega)) (fun b hb => ⟨(hr.lt b hb).2, hown b hb⟩) (fun x hx => ?_); rcases putR_mem hx with hx | rfl
 · exact Or.inl hx
 · refine Or.inr ⟨ownsRow_heap hr (fun b hb => hG.block b (hr.lt b hb).2 (fun e => ?_)), rfl, hn⟩
   injection e with e
   have := hown b hb; rw [e, h.rd] at this; rcases this with h1 | h1 <;> cases h1
end Go.Proofs.YtconkienlcegaaaGreatDoor
