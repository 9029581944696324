/- disk: the document's New, Remove, Read, Sync, Truncate. -/
import Derived.Test.YtllkpnlgemjgfaaRD
namespace Go.Proofs.Ytllkpnlgemjgfaa
open Go.RowKit Go.Maps Go.Joins
set_option linter.unusedSimpArgs false
set_option linter.unusedVariables false
set_option maxHeartbeats 1000000 in
/-- the document's New -/
theorem rnew_any (r : Int) (h0 : 0 ≤ r) (h1 : r ≤ 1073741824) (w : World) :
    Calls Try.prog 7 #[.int .i64 r] w fun e w' => e = .returned (.pointer (some ⟨w.heap.size, 0, none⟩)) ∧ RefIs w' w.heap.size { room := r, frm := 0, n := 0, lv := .slice none 0 0, A := [], pv := .slice none 0 0, plan := [], down := false, own := fun b => if b = w.heap.size then 1 else 0 } ∧ Below w.heap.size w w' := by
  have d1 : decide (r < 0) = false := by simp; omega
  have d2 : decide (1073741824 < r) = false := by simp; omega
  go_enter Try.func7, Try.ntmps7
  go_wp2
  go_ret
  refine ⟨rfl, ⟨?_, by simp, World.ownsRow_nil _ _ _ _, fun b hb => (by cases hb), fun f hf => (by cases hf), fun f hf => (by cases hf), fun f hf => (by cases hf), World.ownsRow_nil _ _ _ _, fun b hb => (by cases hb), fun b hb => ?_⟩, by go_grown⟩
  · exact heap_alloc_new _ _
  · have : w.heap.size + 1 ≤ b := by simpa using hb
    simp
    omega
theorem rth_zero {R : RS} {a b : ByteArray} (h : rthE R a b = 0) : rstE R a b = 0 ∧ 0 ≤ idxR a R.A ∧ rthI R a b = idxR a R.A := by
  unfold rthE at h
  split at h
  · rename_i h0
    split at h
    · cases h
    · rename_i h1
      exact ⟨h0, by omega, by simp [rthI, h0, h1]⟩
  · rename_i h0
    exact absurd h h0
theorem idxR_some {nm : ByteArray} : ∀ {A : List RF}, 0 ≤ idxR nm A → ∃ k f, idxR nm A = (k : Nat) ∧ A[k]? = some f ∧ f.nm = nm
  | [], h => by simp [idxR] at h
  | a :: r, h => by
    unfold idxR at h ⊢
    by_cases e : a.nm = nm
    · rw [if_pos e]
      exact ⟨0, a, rfl, rfl, e⟩
    · rw [if_neg e] at h ⊢
      by_cases e2 : idxR nm r = -1
      · rw [if_pos e2] at h
        omega
      · rw [if_neg e2] at h ⊢
        have h3 := idxR_ge nm r
        obtain ⟨k, f, hk, hf, hn⟩ := idxR_some (A := r) (nm := nm) (by omega)
        exact ⟨k + 1, f, by rw [hk]; simp, by simpa using hf, hn⟩
def Rn (R : RS) : Prop := 0 ≤ R.n ∧ R.n < 4611686018427387904
set_option maxHeartbeats 4000000 in
theorem rsync_no {w : World} {br : Nat} {R : RS} (h : RefIs w br R) (hp : PlanR R) (hn : Rn R) (hl : R.A.length ≤ 100) (s : ByteArray) (hs : s.size ≤ 9223372036854775807) (he : rthE R s s ≠ 0) :
    Calls Try.prog 17 #[.pointer (some ⟨br, 0, none⟩), .string s] w fun e w' => e = .returned (.int .i64 (rthE R s s)) ∧ RefIs w' br (rstS R s s) ∧ RFr w w' R (rstS R s s) := by
  have HR : Hid (RefIs w br R) := h
  have hne : (rthE R s s != 0) = true := by simpa using he
  have hne2 : (rthE R s s == 0) = false := by simpa using he
  clear h he
  go_enter Try.func17, Try.ntmps17
  go_wp2_with (first
    | (go_at_call 43
       refine (rthere0 HR.out hp s s hs hs hn (by omega)).mono ?_
       generalize hEE : rthE R s s = E at hne hne2 ⊢
       generalize rthI R s s = II
       rintro e w1 ⟨rfl, hR1, hF1⟩
       have H1 : Hid (RefIs w1 br (rstS R s s) ∧ RFr w w1 R (rstS R s s)) := ⟨hR1, hF1⟩
       clear hR1 hF1)
    | go_in)
  go_returns
  rw [hEE]
  exact ⟨rfl, H1.out⟩
set_option maxHeartbeats 4000000 in
theorem rread_no {w : World} {br : Nat} {R : RS} (h : RefIs w br R) (hp : PlanR R) (hn : Rn R) (hl : R.A.length ≤ 100) (s : ByteArray) (hs : s.size ≤ 9223372036854775807) (he : rthE R s s ≠ 0) :
    Calls Try.prog 31 #[.pointer (some ⟨br, 0, none⟩), .string s] w fun e w' => e = .returned (.tuple #[.slice none 0 0, .int .i64 (rthE R s s)]) ∧ RefIs w' br (rstS R s s) ∧ RFr w w' R (rstS R s s) := by
  have HR : Hid (RefIs w br R) := h
  have hne : (rthE R s s != 0) = true := by simpa using he
  have hne2 : (rthE R s s == 0) = false := by simpa using he
  clear h he
  go_enter Try.func31, Try.ntmps31
  go_wp2_with (first
    | (go_at_call 43
       refine (rthere0 HR.out hp s s hs hs hn (by omega)).mono ?_
       generalize hEE : rthE R s s = E at hne hne2 ⊢
       generalize rthI R s s = II
       rintro e w1 ⟨rfl, hR1, hF1⟩
       have H1 : Hid (RefIs w1 br (rstS R s s) ∧ RFr w w1 R (rstS R s s)) := ⟨hR1, hF1⟩
       clear hR1 hF1)
    | go_in)
  go_returns
  rw [hEE]
  exact ⟨rfl, H1.out⟩
set_option maxHeartbeats 4000000 in
theorem rtrunc_no {w : World} {br : Nat} {R : RS} (h : RefIs w br R) (hp : PlanR R) (hn : Rn R) (hl : R.A.length ≤ 100) (s : ByteArray) (hs : s.size ≤ 9223372036854775807) (n : Int) (he : rthE R s s ≠ 0) :
    Calls Try.prog 28 #[.pointer (some ⟨br, 0, none⟩), .string s, .int .i64 n] w fun e w' => e = .returned (.int .i64 (rthE R s s)) ∧ RefIs w' br (rstS R s s) ∧ RFr w w' R (rstS R s s) := by
  have HR : Hid (RefIs w br R) := h
  have hne : (rthE R s s != 0) = true := by simpa using he
  have hne2 : (rthE R s s == 0) = false := by simpa using he
  clear h he
  go_enter Try.func28, Try.ntmps28
  go_wp2_with (first
    | (go_at_call 43
       refine (rthere0 HR.out hp s s hs hs hn (by omega)).mono ?_
       generalize hEE : rthE R s s = E at hne hne2 ⊢
       generalize rthI R s s = II
       rintro e w1 ⟨rfl, hR1, hF1⟩
       have H1 : Hid (RefIs w1 br (rstS R s s) ∧ RFr w w1 R (rstS R s s)) := ⟨hR1, hF1⟩
       clear hR1 hF1)
    | go_in)
  go_returns
  rw [hEE]
  exact ⟨rfl, H1.out⟩
set_option maxHeartbeats 4000000 in
theorem rremove_no {w : World} {br : Nat} {R : RS} (h : RefIs w br R) (hp : PlanR R) (hn : Rn R) (hl : R.A.length ≤ 100) (s : ByteArray) (hs : s.size ≤ 9223372036854775807) (he : rthE R s s ≠ 0) :
    Calls Try.prog 30 #[.pointer (some ⟨br, 0, none⟩), .string s] w fun e w' => e = .returned (.int .i64 (rthE R s s)) ∧ RefIs w' br (rstS R s s) ∧ RFr w w' R (rstS R s s) := by
  have HR : Hid (RefIs w br R) := h
  have hne : (rthE R s s != 0) = true := by simpa using he
  have hne2 : (rthE R s s == 0) = false := by simpa using he
  clear h he
  go_enter Try.func30, Try.ntmps30
  go_wp2_with (first
    | (go_at_call 43
       refine (rthere0 HR.out hp s s hs hs hn (by omega)).mono ?_
       generalize hEE : rthE R s s = E at hne hne2 ⊢
       generalize rthI R s s = II
       rintro e w1 ⟨rfl, hR1, hF1⟩
       have H1 : Hid (RefIs w1 br (rstS R s s) ∧ RFr w w1 R (rstS R s s)) := ⟨hR1, hF1⟩
       clear hR1 hF1)
    | go_in)
  go_returns
  rw [hEE]
  exact ⟨rfl, H1.out⟩
set_option maxHeartbeats 4000000 in
theorem rrename_no {w : World} {br : Nat} {R : RS} (h : RefIs w br R) (hp : PlanR R) (hn : Rn R) (hl : R.A.length ≤ 100) (s t : ByteArray) (hs : s.size ≤ 9223372036854775807) (ht : t.size ≤ 9223372036854775807) (he : rthE R s t ≠ 0) :
    Calls Try.prog 29 #[.pointer (some ⟨br, 0, none⟩), .string s, .string t] w fun e w' => e = .returned (.int .i64 (rthE R s t)) ∧ RefIs w' br (rstS R s t) ∧ RFr w w' R (rstS R s t) := by
  have HR : Hid (RefIs w br R) := h
  have hne : (rthE R s t != 0) = true := by simpa using he
  have hne2 : (rthE R s t == 0) = false := by simpa using he
  clear h he
  go_enter Try.func29, Try.ntmps29
  go_wp2_with (first
    | (go_at_call 43
       refine (rthere0 HR.out hp s t hs ht hn (by omega)).mono ?_
       generalize hEE : rthE R s t = E at hne hne2 ⊢
       generalize rthI R s t = II
       rintro e w1 ⟨rfl, hR1, hF1⟩
       have H1 : Hid (RefIs w1 br (rstS R s t) ∧ RFr w w1 R (rstS R s t)) := ⟨hR1, hF1⟩
       clear hR1 hF1)
    | go_in)
  go_returns
  rw [hEE]
  exact ⟨rfl, H1.out⟩
set_option maxRecDepth 100000 in
set_option maxHeartbeats 4000000 in
theorem rremove_ok {w : World} {br : Nat} {R : RS} (h : RefIs w br R) (hp : PlanR R) (hn : Rn R) (hl : R.A.length ≤ 100) (s : ByteArray) (hs : s.size ≤ 9223372036854775807) (he : rthE R s s = 0) {k : Nat} {f : RF} (hi : idxR s R.A = (k : Nat)) (hkf : R.A[k]? = some f) :
    Calls Try.prog 30 #[.pointer (some ⟨br, 0, none⟩), .string s] w fun e w' => e = .returned (.int .i64 0) ∧ ∃ ov, RefIs w' br (setA (rstS R s s) ov (dropR s R.A) none) ∧ RFr w w' R (setA (rstS R s s) ov (dropR s R.A) none) := by
  have HR : Hid (RefIs w br R) := h
  have hI : rthI R s s = (k : Nat) := by rw [(rth_zero he).2.2, hi]
  have hA := A_rstS R s s
  clear h
  generalize hS1 : rstS R s s = R1 at *
  have hkf1 : R1.A[k]? = some f := by rw [hA]; exact hkf
  have hkl : k < R1.A.length := (List.getElem?_eq_some_iff.1 hkf1).1
  have hki : (k : Int) < R1.A.length := by omega
  have hl1 : R1.A.length ≤ 100 := by rw [hA]; exact hl
  clear hA
  go_enter Try.func30, Try.ntmps30
  go_wp2_with (first
    | (go_at_call 43
       refine (rthere0 HR.out hp s s hs hs hn (by omega)).mono ?_
       rw [he, hI, hS1]
       rintro e w1 ⟨rfl, hR1, hF1⟩
       have H1 : Hid (RefIs w1 br R1 ∧ RFr w w1 R R1) := ⟨hR1, hF1⟩
       obtain ⟨g, cap, hlv, hog, hgl, hlc, hcc⟩ := hR1.cell hkf1
       have c3 : w1.cell? ⟨br, 3, none⟩ = some (.slice (some ⟨g, 0, none⟩) R1.A.length cap) := by rw [cell_of_block hR1.disk]; simp [rC, hlv]
       have hc0 := hcc 0 _ rfl
       rw [Nat.add_zero] at hc0
       have hc1 := hcc 1 _ rfl
       have hc2 := hcc 2 _ rfl
       obtain ⟨ba, bc, hbv⟩ := row_form (hR1.row f (List.mem_of_getElem? hkf1))
       rw [hbv] at hc1
       have hby := BytesV.of_own (hR1.row f (List.mem_of_getElem? hkf1))
       rw [hbv] at hby
       have HBY : Hid (BytesV w1 (.slice ba f.bs.length bc) f.bs) := hby
       clear hR1 hF1 hcc hby)
    | (go_at_call 46
       refine (rdrop_any H1.out.1 (by omega) s).mono ?_
       rintro e w2 ⟨rfl, ov, hR2, hG2, hov⟩
       have H2 : Hid (RefIs w2 br (setA R1 ov (dropR s R1.A) none) ∧ w1.grownBy w2 (some br) ∧ ∀ b, ov.ownBlock = some b → w1.heap.size ≤ b) := ⟨hR2, hG2, hov⟩
       clear hR2 hG2 hov)
    | go_in)
  go_ret
  obtain ⟨hR2, hG2, hov⟩ := H2.out
  have hA := A_rstS R s s
  rw [hS1] at hA
  rw [hA] at hR2
  refine ⟨rfl, ov, hR2, H1.out.2.trans ⟨hG2.os, hG2.tape, hG2.output, hG2.size, fun b hb hr => hG2.block b hb (fun e => by injection e with e; rw [e, H1.out.1.rd] at hr; cases hr), fun b hb hr => ?_⟩⟩
  show (if _ then _ else if _ then _ else _) = _
  rw [if_neg (fun e => by have := hov b e; omega), if_neg (fun e => by cases e)]
  exact hr

set_option maxRecDepth 100000 in
set_option maxHeartbeats 4000000 in
theorem rread_ok {w : World} {br : Nat} {R : RS} (h : RefIs w br R) (hp : PlanR R) (hn : Rn R) (hl : R.A.length ≤ 100) (s : ByteArray) (hs : s.size ≤ 9223372036854775807) (he : rthE R s s = 0) {k : Nat} {f : RF} (hi : idxR s R.A = (k : Nat)) (hkf : R.A[k]? = some f) (hbl : f.bs.length ≤ 1073741824) :
    Calls Try.prog 31 #[.pointer (some ⟨br, 0, none⟩), .string s] w fun e w' => ∃ v', e = .returned (.tuple #[v', .int .i64 0]) ∧ w'.ownsRow w.heap.size 5 1 v' f.bs.length (vB f.bs) ∧ RefIs w' br (rstS R s s) ∧ RFr w w' R (rstS R s s) := by
  have HR : Hid (RefIs w br R) := h
  have hI : rthI R s s = (k : Nat) := by rw [(rth_zero he).2.2, hi]
  have hA := A_rstS R s s
  clear h
  generalize hS1 : rstS R s s = R1 at *
  have hkf1 : R1.A[k]? = some f := by rw [hA]; exact hkf
  have hkl : k < R1.A.length := (List.getElem?_eq_some_iff.1 hkf1).1
  have hki : (k : Int) < R1.A.length := by omega
  have hl1 : R1.A.length ≤ 100 := by rw [hA]; exact hl
  clear hA
  go_enter Try.func31, Try.ntmps31
  go_wp2_with (first
    | (go_at_call 43
       refine (rthere0 HR.out hp s s hs hs hn (by omega)).mono ?_
       rw [he, hI, hS1]
       rintro e w1 ⟨rfl, hR1, hF1⟩
       have H1 : Hid (RefIs w1 br R1 ∧ RFr w w1 R R1) := ⟨hR1, hF1⟩
       obtain ⟨g, cap, hlv, hog, hgl, hlc, hcc⟩ := hR1.cell hkf1
       have c3 : w1.cell? ⟨br, 3, none⟩ = some (.slice (some ⟨g, 0, none⟩) R1.A.length cap) := by rw [cell_of_block hR1.disk]; simp [rC, hlv]
       have hc0 := hcc 0 _ rfl
       rw [Nat.add_zero] at hc0
       have hc1 := hcc 1 _ rfl
       have hc2 := hcc 2 _ rfl
       obtain ⟨ba, bc, hbv⟩ := row_form (hR1.row f (List.mem_of_getElem? hkf1))
       rw [hbv] at hc1
       have hby := BytesV.of_own (hR1.row f (List.mem_of_getElem? hkf1))
       rw [hbv] at hby
       have HBY : Hid (BytesV w1 (.slice ba f.bs.length bc) f.bs) := hby
       have c3' : (w1.alloc (.cells #[] 5)).cell? ⟨br, 3, none⟩ = some (.slice (some ⟨g, 0, none⟩) R1.A.length cap) := (World.cell?_alloc_past _ _ _ hR1.lt).trans c3
       have hc1' : (w1.alloc (.cells #[] 5)).cell? ⟨g, k * 3 + 1, none⟩ = some (.slice ba f.bs.length bc) := (World.cell?_alloc_past _ _ _ hgl).trans hc1
       clear hR1 hF1 hcc hby)
    | (at_builtin
       refine wpList_append_b rfl _ _ rfl w1.heap.size (.slice (some ⟨w1.heap.size, 0, none⟩) 0 0) (.slice ba f.bs.length bc) [] f.bs rfl ⟨rfl, Or.inr ⟨w1.heap.size, 0, #[], rfl, Nat.le_refl _, heap_alloc_new _ _, Nat.le_refl _, by decide, rfl, rfl⟩⟩ rfl (HBY.out.below (by go_grown)) (by simp only [List.length_nil, Nat.zero_add]; omega) (by simp) ?_
       intro v' w2 ho hg2 ha
       rw [List.nil_append] at ho
       have H2 : Hid (w2.ownsRow w1.heap.size 5 1 v' f.bs.length (vB f.bs) ∧ Below w1.heap.size w1 w2) := ⟨ho, ((Below.refl _ w1).alloc (Nat.le_refl _) _).grown hg2 (by simp) (fun j hj => by cases hj; exact Nat.le_refl _)⟩
       clear ho hg2 ha)
    | go_in)
  go_returns
  refine ⟨v', rfl, ownsRow_le H2.out.1 H1.out.2.size, H1.out.1.below H2.out.2, H1.out.2.trans (RFr.below H2.out.2)⟩

end Go.Proofs.Ytllkpnlgemjgfaa
