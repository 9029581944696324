/- disk: the document's Rename. -/
import Derived.Test.YtllkpnlgemjgfaaRH
namespace Go.Proofs.Ytllkpnlgemjgfaa
open Go.RowKit Go.Maps Go.Joins
set_option linter.unusedSimpArgs false
set_option linter.unusedVariables false
theorem own_setA {R : RS} {ov : Value} {A : List RF} {ex : Option Nat} {z b : Nat} (hov : ∀ b, ov.ownBlock = some b → z ≤ b) (hb : b < z) (hex : ex ≠ some b) : (setA R ov A ex).own b = R.own b := by
  show (if _ then _ else if _ then _ else _) = _
  rw [if_neg (fun e => by have := hov b e; omega), if_neg hex]
/-- What put leaves. -/
theorem RefIs.putL {w w' : World} {br : Nat} {R : RS} (h : RefIs w br R) (f : RF) (ov : Value) (hl : w'.ownsRow (w.heap.size + 1) 64 3 ov (putR f R.A).length (rfL (putR f R.A))) (hd : w'.heap[br]? = some (.cells (rC { R with lv := ov }) 40)) (hG : w.grownBy w' (some br))
    (hr : w.ownsRow 0 5 1 f.bv f.bs.length (vB f.bs)) (hown : ∀ b, f.bv.ownBlock = some b → R.own b = 0 ∨ R.own b = 3) (hn : f.nm.size ≤ 9223372036854775807) : RefIs w' br (setA R ov (putR f R.A) f.bv.ownBlock) := by
  refine h.setL ov (putR f R.A) f.bv.ownBlock (fun b h1 h2 => hG.block b h1 (fun e => by injection e with e; exact h2 e)) hG.size hd (ownsRow_le hl (by omega)) (fun b hb => ⟨(hr.lt b hb).2, hown b hb⟩) (fun x hx => ?_)
  rcases putR_mem hx with hx | rfl
  · exact Or.inl hx
  · refine Or.inr ⟨ownsRow_heap hr (fun b hb => hG.block b (hr.lt b hb).2 (fun e => ?_)), rfl, hn⟩
    injection e with e
    have := hown b hb
    rw [e, h.rd] at this
    rcases this with h1 | h1 <;> cases h1
set_option maxRecDepth 100000 in
set_option maxHeartbeats 4000000 in
theorem rrename_arg {w : World} {br : Nat} {R : RS} (h : RefIs w br R) (hp : PlanR R) (hn : Rn R) (hl : R.A.length ≤ 100) (s t : ByteArray) (hs : s.size ≤ 9223372036854775807) (ht : t.size ≤ 9223372036854775807) (he : rthE R s t = 0) {k : Nat} {f : RF} (hi : idxR s R.A = (k : Nat)) (hkf : R.A[k]? = some f) (hnn : f.sf ≠ (f.bs.length : Int)) :
    Calls Try.prog 29 #[.pointer (some ⟨br, 0, none⟩), .string s, .string t] w fun e w' => e = .returned (.int .i64 1) ∧ RefIs w' br (rstS R s t) ∧ RFr w w' R (rstS R s t) := by
  have HR : Hid (RefIs w br R) := h
  have hI : rthI R s t = (k : Nat) := by rw [(rth_zero he).2.2, hi]
  have hA := A_rstS R s t
  clear h
  generalize hS1 : rstS R s t = R1 at *
  have hkf1 : R1.A[k]? = some f := by rw [hA]; exact hkf
  have hkl : k < R1.A.length := (List.getElem?_eq_some_iff.1 hkf1).1
  have hki : (k : Int) < R1.A.length := by omega
  have hl1 : R1.A.length ≤ 100 := by rw [hA]; exact hl
  clear hA
  have hne1 : (f.sf != (f.bs.length : Int)) = true := by simpa using hnn
  go_enter Try.func29, Try.ntmps29
  go_wp2_with (first
    | (go_at_call 43
       refine (rthere0 HR.out hp s t hs ht hn (by omega)).mono ?_
       rw [he, hI, hS1]
       rintro e w1 ⟨rfl, hR1, hF1⟩
       have H1 : Hid (RefIs w1 br R1 ∧ RFr w w1 R R1) := ⟨hR1, hF1⟩
       obtain ⟨g, cap, hlv, hog, hgl, hlc, hcc⟩ := hR1.cell hkf1
       have c3 : w1.cell? ⟨br, 3, none⟩ = some (.slice (some ⟨g, 0, none⟩) R1.A.length cap) := by rw [cell_of_block hR1.disk]; simp [rC, hlv]
       have hc0 := hcc 0 _ rfl
       rw [Nat.add_zero] at hc0
       have hc1 := hcc 1 _ rfl
       have hc2 := hcc 2 _ rfl
       obtain ⟨ba, bc, hbv⟩ := row_form (hR1.row f (List.mem_of_getElem? hkf1))
       rw [hbv] at hc1
       have hby := BytesV.of_own (hR1.row f (List.mem_of_getElem? hkf1))
       rw [hbv] at hby
       have HBY : Hid (BytesV w1 (.slice ba f.bs.length bc) f.bs) := hby
       clear hR1 hF1 hcc hby)
    | go_in)
  go_ret
  refine ⟨rfl, H1.out.1.below ?_, H1.out.2.trans (RFr.below ?_)⟩ <;> go_grown

set_option maxRecDepth 100000 in
set_option maxHeartbeats 4000000 in
theorem rrename_ok {w : World} {br : Nat} {R : RS} (h : RefIs w br R) (hp : PlanR R) (hn : Rn R) (hl : R.A.length ≤ 100) (s t : ByteArray) (hs : s.size ≤ 9223372036854775807) (ht : t.size ≤ 9223372036854775807) (he : rthE R s t = 0) {k : Nat} {f : RF} (hi : idxR s R.A = (k : Nat)) (hkf : R.A[k]? = some f) (hnn : f.sf = (f.bs.length : Int)) :
    Calls Try.prog 29 #[.pointer (some ⟨br, 0, none⟩), .string s, .string t] w fun e w' => e = .returned (.int .i64 0) ∧ ∃ ov ov2, RefIs w' br (setA (setA (rstS R s t) ov (dropR s R.A) none) ov2 (putR { f with nm := t } (dropR s R.A)) f.bv.ownBlock) ∧ RFr w w' R (setA (setA (rstS R s t) ov (dropR s R.A) none) ov2 (putR { f with nm := t } (dropR s R.A)) f.bv.ownBlock) := by
  have HR : Hid (RefIs w br R) := h
  have hI : rthI R s t = (k : Nat) := by rw [(rth_zero he).2.2, hi]
  have hA := A_rstS R s t
  clear h
  generalize hS1 : rstS R s t = R1 at *
  have hkf1 : R1.A[k]? = some f := by rw [hA]; exact hkf
  have hkl : k < R1.A.length := (List.getElem?_eq_some_iff.1 hkf1).1
  have hki : (k : Int) < R1.A.length := by omega
  have hl1 : R1.A.length ≤ 100 := by rw [hA]; exact hl
  clear hA
  have hne1 : (f.sf != (f.bs.length : Int)) = false := by simpa using hnn
  clear hnn
  go_enter Try.func29, Try.ntmps29
  go_wp2_with (first
    | (go_at_call 43
       refine (rthere0 HR.out hp s t hs ht hn (by omega)).mono ?_
       rw [he, hI, hS1]
       rintro e w1 ⟨rfl, hR1, hF1⟩
       have H1 : Hid (RefIs w1 br R1 ∧ RFr w w1 R R1) := ⟨hR1, hF1⟩
       obtain ⟨g, cap, hlv, hog, hgl, hlc, hcc⟩ := hR1.cell hkf1
       have c3 : w1.cell? ⟨br, 3, none⟩ = some (.slice (some ⟨g, 0, none⟩) R1.A.length cap) := by rw [cell_of_block hR1.disk]; simp [rC, hlv]
       have hc0 := hcc 0 _ rfl
       rw [Nat.add_zero] at hc0
       have hc1 := hcc 1 _ rfl
       have hc2 := hcc 2 _ rfl
       obtain ⟨ba, bc, hbv⟩ := row_form (hR1.row f (List.mem_of_getElem? hkf1))
       rw [hbv] at hc1
       have hby := BytesV.of_own (hR1.row f (List.mem_of_getElem? hkf1))
       rw [hbv] at hby
       have HBY : Hid (BytesV w1 (.slice ba f.bs.length bc) f.bs) := hby
       clear hR1 hF1 hcc hby)
    | (go_at_call 46
       have hX : RefIs (w1.alloc (.cells #[.string f.nm, .slice ba f.bs.length bc, .int .i64 f.sf] 64)) br R1 := H1.out.1.below (by go_grown)
       refine Calls.mono (rdrop_any hX (by omega) s) ?_
       rintro e w2 ⟨rfl, ov, hR2, hG2, hov⟩
       have hbr : br < w1.heap.size := H1.out.1.lt
       have hbx : w2.heap[w1.heap.size]? = some (.cells #[.string f.nm, .slice ba f.bs.length bc, .int .i64 f.sf] 64) := (hG2.block w1.heap.size (by simp) (fun e => by injection e with e; omega)).trans (heap_alloc_new _ _)
       have x0 : w2.cell? ⟨w1.heap.size, 0, none⟩ = some (.string f.nm) := by rw [cell_of_block hbx]; rfl
       have x1 : w2.cell? ⟨w1.heap.size, 1, none⟩ = some (.slice ba f.bs.length bc) := by rw [cell_of_block hbx]; rfl
       have x2 : w2.cell? ⟨w1.heap.size, 2, none⟩ = some (.int .i64 f.sf) := by rw [cell_of_block hbx]; rfl
       have xf : w2.frozen? ⟨w1.heap.size, 0, none⟩ = false := unfrozen_of_block hbx 0
       have hov' : ∀ b, ov.ownBlock = some b → w1.heap.size + 1 ≤ b := fun b hb => by have := hov b hb; simpa using this
       have H2 : Hid (RefIs w2 br (setA R1 ov (dropR s R1.A) none) ∧ (w1.alloc (.cells #[.string f.nm, .slice ba f.bs.length bc, .int .i64 f.sf] 64)).grownBy w2 (some br) ∧ ∀ b, ov.ownBlock = some b → w1.heap.size + 1 ≤ b) := ⟨hR2, hG2, hov'⟩
       clear hX hR2 hG2 hov hov' hbx)
    | (go_at_call 42
       have hown0 : (setA R1 ov (dropR s R1.A) none).own w1.heap.size = 0 := by
         rw [own_setA (z := w1.heap.size + 1) H2.out.2.2 (by omega) (by simp)]
         exact H1.out.1.fresh _ (Nat.le_refl _)
       have hY : RefIs (w2.setCell ⟨w1.heap.size, 0, none⟩ (.string t)) br (setA R1 ov (dropR s R1.A) none) := H2.out.1.kept (fun b hb => Below.heap_setCell _ _ _ _ (fun e => hb (by have e' : b = w1.heap.size := e; rw [e']; exact hown0))) (by simp)
       have hA2 : (setA R1 ov (dropR s R1.A) none).A.length ≤ 100 := by
         show (dropR s R1.A).length ≤ 100
         have := List.length_filter_le (fun f => !decide (f.nm = s)) R1.A
         unfold dropR
         omega
       rw [← hbv]
       refine Calls.mono (rput_any hY hA2 { f with nm := t } ⟨_, _, _, hbv⟩) ?_
       rintro e w3 ⟨rfl, ov2, ho3, hd3, hG3⟩
       have H3 : Hid (RefIs (w2.setCell ⟨w1.heap.size, 0, none⟩ (.string t)) br (setA R1 ov (dropR s R1.A) none) ∧ w3.ownsRow ((w2.setCell ⟨w1.heap.size, 0, none⟩ (.string t)).heap.size + 1) 64 3 ov2 (putR { f with nm := t } (dropR s R1.A)).length (rfL (putR { f with nm := t } (dropR s R1.A))) ∧ w3.heap[br]? = some (.cells (rC { setA R1 ov (dropR s R1.A) none with lv := ov2 }) 40) ∧ (w2.setCell ⟨w1.heap.size, 0, none⟩ (.string t)).grownBy w3 (some br)) := ⟨hY, ho3, hd3, hG3⟩
       clear hown0 hY hA2 ho3 hd3 hG3)
    | go_in)
  go_ret
  obtain ⟨hY, ho3, hd3, hG3⟩ := H3.out
  have hA := A_rstS R s t
  rw [hS1] at hA
  have hfm : f ∈ R1.A := List.mem_of_getElem? hkf1
  have hb3 : ∀ b, f.bv.ownBlock = some b → R1.own b = 3 := H1.out.1.rr f hfm
  have hbl3 : ∀ b, f.bv.ownBlock = some b → b < w1.heap.size := fun b hb => H1.out.1.own_lt (by rw [hb3 b hb]; simp)
  have hown3 : ∀ b, f.bv.ownBlock = some b → (setA R1 ov (dropR s R1.A) none).own b = 3 := fun b hb => by
    rw [own_setA (z := w1.heap.size + 1) H2.out.2.2 (by have := hbl3 b hb; omega) (by simp)]
    exact hb3 b hb
  have hrowY : (w2.setCell ⟨w1.heap.size, 0, none⟩ (.string t)).ownsRow 0 5 1 f.bv f.bs.length (vB f.bs) := by
    refine ownsRow_heap (H1.out.1.row f hfm) (fun b hb => ?_)
    have h1 := hbl3 b hb
    refine (Below.heap_setCell _ _ _ _ (fun e => by have e' : b = w1.heap.size := e; omega)).trans ((H2.out.2.1.block b (by simp; omega) (fun e => ?_)).trans (Below.heap_alloc _ _ b h1))
    injection e with e
    have h2 := hb3 b hb
    rw [e, H1.out.1.rd] at h2
    cases h2
  have hfin := hY.putL { f with nm := t } ov2 ho3 hd3 hG3 hrowY (fun b hb => Or.inr (hown3 b hb)) ht
  rw [show (setA R1 ov (dropR s R1.A) none).A = dropR s R1.A from rfl, hA] at hfin
  have hsz2 : w1.heap.size + 1 ≤ w2.heap.size := by have := H2.out.2.1.size; simpa using this
  have hov2 : ∀ b, ov2.ownBlock = some b → w1.heap.size + 1 ≤ b := fun b hb => by
    have := (ho3.lt b hb).1
    simp at this
    omega
  refine ⟨rfl, ov, ov2, hfin, H1.out.2.trans ⟨?_, ?_, ?_, ?_, fun b hb hr => ?_, fun b hb hr => ?_⟩⟩
  · exact hG3.os.trans H2.out.2.1.os
  · exact hG3.tape.trans H2.out.2.1.tape
  · exact hG3.output.trans H2.out.2.1.output
  · have := hG3.size
    simp at this
    omega
  · have hne : some b ≠ some br := fun e => by injection e with e; rw [e, H1.out.1.rd] at hr; cases hr
    refine (hG3.block b (by simp; omega) hne).trans ((Below.heap_setCell _ _ _ _ (fun e => by have e' : b = w1.heap.size := e; omega)).trans ((H2.out.2.1.block b (by simp; omega) hne).trans (Below.heap_alloc _ _ b hb)))
  · rw [own_setA (z := w1.heap.size + 1) hov2 (by omega) (fun e => by have := hb3 b e; rw [hr] at this; cases this), own_setA (z := w1.heap.size + 1) H2.out.2.2 (by omega) (by simp)]
    exact hr

end Go.Proofs.Ytllkpnlgemjgfaa
