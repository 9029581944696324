/- disk: the document's step without a plan; there. -/
import Derived.Test.YtllkpnlgemjgfaaRA
namespace Go.Proofs.Ytllkpnlgemjgfaa
open Go.RowKit Go.Maps Go.Joins
set_option linter.unusedSimpArgs false
set_option linter.unusedVariables false
/-- Only the disk's own block has turned. -/
theorem RefIs.setD {w w' : World} {br : Nat} {R : RS} (h : RefIs w br R) (n : Int) (dn : Bool) (hk : ∀ b, b ≠ br → w'.heap[b]? = w.heap[b]?) (hs : w.heap.size ≤ w'.heap.size)
    (hd : w'.heap[br]? = some (.cells (rC { R with n := n, down := dn }) 40)) : RefIs w' br { R with n := n, down := dn } where
  disk := hd
  rd := h.rd
  list := ownsRow_heap h.list (fun b hb => hk b (fun e => by have := h.rl b hb; rw [e, h.rd] at this; cases this))
  rl := h.rl
  row := fun f hf => ownsRow_heap (h.row f hf) (fun b hb => hk b (fun e => by have := h.rr f hf b hb; rw [e, h.rd] at this; cases this))
  rr := h.rr
  nm := h.nm
  plan := ownsRow_heap h.plan (fun b hb => hk b (fun e => by have := h.rp b hb; rw [e, h.rd] at this; cases this))
  rp := h.rp
  fresh := fun b hb => h.fresh b (by omega)
theorem RefIs.lt {w : World} {br : Nat} {R : RS} (h : RefIs w br R) : br < w.heap.size := heap_lt h.disk
def rstE (R : RS) (a b : ByteArray) : Int := if R.down then 32 else if nameB a && nameB b then 0 else 1
def rstS (R : RS) (a b : ByteArray) : RS := if R.down then R else if nameB a && nameB b then { R with n := R.n + 1 } else R
set_option maxHeartbeats 4000000 in
/-- step, without a plan -/
theorem rstep0 {w : World} {br : Nat} {R : RS} (h : RefIs w br R) (hp : R.plan = []) (a b : ByteArray) (ha : a.size ≤ 9223372036854775807) (hb : b.size ≤ 9223372036854775807) (hn : 0 ≤ R.n ∧ R.n < 4611686018427387904) :
    Calls Try.prog 40 #[.pointer (some ⟨br, 0, none⟩), .string a, .string b] w fun e w' => e = .returned (.int .i64 (rstE R a b)) ∧ RefIs w' br (rstS R a b) ∧ RFr w w' R (rstS R a b) := by
  have c5 : w.cell? ⟨br, 5, none⟩ = some (.bool R.down) := by rw [cell_of_block h.disk]; rfl
  have c2 : w.cell? ⟨br, 2, none⟩ = some (.int .i64 R.n) := by rw [cell_of_block h.disk]; rfl
  have f2 : w.frozen? ⟨br, 2, none⟩ = false := unfrozen_of_block h.disk 2
  obtain ⟨pa, pcap, hpv⟩ := row_form h.plan
  rw [hp] at hpv
  have c4 : w.cell? ⟨br, 4, none⟩ = some (.slice pa 0 pcap) := by rw [cell_of_block h.disk]; simp [rC, hpv]
  have HR : Hid (RefIs w br R) := h
  clear h hp hpv
  cases hd : R.down
  · cases h1 : nameB a
    · rw [show rstE R a b = 1 from by simp [rstE, hd, h1], show rstS R a b = R from by simp [rstS, hd, h1]]
      rw [hd] at c5
      go_enter Try.func40, Try.ntmps40
      go_wp2_with (first
        | (go_at_call 22; refine (rname_any a ha _).mono ?_; rw [h1]; rintro e w' ⟨rfl, rfl⟩)
        | go_in)
      go_ret
      exact ⟨rfl, HR.out, RFr.refl _ _⟩
    · have T1 : Hid True := trivial
      cases h2 : nameB b
      · rw [show rstE R a b = 1 from by simp [rstE, hd, h2], show rstS R a b = R from by simp [rstS, hd, h2]]
        rw [hd] at c5
        go_enter Try.func40, Try.ntmps40
        go_wp2_with (first
          | (go_at_call 22; clear T1; refine (rname_any a ha _).mono ?_; rw [h1]; rintro e w' ⟨rfl, rfl⟩)
          | (go_at_call 22; refine (rname_any b hb _).mono ?_; rw [h2]; rintro e w' ⟨rfl, rfl⟩)
          | go_in)
        go_ret
        exact ⟨rfl, HR.out, RFr.refl _ _⟩
      · rw [show rstE R a b = 0 from by simp [rstE, hd, h1, h2], show rstS R a b = { R with n := R.n + 1 } from by simp [rstS, hd, h1, h2]]
        rw [hd] at c5
        go_enter Try.func40, Try.ntmps40
        go_wp2_with (first
          | (go_at_call 22; clear T1; refine (rname_any a ha _).mono ?_; rw [h1]; rintro e w' ⟨rfl, rfl⟩)
          | (go_at_call 22; refine (rname_any b hb _).mono ?_; rw [h2]; rintro e w' ⟨rfl, rfl⟩)
          | go_in)
        refine wp_loop_rounds 1 ?_
        rw [rounds_succ]
        go_wp2
        go_ret
        have hb := HR.out
        refine ⟨rfl, ?_, ⟨rfl, rfl, rfl, by simp, fun b0 h0 h1 => Below.heap_setCell _ _ _ _ (fun e => by have e' : b0 = br := e; rw [e', hb.rd] at h1; cases h1), fun _ _ h => h⟩⟩
        have := hb.setD (R.n + 1) R.down (w' := w'.setCell ⟨br, 2, none⟩ (.int .i64 (R.n + 1))) (fun b0 h0 => Below.heap_setCell _ _ _ _ h0) (by simp) (by
          rw [block_setCell hb.disk]
          simp [rC])
        exact this
  · rw [show rstE R a b = 32 from by simp [rstE, hd], show rstS R a b = R from by simp [rstS, hd]]
    rw [hd] at c5
    go_enter Try.func40, Try.ntmps40
    go_wp2
    go_ret
    exact ⟨rfl, HR.out, RFr.refl _ _⟩
def rthI (R : RS) (a b : ByteArray) : Int := if rstE R a b = 0 then (if idxR a R.A < 0 then 0 else idxR a R.A) else 0
def rthE (R : RS) (a b : ByteArray) : Int := if rstE R a b = 0 then (if idxR a R.A < 0 then 33 else 0) else rstE R a b
theorem A_rstS (R : RS) (a b : ByteArray) : (rstS R a b).A = R.A := by
  unfold rstS
  split
  · rfl
  · split <;> rfl
set_option maxHeartbeats 4000000 in
/-- there, without a plan -/
theorem rthere0 {w : World} {br : Nat} {R : RS} (h : RefIs w br R) (hp : R.plan = []) (a b : ByteArray) (ha : a.size ≤ 9223372036854775807) (hb : b.size ≤ 9223372036854775807) (hn : 0 ≤ R.n ∧ R.n < 4611686018427387904) (hl : R.A.length ≤ 1000) :
    Calls Try.prog 43 #[.pointer (some ⟨br, 0, none⟩), .string a, .string b] w fun e w' => e = .returned (.tuple #[.int .i64 (rthI R a b), .int .i64 (rthE R a b)]) ∧ RefIs w' br (rstS R a b) ∧ RFr w w' R (rstS R a b) := by
  have HR : Hid (RefIs w br R) := h
  clear h
  have hA := A_rstS R a b
  by_cases h0 : rstE R a b = 0
  · have HE : Hid (rthI R a b = (if idxR a R.A < 0 then 0 else idxR a R.A) ∧ rthE R a b = (if idxR a R.A < 0 then 33 else 0)) := ⟨by simp [rthI, h0], by simp [rthE, h0]⟩
    by_cases h1 : idxR a R.A < 0
    · go_enter Try.func43, Try.ntmps43
      go_wp2_with (first
        | (go_at_call 40
           refine (rstep0 HR.out hp a b ha hb hn).mono ?_
           rw [h0]
           rintro e w1 ⟨rfl, hR1, hF1⟩
           have H1 : Hid (RefIs w1 br (rstS R a b) ∧ RFr w w1 R (rstS R a b)) := ⟨hR1, hF1⟩
           clear hR1 hF1)
        | (go_at_call 41
           refine (rat_any H1.out.1 (by rw [hA]; exact hl) a).mono ?_
           rw [hA]
           rintro e w2 ⟨rfl, rfl⟩)
        | go_in)
      go_returns
      rw [HE.out.1, HE.out.2, if_pos h1, if_pos h1]
      exact ⟨rfl, H1.out⟩
    · have h1' : decide (idxR a R.A < 0) = false := by simpa using h1
      have HE2 : Hid (rthI R a b = idxR a R.A ∧ rthE R a b = 0) := ⟨by rw [HE.out.1, if_neg h1], by rw [HE.out.2, if_neg h1]⟩
      go_enter Try.func43, Try.ntmps43
      go_wp2_with (first
        | (go_at_call 40
           refine (rstep0 HR.out hp a b ha hb hn).mono ?_
           rw [h0]
           rintro e w1 ⟨rfl, hR1, hF1⟩
           have H1 : Hid (RefIs w1 br (rstS R a b) ∧ RFr w w1 R (rstS R a b)) := ⟨hR1, hF1⟩
           clear hR1 hF1)
        | (go_at_call 41
           refine (rat_any H1.out.1 (by rw [hA]; exact hl) a).mono ?_
           rw [hA]
           rintro e w2 ⟨rfl, rfl⟩)
        | go_in)
      go_returns
      rw [HE2.out.1, HE2.out.2]
      exact ⟨rfl, H1.out⟩
  · have HE : Hid (rthI R a b = 0 ∧ rthE R a b = rstE R a b) := ⟨by simp [rthI, h0], by simp [rthE, h0]⟩
    have hne : (rstE R a b != 0) = true := by simpa using h0
    clear h0
    go_enter Try.func43, Try.ntmps43
    go_wp2_with (first
      | (go_at_call 40
         refine (rstep0 HR.out hp a b ha hb hn).mono ?_
         generalize hEE : rstE R a b = E at hne ⊢
         rintro e w1 ⟨rfl, hR1, hF1⟩
         have H1 : Hid (RefIs w1 br (rstS R a b) ∧ RFr w w1 R (rstS R a b)) := ⟨hR1, hF1⟩
         clear hR1 hF1)
      | go_in)
    go_returns
    rw [HE.out.1, HE.out.2, hEE]
    exact ⟨rfl, H1.out⟩
end Go.Proofs.Ytllkpnlgemjgfaa
