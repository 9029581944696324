/- RB, RC -/
import Derived.Test.YtconkienlcegaaaGreatDoorGRA
import Derived.BigQuiet
namespace Go.Proofs.YtconkienlcegaaaGreatDoor
open Go.RowKit Go.Maps Go.Joins
set_option linter.unusedSimpArgs false
set_option linter.unusedVariables false
theorem RefIs.setD {w w' : World} {br : Nat} {R : RS} (h : RefIs w br R) (n : Int) (dn : Bool) (hk : ∀ b, b ≠ br → w'.heap[b]? = w.heap[b]?) (hs : w.heap.size ≤ w'.heap.size)
 (hd : w'.heap[br]? = some (.cells (rC { R with n := n, down := dn }) 55)) : RefIs w' br { R with n := n, down := dn } where
 disk := hd
 rd := h.rd
 list := ownsRow_heap h.list (fun b hb => hk b (fun e => by have := h.rl b hb; rw [e, h.rd] at this; cases this))
 rl := h.rl
 row := fun f hf => ownsRow_heap (h.row f hf) (fun b hb => hk b (fun e => by have := h.rr f hf b hb; rw [e, h.rd] at this; cases this))
 rr := h.rr
 nm := h.nm
 plan := ownsRow_heap h.plan (fun b hb => hk b (fun e => by have := h.rp b hb; rw [e, h.rd] at this; cases this))
 rp := h.rp
 fresh := fun b hb => h.fresh b (by omega)
theorem RefIs.lt {w : World} {br : Nat} {R : RS} (h : RefIs w br R) : br < w.heap.size := heap_lt h.disk
def rplK (R : RS) : Int := match R.plan.find? (fun p => p.1 == R.n + 1 - R.frm) with
 | some p => p.2
 | none => 0
structure PlanR (R : RS) : Prop where
 len : R.plan.length ≤ 64
 kind : ∀ p ∈ R.plan, 1 ≤ p.2 ∧ p.2 ≤ 3
 frm : R.plan ≠ [] → 0 ≤ R.frm ∧ R.frm ≤ R.n
theorem PlanR.nil {R : RS} (h : R.plan = []) : PlanR R := ⟨by rw [h]; simp, by rw [h]; simp, fun h' => absurd h h'⟩
theorem rplK_hit {R : RS} {k : Nat} {p : Int × Int} (hno : ∀ j q, j < k → R.plan[j]? = some q → q.1 ≠ R.n + 1 - R.frm) (hp : R.plan[k]? = some p) (he : p.1 = R.n + 1 - R.frm) : rplK R = p.2 := by
 have : R.plan.find? (fun p => p.1 == R.n + 1 - R.frm) = some p := by
  rw [List.find?_eq_some_iff_getElem]; obtain ⟨hk, hpe⟩ := List.getElem?_eq_some_iff.1 hp; refine ⟨by simpa using he, k, hk, hpe, fun j hj => ?_⟩; have := hno j _ hj (List.getElem?_eq_getElem (by omega))
  simpa using this
 unfold rplK; rw [this]
theorem rplK_miss {R : RS} (hno : ∀ j q, j < R.plan.length → R.plan[j]? = some q → q.1 ≠ R.n + 1 - R.frm) : rplK R = 0 := by
 have : R.plan.find? (fun p => p.1 == R.n + 1 - R.frm) = none := by
  rw [List.find?_eq_none]; intro p hp; obtain ⟨j, hj, hje⟩ := List.getElem_of_mem hp; have := hno j p hj (by rw [List.getElem?_eq_getElem hj, hje])
  simpa using this
 unfold rplK; rw [this]
theorem plL_get {l : List (Int × Int)} {k : Nat} {p : Int × Int} (h : l[k]? = some p) : (plL l)[k * 2]? = some (.int .i64 p.1) ∧ (plL l)[k * 2 + 1]? = some (.int .i64 p.2) := by
 induction l generalizing k with
 | nil => simp at h
 | cons q l ih =>
   cases k with
   | zero =>
     simp at h; subst h; simp [plL]
   | succ k =>
     simp at h; have := ih h; have e : plL (q :: l) = .int .i64 q.1 :: .int .i64 q.2 :: plL l := rfl; rw [e, show (k + 1) * 2 = k * 2 + 2 by omega, show k * 2 + 2 + 1 = (k * 2 + 1) + 2 by omega]; exact this
def rstE (R : RS) (a b : ByteArray) : Int := if R.down then 32 else if nameB a && nameB b then faultE (rplK R) else 1
def rstS (R : RS) (a b : ByteArray) : RS := if R.down then R else if nameB a && nameB b then { R with n := R.n + 1, down := decide (rplK R = 3) } else R
set_option maxHeartbeats 4000000 in
theorem rstep0 {w : World} {br : Nat} {R : RS} (h : RefIs w br R) (hp : PlanR R) (a b : ByteArray) (ha : a.size ≤ 9223372036854775807) (hb : b.size ≤ 9223372036854775807) (hn : 0 ≤ R.n ∧ R.n < 4611686018427387904) :
 Calls Tryz.prog 67 #[.pointer (some ⟨br, 0, none⟩), .string a, .string b] w fun e w' => e = .returned (.int .i64 (rstE R a b)) ∧ RefIs w' br (rstS R a b) ∧ RFr w w' R (rstS R a b) := by
 have c5 : w.cell? ⟨br, 5, none⟩ = some (.bool R.down) := by rw [cell_of_block h.disk]; rfl
 have c2 : w.cell? ⟨br, 2, none⟩ = some (.int .i64 R.n) := by rw [cell_of_block h.disk]; rfl
 have f2 : w.frozen? ⟨br, 2, none⟩ = false := unfrozen_of_block h.disk 2; obtain ⟨pa, pcap, hpv⟩ := row_form h.plan; have HPV : Hid (R.pv = .slice pa R.plan.length pcap) := hpv; clear hpv; have HR : Hid (RefIs w br R) := h; have HP : Hid (PlanR R) := hp; have hpl := hp.len; clear h hp; cases hd : R.down
 · cases h1 : nameB a
   · rw [show rstE R a b = 1 from by simp [rstE, hd, h1], show rstS R a b = R from by simp [rstS, hd, h1]]
     rw [hd] at c5; go_enter Tryz.func67, Tryz.ntmps67; go_wp2_with (first
      | (go_at_call 101; refine (rname_any a ha _).mono ?_; rw [h1]; rintro e w' ⟨rfl, rfl⟩)
      | go_in)
     go_ret; exact ⟨rfl, HR.out, RFr.refl _ _⟩
   · have T1 : Hid True := trivial
     cases h2 : nameB b
     · rw [show rstE R a b = 1 from by simp [rstE, hd, h2], show rstS R a b = R from by simp [rstS, hd, h2]]
       rw [hd] at c5; go_enter Tryz.func67, Tryz.ntmps67; go_wp2_with (first
        | (go_at_call 101; clear T1; refine (rname_any a ha _).mono ?_; rw [h1]; rintro e w' ⟨rfl, rfl⟩)
        | (go_at_call 101; refine (rname_any b hb _).mono ?_; rw [h2]; rintro e w' ⟨rfl, rfl⟩)
        | go_in)
       go_ret; exact ⟨rfl, HR.out, RFr.refl _ _⟩
     · rw [show rstE R a b = faultE (rplK R) from by simp [rstE, hd, h1, h2], show rstS R a b = { R with n := R.n + 1, down := decide (rplK R = 3) } from by simp [rstS, hd, h1, h2]]
       rw [hd] at c5; have HDN : Hid (R.down = false) := hd; clear hd; go_enter Tryz.func67, Tryz.ntmps67; go_wp2_with (first
        | (go_at_call 101; clear T1; refine (rname_any a ha _).mono ?_; rw [h1]; rintro e w' ⟨rfl, rfl⟩)
        | (go_at_call 101; refine (rname_any b hb _).mono ?_; rw [h2]; rintro e w' ⟨rfl, rfl⟩)
        | go_in)
       have HR1 : Hid (RefIs (w'.setCell ⟨br, 2, none⟩ (.int .i64 (R.n + 1))) br { R with n := R.n + 1 } ∧ RFr w' (w'.setCell ⟨br, 2, none⟩ (.int .i64 (R.n + 1))) R { R with n := R.n + 1 }) := by
        have hb := HR.out; refine ⟨?_, ⟨rfl, rfl, rfl, by simp, fun b0 h0 h1 => Below.heap_setCell _ _ _ _ (fun e => by have e' : b0 = br := e; rw [e', hb.rd] at h1; cases h1), fun _ _ h => h⟩⟩; have := hb.setD (R.n + 1) R.down (w' := w'.setCell ⟨br, 2, none⟩ (.int .i64 (R.n + 1))) (fun b0 h0 => Below.heap_setCell _ _ _ _ h0) (by simp) (by
         rw [block_setCell hb.disk]; simp [rC])
        exact this
       generalize w'.setCell ⟨br, 2, none⟩ (.int .i64 (R.n + 1)) = w1 at HR1 ⊢; clear c2 c5 f2; go_loopw [7] (fun i wr => ∃ k : Nat, k ≤ R.plan.length ∧ i = .int .i64 k ∧ (∀ j q, j < k → R.plan[j]? = some q → q.1 ≠ R.n + 1 - R.frm) ∧ RefIs wr br { R with n := R.n + 1 } ∧ RFr w' wr R { R with n := R.n + 1 }) (fun i _ => R.plan.length - (intOf i).toNat)
       case atStart => exact ⟨0, Nat.zero_le _, rfl, fun j q hj => by omega, HR1.out⟩
       case round =>
        obtain ⟨k, hk, rfl, hno, hR1⟩ := hrel; clear HR1; have HR1 : Hid (RefIs wr br { R with n := R.n + 1 } ∧ RFr w' wr R { R with n := R.n + 1 }) := hR1; clear hR1; have d1 : wr.cell? ⟨br, 1, none⟩ = some (.int .i64 R.frm) := by rw [cell_of_block HR1.out.1.disk]; rfl
        have d2 : wr.cell? ⟨br, 2, none⟩ = some (.int .i64 (R.n + 1)) := by rw [cell_of_block HR1.out.1.disk]; rfl
        have d4 : wr.cell? ⟨br, 4, none⟩ = some (.slice pa R.plan.length pcap) := by rw [cell_of_block HR1.out.1.disk]; simp [rC, HPV.out]
        have d5 : wr.cell? ⟨br, 5, none⟩ = some (.bool false) := by rw [cell_of_block HR1.out.1.disk]; simp [rC, HDN.out]
        have e5 : wr.frozen? ⟨br, 5, none⟩ = false := unfrozen_of_block HR1.out.1.disk 5; by_cases hkl : k < R.plan.length
        · obtain ⟨p, hpk⟩ : ∃ p, R.plan[k]? = some p := ⟨_, List.getElem?_eq_getElem hkl⟩
          have hkd := HP.out.kind p (List.mem_of_getElem? hpk); have hfr := HP.out.frm (by intro e; rw [e] at hkl; simp at hkl); obtain ⟨g, hpa⟩ : ∃ g, pa = some ⟨g, 0, none⟩ := by
           rcases HR1.out.1.plan.2 with ⟨hv, h0⟩ | ⟨g, cap, cur, hv, _⟩
           · have : R.plan.length = 0 := h0
             omega
           · have hv' : R.pv = .slice (some ⟨g, 0, none⟩) R.plan.length cap := hv
             rw [HPV.out] at hv'; injection hv' with e1 _ _
             exact ⟨g, e1⟩
          subst hpa; have hg := plL_get hpk; have p0 : wr.cell? ⟨g, k * 2, none⟩ = some (.int .i64 p.1) := by
           have := HR1.out.1.plan.cells (g := g) (by show R.pv.ownBlock = _; rw [HPV.out]; rfl) (k * 2) _ hg.1; rw [Addr.add_lit, Nat.zero_add] at this; exact this
          have p1 : wr.cell? ⟨g, k * 2 + 1, none⟩ = some (.int .i64 p.2) := by
           have := HR1.out.1.plan.cells (g := g) (by show R.pv.ownBlock = _; rw [HPV.out]; rfl) (k * 2 + 1) _ hg.2; rw [Addr.add_lit, Nat.zero_add] at this; exact this
          have hki : (k : Int) < R.plan.length := by omega
          clear hg; by_cases he : p.1 = R.n + 1 - R.frm
          · have hK := rplK_hit hno hpk he
            have he' : (p.1 != R.n + 1 - R.frm) = false := by simpa using he
            have HK : Hid (rplK R = p.2) := hK; have HE : Hid (p.1 = R.n + 1 - R.frm) := he; clear hK he hno hpk; have hk3 : p.2 = 1 ∨ p.2 = 2 ∨ p.2 = 3 := by omega
            have HN1 : Hid (RefIs wr br { R with n := R.n + 1, down := false } ∧ RFr w' wr R { R with n := R.n + 1, down := false }) := by
             have h0 := HR1.out; have e : ({ R with n := R.n + 1, down := false } : RS) = { R with n := R.n + 1 } := by rw [← HDN.out]
             rw [e]; exact h0
            rcases hk3 with h31 | h32 | h33
            · go_wp2
              go_quiet (fail)
              go_wp2; go_ret
              rw [HK.out, h31]; exact ⟨rfl, HN1.out.1.below ⟨rfl, rfl, rfl, Nat.le_refl _, fun _ _ => rfl⟩, HN1.out.2.os, HN1.out.2.tape, HN1.out.2.output, HN1.out.2.size, HN1.out.2.block, HN1.out.2.own⟩
            · go_wp2
              go_quiet (fail)
              go_wp2; go_ret
              rw [HK.out, h32]; exact ⟨rfl, HN1.out.1.below ⟨rfl, rfl, rfl, Nat.le_refl _, fun _ _ => rfl⟩, HN1.out.2.os, HN1.out.2.tape, HN1.out.2.output, HN1.out.2.size, HN1.out.2.block, HN1.out.2.own⟩
            · go_wp2
              go_quiet (fail)
              go_wp2; go_ret
              rw [HK.out, h33]; have hb := HR1.out.1.below (w' := wr.drewN nq) ⟨rfl, rfl, rfl, Nat.le_refl _, fun _ _ => rfl⟩; have hF := HR1.out.2; refine ⟨rfl, ?_, hF.os, hF.tape, hF.output, by simpa using hF.size, fun b0 h0 h1 => (Below.heap_setCell _ _ _ _ (fun e => by have e' : b0 = br := e; rw [e', HR.out.rd] at h1; cases h1)).trans (hF.block b0 h0 h1), hF.own⟩; exact hb.setD (R.n + 1) true (w' := (wr.drewN nq).setCell ⟨br, 5, none⟩ (.bool true)) (fun b0 h0 => Below.heap_setCell _ _ _ _ h0) (by simp) (by
               rw [block_setCell hb.disk]; simp [rC])
          · have he' : (p.1 != R.n + 1 - R.frm) = true := by simpa using he
            have HE : Hid (p.1 ≠ R.n + 1 - R.frm) := he; clear he; go_wp2; go_quiet (fail); go_wp2; go_roundw
            case rel =>
             refine ⟨k + 1, by omega, by go_num, fun j q hj hq => ?_, HR1.out.1.below ⟨rfl, rfl, rfl, Nat.le_refl _, fun _ _ => rfl⟩, HR1.out.2.os, HR1.out.2.tape, HR1.out.2.output, HR1.out.2.size, HR1.out.2.block, HR1.out.2.own⟩; by_cases ej : j = k
             · subst ej
               rw [hpk] at hq; injection hq with hq
               rw [← hq]; exact HE.out
             · exact hno j q (by omega) hq
            case measure => simp [intOf]; omega
        · have hki : decide ((k : Int) < R.plan.length) = false := by simp; omega
          go_wp2; go_ret
          rw [rplK_miss (R := R) (fun j q hj hq => hno j q (by omega) hq)]; refine ⟨rfl, ?_⟩; have e : ({ R with n := R.n + 1, down := decide ((0 : Int) = 3) } : RS) = { R with n := R.n + 1 } := by
           rw [show decide ((0 : Int) = 3) = R.down from by rw [HDN.out]; rfl]
          rw [e]; exact HR1.out
 · rw [show rstE R a b = 32 from by simp [rstE, hd], show rstS R a b = R from by simp [rstS, hd]]
   rw [hd] at c5; go_enter Tryz.func67, Tryz.ntmps67; go_wp2; go_ret; exact ⟨rfl, HR.out, RFr.refl _ _⟩
def rthI (R : RS) (a b : ByteArray) : Int := if rstE R a b = 0 then (if idxR a R.A < 0 then 0 else idxR a R.A) else 0
def rthE (R : RS) (a b : ByteArray) : Int := if rstE R a b = 0 then (if idxR a R.A < 0 then 33 else 0) else rstE R a b
theorem A_rstS (R : RS) (a b : ByteArray) : (rstS R a b).A = R.A := by
 unfold rstS; split
 · rfl
 · split <;> rfl
set_option maxHeartbeats 4000000 in
theorem rthere0 {w : World} {br : Nat} {R : RS} (h : RefIs w br R) (hp : PlanR R) (a b : ByteArray) (ha : a.size ≤ 9223372036854775807) (hb : b.size ≤ 9223372036854775807) (hn : 0 ≤ R.n ∧ R.n < 4611686018427387904) (hl : R.A.length ≤ 1000) :
 Calls Tryz.prog 112 #[.pointer (some ⟨br, 0, none⟩), .string a, .string b] w fun e w' => e = .returned (.tuple #[.int .i64 (rthI R a b), .int .i64 (rthE R a b)]) ∧ RefIs w' br (rstS R a b) ∧ RFr w w' R (rstS R a b) := by
 have HR : Hid (RefIs w br R) := h; clear h; have hA := A_rstS R a b; by_cases h0 : rstE R a b = 0
 · have HE : Hid (rthI R a b = (if idxR a R.A < 0 then 0 else idxR a R.A) ∧ rthE R a b = (if idxR a R.A < 0 then 33 else 0)) := ⟨by simp [rthI, h0], by simp [rthE, h0]⟩
   by_cases h1 : idxR a R.A < 0
   · go_enter Tryz.func112, Tryz.ntmps112
     go_wp2_with (first
      | (go_at_call 67
         refine (rstep0 HR.out hp a b ha hb hn).mono ?_; rw [h0]; rintro e w1 ⟨rfl, hR1, hF1⟩; have H1 : Hid (RefIs w1 br (rstS R a b) ∧ RFr w w1 R (rstS R a b)) := ⟨hR1, hF1⟩
         clear hR1 hF1)
      | (go_at_call 68
         refine (rat_any H1.out.1 (by rw [hA]; exact hl) a).mono ?_; rw [hA]; rintro e w2 ⟨rfl, rfl⟩)
      | go_in)
     go_returns
     rw [HE.out.1, HE.out.2, if_pos h1, if_pos h1]; exact ⟨rfl, H1.out⟩
   · have h1' : decide (idxR a R.A < 0) = false := by simpa using h1
     have HE2 : Hid (rthI R a b = idxR a R.A ∧ rthE R a b = 0) := ⟨by rw [HE.out.1, if_neg h1], by rw [HE.out.2, if_neg h1]⟩
     go_enter Tryz.func112, Tryz.ntmps112
     go_wp2_with (first
      | (go_at_call 67
         refine (rstep0 HR.out hp a b ha hb hn).mono ?_; rw [h0]; rintro e w1 ⟨rfl, hR1, hF1⟩; have H1 : Hid (RefIs w1 br (rstS R a b) ∧ RFr w w1 R (rstS R a b)) := ⟨hR1, hF1⟩
         clear hR1 hF1)
      | (go_at_call 68
         refine (rat_any H1.out.1 (by rw [hA]; exact hl) a).mono ?_; rw [hA]; rintro e w2 ⟨rfl, rfl⟩)
      | go_in)
     go_returns
     rw [HE2.out.1, HE2.out.2]; exact ⟨rfl, H1.out⟩
 · have HE : Hid (rthI R a b = 0 ∧ rthE R a b = rstE R a b) := ⟨by simp [rthI, h0], by simp [rthE, h0]⟩
   have hne : (rstE R a b != 0) = true := by simpa using h0
   clear h0; go_enter Tryz.func112, Tryz.ntmps112; go_wp2_with (first
    | (go_at_call 67
       refine (rstep0 HR.out hp a b ha hb hn).mono ?_; generalize hEE : rstE R a b = E at hne ⊢; rintro e w1 ⟨rfl, hR1, hF1⟩; have H1 : Hid (RefIs w1 br (rstS R a b) ∧ RFr w w1 R (rstS R a b)) := ⟨hR1, hF1⟩
       clear hR1 hF1)
    | go_in)
   go_returns
   rw [HE.out.1, HE.out.2, hEE]; exact ⟨rfl, H1.out⟩
theorem info64b : (Tryz.prog.info? 119).map (fun i => (i.zero, i.size, i.bytes)) = some (some (.agg #[.string ByteArray.empty, .slice none 0 0, .int .i64 0]), 3, 48) := by kernel_rfl
theorem info64c : ∃ i, Tryz.prog.info? 119 = some i ∧ i.zero = some (.agg #[.string ByteArray.empty, .slice none 0 0, .int .i64 0]) ∧ i.size = 3 ∧ i.bytes = 48 := by
 have := info64b; cases h : Tryz.prog.info? 119 with
 | none => rw [h] at this; cases this
 | some i =>
   rw [h] at this; simp at this; exact ⟨i, rfl, this.1, this.2.1, this.2.2⟩
def setA (R : RS) (ov : Value) (A : List RF) (ex : Option Nat) : RS := { R with lv := ov, A := A, own := fun b => if ov.ownBlock = some b then 2 else if ex = some b then 3 else R.own b }
theorem RefIs.setL {w w' : World} {br : Nat} {R : RS} (h : RefIs w br R) (ov : Value) (A : List RF) (ex : Option Nat) (hk : ∀ b, b < w.heap.size → b ≠ br → w'.heap[b]? = w.heap[b]?) (hs : w.heap.size ≤ w'.heap.size)
 (hd : w'.heap[br]? = some (.cells (rC (setA R ov A ex)) 55)) (hl : w'.ownsRow w.heap.size 119 3 ov A.length (rfL A)) (hex : ∀ b, ex = some b → b < w.heap.size ∧ (R.own b = 0 ∨ R.own b = 3))
 (hrow : ∀ f ∈ A, f ∈ R.A ∨ (w'.ownsRow 0 5 1 f.bv f.bs.length (vB f.bs) ∧ f.bv.ownBlock = ex ∧ f.nm.size ≤ 9223372036854775807)) : RefIs w' br (setA R ov A ex) := by
 have hlt := hl.lt; have hold : ∀ b, R.own b ≠ 0 → R.own b ≠ 3 → (setA R ov A ex).own b = R.own b := fun b h0 h3 => by
  show (if _ then _ else if _ then _ else _) = _; have := h.own_lt h0; rw [if_neg (fun e => by have := (hlt b e).1; omega), if_neg (fun e => by rcases (hex b e).2 with h1 | h1 <;> contradiction)]
 have h3 : ∀ b, R.own b = 3 → (setA R ov A ex).own b = 3 := fun b h3 => by
  show (if _ then _ else if _ then _ else _) = _; have := h.own_lt (b := b) (by rw [h3]; simp); rw [if_neg (fun e => by have := (hlt b e).1; omega)]; split
  · rfl
  · exact h3
 have hk' : ∀ b, R.own b ≠ 0 → R.own b ≠ 1 → w'.heap[b]? = w.heap[b]? := fun b h0 h1 => hk b (h.own_lt h0) (fun e => h1 (by rw [e]; exact h.rd))
 refine ⟨hd, ?_, ownsRow_le hl (Nat.zero_le _), fun b hb => ?_, fun f hf => ?_, fun f hf b hb => ?_, fun f hf => ?_, ?_, fun b hb => ?_, fun b hb => ?_⟩
 · rw [hold br (by rw [h.rd]; simp) (by rw [h.rd]; simp)]; exact h.rd
 · have hb' : ov.ownBlock = some b := hb
   show (if _ then _ else _) = _; rw [if_pos hb']
 · rcases hrow f hf with h1 | h1
   · exact ownsRow_heap (h.row f h1) (fun b hb => hk' b (by rw [h.rr f h1 b hb]; simp) (by rw [h.rr f h1 b hb]; simp))
   · exact h1.1
 · rcases hrow f hf with h1 | h1
   · exact h3 b (h.rr f h1 b hb)
   · rw [h1.2.1] at hb
     show (if _ then _ else if _ then _ else _) = _; have := (hex b hb).1; rw [if_neg (fun e => by have := (hlt b e).1; omega), if_pos hb]
 · rcases hrow f hf with h1 | h1
   · exact h.nm f h1
   · exact h1.2.2
 · exact ownsRow_heap h.plan (fun b hb => hk' b (by rw [h.rp b hb]; simp) (by rw [h.rp b hb]; simp))
 · have := h.rp b hb
   rw [hold _ (by rw [this]; simp) (by rw [this]; simp)]; exact this
 · show (if _ then _ else if _ then _ else _) = _
   rw [if_neg (fun e => by have := (hlt b e).2; omega), if_neg (fun e => by have := (hex b e).1; omega)]; exact h.fresh b (by omega)
theorem rfL_append (a b : List RF) : rfL (a ++ b) = rfL a ++ rfL b := by simp [rfL]
theorem rfC_one (f : RF) (hv : ∃ a l c, f.bv = .slice a l c) : ∀ u ∈ rfC f, u.oneCell' = true := by
 obtain ⟨a, l, c, hv⟩ := hv; intro u hu; simp [rfC] at hu; rcases hu with rfl | rfl | rfl
 · rfl
 · rw [hv]; rfl
 · rfl
theorem wpList_append_f {w : World} {ops : Array Oper} {rest : List Oper} {o : Oper} {a : Act} {Q : Exit → Act → World → Prop} (hgd : o.guard = none) (s x : Operand)
 (ho : o.op = .call { callee := .builtin .append, args := #[s, x], argTypes := #[53, 53] }) (base : Nat)
 (v : Value) (A : List RF) (f : RF) (hv : ∃ a l c, f.bv = .slice a l c) (hs : a.eval s = v) (hown : w.ownsRow base 119 3 v A.length (rfL A)) (g : Nat) (hg : w.heap[g]? = some (.cells #[.string f.nm, f.bv, .int .i64 f.sf] 119)) (hx : a.eval x = .slice (some ⟨g, 0, none⟩) 1 1)
 (hl : A.length ≤ 1000) (hbase : base ≤ w.heap.size)
 (h : ∀ v' w', w'.ownsRow base 119 3 v' (A ++ [f]).length (rfL (A ++ [f])) → w.grownBy w' v.ownBlock → (v'.ownBlock = v.ownBlock ∨ v'.ownBlock = some w.heap.size) → wpList Tryz.prog ops Q rest (a.put o.dst v') w') : wpList Tryz.prog ops Q (o :: rest) a w := by
 obtain ⟨i0, hi, hz0, hz1, hz2⟩ := info64c; refine wpList_append_own_at w hgd s x 53 ho base 119 i0 _ 3 48 Tryz.underlying53 hi hz0 hz1 hz2 rfl (by decide) v A.length (rfL A) hs hown ⟨g, 0, none⟩ 1 1 (rfC f) hx rfl (fun j u hu => ?_) (rfC_one f hv) (by unfold maxLen; omega) (by omega) hbase (fun v' w' a b _ d => h v' w' ?_ b d)
 · rw [Addr.add_lit, Nat.zero_add, cell_of_block hg]
   simpa [rfC] using hu
 · rw [List.length_append, rfL_append]
   have : rfL [f] = rfC f := by simp [rfL]
   rw [this]; exact a
def dropR (nm : ByteArray) (A : List RF) : List RF := A.filter fun f => !decide (f.nm = nm)
theorem RefIs.form {w : World} {br : Nat} {R : RS} (h : RefIs w br R) {f : RF} (hf : f ∈ R.A) : ∃ a l c, f.bv = .slice a l c := by
 obtain ⟨a, c, e⟩ := row_form (h.row f hf); exact ⟨a, _, c, e⟩
end Go.Proofs.YtconkienlcegaaaGreatDoor
