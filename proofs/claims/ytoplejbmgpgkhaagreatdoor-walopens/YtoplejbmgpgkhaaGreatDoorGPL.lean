/- PE, PF, PR, PU, PV, PK, PL -/
import Derived.Test.YtoplejbmgpgkhaaGreatDoorGCI
import Derived.Test.YtoplejbmgpgkhaaGreatDoorGPC
import Derived.Test.YtoplejbmgpgkhaaGreatDoorGRC
import Derived.BigQuiet
import Derived.Deep.AppendLies
import Derived.Maps.Views
import Derived.Test.YtoplejbmgpgkhaaGreatDoorRK
import Derived.Test.YtoplejbmgpgkhaaGreatDoorGRA
namespace Go.Proofs.YtoplejbmgpgkhaaGreatDoor
open Go.RowKit Go.Maps Go.Joins
set_option linter.unusedSimpArgs false
set_option linter.unusedVariables false
structure HB (R : RS) (ro : Int) : Prop where
  planR : PlanR R
  cnt : Rn R
  rm : R.room = ro
  r0 : 0 ≤ ro ∧ ro ≤ 1073741824
  wf : Wf (absR R.A) ro
  srt : Srt (absR R.A)
structure HS (R R' : RS) (dn : Bool) (n : Int) (l : List Tf) : Prop where
  room : R'.room = R.room
  down : R'.down = dn
  plan : R'.plan = R.plan
  frm : R'.frm = R.frm
  n : R'.n = n
  abs : absR R'.A = l
theorem HB.len {R : RS} {ro : Int} (h : HB R ro) : R.A.length ≤ 16 := by
  have := h.wf.len
  unfold absR at this
  rw [List.length_map] at this
  exact this
theorem rs_name {R : RS} {a b : ByteArray} (h : rstE R a b = 0) : (nameB a && nameB b) = true := by
  unfold rstE at h
  split at h
  · omega
  · split at h
    · assumption
    · omega
theorem rs_zero {R : RS} {a b : ByteArray} (h : rstE R a b = 0) : rstS R a b = { R with n := R.n + 1, down := false } := by
  have hn := rs_name h
  unfold rstE at h
  unfold rstS
  split at h
  · omega
  · rename_i hd
    rw [if_neg hd, if_pos hn]
    try rw [if_pos hn] at h
    have : decide (rplK R = 3) = false := by
      simp only [decide_eq_false_iff_not]
      intro e
      rw [e] at h
      simp [faultE] at h
    rw [this]
theorem HS.up (R : RS) : HS R { R with n := R.n + 1, down := false } false (R.n + 1) (absR R.A) := ⟨rfl, rfl, rfl, rfl, rfl, rfl⟩
theorem HS.st (R : RS) (a b : ByteArray) : HS R (rstS R a b) (rstS R a b).down (rstS R a b).n (absR R.A) := by
  unfold rstS
  split
  · exact ⟨rfl, rfl, rfl, rfl, rfl, rfl⟩
  · split <;> exact ⟨rfl, rfl, rfl, rfl, rfl, rfl⟩
theorem rthn {R : RS} {a b : ByteArray} (h : ¬ rstE R a b = 0) : rthE R a b = rstE R a b := if_neg h
theorem rthg {R : RS} {a b : ByteArray} (h : rstE R a b = 0) (hi : idxR a R.A = -1) : rthE R a b = 33 := by
  unfold rthE; rw [h, hi]; rfl
theorem rthh {R : RS} {a b : ByteArray} (h : rstE R a b = 0) {k : Nat} (hi : idxR a R.A = (k : Nat)) : rthE R a b = 0 := by
  unfold rthE; rw [h, hi]; simp
theorem h_trunc {w : World} {br : Nat} {R : RS} {ro : Int} (h : RefIs w br R) (hb : HB R ro) (s : ByteArray) (hs : s.size ≤ 9223372036854775807) (x : Int) :
    Calls Tryz.prog 54 #[.pointer (some ⟨br, 0, none⟩), .string s, .int .i64 x] w fun e w' => e = .returned (.int .i64 (gI (rstE R s s) (eTru (absR R.A) s x))) ∧ ∃ R', RefIs w' br R' ∧ RFr w w' R R' ∧ HS R R' (rstS R s s).down (rstS R s s).n (gL (rstE R s s) (absR R.A) (lTru (absR R.A) s x)) := by
  have hl := hb.len
  by_cases h1 : rstE R s s = 0
  case neg =>
    rw [gI1 h1, gL1 h1]
    refine (rtrunc_no h hb.planR hb.cnt (by omega) s hs x (by rw [rthn h1]; exact h1)).mono ?_
    rintro e w' ⟨rfl, hD, hF⟩
    exact ⟨by rw [rthn h1], _, hD, hF, HS.st R _ _⟩
  case pos =>
    have hnn := rs_name h1
    have hn : nameB s = true := by rw [← nn]; exact hnn
    have h2 := rs_zero h1
    rw [gI0 h1, gL0 h1, h2]
    rcases idx_cases s R.A with hi | ⟨k, f, hi, hkf⟩
    · refine (rtrunc_no h hb.planR hb.cnt (by omega) s hs x (by rw [rthg h1 hi]; simp)).mono ?_
      rintro e w' ⟨rfl, hD, hF⟩
      rw [h2] at hD hF
      exact ⟨by rw [rthg h1 hi]; simp [eTru, hn, fT_absR_none hi], _, hD, hF, by rw [show lTru (absR R.A) s x = absR R.A from by simp [lTru, hn, fT_absR_none hi]]; exact HS.up R⟩
    · obtain ⟨hf1, hf2⟩ := fT_absR_some hi hkf
      by_cases hx : x < 0 ∨ (f.bs.length : Int) < x
      · refine (rtrunc_arg h hb.planR hb.cnt (by omega) s hs x (rthh h1 hi) hi hkf hx).mono ?_
        rintro e w' ⟨rfl, hD, hF⟩
        rw [h2] at hD hF
        have hx' : x < 0 ∨ ((tR f).2.1.length : Int) < x := hx
        refine ⟨by simp only [eTru, hn, hf1, if_true, if_pos hx'], _, hD, hF, ?_⟩
        rw [show lTru (absR R.A) s x = absR R.A from by simp only [lTru, hn, hf1, if_true, if_pos hx']]
        exact HS.up R
      · refine (rtrunc_ok h hb.planR hb.cnt (by omega) s hs x (rthh h1 hi) hi hkf (by omega) (by omega)).mono ?_
        rintro e w' ⟨rfl, ba, bc, hD, hF⟩
        rw [h2] at hD hF
        have hx' : ¬ (x < 0 ∨ ((tR f).2.1.length : Int) < x) := hx
        refine ⟨by simp only [eTru, hn, hf1, if_true, if_neg hx'], _, hD, hF, rfl, rfl, rfl, rfl, rfl, ?_⟩
        show absR (R.A.set k { f with bv := .slice ba x.toNat bc, bs := f.bs.take x.toNat, sf := x }) = _
        rw [absR_set hb.srt hkf hf2 (f' := { f with bv := .slice ba x.toNat bc, bs := f.bs.take x.toNat, sf := x }) hf2]
        simp only [lTru, hn, hf1, if_true, if_neg hx']
        rfl
theorem h_append {w : World} {br : Nat} {R : RS} {ro : Int} (h : RefIs w br R) (hb : HB R ro) (s : ByteArray) (hs : s.size ≤ 9223372036854775807) (va : Option Addr) (vc : Nat) (bs : List Int) (hv0 : BytesV w (.slice va bs.length vc) bs) (hvr : ∀ b, dBlock (.slice va bs.length vc) bs = some b → R.own b = 0) (hb63 : bs.length ≤ 4611686018427387904) :
    Calls Tryz.prog 46 #[.pointer (some ⟨br, 0, none⟩), .string s, .slice va bs.length vc] w fun e w' => e = .returned (.int .i64 (gI (rstE R s s) (eApp (absR R.A) ro s bs))) ∧ ∃ R', RefIs w' br R' ∧ RFr w w' R R' ∧ HS R R' (rstS R s s).down (rstS R s s).n (gL (rstE R s s) (absR R.A) (lApp (absR R.A) ro s bs)) := by
  have hl := hb.len
  have hrm := hb.rm
  have hr0 := hb.r0
  have hT := sumA_sumT R.A
  have hsum := hb.wf.sum
  have hlen : (absR R.A).length = R.A.length := by unfold absR; rw [List.length_map]
  by_cases h1 : rstE R s s = 0
  case neg =>
    rw [gI1 h1, gL1 h1]
    refine (rappend_no h hb.planR hb.cnt s hs _ h1).mono ?_
    rintro e w' ⟨rfl, hD, hF⟩
    exact ⟨rfl, _, hD, hF, HS.st R _ _⟩
  case pos =>
    have hnn := rs_name h1
    have hn : nameB s = true := by rw [← nn]; exact hnn
    have h2 := rs_zero h1
    rw [gI0 h1, gL0 h1, h2]
    rcases idx_cases s R.A with hi | ⟨k, f, hi, hkf⟩
    · have hfn := fT_absR_none hi
      by_cases h16 : 16 ≤ R.A.length
      · refine (rappend_big h hb.planR hb.cnt (by omega) s hs va vc bs hv0 hvr hb63 h1 hi h16).mono ?_
        rintro e w' ⟨rfl, hD, hF⟩
        rw [h2] at hD hF
        have hc : fT (absR R.A) (nb s) = none ∧ 16 ≤ (absR R.A).length := ⟨hfn, by omega⟩
        exact ⟨by simp only [eApp, hn, if_true, if_pos hc], _, hD, hF, by rw [show lApp (absR R.A) ro s bs = absR R.A from by simp only [lApp, hn, if_true, if_pos hc]]; exact HS.up R⟩
      · have hc : ¬ (fT (absR R.A) (nb s) = none ∧ 16 ≤ (absR R.A).length) := fun hc => h16 (by omega)
        by_cases hf : ro < (sumT (absR R.A) : Int) + bs.length
        · refine (rappend_full_new h hb.planR hb.cnt (by omega) s hs va vc bs hv0 hvr hb63 h1 hi (by omega) (by omega) (by omega) (by omega) (by omega)).mono ?_
          rintro e w' ⟨rfl, hD, hF⟩
          rw [h2] at hD hF
          exact ⟨by simp only [eApp, hn, if_true, if_neg hc, if_pos hf], _, hD, hF, by rw [show lApp (absR R.A) ro s bs = absR R.A from by simp only [lApp, hn, if_true, if_neg hc, if_pos hf]]; exact HS.up R⟩
        · refine (rappend_ok_new h hb.planR hb.cnt (by omega) s hs va vc bs hv0 hvr hb63 h1 hi (by omega) (by omega) (by omega)).mono ?_
          rintro e w' ⟨rfl, ov, bv, hD, hF, _⟩
          rw [h2] at hD hF
          refine ⟨by simp only [eApp, hn, if_true, if_neg hc, if_neg hf], _, hD, hF, rfl, rfl, rfl, rfl, rfl, ?_⟩
          show absR (putR { nm := s, bv := bv, bs := bs, sf := 0 } R.A) = _
          rw [putR_rec, absR_put _ _ hb.srt]
          unfold lApp
          rw [if_pos hn, if_neg hc, if_neg hf, hfn]
          rfl
    · obtain ⟨hf1, hf2⟩ := fT_absR_some hi hkf
      have hc : ¬ (fT (absR R.A) (nb s) = none ∧ 16 ≤ (absR R.A).length) := fun hc => by rw [hf1] at hc; cases hc.1
      by_cases hf : ro < (sumT (absR R.A) : Int) + bs.length
      · refine (rappend_full_old h hb.planR hb.cnt (by omega) s hs va vc bs hv0 hvr hb63 h1 hi hkf (by omega) (by omega) (by omega) (by omega)).mono ?_
        rintro e w' ⟨rfl, hD, hF⟩
        rw [h2] at hD hF
        exact ⟨by simp only [eApp, hn, if_true, if_neg hc, if_pos hf], _, hD, hF, by rw [show lApp (absR R.A) ro s bs = absR R.A from by simp only [lApp, hn, if_true, if_neg hc, if_pos hf]]; exact HS.up R⟩
      · refine (rappend_ok_old h hb.planR hb.cnt (by omega) s hs va vc bs hv0 hvr hb63 h1 hi hkf (by omega) (by omega)).mono ?_
        rintro e w' ⟨rfl, ov, bv, hD, hF, _⟩
        rw [h2] at hD hF
        refine ⟨by simp only [eApp, hn, if_true, if_neg hc, if_neg hf], _, hD, hF, rfl, rfl, rfl, rfl, rfl, ?_⟩
        show absR (putR { f with bv := bv, bs := f.bs ++ bs } R.A) = _
        rw [putR_rec, absR_put _ _ hb.srt]
        unfold lApp
        rw [if_pos hn, if_neg hc, if_neg hf, hf1]
        have e1 : tR { f with bv := bv, bs := f.bs ++ bs } = (nb s, f.bs ++ bs, f.sf) := by unfold tR; rw [hf2]
        rw [e1]
        have hm := fT_mem hf1
        exact putT_here hb.srt ⟨_, hm.1, hm.2⟩
end Go.Proofs.YtoplejbmgpgkhaaGreatDoor
namespace Go.Proofs.YtoplejbmgpgkhaaGreatDoor
open Go.RowKit Go.Maps Go.Joins
set_option linter.unusedSimpArgs false
set_option linter.unusedVariables false
/-- The kind of a plan's fault at a step. -/
def pK (l : List (Int × Int)) (x : Int) : Int := match l.find? (fun p => p.1 == x) with
  | some p => p.2
  | none => 0
/-- Both disks, side by side. -/
structure Tw (w : World) (bd br : Nat) (S : DS) (R : RS) (ro : Int) : Prop where
  disk : DiskIs w bd S
  gb : GB S ro
  ref : RefIs w br R
  hb : HB R ro
  same : absP S = absR R.A
  apart : ∀ b, R.own b ≠ 0 → S.role b = .none
  down : S.down = R.down
  steps : S.steps = R.n
  armed : S.armed = R.frm
  plan : ∀ x, 1 ≤ x → S.plan x = pK R.plan x
theorem Tw.below {w w' : World} {bd br : Nat} {S : DS} {R : RS} {ro : Int} (h : Tw w bd br S R ro) (hb : Below w.heap.size w w') : Tw w' bd br S R ro :=
  ⟨h.disk.below hb, h.gb, h.ref.below hb, h.hb, h.same, h.apart, h.down, h.steps, h.armed, h.plan⟩
theorem Tw.kind {w : World} {bd br : Nat} {S : DS} {R : RS} {ro : Int} (h : Tw w bd br S R ro) : stK S = rplK R := by
  have hc := h.gb.cnt
  unfold Cnt at hc
  unfold stK
  rw [h.plan _ (by omega), h.steps, h.armed]
  rfl
theorem Tw.stepE {w : World} {bd br : Nat} {S : DS} {R : RS} {ro : Int} (h : Tw w bd br S R ro) {ns : List ByteArray} {a b : ByteArray} (hn : okN ns = (nameB a && nameB b)) : rstE R a b = stepE S ns := by
  unfold rstE Proofs.YtoplejbmgpgkhaaGreatDoor.stepE
  rw [h.kind, hn, h.down]
theorem Tw.stepD {w : World} {bd br : Nat} {S : DS} {R : RS} {ro : Int} (h : Tw w bd br S R ro) {ns : List ByteArray} {a b : ByteArray} (hn : okN ns = (nameB a && nameB b)) : (rstS R a b).down = (stepS S ns).down ∧ (rstS R a b).n = (stepS S ns).steps := by
  have hk := h.kind
  have hd := h.down
  have hs := h.steps
  unfold rstS stepS
  rw [hn, hk, hd]
  cases hR : R.down
  · cases hN : (nameB a && nameB b)
    · exact ⟨by simp [hR, hd], by simp [hs]⟩
    · exact ⟨by simp, by simp [hs]⟩
  · exact ⟨by simp [hR, hd], by simp [hs]⟩
theorem stepS_le (S : DS) (ns : List ByteArray) : S.steps ≤ (stepS S ns).steps ∧ (stepS S ns).steps ≤ S.steps + 1 := by
  unfold stepS
  split
  · exact ⟨by omega, by omega⟩
  · split
    · exact ⟨by show S.steps ≤ S.steps + 1; omega, by show S.steps + 1 ≤ S.steps + 1; omega⟩
    · exact ⟨by omega, by omega⟩
theorem Tw.first {w w1 : World} {bd br : Nat} {S S' : DS} {R : RS} {ro : Int} (h : Tw w bd br S R ro) (hD : DiskIs w1 bd S') (hF : Fr w w1 S S') : Mid w w1 bd br S S' R :=
  ⟨hD, h.ref.kept (fun b hb => hF.block b (h.ref.own_lt hb) (h.apart b hb)) hF.size, fun b hb => hF.role b (h.ref.own_lt hb) (h.apart b hb),
   ⟨hF.os, hF.tape, hF.output, hF.size, fun b hb h1 _ => hF.block b hb h1, fun b hb h1 h2 => ⟨hF.role b hb h1, h2⟩⟩⟩
theorem Tw.next {w w2 : World} {bd br : Nat} {S S' : DS} {R R' : RS} {ro : Int} {l : List Tf} {ns : List ByteArray} {a b : ByteArray} (hn : okN ns = (nameB a && nameB b)) (h : Tw w bd br S R ro) (hD : DiskIs w2 bd S') (hR : RefIs w2 br R') (hap : ∀ b, R'.own b ≠ 0 → S'.role b = .none) (hp : GS S S' (stepS S ns).down (stepS S ns).steps l) (hr : HS R R' (rstS R a b).down (rstS R a b).n l) (hw : Wf l ro) (hst : S.steps < 4611686018427387903) : Tw w2 bd br S' R' ro := by
  have hc := h.gb.cnt
  unfold Cnt at hc
  have h1 := stepS_le S ns
  have h2 := h.stepD hn
  have hs := h.steps
  have ha := h.armed
  refine ⟨hD, ⟨?_, hp.room.trans h.gb.rm, h.gb.r0, by rw [hp.abs]; exact hw⟩, hR, ⟨⟨?_, ?_, ?_⟩, ?_, hr.room.trans h.hb.rm, h.gb.r0, by rw [hr.abs]; exact hw, ?_⟩, by rw [hp.abs, hr.abs], hap, by rw [hp.down, hr.down, h2.1], by rw [hp.steps, hr.n, h2.2], by rw [hp.armed, hr.frm]; exact ha, fun x hx => by rw [hp.plan, hr.plan]; exact h.plan x hx⟩
  · unfold Cnt
    rw [hp.armed, hp.steps]
    omega
  · rw [hr.plan]; exact h.hb.planR.len
  · rw [hr.plan]; exact h.hb.planR.kind
  · intro _
    rw [hr.frm, hr.n, h2.2, ← ha]
    omega
  · unfold Rn
    rw [hr.n, h2.2]
    omega
  · rw [hr.abs, ← hp.abs]
    exact hD.srt
end Go.Proofs.YtoplejbmgpgkhaaGreatDoor
namespace Go.Proofs.YtoplejbmgpgkhaaGreatDoor
open Go.RowKit Go.Maps Go.Joins
set_option linter.unusedSimpArgs false
set_option linter.unusedVariables false
/-- Faults that lie in memory. -/
def FltV (w : World) (va : Option Addr) (ps : List (Int × Int)) : Prop := ∀ (j : Nat) (p : Int × Int), ps[j]? = some p → ∃ b o, va = some ⟨b, o, none⟩ ∧ w.cell? ⟨b, o + j * 2, none⟩ = some (.int .i64 p.1) ∧ w.cell? ⟨b, o + j * 2 + 1, none⟩ = some (.int .i64 p.2)
theorem FltV.below {w w' : World} {va : Option Addr} {ps : List (Int × Int)} (h : FltV w va ps) (hb : Below w.heap.size w w') : FltV w' va ps := fun j p hj => by
  obtain ⟨b, o, e, h1, h2⟩ := h j p hj
  exact ⟨b, o, e, (hb.cell (p := ⟨b, o + j * 2, none⟩) (cell_lt h1)).trans h1, (hb.cell (p := ⟨b, o + j * 2 + 1, none⟩) (cell_lt h2)).trans h2⟩
end Go.Proofs.YtoplejbmgpgkhaaGreatDoor
namespace Go.Proofs.YtoplejbmgpgkhaaGreatDoor
open Go.RowKit Go.Maps Go.Joins
set_option linter.unusedSimpArgs false
set_option linter.unusedVariables false
def hasP (l : List (Int × Int)) (x : Int) : Bool := l.any (fun p => p.1 == x)
/-- The program's map of a plan. -/
structure PlD (D : DataW Unit) (l : List (Int × Int)) : Prop where
  map : IsMap D
  kind : ∀ x, D.atKey (.int .i64 x) (.lit (.int .i64 0)) = .lit (.int .i64 (pK l x))
  has : ∀ x, Maps.has D (.int .i64 x) = hasP l x
theorem PlD.nil : PlD (.map []) [] := ⟨isMap_empty, fun _ => rfl, fun _ => rfl⟩
theorem pK_snoc {l : List (Int × Int)} {p : Int × Int} (h : hasP l p.1 = false) (x : Int) : pK (l ++ [p]) x = if x = p.1 then p.2 else pK l x := by
  unfold pK
  rw [List.find?_append]
  by_cases e : x = p.1
  · subst e
    have : l.find? (fun q => q.1 == p.1) = none := by
      rw [List.find?_eq_none]
      intro q hq
      unfold hasP at h
      rw [List.any_eq_false] at h
      simpa using h q hq
    rw [this]
    simp
  · rw [if_neg e]
    have : [p].find? (fun q => q.1 == x) = none := by
      rw [List.find?_eq_none]
      intro q hq
      simp at hq
      subst hq
      simpa using fun h => e h.symm
    rw [this, Option.or_none]
theorem PlD.put {D : DataW Unit} {l : List (Int × Int)} (h : PlD D l) {p : Int × Int} (hn : hasP l p.1 = false) : PlD (D.put (.int .i64 p.1) (.lit (.int .i64 p.2))) (l ++ [p]) := by
  have hk : WideAt.IsKeyLit (.int .i64 p.1) := trivial
  refine ⟨(?_ : IsMap _), fun x => ?_, fun x => ?_⟩
  · obtain ⟨es, rfl⟩ := h.map
    exact ⟨_, rfl⟩
  · rw [pK_snoc hn]
    by_cases e : x = p.1
    · subst e
      rw [atKey_put_same h.map hk, if_pos rfl]
    · rw [atKey_put_other (fun hc => e (by injection hc)), h.kind, if_neg e]
  · unfold hasP
    rw [List.any_append]
    by_cases e : x = p.1
    · subst e
      rw [has_put_same h.map hk]
      simp
    · rw [has_put_other (fun hc => e (by injection hc)), h.has]
      have : [p].any (fun q => q.1 == x) = false := by simpa using fun h => e h.symm
      rw [this, Bool.or_false]
      rfl
end Go.Proofs.YtoplejbmgpgkhaaGreatDoor
namespace Go.Proofs.YtoplejbmgpgkhaaGreatDoor
open Go.RowKit Go.Maps Go.Joins
set_option linter.unusedSimpArgs false
set_option linter.unusedVariables false
theorem FltV.fr {w w' : World} {S S' : DS} {va : Option Addr} {ps : List (Int × Int)} (h : FltV w va ps) (hr : ∀ b o, va = some ⟨b, o, none⟩ → ps ≠ [] → S.role b = .none) (hF : Fr w w' S S') : FltV w' va ps := by
  intro j p hj
  obtain ⟨b, o, rfl, h0, h1⟩ := h j p hj
  have hne : ps ≠ [] := by rintro rfl; simp at hj
  have hb := hF.block b (cell_lt h0) (hr b o rfl hne)
  exact ⟨b, o, rfl, (World.cell?_of_block (a := ⟨b, o + j * 2, none⟩) hb).trans h0, (World.cell?_of_block (a := ⟨b, o + j * 2 + 1, none⟩) hb).trans h1⟩
end Go.Proofs.YtoplejbmgpgkhaaGreatDoor
namespace Go.Proofs.YtoplejbmgpgkhaaGreatDoor
open Go.RowKit Go.Maps Go.Joins
set_option linter.unusedSimpArgs false
set_option linter.unusedVariables false
/-- One file of the list is another, with bytes in a block of their own. -/
def setB (R : RS) (k : Nat) (f' : RF) (z : Nat) : RS := { R with A := R.A.set k f', own := fun b => if z ≤ b ∧ f'.bv.ownBlock = some b then 3 else R.own b }
end Go.Proofs.YtoplejbmgpgkhaaGreatDoor
namespace Go.Proofs.YtoplejbmgpgkhaaGreatDoor
open Go.RowKit Go.Maps Go.Joins
set_option linter.unusedSimpArgs false
set_option linter.unusedVariables false
theorem GS.same (S : DS) : GS S S S.down S.steps (absP S) := ⟨rfl, rfl, rfl, rfl, rfl, rfl⟩
theorem HS.same (R : RS) : HS R R R.down R.n (absR R.A) := ⟨rfl, rfl, rfl, rfl, rfl, rfl⟩
end Go.Proofs.YtoplejbmgpgkhaaGreatDoor
