/- PC, PE -/
import Derived.Test.YtconkienlcegaaaGreatDoorGWE
namespace Go.Proofs.YtconkienlcegaaaGreatDoor
open Go.RowKit Go.Maps Go.Joins
set_option linter.unusedSimpArgs false
set_option linter.unusedVariables false
def gI (c x : Int) : Int := if c = 0 then x else c
def gL (c : Int) (l l' : List Tf) : List Tf := if c = 0 then l' else l
theorem gI0 {c x : Int} (h : c = 0) : gI c x = x := if_pos h
theorem gI1 {c x : Int} (h : ¬ c = 0) : gI c x = c := if_neg h
theorem gL0 {c : Int} {l l' : List Tf} (h : c = 0) : gL c l l' = l' := if_pos h
theorem gL1 {c : Int} {l l' : List Tf} (h : ¬ c = 0) : gL c l l' = l := if_neg h
structure GB (S : DS) (ro : Int) : Prop where
 cnt : Cnt S
 rm : S.room = ro
 r0 : 0 ≤ ro ∧ ro ≤ 1073741824
 wf : Wf (absP S) ro
structure GS (S S' : DS) (dn : Bool) (st : Int) (l : List Tf) : Prop where
 room : S'.room = S.room
 down : S'.down = dn
 armed : S'.armed = S.armed
 plan : S'.plan = S.plan
 steps : S'.steps = st
 abs : absP S' = l
theorem st_name {S : DS} {ns : List ByteArray} (h : stepE S ns = 0) : okN ns = true := by
 unfold stepE at h; split at h
 · omega
 · split at h
   · assumption
   · omega
theorem st_zero {S : DS} {ns : List ByteArray} (h : stepE S ns = 0) : stepS S ns = { S with down := false, steps := S.steps + 1 } := by
 have hn := st_name h; unfold stepE at h; unfold stepS; split at h
 · omega
 · rename_i hd
   rw [if_neg hd, if_pos hn]; try rw [if_pos hn] at h
   have : decide (stK S = 3) = false := by
    simp only [decide_eq_false_iff_not]; intro e; rw [e] at h; simp [faultE] at h
   rw [this]
theorem GS.up (S : DS) : GS S { S with down := false, steps := S.steps + 1 } false (S.steps + 1) (absP S) := ⟨rfl, rfl, rfl, rfl, rfl, rfl⟩
theorem GS.st (S : DS) (ns : List ByteArray) : GS S (stepS S ns) (stepS S ns).down (stepS S ns).steps (absP S) := by
 obtain ⟨h1, h2, h3, h4, h5⟩ := stepS_fields S ns; refine ⟨h1, rfl, ?_, ?_, rfl, by unfold absP; rw [h3, h4]⟩
 · unfold stepS; split <;> (try rfl); split <;> rfl
 · unfold stepS; split <;> (try rfl); split <;> rfl
theorem g_sync {w : World} {bd : Nat} {S : DS} {room : Int} (h : DiskIs w bd S) (hb : GB S room) (s : ByteArray) (hs : s.size ≤ 9223372036854775807) :
 Calls Tryz.prog 117 #[.pointer (some ⟨bd, 0, none⟩), .string s] w fun e w' => e = .returned (.int .i64 (gI (stepE S [s]) (eFind (absP S) s))) ∧ ∃ S', DiskIs w' bd S' ∧ Fr w w' S S' ∧ GS S S' (stepS S [s]).down (stepS S [s]).steps (gL (stepE S [s]) (absP S) (lSync (absP S) s)) := by
 by_cases h1 : stepE S [s] = 0
 case neg =>
  rw [gI1 h1, gL1 h1]; have hf : findV S [s] = none := by simp [findV, h1]
  refine (sync_no h hb.cnt s hs hf).mono ?_; rintro e w' ⟨rfl, hD, hF⟩; exact ⟨by simp [findE, h1, eFind], _, hD, hF, GS.st S _⟩
 case pos =>
  have hn : nameB s = true := by rw [← okN1]; exact st_name h1
  have h2 := st_zero h1; rw [gI0 h1, gL0 h1, h2]; have hv : findV S [s] = look S.fs (nb s) := findV1 h1; cases hl : look S.fs (nb s) with
  | none =>
    rw [hl] at hv; refine (sync_no h hb.cnt s hs hv).mono ?_; rintro e w' ⟨rfl, hD, hF⟩; rw [h2] at hD hF; exact ⟨by simp [findE, h1, hv, eFind, hn, fT_none hl], _, hD, hF, by rw [show lSync (absP S) s = absP S from by simp [lSync, hn, fT_none hl]]; exact GS.up S⟩
  | some g =>
    rw [hl] at hv; have hlen : ∀ p ∈ S.fs, (S.fl p.1).bs.length ≤ 1073741824 := fun p hp => by
     have h3 := (del_here (n := p.1) (p := ((p.1, (S.fl p.1).bs, (S.fl p.1).safe) : Tf)) rfl (l := absP S) (List.mem_map_of_mem (f := fun p => ((p.1, (S.fl p.1).bs, (S.fl p.1).safe) : Tf)) hp)).2; have h4 := hb.wf.sum; have h5 := hb.r0; simp only at h3; omega
    refine (sync_ok h hb.cnt s hs hv hlen).mono ?_; rintro e w' ⟨rfl, z, hD, hF⟩; rw [h2] at hD hF; refine ⟨by simp [eFind, hn, fT_some hl], _, hD, hF, rfl, rfl, rfl, rfl, rfl, ?_⟩; rw [absP_set]; simp only [lSync, hn, fT_some hl, if_true]; rfl
theorem g_trunc {w : World} {bd : Nat} {S : DS} {room : Int} (h : DiskIs w bd S) (hb : GB S room) (s : ByteArray) (hs : s.size ≤ 9223372036854775807) (x : Int) :
 Calls Tryz.prog 110 #[.pointer (some ⟨bd, 0, none⟩), .string s, .int .i64 x] w fun e w' => e = .returned (.int .i64 (gI (stepE S [s]) (eTru (absP S) s x))) ∧ ∃ S', DiskIs w' bd S' ∧ Fr w w' S S' ∧ GS S S' (stepS S [s]).down (stepS S [s]).steps (gL (stepE S [s]) (absP S) (lTru (absP S) s x)) := by
 by_cases h1 : stepE S [s] = 0
 case neg =>
  rw [gI1 h1, gL1 h1]; have hf : findV S [s] = none := by simp [findV, h1]
  refine (trunc_no h hb.cnt s hs x hf).mono ?_; rintro e w' ⟨rfl, hD, hF⟩; exact ⟨by simp [findE, h1, eTru], _, hD, hF, GS.st S _⟩
 case pos =>
  have hn : nameB s = true := by rw [← okN1]; exact st_name h1
  have h2 := st_zero h1; rw [gI0 h1, gL0 h1, h2]; have hv : findV S [s] = look S.fs (nb s) := findV1 h1; cases hl : look S.fs (nb s) with
  | none =>
    rw [hl] at hv; refine (trunc_no h hb.cnt s hs x hv).mono ?_; rintro e w' ⟨rfl, hD, hF⟩; rw [h2] at hD hF; exact ⟨by simp [findE, h1, hv, eTru, hn, fT_none hl], _, hD, hF, by rw [show lTru (absP S) s x = absP S from by simp [lTru, hn, fT_none hl]]; exact GS.up S⟩
  | some g =>
    rw [hl] at hv; have hLL : ((stepS S [s]).fl s.data.toList).bs = (S.fl (nb s)).bs := by rw [h2]
    by_cases hx : x < 0 ∨ ((S.fl (nb s)).bs.length : Int) < x
    · refine (trunc_arg h hb.cnt s hs x hv (by rw [hLL]; exact hx)).mono ?_
      rintro e w' ⟨rfl, hD, hF⟩; rw [h2] at hD hF; refine ⟨?_, _, hD, hF, ?_⟩
      · simp only [eTru, hn, fT_some hl, if_true, if_pos hx]
      · rw [show lTru (absP S) s x = absP S from by simp only [lTru, hn, fT_some hl, if_true, if_pos hx]]
        exact GS.up S
    · refine (trunc_ok h hb.cnt s hs x hv (by omega) (by rw [hLL]; omega)).mono ?_
      rintro e w' ⟨rfl, a, cap, z, hD, hF⟩; rw [h2] at hD hF; refine ⟨?_, _, hD, hF, rfl, rfl, rfl, rfl, rfl, ?_⟩
      · simp only [eTru, hn, fT_some hl, if_true, if_neg hx]
      · rw [absP_set]
        simp only [lTru, hn, fT_some hl, if_true, if_neg hx]; rfl
theorem g_append {w : World} {bd : Nat} {S : DS} {room : Int} (h : DiskIs w bd S) (hb : GB S room) (s : ByteArray) (hs : s.size ≤ 9223372036854775807) (va : Option Addr) (vc : Nat) (bs : List Int) (hv0 : BytesV w (.slice va bs.length vc) bs) (hvr : ∀ b, dBlock (.slice va bs.length vc) bs = some b → S.role b = .none) (hb63 : bs.length ≤ 4611686018427387904) :
 Calls Tryz.prog 35 #[.pointer (some ⟨bd, 0, none⟩), .string s, .slice va bs.length vc] w fun e w' => e = .returned (.int .i64 (gI (stepE S [s]) (eApp (absP S) room s bs))) ∧ ∃ S', DiskIs w' bd S' ∧ Fr w w' S S' ∧ GS S S' (stepS S [s]).down (stepS S [s]).steps (gL (stepE S [s]) (absP S) (lApp (absP S) room s bs)) := by
 have hrm := hb.rm; have hr0 := hb.r0; have hT := total_sumT S; have hsum := hb.wf.sum; have hlen : (absP S).length = S.fs.length := by unfold absP; rw [List.length_map]
 have hl16 := hb.wf.len; by_cases h1 : stepE S [s] = 0
 case neg =>
  rw [gI1 h1, gL1 h1]; refine (append_no h hb.cnt s hs _ h1).mono ?_; rintro e w' ⟨rfl, hD, hF⟩; exact ⟨by simp [h1, eApp], _, hD, hF, GS.st S _⟩
 case pos =>
  have hn : nameB s = true := by rw [← okN1]; exact st_name h1
  have h2 := st_zero h1; rw [gI0 h1, gL0 h1, h2]; cases hl : look S.fs (nb s) with
  | none =>
    have hfn := fT_none hl; by_cases h16 : 16 ≤ S.fs.length
    · refine (append_big h hb.cnt s hs _ h1 hl h16 (by omega)).mono ?_
      rintro e w' ⟨rfl, hD, hF⟩; rw [h2] at hD hF; have hc : fT (absP S) (nb s) = none ∧ 16 ≤ (absP S).length := ⟨hfn, by omega⟩
      exact ⟨by simp only [eApp, hn, if_true, if_pos hc], _, hD, hF, by rw [show lApp (absP S) room s bs = absP S from by simp only [lApp, hn, if_true, if_pos hc]]; exact GS.up S⟩
    · have hc : ¬ (fT (absP S) (nb s) = none ∧ 16 ≤ (absP S).length) := fun hc => h16 (by omega)
      by_cases hf : room < (sumT (absP S) : Int) + bs.length
      · refine (append_full_new h hb.cnt s hs va vc bs hb63 h1 hl (by omega) (by omega) (by omega) (by omega) (by omega)).mono ?_
        rintro e w' ⟨rfl, hD, hF⟩; rw [h2] at hD hF; exact ⟨by simp only [eApp, hn, if_true, if_neg hc, if_pos hf], _, hD, hF, by rw [show lApp (absP S) room s bs = absP S from by simp only [lApp, hn, if_true, if_neg hc, if_pos hf]]; exact GS.up S⟩
      · refine (append_new h hb.cnt s hs _ bs hv0 hvr h1 hl (by omega) (by omega) (by omega)).mono ?_
        rintro e w' ⟨rfl, sl, gg, z, hD, hF⟩; rw [h2] at hD hF; refine ⟨by simp only [eApp, hn, if_true, if_neg hc, if_neg hf], _, hD, hF, rfl, rfl, rfl, rfl, rfl, ?_⟩; rw [show lApp (absP S) room s bs = putT (absP S) (nb s, bs, 0) from by unfold lApp; rw [if_pos hn, if_neg hc, if_neg hf, hfn]]; rw [absP_put { S with down := false, steps := S.steps + 1 } _ (nb s) gg S.fs rfl (fun m hm => if_neg hm)]; have e1 : ((addFl { S with down := false, steps := S.steps + 1 } s.data.toList gg { sl := sl, bs := bs, safe := 0 } z).fl (nb s)) = { sl := sl, bs := bs, safe := 0 } := if_pos rfl; rw [e1]; rfl
  | some g =>
    have hfs := fT_some hl; have hc : ¬ (fT (absP S) (nb s) = none ∧ 16 ≤ (absP S).length) := fun hc => by rw [hfs] at hc; cases hc.1
    have hle : (S.fl (nb s)).bs.length ≤ 1073741824 := by
     have h3 := (del_here (p := ((nb s, (S.fl (nb s)).bs, (S.fl (nb s)).safe) : Tf)) rfl (fT_mem hfs).1).2; simp only at h3; omega
    by_cases hf : room < (sumT (absP S) : Int) + bs.length
    · refine (append_full_old h hb.cnt s hs va vc bs hb63 h1 hl (by omega) (by omega) (by omega) (by omega)).mono ?_
      rintro e w' ⟨rfl, hD, hF⟩; rw [h2] at hD hF; exact ⟨by simp only [eApp, hn, if_true, if_neg hc, if_pos hf], _, hD, hF, by rw [show lApp (absP S) room s bs = absP S from by simp only [lApp, hn, if_true, if_neg hc, if_pos hf]]; exact GS.up S⟩
    · refine (append_old h hb.cnt s hs _ bs hv0 hvr h1 hl (by omega) (by omega) (by rw [h2]; exact hle)).mono ?_
      rintro e w' ⟨rfl, sl, z, hD, hF⟩; rw [h2] at hD hF; refine ⟨by simp only [eApp, hn, if_true, if_neg hc, if_neg hf], _, hD, hF, rfl, rfl, rfl, rfl, rfl, ?_⟩; rw [absP_set]; simp only [lApp, hn, if_true, if_neg hc, if_neg hf, hfs]; rfl
structure HB (R : RS) (ro : Int) : Prop where
 planR : PlanR R
 cnt : Rn R
 rm : R.room = ro
 r0 : 0 ≤ ro ∧ ro ≤ 1073741824
 wf : Wf (absR R.A) ro
 srt : Srt (absR R.A)
structure HS (R R' : RS) (dn : Bool) (n : Int) (l : List Tf) : Prop where
 room : R'.room = R.room
 down : R'.down = dn
 plan : R'.plan = R.plan
 frm : R'.frm = R.frm
 n : R'.n = n
 abs : absR R'.A = l
theorem HB.len {R : RS} {ro : Int} (h : HB R ro) : R.A.length ≤ 16 := by
 have := h.wf.len; unfold absR at this; rw [List.length_map] at this; exact this
theorem rs_name {R : RS} {a b : ByteArray} (h : rstE R a b = 0) : (nameB a && nameB b) = true := by
 unfold rstE at h; split at h
 · omega
 · split at h
   · assumption
   · omega
theorem rs_zero {R : RS} {a b : ByteArray} (h : rstE R a b = 0) : rstS R a b = { R with n := R.n + 1, down := false } := by
 have hn := rs_name h; unfold rstE at h; unfold rstS; split at h
 · omega
 · rename_i hd
   rw [if_neg hd, if_pos hn]; try rw [if_pos hn] at h
   have : decide (rplK R = 3) = false := by
    simp only [decide_eq_false_iff_not]; intro e; rw [e] at h; simp [faultE] at h
   rw [this]
theorem HS.up (R : RS) : HS R { R with n := R.n + 1, down := false } false (R.n + 1) (absR R.A) := ⟨rfl, rfl, rfl, rfl, rfl, rfl⟩
theorem HS.st (R : RS) (a b : ByteArray) : HS R (rstS R a b) (rstS R a b).down (rstS R a b).n (absR R.A) := by
 unfold rstS; split
 · exact ⟨rfl, rfl, rfl, rfl, rfl, rfl⟩
 · split <;> exact ⟨rfl, rfl, rfl, rfl, rfl, rfl⟩
theorem rthn {R : RS} {a b : ByteArray} (h : ¬ rstE R a b = 0) : rthE R a b = rstE R a b := if_neg h
theorem rthg {R : RS} {a b : ByteArray} (h : rstE R a b = 0) (hi : idxR a R.A = -1) : rthE R a b = 33 := by
 unfold rthE; rw [h, hi]; rfl
theorem rthh {R : RS} {a b : ByteArray} (h : rstE R a b = 0) {k : Nat} (hi : idxR a R.A = (k : Nat)) : rthE R a b = 0 := by
 unfold rthE; rw [h, hi]; simp
theorem h_trunc {w : World} {br : Nat} {R : RS} {ro : Int} (h : RefIs w br R) (hb : HB R ro) (s : ByteArray) (hs : s.size ≤ 9223372036854775807) (x : Int) :
 Calls Tryz.prog 82 #[.pointer (some ⟨br, 0, none⟩), .string s, .int .i64 x] w fun e w' => e = .returned (.int .i64 (gI (rstE R s s) (eTru (absR R.A) s x))) ∧ ∃ R', RefIs w' br R' ∧ RFr w w' R R' ∧ HS R R' (rstS R s s).down (rstS R s s).n (gL (rstE R s s) (absR R.A) (lTru (absR R.A) s x)) := by
 have hl := hb.len; by_cases h1 : rstE R s s = 0
 case neg =>
  rw [gI1 h1, gL1 h1]; refine (rtrunc_no h hb.planR hb.cnt (by omega) s hs x (by rw [rthn h1]; exact h1)).mono ?_; rintro e w' ⟨rfl, hD, hF⟩; exact ⟨by rw [rthn h1], _, hD, hF, HS.st R _ _⟩
 case pos =>
  have hnn := rs_name h1; have hn : nameB s = true := by rw [← nn]; exact hnn
  have h2 := rs_zero h1; rw [gI0 h1, gL0 h1, h2]; rcases idx_cases s R.A with hi | ⟨k, f, hi, hkf⟩
  · refine (rtrunc_no h hb.planR hb.cnt (by omega) s hs x (by rw [rthg h1 hi]; simp)).mono ?_
    rintro e w' ⟨rfl, hD, hF⟩; rw [h2] at hD hF; exact ⟨by rw [rthg h1 hi]; simp [eTru, hn, fT_absR_none hi], _, hD, hF, by rw [show lTru (absR R.A) s x = absR R.A from by simp [lTru, hn, fT_absR_none hi]]; exact HS.up R⟩
  · obtain ⟨hf1, hf2⟩ := fT_absR_some hi hkf
    by_cases hx : x < 0 ∨ (f.bs.length : Int) < x
    · refine (rtrunc_arg h hb.planR hb.cnt (by omega) s hs x (rthh h1 hi) hi hkf hx).mono ?_
      rintro e w' ⟨rfl, hD, hF⟩; rw [h2] at hD hF; have hx' : x < 0 ∨ ((tR f).2.1.length : Int) < x := hx; refine ⟨by simp only [eTru, hn, hf1, if_true, if_pos hx'], _, hD, hF, ?_⟩; rw [show lTru (absR R.A) s x = absR R.A from by simp only [lTru, hn, hf1, if_true, if_pos hx']]; exact HS.up R
    · refine (rtrunc_ok h hb.planR hb.cnt (by omega) s hs x (rthh h1 hi) hi hkf (by omega) (by omega)).mono ?_
      rintro e w' ⟨rfl, ba, bc, hD, hF⟩; rw [h2] at hD hF; have hx' : ¬ (x < 0 ∨ ((tR f).2.1.length : Int) < x) := hx; refine ⟨by simp only [eTru, hn, hf1, if_true, if_neg hx'], _, hD, hF, rfl, rfl, rfl, rfl, rfl, ?_⟩; show absR (R.A.set k { f with bv := .slice ba x.toNat bc, bs := f.bs.take x.toNat, sf := x }) = _; rw [absR_set hb.srt hkf hf2 (f' := { f with bv := .slice ba x.toNat bc, bs := f.bs.take x.toNat, sf := x }) hf2]; simp only [lTru, hn, hf1, if_true, if_neg hx']; rfl
theorem h_append {w : World} {br : Nat} {R : RS} {ro : Int} (h : RefIs w br R) (hb : HB R ro) (s : ByteArray) (hs : s.size ≤ 9223372036854775807) (va : Option Addr) (vc : Nat) (bs : List Int) (hv0 : BytesV w (.slice va bs.length vc) bs) (hvr : ∀ b, dBlock (.slice va bs.length vc) bs = some b → R.own b = 0) (hb63 : bs.length ≤ 4611686018427387904) :
 Calls Tryz.prog 37 #[.pointer (some ⟨br, 0, none⟩), .string s, .slice va bs.length vc] w fun e w' => e = .returned (.int .i64 (gI (rstE R s s) (eApp (absR R.A) ro s bs))) ∧ ∃ R', RefIs w' br R' ∧ RFr w w' R R' ∧ HS R R' (rstS R s s).down (rstS R s s).n (gL (rstE R s s) (absR R.A) (lApp (absR R.A) ro s bs)) := by
 have hl := hb.len; have hrm := hb.rm; have hr0 := hb.r0; have hT := sumA_sumT R.A; have hsum := hb.wf.sum; have hlen : (absR R.A).length = R.A.length := by unfold absR; rw [List.length_map]
 by_cases h1 : rstE R s s = 0
 case neg =>
  rw [gI1 h1, gL1 h1]; refine (rappend_no h hb.planR hb.cnt s hs _ h1).mono ?_; rintro e w' ⟨rfl, hD, hF⟩; exact ⟨rfl, _, hD, hF, HS.st R _ _⟩
 case pos =>
  have hnn := rs_name h1; have hn : nameB s = true := by rw [← nn]; exact hnn
  have h2 := rs_zero h1; rw [gI0 h1, gL0 h1, h2]; rcases idx_cases s R.A with hi | ⟨k, f, hi, hkf⟩
  · have hfn := fT_absR_none hi
    by_cases h16 : 16 ≤ R.A.length
    · refine (rappend_big h hb.planR hb.cnt (by omega) s hs va vc bs hv0 hvr hb63 h1 hi h16).mono ?_
      rintro e w' ⟨rfl, hD, hF⟩; rw [h2] at hD hF; have hc : fT (absR R.A) (nb s) = none ∧ 16 ≤ (absR R.A).length := ⟨hfn, by omega⟩
      exact ⟨by simp only [eApp, hn, if_true, if_pos hc], _, hD, hF, by rw [show lApp (absR R.A) ro s bs = absR R.A from by simp only [lApp, hn, if_true, if_pos hc]]; exact HS.up R⟩
    · have hc : ¬ (fT (absR R.A) (nb s) = none ∧ 16 ≤ (absR R.A).length) := fun hc => h16 (by omega)
      by_cases hf : ro < (sumT (absR R.A) : Int) + bs.length
      · refine (rappend_full_new h hb.planR hb.cnt (by omega) s hs va vc bs hv0 hvr hb63 h1 hi (by omega) (by omega) (by omega) (by omega) (by omega)).mono ?_
        rintro e w' ⟨rfl, hD, hF⟩; rw [h2] at hD hF; exact ⟨by simp only [eApp, hn, if_true, if_neg hc, if_pos hf], _, hD, hF, by rw [show lApp (absR R.A) ro s bs = absR R.A from by simp only [lApp, hn, if_true, if_neg hc, if_pos hf]]; exact HS.up R⟩
      · refine (rappend_ok_new h hb.planR hb.cnt (by omega) s hs va vc bs hv0 hvr hb63 h1 hi (by omega) (by omega) (by omega)).mono ?_
        rintro e w' ⟨rfl, ov, bv, hD, hF, _⟩; rw [h2] at hD hF; refine ⟨by simp only [eApp, hn, if_true, if_neg hc, if_neg hf], _, hD, hF, rfl, rfl, rfl, rfl, rfl, ?_⟩; show absR (putR { nm := s, bv := bv, bs := bs, sf := 0 } R.A) = _; rw [putR_rec, absR_put _ _ hb.srt]; unfold lApp; rw [if_pos hn, if_neg hc, if_neg hf, hfn]; rfl
  · obtain ⟨hf1, hf2⟩ := fT_absR_some hi hkf
    have hc : ¬ (fT (absR R.A) (nb s) = none ∧ 16 ≤ (absR R.A).length) := fun hc => by rw [hf1] at hc; cases hc.1
    by_cases hf : ro < (sumT (absR R.A) : Int) + bs.length
    · refine (rappend_full_old h hb.planR hb.cnt (by omega) s hs va vc bs hv0 hvr hb63 h1 hi hkf (by omega) (by omega) (by omega) (by omega)).mono ?_
      rintro e w' ⟨rfl, hD, hF⟩; rw [h2] at hD hF; exact ⟨by simp only [eApp, hn, if_true, if_neg hc, if_pos hf], _, hD, hF, by rw [show lApp (absR R.A) ro s bs = absR R.A from by simp only [lApp, hn, if_true, if_neg hc, if_pos hf]]; exact HS.up R⟩
    · refine (rappend_ok_old h hb.planR hb.cnt (by omega) s hs va vc bs hv0 hvr hb63 h1 hi hkf (by omega) (by omega)).mono ?_
      rintro e w' ⟨rfl, ov, bv, hD, hF, _⟩; rw [h2] at hD hF; refine ⟨by simp only [eApp, hn, if_true, if_neg hc, if_neg hf], _, hD, hF, rfl, rfl, rfl, rfl, rfl, ?_⟩; show absR (putR { f with bv := bv, bs := f.bs ++ bs } R.A) = _; rw [putR_rec, absR_put _ _ hb.srt]; unfold lApp; rw [if_pos hn, if_neg hc, if_neg hf, hf1]; have e1 : tR { f with bv := bv, bs := f.bs ++ bs } = (nb s, f.bs ++ bs, f.sf) := by unfold tR; rw [hf2]
      rw [e1]; have hm := fT_mem hf1; exact putT_here hb.srt ⟨_, hm.1, hm.2⟩
end Go.Proofs.YtconkienlcegaaaGreatDoor
