/- PC, PE, PF, PR, PS, PT -/
import Derived.Test.YtconkienlcegaaaGreatDoorGWF
import Derived.Test.YtconkienlcegaaaGreatDoorGCA
import Derived.BigQuiet
import Derived.Deep.AppendLies
namespace Go.Proofs.YtconkienlcegaaaGreatDoor
open Go.RowKit Go.Maps Go.Joins
set_option linter.unusedSimpArgs false
set_option linter.unusedVariables false
def gI (c x : Int) : Int := if c = 0 then x else c
def gL (c : Int) (l l' : List Tf) : List Tf := if c = 0 then l' else l
theorem gI0 {c x : Int} (h : c = 0) : gI c x = x := if_pos h
theorem gI1 {c x : Int} (h : ¬ c = 0) : gI c x = c := if_neg h
theorem gL0 {c : Int} {l l' : List Tf} (h : c = 0) : gL c l l' = l' := if_pos h
theorem gL1 {c : Int} {l l' : List Tf} (h : ¬ c = 0) : gL c l l' = l := if_neg h
structure GB (S : DS) (ro : Int) : Prop where
 cnt : Cnt S
 rm : S.room = ro
 r0 : 0 ≤ ro ∧ ro ≤ 1073741824
 wf : Wf (absP S) ro
structure GS (S S' : DS) (dn : Bool) (st : Int) (l : List Tf) : Prop where
 room : S'.room = S.room
 down : S'.down = dn
 armed : S'.armed = S.armed
 plan : S'.plan = S.plan
 steps : S'.steps = st
 abs : absP S' = l
theorem st_name {S : DS} {ns : List ByteArray} (h : stepE S ns = 0) : okN ns = true := by
 unfold stepE at h; split at h
 · omega
 · split at h
   · assumption
   · omega
theorem st_zero {S : DS} {ns : List ByteArray} (h : stepE S ns = 0) : stepS S ns = { S with down := false, steps := S.steps + 1 } := by
 have hn := st_name h; unfold stepE at h; unfold stepS; split at h
 · omega
 · rename_i hd
   rw [if_neg hd, if_pos hn]; try rw [if_pos hn] at h
   have : decide (stK S = 3) = false := by
    simp only [decide_eq_false_iff_not]; intro e; rw [e] at h; simp [faultE] at h
   rw [this]
theorem GS.up (S : DS) : GS S { S with down := false, steps := S.steps + 1 } false (S.steps + 1) (absP S) := ⟨rfl, rfl, rfl, rfl, rfl, rfl⟩
theorem GS.st (S : DS) (ns : List ByteArray) : GS S (stepS S ns) (stepS S ns).down (stepS S ns).steps (absP S) := by
 obtain ⟨h1, h2, h3, h4, h5⟩ := stepS_fields S ns; refine ⟨h1, rfl, ?_, ?_, rfl, by unfold absP; rw [h3, h4]⟩
 · unfold stepS; split <;> (try rfl); split <;> rfl
 · unfold stepS; split <;> (try rfl); split <;> rfl
/-- Sync -/
theorem g_sync {w : World} {bd : Nat} {S : DS} {room : Int} (h : DiskIs w bd S) (hb : GB S room) (s : ByteArray) (hs : s.size ≤ 9223372036854775807) :
 Calls Tryz.prog 117 #[.pointer (some ⟨bd, 0, none⟩), .string s] w fun e w' => e = .returned (.int .i64 (gI (stepE S [s]) (eFind (absP S) s))) ∧ ∃ S', DiskIs w' bd S' ∧ Fr w w' S S' ∧ GS S S' (stepS S [s]).down (stepS S [s]).steps (gL (stepE S [s]) (absP S) (lSync (absP S) s)) := by
 by_cases h1 : stepE S [s] = 0
 case neg =>
  rw [gI1 h1, gL1 h1]; have hf : findV S [s] = none := by simp [findV, h1]
  refine (sync_no h hb.cnt s hs hf).mono ?_; rintro e w' ⟨rfl, hD, hF⟩; exact ⟨by simp [findE, h1, eFind], _, hD, hF, GS.st S _⟩
 case pos =>
  have hn : nameB s = true := by rw [← okN1]; exact st_name h1
  have h2 := st_zero h1; rw [gI0 h1, gL0 h1, h2]; have hv : findV S [s] = look S.fs (nb s) := findV1 h1; cases hl : look S.fs (nb s) with
  | none =>
    rw [hl] at hv; refine (sync_no h hb.cnt s hs hv).mono ?_; rintro e w' ⟨rfl, hD, hF⟩; rw [h2] at hD hF; exact ⟨by simp [findE, h1, hv, eFind, hn, fT_none hl], _, hD, hF, by rw [show lSync (absP S) s = absP S from by simp [lSync, hn, fT_none hl]]; exact GS.up S⟩
  | some g =>
    rw [hl] at hv; have hlen : ∀ p ∈ S.fs, (S.fl p.1).bs.length ≤ 1073741824 := fun p hp => by
     have h3 := (del_here (n := p.1) (p := ((p.1, (S.fl p.1).bs, (S.fl p.1).safe) : Tf)) rfl (l := absP S) (List.mem_map_of_mem (f := fun p => ((p.1, (S.fl p.1).bs, (S.fl p.1).safe) : Tf)) hp)).2; have h4 := hb.wf.sum; have h5 := hb.r0; simp only at h3; omega
    refine (sync_ok h hb.cnt s hs hv hlen).mono ?_; rintro e w' ⟨rfl, z, hD, hF⟩; rw [h2] at hD hF; refine ⟨by simp [eFind, hn, fT_some hl], _, hD, hF, rfl, rfl, rfl, rfl, rfl, ?_⟩; rw [absP_set]; simp only [lSync, hn, fT_some hl, if_true]; rfl
/-- Remove -/
theorem g_remove {w : World} {bd : Nat} {S : DS} {room : Int} (h : DiskIs w bd S) (hb : GB S room) (s : ByteArray) (hs : s.size ≤ 9223372036854775807) :
 Calls Tryz.prog 89 #[.pointer (some ⟨bd, 0, none⟩), .string s] w fun e w' => e = .returned (.int .i64 (gI (stepE S [s]) (eFind (absP S) s))) ∧ ∃ S', DiskIs w' bd S' ∧ Fr w w' S S' ∧ GS S S' (stepS S [s]).down (stepS S [s]).steps (gL (stepE S [s]) (absP S) (lRem (absP S) s)) := by
 by_cases h1 : stepE S [s] = 0
 case neg =>
  rw [gI1 h1, gL1 h1]; have hf : findV S [s] = none := by simp [findV, h1]
  refine (remove_no h hb.cnt s hs hf).mono ?_; rintro e w' ⟨rfl, hD, hF⟩; exact ⟨by simp [findE, h1, eFind], _, hD, hF, GS.st S _⟩
 case pos =>
  have hn : nameB s = true := by rw [← okN1]; exact st_name h1
  have h2 := st_zero h1; rw [gI0 h1, gL0 h1, h2]; have hv : findV S [s] = look S.fs (nb s) := findV1 h1; cases hl : look S.fs (nb s) with
  | none =>
    rw [hl] at hv; refine (remove_no h hb.cnt s hs hv).mono ?_; rintro e w' ⟨rfl, hD, hF⟩; rw [h2] at hD hF; exact ⟨by simp [findE, h1, hv, eFind, hn, fT_none hl], _, hD, hF, by rw [show lRem (absP S) s = absP S from by simp [lRem, hn, fT_none hl]]; exact GS.up S⟩
  | some g =>
    rw [hl] at hv; refine (remove_ok h hb.cnt s hs hv).mono ?_; rintro e w' ⟨rfl, hD, hF⟩; rw [h2] at hD hF; refine ⟨by simp [eFind, hn, fT_some hl], _, hD, hF, rfl, rfl, rfl, rfl, rfl, ?_⟩; rw [absP_del]; simp only [lRem, hn, fT_some hl, if_true, Option.isSome_some]; rfl
/-- Truncate -/
theorem g_trunc {w : World} {bd : Nat} {S : DS} {room : Int} (h : DiskIs w bd S) (hb : GB S room) (s : ByteArray) (hs : s.size ≤ 9223372036854775807) (x : Int) :
 Calls Tryz.prog 110 #[.pointer (some ⟨bd, 0, none⟩), .string s, .int .i64 x] w fun e w' => e = .returned (.int .i64 (gI (stepE S [s]) (eTru (absP S) s x))) ∧ ∃ S', DiskIs w' bd S' ∧ Fr w w' S S' ∧ GS S S' (stepS S [s]).down (stepS S [s]).steps (gL (stepE S [s]) (absP S) (lTru (absP S) s x)) := by
 by_cases h1 : stepE S [s] = 0
 case neg =>
  rw [gI1 h1, gL1 h1]; have hf : findV S [s] = none := by simp [findV, h1]
  refine (trunc_no h hb.cnt s hs x hf).mono ?_; rintro e w' ⟨rfl, hD, hF⟩; exact ⟨by simp [findE, h1, eTru], _, hD, hF, GS.st S _⟩
 case pos =>
  have hn : nameB s = true := by rw [← okN1]; exact st_name h1
  have h2 := st_zero h1; rw [gI0 h1, gL0 h1, h2]; have hv : findV S [s] = look S.fs (nb s) := findV1 h1; cases hl : look S.fs (nb s) with
  | none =>
    rw [hl] at hv; refine (trunc_no h hb.cnt s hs x hv).mono ?_; rintro e w' ⟨rfl, hD, hF⟩; rw [h2] at hD hF; exact ⟨by simp [findE, h1, hv, eTru, hn, fT_none hl], _, hD, hF, by rw [show lTru (absP S) s x = absP S from by simp [lTru, hn, fT_none hl]]; exact GS.up S⟩
  | some g =>
    rw [hl] at hv; have hLL : ((stepS S [s]).fl s.data.toList).bs = (S.fl (nb s)).bs := by rw [h2]
    by_cases hx : x < 0 ∨ ((S.fl (nb s)).bs.length : Int) < x
    · refine (trunc_arg h hb.cnt s hs x hv (by rw [hLL]; exact hx)).mono ?_
      rintro e w' ⟨rfl, hD, hF⟩; rw [h2] at hD hF; refine ⟨?_, _, hD, hF, ?_⟩
      · simp only [eTru, hn, fT_some hl, if_true, if_pos hx]
      · rw [show lTru (absP S) s x = absP S from by simp only [lTru, hn, fT_some hl, if_true, if_pos hx]]
        exact GS.up S
    · refine (trunc_ok h hb.cnt s hs x hv (by omega) (by rw [hLL]; omega)).mono ?_
      rintro e w' ⟨rfl, a, cap, z, hD, hF⟩; rw [h2] at hD hF; refine ⟨?_, _, hD, hF, rfl, rfl, rfl, rfl, rfl, ?_⟩
      · simp only [eTru, hn, fT_some hl, if_true, if_neg hx]
      · rw [absP_set]
        simp only [lTru, hn, fT_some hl, if_true, if_neg hx]; rfl
/-- Append -/
theorem g_append {w : World} {bd : Nat} {S : DS} {room : Int} (h : DiskIs w bd S) (hb : GB S room) (s : ByteArray) (hs : s.size ≤ 9223372036854775807) (va : Option Addr) (vc : Nat) (bs : List Int) (hv0 : BytesV w (.slice va bs.length vc) bs) (hvr : ∀ b, dBlock (.slice va bs.length vc) bs = some b → S.role b = .none) (hb63 : bs.length ≤ 4611686018427387904) :
 Calls Tryz.prog 35 #[.pointer (some ⟨bd, 0, none⟩), .string s, .slice va bs.length vc] w fun e w' => e = .returned (.int .i64 (gI (stepE S [s]) (eApp (absP S) room s bs))) ∧ ∃ S', DiskIs w' bd S' ∧ Fr w w' S S' ∧ GS S S' (stepS S [s]).down (stepS S [s]).steps (gL (stepE S [s]) (absP S) (lApp (absP S) room s bs)) := by
 have hrm := hb.rm; have hr0 := hb.r0; have hT := total_sumT S; have hsum := hb.wf.sum; have hlen : (absP S).length = S.fs.length := by unfold absP; rw [List.length_map]
 have hl16 := hb.wf.len; by_cases h1 : stepE S [s] = 0
 case neg =>
  rw [gI1 h1, gL1 h1]; refine (append_no h hb.cnt s hs _ h1).mono ?_; rintro e w' ⟨rfl, hD, hF⟩; exact ⟨by simp [h1, eApp], _, hD, hF, GS.st S _⟩
 case pos =>
  have hn : nameB s = true := by rw [← okN1]; exact st_name h1
  have h2 := st_zero h1; rw [gI0 h1, gL0 h1, h2]; cases hl : look S.fs (nb s) with
  | none =>
    have hfn := fT_none hl; by_cases h16 : 16 ≤ S.fs.length
    · refine (append_big h hb.cnt s hs _ h1 hl h16 (by omega)).mono ?_
      rintro e w' ⟨rfl, hD, hF⟩; rw [h2] at hD hF; have hc : fT (absP S) (nb s) = none ∧ 16 ≤ (absP S).length := ⟨hfn, by omega⟩
      exact ⟨by simp only [eApp, hn, if_true, if_pos hc], _, hD, hF, by rw [show lApp (absP S) room s bs = absP S from by simp only [lApp, hn, if_true, if_pos hc]]; exact GS.up S⟩
    · have hc : ¬ (fT (absP S) (nb s) = none ∧ 16 ≤ (absP S).length) := fun hc => h16 (by omega)
      by_cases hf : room < (sumT (absP S) : Int) + bs.length
      · refine (append_full_new h hb.cnt s hs va vc bs hb63 h1 hl (by omega) (by omega) (by omega) (by omega) (by omega)).mono ?_
        rintro e w' ⟨rfl, hD, hF⟩; rw [h2] at hD hF; exact ⟨by simp only [eApp, hn, if_true, if_neg hc, if_pos hf], _, hD, hF, by rw [show lApp (absP S) room s bs = absP S from by simp only [lApp, hn, if_true, if_neg hc, if_pos hf]]; exact GS.up S⟩
      · refine (append_new h hb.cnt s hs _ bs hv0 hvr h1 hl (by omega) (by omega) (by omega)).mono ?_
        rintro e w' ⟨rfl, sl, gg, z, hD, hF⟩; rw [h2] at hD hF; refine ⟨by simp only [eApp, hn, if_true, if_neg hc, if_neg hf], _, hD, hF, rfl, rfl, rfl, rfl, rfl, ?_⟩; rw [show lApp (absP S) room s bs = putT (absP S) (nb s, bs, 0) from by unfold lApp; rw [if_pos hn, if_neg hc, if_neg hf, hfn]]; rw [absP_put { S with down := false, steps := S.steps + 1 } _ (nb s) gg S.fs rfl (fun m hm => if_neg hm)]; have e1 : ((addFl { S with down := false, steps := S.steps + 1 } s.data.toList gg { sl := sl, bs := bs, safe := 0 } z).fl (nb s)) = { sl := sl, bs := bs, safe := 0 } := if_pos rfl; rw [e1]; rfl
  | some g =>
    have hfs := fT_some hl; have hc : ¬ (fT (absP S) (nb s) = none ∧ 16 ≤ (absP S).length) := fun hc => by rw [hfs] at hc; cases hc.1
    have hle : (S.fl (nb s)).bs.length ≤ 1073741824 := by
     have h3 := (del_here (p := ((nb s, (S.fl (nb s)).bs, (S.fl (nb s)).safe) : Tf)) rfl (fT_mem hfs).1).2; simp only at h3; omega
    by_cases hf : room < (sumT (absP S) : Int) + bs.length
    · refine (append_full_old h hb.cnt s hs va vc bs hb63 h1 hl (by omega) (by omega) (by omega) (by omega)).mono ?_
      rintro e w' ⟨rfl, hD, hF⟩; rw [h2] at hD hF; exact ⟨by simp only [eApp, hn, if_true, if_neg hc, if_pos hf], _, hD, hF, by rw [show lApp (absP S) room s bs = absP S from by simp only [lApp, hn, if_true, if_neg hc, if_pos hf]]; exact GS.up S⟩
    · refine (append_old h hb.cnt s hs _ bs hv0 hvr h1 hl (by omega) (by omega) (by rw [h2]; exact hle)).mono ?_
      rintro e w' ⟨rfl, sl, z, hD, hF⟩; rw [h2] at hD hF; refine ⟨by simp only [eApp, hn, if_true, if_neg hc, if_neg hf], _, hD, hF, rfl, rfl, rfl, rfl, rfl, ?_⟩; rw [absP_set]; simp only [lApp, hn, if_true, if_neg hc, if_neg hf, hfs]; rfl
structure HB (R : RS) (ro : Int) : Prop where
 planR : PlanR R
 cnt : Rn R
 rm : R.room = ro
 r0 : 0 ≤ ro ∧ ro ≤ 1073741824
 wf : Wf (absR R.A) ro
 srt : Srt (absR R.A)
structure HS (R R' : RS) (dn : Bool) (n : Int) (l : List Tf) : Prop where
 room : R'.room = R.room
 down : R'.down = dn
 plan : R'.plan = R.plan
 frm : R'.frm = R.frm
 n : R'.n = n
 abs : absR R'.A = l
/-- The kind of a plan's fault at a step. -/
def pK (l : List (Int × Int)) (x : Int) : Int := match l.find? (fun p => p.1 == x) with
 | some p => p.2
 | none => 0
/-- Faults that lie in memory. -/
def FltV (w : World) (va : Option Addr) (ps : List (Int × Int)) : Prop := ∀ (j : Nat) (p : Int × Int), ps[j]? = some p → ∃ b o, va = some ⟨b, o, none⟩ ∧ w.cell? ⟨b, o + j * 2, none⟩ = some (.int .i64 p.1) ∧ w.cell? ⟨b, o + j * 2 + 1, none⟩ = some (.int .i64 p.2)
theorem FltV.below {w w' : World} {va : Option Addr} {ps : List (Int × Int)} (h : FltV w va ps) (hb : Below w.heap.size w w') : FltV w' va ps := fun j p hj => by
 obtain ⟨b, o, e, h1, h2⟩ := h j p hj; exact ⟨b, o, e, (hb.cell (p := ⟨b, o + j * 2, none⟩) (cell_lt h1)).trans h1, (hb.cell (p := ⟨b, o + j * 2 + 1, none⟩) (cell_lt h2)).trans h2⟩
structure OkTo (ps : List (Int × Int)) (k : Nat) : Prop where
 each : ∀ (j : Nat) (p : Int × Int), j < k → ps[j]? = some p → 1 ≤ p.1 ∧ 1 ≤ p.2 ∧ p.2 ≤ 3
 two : ∀ (i j : Nat) (p q : Int × Int), i < j → j < k → ps[i]? = some p → ps[j]? = some q → p.1 ≠ q.1
def Right (ps : List (Int × Int)) : Prop := ps.length ≤ 64 ∧ OkTo ps ps.length
theorem plL_one (ps : List (Int × Int)) : ∀ u ∈ plL ps, u.oneCell' = true := by
 intro u hu; unfold plL at hu; obtain ⟨p, _, hp⟩ := List.mem_flatMap.1 hu; simp at hp; rcases hp with rfl | rfl <;> rfl
theorem info79b : (Tryz.prog.info? 121).map (fun i => (i.zero, i.size, i.bytes)) = some (some (.agg #[.int .i64 0, .int .i64 0]), 2, 16) := by kernel_rfl
theorem info79c : ∃ i, Tryz.prog.info? 121 = some i ∧ i.zero = some (.agg #[.int .i64 0, .int .i64 0]) ∧ i.size = 2 ∧ i.bytes = 16 := by
 have := info79b; cases h : Tryz.prog.info? 121 with
 | none => rw [h] at this; cases this
 | some i =>
   rw [h] at this; simp at this; exact ⟨i, rfl, this.1, this.2.1, this.2.2⟩
theorem plL_append (a b : List (Int × Int)) : plL (a ++ b) = plL a ++ plL b := by simp [plL]
theorem own_flt {w : World} {base : Nat} {oa : Option Addr} {n oc : Nat} {ps : List (Int × Int)} (h : w.ownsRow base 121 2 (.slice oa n oc) ps.length (plL ps)) : FltV w oa ps := by
 intro j p hj; have hl := (List.getElem?_eq_some_iff.1 hj).1; rcases h.2 with ⟨_, h0⟩ | ⟨g, cap, cur, e, _⟩
 · omega
 · injection e with e1 e2 e3
   subst e1; have h0 := h.cells (g := g) rfl (j * 2) _ (plL_get hj).1; have h1 := h.cells (g := g) rfl (j * 2 + 1) _ (plL_get hj).2; rw [Addr.add_lit] at h0 h1; exact ⟨g, 0, rfl, h0, by rw [← h1, Nat.add_assoc]⟩
set_option maxRecDepth 100000 in
set_option maxHeartbeats 8000000 in
theorem plan_any {w : World} (va : Option Addr) (vc : Nat) (ps : List (Int × Int)) (hv : FltV w va ps) (hl : ps.length * 16 ≤ 140737488351232) :
 Calls Tryz.prog 21 #[.slice va ps.length vc] w fun e w' => ∃ oa oc, e = .returned (.slice oa ps.length oc) ∧ FltV w' oa ps ∧ Below w.heap.size w w' := by
 have HV : Hid (FltV w va ps) := hv; clear hv; go_enter Tryz.func21, Tryz.ntmps21; go_wp2; go_loopw [3, 4] (fun o i wr => ∃ k : Nat, k ≤ ps.length ∧ i = .int .i64 k ∧ wr.ownsRow w.heap.size 121 2 o k (plL (ps.take k)) ∧ Below w.heap.size w wr) (fun _ i _ => ps.length - (intOf i).toNat)
 case atStart => exact ⟨0, Nat.zero_le _, rfl, World.ownsRow_nil _ _ _ _, Below.refl _ _⟩
 case round =>
  obtain ⟨k, hk, rfl, hown, hb⟩ := hrel; obtain ⟨oa, ocap, hov⟩ := row_form hown; subst hov; by_cases hkl : k < ps.length
  · obtain ⟨p, hp⟩ : ∃ p, ps[k]? = some p := ⟨_, List.getElem?_eq_getElem hkl⟩
    obtain ⟨g, o, rfl, c0, c1⟩ := HV.out k p hp; have hg0 : g < w.heap.size := cell_lt c0; have c0 := (hb.cell (p := ⟨g, o + k * 2, none⟩) (cell_lt c0)).trans c0; have c1 := (hb.cell (p := ⟨g, o + k * 2 + 1, none⟩) (cell_lt c1)).trans c1; have hki : (k : Int) < ps.length := by omega
    have HO : Hid (wr.ownsRow w.heap.size 121 2 (.slice oa k ocap) k (plL (ps.take k)) ∧ Below w.heap.size w wr ∧ ps[k]? = some p) := ⟨hown, hb, hp⟩
    clear hown hb hp; go_wp2_with fail; refine wp_region_held_drew (S := fun w' => w'.cell? ⟨g, o + k * 2, none⟩ = some (.int .i64 p.1) ∧ w'.cell? ⟨g, o + k * 2 + 1, none⟩ = some (.int .i64 p.2)) (by kernel_rfl) ⟨c0, c1⟩ (fun hHeld => ?_); refine wpAnyH_take (i := 0) (v := .slice oa k ocap) rfl (by kernel_rfl) (by kernel_rfl) (by kernel_rfl) (fun _ _ _ h => h) (Or.inl ⟨by rfl, fun w9 hSw => ?_⟩) hHeld ?_
    · go_simp
    simp only [List.getElem_toArray, List.getElem_cons_succ, List.getElem_cons_zero, Act.put, List.setIfInBounds_toArray, List.set_cons_zero, List.set_cons_succ]; refine wpAnyH_take (i := 1) (v := .slice (some ⟨g, o, none⟩) ps.length vc) rfl (by kernel_rfl) (by kernel_rfl) (by kernel_rfl) (fun _ _ _ h => h) (Or.inl ⟨by rfl, fun w9 hSw => ?_⟩) hHeld ?_
    · go_simp
    simp only [List.getElem_toArray, List.getElem_cons_succ, List.getElem_cons_zero, Act.put, List.setIfInBounds_toArray, List.set_cons_zero, List.set_cons_succ]; refine wpAnyH_take (i := 2) (v := .int .i64 k) rfl (by kernel_rfl) (by kernel_rfl) (by kernel_rfl) (fun _ _ _ h => h) (Or.inl ⟨by rfl, fun w9 hSw => ?_⟩) hHeld ?_
    · go_simp
    simp only [List.getElem_toArray, List.getElem_cons_succ, List.getElem_cons_zero, Act.put, List.setIfInBounds_toArray, List.set_cons_zero, List.set_cons_succ]; refine wpAnyH_take (i := 3) (v := .pointer (some ⟨g, o + k * 2, none⟩)) rfl (by kernel_rfl) (by kernel_rfl) (by kernel_rfl) (fun _ _ _ h => h) (Or.inl ⟨by rfl, fun w9 hSw => ?_⟩) hHeld ?_
    · go_simp
    simp only [List.getElem_toArray, List.getElem_cons_succ, List.getElem_cons_zero, Act.put, List.setIfInBounds_toArray, List.set_cons_zero, List.set_cons_succ]; refine wpAnyH_take (i := 4) (v := .pointer (some ⟨g, o + k * 2, none⟩)) rfl (by kernel_rfl) (by kernel_rfl) (by kernel_rfl) (fun _ _ _ h => h) (Or.inl ⟨by rfl, fun w9 hSw => ?_⟩) hHeld ?_
    · go_simp
    simp only [List.getElem_toArray, List.getElem_cons_succ, List.getElem_cons_zero, Act.put, List.setIfInBounds_toArray, List.set_cons_zero, List.set_cons_succ]; refine wpAnyH_take (i := 5) (v := .int .i64 p.1) rfl (by kernel_rfl) (by kernel_rfl) (by kernel_rfl) (fun _ _ _ h => h) (Or.inl ⟨by rfl, fun w9 hSw => ?_⟩) hHeld ?_
    · have hc := hSw.1
      go_simp
    simp only [List.getElem_toArray, List.getElem_cons_succ, List.getElem_cons_zero, Act.put, List.setIfInBounds_toArray, List.set_cons_zero, List.set_cons_succ]; refine wpAnyH_take (i := 6) (v := .slice (some ⟨g, o, none⟩) ps.length vc) rfl (by kernel_rfl) (by kernel_rfl) (by kernel_rfl) (fun _ _ _ h => h) (Or.inl ⟨by rfl, fun w9 hSw => ?_⟩) hHeld ?_
    · go_simp
    simp only [List.getElem_toArray, List.getElem_cons_succ, List.getElem_cons_zero, Act.put, List.setIfInBounds_toArray, List.set_cons_zero, List.set_cons_succ]; refine wpAnyH_take (i := 7) (v := .int .i64 k) rfl (by kernel_rfl) (by kernel_rfl) (by kernel_rfl) (fun _ _ _ h => h) (Or.inl ⟨by rfl, fun w9 hSw => ?_⟩) hHeld ?_
    · go_simp
    simp only [List.getElem_toArray, List.getElem_cons_succ, List.getElem_cons_zero, Act.put, List.setIfInBounds_toArray, List.set_cons_zero, List.set_cons_succ]; refine wpAnyH_take (i := 8) (v := .pointer (some ⟨g, o + k * 2, none⟩)) rfl (by kernel_rfl) (by kernel_rfl) (by kernel_rfl) (fun _ _ _ h => h) (Or.inl ⟨by rfl, fun w9 hSw => ?_⟩) hHeld ?_
    · go_simp
    simp only [List.getElem_toArray, List.getElem_cons_succ, List.getElem_cons_zero, Act.put, List.setIfInBounds_toArray, List.set_cons_zero, List.set_cons_succ]; refine wpAnyH_take (i := 9) (v := .pointer (some ⟨g, o + k * 2 + 1, none⟩)) rfl (by kernel_rfl) (by kernel_rfl) (by kernel_rfl) (fun _ _ _ h => h) (Or.inl ⟨by rfl, fun w9 hSw => ?_⟩) hHeld ?_
    · go_simp
    simp only [List.getElem_toArray, List.getElem_cons_succ, List.getElem_cons_zero, Act.put, List.setIfInBounds_toArray, List.set_cons_zero, List.set_cons_succ]; refine wpAnyH_take (i := 10) (v := .int .i64 p.2) rfl (by kernel_rfl) (by kernel_rfl) (by kernel_rfl) (fun _ _ _ h => h) (Or.inl ⟨by rfl, fun w9 hSw => ?_⟩) hHeld ?_
    · have hc := hSw.2
      go_simp
    simp only [List.getElem_toArray, List.getElem_cons_succ, List.getElem_cons_zero, Act.put, List.setIfInBounds_toArray, List.set_cons_zero, List.set_cons_succ]; refine wpAnyH_take (i := 11) (v := .agg #[.int .i64 p.1, .int .i64 p.2]) rfl (by kernel_rfl) (by kernel_rfl) (by kernel_rfl) (fun _ _ _ h => h) (Or.inl ⟨by rfl, fun w9 hSw => ?_⟩) hHeld ?_
    · go_simp
    simp only [List.getElem_toArray, List.getElem_cons_succ, List.getElem_cons_zero, Act.put, List.setIfInBounds_toArray, List.set_cons_zero, List.set_cons_succ]; refine wpAnyH_ready (rs := [12]) (by kernel_rfl) (by simp) ?_; refine AllReadyH.cons rfl (fun K hK => ?_) AllReadyH.nil; have hO2 : wr.drew.ownsRow w.heap.size 121 2 (.slice oa k ocap) k (plL (ps.take k)) ∧ Below w.heap.size w wr.drew := ⟨HO.out.1, HO.out.2.1.os, HO.out.2.1.tape, HO.out.2.1.output, HO.out.2.1.size, HO.out.2.1.block⟩
    generalize wr.drew = w1 at hHeld hO2 ⊢; have hO3 : (w1.alloc (.cells #[.int .i64 p.1, .int .i64 p.2] 121)).ownsRow w.heap.size 121 2 (.slice oa k ocap) k (plL (ps.take k)) ∧ Below w.heap.size w (w1.alloc (.cells #[.int .i64 p.1, .int .i64 p.2] 121)) ∧ (w1.alloc (.cells #[.int .i64 p.1, .int .i64 p.2] 121)).heap[w1.heap.size]? = some (.cells #[.int .i64 p.1, .int .i64 p.2] 121) := ⟨hO2.1.alloc _, hO2.2.alloc hO2.2.size _, heap_alloc_new _ _⟩
    have hS3 : (w1.alloc (.cells #[.int .i64 p.1, .int .i64 p.2] 121)).cell? ⟨g, o + k * 2, none⟩ = some (.int .i64 p.1) ∧ (w1.alloc (.cells #[.int .i64 p.1, .int .i64 p.2] 121)).cell? ⟨g, o + k * 2 + 1, none⟩ = some (.int .i64 p.2) := ⟨(Below.cell (p := ⟨g, o + k * 2, none⟩) (by go_grown) (cell_lt hHeld.1)).trans hHeld.1, (Below.cell (p := ⟨g, o + k * 2 + 1, none⟩) (by go_grown) (cell_lt hHeld.2)).trans hHeld.2⟩
    have HO2 : Hid _ := hO3; clear hO2 hO3 hHeld; go_simp; refine hK.out _ _ hS3 (fun hHeld => ?_); clear hK K; try simp only [List.getElem_toArray, List.getElem_cons_succ, List.getElem_cons_zero, Act.put, List.setIfInBounds_toArray, List.set_cons_zero, List.set_cons_succ]
    refine wpAnyH_ready (rs := [13]) (by kernel_rfl) (by simp) ?_; refine AllReadyH.cons rfl (fun K hK => ?_) AllReadyH.nil; generalize w1.alloc (.cells #[.int .i64 p.1, .int .i64 p.2] 121) = w2 at HO2 hHeld hS3 ⊢; obtain ⟨i0, hi, hz0, hz1, hz2⟩ := info79c; refine step_append_lies w2 (by rfl) _ _ 49 (by rfl) w.heap.size 121 i0 _ 2 16 Tryz.underlying49 hi hz0 hz1 hz2 rfl (by decide) (.slice oa k ocap) k (plL (ps.take k)) (by rfl) HO2.out.1 ⟨w1.heap.size, 0, none⟩ 1 1 (plL [p]) (by rfl) rfl (fun j u hu => by rw [Addr.add_lit, Nat.zero_add, cell_of_block HO2.out.2.2]; simpa [plL] using hu) (plL_one [p]) (by omega) (by unfold maxLen; omega) (by omega) HO2.out.2.1.size w2.heap.size rfl ?_; intro g2 cap2 w3 ho hg2 ha2 hlt2; have H2 : Hid (w3.ownsRow w.heap.size 121 2 (.slice (some ⟨g2, 0, none⟩) (k + 1) cap2) (k + 1) (plL (ps.take k) ++ plL [p]) ∧ Below w.heap.size w w3) := ⟨ho, HO2.out.2.1.grown hg2 HO2.out.2.1.size (fun j hj => (HO2.out.1.lt j hj).1)⟩
    have hne : ∀ b, (Value.slice oa k ocap).ownBlock = some b → w.heap.size ≤ b := fun b hb => (HO2.out.1.lt b hb).1
    have hgl : g < w.heap.size := hg0; have hS4 : w3.cell? ⟨g, o + k * 2, none⟩ = some (.int .i64 p.1) ∧ w3.cell? ⟨g, o + k * 2 + 1, none⟩ = some (.int .i64 p.2) := ⟨(World.cell?_of_block (a := ⟨g, o + k * 2, none⟩) (hg2.block g (Nat.lt_of_lt_of_le hgl HO2.out.2.1.size) (fun e => by have := hne g e.symm; omega))).trans hHeld.1, (World.cell?_of_block (a := ⟨g, o + k * 2 + 1, none⟩) (hg2.block g (Nat.lt_of_lt_of_le hgl HO2.out.2.1.size) (fun e => by have := hne g e.symm; omega))).trans hHeld.2⟩
    clear ho hg2 ha2 hHeld; refine hK.out _ _ hS4 (fun hHeld => ?_); clear hK K; try simp only [List.getElem_toArray, List.getElem_cons_succ, List.getElem_cons_zero, Act.put, List.setIfInBounds_toArray, List.set_cons_zero, List.set_cons_succ]
    refine wpAnyH_take (i := 14) (v := .slice (some ⟨g2, 0, none⟩) (k + 1) cap2) rfl (by kernel_rfl) (by kernel_rfl) (by kernel_rfl) (fun _ _ _ h => h) (Or.inl ⟨by rfl, fun w9 hSw => ?_⟩) hHeld ?_
    · go_simp
    simp only [List.getElem_toArray, List.getElem_cons_succ, List.getElem_cons_zero, Act.put, List.setIfInBounds_toArray, List.set_cons_zero, List.set_cons_succ]; refine wpAnyH_done (by kernel_rfl) ?_ _; go_wp2; go_roundw
    case rel =>
     refine ⟨k + 1, by omega, by go_num, ?_, H2.out.2⟩; have e : ps.take (k + 1) = ps.take k ++ [p] := by rw [List.take_add_one, HO.out.2.2]; rfl
     rw [e, plL_append]; exact H2.out.1
    case measure => simp [intOf]; omega
  · have hki : decide ((k : Int) < ps.length) = false := by simp; omega
    obtain rfl : k = ps.length := by omega
    rw [List.take_length] at *; have HO : Hid (wr.ownsRow w.heap.size 121 2 (.slice oa ps.length ocap) ps.length (plL ps) ∧ Below w.heap.size w wr) := ⟨hown, hb⟩
    clear hown hb; go_wp2; go_ret; exact ⟨oa, ocap, rfl, own_flt HO.out.1, HO.out.2⟩
end Go.Proofs.YtconkienlcegaaaGreatDoor
