/- CM, PC -/
import Derived.Test.YtoplejbmgpgkhaaGreatDoorGWE
import Derived.Test.YtoplejbmgpgkhaaGreatDoorRows
import Derived.Carry
import Derived.ChangeSlices
import Derived.ChangeMaps5
import Derived.SizedLaws
import Derived.Deep.Slices
import Derived.Deep.Fields
import Derived.Test.YtoplejbmgpgkhaaGreatDoorGCI
namespace Go.Proofs.YtoplejbmgpgkhaaGreatDoor
open Go.Deep Go.ChangeShapes Go.WideShapes Go.ChangeAt Go.WideElems Go.RowKit Go.ChangeMaps
set_option linter.unusedVariables false
theorem cells5 : Tryz.prog.cellsOf 5 = 1 := by kernel_rfl
theorem cells3 : Tryz.prog.cellsOf 3 = 1 := by kernel_rfl
theorem bytes5 : Tryz.prog.bytesOf 5 = 1 := by kernel_rfl
section
variable {H : Type} {enc : TypeId × Value → H} {W : World}
/-- Numbers. -/
theorem open_is {fuel : Nat} {cs : List Value} {x : DataW H × List MemPlace} (h : DataW.trod enc Tryz.prog W 0 (fun _ => true) true fuel 37 cs = some x) :
    ∃ v ks, cs = [v] ∧ IntsV W v ks ∧ ks.length ≤ 9223372036854775807 := by
  rcases open_ints Tryz.underlying37 Tryz.underlying3 cells3 h with ⟨rfl, rfl⟩ | ⟨a, len, cap, zs, rfl, _, hl, hm, hz, rfl, hcell, hwz⟩
  · exact ⟨_, [], rfl, ⟨none, 0, rfl, fun j x hj => by simp at hj⟩, by simp⟩
  · simp only [if_true] at hz
    have hlen : (zs.take len).length = len := by rw [List.length_take]; omega
    unfold maxLen at hm
    refine ⟨_, zs.take len, rfl, ⟨some a, cap, by rw [hlen], fun j x hj => ?_⟩, by omega⟩
    have hj' : j < len := by
      have := (List.getElem?_eq_some_iff.1 hj).1
      omega
    have h1 := hcell j (by omega)
    obtain ⟨ab, ao, spot⟩ := a
    have hspot : spot = none := by simpa [Addr.add] using World.cell?_spot (hcell 0 (by omega))
    subst hspot
    refine ⟨ab, ao, rfl, ?_⟩
    rw [Addr.add_lit] at h1
    rw [h1]
    rw [List.getElem?_take, if_pos hj'] at hj
    simp [List.getD, hj]
end
end Go.Proofs.YtoplejbmgpgkhaaGreatDoor
namespace Go.Proofs.YtoplejbmgpgkhaaGreatDoor
open Go.RowKit Go.Maps Go.Joins
set_option linter.unusedSimpArgs false
set_option linter.unusedVariables false
def gI (c x : Int) : Int := if c = 0 then x else c
def gL (c : Int) (l l' : List Tf) : List Tf := if c = 0 then l' else l
theorem gI0 {c x : Int} (h : c = 0) : gI c x = x := if_pos h
theorem gI1 {c x : Int} (h : ¬ c = 0) : gI c x = c := if_neg h
theorem gL0 {c : Int} {l l' : List Tf} (h : c = 0) : gL c l l' = l' := if_pos h
theorem gL1 {c : Int} {l l' : List Tf} (h : ¬ c = 0) : gL c l l' = l := if_neg h
structure GB (S : DS) (ro : Int) : Prop where
  cnt : Cnt S
  rm : S.room = ro
  r0 : 0 ≤ ro ∧ ro ≤ 1073741824
  wf : Wf (absP S) ro
structure GS (S S' : DS) (dn : Bool) (st : Int) (l : List Tf) : Prop where
  room : S'.room = S.room
  down : S'.down = dn
  armed : S'.armed = S.armed
  plan : S'.plan = S.plan
  steps : S'.steps = st
  abs : absP S' = l
theorem st_name {S : DS} {ns : List ByteArray} (h : stepE S ns = 0) : okN ns = true := by
  unfold stepE at h
  split at h
  · omega
  · split at h
    · assumption
    · omega
theorem st_zero {S : DS} {ns : List ByteArray} (h : stepE S ns = 0) : stepS S ns = { S with down := false, steps := S.steps + 1 } := by
  have hn := st_name h
  unfold stepE at h
  unfold stepS
  split at h
  · omega
  · rename_i hd
    rw [if_neg hd, if_pos hn]
    try rw [if_pos hn] at h
    have : decide (stK S = 3) = false := by
      simp only [decide_eq_false_iff_not]
      intro e
      rw [e] at h
      simp [faultE] at h
    rw [this]
theorem GS.up (S : DS) : GS S { S with down := false, steps := S.steps + 1 } false (S.steps + 1) (absP S) := ⟨rfl, rfl, rfl, rfl, rfl, rfl⟩
theorem GS.st (S : DS) (ns : List ByteArray) : GS S (stepS S ns) (stepS S ns).down (stepS S ns).steps (absP S) := by
  obtain ⟨h1, h2, h3, h4, h5⟩ := stepS_fields S ns
  refine ⟨h1, rfl, ?_, ?_, rfl, by unfold absP; rw [h3, h4]⟩
  · unfold stepS; split <;> (try rfl); split <;> rfl
  · unfold stepS; split <;> (try rfl); split <;> rfl
/-- Sync -/
theorem g_sync {w : World} {bd : Nat} {S : DS} {room : Int} (h : DiskIs w bd S) (hb : GB S room) (s : ByteArray) (hs : s.size ≤ 9223372036854775807) :
    Calls Tryz.prog 59 #[.pointer (some ⟨bd, 0, none⟩), .string s] w fun e w' => e = .returned (.int .i64 (gI (stepE S [s]) (eFind (absP S) s))) ∧ ∃ S', DiskIs w' bd S' ∧ Fr w w' S S' ∧ GS S S' (stepS S [s]).down (stepS S [s]).steps (gL (stepE S [s]) (absP S) (lSync (absP S) s)) := by
  by_cases h1 : stepE S [s] = 0
  case neg =>
    rw [gI1 h1, gL1 h1]
    have hf : findV S [s] = none := by simp [findV, h1]
    refine (sync_no h hb.cnt s hs hf).mono ?_
    rintro e w' ⟨rfl, hD, hF⟩
    exact ⟨by simp [findE, h1, eFind], _, hD, hF, GS.st S _⟩
  case pos =>
    have hn : nameB s = true := by rw [← okN1]; exact st_name h1
    have h2 := st_zero h1
    rw [gI0 h1, gL0 h1, h2]
    have hv : findV S [s] = look S.fs (nb s) := findV1 h1
    cases hl : look S.fs (nb s) with
    | none =>
      rw [hl] at hv
      refine (sync_no h hb.cnt s hs hv).mono ?_
      rintro e w' ⟨rfl, hD, hF⟩
      rw [h2] at hD hF
      exact ⟨by simp [findE, h1, hv, eFind, hn, fT_none hl], _, hD, hF, by rw [show lSync (absP S) s = absP S from by simp [lSync, hn, fT_none hl]]; exact GS.up S⟩
    | some g =>
      rw [hl] at hv
      have hlen : ∀ p ∈ S.fs, (S.fl p.1).bs.length ≤ 1073741824 := fun p hp => by
        have h3 := (del_here (n := p.1) (p := ((p.1, (S.fl p.1).bs, (S.fl p.1).safe) : Tf)) rfl (l := absP S) (List.mem_map_of_mem (f := fun p => ((p.1, (S.fl p.1).bs, (S.fl p.1).safe) : Tf)) hp)).2
        have h4 := hb.wf.sum
        have h5 := hb.r0
        simp only at h3
        omega
      refine (sync_ok h hb.cnt s hs hv hlen).mono ?_
      rintro e w' ⟨rfl, z, hD, hF⟩
      rw [h2] at hD hF
      refine ⟨by simp [eFind, hn, fT_some hl], _, hD, hF, rfl, rfl, rfl, rfl, rfl, ?_⟩
      rw [absP_set]
      simp only [lSync, hn, fT_some hl, if_true]
      rfl
/-- Truncate -/
theorem g_trunc {w : World} {bd : Nat} {S : DS} {room : Int} (h : DiskIs w bd S) (hb : GB S room) (s : ByteArray) (hs : s.size ≤ 9223372036854775807) (x : Int) :
    Calls Tryz.prog 85 #[.pointer (some ⟨bd, 0, none⟩), .string s, .int .i64 x] w fun e w' => e = .returned (.int .i64 (gI (stepE S [s]) (eTru (absP S) s x))) ∧ ∃ S', DiskIs w' bd S' ∧ Fr w w' S S' ∧ GS S S' (stepS S [s]).down (stepS S [s]).steps (gL (stepE S [s]) (absP S) (lTru (absP S) s x)) := by
  by_cases h1 : stepE S [s] = 0
  case neg =>
    rw [gI1 h1, gL1 h1]
    have hf : findV S [s] = none := by simp [findV, h1]
    refine (trunc_no h hb.cnt s hs x hf).mono ?_
    rintro e w' ⟨rfl, hD, hF⟩
    exact ⟨by simp [findE, h1, eTru], _, hD, hF, GS.st S _⟩
  case pos =>
    have hn : nameB s = true := by rw [← okN1]; exact st_name h1
    have h2 := st_zero h1
    rw [gI0 h1, gL0 h1, h2]
    have hv : findV S [s] = look S.fs (nb s) := findV1 h1
    cases hl : look S.fs (nb s) with
    | none =>
      rw [hl] at hv
      refine (trunc_no h hb.cnt s hs x hv).mono ?_
      rintro e w' ⟨rfl, hD, hF⟩
      rw [h2] at hD hF
      exact ⟨by simp [findE, h1, hv, eTru, hn, fT_none hl], _, hD, hF, by rw [show lTru (absP S) s x = absP S from by simp [lTru, hn, fT_none hl]]; exact GS.up S⟩
    | some g =>
      rw [hl] at hv
      have hLL : ((stepS S [s]).fl s.data.toList).bs = (S.fl (nb s)).bs := by rw [h2]
      by_cases hx : x < 0 ∨ ((S.fl (nb s)).bs.length : Int) < x
      · refine (trunc_arg h hb.cnt s hs x hv (by rw [hLL]; exact hx)).mono ?_
        rintro e w' ⟨rfl, hD, hF⟩
        rw [h2] at hD hF
        refine ⟨?_, _, hD, hF, ?_⟩
        · simp only [eTru, hn, fT_some hl, if_true, if_pos hx]
        · rw [show lTru (absP S) s x = absP S from by simp only [lTru, hn, fT_some hl, if_true, if_pos hx]]
          exact GS.up S
      · refine (trunc_ok h hb.cnt s hs x hv (by omega) (by rw [hLL]; omega)).mono ?_
        rintro e w' ⟨rfl, a, cap, z, hD, hF⟩
        rw [h2] at hD hF
        refine ⟨?_, _, hD, hF, rfl, rfl, rfl, rfl, rfl, ?_⟩
        · simp only [eTru, hn, fT_some hl, if_true, if_neg hx]
        · rw [absP_set]
          simp only [lTru, hn, fT_some hl, if_true, if_neg hx]
          rfl
/-- Append -/
theorem g_append {w : World} {bd : Nat} {S : DS} {room : Int} (h : DiskIs w bd S) (hb : GB S room) (s : ByteArray) (hs : s.size ≤ 9223372036854775807) (va : Option Addr) (vc : Nat) (bs : List Int) (hv0 : BytesV w (.slice va bs.length vc) bs) (hvr : ∀ b, dBlock (.slice va bs.length vc) bs = some b → S.role b = .none) (hb63 : bs.length ≤ 4611686018427387904) :
    Calls Tryz.prog 45 #[.pointer (some ⟨bd, 0, none⟩), .string s, .slice va bs.length vc] w fun e w' => e = .returned (.int .i64 (gI (stepE S [s]) (eApp (absP S) room s bs))) ∧ ∃ S', DiskIs w' bd S' ∧ Fr w w' S S' ∧ GS S S' (stepS S [s]).down (stepS S [s]).steps (gL (stepE S [s]) (absP S) (lApp (absP S) room s bs)) := by
  have hrm := hb.rm
  have hr0 := hb.r0
  have hT := total_sumT S
  have hsum := hb.wf.sum
  have hlen : (absP S).length = S.fs.length := by unfold absP; rw [List.length_map]
  have hl16 := hb.wf.len
  by_cases h1 : stepE S [s] = 0
  case neg =>
    rw [gI1 h1, gL1 h1]
    refine (append_no h hb.cnt s hs _ h1).mono ?_
    rintro e w' ⟨rfl, hD, hF⟩
    exact ⟨by simp [h1, eApp], _, hD, hF, GS.st S _⟩
  case pos =>
    have hn : nameB s = true := by rw [← okN1]; exact st_name h1
    have h2 := st_zero h1
    rw [gI0 h1, gL0 h1, h2]
    cases hl : look S.fs (nb s) with
    | none =>
      have hfn := fT_none hl
      by_cases h16 : 16 ≤ S.fs.length
      · refine (append_big h hb.cnt s hs _ h1 hl h16 (by omega)).mono ?_
        rintro e w' ⟨rfl, hD, hF⟩
        rw [h2] at hD hF
        have hc : fT (absP S) (nb s) = none ∧ 16 ≤ (absP S).length := ⟨hfn, by omega⟩
        exact ⟨by simp only [eApp, hn, if_true, if_pos hc], _, hD, hF, by rw [show lApp (absP S) room s bs = absP S from by simp only [lApp, hn, if_true, if_pos hc]]; exact GS.up S⟩
      · have hc : ¬ (fT (absP S) (nb s) = none ∧ 16 ≤ (absP S).length) := fun hc => h16 (by omega)
        by_cases hf : room < (sumT (absP S) : Int) + bs.length
        · refine (append_full_new h hb.cnt s hs va vc bs hb63 h1 hl (by omega) (by omega) (by omega) (by omega) (by omega)).mono ?_
          rintro e w' ⟨rfl, hD, hF⟩
          rw [h2] at hD hF
          exact ⟨by simp only [eApp, hn, if_true, if_neg hc, if_pos hf], _, hD, hF, by rw [show lApp (absP S) room s bs = absP S from by simp only [lApp, hn, if_true, if_neg hc, if_pos hf]]; exact GS.up S⟩
        · refine (append_new h hb.cnt s hs _ bs hv0 hvr h1 hl (by omega) (by omega) (by omega)).mono ?_
          rintro e w' ⟨rfl, sl, gg, z, hD, hF⟩
          rw [h2] at hD hF
          refine ⟨by simp only [eApp, hn, if_true, if_neg hc, if_neg hf], _, hD, hF, rfl, rfl, rfl, rfl, rfl, ?_⟩
          rw [show lApp (absP S) room s bs = putT (absP S) (nb s, bs, 0) from by unfold lApp; rw [if_pos hn, if_neg hc, if_neg hf, hfn]]
          rw [absP_put { S with down := false, steps := S.steps + 1 } _ (nb s) gg S.fs rfl (fun m hm => if_neg hm)]
          have e1 : ((addFl { S with down := false, steps := S.steps + 1 } s.data.toList gg { sl := sl, bs := bs, safe := 0 } z).fl (nb s)) = { sl := sl, bs := bs, safe := 0 } := if_pos rfl
          rw [e1]
          rfl
    | some g =>
      have hfs := fT_some hl
      have hc : ¬ (fT (absP S) (nb s) = none ∧ 16 ≤ (absP S).length) := fun hc => by rw [hfs] at hc; cases hc.1
      have hle : (S.fl (nb s)).bs.length ≤ 1073741824 := by
        have h3 := (del_here (p := ((nb s, (S.fl (nb s)).bs, (S.fl (nb s)).safe) : Tf)) rfl (fT_mem hfs).1).2
        simp only at h3
        omega
      by_cases hf : room < (sumT (absP S) : Int) + bs.length
      · refine (append_full_old h hb.cnt s hs va vc bs hb63 h1 hl (by omega) (by omega) (by omega) (by omega)).mono ?_
        rintro e w' ⟨rfl, hD, hF⟩
        rw [h2] at hD hF
        exact ⟨by simp only [eApp, hn, if_true, if_neg hc, if_pos hf], _, hD, hF, by rw [show lApp (absP S) room s bs = absP S from by simp only [lApp, hn, if_true, if_neg hc, if_pos hf]]; exact GS.up S⟩
      · refine (append_old h hb.cnt s hs _ bs hv0 hvr h1 hl (by omega) (by omega) (by rw [h2]; exact hle)).mono ?_
        rintro e w' ⟨rfl, sl, z, hD, hF⟩
        rw [h2] at hD hF
        refine ⟨by simp only [eApp, hn, if_true, if_neg hc, if_neg hf], _, hD, hF, rfl, rfl, rfl, rfl, rfl, ?_⟩
        rw [absP_set]
        simp only [lApp, hn, if_true, if_neg hc, if_neg hf, hfs]
        rfl
end Go.Proofs.YtoplejbmgpgkhaaGreatDoor
