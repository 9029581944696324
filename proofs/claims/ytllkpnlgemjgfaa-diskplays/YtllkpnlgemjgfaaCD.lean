/- disk: the program's Truncate, Rename, Append by what they tell. -/
import Derived.Test.YtllkpnlgemjgfaaCC
namespace Go.Proofs.Ytllkpnlgemjgfaa
open Go.RowKit Go.Maps Go.Joins
set_option linter.unusedSimpArgs false
set_option linter.unusedVariables false
/-- Truncate -/
theorem p_trunc {w : World} {bd : Nat} {S : DS} {room : Int} (h : DiskIs w bd S) (hb : PB S room) (s : ByteArray) (hs : s.size ≤ 9223372036854775807) (x : Int) :
    Calls Try.prog 23 #[.pointer (some ⟨bd, 0, none⟩), .string s, .int .i64 x] w fun e w' => e = .returned (.int .i64 (eTru (absP S) s x)) ∧ ∃ S', DiskIs w' bd S' ∧ Fr w w' S S' ∧ PS S S' (nameB s) (lTru (absP S) s x) := by
  cases hn : nameB s with
  | false =>
    obtain ⟨h1, h2⟩ := st_no hb (ns := [s]) (by rw [okN1]; exact hn)
    have hf : findV S [s] = none := by simp [findV, h1]
    refine (trunc_no h hb.cnt s hs x hf).mono ?_
    rintro e w' ⟨rfl, hD, hF⟩
    rw [h2] at hD hF
    exact ⟨by simp [findE, h1, eTru, hn], S, hD, hF, by rw [show lTru (absP S) s x = absP S from by simp [lTru, hn]]; exact PS.no hb⟩
  | true =>
    obtain ⟨h1, h2⟩ := st_ok hb (ns := [s]) (by rw [okN1]; exact hn)
    have hv : findV S [s] = look S.fs (nb s) := findV1 h1
    cases hl : look S.fs (nb s) with
    | none =>
      rw [hl] at hv
      refine (trunc_no h hb.cnt s hs x hv).mono ?_
      rintro e w' ⟨rfl, hD, hF⟩
      rw [h2] at hD hF
      exact ⟨by simp [findE, h1, hv, eTru, hn, fT_none hl], _, hD, hF, by rw [show lTru (absP S) s x = absP S from by simp [lTru, hn, fT_none hl]]; exact PS.up hb⟩
    | some g =>
      rw [hl] at hv
      have hLL : ((stepS S [s]).fl s.data.toList).bs = (S.fl (nb s)).bs := by rw [h2]
      by_cases hx : x < 0 ∨ ((S.fl (nb s)).bs.length : Int) < x
      · refine (trunc_arg h hb.cnt s hs x hv (by rw [hLL]; exact hx)).mono ?_
        rintro e w' ⟨rfl, hD, hF⟩
        rw [h2] at hD hF
        refine ⟨?_, _, hD, hF, ?_⟩
        · simp only [eTru, hn, fT_some hl, if_true, if_pos hx]
        · rw [show lTru (absP S) s x = absP S from by simp only [lTru, hn, fT_some hl, if_true, if_pos hx]]
          exact PS.up hb
      · refine (trunc_ok h hb.cnt s hs x hv (by omega) (by rw [hLL]; omega)).mono ?_
        rintro e w' ⟨rfl, a, cap, z, hD, hF⟩
        rw [h2] at hD hF
        refine ⟨?_, _, hD, hF, rfl, rfl, rfl, hb.plan, by simp [setFl], ?_⟩
        · simp only [eTru, hn, fT_some hl, if_true, if_neg hx]
        · rw [absP_set]
          simp only [lTru, hn, fT_some hl, if_true, if_neg hx]
          rfl
/-- Rename -/
theorem p_rename {w : World} {bd : Nat} {S : DS} {room : Int} (h : DiskIs w bd S) (hb : PB S room) (s t : ByteArray) (hs : s.size ≤ 9223372036854775807) (ht : t.size ≤ 9223372036854775807) :
    Calls Try.prog 24 #[.pointer (some ⟨bd, 0, none⟩), .string s, .string t] w fun e w' => e = .returned (.int .i64 (eRen (absP S) s t)) ∧ ∃ S', DiskIs w' bd S' ∧ Fr w w' S S' ∧ PS S S' (nameB s && nameB t) (lRen (absP S) s t) := by
  cases hn : (nameB s && nameB t) with
  | false =>
    obtain ⟨h1, h2⟩ := st_no hb (ns := [s, t]) (by rw [okN2]; exact hn)
    have hf : findV S [s, t] = none := by simp [findV, h1]
    refine (rename_no h hb.cnt s t hs ht hf).mono ?_
    rintro e w' ⟨rfl, hD, hF⟩
    rw [h2] at hD hF
    refine ⟨?_, S, hD, hF, ?_⟩
    · unfold eRen
      rw [hn]
      simp [findE, h1]
    · rw [show lRen (absP S) s t = absP S from by unfold lRen; rw [hn]; simp]
      exact PS.no hb
  | true =>
    obtain ⟨h1, h2⟩ := st_ok hb (ns := [s, t]) (by rw [okN2]; exact hn)
    have hv : findV S [s, t] = look S.fs (nb s) := findV1 h1
    cases hl : look S.fs (nb s) with
    | none =>
      rw [hl] at hv
      refine (rename_no h hb.cnt s t hs ht hv).mono ?_
      rintro e w' ⟨rfl, hD, hF⟩
      rw [h2] at hD hF
      refine ⟨?_, _, hD, hF, ?_⟩
      · unfold eRen
        rw [hn, fT_none hl]
        simp [findE, h1, hv]
      · rw [show lRen (absP S) s t = absP S from by unfold lRen; rw [hn, fT_none hl]; simp]
        exact PS.up hb
    | some g =>
      rw [hl] at hv
      have hLL : (stepS S [s, t]).fl s.data.toList = S.fl (nb s) := by rw [h2]
      have hsf := hb.wf.safe _ (fT_mem (fT_some hl)).1
      simp only at hsf
      have hfl : S.fs.length ≤ 1000 := by
        have := hb.wf.len
        unfold absP at this
        rw [List.length_map] at this
        omega
      by_cases hx : (S.fl (nb s)).safe = (S.fl (nb s)).bs.length
      · refine (rename_ok h hb.cnt s t hs ht hv (by rw [hLL]; omega) hfl).mono ?_
        rintro e w' ⟨rfl, hD, hF⟩
        rw [h2] at hD hF
        refine ⟨?_, _, hD, hF, rfl, rfl, rfl, hb.plan, by simp [renFs], ?_⟩
        · unfold eRen
          rw [hn, fT_some hl]
          simp only [if_true, if_pos hx]
        · rw [show lRen (absP S) s t = putT (delT (absP S) (nb s)) (nb t, (S.fl (nb s)).bs, (S.fl (nb s)).safe) from by unfold lRen; rw [hn, fT_some hl]; simp only [if_true, if_pos hx]]
          rw [absP_put { S with down := false, steps := S.steps + 1 } _ (nb t) g (delL S.fs (nb s)) rfl (fun m hm => if_neg hm)]
          have e1 : ((renFs { S with down := false, steps := S.steps + 1 } s.data.toList t.data.toList g).fl (nb t)) = S.fl (nb s) := if_pos rfl
          rw [e1]
          congr 1
          exact absP_del S (nb s)
      · refine (rename_arg h hb.cnt s t hs ht hv (by rw [hLL]; omega)).mono ?_
        rintro e w' ⟨rfl, hD, hF⟩
        rw [h2] at hD hF
        refine ⟨?_, _, hD, hF, ?_⟩
        · unfold eRen
          rw [hn, fT_some hl]
          simp only [if_true, if_neg hx]
        · rw [show lRen (absP S) s t = absP S from by unfold lRen; rw [hn, fT_some hl]; simp only [if_true, if_neg hx]]
          exact PS.up hb
/-- Append -/
theorem p_append {w : World} {bd : Nat} {S : DS} {room : Int} (h : DiskIs w bd S) (hb : PB S room) (s : ByteArray) (hs : s.size ≤ 9223372036854775807) (va : Option Addr) (vc : Nat) (bs : List Int) (hv0 : BytesV w (.slice va bs.length vc) bs) (hvr : ∀ b, dBlock (.slice va bs.length vc) bs = some b → S.role b = .none) (hb63 : bs.length ≤ 4611686018427387904) :
    Calls Try.prog 14 #[.pointer (some ⟨bd, 0, none⟩), .string s, .slice va bs.length vc] w fun e w' => e = .returned (.int .i64 (eApp (absP S) room s bs)) ∧ ∃ S', DiskIs w' bd S' ∧ Fr w w' S S' ∧ PS S S' (nameB s) (lApp (absP S) room s bs) := by
  have hrm := hb.rm
  have hr0 := hb.r0
  have hT := total_sumT S
  have hsum := hb.wf.sum
  have hlen : (absP S).length = S.fs.length := by unfold absP; rw [List.length_map]
  have hl16 := hb.wf.len
  cases hn : nameB s with
  | false =>
    obtain ⟨h1, h2⟩ := st_no hb (ns := [s]) (by rw [okN1]; exact hn)
    refine (append_no h hb.cnt s hs _ (by rw [h1]; simp)).mono ?_
    rintro e w' ⟨rfl, hD, hF⟩
    rw [h2] at hD hF
    exact ⟨by simp [h1, eApp, hn], S, hD, hF, by rw [show lApp (absP S) room s bs = absP S from by simp [lApp, hn]]; exact PS.no hb⟩
  | true =>
    obtain ⟨h1, h2⟩ := st_ok hb (ns := [s]) (by rw [okN1]; exact hn)
    cases hl : look S.fs (nb s) with
    | none =>
      have hfn := fT_none hl
      by_cases h16 : 16 ≤ S.fs.length
      · refine (append_big h hb.cnt s hs _ h1 hl h16 (by omega)).mono ?_
        rintro e w' ⟨rfl, hD, hF⟩
        rw [h2] at hD hF
        have hc : fT (absP S) (nb s) = none ∧ 16 ≤ (absP S).length := ⟨hfn, by omega⟩
        exact ⟨by simp only [eApp, hn, if_true, if_pos hc], _, hD, hF, by rw [show lApp (absP S) room s bs = absP S from by simp only [lApp, hn, if_true, if_pos hc]]; exact PS.up hb⟩
      · have hc : ¬ (fT (absP S) (nb s) = none ∧ 16 ≤ (absP S).length) := fun hc => h16 (by omega)
        by_cases hf : room < (sumT (absP S) : Int) + bs.length
        · refine (append_full_new h hb.cnt s hs va vc bs hb63 h1 hl (by omega) (by omega) (by omega) (by omega) (by omega)).mono ?_
          rintro e w' ⟨rfl, hD, hF⟩
          rw [h2] at hD hF
          exact ⟨by simp only [eApp, hn, if_true, if_neg hc, if_pos hf], _, hD, hF, by rw [show lApp (absP S) room s bs = absP S from by simp only [lApp, hn, if_true, if_neg hc, if_pos hf]]; exact PS.up hb⟩
        · refine (append_new h hb.cnt s hs _ bs hv0 hvr h1 hl (by omega) (by omega) (by omega)).mono ?_
          rintro e w' ⟨rfl, sl, gg, z, hD, hF⟩
          rw [h2] at hD hF
          refine ⟨by simp only [eApp, hn, if_true, if_neg hc, if_neg hf], _, hD, hF, rfl, rfl, rfl, hb.plan, by simp [addFl], ?_⟩
          rw [show lApp (absP S) room s bs = putT (absP S) (nb s, bs, 0) from by unfold lApp; rw [if_pos hn, if_neg hc, if_neg hf, hfn]]
          rw [absP_put { S with down := false, steps := S.steps + 1 } _ (nb s) gg S.fs rfl (fun m hm => if_neg hm)]
          have e1 : ((addFl { S with down := false, steps := S.steps + 1 } s.data.toList gg { sl := sl, bs := bs, safe := 0 } z).fl (nb s)) = { sl := sl, bs := bs, safe := 0 } := if_pos rfl
          rw [e1]
          rfl
    | some g =>
      have hfs := fT_some hl
      have hc : ¬ (fT (absP S) (nb s) = none ∧ 16 ≤ (absP S).length) := fun hc => by rw [hfs] at hc; cases hc.1
      have hle : (S.fl (nb s)).bs.length ≤ 1073741824 := by
        have h3 := (del_here (p := ((nb s, (S.fl (nb s)).bs, (S.fl (nb s)).safe) : Tf)) rfl (fT_mem hfs).1).2
        simp only at h3
        omega
      by_cases hf : room < (sumT (absP S) : Int) + bs.length
      · refine (append_full_old h hb.cnt s hs va vc bs hb63 h1 hl (by omega) (by omega) (by omega) (by omega)).mono ?_
        rintro e w' ⟨rfl, hD, hF⟩
        rw [h2] at hD hF
        exact ⟨by simp only [eApp, hn, if_true, if_neg hc, if_pos hf], _, hD, hF, by rw [show lApp (absP S) room s bs = absP S from by simp only [lApp, hn, if_true, if_neg hc, if_pos hf]]; exact PS.up hb⟩
      · refine (append_old h hb.cnt s hs _ bs hv0 hvr h1 hl (by omega) (by omega) (by rw [h2]; exact hle)).mono ?_
        rintro e w' ⟨rfl, sl, z, hD, hF⟩
        rw [h2] at hD hF
        refine ⟨by simp only [eApp, hn, if_true, if_neg hc, if_neg hf], _, hD, hF, rfl, rfl, rfl, hb.plan, by simp [setFl], ?_⟩
        rw [absP_set]
        simp only [lApp, hn, if_true, if_neg hc, if_neg hf, hfs]
        rfl
end Go.Proofs.Ytllkpnlgemjgfaa
