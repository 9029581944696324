/- disk: the program's calls by what they tell. -/
import Derived.Test.YtllkpnlgemjgfaaGC
namespace Go.Proofs.Ytllkpnlgemjgfaa
open Go.RowKit Go.Maps Go.Joins
set_option linter.unusedSimpArgs false
set_option linter.unusedVariables false
abbrev nb (s : ByteArray) : List UInt8 := s.data.toList
def eFind (l : List Tf) (s : ByteArray) : Int := if nameB s then (if (fT l (nb s)).isSome then 0 else 33) else 1
def lSync (l : List Tf) (s : ByteArray) : List Tf := if nameB s then (match fT l (nb s) with | some p => setT l (nb s) p.2.1 p.2.1.length | none => l) else l
def lRem (l : List Tf) (s : ByteArray) : List Tf := if nameB s then (if (fT l (nb s)).isSome then delT l (nb s) else l) else l
def eTru (l : List Tf) (s : ByteArray) (x : Int) : Int := if nameB s then (match fT l (nb s) with | some p => if x < 0 ∨ (p.2.1.length : Int) < x then 1 else 0 | none => 33) else 1
def lTru (l : List Tf) (s : ByteArray) (x : Int) : List Tf := if nameB s then (match fT l (nb s) with | some p => if x < 0 ∨ (p.2.1.length : Int) < x then l else setT l (nb s) (p.2.1.take x.toNat) x | none => l) else l
def eRen (l : List Tf) (s t : ByteArray) : Int := if nameB s && nameB t then (match fT l (nb s) with | some p => if p.2.2 = p.2.1.length then 0 else 1 | none => 33) else 1
def lRen (l : List Tf) (s t : ByteArray) : List Tf := if nameB s && nameB t then (match fT l (nb s) with | some p => if p.2.2 = p.2.1.length then putT (delT l (nb s)) (nb t, p.2.1, p.2.2) else l | none => l) else l
def eApp (l : List Tf) (room : Int) (s : ByteArray) (bs : List Int) : Int := if nameB s then (if fT l (nb s) = none ∧ 16 ≤ l.length then 3 else if room < (sumT l : Int) + bs.length then 30 else 0) else 1
def lApp (l : List Tf) (room : Int) (s : ByteArray) (bs : List Int) : List Tf := if nameB s then (if fT l (nb s) = none ∧ 16 ≤ l.length then l else if room < (sumT l : Int) + bs.length then l else (match fT l (nb s) with | some p => setT l (nb s) (p.2.1 ++ bs) p.2.2 | none => putT l (nb s, bs, 0))) else l
/-- A disk without faults. -/
structure PB (S : DS) (ro : Int) : Prop where
  down : S.down = false
  plan : ∀ x, S.plan x = 0
  cnt : Cnt S
  rm : S.room = ro
  r0 : 0 ≤ ro ∧ ro ≤ 1073741824
  wf : Wf (absP S) ro
/-- What a call leaves. -/
structure PS (S S' : DS) (ok : Bool) (l : List Tf) : Prop where
  room : S'.room = S.room
  down : S'.down = false
  armed : S'.armed = S.armed
  plan : ∀ x, S'.plan x = 0
  steps : S'.steps = S.steps + (if ok then 1 else 0)
  abs : absP S' = l
theorem st_ok {S : DS} {room : Int} (h : PB S room) {ns : List ByteArray} (hn : okN ns = true) : stepE S ns = 0 ∧ stepS S ns = { S with down := false, steps := S.steps + 1 } := by
  constructor
  · simp [stepE, h.down, hn, stK, h.plan, faultE]
  · simp [stepS, h.down, hn, stK, h.plan]
theorem st_no {S : DS} {room : Int} (h : PB S room) {ns : List ByteArray} (hn : okN ns = false) : stepE S ns = 1 ∧ stepS S ns = S := by
  constructor
  · simp [stepE, h.down, hn]
  · simp [stepS, h.down, hn]
theorem okN1 (s : ByteArray) : okN [s] = nameB s := by simp [okN]
theorem okN2 (s t : ByteArray) : okN [s, t] = (nameB s && nameB t) := by simp [okN]
theorem PS.no {S : DS} {room : Int} (h : PB S room) : PS S S false (absP S) := ⟨rfl, h.down, rfl, h.plan, by simp, rfl⟩
theorem PS.up {S : DS} {room : Int} (h : PB S room) : PS S { S with down := false, steps := S.steps + 1 } true (absP S) := ⟨rfl, rfl, rfl, h.plan, by simp, rfl⟩
theorem fT_none {S : DS} {n : List UInt8} (h : look S.fs n = none) : fT (absP S) n = none := by rw [fT_absP, h]; rfl
theorem fT_some {S : DS} {n : List UInt8} {g : Nat} (h : look S.fs n = some g) : fT (absP S) n = some (n, (S.fl n).bs, (S.fl n).safe) := by rw [fT_absP, h]; rfl
theorem findV1 {S : DS} {ns : List ByteArray} (h : stepE S ns = 0) : findV S ns = look S.fs (ns.headD ByteArray.empty).data.toList := by simp [findV, h]
/-- Sync -/
theorem p_sync {w : World} {bd : Nat} {S : DS} {room : Int} (h : DiskIs w bd S) (hb : PB S room) (s : ByteArray) (hs : s.size ≤ 9223372036854775807) :
    Calls Try.prog 15 #[.pointer (some ⟨bd, 0, none⟩), .string s] w fun e w' => e = .returned (.int .i64 (eFind (absP S) s)) ∧ ∃ S', DiskIs w' bd S' ∧ Fr w w' S S' ∧ PS S S' (nameB s) (lSync (absP S) s) := by
  cases hn : nameB s with
  | false =>
    obtain ⟨h1, h2⟩ := st_no hb (ns := [s]) (by rw [okN1]; exact hn)
    have hf : findV S [s] = none := by simp [findV, h1]
    refine (sync_no h hb.cnt s hs hf).mono ?_
    rintro e w' ⟨rfl, hD, hF⟩
    rw [h2] at hD hF
    exact ⟨by simp [findE, h1, eFind, hn], S, hD, hF, by rw [show lSync (absP S) s = absP S from by simp [lSync, hn]]; exact PS.no hb⟩
  | true =>
    obtain ⟨h1, h2⟩ := st_ok hb (ns := [s]) (by rw [okN1]; exact hn)
    have hv : findV S [s] = look S.fs (nb s) := findV1 h1
    cases hl : look S.fs (nb s) with
    | none =>
      rw [hl] at hv
      refine (sync_no h hb.cnt s hs hv).mono ?_
      rintro e w' ⟨rfl, hD, hF⟩
      rw [h2] at hD hF
      exact ⟨by simp [findE, h1, hv, eFind, hn, fT_none hl], _, hD, hF, by rw [show lSync (absP S) s = absP S from by simp [lSync, hn, fT_none hl]]; exact PS.up hb⟩
    | some g =>
      rw [hl] at hv
      have hlen : ∀ p ∈ S.fs, (S.fl p.1).bs.length ≤ 1073741824 := fun p hp => by
        have h3 := (del_here (n := p.1) (p := ((p.1, (S.fl p.1).bs, (S.fl p.1).safe) : Tf)) rfl (l := absP S) (List.mem_map_of_mem (f := fun p => ((p.1, (S.fl p.1).bs, (S.fl p.1).safe) : Tf)) hp)).2
        have h4 := hb.wf.sum
        have h5 := hb.r0
        simp only at h3
        omega
      refine (sync_ok h hb.cnt s hs hv hlen).mono ?_
      rintro e w' ⟨rfl, z, hD, hF⟩
      rw [h2] at hD hF
      refine ⟨by simp [eFind, hn, fT_some hl], _, hD, hF, rfl, rfl, rfl, hb.plan, by simp [setFl], ?_⟩
      rw [absP_set]
      simp only [lSync, hn, fT_some hl, if_true]
      rfl
/-- Remove -/
theorem p_remove {w : World} {bd : Nat} {S : DS} {room : Int} (h : DiskIs w bd S) (hb : PB S room) (s : ByteArray) (hs : s.size ≤ 9223372036854775807) :
    Calls Try.prog 25 #[.pointer (some ⟨bd, 0, none⟩), .string s] w fun e w' => e = .returned (.int .i64 (eFind (absP S) s)) ∧ ∃ S', DiskIs w' bd S' ∧ Fr w w' S S' ∧ PS S S' (nameB s) (lRem (absP S) s) := by
  cases hn : nameB s with
  | false =>
    obtain ⟨h1, h2⟩ := st_no hb (ns := [s]) (by rw [okN1]; exact hn)
    have hf : findV S [s] = none := by simp [findV, h1]
    refine (remove_no h hb.cnt s hs hf).mono ?_
    rintro e w' ⟨rfl, hD, hF⟩
    rw [h2] at hD hF
    exact ⟨by simp [findE, h1, eFind, hn], S, hD, hF, by rw [show lRem (absP S) s = absP S from by simp [lRem, hn]]; exact PS.no hb⟩
  | true =>
    obtain ⟨h1, h2⟩ := st_ok hb (ns := [s]) (by rw [okN1]; exact hn)
    have hv : findV S [s] = look S.fs (nb s) := findV1 h1
    cases hl : look S.fs (nb s) with
    | none =>
      rw [hl] at hv
      refine (remove_no h hb.cnt s hs hv).mono ?_
      rintro e w' ⟨rfl, hD, hF⟩
      rw [h2] at hD hF
      exact ⟨by simp [findE, h1, hv, eFind, hn, fT_none hl], _, hD, hF, by rw [show lRem (absP S) s = absP S from by simp [lRem, hn, fT_none hl]]; exact PS.up hb⟩
    | some g =>
      rw [hl] at hv
      refine (remove_ok h hb.cnt s hs hv).mono ?_
      rintro e w' ⟨rfl, hD, hF⟩
      rw [h2] at hD hF
      refine ⟨by simp [eFind, hn, fT_some hl], _, hD, hF, rfl, rfl, rfl, hb.plan, by simp [delFs], ?_⟩
      rw [absP_del]
      simp only [lRem, hn, fT_some hl, if_true, Option.isSome_some]
      rfl
/-- Read -/
theorem p_read {w : World} {bd : Nat} {S : DS} {room : Int} (h : DiskIs w bd S) (hb : PB S room) (s : ByteArray) (hs : s.size ≤ 9223372036854775807) :
    Calls Try.prog 19 #[.pointer (some ⟨bd, 0, none⟩), .string s] w fun e w' => ∃ v bs, e = .returned (.tuple #[v, .int .i64 (eFind (absP S) s)]) ∧ w'.ownsRow 0 5 1 v bs.length (vB bs) ∧ bs = (match fT (absP S) (nb s) with | some p => if nameB s then p.2.1 else [] | none => []) ∧ (∀ b, v.ownBlock = some b → w.heap.size ≤ b ∧ S.role b = .none) ∧ ∃ S', DiskIs w' bd S' ∧ Fr w w' S S' ∧ PS S S' (nameB s) (absP S) := by
  cases hn : nameB s with
  | false =>
    obtain ⟨h1, h2⟩ := st_no hb (ns := [s]) (by rw [okN1]; exact hn)
    have hf : findV S [s] = none := by simp [findV, h1]
    refine (read_no h hb.cnt s hs hf).mono ?_
    rintro e w' ⟨rfl, hD, hF⟩
    rw [h2] at hD hF
    exact ⟨_, [], by simp [findE, h1, eFind, hn], World.ownsRow_nil _ _ _ _, by cases fT (absP S) (nb s) <;> simp, fun b hb => (by cases hb), S, hD, hF, PS.no hb⟩
  | true =>
    obtain ⟨h1, h2⟩ := st_ok hb (ns := [s]) (by rw [okN1]; exact hn)
    have hv : findV S [s] = look S.fs (nb s) := findV1 h1
    cases hl : look S.fs (nb s) with
    | none =>
      rw [hl] at hv
      refine (read_no h hb.cnt s hs hv).mono ?_
      rintro e w' ⟨rfl, hD, hF⟩
      rw [h2] at hD hF
      exact ⟨_, [], by simp [findE, h1, hv, eFind, hn, fT_none hl], World.ownsRow_nil _ _ _ _, by rw [fT_none hl], fun b hb => (by cases hb), _, hD, hF, PS.up hb⟩
    | some g =>
      rw [hl] at hv
      have hlen : (S.fl (nb s)).bs.length ≤ 1073741824 := by
        have h3 := (del_here (p := ((nb s, (S.fl (nb s)).bs, (S.fl (nb s)).safe) : Tf)) rfl (fT_mem (fT_some hl)).1).2
        have h4 := hb.wf.sum
        have h5 := hb.r0
        simp only at h3
        omega
      refine (read_ok h hb.cnt s hs hv (by rw [h2]; show (S.fl (nb s)).bs.length ≤ _; omega)).mono ?_
      rintro e w' ⟨v', rfl, ho, hvb, hD, hF⟩
      rw [h2] at ho hD hF
      exact ⟨v', (S.fl (nb s)).bs, by simp [eFind, hn, fT_some hl], ho, by rw [fT_some hl]; simp, hvb, _, hD, hF, PS.up hb⟩
end Go.Proofs.Ytllkpnlgemjgfaa
