/- disk: the document's calls by what they tell. -/
import Derived.Test.YtllkpnlgemjgfaaCD
namespace Go.Proofs.Ytllkpnlgemjgfaa
open Go.RowKit Go.Maps Go.Joins
set_option linter.unusedSimpArgs false
set_option linter.unusedVariables false
structure RB (R : RS) (ro : Int) : Prop where
  down : R.down = false
  plan : R.plan = []
  cnt : Rn R
  rm : R.room = ro
  r0 : 0 ≤ ro ∧ ro ≤ 1073741824
  wf : Wf (absR R.A) ro
  srt : Srt (absR R.A)
structure RPS (R R' : RS) (ok : Bool) (l : List Tf) : Prop where
  room : R'.room = R.room
  down : R'.down = false
  plan : R'.plan = []
  n : R'.n = R.n + (if ok then 1 else 0)
  abs : absR R'.A = l
theorem RB.planR {R : RS} {ro : Int} (h : RB R ro) : PlanR R := PlanR.nil h.plan
theorem rst_ok {R : RS} {ro : Int} (h : RB R ro) {a b : ByteArray} (hn : (nameB a && nameB b) = true) : rstE R a b = 0 ∧ rstS R a b = { R with n := R.n + 1 } := by
  constructor
  · unfold rstE; rw [h.down, hn, rplK_nil h.plan]; rfl
  · unfold rstS; rw [h.down, hn, rplK_nil h.plan]; simp [h.down]
theorem rst_no {R : RS} {ro : Int} (h : RB R ro) {a b : ByteArray} (hn : (nameB a && nameB b) = false) : rstE R a b = 1 ∧ rstS R a b = R := by
  constructor
  · unfold rstE; rw [h.down, hn]; rfl
  · unfold rstS; rw [h.down, hn]; rfl
theorem RPS.no {R : RS} {ro : Int} (h : RB R ro) : RPS R R false (absR R.A) := ⟨rfl, h.down, h.plan, by simp, rfl⟩
theorem RPS.up {R : RS} {ro : Int} (h : RB R ro) : RPS R { R with n := R.n + 1 } true (absR R.A) := ⟨rfl, h.down, h.plan, by simp, rfl⟩
theorem RB.len {R : RS} {ro : Int} (h : RB R ro) : R.A.length ≤ 16 := by
  have := h.wf.len
  unfold absR at this
  rw [List.length_map] at this
  exact this
theorem idx_cases (s : ByteArray) (A : List RF) : idxR s A = -1 ∨ ∃ k f, idxR s A = (k : Nat) ∧ A[k]? = some f := by
  rcases Int.lt_or_le (idxR s A) 0 with h | h
  · have := idxR_ge s A
    exact Or.inl (by omega)
  · obtain ⟨k, f, h1, h2, _⟩ := idxR_some h
    exact Or.inr ⟨k, f, h1, h2⟩
theorem nn (s : ByteArray) : (nameB s && nameB s) = nameB s := by cases nameB s <;> rfl
theorem rth_no {R : RS} {ro : Int} (h : RB R ro) {a b : ByteArray} (hn : (nameB a && nameB b) = false) : rthE R a b = 1 := by
  unfold rthE; rw [(rst_no h hn).1]; rfl
theorem rth_gone {R : RS} {ro : Int} (h : RB R ro) {a b : ByteArray} (hn : (nameB a && nameB b) = true) (hi : idxR a R.A = -1) : rthE R a b = 33 := by
  unfold rthE; rw [(rst_ok h hn).1, hi]; rfl
theorem rth_here {R : RS} {ro : Int} (h : RB R ro) {a b : ByteArray} (hn : (nameB a && nameB b) = true) {k : Nat} (hi : idxR a R.A = (k : Nat)) : rthE R a b = 0 := by
  unfold rthE; rw [(rst_ok h hn).1, hi]; simp
theorem r_sync {w : World} {br : Nat} {R : RS} {ro : Int} (h : RefIs w br R) (hb : RB R ro) (s : ByteArray) (hs : s.size ≤ 9223372036854775807) :
    Calls Try.prog 17 #[.pointer (some ⟨br, 0, none⟩), .string s] w fun e w' => e = .returned (.int .i64 (eFind (absR R.A) s)) ∧ ∃ R', RefIs w' br R' ∧ RFr w w' R R' ∧ RPS R R' (nameB s) (lSync (absR R.A) s) := by
  have hl := hb.len
  cases hn : nameB s with
  | false =>
    have hnn : (nameB s && nameB s) = false := by rw [nn]; exact hn
    refine (rsync_no h hb.planR hb.cnt (by omega) s hs (by rw [rth_no hb hnn]; simp)).mono ?_
    rintro e w' ⟨rfl, hD, hF⟩
    rw [(rst_no hb hnn).2] at hD hF
    exact ⟨by rw [rth_no hb hnn]; simp [eFind, hn], R, hD, hF, by rw [show lSync (absR R.A) s = absR R.A from by simp [lSync, hn]]; exact RPS.no hb⟩
  | true =>
    have hnn : (nameB s && nameB s) = true := by rw [nn]; exact hn
    rcases idx_cases s R.A with hi | ⟨k, f, hi, hkf⟩
    · refine (rsync_no h hb.planR hb.cnt (by omega) s hs (by rw [rth_gone hb hnn hi]; simp)).mono ?_
      rintro e w' ⟨rfl, hD, hF⟩
      rw [(rst_ok hb hnn).2] at hD hF
      exact ⟨by rw [rth_gone hb hnn hi]; simp [eFind, hn, fT_absR_none hi], _, hD, hF, by rw [show lSync (absR R.A) s = absR R.A from by simp [lSync, hn, fT_absR_none hi]]; exact RPS.up hb⟩
    · obtain ⟨hf1, hf2⟩ := fT_absR_some hi hkf
      refine (rsync_ok h hb.planR hb.cnt (by omega) s hs (rth_here hb hnn hi) hi hkf).mono ?_
      rintro e w' ⟨rfl, hD, hF⟩
      rw [(rst_ok hb hnn).2] at hD hF
      refine ⟨by simp [eFind, hn, hf1], _, hD, hF, rfl, hb.down, hb.plan, by simp, ?_⟩
      show absR (R.A.set k { f with sf := (f.bs.length : Int) }) = _
      rw [absR_set hb.srt hkf hf2 (f' := { f with sf := (f.bs.length : Int) }) hf2]
      simp only [lSync, hn, hf1, if_true]
      rfl
theorem r_remove {w : World} {br : Nat} {R : RS} {ro : Int} (h : RefIs w br R) (hb : RB R ro) (s : ByteArray) (hs : s.size ≤ 9223372036854775807) :
    Calls Try.prog 30 #[.pointer (some ⟨br, 0, none⟩), .string s] w fun e w' => e = .returned (.int .i64 (eFind (absR R.A) s)) ∧ ∃ R', RefIs w' br R' ∧ RFr w w' R R' ∧ RPS R R' (nameB s) (lRem (absR R.A) s) := by
  have hl := hb.len
  cases hn : nameB s with
  | false =>
    have hnn : (nameB s && nameB s) = false := by rw [nn]; exact hn
    refine (rremove_no h hb.planR hb.cnt (by omega) s hs (by rw [rth_no hb hnn]; simp)).mono ?_
    rintro e w' ⟨rfl, hD, hF⟩
    rw [(rst_no hb hnn).2] at hD hF
    exact ⟨by rw [rth_no hb hnn]; simp [eFind, hn], R, hD, hF, by rw [show lRem (absR R.A) s = absR R.A from by simp [lRem, hn]]; exact RPS.no hb⟩
  | true =>
    have hnn : (nameB s && nameB s) = true := by rw [nn]; exact hn
    rcases idx_cases s R.A with hi | ⟨k, f, hi, hkf⟩
    · refine (rremove_no h hb.planR hb.cnt (by omega) s hs (by rw [rth_gone hb hnn hi]; simp)).mono ?_
      rintro e w' ⟨rfl, hD, hF⟩
      rw [(rst_ok hb hnn).2] at hD hF
      exact ⟨by rw [rth_gone hb hnn hi]; simp [eFind, hn, fT_absR_none hi], _, hD, hF, by rw [show lRem (absR R.A) s = absR R.A from by simp [lRem, hn, fT_absR_none hi]]; exact RPS.up hb⟩
    · obtain ⟨hf1, hf2⟩ := fT_absR_some hi hkf
      refine (rremove_ok h hb.planR hb.cnt (by omega) s hs (rth_here hb hnn hi) hi hkf).mono ?_
      rintro e w' ⟨rfl, ov, hD, hF⟩
      rw [(rst_ok hb hnn).2] at hD hF
      refine ⟨by simp [eFind, hn, hf1], _, hD, hF, rfl, hb.down, hb.plan, by simp [setA], ?_⟩
      show absR (dropR s R.A) = _
      rw [absR_drop]
      simp only [lRem, hn, hf1, if_true, Option.isSome_some]
theorem r_read {w : World} {br : Nat} {R : RS} {ro : Int} (h : RefIs w br R) (hb : RB R ro) (s : ByteArray) (hs : s.size ≤ 9223372036854775807) :
    Calls Try.prog 31 #[.pointer (some ⟨br, 0, none⟩), .string s] w fun e w' => ∃ v bs, e = .returned (.tuple #[v, .int .i64 (eFind (absR R.A) s)]) ∧ w'.ownsRow 0 5 1 v bs.length (vB bs) ∧ bs = (match fT (absR R.A) (nb s) with | some p => if nameB s then p.2.1 else [] | none => []) ∧ ∃ R', RefIs w' br R' ∧ RFr w w' R R' ∧ RPS R R' (nameB s) (absR R.A) := by
  have hl := hb.len
  cases hn : nameB s with
  | false =>
    have hnn : (nameB s && nameB s) = false := by rw [nn]; exact hn
    refine (rread_no h hb.planR hb.cnt (by omega) s hs (by rw [rth_no hb hnn]; simp)).mono ?_
    rintro e w' ⟨rfl, hD, hF⟩
    rw [(rst_no hb hnn).2] at hD hF
    exact ⟨_, [], by rw [rth_no hb hnn]; simp [eFind, hn], World.ownsRow_nil _ _ _ _, by cases fT (absR R.A) (nb s) <;> simp, R, hD, hF, RPS.no hb⟩
  | true =>
    have hnn : (nameB s && nameB s) = true := by rw [nn]; exact hn
    rcases idx_cases s R.A with hi | ⟨k, f, hi, hkf⟩
    · refine (rread_no h hb.planR hb.cnt (by omega) s hs (by rw [rth_gone hb hnn hi]; simp)).mono ?_
      rintro e w' ⟨rfl, hD, hF⟩
      rw [(rst_ok hb hnn).2] at hD hF
      exact ⟨_, [], by rw [rth_gone hb hnn hi]; simp [eFind, hn, fT_absR_none hi], World.ownsRow_nil _ _ _ _, by rw [fT_absR_none hi], _, hD, hF, RPS.up hb⟩
    · obtain ⟨hf1, hf2⟩ := fT_absR_some hi hkf
      have hle : f.bs.length ≤ 1073741824 := by
        have h3 := (del_here (p := tR f) rfl (fT_mem hf1).1).2
        have h4 := hb.wf.sum
        have h5 := hb.r0
        simp only [tR] at h3
        omega
      refine (rread_ok h hb.planR hb.cnt (by omega) s hs (rth_here hb hnn hi) hi hkf hle).mono ?_
      rintro e w' ⟨v', rfl, ho, hD, hF⟩
      rw [(rst_ok hb hnn).2] at hD hF
      exact ⟨v', f.bs, by simp [eFind, hn, hf1], ownsRow_le ho (Nat.zero_le _), by rw [hf1]; simp [tR], _, hD, hF, RPS.up hb⟩
theorem r_trunc {w : World} {br : Nat} {R : RS} {ro : Int} (h : RefIs w br R) (hb : RB R ro) (s : ByteArray) (hs : s.size ≤ 9223372036854775807) (x : Int) :
    Calls Try.prog 28 #[.pointer (some ⟨br, 0, none⟩), .string s, .int .i64 x] w fun e w' => e = .returned (.int .i64 (eTru (absR R.A) s x)) ∧ ∃ R', RefIs w' br R' ∧ RFr w w' R R' ∧ RPS R R' (nameB s) (lTru (absR R.A) s x) := by
  have hl := hb.len
  cases hn : nameB s with
  | false =>
    have hnn : (nameB s && nameB s) = false := by rw [nn]; exact hn
    refine (rtrunc_no h hb.planR hb.cnt (by omega) s hs x (by rw [rth_no hb hnn]; simp)).mono ?_
    rintro e w' ⟨rfl, hD, hF⟩
    rw [(rst_no hb hnn).2] at hD hF
    exact ⟨by rw [rth_no hb hnn]; simp [eTru, hn], R, hD, hF, by rw [show lTru (absR R.A) s x = absR R.A from by simp [lTru, hn]]; exact RPS.no hb⟩
  | true =>
    have hnn : (nameB s && nameB s) = true := by rw [nn]; exact hn
    rcases idx_cases s R.A with hi | ⟨k, f, hi, hkf⟩
    · refine (rtrunc_no h hb.planR hb.cnt (by omega) s hs x (by rw [rth_gone hb hnn hi]; simp)).mono ?_
      rintro e w' ⟨rfl, hD, hF⟩
      rw [(rst_ok hb hnn).2] at hD hF
      exact ⟨by rw [rth_gone hb hnn hi]; simp [eTru, hn, fT_absR_none hi], _, hD, hF, by rw [show lTru (absR R.A) s x = absR R.A from by simp [lTru, hn, fT_absR_none hi]]; exact RPS.up hb⟩
    · obtain ⟨hf1, hf2⟩ := fT_absR_some hi hkf
      by_cases hx : x < 0 ∨ (f.bs.length : Int) < x
      · refine (rtrunc_arg h hb.planR hb.cnt (by omega) s hs x (rth_here hb hnn hi) hi hkf hx).mono ?_
        rintro e w' ⟨rfl, hD, hF⟩
        rw [(rst_ok hb hnn).2] at hD hF
        have hx' : x < 0 ∨ ((tR f).2.1.length : Int) < x := hx
        refine ⟨by simp only [eTru, hn, hf1, if_true, if_pos hx'], _, hD, hF, ?_⟩
        rw [show lTru (absR R.A) s x = absR R.A from by simp only [lTru, hn, hf1, if_true, if_pos hx']]
        exact RPS.up hb
      · refine (rtrunc_ok h hb.planR hb.cnt (by omega) s hs x (rth_here hb hnn hi) hi hkf (by omega) (by omega)).mono ?_
        rintro e w' ⟨rfl, ba, bc, hD, hF⟩
        rw [(rst_ok hb hnn).2] at hD hF
        have hx' : ¬ (x < 0 ∨ ((tR f).2.1.length : Int) < x) := hx
        refine ⟨by simp only [eTru, hn, hf1, if_true, if_neg hx'], _, hD, hF, rfl, hb.down, hb.plan, by simp, ?_⟩
        show absR (R.A.set k { f with bv := .slice ba x.toNat bc, bs := f.bs.take x.toNat, sf := x }) = _
        rw [absR_set hb.srt hkf hf2 (f' := { f with bv := .slice ba x.toNat bc, bs := f.bs.take x.toNat, sf := x }) hf2]
        simp only [lTru, hn, hf1, if_true, if_neg hx']
        rfl
theorem srt_del {l : List Tf} (h : Srt l) (n : List UInt8) : Srt (delT l n) := List.Pairwise.sublist List.filter_sublist h
theorem r_rename {w : World} {br : Nat} {R : RS} {ro : Int} (h : RefIs w br R) (hb : RB R ro) (s t : ByteArray) (hs : s.size ≤ 9223372036854775807) (ht : t.size ≤ 9223372036854775807) :
    Calls Try.prog 29 #[.pointer (some ⟨br, 0, none⟩), .string s, .string t] w fun e w' => e = .returned (.int .i64 (eRen (absR R.A) s t)) ∧ ∃ R', RefIs w' br R' ∧ RFr w w' R R' ∧ RPS R R' (nameB s && nameB t) (lRen (absR R.A) s t) := by
  have hl := hb.len
  cases hn : (nameB s && nameB t) with
  | false =>
    refine (rrename_no h hb.planR hb.cnt (by omega) s t hs ht (by rw [rth_no hb hn]; simp)).mono ?_
    rintro e w' ⟨rfl, hD, hF⟩
    rw [(rst_no hb hn).2] at hD hF
    exact ⟨by rw [rth_no hb hn]; unfold eRen; rw [hn]; simp, R, hD, hF, by rw [show lRen (absR R.A) s t = absR R.A from by unfold lRen; rw [hn]; simp]; exact RPS.no hb⟩
  | true =>
    rcases idx_cases s R.A with hi | ⟨k, f, hi, hkf⟩
    · refine (rrename_no h hb.planR hb.cnt (by omega) s t hs ht (by rw [rth_gone hb hn hi]; simp)).mono ?_
      rintro e w' ⟨rfl, hD, hF⟩
      rw [(rst_ok hb hn).2] at hD hF
      exact ⟨by rw [rth_gone hb hn hi]; unfold eRen; rw [hn, fT_absR_none hi]; simp, _, hD, hF, by rw [show lRen (absR R.A) s t = absR R.A from by unfold lRen; rw [hn, fT_absR_none hi]; simp]; exact RPS.up hb⟩
    · obtain ⟨hf1, hf2⟩ := fT_absR_some hi hkf
      by_cases hx : f.sf = (f.bs.length : Int)
      · refine (rrename_ok h hb.planR hb.cnt (by omega) s t hs ht (rth_here hb hn hi) hi hkf hx).mono ?_
        rintro e w' ⟨rfl, ov, ov2, hD, hF⟩
        rw [(rst_ok hb hn).2] at hD hF
        have hx' : (tR f).2.2 = ((tR f).2.1.length : Int) := hx
        refine ⟨by unfold eRen; rw [hn, hf1]; simp only [if_true, if_pos hx'], _, hD, hF, rfl, hb.down, hb.plan, by simp [setA], ?_⟩
        show absR (putR { f with nm := t } (dropR s R.A)) = _
        rw [putR_rec, absR_put _ _ (by rw [absR_drop]; exact srt_del hb.srt _), absR_drop]
        unfold lRen
        rw [hn, hf1]
        simp only [if_true, if_pos hx']
        rfl
      · refine (rrename_arg h hb.planR hb.cnt (by omega) s t hs ht (rth_here hb hn hi) hi hkf hx).mono ?_
        rintro e w' ⟨rfl, hD, hF⟩
        rw [(rst_ok hb hn).2] at hD hF
        have hx' : ¬ (tR f).2.2 = ((tR f).2.1.length : Int) := hx
        refine ⟨by unfold eRen; rw [hn, hf1]; simp only [if_true, if_neg hx'], _, hD, hF, ?_⟩
        rw [show lRen (absR R.A) s t = absR R.A from by unfold lRen; rw [hn, hf1]; simp only [if_true, if_neg hx']]
        exact RPS.up hb
theorem r_append {w : World} {br : Nat} {R : RS} {ro : Int} (h : RefIs w br R) (hb : RB R ro) (s : ByteArray) (hs : s.size ≤ 9223372036854775807) (va : Option Addr) (vc : Nat) (bs : List Int) (hv0 : BytesV w (.slice va bs.length vc) bs) (hvr : ∀ b, dBlock (.slice va bs.length vc) bs = some b → R.own b = 0) (hb63 : bs.length ≤ 4611686018427387904) :
    Calls Try.prog 16 #[.pointer (some ⟨br, 0, none⟩), .string s, .slice va bs.length vc] w fun e w' => e = .returned (.int .i64 (eApp (absR R.A) ro s bs)) ∧ ∃ R', RefIs w' br R' ∧ RFr w w' R R' ∧ RPS R R' (nameB s) (lApp (absR R.A) ro s bs) := by
  have hl := hb.len
  have hrm := hb.rm
  have hr0 := hb.r0
  have hT := sumA_sumT R.A
  have hsum := hb.wf.sum
  have hlen : (absR R.A).length = R.A.length := by unfold absR; rw [List.length_map]
  cases hn : nameB s with
  | false =>
    have hnn : (nameB s && nameB s) = false := by rw [nn]; exact hn
    refine (rappend_no h hb.planR hb.cnt s hs _ (by rw [(rst_no hb hnn).1]; simp)).mono ?_
    rintro e w' ⟨rfl, hD, hF⟩
    rw [(rst_no hb hnn).2] at hD hF
    exact ⟨by rw [(rst_no hb hnn).1]; simp [eApp, hn], R, hD, hF, by rw [show lApp (absR R.A) ro s bs = absR R.A from by simp [lApp, hn]]; exact RPS.no hb⟩
  | true =>
    have hnn : (nameB s && nameB s) = true := by rw [nn]; exact hn
    have h1 := (rst_ok hb hnn).1
    rcases idx_cases s R.A with hi | ⟨k, f, hi, hkf⟩
    · have hfn := fT_absR_none hi
      by_cases h16 : 16 ≤ R.A.length
      · refine (rappend_big h hb.planR hb.cnt (by omega) s hs va vc bs hv0 hvr hb63 h1 hi h16).mono ?_
        rintro e w' ⟨rfl, hD, hF⟩
        rw [(rst_ok hb hnn).2] at hD hF
        have hc : fT (absR R.A) (nb s) = none ∧ 16 ≤ (absR R.A).length := ⟨hfn, by omega⟩
        exact ⟨by simp only [eApp, hn, if_true, if_pos hc], _, hD, hF, by rw [show lApp (absR R.A) ro s bs = absR R.A from by simp only [lApp, hn, if_true, if_pos hc]]; exact RPS.up hb⟩
      · have hc : ¬ (fT (absR R.A) (nb s) = none ∧ 16 ≤ (absR R.A).length) := fun hc => h16 (by omega)
        by_cases hf : ro < (sumT (absR R.A) : Int) + bs.length
        · refine (rappend_full_new h hb.planR hb.cnt (by omega) s hs va vc bs hv0 hvr hb63 h1 hi (by omega) (by omega) (by omega) (by omega) (by omega)).mono ?_
          rintro e w' ⟨rfl, hD, hF⟩
          rw [(rst_ok hb hnn).2] at hD hF
          exact ⟨by simp only [eApp, hn, if_true, if_neg hc, if_pos hf], _, hD, hF, by rw [show lApp (absR R.A) ro s bs = absR R.A from by simp only [lApp, hn, if_true, if_neg hc, if_pos hf]]; exact RPS.up hb⟩
        · refine (rappend_ok_new h hb.planR hb.cnt (by omega) s hs va vc bs hv0 hvr hb63 h1 hi (by omega) (by omega) (by omega)).mono ?_
          rintro e w' ⟨rfl, ov, bv, hD, hF, _⟩
          rw [(rst_ok hb hnn).2] at hD hF
          refine ⟨by simp only [eApp, hn, if_true, if_neg hc, if_neg hf], _, hD, hF, rfl, hb.down, hb.plan, by simp [setA], ?_⟩
          show absR (putR { nm := s, bv := bv, bs := bs, sf := 0 } R.A) = _
          rw [putR_rec, absR_put _ _ hb.srt]
          unfold lApp
          rw [if_pos hn, if_neg hc, if_neg hf, hfn]
          rfl
    · obtain ⟨hf1, hf2⟩ := fT_absR_some hi hkf
      have hc : ¬ (fT (absR R.A) (nb s) = none ∧ 16 ≤ (absR R.A).length) := fun hc => by rw [hf1] at hc; cases hc.1
      by_cases hf : ro < (sumT (absR R.A) : Int) + bs.length
      · refine (rappend_full_old h hb.planR hb.cnt (by omega) s hs va vc bs hv0 hvr hb63 h1 hi hkf (by omega) (by omega) (by omega) (by omega)).mono ?_
        rintro e w' ⟨rfl, hD, hF⟩
        rw [(rst_ok hb hnn).2] at hD hF
        exact ⟨by simp only [eApp, hn, if_true, if_neg hc, if_pos hf], _, hD, hF, by rw [show lApp (absR R.A) ro s bs = absR R.A from by simp only [lApp, hn, if_true, if_neg hc, if_pos hf]]; exact RPS.up hb⟩
      · refine (rappend_ok_old h hb.planR hb.cnt (by omega) s hs va vc bs hv0 hvr hb63 h1 hi hkf (by omega) (by omega)).mono ?_
        rintro e w' ⟨rfl, ov, bv, hD, hF, _⟩
        rw [(rst_ok hb hnn).2] at hD hF
        refine ⟨by simp only [eApp, hn, if_true, if_neg hc, if_neg hf], _, hD, hF, rfl, hb.down, hb.plan, by simp [setA], ?_⟩
        show absR (putR { f with bv := bv, bs := f.bs ++ bs } R.A) = _
        rw [putR_rec, absR_put _ _ hb.srt]
        unfold lApp
        rw [if_pos hn, if_neg hc, if_neg hf, hf1]
        have e1 : tR { f with bv := bv, bs := f.bs ++ bs } = (nb s, f.bs ++ bs, f.sf) := by unfold tR; rw [hf2]
        rw [e1]
        have hm := fT_mem hf1
        exact putT_here hb.srt ⟨_, hm.1, hm.2⟩
end Go.Proofs.Ytllkpnlgemjgfaa
