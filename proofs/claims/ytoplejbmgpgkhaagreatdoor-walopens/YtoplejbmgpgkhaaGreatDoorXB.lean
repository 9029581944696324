/- wal: WalOpens: both disks, side by side. -/
import Derived.Test.YtoplejbmgpgkhaaGreatDoorGXA
import Derived.Test.YtoplejbmgpgkhaaGreatDoorX8
namespace Go.Proofs.YtoplejbmgpgkhaaGreatDoor
open Go.RowKit Go.Maps Go.Joins Go.Sort
set_option linter.unusedVariables false
set_option linter.unusedSimpArgs false
/-- Both disks; nothing of what lay in w0 is theirs. -/
structure D2 (w0 w : World) (bd br : Nat) (S : DS) (R : RS) (ro : Int) (A B : DA) : Prop where
  disk : DiskIs w bd S
  gb : GB S ro
  a : absD S = A
  ref : RefIs w br R
  hb : HB R ro
  b : absQ R = B
  apart : ∀ b, R.own b ≠ 0 → S.role b = .none
  vars : Vars w
  fr : Below w0.heap.size w0 w
  off : ∀ b, b < w0.heap.size → S.role b = .none ∧ R.own b = 0
  v0 : 4 ≤ w0.heap.size
theorem D2.below {w0 w w' : World} {bd br : Nat} {S : DS} {R : RS} {ro : Int} {A B : DA} (h : D2 w0 w bd br S R ro A B) (hb : Below w.heap.size w w') : D2 w0 w' bd br S R ro A B :=
  ⟨h.disk.below hb, h.gb, h.a, h.ref.below hb, h.hb, h.b, h.apart, h.vars.below hb, h.fr.trans (hb.mono h.fr.size), h.off, h.v0⟩
theorem D2.rnone {w0 w : World} {bd br : Nat} {S : DS} {R : RS} {ro : Int} {A B : DA} (h : D2 w0 w bd br S R ro A B) {b : Nat} (hb : S.role b ≠ .none) : R.own b = 0 := by
  cases h1 : R.own b with
  | zero => rfl
  | succ n => exact absurd (h.apart b (by rw [h1]; simp)) hb
theorem D2.mine {w0 w w' : World} {bd br : Nat} {S S' : DS} {R : RS} {ro : Int} {A A' B : DA} (h : D2 w0 w bd br S R ro A B) (hD : DiskIs w' bd S') (hG : GB S' ro) (hF : Fr w w' S S') (ha : absD S' = A') : D2 w0 w' bd br S' R ro A' B := by
  have hv := h.v0
  have hs := h.fr.size
  exact ⟨hD, hG, ha, h.ref.kept (fun b hb => hF.block b (h.ref.own_lt hb) (h.apart b hb)) hF.size, h.hb, h.b, fun b hb => hF.role b (h.ref.own_lt hb) (h.apart b hb), h.vars.kept (fun b hb => hF.block b (by omega) (h.off b (by omega)).1), ⟨hF.os.trans h.fr.os, hF.tape.trans h.fr.tape, hF.output.trans h.fr.output, Nat.le_trans h.fr.size hF.size, fun b hb => (hF.block b (Nat.lt_of_lt_of_le hb h.fr.size) (h.off b hb).1).trans (h.fr.block b hb)⟩, fun b hb => ⟨hF.role b (Nat.lt_of_lt_of_le hb h.fr.size) (h.off b hb).1, (h.off b hb).2⟩, h.v0⟩
theorem D2.theirs {w0 w w' : World} {bd br : Nat} {S : DS} {R R' : RS} {ro : Int} {A B B' : DA} (h : D2 w0 w bd br S R ro A B) (hD : RefIs w' br R') (hG : HB R' ro) (hF : RFr w w' R R') (ha : absQ R' = B') : D2 w0 w' bd br S R' ro A B' := by
  have hv := h.v0
  have hs := h.fr.size
  refine ⟨h.disk.kept (fun b hb => hF.block b (h.disk.role_lt hb) (h.rnone hb)) hF.size, h.gb, h.a, hD, hG, ha, fun b hb => ?_, h.vars.kept (fun b hb => hF.block b (by omega) (h.off b (by omega)).2), ⟨hF.os.trans h.fr.os, hF.tape.trans h.fr.tape, hF.output.trans h.fr.output, Nat.le_trans h.fr.size hF.size, fun b hb => (hF.block b (Nat.lt_of_lt_of_le hb h.fr.size) (h.off b hb).2).trans (h.fr.block b hb)⟩, fun b hb => ⟨(h.off b hb).1, hF.own b (Nat.lt_of_lt_of_le hb h.fr.size) (h.off b hb).2⟩, h.v0⟩
  rcases Nat.lt_or_ge b w.heap.size with h1 | h1
  · by_cases h2 : R.own b = 0
    · exact absurd (hF.own b h1 h2) hb
    · exact h.apart b h2
  · exact h.disk.fresh b h1
theorem d2_new {w0 : World} (hV : Vars w0) (r : Int) (h0 : 0 ≤ r) (h1 : r ≤ 1073741824) {w1 : World} {bd : Nat} {S : DS} (h : Dk w0 w1 bd S r (newA r)) : Calls Tryz.prog 10 #[.int .i64 r] w1 fun e w' => ∃ br R, e = .returned (.pointer (some ⟨br, 0, none⟩)) ∧ D2 w0 w' bd br S R r (newA r) (newA r) := by
  refine (rnew_any r h0 h1 w1).mono ?_
  rintro e w' ⟨rfl, hR, hb⟩
  have hz := h.fr.size
  refine ⟨w1.heap.size, _, rfl, h.disk.below hb, h.gb, h.a, hR, ⟨PlanR.nil rfl, (by unfold Rn; show (0 : Int) ≤ 0 ∧ (0 : Int) < 4611686018427387904; omega), rfl, ⟨h0, h1⟩, wf_nil h0, List.Pairwise.nil⟩, rfl, fun b hb' => ?_, h.vars.below hb, h.fr.trans (hb.mono h.fr.size), fun b hb' => ⟨h.off b hb', if_neg (by omega)⟩, h.v0⟩
  have : b = w1.heap.size := Classical.byContradiction fun e => hb' (if_neg e)
  rw [this]
  exact h.disk.fresh _ (Nat.le_refl _)
theorem d2_app1 {w0 w : World} {bd br : Nat} {S : DS} {R : RS} {ro : Int} {A B : DA} (h : D2 w0 w bd br S R ro A B) (s : ByteArray) (hs : s.size ≤ 1000) (va : Option Addr) (vc : Nat) (bs : List Int) (hv : BytesV w (.slice va bs.length vc) bs) (hvr : ∀ b, dBlock (.slice va bs.length vc) bs = some b → S.role b = .none) (hl : bs.length ≤ 4611686018427387904) (hst : A.steps < 4611686018427387903) :
    Calls Tryz.prog 45 #[.pointer (some ⟨bd, 0, none⟩), .string s, .slice va bs.length vc] w fun e w' => ∃ S', e = .returned (.int .i64 (dApp A s bs).1) ∧ D2 w0 w' bd br S' R ro (dApp A s bs).2 B ∧ Fr w w' S S' := by
  have el : absP S = A.l := congrArg DA.l h.a
  have er : S.room = A.room := congrArg DA.room h.a
  have es : S.steps = A.steps := congrArg DA.steps h.a
  refine (g_append h.disk h.gb s (by omega) va vc bs hv hvr hl).mono ?_
  rintro e w' ⟨rfl, S', hD, hF, hG⟩
  have hrm := h.gb.rm
  have ha : absD S' = (dApp A s bs).2 := by
    have := gs_abs (e := eApp (absP S) ro s bs) hG
    rw [this, h.a, el]
    unfold dApp
    rw [← er, hrm]
  refine ⟨S', ?_, h.mine hD (h.gb.next (e := eApp (absP S) ro s bs) hG (app_wf h.disk.srt h.gb.wf s bs) (by omega)) hF ha, hF⟩
  rw [gI_abs S s (eApp (absP S) ro s bs) (lApp (absP S) ro s bs), h.a, el]
  unfold dApp
  rw [← er, hrm]
theorem d2_app2 {w0 w : World} {bd br : Nat} {S : DS} {R : RS} {ro : Int} {A B : DA} (h : D2 w0 w bd br S R ro A B) (s : ByteArray) (hs : s.size ≤ 1000) (va : Option Addr) (vc : Nat) (bs : List Int) (hv : BytesV w (.slice va bs.length vc) bs) (hvr : ∀ b, dBlock (.slice va bs.length vc) bs = some b → R.own b = 0) (hl : bs.length ≤ 4611686018427387904) (hst : B.steps < 4611686018427387903) (hA : A = (dApp B s bs).2) :
    Calls Tryz.prog 46 #[.pointer (some ⟨br, 0, none⟩), .string s, .slice va bs.length vc] w fun e w' => ∃ R', e = .returned (.int .i64 (dApp B s bs).1) ∧ D2 w0 w' bd br S R' ro A (dApp B s bs).2 ∧ RFr w w' R R' := by
  have el : absR R.A = B.l := congrArg DA.l h.b
  have er : R.room = B.room := congrArg DA.room h.b
  have es : R.n = B.steps := congrArg DA.steps h.b
  refine (h_append h.ref h.hb s (by omega) va vc bs hv hvr hl).mono ?_
  rintro e w' ⟨rfl, R', hD, hF, hG⟩
  have hrm := h.hb.rm
  have ha : absQ R' = (dApp B s bs).2 := by
    have := hs_abs (e := eApp (absR R.A) ro s bs) hG
    rw [this, h.b, el]
    unfold dApp
    rw [← er, hrm]
  have hsr : Srt (absR R'.A) := by
    have e1 : absR R'.A = (dApp B s bs).2.l := congrArg DA.l ha
    have e2 : absP S = A.l := congrArg DA.l h.a
    rw [e1, ← hA, ← e2]
    exact h.disk.srt
  have hB : HB R' ro := by
    have h2 := (dDo_steps (absQ R) s (eApp (absR R.A) ro s bs) (lApp (absR R.A) ro s bs))
    have h1 := hs_abs (e := eApp (absR R.A) ro s bs) hG
    have h3 : R'.n = (dDo (absQ R) s (eApp (absR R.A) ro s bs) (lApp (absR R.A) ro s bs)).2.steps := congrArg DA.steps h1
    have h4 : (absQ R).steps = R.n := rfl
    have hc := h.hb.cnt
    unfold Rn at hc
    refine ⟨⟨by rw [hG.plan]; exact h.hb.planR.len, by rw [hG.plan]; exact h.hb.planR.kind, fun hne => ?_⟩, ?_, hG.room.trans h.hb.rm, h.hb.r0, ?_, hsr⟩
    · have := h.hb.planR.frm (by rw [← hG.plan]; exact hne)
      rw [hG.frm]
      omega
    · unfold Rn
      omega
    · rw [hG.abs]
      unfold gL
      split
      · exact app_wf h.hb.srt h.hb.wf s bs
      · exact h.hb.wf
  refine ⟨R', ?_, h.theirs hD hB hF ha, hF⟩
  rw [hI_abs R s (eApp (absR R.A) ro s bs) (lApp (absR R.A) ro s bs), h.b, el]
  unfold dApp
  rw [← er, hrm]
theorem D2.dk {w0 w : World} {bd br : Nat} {S : DS} {R : RS} {ro : Int} {A B : DA} (h : D2 w0 w bd br S R ro A B) : Dk w0 w bd S ro A := ⟨h.disk, h.gb, h.a, h.vars, h.fr, fun b hb => (h.off b hb).1, h.v0⟩
theorem d2_list {w0 w : World} {bd br : Nat} {S : DS} {R : RS} {ro : Int} {A B : DA} (h : D2 w0 w bd br S R ro A B) (hd : B.down = false) : Calls Tryz.prog 34 #[.pointer (some ⟨br, 0, none⟩)] w fun e w' => ∃ v, e = .returned v ∧ StrV w' v (nmS B.l) ∧ Below w.heap.size w w' := by
  have el : absR R.A = B.l := congrArg DA.l h.b
  have ed : R.down = B.down := congrArg DA.down h.b
  have := rlist_q h.ref h.hb (ed.trans hd)
  rw [el] at this
  exact this
/-- The program's Open beside the document's disk. -/
theorem d2_open1 {w0 w : World} {bd br : Nat} {S : DS} {R : RS} {ro : Int} {A B : DA} (h : D2 w0 w bd br S R ro A B) (hdn : A.down = false) (hst : A.steps < 4611686018427387800) (hnm : NmB A.l) (most : Int) (hm : 1 ≤ most) :
    Calls Tryz.prog 12 #[.pointer (some ⟨bd, 0, none⟩), .string logB, .int .i64 most] w fun e w' => ∃ c bl S' L A', e = .returned (.tuple #[if c = 0 then .pointer (some ⟨bl, 0, none⟩) else .pointer none, .int .i64 c]) ∧ D2 w0 w' bd br S' R ro A' B ∧ LogIs w' bl L ∧ (c = 0 → LN L) ∧ (∀ b, R.own b ≠ 0 → L.own b = 0) ∧ OpX A ⟨[], [], 0, false, most⟩ (srtI (numsOf (nmS A.l))) c A' (absL L) := by
  have hv := h.v0
  have hs := h.fr.size
  have el : absP S = A.l := congrArg DA.l h.a
  have ed : S.down = A.down := congrArg DA.down h.a
  have es : S.steps = A.steps := congrArg DA.steps h.a
  refine (open_any h.disk h.gb h.vars (fun b hb => (h.off b (by omega)).1) (ed.trans hdn) (by rw [es]; exact hst) (by rw [el]; exact hnm.nmS) most hm).mono ?_
  rintro e w' ⟨c, bl, S', L', rfl, hdl, hof, hop, hc⟩
  rw [h.a, el] at hop
  refine ⟨c, bl, S', L', absD S', rfl, ⟨hdl.disk, hdl.gb, rfl, h.ref.kept (fun b hb => hof.block b (h.ref.own_lt hb) (h.apart b hb)) hof.size, h.hb, h.b, fun b hb => (hof.off b (h.ref.own_lt hb) (h.apart b hb)).1, hdl.vars, ⟨hof.os.trans h.fr.os, hof.tape.trans h.fr.tape, hof.output.trans h.fr.output, Nat.le_trans h.fr.size hof.size, fun b hb => (hof.block b (Nat.lt_of_lt_of_le hb h.fr.size) (h.off b hb).1).trans (h.fr.block b hb)⟩, fun b hb => ⟨(hof.off b (Nat.lt_of_lt_of_le hb h.fr.size) (h.off b hb).1).1, (h.off b hb).2⟩, h.v0⟩, hdl.log, fun h0 => (hc h0).2, fun b hb => (hof.off b (h.ref.own_lt hb) (h.apart b hb)).2, hop⟩
/-- The document's Open beside the program's. -/
theorem d2_open2 {w0 w : World} {bd br bl : Nat} {S : DS} {R : RS} {L : LS} {ro : Int} {A B : DA} (h : D2 w0 w bd br S R ro A B) (hL : LogIs w bl L) (hLR : ∀ b, R.own b ≠ 0 → L.own b = 0) (hdn : B.down = false) (hst : B.steps < 4611686018427387800) (hnm : NmB B.l) (most : Int) (hm : 1 ≤ most) :
    Calls Tryz.prog 13 #[.pointer (some ⟨br, 0, none⟩), .string logB, .int .i64 most] w fun e w' => ∃ c bq R' Q B', e = .returned (.tuple #[if c = 0 then .pointer (some ⟨bq, 0, none⟩) else .pointer none, .int .i64 c]) ∧ D2 w0 w' bd br S R' ro A B' ∧ LogIs w' bl L ∧ QIs w' bq Q ∧ OpX B ⟨[], [], 0, false, most⟩ (srtI (numsOf (nmS B.l))) c B' (absG Q) ∧ (c = 0 → Q.frm = (absG Q).fst) := by
  have hv := h.v0
  have hs := h.fr.size
  have el : absR R.A = B.l := congrArg DA.l h.b
  have ed : R.down = B.down := congrArg DA.down h.b
  have es : R.n = B.steps := congrArg DA.steps h.b
  refine (ropen_any h.ref h.hb (ed.trans hdn) (by rw [es]; exact hst) (by rw [el]; exact hnm.nmS) most hm).mono ?_
  rintro e w' ⟨c, bq, R', Q', v8, l, rfl, h3, hop, hc⟩
  rw [h.b, el] at hop
  have hk : ∀ b, b < w.heap.size → R.own b = 0 → w'.heap[b]? = w.heap[b]? := fun b hb h0 => (h3.blk b hb h0).1
  have hl0 : ∀ b, L.own b ≠ 0 → R.own b = 0 := fun b hb => by
    cases h1 : R.own b with
    | zero => rfl
    | succ n => exact absurd (hLR b (by rw [h1]; simp)) hb
  refine ⟨c, bq, R', Q', absQ R', rfl, ⟨h.disk.kept (fun b hb => hk b (h.disk.role_lt hb) (h.rnone hb)) h3.size, h.gb, h.a, h3.ref, h3.hb, rfl, fun b hb => ?_, h.vars.kept (fun b hb => hk b (by omega) (h.off b (by omega)).2), ⟨h3.os.trans h.fr.os, h3.tape.trans h.fr.tape, h3.output.trans h.fr.output, Nat.le_trans h.fr.size h3.size, fun b hb => (hk b (Nat.lt_of_lt_of_le hb h.fr.size) (h.off b hb).2).trans (h.fr.block b hb)⟩, fun b hb => ⟨(h.off b hb).1, (h3.blk b (Nat.lt_of_lt_of_le hb h.fr.size) (h.off b hb).2).2.1⟩, h.v0⟩, hL.kept (fun b hb => hk b (hL.own_lt hb) (hl0 b hb)) h3.size, h3.log, hop, fun h0 => (hc h0).2⟩
  rcases Nat.lt_or_ge b w.heap.size with h1 | h1
  · by_cases h2 : R.own b = 0
    · exact absurd (h3.blk b h1 h2).2.1 hb
    · exact h.apart b h2
  · exact h.disk.fresh b h1
end Go.Proofs.YtoplejbmgpgkhaaGreatDoor
