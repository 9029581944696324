/- WJ, WP -/
import Derived.Test.YtoplejbmgpgkhaaGreatDoorGWJ2
import Derived.Test.YtoplejbmgpgkhaaGreatDoorGWJ4
import Derived.Test.YtoplejbmgpgkhaaGreatDoorGWJ6
import Derived.Test.YtoplejbmgpgkhaaGreatDoorWO
namespace Go.Proofs.YtoplejbmgpgkhaaGreatDoor
open Go.RowKit Go.Maps Go.Joins
set_option linter.unusedSimpArgs false
set_option linter.unusedVariables false
/-- Append -/
theorem lappend_any {w : World} {bd bl : Nat} {S : DS} {L : LS} {ro : Int} {va : Option Addr} {vc : Nat} {bs : List Int} (hI : AppIn w bd bl S L ro va vc bs) :
    Calls Tryz.prog 14 #[.pointer (some ⟨bl, 0, none⟩), .slice va bs.length vc] w fun e w' => ∃ c S' L', e = .returned (.int .i64 c) ∧ PR w w' bd bl S L ro (pApp (absD S) (absL L) bs) c S' L' := by
  by_cases hfs : L.fs = []
  · by_cases hs : (pSync (absD S) (absL L)).1 = 0
    · by_cases hok : (dApp (pSync (absD S) (absL L)).2.1 (fileB logB (endL L)) (frameB bs)).1 = 0
      · exact lappend_nil_t hI hfs hs hok
      · exact lappend_nil_f hI hfs hs hok
    · exact lappend_nil_s hI hfs hs
  · have hl : ¬ L.fs.length = 0 := fun h => hfs (List.eq_nil_of_length_eq_zero h)
    by_cases hm : L.most ≤ L.size
    · by_cases hs : (pSync (absD S) (absL L)).1 = 0
      · by_cases hok : (dApp (pSync (absD S) (absL L)).2.1 (fileB logB (endL L)) (frameB bs)).1 = 0
        · exact lappend_full_t hI hl hm hs hok
        · exact lappend_full_f hI hl hm hs hok
      · exact lappend_full_s hI hl hm hs
    · obtain ⟨x, hx⟩ : ∃ x, L.fs.getLast? = some x := by
        cases h : L.fs.getLast? with
        | none => exact absurd (List.getLast?_eq_none_iff.1 h) hfs
        | some y => exact ⟨y, rfl⟩
      by_cases hok : (dApp (absD S) (fileB logB x) (frameB bs)).1 = 0
      · exact lappend_old_t hI hl hm hx hok
      · exact lappend_old_f hI hl hm hx hok
end Go.Proofs.YtoplejbmgpgkhaaGreatDoor
namespace Go.Proofs.YtoplejbmgpgkhaaGreatDoor
open Go.RowKit Go.Maps Go.Joins Go.Sort
set_option linter.unusedSimpArgs false
set_option linter.unusedVariables false
def A0 : DA := ⟨[], false, 0, 0, fun _ => 0, 1000⟩
def P0 : PL := ⟨[], [], 0, false, 100⟩
def r1 := pApp A0 P0 [97]
def r2 := pSync r1.2.1 r1.2.2
def r3 := pApp r2.2.1 r2.2.2 [98]
def A4 : DA := ⟨bootT r3.2.1.l [], false, r3.2.1.steps, r3.2.1.armed, fun _ => 0, r3.2.1.room⟩
/-- Nothing of what lay in w0 is the disk's or the log's. -/
structure Al (w0 w : World) (bd bl : Nat) (S : DS) (L : LS) (A : DA) (P : PL) : Prop where
  dl : DL w bd bl S L 1000
  a : absD S = A
  p : absL L = P
  nm : L.nm = logB
  fr : Below w0.heap.size w0 w
  off : ∀ b, b < w0.heap.size → S.role b = .none ∧ L.own b = 0
theorem Al.below {w0 w w' : World} {bd bl : Nat} {S : DS} {L : LS} {A : DA} {P : PL} (h : Al w0 w bd bl S L A P) (hb : Below w.heap.size w w') : Al w0 w' bd bl S L A P :=
  ⟨h.dl.below hb, h.a, h.p, h.nm, h.fr.trans (hb.mono h.fr.size), h.off⟩
theorem Al.f3 {w0 w w' : World} {bd bl : Nat} {S S' : DS} {L L' : LS} {A A' : DA} {P P' : PL} (h : Al w0 w bd bl S L A P) (hd : DL w' bd bl S' L' 1000) (hf : F3 w w' S L S' L') (ha : absD S' = A') (hp : absL L' = P') (hn : L'.nm = logB) : Al w0 w' bd bl S' L' A' P' :=
  ⟨hd, ha, hp, hn, ⟨hf.os.trans h.fr.os, hf.tape.trans h.fr.tape, hf.output.trans h.fr.output, Nat.le_trans h.fr.size hf.size, fun b hb => (hf.block b (Nat.lt_of_lt_of_le hb h.fr.size) (h.off b hb).1 (h.off b hb).2).trans (h.fr.block b hb)⟩, fun b hb => hf.off b (Nat.lt_of_lt_of_le hb h.fr.size) (h.off b hb).1 (h.off b hb).2⟩
/-- What Append asks of a log's numbers. -/
def okP (A : DA) (P : PL) : Prop := (P.uns = true → P.fs ≠ []) ∧ (∀ x ∈ P.fs, 0 ≤ x ∧ x < 1000000000) ∧ P.rs.length ≤ 1000 ∧ P.fs.length ≤ 1000 ∧ 0 ≤ P.size ∧ P.size ≤ 1000 ∧ A.steps < 1000
theorem al_append {w0 w : World} {bd bl : Nat} {S : DS} {L : LS} {A : DA} {P : PL} (h : Al w0 w bd bl S L A P) (ho : okP A P) (x : Int) (ty : Nat) (mk : Nat × Nat) :
    Calls Tryz.prog 14 #[.pointer (some ⟨bl, 0, none⟩), .slice (some ⟨w.heap.size, 0, none⟩) 1 1] (w.alloc (.cells #[.int .u8 x] ty mk)) fun e w' => ∃ S' L', e = .returned (.int .i64 (pApp A P [x]).1) ∧ Al w0 w' bd bl S' L' (pApp A P [x]).2.1 (pApp A P [x]).2.2 := by
  obtain ⟨o1, o2, o3, o4, o5, o6, o7⟩ := ho
  have hb : Below w.heap.size w (w.alloc (.cells #[.int .u8 x] ty mk)) := by go_grown
  have h2 := h.below hb
  have e1 : S.steps = A.steps := by rw [← h.a]; rfl
  have e2 : L.fs = P.fs := by rw [← h.p]; rfl
  have e3 : L.rs.length = P.rs.length := by rw [← h.p]; simp [absL]
  have e4 : L.size = P.size := by rw [← h.p]; rfl
  have e5 : L.uns = P.uns := by rw [← h.p]; rfl
  have hI : AppIn (w.alloc (.cells #[.int .u8 x] ty mk)) bd bl S L 1000 (some ⟨w.heap.size, 0, none⟩) 1 [x] := by
    refine ⟨h2.dl, Or.inr ⟨_, _, rfl, fun j u hu => ?_⟩, fun b hb' => ?_, h.nm, by rw [e5, e2]; exact o1, ⟨by rw [e2]; exact o2, by omega⟩, by rw [e2]; omega, by rw [e4]; omega, by rw [e1]; omega, by simp⟩
    · cases j with
      | zero => rw [Addr.add_lit, ← hu]; simp [World.cell?_alloc_mark, vB]
      | succ j => simp [vB] at hu
    · have : b = w.heap.size := by
        have h9 : some w.heap.size = some b := hb'
        injection h9 with h9; exact h9.symm
      rw [this]
      exact ⟨by simp, h.dl.disk.fresh _ (Nat.le_refl _), h.dl.log.fresh _ (Nat.le_refl _)⟩
  refine (lappend_any hI).mono ?_
  rintro e w' ⟨c, S', L', rfl, hp⟩
  rw [h.a, h.p] at hp
  exact ⟨S', L', by rw [hp.code], h2.f3 hp.dl hp.f3 hp.disk hp.log (hp.nm.trans h.nm)⟩
theorem al_sync {w0 w : World} {bd bl : Nat} {S : DS} {L : LS} {A : DA} {P : PL} (h : Al w0 w bd bl S L A P) (ho : okP A P) :
    Calls Tryz.prog 16 #[.pointer (some ⟨bl, 0, none⟩)] w fun e w' => ∃ S' L', e = .returned (.int .i64 (pSync A P).1) ∧ Al w0 w' bd bl S' L' (pSync A P).2.1 (pSync A P).2.2 := by
  obtain ⟨o1, o2, o3, o4, o5, o6, o7⟩ := ho
  have e1 : S.steps = A.steps := by rw [← h.a]; rfl
  have e2 : L.fs = P.fs := by rw [← h.p]; rfl
  have e5 : L.uns = P.uns := by rw [← h.p]; rfl
  refine (lsync_any h.dl (by rw [e5, e2]; exact o1) h.nm (by rw [e1]; omega)).mono ?_
  rintro e w' ⟨c, S', L', rfl, hp, _⟩
  rw [h.a, h.p] at hp
  exact ⟨S', L', by rw [hp.code], h.f3 hp.dl hp.f3 hp.disk hp.log (hp.nm.trans h.nm)⟩
/-- A disk with no log of ours in hand. -/
structure Ad (w0 w : World) (bd : Nat) (S : DS) (A : DA) : Prop where
  disk : DiskIs w bd S
  gb : GB S 1000
  a : absD S = A
  vars : Vars w
  fr : Below w0.heap.size w0 w
  off : ∀ b, b < w0.heap.size → S.role b = .none
  v0 : 4 ≤ w0.heap.size
theorem ad_new {w0 : World} (hV : Vars w0) : Calls Tryz.prog 9 #[.int .i64 1000] w0 fun e w' => ∃ bd S, e = .returned (.tuple #[.pointer (some ⟨bd, 0, none⟩), .int .i64 0]) ∧ Ad w0 w' bd S A0 := by
  have hv := hV.lt
  refine (new_any 1000 (by omega) (by omega) w0).mono ?_
  rintro e w' ⟨bd, S, rfl, hD, hb, hS, hr⟩
  refine ⟨bd, S, rfl, hD, ⟨?_, ?_, by omega, ?_⟩, ?_, hV.below hb, hb, hr, hv⟩
  · rw [hS]; unfold Cnt; simp
  · rw [hS]
  · rw [hS]; exact ⟨by simp [absP], by simp [absP, sumT], fun p hp => by simp [absP] at hp⟩
  · rw [hS]; rfl
theorem ad_open {w0 w : World} {bd : Nat} {S : DS} (h : Ad w0 w bd S A0) : Calls Tryz.prog 12 #[.pointer (some ⟨bd, 0, none⟩), .string logB, .int .i64 100] w fun e w' => ∃ bl L, e = .returned (.tuple #[.pointer (some ⟨bl, 0, none⟩), .int .i64 0]) ∧ Al w0 w' bd bl S L A0 P0 := by
  have v0 := h.v0
  have hl : absP S = [] := congrArg DA.l h.a
  have hd : S.down = false := congrArg DA.down h.a
  have hs : S.steps = 0 := congrArg DA.steps h.a
  refine (open_zero h.disk h.gb h.vars (fun b hb => h.off b (by omega)) hd (by omega) (by rw [hl]; intro s hs; cases hs) 100 (by omega) (by rw [hl]; rfl)).mono ?_
  rintro e w' (⟨_, bl, L, rfl, hdl, hof, hp, hn⟩ | ⟨n, c, bl, S', L', hne, _⟩)
  · exact ⟨bl, L, rfl, hdl, h.a, hp, hn, ⟨hof.os.trans h.fr.os, hof.tape.trans h.fr.tape, hof.output.trans h.fr.output, Nat.le_trans h.fr.size hof.size, fun b hb => (hof.block b (Nat.lt_of_lt_of_le hb h.fr.size) (h.off b hb)).trans (h.fr.block b hb)⟩, fun b hb => hof.off b (Nat.lt_of_lt_of_le hb h.fr.size) (h.off b hb)⟩
  · rw [hl] at hne
    cases hne
theorem al_boot {w0 w : World} {bd bl : Nat} {S : DS} {L : LS} {A : DA} {P : PL} (h : Al w0 w bd bl S L A P) (hv0 : 4 ≤ w0.heap.size) : Calls Tryz.prog 23 #[.pointer (some ⟨bd, 0, none⟩), .slice none 0 0] w fun e w' => e = .returned (.tuple #[]) ∧ ∃ S', Ad w0 w' bd S' ⟨bootT A.l [], false, A.steps, A.armed, fun _ => 0, A.room⟩ := by
  have hD := h.dl.disk
  have hG := h.dl.gb
  have hlen : S.fs.length ≤ 1000 := by have := hG.wf.len; unfold absP at this; rw [List.length_map] at this; omega
  refine (boot_any hD hlen (fun p hp => hG.wf.safe (p.1, (S.fl p.1).bs, (S.fl p.1).safe) (List.mem_map.2 ⟨p, hp, rfl⟩)) (.slice none 0 0) [] ⟨none, 0, rfl, fun j x hx => by simp at hx⟩ (by simp) (fun b hb => by simp [dBlock] at hb)).mono ?_
  rintro e w' ⟨rfl, S', ss, hp, hc, hD', hF⟩
  have ha := cut_abs hD hp hc
  have hst : S'.steps = S.steps := hc.steps
  have har : S'.armed = S.armed := hc.armed
  have hvl := h.dl.vars.lt
  refine ⟨rfl, S', hD', ⟨by have := hG.cnt; unfold Cnt at this ⊢; rw [hst, har]; exact this, hc.room.trans hG.rm, hG.r0, by rw [ha]; exact boot_wf hG.wf _⟩, ?_, h.dl.vars.kept (fun b hb => hF.block b (by omega) (h.dl.voff b hb).1), ?_, fun b hb => hF.role b (Nat.lt_of_lt_of_le hb h.fr.size) (h.off b hb).1, hv0⟩
  · rw [← h.a]
    unfold absD
    rw [ha, hst, har, hc.plan, hc.down, hc.room]
    rfl
  · exact ⟨hF.os.trans h.fr.os, hF.tape.trans h.fr.tape, hF.output.trans h.fr.output, Nat.le_trans h.fr.size hF.size, fun b hb => (hF.block b (Nat.lt_of_lt_of_le hb h.fr.size) (h.off b hb).1).trans (h.fr.block b hb)⟩
theorem took_one {k : Nat} {rs : List (List Int)} (h : Took (frameB [97]) k rs) (hk : k = (frameB [97]).length ∨ (nx ((frameB [97]).drop k)).1 ≠ 0) : rs = [[97]] ∧ k = 13 := by
  have n1 : nx ((frameB [97]).drop 0) = (0, 13, [97]) := by decide +kernel
  have n2 : (frameB [97]).length = 13 := by decide +kernel
  cases h with
  | nil => rcases hk with hk | hk
           · rw [n2] at hk; cases hk
           · rw [n1] at hk; exact absurd rfl hk
  | step h1 h2 h3 =>
    cases h1 with
    | nil => rw [n1]; exact ⟨rfl, rfl⟩
    | step h4 h5 h6 =>
      cases h4 with
      | nil => rw [n1, n2] at h2; simp at h2
      | step h7 h8 h9 =>
        have h0 := (Took.step (Took.step h7 h8 h9) h5 h6).le
        rw [n2] at h0
        have h1 := h0.1
        have h2 := h0.2
        simp only [List.length_append, List.length_cons, List.length_nil] at h2
        omega
theorem ad_open4 {w0 w : World} {bd : Nat} {S : DS} (h : Ad w0 w bd S A4) : Calls Tryz.prog 12 #[.pointer (some ⟨bd, 0, none⟩), .string logB, .int .i64 100] w fun e w' => ∃ bl S' L A', e = .returned (.tuple #[.pointer (some ⟨bl, 0, none⟩), .int .i64 0]) ∧ Al w0 w' bd bl S' L A' ⟨[0], [[97]], 13, false, 100⟩ := by
  have v0 := h.v0
  have hl : absP S = A4.l := congrArg DA.l h.a
  have hd : S.down = false := congrArg DA.down h.a
  have hs : S.steps = A4.steps := congrArg DA.steps h.a
  have hs4 : A4.steps = 3 := by decide +kernel
  have hn4 : numsOf (nmS A4.l) = [0] := by decide +kernel
  have hd4 : (dRead A4 (fileB logB 0)).1 = 0 := by decide +kernel
  have hb4 : dBytes A4 (fileB logB 0) = frameB [97] := by decide +kernel
  have hz4 : ∀ s ∈ nmS A4.l, s.size ≤ 1000 := by decide +kernel
  refine (open_one h.disk h.gb h.vars (fun b hb => h.off b (by omega)) hd (by omega) (by rw [hl]; exact hz4) 100 (by omega) (n := 0) (by rw [hl]; exact hn4)).mono ?_
  rintro e w' (⟨hne, _⟩ | ⟨n, c, bl, S', L', hne, he, hdl, hof, hr⟩)
  · rw [hl, hn4] at hne
    cases hne
  · rw [hl, hn4] at hne
    obtain rfl : (0 : Int) = n := by injection hne
    unfold LdR at hr
    rw [h.a, hb4] at hr
    have hfr : Below w0.heap.size w0 w' := ⟨hof.os.trans h.fr.os, hof.tape.trans h.fr.tape, hof.output.trans h.fr.output, Nat.le_trans h.fr.size hof.size, fun b hb => (hof.block b (Nat.lt_of_lt_of_le hb h.fr.size) (h.off b hb)).trans (h.fr.block b hb)⟩
    have hoff : ∀ b, b < w0.heap.size → S'.role b = .none ∧ L'.own b = 0 := fun b hb => hof.off b (Nat.lt_of_lt_of_le hb h.fr.size) (h.off b hb)
    rcases hr with ⟨q, _⟩ | ⟨_, ⟨rfl, _, k, rs, ht, hk, hx, _⟩ | ⟨k, rs, ht, ⟨hL, hN⟩, hk⟩⟩
    · exact absurd hd4 q
    · obtain ⟨_, rfl⟩ := took_one ht (Or.inr hx)
      exact absurd hk (by decide +kernel)
    · rcases hk with ⟨hk, rfl, _⟩ | ⟨hk, hx, _⟩
      · obtain ⟨rfl, rfl⟩ := took_one ht (Or.inl hk)
        rw [if_pos rfl] at he
        exact ⟨bl, S', L', _, he, hdl, rfl, hL, hN, hfr, hoff⟩
      · obtain ⟨_, rfl⟩ := took_one ht (Or.inr (by rw [hx]; decide))
        exact absurd hk (by decide +kernel)
end Go.Proofs.YtoplejbmgpgkhaaGreatDoor
