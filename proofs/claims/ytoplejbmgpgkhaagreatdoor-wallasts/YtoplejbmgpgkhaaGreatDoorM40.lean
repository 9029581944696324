/- WP, WQ, WV5, laid into one text. -/
import Derived.Test.YtoplejbmgpgkhaaGreatDoorM33
import Derived.Test.YtoplejbmgpgkhaaGreatDoorM39
import Derived.Test.YtoplejbmgpgkhaaGreatDoorM36
/- wal: alive. -/
namespace Go.Proofs.YtoplejbmgpgkhaaGreatDoor
open Go.RowKit Go.Maps Go.Joins Go.Sort
set_option linter.unusedSimpArgs false
set_option linter.unusedVariables false
def A0 : DA := ⟨[], false, 0, 0, fun _ => 0, 1000⟩
def P0 : PL := ⟨[], [], 0, false, 100⟩
def r1 := pApp A0 P0 [97]
def r2 := pSync r1.2.1 r1.2.2
def r3 := pApp r2.2.1 r2.2.2 [98]
def A4 : DA := ⟨bootT r3.2.1.l [], false, r3.2.1.steps, r3.2.1.armed, fun _ => 0, r3.2.1.room⟩
/-- Nothing of what lay in w0 is the disk's or the log's. -/
structure Al (w0 w : World) (bd bl : Nat) (S : DS) (L : LS) (A : DA) (P : PL) : Prop where
  dl : DL w bd bl S L 1000
  a : absD S = A
  p : absL L = P
  nm : L.nm = logB
  fr : Below w0.heap.size w0 w
  off : ∀ b, b < w0.heap.size → S.role b = .none ∧ L.own b = 0
theorem Al.below {w0 w w' : World} {bd bl : Nat} {S : DS} {L : LS} {A : DA} {P : PL} (h : Al w0 w bd bl S L A P) (hb : Below w.heap.size w w') : Al w0 w' bd bl S L A P :=
  ⟨h.dl.below hb, h.a, h.p, h.nm, h.fr.trans (hb.mono h.fr.size), h.off⟩
theorem Al.f3 {w0 w w' : World} {bd bl : Nat} {S S' : DS} {L L' : LS} {A A' : DA} {P P' : PL} (h : Al w0 w bd bl S L A P) (hd : DL w' bd bl S' L' 1000) (hf : F3 w w' S L S' L') (ha : absD S' = A') (hp : absL L' = P') (hn : L'.nm = logB) : Al w0 w' bd bl S' L' A' P' :=
  ⟨hd, ha, hp, hn, ⟨hf.os.trans h.fr.os, hf.tape.trans h.fr.tape, hf.output.trans h.fr.output, Nat.le_trans h.fr.size hf.size, fun b hb => (hf.block b (Nat.lt_of_lt_of_le hb h.fr.size) (h.off b hb).1 (h.off b hb).2).trans (h.fr.block b hb)⟩, fun b hb => hf.off b (Nat.lt_of_lt_of_le hb h.fr.size) (h.off b hb).1 (h.off b hb).2⟩
/-- What Append asks of a log's numbers. -/
def okP (A : DA) (P : PL) : Prop := (P.uns = true → P.fs ≠ []) ∧ (∀ x ∈ P.fs, 0 ≤ x ∧ x < 1000000000) ∧ P.rs.length ≤ 1000 ∧ P.fs.length ≤ 1000 ∧ 0 ≤ P.size ∧ P.size ≤ 1000 ∧ A.steps < 1000
theorem al_append {w0 w : World} {bd bl : Nat} {S : DS} {L : LS} {A : DA} {P : PL} (h : Al w0 w bd bl S L A P) (ho : okP A P) (x : Int) (ty : Nat) (mk : Nat × Nat) :
    Calls Tryz.prog 14 #[.pointer (some ⟨bl, 0, none⟩), .slice (some ⟨w.heap.size, 0, none⟩) 1 1] (w.alloc (.cells #[.int .u8 x] ty mk)) fun e w' => ∃ S' L', e = .returned (.int .i64 (pApp A P [x]).1) ∧ Al w0 w' bd bl S' L' (pApp A P [x]).2.1 (pApp A P [x]).2.2 := by
  obtain ⟨o1, o2, o3, o4, o5, o6, o7⟩ := ho
  have hb : Below w.heap.size w (w.alloc (.cells #[.int .u8 x] ty mk)) := by go_grown
  have h2 := h.below hb
  have e1 : S.steps = A.steps := by rw [← h.a]; rfl
  have e2 : L.fs = P.fs := by rw [← h.p]; rfl
  have e3 : L.rs.length = P.rs.length := by rw [← h.p]; simp [absL]
  have e4 : L.size = P.size := by rw [← h.p]; rfl
  have e5 : L.uns = P.uns := by rw [← h.p]; rfl
  have hI : AppIn (w.alloc (.cells #[.int .u8 x] ty mk)) bd bl S L 1000 (some ⟨w.heap.size, 0, none⟩) 1 [x] := by
    refine ⟨h2.dl, Or.inr ⟨_, _, rfl, fun j u hu => ?_⟩, fun b hb' => ?_, h.nm, by rw [e5, e2]; exact o1, ⟨by rw [e2]; exact o2, by omega⟩, by rw [e2]; omega, by rw [e4]; omega, by rw [e1]; omega, by simp⟩
    · cases j with
      | zero => rw [Addr.add_lit, ← hu]; simp [World.cell?_alloc_mark, vB]
      | succ j => simp [vB] at hu
    · have : b = w.heap.size := by
        have h9 : some w.heap.size = some b := hb'
        injection h9 with h9; exact h9.symm
      rw [this]
      exact ⟨by simp, h.dl.disk.fresh _ (Nat.le_refl _), h.dl.log.fresh _ (Nat.le_refl _)⟩
  refine (lappend_any hI).mono ?_
  rintro e w' ⟨c, S', L', rfl, hp⟩
  rw [h.a, h.p] at hp
  exact ⟨S', L', by rw [hp.code], h2.f3 hp.dl hp.f3 hp.disk hp.log (hp.nm.trans h.nm)⟩
theorem al_sync {w0 w : World} {bd bl : Nat} {S : DS} {L : LS} {A : DA} {P : PL} (h : Al w0 w bd bl S L A P) (ho : okP A P) :
    Calls Tryz.prog 16 #[.pointer (some ⟨bl, 0, none⟩)] w fun e w' => ∃ S' L', e = .returned (.int .i64 (pSync A P).1) ∧ Al w0 w' bd bl S' L' (pSync A P).2.1 (pSync A P).2.2 := by
  obtain ⟨o1, o2, o3, o4, o5, o6, o7⟩ := ho
  have e1 : S.steps = A.steps := by rw [← h.a]; rfl
  have e2 : L.fs = P.fs := by rw [← h.p]; rfl
  have e5 : L.uns = P.uns := by rw [← h.p]; rfl
  refine (lsync_any h.dl (by rw [e5, e2]; exact o1) h.nm (by rw [e1]; omega)).mono ?_
  rintro e w' ⟨c, S', L', rfl, hp, _⟩
  rw [h.a, h.p] at hp
  exact ⟨S', L', by rw [hp.code], h.f3 hp.dl hp.f3 hp.disk hp.log (hp.nm.trans h.nm)⟩
/-- A disk with no log of ours in hand. -/
structure Ad (w0 w : World) (bd : Nat) (S : DS) (A : DA) : Prop where
  disk : DiskIs w bd S
  gb : GB S 1000
  a : absD S = A
  vars : Vars w
  fr : Below w0.heap.size w0 w
  off : ∀ b, b < w0.heap.size → S.role b = .none
  v0 : 4 ≤ w0.heap.size
theorem ad_new {w0 : World} (hV : Vars w0) : Calls Tryz.prog 9 #[.int .i64 1000] w0 fun e w' => ∃ bd S, e = .returned (.tuple #[.pointer (some ⟨bd, 0, none⟩), .int .i64 0]) ∧ Ad w0 w' bd S A0 := by
  have hv := hV.lt
  refine (new_any 1000 (by omega) (by omega) w0).mono ?_
  rintro e w' ⟨bd, S, rfl, hD, hb, hS, hr⟩
  refine ⟨bd, S, rfl, hD, ⟨?_, ?_, by omega, ?_⟩, ?_, hV.below hb, hb, hr, hv⟩
  · rw [hS]; unfold Cnt; simp
  · rw [hS]
  · rw [hS]; exact ⟨by simp [absP], by simp [absP, sumT], fun p hp => by simp [absP] at hp⟩
  · rw [hS]; rfl
theorem ad_open {w0 w : World} {bd : Nat} {S : DS} (h : Ad w0 w bd S A0) : Calls Tryz.prog 12 #[.pointer (some ⟨bd, 0, none⟩), .string logB, .int .i64 100] w fun e w' => ∃ bl L, e = .returned (.tuple #[.pointer (some ⟨bl, 0, none⟩), .int .i64 0]) ∧ Al w0 w' bd bl S L A0 P0 := by
  have v0 := h.v0
  have hl : absP S = [] := congrArg DA.l h.a
  have hd : S.down = false := congrArg DA.down h.a
  have hs : S.steps = 0 := congrArg DA.steps h.a
  refine (open_zero h.disk h.gb h.vars (fun b hb => h.off b (by omega)) hd (by omega) (by rw [hl]; intro s hs; cases hs) 100 (by omega) (by rw [hl]; rfl)).mono ?_
  rintro e w' (⟨_, bl, L, rfl, hdl, hof, hp, hn⟩ | ⟨n, c, bl, S', L', hne, _⟩)
  · exact ⟨bl, L, rfl, hdl, h.a, hp, hn, ⟨hof.os.trans h.fr.os, hof.tape.trans h.fr.tape, hof.output.trans h.fr.output, Nat.le_trans h.fr.size hof.size, fun b hb => (hof.block b (Nat.lt_of_lt_of_le hb h.fr.size) (h.off b hb)).trans (h.fr.block b hb)⟩, fun b hb => hof.off b (Nat.lt_of_lt_of_le hb h.fr.size) (h.off b hb)⟩
  · rw [hl] at hne
    cases hne
theorem al_boot {w0 w : World} {bd bl : Nat} {S : DS} {L : LS} {A : DA} {P : PL} (h : Al w0 w bd bl S L A P) (hv0 : 4 ≤ w0.heap.size) : Calls Tryz.prog 23 #[.pointer (some ⟨bd, 0, none⟩), .slice none 0 0] w fun e w' => e = .returned (.tuple #[]) ∧ ∃ S', Ad w0 w' bd S' ⟨bootT A.l [], false, A.steps, A.armed, fun _ => 0, A.room⟩ := by
  have hD := h.dl.disk
  have hG := h.dl.gb
  have hlen : S.fs.length ≤ 1000 := by have := hG.wf.len; unfold absP at this; rw [List.length_map] at this; omega
  refine (boot_any hD hlen (fun p hp => hG.wf.safe (p.1, (S.fl p.1).bs, (S.fl p.1).safe) (List.mem_map.2 ⟨p, hp, rfl⟩)) (.slice none 0 0) [] ⟨none, 0, rfl, fun j x hx => by simp at hx⟩ (by simp) (fun b hb => by simp [dBlock] at hb)).mono ?_
  rintro e w' ⟨rfl, S', ss, hp, hc, hD', hF⟩
  have ha := cut_abs hD hp hc
  have hst : S'.steps = S.steps := hc.steps
  have har : S'.armed = S.armed := hc.armed
  have hvl := h.dl.vars.lt
  refine ⟨rfl, S', hD', ⟨by have := hG.cnt; unfold Cnt at this ⊢; rw [hst, har]; exact this, hc.room.trans hG.rm, hG.r0, by rw [ha]; exact boot_wf hG.wf _⟩, ?_, h.dl.vars.kept (fun b hb => hF.block b (by omega) (h.dl.voff b hb).1), ?_, fun b hb => hF.role b (Nat.lt_of_lt_of_le hb h.fr.size) (h.off b hb).1, hv0⟩
  · rw [← h.a]
    unfold absD
    rw [ha, hst, har, hc.plan, hc.down, hc.room]
    rfl
  · exact ⟨hF.os.trans h.fr.os, hF.tape.trans h.fr.tape, hF.output.trans h.fr.output, Nat.le_trans h.fr.size hF.size, fun b hb => (hF.block b (Nat.lt_of_lt_of_le hb h.fr.size) (h.off b hb).1).trans (h.fr.block b hb)⟩
theorem took_one {k : Nat} {rs : List (List Int)} (h : Took (frameB [97]) k rs) (hk : k = (frameB [97]).length ∨ (nx ((frameB [97]).drop k)).1 ≠ 0) : rs = [[97]] ∧ k = 13 := by
  have n1 : nx ((frameB [97]).drop 0) = (0, 13, [97]) := by decide +kernel
  have n2 : (frameB [97]).length = 13 := by decide +kernel
  cases h with
  | nil => rcases hk with hk | hk
           · rw [n2] at hk; cases hk
           · rw [n1] at hk; exact absurd rfl hk
  | step h1 h2 h3 =>
    cases h1 with
    | nil => rw [n1]; exact ⟨rfl, rfl⟩
    | step h4 h5 h6 =>
      cases h4 with
      | nil => rw [n1, n2] at h2; simp at h2
      | step h7 h8 h9 =>
        have h0 := (Took.step (Took.step h7 h8 h9) h5 h6).le
        rw [n2] at h0
        have h1 := h0.1
        have h2 := h0.2
        simp only [List.length_append, List.length_cons, List.length_nil] at h2
        omega
theorem ad_open4 {w0 w : World} {bd : Nat} {S : DS} (h : Ad w0 w bd S A4) : Calls Tryz.prog 12 #[.pointer (some ⟨bd, 0, none⟩), .string logB, .int .i64 100] w fun e w' => ∃ bl S' L A', e = .returned (.tuple #[.pointer (some ⟨bl, 0, none⟩), .int .i64 0]) ∧ Al w0 w' bd bl S' L A' ⟨[0], [[97]], 13, false, 100⟩ := by
  have v0 := h.v0
  have hl : absP S = A4.l := congrArg DA.l h.a
  have hd : S.down = false := congrArg DA.down h.a
  have hs : S.steps = A4.steps := congrArg DA.steps h.a
  have hs4 : A4.steps = 3 := by decide +kernel
  have hn4 : numsOf (nmS A4.l) = [0] := by decide +kernel
  have hd4 : (dRead A4 (fileB logB 0)).1 = 0 := by decide +kernel
  have hb4 : dBytes A4 (fileB logB 0) = frameB [97] := by decide +kernel
  have hz4 : ∀ s ∈ nmS A4.l, s.size ≤ 1000 := by decide +kernel
  refine (open_one h.disk h.gb h.vars (fun b hb => h.off b (by omega)) hd (by omega) (by rw [hl]; exact hz4) 100 (by omega) (n := 0) (by rw [hl]; exact hn4)).mono ?_
  rintro e w' (⟨hne, _⟩ | ⟨n, c, bl, S', L', hne, he, hdl, hof, hr⟩)
  · rw [hl, hn4] at hne
    cases hne
  · rw [hl, hn4] at hne
    obtain rfl : (0 : Int) = n := by injection hne
    unfold LdR at hr
    rw [h.a, hb4] at hr
    have hfr : Below w0.heap.size w0 w' := ⟨hof.os.trans h.fr.os, hof.tape.trans h.fr.tape, hof.output.trans h.fr.output, Nat.le_trans h.fr.size hof.size, fun b hb => (hof.block b (Nat.lt_of_lt_of_le hb h.fr.size) (h.off b hb)).trans (h.fr.block b hb)⟩
    have hoff : ∀ b, b < w0.heap.size → S'.role b = .none ∧ L'.own b = 0 := fun b hb => hof.off b (Nat.lt_of_lt_of_le hb h.fr.size) (h.off b hb)
    rcases hr with ⟨q, _⟩ | ⟨_, ⟨rfl, _, k, rs, ht, hk, hx, _⟩ | ⟨k, rs, ht, ⟨hL, hN⟩, hk⟩⟩
    · exact absurd hd4 q
    · obtain ⟨_, rfl⟩ := took_one ht (Or.inr hx)
      exact absurd hk (by decide +kernel)
    · rcases hk with ⟨hk, rfl, _⟩ | ⟨hk, hx, _⟩
      · obtain ⟨rfl, rfl⟩ := took_one ht (Or.inl hk)
        rw [if_pos rfl] at he
        exact ⟨bl, S', L', _, he, hdl, rfl, hL, hN, hfr, hoff⟩
      · obtain ⟨_, rfl⟩ := took_one ht (Or.inr (by rw [hx]; decide))
        exact absurd hk (by decide +kernel)
end Go.Proofs.YtoplejbmgpgkhaaGreatDoor
/- wal: alive. -/
namespace Go.Proofs.YtoplejbmgpgkhaaGreatDoor
open Go.RowKit Go.Maps Go.Joins Go.Sort
set_option linter.unusedSimpArgs false
set_option linter.unusedVariables false
def P5 : PL := ⟨[0], [[97]], 13, false, 100⟩
theorem ok0 : okP A0 P0 := by unfold okP; decide +kernel
theorem ok1 : okP r1.2.1 r1.2.2 := by unfold okP; decide +kernel
theorem ok2 : okP r2.2.1 r2.2.2 := by unfold okP; decide +kernel
theorem c1 : (pApp A0 P0 [97]).1 = 0 := by decide +kernel
theorem c2 : (pSync r1.2.1 r1.2.2).1 = 0 := by decide +kernel
theorem c3 : (pApp r2.2.1 r2.2.2 [98]).1 = 0 := by decide +kernel
theorem al_a {w0 w : World} {bd bl : Nat} {S : DS} {L : LS} (h : Al w0 w bd bl S L A0 P0) (ty : Nat) (mk : Nat × Nat) :
    Calls Tryz.prog 14 #[.pointer (some ⟨bl, 0, none⟩), .slice (some ⟨w.heap.size, 0, none⟩) 1 1] (w.alloc (.cells #[.int .u8 97] ty mk)) fun e w' => ∃ S' L', e = .returned (.int .i64 0) ∧ Al w0 w' bd bl S' L' r1.2.1 r1.2.2 := by
  refine (al_append h ok0 97 ty mk).mono ?_
  rintro e w' ⟨S', L', rfl, h'⟩
  rw [c1]
  exact ⟨S', L', rfl, h'⟩
theorem al_s {w0 w : World} {bd bl : Nat} {S : DS} {L : LS} (h : Al w0 w bd bl S L r1.2.1 r1.2.2) :
    Calls Tryz.prog 16 #[.pointer (some ⟨bl, 0, none⟩)] w fun e w' => ∃ S' L', e = .returned (.int .i64 0) ∧ Al w0 w' bd bl S' L' r2.2.1 r2.2.2 := by
  refine (al_sync h ok1).mono ?_
  rintro e w' ⟨S', L', rfl, h'⟩
  rw [c2]
  exact ⟨S', L', rfl, h'⟩
theorem al_b {w0 w : World} {bd bl : Nat} {S : DS} {L : LS} (h : Al w0 w bd bl S L r2.2.1 r2.2.2) (ty : Nat) (mk : Nat × Nat) :
    Calls Tryz.prog 14 #[.pointer (some ⟨bl, 0, none⟩), .slice (some ⟨w.heap.size, 0, none⟩) 1 1] (w.alloc (.cells #[.int .u8 98] ty mk)) fun e w' => ∃ S' L', e = .returned (.int .i64 0) ∧ Al w0 w' bd bl S' L' r3.2.1 r3.2.2 := by
  refine (al_append h ok2 98 ty mk).mono ?_
  rintro e w' ⟨S', L', rfl, h'⟩
  rw [c3]
  exact ⟨S', L', rfl, h'⟩
theorem al_get {w0 w : World} {bd bl : Nat} {S : DS} {L : LS} {A : DA} (h : Al w0 w bd bl S L A P5) :
    Calls Tryz.prog 20 #[.pointer (some ⟨bl, 0, none⟩), .int .i64 0] w fun e w' => ∃ v, e = .returned (.tuple #[v, .int .i64 0]) ∧ w'.ownsRow w.heap.size 5 1 v 1 [.int .u8 97] ∧ Al w0 w' bd bl S L A P5 := by
  have hp := h.p
  have e2 : L.fs = [0] := congrArg PL.fs hp
  have e3 : L.rs.map (·.2) = [[97]] := congrArg PL.rs hp
  obtain ⟨q, hq⟩ : ∃ q, L.rs = [q] := by
    cases hr : L.rs with
    | nil => rw [hr] at e3; cases e3
    | cons x r =>
      rw [hr] at e3
      cases r with
      | nil => exact ⟨x, rfl⟩
      | cons y r => simp at e3
  have hq2 : q.2 = [97] := by rw [hq] at e3; simpa using e3
  have hln : LN L := ⟨by rw [e2]; simp, by rw [hq]; simp⟩
  refine (get_here h.dl.log hln 0 0 (by unfold Proofs.YtoplejbmgpgkhaaGreatDoor.fst; rw [e2]; rfl) (p := q) (by rw [hq]; rfl) (by rw [hq2]; simp)).mono ?_
  rintro e w' ⟨v, rfl, ho, hb⟩
  rw [hq2] at ho
  exact ⟨v, rfl, ho, h.below hb⟩
theorem al_end {w0 w : World} {bd bl : Nat} {S : DS} {L : LS} {A : DA} (h : Al w0 w bd bl S L A P5) :
    Calls Tryz.prog 48 #[.pointer (some ⟨bl, 0, none⟩)] w fun e w' => e = .returned (.int .i64 1) ∧ Al w0 w' bd bl S L A P5 := by
  have hp := h.p
  have e2 : L.fs = [0] := congrArg PL.fs hp
  have e3 : L.rs.map (·.2) = [[97]] := congrArg PL.rs hp
  have e4 : L.rs.length = 1 := by have := congrArg List.length e3; simpa using this
  have hln : LN L := ⟨by rw [e2]; simp, by rw [e4]; omega⟩
  refine (end_any h.dl.log hln).mono ?_
  rintro e w' ⟨rfl, m, rfl⟩
  refine ⟨?_, h.below (below_drewN' _ _)⟩
  unfold endL Proofs.YtoplejbmgpgkhaaGreatDoor.fst
  rw [e2, e4]
  rfl
theorem al_file {w0 w : World} {bd bl : Nat} {S : DS} {L : LS} {A : DA} (h : Al w0 w bd bl S L A P5) :
    Calls Tryz.prog 44 #[.string logB, .int .i64 0] w fun e w' => e = .returned (.string ⟨#[108, 111, 103, 46, 48]⟩) ∧ Al w0 w' bd bl S L A P5 := by
  refine (file_any h.dl.vars logB (by rw [logB_size]; omega) 0).mono ?_
  rintro e w' ⟨rfl, hb⟩
  have : fileB logB 0 = ⟨#[108, 111, 103, 46, 48]⟩ := by decide +kernel
  exact ⟨by rw [this], h.below hb⟩
theorem al_sum {w0 w : World} {bd bl : Nat} {S : DS} {L : LS} {A : DA} (h : Al w0 w bd bl S L A P5) (ty : Nat) (mk : Nat × Nat) :
    Calls Tryz.prog 40 #[.slice (some ⟨w.heap.size, 0, none⟩) 1 1] (w.alloc (.cells #[.int .u8 97] ty mk)) fun e w' => e = .returned (.int .u32 3904355907) ∧ Below w0.heap.size w0 w' := by
  have hb : Below w.heap.size w (w.alloc (.cells #[.int .u8 97] ty mk)) := by go_grown
  refine (sum_any (h.below hb).dl.vars.half (some ⟨w.heap.size, 0, none⟩) 1 [97] (Or.inr ⟨_, _, rfl, fun j u hu => ?_⟩) (by simp)).mono ?_
  · cases j with
    | zero => rw [Addr.add_lit, ← hu]; simp [World.cell?_alloc_mark, vB]
    | succ j => simp [vB] at hu
  · rintro e w' ⟨rfl, rfl⟩
    have : J (sumB [97]) = 3904355907 := by decide +kernel
    exact ⟨by rw [this], (h.below hb).fr⟩
set_option maxRecDepth 100000 in
set_option maxHeartbeats 8000000 in
theorem alive_any {w : World} (hV : Vars w) : Calls Tryz.prog 11 #[] w fun e w' => e = .returned (.bool true) ∧ Below w.heap.size w w' := by
  have HV : Hid _ := hV
  have hv0 : 4 ≤ w.heap.size := hV.lt
  clear hV
  have hcv := fun (w : World) (C : Array Value) (n c : Nat) => Lib.run_convert_bytes_const (P := Tryz.prog) w 36 5 C n c Tryz.underlying36 Tryz.underlying5
  go_enter Tryz.func11, Tryz.ntmps11
  go_wp2_with (first
    | (go_at_call 9
       refine Calls.mono (ad_new HV.out) ?_
       rintro e w1 ⟨bd, S1, rfl, h1⟩
       have H1 : Hid _ := h1
       clear h1)
    | (go_at_call 12
       refine Calls.mono (ad_open4 H6.out) ?_
       rintro e w7 ⟨bl7, S7, L7, A7, rfl, h7⟩
       have H7 : Hid (Al w w7 bd bl7 S7 L7 A7 P5) := h7
       clear h7)
    | (go_at_call 12
       refine Calls.mono (ad_open H1.out) ?_
       rintro e w2 ⟨bl, L2, rfl, h2⟩
       have H2 : Hid _ := h2
       clear h2)
    | (go_at_call 14
       refine Calls.mono (al_b H4.out _ _) ?_
       rintro e w5 ⟨S5, L5, rfl, h5⟩
       have H5 : Hid _ := h5
       clear h5)
    | (go_at_call 14
       refine Calls.mono (al_a H2.out _ _) ?_
       rintro e w3 ⟨S3, L3, rfl, h3⟩
       have H3 : Hid _ := h3
       clear h3)
    | (go_at_call 16
       refine Calls.mono (al_s H3.out) ?_
       rintro e w4 ⟨S4, L4, rfl, h4⟩
       have H4 : Hid _ := h4
       clear h4)
    | (go_at_call 23
       refine Calls.mono (al_boot H5.out hv0) ?_
       rintro e w6 ⟨rfl, S6, h6⟩
       have H6 : Hid (Ad w w6 bd S6 A4) := h6
       clear h6)
    | (go_at_call 20
       refine Calls.mono (al_get H7.out) ?_
       rintro e w8 ⟨v8, rfl, ho8, h8⟩
       have H8 : Hid (w8.ownsRow w7.heap.size 5 1 v8 1 [.int .u8 97] ∧ Al w w8 bd bl7 S7 L7 A7 P5) := ⟨ho8, h8⟩
       obtain ⟨g8, k8, hv8⟩ := ownsRow_form ho8 (by simp)
       subst hv8
       have hconv := run_convert_bytes_arg (P := Tryz.prog) w8 36 5 Tryz.underlying36 Tryz.underlying5 g8 0 1 k8 [97] rfl (fun i hi => by
         have h0 := ho8.cells (g := g8) rfl i
         cases i with
         | zero => simpa [Addr.add_lit] using h0 (.int .u8 97) rfl
         | succ i => simp at hi) 9 Tryz.underlying9
       rw [show strOfNums [97] = (⟨#[97]⟩ : ByteArray) from by kernel_rfl] at hconv
       clear h8 ho8)
    | (go_at_call 48
       refine Calls.mono (al_end H8.out.2) ?_
       rintro e w9 ⟨rfl, h9⟩
       have H9 : Hid _ := h9
       clear h9)
    | (go_at_call 44
       refine Calls.mono (al_file H9.out) ?_
       rintro e w10 ⟨rfl, h10⟩
       have H10 : Hid _ := h10
       clear h10)
    | (go_at_call 40
       refine Calls.mono (al_sum H10.out _ _) ?_
       rintro e w11 ⟨rfl, h11⟩
       have H11 : Hid _ := h11
       clear h11))
  go_returns
  exact ⟨rfl, H11.out⟩
end Go.Proofs.YtoplejbmgpgkhaaGreatDoor
/- wal: a disk and a log beside the arguments: the calls, told by what they do. -/
namespace Go.Proofs.YtoplejbmgpgkhaaGreatDoor
open Go.RowKit Go.Maps Go.Joins Go.Sort
set_option linter.unusedVariables false
set_option linter.unusedSimpArgs false
/-- A disk; nothing of what lay in w0 is its. -/
structure Dk (w0 w : World) (bd : Nat) (S : DS) (ro : Int) (A : DA) : Prop where
  disk : DiskIs w bd S
  gb : GB S ro
  a : absD S = A
  vars : Vars w
  fr : Below w0.heap.size w0 w
  off : ∀ b, b < w0.heap.size → S.role b = .none
  v0 : 4 ≤ w0.heap.size
/-- A disk and a log. -/
structure Lg (w0 w : World) (bd bl : Nat) (S : DS) (L : LS) (ro : Int) (A : DA) (P : PL) : Prop where
  dl : DL w bd bl S L ro
  a : absD S = A
  p : absL L = P
  nm : L.nm = logB
  fr : Below w0.heap.size w0 w
  off : ∀ b, b < w0.heap.size → S.role b = .none ∧ L.own b = 0
  v0 : 4 ≤ w0.heap.size
theorem Dk.below {w0 w w' : World} {bd : Nat} {S : DS} {ro : Int} {A : DA} (h : Dk w0 w bd S ro A) (hb : Below w.heap.size w w') : Dk w0 w' bd S ro A :=
  ⟨h.disk.below hb, h.gb, h.a, h.vars.below hb, h.fr.trans (hb.mono h.fr.size), h.off, h.v0⟩
theorem Lg.below {w0 w w' : World} {bd bl : Nat} {S : DS} {L : LS} {ro : Int} {A : DA} {P : PL} (h : Lg w0 w bd bl S L ro A P) (hb : Below w.heap.size w w') : Lg w0 w' bd bl S L ro A P :=
  ⟨h.dl.below hb, h.a, h.p, h.nm, h.fr.trans (hb.mono h.fr.size), h.off, h.v0⟩
theorem Lg.dk {w0 w : World} {bd bl : Nat} {S : DS} {L : LS} {ro : Int} {A : DA} {P : PL} (h : Lg w0 w bd bl S L ro A P) : Dk w0 w bd S ro A :=
  ⟨h.dl.disk, h.dl.gb, h.a, h.dl.vars, h.fr, fun b hb => (h.off b hb).1, h.v0⟩
theorem Lg.f3 {w0 w w' : World} {bd bl : Nat} {S S' : DS} {L L' : LS} {ro : Int} {A A' : DA} {P P' : PL} (h : Lg w0 w bd bl S L ro A P) (hd : DL w' bd bl S' L' ro) (hf : F3 w w' S L S' L') (ha : absD S' = A') (hp : absL L' = P') (hn : L'.nm = logB) : Lg w0 w' bd bl S' L' ro A' P' :=
  ⟨hd, ha, hp, hn, ⟨hf.os.trans h.fr.os, hf.tape.trans h.fr.tape, hf.output.trans h.fr.output, Nat.le_trans h.fr.size hf.size, fun b hb => (hf.block b (Nat.lt_of_lt_of_le hb h.fr.size) (h.off b hb).1 (h.off b hb).2).trans (h.fr.block b hb)⟩, fun b hb => hf.off b (Nat.lt_of_lt_of_le hb h.fr.size) (h.off b hb).1 (h.off b hb).2, h.v0⟩
theorem Dk.fr' {w0 w w' : World} {bd : Nat} {S S' : DS} {ro : Int} {A A' : DA} (h : Dk w0 w bd S ro A) (hD : DiskIs w' bd S') (hG : GB S' ro) (hF : Fr w w' S S') (ha : absD S' = A') : Dk w0 w' bd S' ro A' := by
  have hv := h.v0
  have hs := h.fr.size
  exact ⟨hD, hG, ha, h.vars.kept (fun b hb => hF.block b (by omega) (h.off b (by omega))), ⟨hF.os.trans h.fr.os, hF.tape.trans h.fr.tape, hF.output.trans h.fr.output, Nat.le_trans h.fr.size hF.size, fun b hb => (hF.block b (Nat.lt_of_lt_of_le hb h.fr.size) (h.off b hb)).trans (h.fr.block b hb)⟩, fun b hb => hF.role b (Nat.lt_of_lt_of_le hb h.fr.size) (h.off b hb), h.v0⟩
/-- What the calls ask of a log's numbers. -/
structure LgOk (A : DA) (P : PL) : Prop where
  uns : P.uns = true → P.fs ≠ []
  num : ∀ x ∈ P.fs, 0 ≤ x ∧ x < 1000000000
  rs : P.rs.length ≤ 100000000
  fs : P.fs.length ≤ 100000000
  sz : 0 ≤ P.size ∧ P.size ≤ 1073741824
  st : A.steps < 4611686018427387800
theorem lg_append {w0 w : World} {bd bl : Nat} {S : DS} {L : LS} {ro : Int} {A : DA} {P : PL} (h : Lg w0 w bd bl S L ro A P) (ho : LgOk A P) (va : Option Addr) (vc : Nat) (bs : List Int) (hbv : BytesV w0 (.slice va bs.length vc) bs) (hl : bs.length ≤ 65536) :
    Calls Tryz.prog 14 #[.pointer (some ⟨bl, 0, none⟩), .slice va bs.length vc] w fun e w' => ∃ S' L', e = .returned (.int .i64 (pApp A P bs).1) ∧ Lg w0 w' bd bl S' L' ro (pApp A P bs).2.1 (pApp A P bs).2.2 := by
  have o2 := ho.rs
  have o3 := ho.fs
  have o4 := ho.sz
  have o5 := ho.st
  have e1 : S.steps = A.steps := by rw [← h.a]; rfl
  have e2 : L.fs = P.fs := by rw [← h.p]; rfl
  have e3 : L.rs.length = P.rs.length := by rw [← h.p]; simp [absL]
  have e4 : L.size = P.size := by rw [← h.p]; rfl
  have e5 : L.uns = P.uns := by rw [← h.p]; rfl
  have hI : AppIn w bd bl S L ro va vc bs :=
    ⟨h.dl, hbv.keep (fun b hb => h.fr.block b (hbv.lt b hb)), fun b hb => ⟨Nat.lt_of_lt_of_le (hbv.lt b hb) h.fr.size, h.off b (hbv.lt b hb)⟩, h.nm, by rw [e5, e2]; exact ho.uns, ⟨by rw [e2]; exact ho.num, by omega⟩, by rw [e2]; omega, by rw [e4]; omega, by rw [e1]; omega, hl⟩
  refine (lappend_any hI).mono ?_
  rintro e w' ⟨c, S', L', rfl, hp⟩
  rw [h.a, h.p] at hp
  exact ⟨S', L', by rw [hp.code], h.f3 hp.dl hp.f3 hp.disk hp.log (hp.nm.trans h.nm)⟩
theorem lg_sync {w0 w : World} {bd bl : Nat} {S : DS} {L : LS} {ro : Int} {A : DA} {P : PL} (h : Lg w0 w bd bl S L ro A P) (ho : LgOk A P) :
    Calls Tryz.prog 16 #[.pointer (some ⟨bl, 0, none⟩)] w fun e w' => ∃ S' L', e = .returned (.int .i64 (pSync A P).1) ∧ Lg w0 w' bd bl S' L' ro (pSync A P).2.1 (pSync A P).2.2 := by
  have e1 : S.steps = A.steps := by rw [← h.a]; rfl
  have e2 : L.fs = P.fs := by rw [← h.p]; rfl
  have e5 : L.uns = P.uns := by rw [← h.p]; rfl
  have o5 := ho.st
  refine (lsync_any h.dl (by rw [e5, e2]; exact ho.uns) h.nm (by rw [e1]; omega)).mono ?_
  rintro e w' ⟨c, S', L', rfl, hp, _⟩
  rw [h.a, h.p] at hp
  exact ⟨S', L', by rw [hp.code], h.f3 hp.dl hp.f3 hp.disk hp.log (hp.nm.trans h.nm)⟩
def newA (r : Int) : DA := ⟨[], false, 0, 0, fun _ => 0, r⟩
theorem dk_new {w0 : World} (hV : Vars w0) (r : Int) (h0 : 0 ≤ r) (h1 : r ≤ 1073741824) : Calls Tryz.prog 9 #[.int .i64 r] w0 fun e w' => ∃ bd S, e = .returned (.tuple #[.pointer (some ⟨bd, 0, none⟩), .int .i64 0]) ∧ Dk w0 w' bd S r (newA r) := by
  have hv := hV.lt
  refine (new_any r h0 h1 w0).mono ?_
  rintro e w' ⟨bd, S, rfl, hD, hb, hS, hr⟩
  refine ⟨bd, S, rfl, hD, ⟨?_, ?_, by omega, ?_⟩, ?_, hV.below hb, hb, hr, hv⟩
  · rw [hS]; unfold Cnt; simp
  · rw [hS]
  · rw [hS]; exact ⟨by simp [absP], by simp [absP, sumT]; exact h0, fun p hp => by simp [absP] at hp⟩
  · rw [hS]; rfl
theorem dk_open {w0 w : World} {bd : Nat} {S : DS} {ro : Int} {A : DA} (h : Dk w0 w bd S ro A) (hdn : A.down = false) (hst : A.steps < 4611686018427387800) (hnm : NmB A.l) (most : Int) (hm : 1 ≤ most) :
    Calls Tryz.prog 12 #[.pointer (some ⟨bd, 0, none⟩), .string logB, .int .i64 most] w fun e w' => ∃ c bl S' L' A' P', e = .returned (.tuple #[if c = 0 then .pointer (some ⟨bl, 0, none⟩) else .pointer none, .int .i64 c]) ∧ Dk w0 w' bd S' ro A' ∧ (c = 0 → Lg w0 w' bd bl S' L' ro A' P') ∧ OpX A ⟨[], [], 0, false, most⟩ (srtI (numsOf (nmS A.l))) c A' P' := by
  have hv := h.v0
  have el : absP S = A.l := congrArg DA.l h.a
  have ed : S.down = A.down := congrArg DA.down h.a
  have es : S.steps = A.steps := congrArg DA.steps h.a
  refine (open_any h.disk h.gb h.vars (fun b hb => h.off b (by omega)) (ed.trans hdn) (by rw [es]; exact hst) (by rw [el]; exact hnm.nmS) most hm).mono ?_
  rintro e w' ⟨c, bl, S', L', rfl, hdl, hof, hop, hc⟩
  rw [h.a, el] at hop
  have hfr : Below w0.heap.size w0 w' := ⟨hof.os.trans h.fr.os, hof.tape.trans h.fr.tape, hof.output.trans h.fr.output, Nat.le_trans h.fr.size hof.size, fun b hb => (hof.block b (Nat.lt_of_lt_of_le hb h.fr.size) (h.off b hb)).trans (h.fr.block b hb)⟩
  have hoff : ∀ b, b < w0.heap.size → S'.role b = .none ∧ L'.own b = 0 := fun b hb => hof.off b (Nat.lt_of_lt_of_le hb h.fr.size) (h.off b hb)
  exact ⟨c, bl, S', L', absD S', absL L', rfl, ⟨hdl.disk, hdl.gb, rfl, hdl.vars, hfr, fun b hb => (hoff b hb).1, hv⟩, fun h0 => ⟨hdl, rfl, rfl, (hc h0).1, hfr, hoff, hv⟩, hop⟩
theorem dk_list {w0 w : World} {bd : Nat} {S : DS} {ro : Int} {A : DA} (h : Dk w0 w bd S ro A) (hdn : A.down = false) : Calls Tryz.prog 33 #[.pointer (some ⟨bd, 0, none⟩)] w fun e w' => ∃ v, e = .returned v ∧ StrV w' v (nmS A.l) ∧ Below w.heap.size w w' := by
  have el : absP S = A.l := congrArg DA.l h.a
  have ed : S.down = A.down := congrArg DA.down h.a
  have := wlist_v h.disk h.gb (ed.trans hdn)
  rw [el] at this
  exact this
theorem dk_spoil {w0 w : World} {bd : Nat} {S : DS} {ro : Int} {A : DA} (h : Dk w0 w bd S ro A) (s : ByteArray) (hs : s.size ≤ 1000) (x y : Int) :
    Calls Tryz.prog 29 #[.pointer (some ⟨bd, 0, none⟩), .string s, .int .i64 x, .int .u8 y] w fun e w' => ∃ S', e = .returned (.int .i64 (eSpo A.l s x)) ∧ Dk w0 w' bd S' ro { A with l := lSpo A.l s x y } := by
  have el : absP S = A.l := congrArg DA.l h.a
  refine (g_spoil h.disk h.gb s (by omega) x y).mono ?_
  rintro e w' ⟨rfl, S', hD, hF, hG⟩
  rw [el] at hG ⊢
  have hw : Wf (lSpo A.l s x y) ro := by
    rw [← el]
    exact spo_wf h.disk.srt h.gb.wf s x y
  have hc := h.gb.cnt
  refine ⟨S', rfl, h.fr' hD ⟨by unfold Cnt at hc ⊢; rw [hG.armed, hG.steps]; exact hc, hG.room.trans h.gb.rm, h.gb.r0, by rw [hG.abs]; exact hw⟩ hF ?_⟩
  rw [← h.a]
  unfold absD
  rw [hG.abs, hG.down, hG.steps, hG.armed, hG.plan, hG.room, ← el]
theorem lg_boot {w0 w : World} {bd : Nat} {S : DS} {ro : Int} {A : DA} (h : Dk w0 w bd S ro A) (v : Value) (ks : List Int) (hv : IntsV w0 v ks) (hkl : ks.length ≤ 9223372036854775807) :
    Calls Tryz.prog 23 #[.pointer (some ⟨bd, 0, none⟩), v] w fun e w' => ∃ S', e = .returned (.tuple #[]) ∧ Dk w0 w' bd S' ro ⟨bootT A.l ks, false, A.steps, A.armed, fun _ => 0, A.room⟩ := by
  have hD := h.disk
  have hG := h.gb
  have el : absP S = A.l := congrArg DA.l h.a
  have hlen : S.fs.length ≤ 1000 := by have := hG.wf.len; unfold absP at this; rw [List.length_map] at this; omega
  have hv' : IntsV w v ks := by
    obtain ⟨a, cap, rfl, hc⟩ := hv
    refine ⟨a, cap, rfl, fun j x hj => ?_⟩
    obtain ⟨b, o, e1, e2⟩ := hc j x hj
    exact ⟨b, o, e1, (World.cell?_of_block (a := ⟨b, o + j, none⟩) (h.fr.block b (cell_lt e2))).trans e2⟩
  refine (boot_any hD hlen (fun p hp => hG.wf.safe (p.1, (S.fl p.1).bs, (S.fl p.1).safe) (List.mem_map.2 ⟨p, hp, rfl⟩)) v ks hv' hkl (fun b hb => h.off b (hv.lt b hb))).mono ?_
  rintro e w' ⟨rfl, S', ss, hp, hc, hD', hF⟩
  have ha := cut_abs hD hp hc
  have hst : S'.steps = S.steps := hc.steps
  have har : S'.armed = S.armed := hc.armed
  refine ⟨S', rfl, h.fr' hD' ⟨by have := hG.cnt; unfold Cnt at this ⊢; rw [hst, har]; exact this, hc.room.trans hG.rm, hG.r0, by rw [ha]; exact boot_wf hG.wf _⟩ hF ?_⟩
  rw [← h.a]
  unfold absD
  rw [ha, hst, har, hc.plan, hc.down, hc.room]
  rfl
end Go.Proofs.YtoplejbmgpgkhaaGreatDoor
