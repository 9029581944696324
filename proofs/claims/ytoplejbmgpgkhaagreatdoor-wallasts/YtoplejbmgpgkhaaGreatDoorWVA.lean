/- wal: WalLasts: the calls, beside a list of the caller's own. -/
import Derived.Test.YtoplejbmgpgkhaaGreatDoorWV9
import Derived.Test.YtoplejbmgpgkhaaGreatDoorM41
namespace Go.Proofs.YtoplejbmgpgkhaaGreatDoor
open Go.RowKit Go.Maps Go.Joins Go.Sort
set_option linter.unusedVariables false
set_option linter.unusedSimpArgs false
theorem lg_append2 {w0 w : World} {bd bl : Nat} {S : DS} {L : LS} {ro : Int} {A : DA} {P : PL} (h : Lg w0 w bd bl S L ro A P) (ho : LgOk A P) (va : Option Addr) (vc : Nat) (bs : List Int) (hbv : BytesV w0 (.slice va bs.length vc) bs) (hl : bs.length ≤ 65536) :
    Calls Tryz.prog 14 #[.pointer (some ⟨bl, 0, none⟩), .slice va bs.length vc] w fun e w' => ∃ S' L', e = .returned (.int .i64 (pApp A P bs).1) ∧ Lg w0 w' bd bl S' L' ro (pApp A P bs).2.1 (pApp A P bs).2.2 ∧ F3 w w' S L S' L' := by
  have o2 := ho.rs
  have o3 := ho.fs
  have o4 := ho.sz
  have o5 := ho.st
  have e1 : S.steps = A.steps := by rw [← h.a]; rfl
  have e2 : L.fs = P.fs := by rw [← h.p]; rfl
  have e3 : L.rs.length = P.rs.length := by rw [← h.p]; simp [absL]
  have e4 : L.size = P.size := by rw [← h.p]; rfl
  have e5 : L.uns = P.uns := by rw [← h.p]; rfl
  have hI : AppIn w bd bl S L ro va vc bs :=
    ⟨h.dl, hbv.keep (fun b hb => h.fr.block b (hbv.lt b hb)), fun b hb => ⟨Nat.lt_of_lt_of_le (hbv.lt b hb) h.fr.size, h.off b (hbv.lt b hb)⟩, h.nm, by rw [e5, e2]; exact ho.uns, ⟨by rw [e2]; exact ho.num, by omega⟩, by rw [e2]; omega, by rw [e4]; omega, by rw [e1]; omega, hl⟩
  refine (lappend_any hI).mono ?_
  rintro e w' ⟨c, S', L', rfl, hp⟩
  rw [h.a, h.p] at hp
  exact ⟨S', L', by rw [hp.code], h.f3 hp.dl hp.f3 hp.disk hp.log (hp.nm.trans h.nm), hp.f3⟩
theorem lg_sync2 {w0 w : World} {bd bl : Nat} {S : DS} {L : LS} {ro : Int} {A : DA} {P : PL} (h : Lg w0 w bd bl S L ro A P) (ho : LgOk A P) :
    Calls Tryz.prog 16 #[.pointer (some ⟨bl, 0, none⟩)] w fun e w' => ∃ S' L', e = .returned (.int .i64 (pSync A P).1) ∧ Lg w0 w' bd bl S' L' ro (pSync A P).2.1 (pSync A P).2.2 ∧ F3 w w' S L S' L' := by
  have e1 : S.steps = A.steps := by rw [← h.a]; rfl
  have e2 : L.fs = P.fs := by rw [← h.p]; rfl
  have e5 : L.uns = P.uns := by rw [← h.p]; rfl
  have o5 := ho.st
  refine (lsync_any h.dl (by rw [e5, e2]; exact ho.uns) h.nm (by rw [e1]; omega)).mono ?_
  rintro e w' ⟨c, S', L', rfl, hp, _⟩
  rw [h.a, h.p] at hp
  exact ⟨S', L', by rw [hp.code], h.f3 hp.dl hp.f3 hp.disk hp.log (hp.nm.trans h.nm), hp.f3⟩
theorem lg_arm {w0 w : World} {bd bl : Nat} {S : DS} {L : LS} {ro : Int} {A : DA} {P : PL} (h : Lg w0 w bd bl S L ro A P) (va : Option Addr) (vc : Nat) (ps : List (Int × Int)) (hv : FltV w va ps) (hw : FW ps) :
    Calls Tryz.prog 25 #[.pointer (some ⟨bd, 0, none⟩), .slice va ps.length vc] w fun e w' => (∃ S' A', e = .returned (.int .i64 0) ∧ Lg w0 w' bd bl S' L ro A' P ∧ A'.l = A.l ∧ A'.steps = A.steps) ∨ (e = .returned (.int .i64 1) ∧ Below w0.heap.size w0 w') := by
  refine (arm_any h.dl.disk va vc ps hv hw).mono ?_
  rintro e w' (⟨hr, rfl, b, hD, hF⟩ | ⟨_, rfl, hb⟩)
  · have hc := h.dl.gb.cnt
    have hG : GB (armS S b ps) ro := ⟨by unfold Cnt at hc ⊢; show 0 ≤ S.steps ∧ S.steps ≤ S.steps ∧ S.steps < 4611686018427387904; omega, h.dl.gb.rm, h.dl.gb.r0, h.dl.gb.wf⟩
    obtain ⟨h1, h2⟩ := h.dl.disked hD hF hG
    exact Or.inl ⟨armS S b ps, _, rfl, h.f3 h1 h2 rfl h.p h.nm, by rw [← h.a]; rfl, by rw [← h.a]; rfl⟩
  · exact Or.inr ⟨rfl, h.fr.trans (hb.mono h.fr.size)⟩
theorem dk_boot2 {w0 w : World} {bd : Nat} {S : DS} {ro : Int} {A : DA} (h : Dk w0 w bd S ro A) (v : Value) (ks : List Int) (hv : IntsV w0 v ks) (hkl : ks.length ≤ 9223372036854775807) :
    Calls Tryz.prog 23 #[.pointer (some ⟨bd, 0, none⟩), v] w fun e w' => ∃ S', e = .returned (.tuple #[]) ∧ Dk w0 w' bd S' ro ⟨bootT A.l ks, false, A.steps, A.armed, fun _ => 0, A.room⟩ ∧ Fr w w' S S' := by
  have hD := h.disk
  have hG := h.gb
  have el : absP S = A.l := congrArg DA.l h.a
  have hlen : S.fs.length ≤ 1000 := by have := hG.wf.len; unfold absP at this; rw [List.length_map] at this; omega
  have hv' : IntsV w v ks := by
    obtain ⟨a, cap, rfl, hc⟩ := hv
    refine ⟨a, cap, rfl, fun j x hj => ?_⟩
    obtain ⟨b, o, e1, e2⟩ := hc j x hj
    exact ⟨b, o, e1, (World.cell?_of_block (a := ⟨b, o + j, none⟩) (h.fr.block b (cell_lt e2))).trans e2⟩
  refine (boot_any hD hlen (fun p hp => hG.wf.safe (p.1, (S.fl p.1).bs, (S.fl p.1).safe) (List.mem_map.2 ⟨p, hp, rfl⟩)) v ks hv' hkl (fun b hb => h.off b (hv.lt b hb))).mono ?_
  rintro e w' ⟨rfl, S', ss, hp, hc, hD', hF⟩
  have ha := cut_abs hD hp hc
  have hst : S'.steps = S.steps := hc.steps
  have har : S'.armed = S.armed := hc.armed
  refine ⟨S', rfl, h.fr' hD' ⟨by have := hG.cnt; unfold Cnt at this ⊢; rw [hst, har]; exact this, hc.room.trans hG.rm, hG.r0, by rw [ha]; exact boot_wf hG.wf _⟩ hF ?_, hF⟩
  rw [← h.a]
  unfold absD
  rw [ha, hst, har, hc.plan, hc.down, hc.room]
  rfl
theorem dk_open2 {w0 w : World} {bd : Nat} {S : DS} {ro : Int} {A : DA} (h : Dk w0 w bd S ro A) (hdn : A.down = false) (hst : A.steps < 4611686018427387800) (hnm : NmB A.l) (most : Int) (hm : 1 ≤ most) :
    Calls Tryz.prog 12 #[.pointer (some ⟨bd, 0, none⟩), .string logB, .int .i64 most] w fun e w' => ∃ c bl S' L' A' P', e = .returned (.tuple #[if c = 0 then .pointer (some ⟨bl, 0, none⟩) else .pointer none, .int .i64 c]) ∧ (c = 0 → Lg w0 w' bd bl S' L' ro A' P' ∧ LN L') ∧ OpX A ⟨[], [], 0, false, most⟩ (srtI (numsOf (nmS A.l))) c A' P' ∧ OFr w w' S S' L' := by
  have hv := h.v0
  have el : absP S = A.l := congrArg DA.l h.a
  have ed : S.down = A.down := congrArg DA.down h.a
  have es : S.steps = A.steps := congrArg DA.steps h.a
  refine (open_any h.disk h.gb h.vars (fun b hb => h.off b (by omega)) (ed.trans hdn) (by rw [es]; exact hst) (by rw [el]; exact hnm.nmS) most hm).mono ?_
  rintro e w' ⟨c, bl, S', L', rfl, hdl, hof, hop, hc⟩
  rw [h.a, el] at hop
  have hfr : Below w0.heap.size w0 w' := ⟨hof.os.trans h.fr.os, hof.tape.trans h.fr.tape, hof.output.trans h.fr.output, Nat.le_trans h.fr.size hof.size, fun b hb => (hof.block b (Nat.lt_of_lt_of_le hb h.fr.size) (h.off b hb)).trans (h.fr.block b hb)⟩
  have hoff : ∀ b, b < w0.heap.size → S'.role b = .none ∧ L'.own b = 0 := fun b hb => hof.off b (Nat.lt_of_lt_of_le hb h.fr.size) (h.off b hb)
  exact ⟨c, bl, S', L', absD S', absL L', rfl, fun h0 => ⟨⟨hdl, rfl, rfl, (hc h0).1, hfr, hoff, hv⟩, (hc h0).2⟩, hop, hof⟩
/-- A world that grew beside a disk and a log. -/
theorem Lg.grown {w0 w w' : World} {bd bl : Nat} {S : DS} {L : LS} {ro : Int} {A : DA} {P : PL} {r : Option Nat} (h : Lg w0 w bd bl S L ro A P) (hg : w.grownBy w' r) (hr : ∀ b, r = some b → w0.heap.size ≤ b ∧ S.role b = .none ∧ L.own b = 0) : Lg w0 w' bd bl S L ro A P := by
  have hv := h.v0
  have hk : ∀ b, b < w.heap.size → (b < w0.heap.size ∨ S.role b ≠ .none ∨ L.own b ≠ 0) → w'.heap[b]? = w.heap[b]? := fun b hb ho => by
    refine hg.block b hb fun e => ?_
    obtain ⟨h1, h2, h3⟩ := hr b e.symm
    rcases ho with h4 | h4 | h4
    · omega
    · exact h4 h2
    · exact h4 h3
  refine ⟨⟨h.dl.disk.kept (fun b hb => hk b (h.dl.disk.role_lt hb) (Or.inr (Or.inl hb))) hg.size, h.dl.gb, h.dl.log.kept (fun b hb => hk b (h.dl.log.own_lt hb) (Or.inr (Or.inr hb))) hg.size, h.dl.bdq, h.dl.apart, h.dl.vars.kept (fun b hb => hk b (by have := h.dl.vars.lt; omega) (Or.inl (by omega))), h.dl.voff⟩, h.a, h.p, h.nm, ?_, h.off, h.v0⟩
  exact ⟨hg.os.trans h.fr.os, hg.tape.trans h.fr.tape, hg.output.trans h.fr.output, Nat.le_trans h.fr.size hg.size, fun b hb => (hk b (Nat.lt_of_lt_of_le hb h.fr.size) (Or.inl hb)).trans (h.fr.block b hb)⟩
theorem pApp_nmb {A : DA} (P : PL) (bs : List Int) (hn : NmB A.l) : NmB (pApp A P bs).2.1.l := by
  have h1 : ∀ {B : DA} (Q : PL), NmB B.l → NmB (pSync B Q).2.1.l := fun Q hn => by
    unfold pSync
    split
    · exact hn.dSync _
    · exact hn
  have h2 : ∀ {B : DA} (Q : PL), NmB B.l → NmB (pPut B Q bs).2.1.l := fun Q hn => by
    unfold pPut
    split
    · exact hn.dApp _ _
    · exact hn.dApp _ _
  unfold pApp
  split
  · exact hn
  · split
    · split
      · exact h2 _ (h1 _ hn)
      · exact h1 _ hn
    · exact h2 _ hn
theorem pSync_nmb {A : DA} (P : PL) (hn : NmB A.l) : NmB (pSync A P).2.1.l := by
  unfold pSync
  split
  · exact hn.dSync _
  · exact hn
/-- The loop's worlds: the log (rs its records), the caller's list v of its records (the first n). -/
structure LI (W wr : World) (bd bl : Nat) (v : Value) (vs : List Value) (rs : List (List Int)) (sc st : Nat) : Prop where
  own : wr.ownsRow W.heap.size 36 1 v vs.length vs
  log : ∃ (S : DS) (L : LS) (A : DA) (P : PL) (ini : List Seg) (la : Option Seg), Lg W wr bd bl S L 1073741824 A P ∧ LV A.l P ini la sc ∧ NmB A.l ∧ A.steps ≤ (st : Int) ∧ P.rs = rs ∧ ∀ b, v.ownBlock = some b → S.role b = .none ∧ L.own b = 0
theorem LI.bel {W wr : World} {bd bl : Nat} {v : Value} {vs : List Value} {rs : List (List Int)} {sc st : Nat} (h : LI W wr bd bl v vs rs sc st) : Below W.heap.size W wr := by
  obtain ⟨_, _, _, _, _, _, h, _⟩ := h.log
  exact h.fr
theorem LI.len {W wr : World} {bd bl : Nat} {v : Value} {vs : List Value} {rs : List (List Int)} {sc st : Nat} (h : LI W wr bd bl v vs rs sc st) : rs.length ≤ 100000000 ∧ sc ≤ rs.length := by
  obtain ⟨S, L, A, P, ini, la, h1, h2, h3, h4, rfl, h6⟩ := h.log
  have el : absP S = A.l := congrArg DA.l h1.a
  have hw : Wf A.l 1073741824 := el ▸ h1.dl.gb.wf
  exact ⟨(h2.small hw (by omega)).1, h2.sc_le⟩
theorem li_own {W wr w' : World} {S S' : DS} {L L' : LS} {v : Value} {vs : List Value} (h : wr.ownsRow W.heap.size 36 1 v vs.length vs) (ho : ∀ b, v.ownBlock = some b → S.role b = .none ∧ L.own b = 0) (hf : F3 wr w' S L S' L') : w'.ownsRow W.heap.size 36 1 v vs.length vs ∧ ∀ b, v.ownBlock = some b → S'.role b = .none ∧ L'.own b = 0 :=
  ⟨ownsRow_heap h (fun b hb => hf.block b (h.lt b hb).2 (ho b hb).1 (ho b hb).2), fun b hb => hf.off b (h.lt b hb).2 (ho b hb).1 (ho b hb).2⟩
theorem li_append {W wr : World} {bd bl : Nat} {v : Value} {vs : List Value} {rs : List (List Int)} {sc st : Nat} (h : LI W wr bd bl v vs rs sc st) (hst : st ≤ 40000000000000) (va : Option Addr) (vc : Nat) (bs : List Int) (hbv : BytesV W (.slice va bs.length vc) bs) (hl : bs.length ≤ 1000) :
    Calls Tryz.prog 14 #[.pointer (some ⟨bl, 0, none⟩), .slice va bs.length vc] wr fun e w' => ∃ c, e = .returned (.int .i64 c) ∧ LI W w' bd bl v vs (if c = 0 then rs ++ [bs] else rs) sc (st + 2) := by
  obtain ⟨S, L, A, P, ini, la, h1, h2, h3, h4, rfl, h6⟩ := h.log
  have el : absP S = A.l := congrArg DA.l h1.a
  have hw : Wf A.l 1073741824 := el ▸ h1.dl.gb.wf
  refine (lg_append2 h1 (h2.ok0 hw (by omega) (by omega)) va vc bs hbv (by omega)).mono ?_
  rintro e w' ⟨S', L', rfl, h7, h8⟩
  obtain ⟨ini', la', q1, q2, q3⟩ := h2.app bs (by omega)
  have q6 := pApp_steps A P bs
  obtain ⟨k1, k2⟩ := li_own h.own h6 h8
  exact ⟨_, rfl, k1, S', L', _, _, ini', la', h7, q1, pApp_nmb P bs h3, by omega, q2, k2⟩
theorem li_sync {W wr : World} {bd bl : Nat} {v : Value} {vs : List Value} {rs : List (List Int)} {sc st : Nat} (h : LI W wr bd bl v vs rs sc st) (hst : st ≤ 40000000000000) :
    Calls Tryz.prog 16 #[.pointer (some ⟨bl, 0, none⟩)] wr fun e w' => ∃ c, e = .returned (.int .i64 c) ∧ LI W w' bd bl v vs rs (if c = 0 then rs.length else sc) (st + 1) := by
  obtain ⟨S, L, A, P, ini, la, h1, h2, h3, h4, rfl, h6⟩ := h.log
  have el : absP S = A.l := congrArg DA.l h1.a
  have hw : Wf A.l 1073741824 := el ▸ h1.dl.gb.wf
  refine (lg_sync2 h1 (h2.ok0 hw (by omega) (by omega))).mono ?_
  rintro e w' ⟨S', L', rfl, h7, h8⟩
  have q6 := (pSync_steps A P).2
  obtain ⟨k1, k2⟩ := li_own h.own h6 h8
  exact ⟨_, rfl, k1, S', L', _, _, ini, la, h7, h2.sync.1, pSync_nmb P h3, by omega, (pSync_rest A P).2.1, k2⟩
/-- The caller's list grows. -/
theorem LI.add {W wr w' : World} {bd bl : Nat} {v v' : Value} {vs vs' : List Value} {rs : List (List Int)} {sc st : Nat} (h : LI W wr bd bl v vs rs sc st) (hg : wr.grownBy w' v.ownBlock) (ho : w'.ownsRow W.heap.size 36 1 v' vs'.length vs') (hv : v'.ownBlock = v.ownBlock ∨ ∀ b, v'.ownBlock = some b → wr.heap.size ≤ b) : LI W w' bd bl v' vs' rs sc st := by
  obtain ⟨S, L, A, P, ini, la, h1, h2, h3, h4, rfl, h6⟩ := h.log
  refine ⟨ho, S, L, A, P, ini, la, h1.grown hg (fun b hb => ⟨(h.own.lt b hb).1, h6 b hb⟩), h2, h3, h4, rfl, fun b hb => ?_⟩
  rcases hv with hv | hv
  · exact h6 b (hv ▸ hb)
  · exact ⟨h1.dl.disk.fresh b (hv b hb), h1.dl.log.fresh b (hv b hb)⟩
/-- Behind Boot. -/
structure LB (W wr : World) (bd : Nat) (v : Value) (vs : List Value) (rs : List (List Int)) (sc st : Nat) : Prop where
  own : wr.ownsRow W.heap.size 36 1 v vs.length vs
  disk : ∃ (S : DS) (A A1 : DA) (P : PL) (ini : List Seg) (la : Option Seg) (ks : List Int), Dk W wr bd S 1073741824 A1 ∧ A1 = ⟨bootT A.l ks, false, A.steps, A.armed, fun _ => 0, A.room⟩ ∧ LV A.l P ini la sc ∧ NmB A.l ∧ Srt A.l ∧ Wf A.l 1073741824 ∧ A.steps ≤ (st : Int) ∧ P.rs = rs ∧ ∀ b, v.ownBlock = some b → S.role b = .none
theorem li_boot {W wr : World} {bd bl : Nat} {v : Value} {vs : List Value} {rs : List (List Int)} {sc st : Nat} (h : LI W wr bd bl v vs rs sc st) (kv : Value) (ks : List Int) (hk : IntsV W kv ks) (hkl : ks.length ≤ 9223372036854775807) :
    Calls Tryz.prog 23 #[.pointer (some ⟨bd, 0, none⟩), kv] wr fun e w' => e = .returned (.tuple #[]) ∧ LB W w' bd v vs rs sc st := by
  obtain ⟨S, L, A, P, ini, la, h1, h2, h3, h4, rfl, h6⟩ := h.log
  have el : absP S = A.l := congrArg DA.l h1.a
  have hw : Wf A.l 1073741824 := el ▸ h1.dl.gb.wf
  have hs : Srt A.l := el ▸ h1.dl.disk.srt
  refine (dk_boot2 h1.dk kv ks hk hkl).mono ?_
  rintro e w' ⟨S', rfl, h7, h8⟩
  exact ⟨rfl, ownsRow_heap h.own (fun b hb => h8.block b (h.own.lt b hb).2 (h6 b hb).1), S', A, _, P, ini, la, ks, h7, rfl, h2, h3, hs, hw, h4, rfl, fun b hb => h8.role b (h.own.lt b hb).2 (h6 b hb).1⟩
/-- Behind Open. -/
structure LO (W wr : World) (bl : Nat) (v : Value) (vs : List Value) (L : LS) : Prop where
  own : wr.ownsRow W.heap.size 36 1 v vs.length vs
  log : LogIs wr bl L
  ln : LN L
  fr : Below W.heap.size W wr
  fst : Proofs.YtoplejbmgpgkhaaGreatDoor.fst L = 0
theorem LO.below {W wr w' : World} {bl : Nat} {v : Value} {vs : List Value} {L : LS} (h : LO W wr bl v vs L) (hb : Below wr.heap.size wr w') : LO W w' bl v vs L :=
  ⟨ownsRow_below h.own hb, h.log.below hb, h.ln, h.fr.trans (hb.mono h.fr.size), h.fst⟩
theorem lb_open {W wr : World} {bd : Nat} {v : Value} {vs : List Value} {rs : List (List Int)} {sc st : Nat} (h : LB W wr bd v vs rs sc st) (hst : st ≤ 40000000000000) (most : Int) (hm : 1 ≤ most) :
    Calls Tryz.prog 12 #[.pointer (some ⟨bd, 0, none⟩), .string logB, .int .i64 most] wr fun e w' => ∃ bl L, e = .returned (.tuple #[.pointer (some ⟨bl, 0, none⟩), .int .i64 0]) ∧ LO W w' bl v vs L ∧ sc ≤ L.rs.length ∧ L.rs.map (·.2) <+: rs := by
  obtain ⟨S, A, A1, P, ini, la, ks, h1, rfl, h2, h3, h4, h5, h6, rfl, h8⟩ := h.disk
  refine (dk_open2 h1 rfl (by show A.steps < _; omega) (h3.boot ks) most hm).mono ?_
  rintro e w' ⟨c, bl, S', L', A', P', rfl, h9, h10, h11⟩
  obtain ⟨rfl, k1, k2, k3, k4⟩ := open_crash h2 h4 h5 h10
  obtain ⟨h12, h13⟩ := h9 rfl
  have hp := h12.p
  subst hp
  have e3 : (absL L').rs.length = L'.rs.length := by simp [absL]
  refine ⟨bl, L', by rw [if_pos rfl], ⟨ownsRow_heap h.own (fun b hb => h11.block b (h.own.lt b hb).2 (h8 b hb)), h12.dl.log, h13, h12.fr, k1⟩, by omega, k3⟩
end Go.Proofs.YtoplejbmgpgkhaaGreatDoor
