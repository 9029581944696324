/- KR, WVA, NG -/
import Derived.Test.YtconkienlcegaaaGreatDoorGKQ
import Derived.Deep.RegionHeld3
import Derived.Test.YtconkienlcegaaaGreatDoorGWV9
import Derived.Test.YtconkienlcegaaaGreatDoorGKA
namespace Go.Proofs.YtconkienlcegaaaGreatDoor
open Go.RowKit Go.Maps Go.Joins Go.Shelf
set_option linter.unusedSimpArgs false
set_option linter.unusedVariables false
theorem row_form0 {w : World} {base size n : Nat} {e : TypeId} {v : Value} {xs : List Value} (h : w.ownsRow base e size v n xs) (hn : 0 < n) : ∃ g c, v = .slice (some ⟨g, 0, none⟩) n c ∧ n ≤ c ∧ c ≤ 9223372036854775807 := by
 rcases h.2 with ⟨_, h0⟩ | ⟨g, cap, cur, rfl, _, _, h1, h2, _⟩
 · omega
 · exact ⟨g, cap, rfl, h1, by unfold maxLen at h2; omega⟩
theorem AK.lt {w0 w : World} {bd bl b bm : Nat} {S : DS} {L : LS} {A : DA} {P : PL} {br : Bool} {m : List (List UInt8 × Value × List Int)} (h : AK w0 w bd bl b bm S L A P br m) : b < w.heap.size := h.ks.db.1
theorem AK.fresh {w0 w : World} {bd bl b bm : Nat} {S : DS} {L : LS} {A : DA} {P : PL} {br : Bool} {m : List (List UInt8 × Value × List Int)} (h : AK w0 w bd bl b bm S L A P br m) (x : Nat) (hx : w.heap.size ≤ x) : S.role x = .none ∧ L.own x = 0 := ⟨h.al.dl.disk.fresh x hx, h.al.dl.log.fresh x hx⟩
/-- Behind do. -/
theorem AK.did {w0 w w' : World} {bd bl b bm : Nat} {S : DS} {L : LS} {A : DA} {P : PL} {br : Bool} {m m' : List (List UInt8 × Value × List Int)} (h : AK w0 w bd bl b bm S L A P br m) (hg : w.grownBy w' (some bm)) (hk : KS w' (fun x => FreeD w0 w S L x ∨ (w.heap.size ≤ x ∧ x < w'.heap.size)) b bl br bm m') : AK w0 w' bd bl b bm S L A P br m' := by
 refine ⟨h.al.turn hg h.ks.dm h.v0, hk.mono (fun _ _ => rfl) (fun x hx => ?_), h.v0⟩; rcases hx with hx | hx
 · exact ⟨Nat.lt_of_lt_of_le hx.1 hg.size, hx.2⟩
 · exact ⟨hx.2, Nat.le_trans h.al.fr.size hx.1, h.fresh x hx.1⟩
set_option maxHeartbeats 4000000 in
/-- Put, where all goes well. -/
theorem put_ok {w0 w : World} {bd bl b bm : Nat} {S : DS} {L : LS} {A : DA} {P : PL} {m : List (List UInt8 × Value × List Int)} (h : AK w0 w bd bl b bm S L A P false m) (ho : okP A P) {v : Value} {l : List Ch} (hv : ChsV w (fun x => x < w.heap.size) v l) (hl : okL l) (hkb : KByt (encK l)) (hn : (encK l).length ≤ 65535) (hml : m.length ≤ 4611686018427387904)
 (h1 : (pApp A P (0 :: encK l)).1 = 0) (ho2 : okP (pApp A P (0 :: encK l)).2.1 (pApp A P (0 :: encK l)).2.2) (h2 : (pSync (pApp A P (0 :: encK l)).2.1 (pApp A P (0 :: encK l)).2.2).1 = 0) :
 Calls Tryz.prog 13 #[.pointer (some ⟨b, 0, none⟩), v] w fun e w' => e = .returned (.int .i64 0) ∧ ∃ S' L' m', AK w0 w' bd bl b bm S' L' (pSync (pApp A P (0 :: encK l)).2.1 (pApp A P (0 :: encK l)).2.2).2.1 (pSync (pApp A P (0 :: encK l)).2.1 (pApp A P (0 :: encK l)).2.2).2.2 false m' ∧ mk m' = doPs (mk m) l ∧ m'.length ≤ m.length + l.length := by
 have HB : Hid (∀ (_ : Unit), _) := fun _ => batch_any hv
 obtain ⟨q1, hq1⟩ : ∃ q1, q1 = pApp A P (0 :: encK l) := ⟨_, rfl⟩
 obtain ⟨q2, hq2⟩ : ∃ q2, q2 = pSync q1.2.1 q1.2.2 := ⟨_, rfl⟩
 rw [← hq1] at h1 ho2 h2 ⊢; rw [← hq2] at h2 ⊢; have HQ : Hid (q1 = pApp A P (0 :: encK l) ∧ q2 = pSync q1.2.1 q1.2.2 ∧ okP A P ∧ okP q1.2.1 q1.2.2 ∧ q1.1 = 0 ∧ q2.1 = 0) := ⟨hq1, hq2, ho, ho2, h1, h2⟩
 have HL : Hid (okL l ∧ KByt (encK l) ∧ (encK l).length ≤ 65535 ∧ m.length ≤ 4611686018427387904) := ⟨hl, hkb, hn, hml⟩
 have HK : Hid (AK w0 w bd bl b bm S L A P false m) := h; obtain ⟨av, cv, rfl, _, _, _⟩ := hv.form; obtain ⟨nl, hnl⟩ : ∃ nl, nl = l.length := ⟨_, rfl⟩
 have c2 : w.cell? ⟨b, 2, none⟩ = some (.bool false) := (cell_of_block h.ks.st 2).trans rfl; rw [← hnl] at HB ⊢; have HNL : Hid (nl = l.length) := hnl; clear h ho hv hl hkb hn hml h1 ho2 h2 hq1 hq2 hnl; have T1 : Hid True := trivial; go_enter Tryz.func13, Tryz.ntmps13; go_wp2_with (first
  | (have _ := T1
     go_at_call 31
     clear T1; refine Calls.mono (HB.out ()) ?_; rintro e w1 ⟨hb1, hr1⟩; obtain ⟨a1, c1, rfl, hrow⟩ : ∃ a1 c1, e = .returned (.tuple #[.slice a1 (encK l).length c1, .int .i64 0]) ∧ w1.ownsRow w.heap.size 5 1 (.slice a1 (encK l).length c1) (encK l).length (vB (encK l)) := by
      rcases hr1 with ⟨⟨c, hc, hno⟩, _⟩ | ⟨_, ⟨_, v1, he, hrow⟩ | ⟨hbig, _⟩⟩
      · exact absurd (HL.out.1 c hc).1 hno
      · obtain ⟨a1, c1, rfl⟩ := row_form hrow
        exact ⟨a1, c1, he, hrow⟩
      · have := HL.out.2.2.1; omega
     have H1 : Hid (Below w.heap.size w w1 ∧ w1.ownsRow w.heap.size 5 1 (.slice a1 (encK l).length c1) (encK l).length (vB (encK l))) := ⟨hb1, hrow⟩
     obtain ⟨n1, hn1⟩ : ∃ n1, n1 = (encK l).length := ⟨_, rfl⟩
     rw [← hn1]; have HN1 : Hid (n1 = (encK l).length) := hn1; clear hb1 hr1 hrow hn1 HB; have T2 : Hid True := trivial)
  | (have _ := T2
     at_builtin
     clear T2; refine wpList_append_b rfl _ _ rfl w.heap.size (.slice (some ⟨w1.heap.size, 0, none⟩) 1 1) (.slice a1 n1 c1) [0] (encK l) rfl (own_base (World.ownsRow_lit w1 #[.int .u8 0] 1 (Nat.le_refl _) (by decide) rfl) H1.out.1.size) rfl (by rw [HN1.out]; exact BytesV.of_own (World.ownsRow.alloc H1.out.2 _)) (by have := HL.out.2.2.1; simp; omega) (by have := H1.out.1.size; simp; omega) ?_; intro v2 w2 hrow2 hg2 ha2; obtain ⟨g2, c2', rfl, hc2, hm2⟩ := row_form0 hrow2 (by simp); have hb2 : Below w.heap.size w w2 := Below.grown (w := w1.alloc (.cells #[.int .u8 0] 5)) (H1.out.1.alloc H1.out.1.size _) hg2 (by have := H1.out.1.size; simp; omega) (fun k hk => by have h9 : some w1.heap.size = some k := hk; injection h9 with h9; rw [← h9]; exact H1.out.1.size); have H2 : Hid (Below w.heap.size w w2 ∧ w2.ownsRow w.heap.size 5 1 (.slice (some ⟨g2, 0, none⟩) (0 :: encK l).length c2') (0 :: encK l).length (vB (0 :: encK l)) ∧ (0 :: encK l).length ≤ c2' ∧ c2' ≤ 9223372036854775807) := ⟨hb2, hrow2, hc2, hm2⟩
     clear hrow2 hg2 ha2 hb2 hc2 hm2; have e9 : ([0] ++ encK l).length = (0 :: encK l).length := rfl; rw [e9]; clear e9; have hk2 := HK.out.below H2.out.1; have HS : Hid (∀ (_ : Unit), _) := fun _ => save_ok hk2 HQ.out.2.2.1 (va := some ⟨g2, 0, none⟩) (vc := c2') (bs := 0 :: encK l) (BytesV.of_own H2.out.2.1) (fun x hx => HK.out.fresh x (World.ownsRow.lt H2.out.2.1 x (dBlock_own hx)).1) (by have := HL.out.2.2.1; simp; omega) (by rw [← HQ.out.1]; exact HQ.out.2.2.2.2.1) (by rw [← HQ.out.1]; exact HQ.out.2.2.2.1) (by rw [← HQ.out.1, ← HQ.out.2.1]; exact HQ.out.2.2.2.2.2)
     rw [← HQ.out.1, ← HQ.out.2.1] at HS; obtain ⟨n2, hn2⟩ : ∃ n2, n2 = (0 :: encK l).length := ⟨_, rfl⟩
     rw [← hn2] at HS ⊢; have HN2 : Hid (n2 = (0 :: encK l).length) := hn2; clear hn2 hk2; have T3 : Hid True := trivial)
  | (have _ := T3
     go_at_call 49
     clear T3; refine Calls.mono (HS.out ()) ?_; rintro e w3 ⟨rfl, S3, L3, hk3, hsame⟩; have hrow2 := H2.out.2.1; have hgl := (World.ownsRow.lt hrow2 g2 rfl)
     have hfr := HK.out.fresh g2 hgl.1; have hbv : BytesV w3 (.slice (some ⟨g2, 0, none⟩) ((encK l).length + 1) c2') (0 :: encK l) := (BytesV.of_own hrow2).keep fun x hx => by
      have h9 := dBlock_own hx; have h8 : some g2 = some x := h9; injection h8 with h8
      rw [← h8]; exact hsame g2 hgl.2 hfr.1 hfr.2 (fun e => by have := HK.out.lt; omega)
     have HD : Hid (∀ (_ : Unit), _) := fun _ => do_batch hk3.ks (fun x hx => hx.1) hbv HL.out.1 HL.out.2.1 H2.out.2.2.1 H2.out.2.2.2 (by have := HL.out.2.2.1; omega) HL.out.2.2.2
     have HK3 : Hid (AK w0 w3 bd bl b bm S3 L3 q2.2.1 q2.2.2 false m) := hk3; have e9 : (encK l).length + 1 = n2 := by rw [HN2.out]; rfl
     rw [e9] at HD; clear hk3 hsame hrow2 hgl hfr hbv HS e9; have T4 : Hid True := trivial)
  | (have _ := T4
     go_at_call 45
     clear T4; refine Calls.mono (HD.out ()) ?_; rintro e w4 ⟨rfl, hg4, m4, hk4, hm4, hl4⟩; have HK4 : Hid (AK w0 w4 bd bl b bm S3 L3 q2.2.1 q2.2.2 false m4 ∧ mk m4 = doPs (mk m) l ∧ m4.length ≤ m.length + l.length) := ⟨HK3.out.did hg4 hk4, hm4, hl4⟩
     clear hg4 hk4 hm4 hl4 HD))
 go_returns
 exact ⟨rfl, S3, L3, m4, HK4.out.1, HK4.out.2.1, by rw [HNL.out]; exact HK4.out.2.2⟩
end Go.Proofs.YtconkienlcegaaaGreatDoor
namespace Go.Proofs.YtconkienlcegaaaGreatDoor
open Go.RowKit Go.Maps Go.Joins Go.Sort
set_option linter.unusedVariables false
set_option linter.unusedSimpArgs false
theorem dk_boot2 {w0 w : World} {bd : Nat} {S : DS} {ro : Int} {A : DA} (h : Dk w0 w bd S ro A) (v : Value) (ks : List Int) (hv : IntsV w0 v ks) (hkl : ks.length ≤ 9223372036854775807) :
 Calls Tryz.prog 18 #[.pointer (some ⟨bd, 0, none⟩), v] w fun e w' => ∃ S', e = .returned (.tuple #[]) ∧ Dk w0 w' bd S' ro ⟨bootT A.l ks, false, A.steps, A.armed, fun _ => 0, A.room⟩ ∧ Fr w w' S S' := by
 have hD := h.disk; have hG := h.gb; have el : absP S = A.l := congrArg DA.l h.a; have hlen : S.fs.length ≤ 1000 := by have := hG.wf.len; unfold absP at this; rw [List.length_map] at this; omega
 have hv' : IntsV w v ks := by
  obtain ⟨a, cap, rfl, hc⟩ := hv; refine ⟨a, cap, rfl, fun j x hj => ?_⟩; obtain ⟨b, o, e1, e2⟩ := hc j x hj; exact ⟨b, o, e1, (World.cell?_of_block (a := ⟨b, o + j, none⟩) (h.fr.block b (cell_lt e2))).trans e2⟩
 refine (boot_any hD hlen (fun p hp => hG.wf.safe (p.1, (S.fl p.1).bs, (S.fl p.1).safe) (List.mem_map.2 ⟨p, hp, rfl⟩)) v ks hv' hkl (fun b hb => h.off b (hv.lt b hb))).mono ?_; rintro e w' ⟨rfl, S', ss, hp, hc, hD', hF⟩; have ha := cut_abs hD hp hc; have hst : S'.steps = S.steps := hc.steps; have har : S'.armed = S.armed := hc.armed; refine ⟨S', rfl, h.fr' hD' ⟨by have := hG.cnt; unfold Cnt at this ⊢; rw [hst, har]; exact this, hc.room.trans hG.rm, hG.r0, by rw [ha]; exact boot_wf hG.wf _⟩ hF ?_, hF⟩; rw [← h.a]; unfold absD; rw [ha, hst, har, hc.plan, hc.down, hc.room]; rfl
theorem dk_open2 {w0 w : World} {bd : Nat} {S : DS} {ro : Int} {A : DA} (h : Dk w0 w bd S ro A) (hdn : A.down = false) (hst : A.steps < 4611686018427387800) (hnm : NmB A.l) (most : Int) (hm : 1 ≤ most) :
 Calls Tryz.prog 40 #[.pointer (some ⟨bd, 0, none⟩), .string logB, .int .i64 most] w fun e w' => ∃ c bl S' L' A' P', e = .returned (.tuple #[if c = 0 then .pointer (some ⟨bl, 0, none⟩) else .pointer none, .int .i64 c]) ∧ (c = 0 → Lg w0 w' bd bl S' L' ro A' P' ∧ LN L') ∧ OpX A ⟨[], [], 0, false, most⟩ (srtI (numsOf (nmS A.l))) c A' P' ∧ OFr w w' S S' L' := by
 have hv := h.v0; have el : absP S = A.l := congrArg DA.l h.a; have ed : S.down = A.down := congrArg DA.down h.a; have es : S.steps = A.steps := congrArg DA.steps h.a; refine (open_any h.disk h.gb h.vars (fun b hb => h.off b (by omega)) (ed.trans hdn) (by rw [es]; exact hst) (by rw [el]; exact hnm.nmS) most hm).mono ?_; rintro e w' ⟨c, bl, S', L', rfl, hdl, hof, hop, hc⟩; rw [h.a, el] at hop; have hfr : Below w0.heap.size w0 w' := ⟨hof.os.trans h.fr.os, hof.tape.trans h.fr.tape, hof.output.trans h.fr.output, Nat.le_trans h.fr.size hof.size, fun b hb => (hof.block b (Nat.lt_of_lt_of_le hb h.fr.size) (h.off b hb)).trans (h.fr.block b hb)⟩
 have hoff : ∀ b, b < w0.heap.size → S'.role b = .none ∧ L'.own b = 0 := fun b hb => hof.off b (Nat.lt_of_lt_of_le hb h.fr.size) (h.off b hb)
 exact ⟨c, bl, S', L', absD S', absL L', rfl, fun h0 => ⟨⟨hdl, rfl, rfl, (hc h0).1, hfr, hoff, hv⟩, (hc h0).2⟩, hop, hof⟩
/-- A world that grew beside a disk and a log. -/
theorem Lg.grown {w0 w w' : World} {bd bl : Nat} {S : DS} {L : LS} {ro : Int} {A : DA} {P : PL} {r : Option Nat} (h : Lg w0 w bd bl S L ro A P) (hg : w.grownBy w' r) (hr : ∀ b, r = some b → w0.heap.size ≤ b ∧ S.role b = .none ∧ L.own b = 0) : Lg w0 w' bd bl S L ro A P := by
 have hv := h.v0; have hk : ∀ b, b < w.heap.size → (b < w0.heap.size ∨ S.role b ≠ .none ∨ L.own b ≠ 0) → w'.heap[b]? = w.heap[b]? := fun b hb ho => by
  refine hg.block b hb fun e => ?_
  obtain ⟨h1, h2, h3⟩ := hr b e.symm; rcases ho with h4 | h4 | h4
  · omega
  · exact h4 h2
  · exact h4 h3
 refine ⟨⟨h.dl.disk.kept (fun b hb => hk b (h.dl.disk.role_lt hb) (Or.inr (Or.inl hb))) hg.size, h.dl.gb, h.dl.log.kept (fun b hb => hk b (h.dl.log.own_lt hb) (Or.inr (Or.inr hb))) hg.size, h.dl.bdq, h.dl.apart, h.dl.vars.kept (fun b hb => hk b (by have := h.dl.vars.lt; omega) (Or.inl (by omega))), h.dl.voff⟩, h.a, h.p, h.nm, ?_, h.off, h.v0⟩; exact ⟨hg.os.trans h.fr.os, hg.tape.trans h.fr.tape, hg.output.trans h.fr.output, Nat.le_trans h.fr.size hg.size, fun b hb => (hk b (Nat.lt_of_lt_of_le hb h.fr.size) (Or.inl hb)).trans (h.fr.block b hb)⟩
theorem pApp_nmb {A : DA} (P : PL) (bs : List Int) (hn : NmB A.l) : NmB (pApp A P bs).2.1.l := by
 have h1 : ∀ {B : DA} (Q : PL), NmB B.l → NmB (pSync B Q).2.1.l := fun Q hn => by
  unfold pSync; split
  · exact hn.dSync _
  · exact hn
 have h2 : ∀ {B : DA} (Q : PL), NmB B.l → NmB (pPut B Q bs).2.1.l := fun Q hn => by
  unfold pPut; split
  · exact hn.dApp _ _
  · exact hn.dApp _ _
 unfold pApp; split
 · exact hn
 · split
   · split
     · exact h2 _ (h1 _ hn)
     · exact h1 _ hn
   · exact h2 _ hn
theorem pSync_nmb {A : DA} (P : PL) (hn : NmB A.l) : NmB (pSync A P).2.1.l := by
 unfold pSync; split
 · exact hn.dSync _
 · exact hn
theorem pSync_code {A : DA} {P : PL} {n0 : Int} {ini : List Seg} {la : Option Seg} {sc : Nat} (h : TV A.l P n0 ini la sc) : (pSync A P).1 ≠ 1 ∧ (pSync A P).1 ≠ 3 ∧ (pSync A P).1 ≠ 74 := by
 unfold pSync; split
 · rename_i hu
   cases hla : la with
   | none =>
     have := (h.nil0 hla).2.2.1; rw [hu] at this; cases this
   | some s =>
     obtain ⟨_, j, _, q3, _⟩ := h.las s hla; rw [h.last hla]; have hh : fT A.l (nb (fileB logB s.1)) = _ := q3.here; have hf : eFind A.l (fileB logB s.1) = 0 := by
      unfold eFind; rw [if_pos q3.nm, hh]; rfl
     have hsE : ∃ x, (dSync A (fileB logB s.1)).1 = x ∧ (x = 0 ∨ x = 30 ∨ x = 31 ∨ x = 32) := by
      refine ⟨_, rfl, ?_⟩; show (if A.sE _ = 0 then eFind _ _ else A.sE _) = 0 ∨ (if A.sE _ = 0 then eFind _ _ else A.sE _) = 30 ∨ (if A.sE _ = 0 then eFind _ _ else A.sE _) = 31 ∨ (if A.sE _ = 0 then eFind _ _ else A.sE _) = 32; rw [hf]; by_cases h0 : A.sE (fileB logB s.1) = 0
      · rw [if_pos h0]; exact Or.inl rfl
      · rw [if_neg h0]
        unfold DA.sE; rw [if_pos q3.nm]; unfold faultE; split
        · exact Or.inr (Or.inr (Or.inr rfl))
        · split
          · exact Or.inr (Or.inr (Or.inl rfl))
          · split
            · exact Or.inr (Or.inl rfl)
            · split
              · exact Or.inr (Or.inr (Or.inr rfl))
              · exact Or.inl rfl
     obtain ⟨x, hx, h4⟩ := hsE; show (dSync A (fileB logB s.1)).1 ≠ 1 ∧ (dSync A (fileB logB s.1)).1 ≠ 3 ∧ (dSync A (fileB logB s.1)).1 ≠ 74; rw [hx]; omega
 · exact ⟨fun h => (by cases h), fun h => (by cases h), fun h => (by cases h)⟩
/-- A store, its log and its disk; nothing of what lay in W, or is one of N, is theirs. -/
structure SK (W w : World) (bd bl b bm : Nat) (N : Nat → Prop) (br : Bool) (m : List (List UInt8 × Value × List Int)) (S : DS) (L : LS) (A : DA) (P : PL) (n0 : Int) (ini : List Seg) (la : Option Seg) (sc st : Nat) : Prop where
 lg : Lg W w bd bl S L 1073741824 A P
 ks : KS w (fun x => FreeD W w S L x ∧ ¬ N x) b bl br bm m
 tv : TV A.l P n0 ini la sc
 nm : NmB A.l
 st : A.steps ≤ (st : Int)
 no : ∀ x, N x → S.role x = .none ∧ L.own x = 0 ∧ x ≠ b ∧ x ≠ bm ∧ x < w.heap.size
theorem SK.lgok {W w : World} {bd bl b bm : Nat} {N : Nat → Prop} {br : Bool} {m : List (List UInt8 × Value × List Int)} {S : DS} {L : LS} {A : DA} {P : PL} {n0 : Int} {ini : List Seg} {la : Option Seg} {sc st : Nat} (h : SK W w bd bl b bm N br m S L A P n0 ini la sc st) (hst : st ≤ 4000000000000000000) : LgOk A P := by
 have el : absP S = A.l := congrArg DA.l h.lg.a; have hw : Wf A.l 1073741824 := el ▸ h.lg.dl.gb.wf; exact h.tv.ok0 hw (by omega) (by have := h.st; omega)
/-- What stands beside them stays. -/
structure SFr (w w' : World) (N : Nat → Prop) (b bm : Nat) : Prop where
 size : w.heap.size ≤ w'.heap.size
 no : ∀ x, N x → w'.heap[x]? = w.heap[x]?
theorem SK.f3 {W w w' : World} {bd bl b bm : Nat} {N : Nat → Prop} {br : Bool} {m : List (List UInt8 × Value × List Int)} {S S' : DS} {L L' : LS} {A A' : DA} {P P' : PL} {n0 n1 : Int} {ini ini' : List Seg} {la la' : Option Seg} {sc st sc' st' : Nat} (h : SK W w bd bl b bm N br m S L A P n0 ini la sc st) (hd : DL w' bd bl S' L' 1073741824) (hf : F3 w w' S L S' L') (ha : absD S' = A') (hp : absL L' = P') (hn : L'.nm = logB) (ht : TV A'.l P' n1 ini' la' sc') (hm : NmB A'.l) (hs : A'.steps ≤ (st' : Int)) :
 SK W w' bd bl b bm N br m S' L' A' P' n1 ini' la' sc' st' ∧ SFr w w' N b bm := by
 refine ⟨⟨h.lg.f3 hd hf ha hp hn, h.ks.mono (fun x hx => hf.block x hx.1.1 hx.1.2.2.1 hx.1.2.2.2) (fun x hx => ⟨⟨Nat.lt_of_lt_of_le hx.1.1 hf.size, hx.1.2.1, (hf.off x hx.1.1 hx.1.2.2.1 hx.1.2.2.2).1, (hf.off x hx.1.1 hx.1.2.2.1 hx.1.2.2.2).2⟩, hx.2⟩), ht, hm, hs, fun x hx => ?_⟩, hf.size, fun x hx => ?_⟩
 · obtain ⟨h1, h2, h3, h4, h5⟩ := h.no x hx
   obtain ⟨h6, h7⟩ := hf.off x h5 h1 h2; exact ⟨h6, h7, h3, h4, Nat.lt_of_lt_of_le h5 hf.size⟩
 · obtain ⟨h1, h2, h3, h4, h5⟩ := h.no x hx
   exact hf.block x h5 h1 h2
theorem SK.below {W w w' : World} {bd bl b bm : Nat} {N : Nat → Prop} {br : Bool} {m : List (List UInt8 × Value × List Int)} {S : DS} {L : LS} {A : DA} {P : PL} {n0 : Int} {ini : List Seg} {la : Option Seg} {sc st : Nat} (h : SK W w bd bl b bm N br m S L A P n0 ini la sc st) (hb : Below w.heap.size w w') : SK W w' bd bl b bm N br m S L A P n0 ini la sc st := by
 refine ⟨h.lg.below hb, h.ks.mono (fun x hx => hb.block x hx.1.1) (fun x hx => ⟨⟨Nat.lt_of_lt_of_le hx.1.1 hb.size, hx.1.2⟩, hx.2⟩), h.tv, h.nm, h.st, fun x hx => ?_⟩; obtain ⟨h1, h2, h3, h4, h5⟩ := h.no x hx; exact ⟨h1, h2, h3, h4, Nat.lt_of_lt_of_le h5 hb.size⟩
/-- One of N, or what is new, grows. -/
theorem SK.grown {W w w' : World} {bd bl b bm : Nat} {N N' : Nat → Prop} {br : Bool} {m : List (List UInt8 × Value × List Int)} {S : DS} {L : LS} {A : DA} {P : PL} {n0 : Int} {ini : List Seg} {la : Option Seg} {sc st : Nat} (h : SK W w bd bl b bm N br m S L A P n0 ini la sc st) {r : Option Nat} (hg : w.grownBy w' r) (hr : ∀ x, r = some x → N x ∧ W.heap.size ≤ x) (hN : ∀ x, N' x → (N x ∨ w.heap.size ≤ x) ∧ x < w'.heap.size) : SK W w' bd bl b bm N' br m S L A P n0 ini la sc st := by
 have hk : ∀ x, FreeD W w S L x ∧ ¬ N x → w'.heap[x]? = w.heap[x]? := fun x hx => hg.block x hx.1.1 (fun e => hx.2 (hr x e.symm).1)
 refine ⟨h.lg.grown hg (fun x hx => ?_), h.ks.mono hk (fun x hx => ⟨⟨Nat.lt_of_lt_of_le hx.1.1 hg.size, hx.1.2⟩, fun hc => ?_⟩), h.tv, h.nm, h.st, fun x hx => ?_⟩
 · obtain ⟨h1, h2⟩ := hr x hx
   exact ⟨h2, (h.no x h1).1, (h.no x h1).2.1⟩
 · rcases (hN x hc).1 with h1 | h1
   · exact hx.2 h1
   · have := hx.1.1
     omega
 · obtain ⟨h1 | h1, h2⟩ := hN x hx
   · obtain ⟨k1, k2, k3, k4, k5⟩ := h.no x h1
     exact ⟨k1, k2, k3, k4, h2⟩
   · exact ⟨h.lg.dl.disk.fresh x h1, h.lg.dl.log.fresh x h1, fun e => by have := h.ks.db.1.1; omega, fun e => by have := h.ks.dm.1.1; omega, h2⟩
/-- The store's own bool is set. -/
theorem SK.broke {W w : World} {bd bl b bm : Nat} {N : Nat → Prop} {br : Bool} {m : List (List UInt8 × Value × List Int)} {S : DS} {L : LS} {A : DA} {P : PL} {n0 : Int} {ini : List Seg} {la : Option Seg} {sc st : Nat} (h : SK W w bd bl b bm N br m S L A P n0 ini la sc st) (br' : Bool) : SK W (w.setCell ⟨b, 2, none⟩ (.bool br')) bd bl b bm N br' m S L A P n0 ini la sc st ∧ SFr w (w.setCell ⟨b, 2, none⟩ (.bool br')) N b bm := by
 have ho : ∀ x, x ≠ b → (w.setCell ⟨b, 2, none⟩ (.bool br')).heap[x]? = w.heap[x]? := fun x hx => Below.heap_setCell _ _ _ _ hx
 have hs : (w.setCell ⟨b, 2, none⟩ (.bool br')).heap.size = w.heap.size := by simp
 have hg : w.grownBy (w.setCell ⟨b, 2, none⟩ (.bool br')) (some b) := ⟨rfl, rfl, rfl, by rw [hs]; exact Nat.le_refl _, fun k hk hn => ho k (fun e => hn (by rw [e]))⟩
 refine ⟨⟨h.lg.grown hg (fun x hx => by injection hx with hx; rw [← hx]; exact h.ks.db.1.2), ⟨?_, ownsMap_heap h.ks.mp (ho _ (fun e => h.ks.ne e.symm)), fun p hp => ⟨(h.ks.vals p hp).1, ?_⟩, ?_, ?_⟩, h.tv, h.nm, h.st, fun x hx => ?_⟩, by rw [hs]; exact Nat.le_refl _, fun x hx => ho x (h.no x hx).2.2.1⟩
 · exact (heap_setCell_same _ _ 2 _ 96 (.bool br') h.ks.st)
 · have hk := (h.ks.vals p hp).2
   refine ⟨hk.is.keep fun x hx => ho x (fun e => ?_), fun x hx => ?_, hk.len⟩
   · exact bytes_store hk.is hx h.ks.st e
   · have := hk.d x hx
     unfold FreeD at this ⊢; rw [hs]; exact this
 · have := h.ks.db
   unfold FreeD at this ⊢; rw [hs]; exact this
 · have := h.ks.dm
   unfold FreeD at this ⊢; rw [hs]; exact this
 · rw [hs]; exact h.no x hx
theorem SFr.trans {w w' w2 : World} {N : Nat → Prop} {b bm : Nat} (h : SFr w w' N b bm) (k : SFr w' w2 N b bm) : SFr w w2 N b bm := ⟨Nat.le_trans h.size k.size, fun x hx => (k.no x hx).trans (h.no x hx)⟩
theorem SFr.of {w w' : World} {N : Nat → Prop} {b bm : Nat} (hb : Below w.heap.size w w') (hN : ∀ x, N x → x < w.heap.size) : SFr w w' N b bm := ⟨hb.size, fun x hx => hb.block x (hN x hx)⟩
/-- Append. -/
theorem SK.app {W w : World} {bd bl b bm : Nat} {N : Nat → Prop} {br : Bool} {m : List (List UInt8 × Value × List Int)} {S : DS} {L : LS} {A : DA} {P : PL} {n0 : Int} {ini : List Seg} {la : Option Seg} {sc st : Nat} (h : SK W w bd bl b bm N br m S L A P n0 ini la sc st) (hst : st ≤ 4000000000000000000) {va : Option Addr} {vc : Nat} {bs : List Int} (hv : BytesV w (.slice va bs.length vc) bs) (hN : ∀ x, dBlock (.slice va bs.length vc) bs = some x → N x) (hl : bs.length ≤ 65536) :
 Calls Tryz.prog 83 #[.pointer (some ⟨bl, 0, none⟩), .slice va bs.length vc] w fun e w' => ∃ S' L' ini' la', e = .returned (.int .i64 (pApp A P bs).1) ∧ SK W w' bd bl b bm N br m S' L' (pApp A P bs).2.1 (pApp A P bs).2.2 n0 ini' la' sc (st + 2) ∧ SFr w w' N b bm ∧ (pApp A P bs).2.2.rs = (if (pApp A P bs).1 = 0 then P.rs ++ [bs] else P.rs) := by
 have ho := h.lgok hst; have o2 := ho.rs; have o3 := ho.fs; have o4 := ho.sz; have o5 := ho.st; have e1 : S.steps = A.steps := by rw [← h.lg.a]; rfl
 have e2 : L.fs = P.fs := by rw [← h.lg.p]; rfl
 have e3 : L.rs.length = P.rs.length := by rw [← h.lg.p]; simp [absL]
 have e4 : L.size = P.size := by rw [← h.lg.p]; rfl
 have e5 : L.uns = P.uns := by rw [← h.lg.p]; rfl
 have hI : AppIn w bd bl S L 1073741824 va vc bs := ⟨h.lg.dl, hv, fun x hx => ⟨hv.lt x hx, (h.no x (hN x hx)).1, (h.no x (hN x hx)).2.1⟩, h.lg.nm, by rw [e5, e2]; exact ho.uns, ⟨by rw [e2]; exact ho.num, by omega⟩, by rw [e2]; omega, by rw [e4]; omega, by rw [e1]; omega, hl⟩
 refine (lappend_any hI).mono ?_; rintro e w' ⟨c, S', L', rfl, hp⟩; rw [h.lg.a, h.lg.p] at hp; obtain ⟨ini', la', q1, q2, q3⟩ := h.tv.app bs hl; have q6 := pApp_steps A P bs; obtain ⟨k1, k2⟩ := h.f3 hp.dl hp.f3 hp.disk hp.log (hp.nm.trans h.lg.nm) q1 (pApp_nmb P bs h.nm) (st' := st + 2) (by have := h.st; omega); exact ⟨S', L', ini', la', by rw [hp.code], k1, k2, q2⟩
/-- Sync. -/
theorem SK.sync {W w : World} {bd bl b bm : Nat} {N : Nat → Prop} {br : Bool} {m : List (List UInt8 × Value × List Int)} {S : DS} {L : LS} {A : DA} {P : PL} {n0 : Int} {ini : List Seg} {la : Option Seg} {sc st : Nat} (h : SK W w bd bl b bm N br m S L A P n0 ini la sc st) (hst : st ≤ 4000000000000000000) :
 Calls Tryz.prog 84 #[.pointer (some ⟨bl, 0, none⟩)] w fun e w' => ∃ S' L', e = .returned (.int .i64 (pSync A P).1) ∧ SK W w' bd bl b bm N br m S' L' (pSync A P).2.1 (pSync A P).2.2 n0 ini la (if (pSync A P).1 = 0 then P.rs.length else sc) (st + 1) ∧ SFr w w' N b bm := by
 have ho := h.lgok hst; have o5 := ho.st; have e1 : S.steps = A.steps := by rw [← h.lg.a]; rfl
 have e2 : L.fs = P.fs := by rw [← h.lg.p]; rfl
 have e5 : L.uns = P.uns := by rw [← h.lg.p]; rfl
 refine (lsync_any h.lg.dl (by rw [e5, e2]; exact ho.uns) h.lg.nm (by rw [e1]; omega)).mono ?_; rintro e w' ⟨c, S', L', rfl, hp, _⟩; rw [h.lg.a, h.lg.p] at hp; have q6 := (pSync_steps A P).2; obtain ⟨k1, k2⟩ := h.f3 hp.dl hp.f3 hp.disk hp.log (hp.nm.trans h.lg.nm) h.tv.sync.1 (pSync_nmb P h.nm) (st' := st + 1) (by have := h.st; omega); exact ⟨S', L', by rw [hp.code], k1, k2⟩
/-- Trim. -/
theorem SK.trim {W w : World} {bd bl b bm : Nat} {N : Nat → Prop} {br : Bool} {m : List (List UInt8 × Value × List Int)} {S : DS} {L : LS} {A : DA} {P : PL} {n0 : Int} {ini : List Seg} {la : Option Seg} {st : Nat} (h : SK W w bd bl b bm N br m S L A P n0 ini la P.rs.length st) (hst : st ≤ 4000000000000000000) (n : Int) :
 Calls Tryz.prog 53 #[.pointer (some ⟨bl, 0, none⟩), .int .i64 n] w fun e w' => ∃ c S' L' A' P' n1 ini', e = .returned (.int .i64 c) ∧ SK W w' bd bl b bm N br m S' L' A' P' n1 ini' la P'.rs.length (st + 16) ∧ SFr w w' N b bm ∧ P'.uns = P.uns ∧ n0 ≤ n1 ∧ P'.rs = P.rs.drop (n1 - n0).toNat ∧ (n1 = n0 ∨ n1 ≤ n) := by
 have ho := h.lgok hst; have o2 := ho.rs; have o3 := ho.fs; have o5 := ho.st; have e1 : S.steps = A.steps := by rw [← h.lg.a]; rfl
 have e2 : L.fs = P.fs := by rw [← h.lg.p]; rfl
 have e3 : L.rs.length = P.rs.length := by rw [← h.lg.p]; simp [absL]
 have e6 : L.rs.map (·.2) = P.rs := by rw [← h.lg.p]; rfl
 have hst1 := h.st; refine (ltrim_any h.lg.dl h.lg.nm (by rw [e2, e3]; exact h.tv.trimOk) (by rw [e2]; exact ho.num) (by rw [e1, e2]; omega) (by omega) n).mono ?_; rintro e w' ⟨S', L', rfl, k1, k2, k3, k4, k5⟩; rw [h.lg.a, h.lg.p, e2, e6] at k4; rw [h.lg.a, e2, e6] at k3; obtain ⟨n1, ini', t1, t2, t3, t4⟩ := TV.trim n ini h.tv; have q6 := pTrim_steps n P.fs A P.rs; have q7 := h.tv.files; have q8 : A.l.length ≤ 16 := by
  have el : absP S = A.l := congrArg DA.l h.lg.a; have := h.lg.dl.gb.wf.len; rw [el] at this; exact this
 rw [h.lg.a, e2, e6]; obtain ⟨j1, j2⟩ := h.f3 k1 k2 k3 k4 k5 t1 (pTrim_nmb n P.fs P.rs h.nm) (st' := st + 16) (by omega); exact ⟨_, S', L', _, _, n1, ini', rfl, j1, j2, rfl, t2, t3, t4⟩
/-- What save does: its code, whether the store is broken then, the log's records, how many of them are safe. -/
def SvR (rs : List (List Int)) (bs : List Int) (c : Int) (br' : Bool) (rs' : List (List Int)) (sc' : Nat) : Prop :=
 (c = 0 ∧ br' = false ∧ rs' = rs ++ [bs] ∧ sc' = rs'.length) ∨ (c ≠ 0 ∧ br' = true ∧ sc' = rs.length ∧ (rs' = rs ∨ (rs' = rs ++ [bs] ∧ c ≠ 1 ∧ c ≠ 3 ∧ c ≠ 74)))
/-- A store, told by its log's records. -/
def SI (W w : World) (bd b bm : Nat) (N : Nat → Prop) (br : Bool) (m : List (List UInt8 × Value × List Int)) (rs : List (List Int)) (sc st : Nat) (n0 : Int) : Prop :=
 ∃ bl S L A P ini la, SK W w bd bl b bm N br m S L A P n0 ini la sc st ∧ P.rs = rs ∧ (br = false → P.uns = false ∧ sc = rs.length)
theorem SK.si {W w : World} {bd bl b bm : Nat} {N : Nat → Prop} {br : Bool} {m : List (List UInt8 × Value × List Int)} {S : DS} {L : LS} {A : DA} {P : PL} {n0 : Int} {ini : List Seg} {la : Option Seg} {sc st : Nat} (h : SK W w bd bl b bm N br m S L A P n0 ini la sc st) {rs : List (List Int)} (hr : P.rs = rs) (ho : br = false → P.uns = false ∧ sc = rs.length) : SI W w bd b bm N br m rs sc st n0 := ⟨bl, S, L, A, P, ini, la, h, hr, ho⟩
def SaveR (W w : World) (bd b bm : Nat) (N : Nat → Prop) (m : List (List UInt8 × Value × List Int)) (rs : List (List Int)) (bs : List Int) (st : Nat) (n0 : Int) (e : Ending) (w' : World) : Prop :=
 ∃ c br' rs' sc', e = .returned (.int .i64 c) ∧ SI W w' bd b bm N br' m rs' sc' (st + 3) n0 ∧ SFr w w' N b bm ∧ SvR rs bs c br' rs' sc'
set_option maxHeartbeats 4000000 in
/-- save -/
theorem save_any {W w : World} {bd b bm : Nat} {n0 : Int} {N : Nat → Prop} {m : List (List UInt8 × Value × List Int)} {rs : List (List Int)} {sc st : Nat} (h : SI W w bd b bm N false m rs sc st n0) (hst : st ≤ 3000000000000000000) {va : Option Addr} {vc : Nat} {bs : List Int} (hv : BytesV w (.slice va bs.length vc) bs) (hN : ∀ x, dBlock (.slice va bs.length vc) bs = some x → N x) (hl : bs.length ≤ 65536) :
 Calls Tryz.prog 49 #[.pointer (some ⟨b, 0, none⟩), .slice va bs.length vc] w fun e w' => SaveR W w bd b bm N m rs bs st n0 e w' := by
 obtain ⟨bl, S, L, A, P, ini, la, hk, hrs, hun⟩ := h; have HA : Hid (∀ (_ : Unit), _) := fun _ => hk.app (by omega) hv hN hl
 obtain ⟨q1, hq1⟩ : ∃ q1, q1 = pApp A P bs := ⟨_, rfl⟩
 rw [← hq1] at HA; have c0 : w.cell? ⟨b, 0, none⟩ = some (.pointer (some ⟨bl, 0, none⟩)) := (cell_of_block hk.ks.st 0).trans rfl; obtain ⟨nb, hnb⟩ : ∃ nb, nb = bs.length := ⟨_, rfl⟩
 rw [← hnb] at HA ⊢; have HP : Hid (P.rs = rs ∧ sc = rs.length ∧ st ≤ 3000000000000000000) := ⟨hrs, (hun rfl).2, hst⟩
 clear hv hN hl hnb hk hrs hun hq1 hst; by_cases h1 : q1.1 = 0
 · rw [h1] at HA
   have T1 : Hid True := trivial; obtain ⟨q2, hq2⟩ : ∃ q2, q2 = pSync q1.2.1 q1.2.2 := ⟨_, rfl⟩
   have HQ : Hid (q2 = pSync q1.2.1 q1.2.2) := hq2; clear h1 hq2; go_enter Tryz.func49, Tryz.ntmps49; go_wp2_with (first
    | (have _ := T1
       go_at_call 83
       clear T1; refine Calls.mono (HA.out ()) ?_; rintro e w1 ⟨S1, L1, ini1, la1, rfl, hk1, hf1, hr1⟩; rw [if_pos rfl] at hr1; have HS : Hid (∀ (_ : Unit), _) := fun _ => hk1.sync (by have := HP.out.2.2; omega)
       rw [← HQ.out] at HS; have HC : Hid (q2.1 ≠ 1 ∧ q2.1 ≠ 3 ∧ q2.1 ≠ 74) := by rw [HQ.out]; exact pSync_code hk1.tv
       have HU : Hid (q2.1 = 0 → q2.2.2.uns = false) := by rw [HQ.out]; exact hk1.tv.sync.2
       have HR : Hid (q2.2.2.rs = rs ++ [bs]) := by show _ = _; rw [HQ.out, (pSync_rest _ _).2.1, hr1, HP.out.1]
       have HR1 : Hid (q1.2.2.rs = rs ++ [bs]) := by show _ = _; rw [hr1, HP.out.1]
       have HK1 : Hid (SFr w w1 N b bm) := hf1; have c1 : w1.cell? ⟨b, 0, none⟩ = some (.pointer (some ⟨bl, 0, none⟩)) := (cell_of_block hk1.ks.st 0).trans rfl; clear hk1 hf1 HA hr1; have T2 : Hid True := trivial)
    | (have _ := T2
       go_at_call 84
       clear T2; refine Calls.mono (HS.out ()) ?_; rintro e w2 ⟨S2, L2, rfl, hk2, hf2⟩; have HK2 : Hid (SK W w2 bd bl b bm N false m S2 L2 q2.2.1 q2.2.2 n0 ini1 la1 (if q2.1 = 0 then q1.2.2.rs.length else sc) (st + 3) ∧ SFr w w2 N b bm) := ⟨hk2, HK1.out.trans hf2⟩
       have c2 : w2.cell? ⟨b, 2, none⟩ = some (.bool false) := (cell_of_block hk2.ks.st 2).trans rfl; have f2 : w2.frozen? ⟨b, 2, none⟩ = false := unfrozen_of_block hk2.ks.st 2; obtain ⟨d, hd⟩ : ∃ d, d = q2.1 := ⟨_, rfl⟩
       rw [← hd]; have HDD : Hid (d = q2.1) := hd; clear hk2 hf2 HS hd))
   go_ret; by_cases hd0 : d = 0
   · have hq : q2.1 = 0 := by rw [← HDD.out]; exact hd0
     obtain ⟨j1, j2⟩ := HK2.out.1.broke false; rw [if_pos hq] at j1; subst hd0; exact ⟨0, false, rs ++ [bs], (rs ++ [bs]).length, rfl, SK.si (HR1.out ▸ j1) HR.out fun _ => ⟨HU.out hq, rfl⟩, HK2.out.2.trans j2, Or.inl ⟨rfl, rfl, rfl, rfl⟩⟩
   · have hq : ¬ q2.1 = 0 := by rw [← HDD.out]; exact hd0
     obtain ⟨j1, j2⟩ := HK2.out.1.broke true; rw [if_neg hq] at j1; have e9 : (d != 0) = true := by simpa using hd0
     exact ⟨d, true, rs ++ [bs], sc, rfl, by rw [e9]; exact SK.si j1 HR.out fun hc => (by cases hc), by rw [e9]; exact HK2.out.2.trans j2, Or.inr ⟨hd0, rfl, HP.out.2.1, Or.inr ⟨rfl, by rw [HDD.out]; exact HC.out⟩⟩⟩
 · obtain ⟨d, hd⟩ : ∃ d, d = q1.1 := ⟨_, rfl⟩
   rw [← hd] at HA; have HD : Hid (d = q1.1 ∧ ¬ q1.1 = 0) := ⟨hd, h1⟩
   have hd1 : (d == 0) = false := by rw [hd]; simpa using h1
   have hd2 : (d != 0) = true := by rw [hd]; simpa using h1
   clear h1 hd; have T1 : Hid True := trivial; go_enter Tryz.func49, Tryz.ntmps49; go_wp2_with (first
    | (have _ := T1
       go_at_call 83
       clear T1; refine Calls.mono (HA.out ()) ?_; rintro e w1 ⟨S1, L1, ini1, la1, rfl, hk1, hf1, hr1⟩; rw [if_neg (by rw [HD.out.1]; exact HD.out.2)] at hr1; have HK1 : Hid (SK W w1 bd bl b bm N false m S1 L1 q1.2.1 q1.2.2 n0 ini1 la1 sc (st + 2) ∧ SFr w w1 N b bm ∧ q1.2.2.rs = rs) := ⟨hk1, hf1, hr1.trans HP.out.1⟩
       have c2 : w1.cell? ⟨b, 2, none⟩ = some (.bool false) := (cell_of_block hk1.ks.st 2).trans rfl; have f2 : w1.frozen? ⟨b, 2, none⟩ = false := unfrozen_of_block hk1.ks.st 2; clear hk1 hf1 HA hr1))
   go_ret; obtain ⟨j1, j2⟩ := HK1.out.1.broke true
   have j3 : SK W (w1.setCell ⟨b, 2, none⟩ (.bool true)) bd bl b bm N true m S1 L1 q1.2.1 q1.2.2 n0 ini1 la1 sc (st + 3) := { j1 with st := by have := j1.st; omega }
   exact ⟨d, true, rs, sc, rfl, SK.si j3 HK1.out.2.2 fun hc => (by cases hc), HK1.out.2.1.trans j2, Or.inr ⟨by rw [HD.out.1]; exact HD.out.2, rfl, HP.out.2.1, Or.inl rfl⟩⟩
end Go.Proofs.YtconkienlcegaaaGreatDoor
