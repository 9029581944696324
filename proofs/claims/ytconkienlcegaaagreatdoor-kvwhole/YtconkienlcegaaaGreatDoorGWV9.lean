/- WJ, WP, WQ, WV5, WV6, WV7, WV9 -/
import Derived.Test.YtconkienlcegaaaGreatDoorGWJ2
import Derived.Test.YtconkienlcegaaaGreatDoorGWJ4
import Derived.Test.YtconkienlcegaaaGreatDoorGWJ6
import Derived.Test.YtconkienlcegaaaGreatDoorGWO
import Derived.Test.YtconkienlcegaaaGreatDoorGWV4
namespace Go.Proofs.YtconkienlcegaaaGreatDoor
open Go.RowKit Go.Maps Go.Joins
set_option linter.unusedSimpArgs false
set_option linter.unusedVariables false
/-- Append -/
theorem lappend_any {w : World} {bd bl : Nat} {S : DS} {L : LS} {ro : Int} {va : Option Addr} {vc : Nat} {bs : List Int} (hI : AppIn w bd bl S L ro va vc bs) :
 Calls Tryz.prog 83 #[.pointer (some ⟨bl, 0, none⟩), .slice va bs.length vc] w fun e w' => ∃ c S' L', e = .returned (.int .i64 c) ∧ PR w w' bd bl S L ro (pApp (absD S) (absL L) bs) c S' L' := by
 by_cases hfs : L.fs = []
 · by_cases hs : (pSync (absD S) (absL L)).1 = 0
   · by_cases hok : (dApp (pSync (absD S) (absL L)).2.1 (fileB logB (endL L)) (frameB bs)).1 = 0
     · exact lappend_nil_t hI hfs hs hok
     · exact lappend_nil_f hI hfs hs hok
   · exact lappend_nil_s hI hfs hs
 · have hl : ¬ L.fs.length = 0 := fun h => hfs (List.eq_nil_of_length_eq_zero h)
   by_cases hm : L.most ≤ L.size
   · by_cases hs : (pSync (absD S) (absL L)).1 = 0
     · by_cases hok : (dApp (pSync (absD S) (absL L)).2.1 (fileB logB (endL L)) (frameB bs)).1 = 0
       · exact lappend_full_t hI hl hm hs hok
       · exact lappend_full_f hI hl hm hs hok
     · exact lappend_full_s hI hl hm hs
   · obtain ⟨x, hx⟩ : ∃ x, L.fs.getLast? = some x := by
      cases h : L.fs.getLast? with
      | none => exact absurd (List.getLast?_eq_none_iff.1 h) hfs
      | some y => exact ⟨y, rfl⟩
     by_cases hok : (dApp (absD S) (fileB logB x) (frameB bs)).1 = 0
     · exact lappend_old_t hI hl hm hx hok
     · exact lappend_old_f hI hl hm hx hok
end Go.Proofs.YtconkienlcegaaaGreatDoor
namespace Go.Proofs.YtconkienlcegaaaGreatDoor
open Go.RowKit Go.Maps Go.Joins Go.Sort
set_option linter.unusedSimpArgs false
set_option linter.unusedVariables false
def A0 : DA := ⟨[], false, 0, 0, fun _ => 0, 1000⟩
def P0 : PL := ⟨[], [], 0, false, 100⟩
def r1 := pApp A0 P0 [97]
def r2 := pSync r1.2.1 r1.2.2
def r3 := pApp r2.2.1 r2.2.2 [98]
/-- Nothing of what lay in w0 is the disk's or the log's. -/
structure Al (w0 w : World) (bd bl : Nat) (S : DS) (L : LS) (A : DA) (P : PL) : Prop where
 dl : DL w bd bl S L 1000
 a : absD S = A
 p : absL L = P
 nm : L.nm = logB
 fr : Below w0.heap.size w0 w
 off : ∀ b, b < w0.heap.size → S.role b = .none ∧ L.own b = 0
theorem Al.below {w0 w w' : World} {bd bl : Nat} {S : DS} {L : LS} {A : DA} {P : PL} (h : Al w0 w bd bl S L A P) (hb : Below w.heap.size w w') : Al w0 w' bd bl S L A P :=
 ⟨h.dl.below hb, h.a, h.p, h.nm, h.fr.trans (hb.mono h.fr.size), h.off⟩
theorem Al.f3 {w0 w w' : World} {bd bl : Nat} {S S' : DS} {L L' : LS} {A A' : DA} {P P' : PL} (h : Al w0 w bd bl S L A P) (hd : DL w' bd bl S' L' 1000) (hf : F3 w w' S L S' L') (ha : absD S' = A') (hp : absL L' = P') (hn : L'.nm = logB) : Al w0 w' bd bl S' L' A' P' :=
 ⟨hd, ha, hp, hn, ⟨hf.os.trans h.fr.os, hf.tape.trans h.fr.tape, hf.output.trans h.fr.output, Nat.le_trans h.fr.size hf.size, fun b hb => (hf.block b (Nat.lt_of_lt_of_le hb h.fr.size) (h.off b hb).1 (h.off b hb).2).trans (h.fr.block b hb)⟩, fun b hb => hf.off b (Nat.lt_of_lt_of_le hb h.fr.size) (h.off b hb).1 (h.off b hb).2⟩
/-- What Append asks of a log's numbers. -/
def okP (A : DA) (P : PL) : Prop := (P.uns = true → P.fs ≠ []) ∧ (∀ x ∈ P.fs, 0 ≤ x ∧ x < 1000000000) ∧ P.rs.length ≤ 1000 ∧ P.fs.length ≤ 1000 ∧ 0 ≤ P.size ∧ P.size ≤ 1000 ∧ A.steps < 1000
/-- A disk with no log of ours in hand. -/
structure Ad (w0 w : World) (bd : Nat) (S : DS) (A : DA) : Prop where
 disk : DiskIs w bd S
 gb : GB S 1000
 a : absD S = A
 vars : Vars w
 fr : Below w0.heap.size w0 w
 off : ∀ b, b < w0.heap.size → S.role b = .none
 v0 : 5 ≤ w0.heap.size
theorem ad_new {w0 : World} (hV : Vars w0) : Calls Tryz.prog 8 #[.int .i64 1000] w0 fun e w' => ∃ bd S, e = .returned (.tuple #[.pointer (some ⟨bd, 0, none⟩), .int .i64 0]) ∧ Ad w0 w' bd S A0 := by
 have hv := hV.lt; refine (new_any 1000 (by omega) (by omega) w0).mono ?_; rintro e w' ⟨bd, S, rfl, hD, hb, hS, hr⟩; refine ⟨bd, S, rfl, hD, ⟨?_, ?_, by omega, ?_⟩, ?_, hV.below hb, hb, hr, hv⟩
 · rw [hS]; unfold Cnt; simp
 · rw [hS]
 · rw [hS]; exact ⟨by simp [absP], by simp [absP, sumT], fun p hp => by simp [absP] at hp⟩
 · rw [hS]; rfl
theorem ad_open {w0 w : World} {bd : Nat} {S : DS} (h : Ad w0 w bd S A0) : Calls Tryz.prog 40 #[.pointer (some ⟨bd, 0, none⟩), .string logB, .int .i64 100] w fun e w' => ∃ bl L, e = .returned (.tuple #[.pointer (some ⟨bl, 0, none⟩), .int .i64 0]) ∧ Al w0 w' bd bl S L A0 P0 := by
 have v0 := h.v0; have hl : absP S = [] := congrArg DA.l h.a; have hd : S.down = false := congrArg DA.down h.a; have hs : S.steps = 0 := congrArg DA.steps h.a; refine (open_zero h.disk h.gb h.vars (fun b hb => h.off b (by omega)) hd (by omega) (by rw [hl]; intro s hs; cases hs) 100 (by omega) (by rw [hl]; rfl)).mono ?_; rintro e w' (⟨_, bl, L, rfl, hdl, hof, hp, hn⟩ | ⟨n, c, bl, S', L', hne, _⟩)
 · exact ⟨bl, L, rfl, hdl, h.a, hp, hn, ⟨hof.os.trans h.fr.os, hof.tape.trans h.fr.tape, hof.output.trans h.fr.output, Nat.le_trans h.fr.size hof.size, fun b hb => (hof.block b (Nat.lt_of_lt_of_le hb h.fr.size) (h.off b hb)).trans (h.fr.block b hb)⟩, fun b hb => hof.off b (Nat.lt_of_lt_of_le hb h.fr.size) (h.off b hb)⟩
 · rw [hl] at hne
   cases hne
theorem al_boot {w0 w : World} {bd bl : Nat} {S : DS} {L : LS} {A : DA} {P : PL} (h : Al w0 w bd bl S L A P) (hv0 : 5 ≤ w0.heap.size) : Calls Tryz.prog 18 #[.pointer (some ⟨bd, 0, none⟩), .slice none 0 0] w fun e w' => e = .returned (.tuple #[]) ∧ ∃ S', Ad w0 w' bd S' ⟨bootT A.l [], false, A.steps, A.armed, fun _ => 0, A.room⟩ := by
 have hD := h.dl.disk; have hG := h.dl.gb; have hlen : S.fs.length ≤ 1000 := by have := hG.wf.len; unfold absP at this; rw [List.length_map] at this; omega
 refine (boot_any hD hlen (fun p hp => hG.wf.safe (p.1, (S.fl p.1).bs, (S.fl p.1).safe) (List.mem_map.2 ⟨p, hp, rfl⟩)) (.slice none 0 0) [] ⟨none, 0, rfl, fun j x hx => by simp at hx⟩ (by simp) (fun b hb => by simp [dBlock] at hb)).mono ?_; rintro e w' ⟨rfl, S', ss, hp, hc, hD', hF⟩; have ha := cut_abs hD hp hc; have hst : S'.steps = S.steps := hc.steps; have har : S'.armed = S.armed := hc.armed; have hvl := h.dl.vars.lt; refine ⟨rfl, S', hD', ⟨by have := hG.cnt; unfold Cnt at this ⊢; rw [hst, har]; exact this, hc.room.trans hG.rm, hG.r0, by rw [ha]; exact boot_wf hG.wf _⟩, ?_, h.dl.vars.kept (fun b hb => hF.block b (by omega) (h.dl.voff b hb).1), ?_, fun b hb => hF.role b (Nat.lt_of_lt_of_le hb h.fr.size) (h.off b hb).1, hv0⟩
 · rw [← h.a]
   unfold absD; rw [ha, hst, har, hc.plan, hc.down, hc.room]; rfl
 · exact ⟨hF.os.trans h.fr.os, hF.tape.trans h.fr.tape, hF.output.trans h.fr.output, Nat.le_trans h.fr.size hF.size, fun b hb => (hF.block b (Nat.lt_of_lt_of_le hb h.fr.size) (h.off b hb).1).trans (h.fr.block b hb)⟩
theorem c1 : (pApp A0 P0 [97]).1 = 0 := by decide +kernel
theorem c2 : (pSync r1.2.1 r1.2.2).1 = 0 := by decide +kernel
theorem c3 : (pApp r2.2.1 r2.2.2 [98]).1 = 0 := by decide +kernel
/-- A disk; nothing of what lay in w0 is its. -/
structure Dk (w0 w : World) (bd : Nat) (S : DS) (ro : Int) (A : DA) : Prop where
 disk : DiskIs w bd S
 gb : GB S ro
 a : absD S = A
 vars : Vars w
 fr : Below w0.heap.size w0 w
 off : ∀ b, b < w0.heap.size → S.role b = .none
 v0 : 5 ≤ w0.heap.size
/-- A disk and a log. -/
structure Lg (w0 w : World) (bd bl : Nat) (S : DS) (L : LS) (ro : Int) (A : DA) (P : PL) : Prop where
 dl : DL w bd bl S L ro
 a : absD S = A
 p : absL L = P
 nm : L.nm = logB
 fr : Below w0.heap.size w0 w
 off : ∀ b, b < w0.heap.size → S.role b = .none ∧ L.own b = 0
 v0 : 5 ≤ w0.heap.size
theorem Lg.below {w0 w w' : World} {bd bl : Nat} {S : DS} {L : LS} {ro : Int} {A : DA} {P : PL} (h : Lg w0 w bd bl S L ro A P) (hb : Below w.heap.size w w') : Lg w0 w' bd bl S L ro A P :=
 ⟨h.dl.below hb, h.a, h.p, h.nm, h.fr.trans (hb.mono h.fr.size), h.off, h.v0⟩
theorem Lg.f3 {w0 w w' : World} {bd bl : Nat} {S S' : DS} {L L' : LS} {ro : Int} {A A' : DA} {P P' : PL} (h : Lg w0 w bd bl S L ro A P) (hd : DL w' bd bl S' L' ro) (hf : F3 w w' S L S' L') (ha : absD S' = A') (hp : absL L' = P') (hn : L'.nm = logB) : Lg w0 w' bd bl S' L' ro A' P' :=
 ⟨hd, ha, hp, hn, ⟨hf.os.trans h.fr.os, hf.tape.trans h.fr.tape, hf.output.trans h.fr.output, Nat.le_trans h.fr.size hf.size, fun b hb => (hf.block b (Nat.lt_of_lt_of_le hb h.fr.size) (h.off b hb).1 (h.off b hb).2).trans (h.fr.block b hb)⟩, fun b hb => hf.off b (Nat.lt_of_lt_of_le hb h.fr.size) (h.off b hb).1 (h.off b hb).2, h.v0⟩
theorem Dk.fr' {w0 w w' : World} {bd : Nat} {S S' : DS} {ro : Int} {A A' : DA} (h : Dk w0 w bd S ro A) (hD : DiskIs w' bd S') (hG : GB S' ro) (hF : Fr w w' S S') (ha : absD S' = A') : Dk w0 w' bd S' ro A' := by
 have hv := h.v0; have hs := h.fr.size; exact ⟨hD, hG, ha, h.vars.kept (fun b hb => hF.block b (by omega) (h.off b (by omega))), ⟨hF.os.trans h.fr.os, hF.tape.trans h.fr.tape, hF.output.trans h.fr.output, Nat.le_trans h.fr.size hF.size, fun b hb => (hF.block b (Nat.lt_of_lt_of_le hb h.fr.size) (h.off b hb)).trans (h.fr.block b hb)⟩, fun b hb => hF.role b (Nat.lt_of_lt_of_le hb h.fr.size) (h.off b hb), h.v0⟩
/-- What the calls ask of a log's numbers. -/
structure LgOk (A : DA) (P : PL) : Prop where
 uns : P.uns = true → P.fs ≠ []
 num : ∀ x ∈ P.fs, 0 ≤ x ∧ x < 1000000000
 rs : P.rs.length ≤ 100000000
 fs : P.fs.length ≤ 100000000
 sz : 0 ≤ P.size ∧ P.size ≤ 1073741824
 st : A.steps < 4611686018427387800
def newA (r : Int) : DA := ⟨[], false, 0, 0, fun _ => 0, r⟩
theorem dk_new {w0 : World} (hV : Vars w0) (r : Int) (h0 : 0 ≤ r) (h1 : r ≤ 1073741824) : Calls Tryz.prog 8 #[.int .i64 r] w0 fun e w' => ∃ bd S, e = .returned (.tuple #[.pointer (some ⟨bd, 0, none⟩), .int .i64 0]) ∧ Dk w0 w' bd S r (newA r) := by
 have hv := hV.lt; refine (new_any r h0 h1 w0).mono ?_; rintro e w' ⟨bd, S, rfl, hD, hb, hS, hr⟩; refine ⟨bd, S, rfl, hD, ⟨?_, ?_, by omega, ?_⟩, ?_, hV.below hb, hb, hr, hv⟩
 · rw [hS]; unfold Cnt; simp
 · rw [hS]
 · rw [hS]; exact ⟨by simp [absP], by simp [absP, sumT]; exact h0, fun p hp => by simp [absP] at hp⟩
 · rw [hS]; rfl
theorem split_at : ∀ (rs : List (List Int)) (x : Nat), x < (joinF rs).length → ∃ pre r post, rs = pre ++ r :: post ∧ (joinF pre).length ≤ x ∧ x < (joinF pre).length + (12 + r.length)
 | [], x, h => absurd h (by simp [joinF])
 | r :: t, x, h => by
   by_cases hx : x < 12 + r.length
   · exact ⟨[], r, t, rfl, Nat.zero_le _, by simpa [joinF] using hx⟩
   · have h1 : (joinF (r :: t)).length = 12 + r.length + (joinF t).length := by
      show (frameB r ++ joinF t).length = _; rw [List.length_append, frameB_length]
     obtain ⟨pre, q, post, e, h2, h3⟩ := split_at t (x - (12 + r.length)) (by omega); have h4 : (joinF (r :: pre)).length = 12 + r.length + (joinF pre).length := by
      show (frameB r ++ joinF pre).length = _; rw [List.length_append, frameB_length]
     exact ⟨r :: pre, q, post, by rw [e]; rfl, by omega, by omega⟩
theorem pPut_steps (A : DA) (P : PL) (bs : List Int) : (pPut A P bs).2.1.steps ≤ A.steps + 1 := by
 unfold pPut; split
 · exact (dDo_steps A (fileB logB (pNum P)) 0 (lApp A.l A.room (fileB logB (pNum P)) (frameB bs))).2
 · exact (dDo_steps A (fileB logB (pNum P)) 0 (lApp A.l A.room (fileB logB (pNum P)) (frameB bs))).2
theorem pApp_steps (A : DA) (P : PL) (bs : List Int) : (pApp A P bs).2.1.steps ≤ A.steps + 2 := by
 have h1 := (pSync_steps A P).2; unfold pApp; split
 · show A.steps ≤ _
   omega
 · split
   · split
     · have := pPut_steps (pSync A P).2.1 (pSync A P).2.2 bs
       omega
     · omega
   · have := pPut_steps A P bs
     omega
/-- A part of a frame is no record. -/
theorem nx_cut {r : List Int} (hl : r.length ≤ 65536) (q : Nat) (hq : q < 12 + r.length) : (nx ((frameB r).take q)).1 = 10 := by
 have hlen : ((frameB r).take q).length = q := by
  rw [List.length_take, frameB_length]; omega
 by_cases h12 : q < 12
 · unfold nx
   rw [hlen, if_pos h12]
 · have h0 := nx_frame r [] hl
   rw [List.append_nil] at h0; have hg : ∀ j, j < 12 → ((frameB r).take q).getD j 0 = (frameB r).getD j 0 := fun j hj => by
    rw [List.getD_eq_getElem?_getD, List.getElem?_take_of_lt (by omega), ← List.getD_eq_getElem?_getD]
   have hn0 : numAt ((frameB r).take q) 0 = numAt (frameB r) 0 := by
    unfold numAt; rw [hg 0 (by omega), hg (0 + 1) (by omega), hg (0 + 2) (by omega), hg (0 + 3) (by omega)]
   have hn4 : numAt ((frameB r).take q) 4 = numAt (frameB r) 4 := by
    unfold numAt; rw [hg 4 (by omega), hg (4 + 1) (by omega), hg (4 + 2) (by omega), hg (4 + 3) (by omega)]
   have ht : ((frameB r).take q).take 4 = (frameB r).take 4 := by
    rw [List.take_take, Nat.min_eq_left (by omega)]
   have hfl : (frameB r).length = 12 + r.length := frameB_length r; unfold nx at h0; rw [hfl, if_neg (by omega)] at h0; by_cases h1 : numAt (frameB r) 4 ≠ sumB ((frameB r).take 4) ∨ 65536 < (numAt (frameB r) 0).toNat
   · rw [if_pos h1] at h0
     exact absurd (show (_ : Int) = 0 from congrArg Prod.fst h0) (by simp)
   · rw [if_neg h1] at h0
     have hN : (numAt (frameB r) 0).toNat = r.length := by
      by_cases h2 : 12 + r.length < 12 + (numAt (frameB r) 0).toNat
      · rw [if_pos h2] at h0
        exact absurd (show (_ : Int) = 0 from congrArg Prod.fst h0) (by simp)
      · rw [if_neg h2] at h0
        split at h0
        · exact absurd (show (_ : Int) = 0 from congrArg Prod.fst h0) (by simp)
        · have := congrArg (fun x => x.2.1) h0
          dsimp only at this
          omega
     unfold nx; rw [hlen, if_neg h12, hn4, ht, hn0, if_neg h1, hN, if_pos hq]
theorem joinF_le {a b : List (List Int)} (h : a <+: b) : (joinF a).length ≤ (joinF b).length := by
 obtain ⟨t, rfl⟩ := h; rw [joinF_append, List.length_append]; omega
/-- What a cut leaves of frames. -/
theorem joinF_cut {rs : List (List Int)} (hl : ∀ r ∈ rs, r.length ≤ 65536) (m : Nat) (hm : m ≤ (joinF rs).length) : ∃ i t, i ≤ rs.length ∧ (joinF rs).take m = joinF (rs.take i) ++ t ∧ (t = [] ∨ (nx t).1 = 10) ∧ ∀ j, j ≤ rs.length → (joinF (rs.take j)).length ≤ m → j ≤ i := by
 by_cases he : m = (joinF rs).length
 · exact ⟨rs.length, [], Nat.le_refl _, by rw [he, List.take_length, List.take_length, List.append_nil], Or.inl rfl, fun j hj _ => hj⟩
 · obtain ⟨pre, r, post, e, h1, h2⟩ := split_at rs m (by omega)
   have hr : r ∈ rs := by rw [e]; simp
   have hi : rs.take pre.length = pre := by rw [e, List.take_left]
   have hJ : joinF rs = joinF pre ++ (frameB r ++ joinF post) := by
    rw [e, joinF_append]; rfl
   have hfl := frameB_length r; refine ⟨pre.length, (frameB r).take (m - (joinF pre).length), by rw [e, List.length_append]; omega, ?_, Or.inr (nx_cut (hl r hr) _ (by omega)), fun j hj hjm => ?_⟩
   · rw [hi, hJ, List.take_append, List.take_of_length_le h1, List.take_append, show m - (joinF pre).length - (frameB r).length = 0 by omega, List.take_zero, List.append_nil]
   · rcases Nat.lt_or_ge pre.length j with h3 | h3
     · exfalso
       have h4 : pre ++ [r] <+: rs.take j := by
        have h5 : pre ++ [r] = rs.take (pre.length + 1) := by
         rw [e, List.take_append, List.take_of_length_le (by omega), show pre.length + 1 - pre.length = 1 by omega]; rfl
        rw [h5]; exact List.take_prefix_take_left (by omega)
       have h5 := joinF_le h4; rw [joinF_append, joinF_one, List.length_append] at h5; omega
     · exact h3
theorem fT_mapIdx {g : Nat → Tf → Tf} (hg : ∀ j p, (g j p).1 = p.1) {n : List UInt8} {p : Tf} : ∀ {l : List Tf}, fT l n = some p → ∀ (f : Nat → Nat), ∃ j, fT (l.mapIdx fun i q => g (f i) q) n = some (g j p)
 | [], h, f => by cases h
 | a :: r, h, f => by
   rw [List.mapIdx_cons]; unfold fT at h ⊢; by_cases e : a.1 = n
   · rw [List.find?_cons_of_pos (by simpa using e)] at h
     injection h with h
     subst h; exact ⟨f 0, by rw [List.find?_cons_of_pos (by simp [hg, e])]⟩
   · rw [List.find?_cons_of_neg (by simpa using e)] at h
     rw [List.find?_cons_of_neg (by simp [hg, e])]; exact fT_mapIdx hg (l := r) h fun i => f (i + 1)
theorem boot_f {l : List Tf} {n : List UInt8} {p : Tf} (ks : List Int) (h : fT l n = some p) (hz : 0 ≤ p.2.2 ∧ p.2.2 ≤ p.2.1.length) : ∃ m : Int, p.2.2 ≤ m ∧ m ≤ p.2.1.length ∧ fT (bootT l ks) n = some (p.1, p.2.1.take m.toNat, m) := by
 obtain ⟨j, hj⟩ := fT_mapIdx (g := fun j p => (p.1, p.2.1.take (keepT p ks j).toNat, keepT p ks j)) (fun _ _ => rfl) h id; refine ⟨keepT p ks j, ?_, ?_, hj⟩
 · unfold keepT
   split <;> omega
 · unfold keepT
   split <;> omega
theorem nmS_boot (l : List Tf) (ks : List Int) : nmS (bootT l ks) = nmS l := by
 unfold nmS bootT; apply List.ext_getElem?; intro j; rw [List.getElem?_map, List.getElem?_mapIdx, List.getElem?_map, Option.map_map]; rfl
/-- Where the next file begins. -/
def At (P : PL) (n : Int) : Prop := (P.fs = [] ∧ P.rs = []) ∨ (P.fs ≠ [] ∧ P.en = n)
theorem At.ok {P : PL} {n : Int} (h : At P n) : ¬ (P.fs ≠ [] ∧ n ≠ P.en) := by
 rcases h with ⟨h1, _⟩ | ⟨_, h2⟩
 · exact fun h => h.1 h1
 · exact fun h => h.2 h2.symm
theorem At.next {P : PL} {n : Int} (h : At P n) (rs : List (List Int)) (z : Int) : At { P with fs := P.fs ++ [n], rs := P.rs ++ rs, size := z } (n + rs.length) := by
 refine Or.inr ⟨by simp, ?_⟩; rcases h with ⟨h1, h2⟩ | ⟨h1, h2⟩
 · show (P.fs ++ [n]).headD 0 + ((P.rs ++ rs).length : Int) = _
   rw [h1, h2]; rfl
 · show (P.fs ++ [n]).headD 0 + ((P.rs ++ rs).length : Int) = _
   have h3 : (P.fs ++ [n]).headD 0 = P.fs.headD 0 := by
    cases hf : P.fs with
    | nil => exact absurd hf h1
    | cons a r => rfl
   have h4 : P.fs.headD 0 + (P.rs.length : Int) = n := h2; rw [h3, List.length_append]; omega
/-- Whole files are taken. -/
theorem opx_full {b : List Int} : ∀ (gs : List Seg) {A A' : DA} {P P' : PL} {c n : Int}, Up A → (∀ s ∈ gs, ∃ z, SegOk A.l s z) → SegSeq n gs → At P n → OpX A P (gs.map (·.1) ++ b) c A' P' →
 ∃ A1 z, Up A1 ∧ A1.l = A.l ∧ At { P with fs := P.fs ++ gs.map (·.1), rs := P.rs ++ gs.flatMap (·.2), size := z } (n + cntS gs) ∧ OpX A1 { P with fs := P.fs ++ gs.map (·.1), rs := P.rs ++ gs.flatMap (·.2), size := z } b c A' P'
 | [], A, A', P, P', c, n, hu, _, _, ha, h => by
   refine ⟨A, P.size, hu, rfl, ?_, ?_⟩
   · simp only [List.map_nil, List.flatMap_nil, List.append_nil]
     have : n + (cntS [] : Int) = n := by show n + (0 : Nat) = n; omega
     rw [this]; exact ha
   · simp only [List.map_nil, List.flatMap_nil, List.append_nil]
     exact h
 | g :: r, A, A', P, P', c, n, hu, hs, hq, ha, h => by
   obtain ⟨c1, A1, P1, hx, ho⟩ := h; obtain ⟨z, hz⟩ := hs g List.mem_cons_self; have hf : fT A.l (nmF g.1) = some (nmF g.1, joinF g.2 ++ [], z) := by
    rw [List.append_nil]; exact hz.here
   have hgn : g.1 = n := hq.1; have hc : P1 = { P with fs := P.fs ++ [g.1], rs := P.rs ++ g.2, size := (joinF g.2).length } ∧ c1 = 0 ∧ A1 = (dRead A (fileB logB g.1)).2 := by
    rcases ldx_file hu hz.nm hf hz.len (Or.inl rfl) hx with ⟨h4, h5, _⟩ | ⟨_, ⟨h5, _⟩ | ⟨h4, ⟨_, h5⟩ | ⟨h5, _⟩⟩⟩
    · rw [hgn] at h5
      exact absurd ⟨h4, h5⟩ ha.ok
    · exact absurd rfl h5
    · exact ⟨h4, h5⟩
    · exact absurd rfl h5
   obtain ⟨rfl, rfl, rfl⟩ := hc; have e : (dRead A (fileB logB g.1)).2.l = A.l := by
    show (if _ then A.l else A.l) = A.l; split <;> rfl
   rcases ho with ⟨h5, _⟩ | ⟨_, h6⟩
   · exact absurd rfl h5
   · have ha' := ha.next g.2 (joinF g.2).length
     rw [← hgn] at ha'; obtain ⟨A2, z2, k1, k2, k3, k4⟩ := opx_full r (hu.next _ 0 _ : Up (dRead A (fileB logB g.1)).2) (fun s hs' => by
      show ∃ z, SegOk (dRead A (fileB logB g.1)).2.l s z; rw [e]; exact hs s (List.mem_cons_of_mem _ hs')) (hgn ▸ hq.2.2) ha' h6
     refine ⟨A2, z2, k1, k2.trans e, ?_, ?_⟩
     · have e1 : n + (cntS (g :: r) : Int) = g.1 + g.2.length + cntS r := by
        rw [cntS_cons, hgn]; omega
       rw [e1]; simp only [List.map_cons, List.flatMap_cons] at k3 ⊢; simp only [List.append_assoc, List.cons_append, List.nil_append] at k3 ⊢; exact k3
     · simp only [List.map_cons, List.flatMap_cons] at k4 ⊢
       simp only [List.append_assoc, List.cons_append, List.nil_append] at k4 ⊢; exact k4
end Go.Proofs.YtconkienlcegaaaGreatDoor
