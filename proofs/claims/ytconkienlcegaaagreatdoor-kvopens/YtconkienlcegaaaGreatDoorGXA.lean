/- WJ, WP, WQ, WV5, WV8, X9, XA -/
import Derived.Test.YtconkienlcegaaaGreatDoorGWJ1
import Derived.Test.YtconkienlcegaaaGreatDoorGWJ3
import Derived.Test.YtconkienlcegaaaGreatDoorGWJ6
import Derived.Test.YtconkienlcegaaaGreatDoorGWO
import Derived.Test.YtconkienlcegaaaGreatDoorGWV4
import Derived.BigQuiet
import Derived.Deep.QuietTactic
namespace Go.Proofs.YtconkienlcegaaaGreatDoor
open Go.RowKit Go.Maps Go.Joins
set_option linter.unusedSimpArgs false
set_option linter.unusedVariables false
theorem lappend_any {w : World} {bd bl : Nat} {S : DS} {L : LS} {ro : Int} {va : Option Addr} {vc : Nat} {bs : List Int} (hI : AppIn w bd bl S L ro va vc bs) :
 Calls Tryz.prog 83 #[.pointer (some ⟨bl, 0, none⟩), .slice va bs.length vc] w fun e w' => ∃ c S' L', e = .returned (.int .i64 c) ∧ PR w w' bd bl S L ro (pApp (absD S) (absL L) bs) c S' L' := by
 by_cases hfs : L.fs = []
 · by_cases hs : (pSync (absD S) (absL L)).1 = 0
   · by_cases hok : (dApp (pSync (absD S) (absL L)).2.1 (fileB logB (endL L)) (frameB bs)).1 = 0
     · exact lappend_nil_t hI hfs hs hok
     · exact lappend_nil_f hI hfs hs hok
   · exact lappend_nil_s hI hfs hs
 · have hl : ¬ L.fs.length = 0 := fun h => hfs (List.eq_nil_of_length_eq_zero h)
   by_cases hm : L.most ≤ L.size
   · by_cases hs : (pSync (absD S) (absL L)).1 = 0
     · by_cases hok : (dApp (pSync (absD S) (absL L)).2.1 (fileB logB (endL L)) (frameB bs)).1 = 0
       · exact lappend_full_t hI hl hm hs hok
       · exact lappend_full_f hI hl hm hs hok
     · exact lappend_full_s hI hl hm hs
   · obtain ⟨x, hx⟩ : ∃ x, L.fs.getLast? = some x := by
      cases h : L.fs.getLast? with
      | none => exact absurd (List.getLast?_eq_none_iff.1 h) hfs
      | some y => exact ⟨y, rfl⟩
     by_cases hok : (dApp (absD S) (fileB logB x) (frameB bs)).1 = 0
     · exact lappend_old_t hI hl hm hx hok
     · exact lappend_old_f hI hl hm hx hok
end Go.Proofs.YtconkienlcegaaaGreatDoor
namespace Go.Proofs.YtconkienlcegaaaGreatDoor
open Go.RowKit Go.Maps Go.Joins Go.Sort
set_option linter.unusedSimpArgs false
set_option linter.unusedVariables false
def A0 : DA := ⟨[], false, 0, 0, fun _ => 0, 1000⟩
def P0 : PL := ⟨[], [], 0, false, 100⟩
def r1 := pApp A0 P0 [97]
def r2 := pSync r1.2.1 r1.2.2
def r3 := pApp r2.2.1 r2.2.2 [98]
structure Al (w0 w : World) (bd bl : Nat) (S : DS) (L : LS) (A : DA) (P : PL) : Prop where
 dl : DL w bd bl S L 1000
 a : absD S = A
 p : absL L = P
 nm : L.nm = logB
 fr : Below w0.heap.size w0 w
 off : ∀ b, b < w0.heap.size → S.role b = .none ∧ L.own b = 0
theorem Al.below {w0 w w' : World} {bd bl : Nat} {S : DS} {L : LS} {A : DA} {P : PL} (h : Al w0 w bd bl S L A P) (hb : Below w.heap.size w w') : Al w0 w' bd bl S L A P :=
 ⟨h.dl.below hb, h.a, h.p, h.nm, h.fr.trans (hb.mono h.fr.size), h.off⟩
theorem Al.f3 {w0 w w' : World} {bd bl : Nat} {S S' : DS} {L L' : LS} {A A' : DA} {P P' : PL} (h : Al w0 w bd bl S L A P) (hd : DL w' bd bl S' L' 1000) (hf : F3 w w' S L S' L') (ha : absD S' = A') (hp : absL L' = P') (hn : L'.nm = logB) : Al w0 w' bd bl S' L' A' P' :=
 ⟨hd, ha, hp, hn, ⟨hf.os.trans h.fr.os, hf.tape.trans h.fr.tape, hf.output.trans h.fr.output, Nat.le_trans h.fr.size hf.size, fun b hb => (hf.block b (Nat.lt_of_lt_of_le hb h.fr.size) (h.off b hb).1 (h.off b hb).2).trans (h.fr.block b hb)⟩, fun b hb => hf.off b (Nat.lt_of_lt_of_le hb h.fr.size) (h.off b hb).1 (h.off b hb).2⟩
def okP (A : DA) (P : PL) : Prop := (P.uns = true → P.fs ≠ []) ∧ (∀ x ∈ P.fs, 0 ≤ x ∧ x < 1000000000) ∧ P.rs.length ≤ 1000 ∧ P.fs.length ≤ 1000 ∧ 0 ≤ P.size ∧ P.size ≤ 1000 ∧ A.steps < 1000
structure Ad (w0 w : World) (bd : Nat) (S : DS) (A : DA) : Prop where
 disk : DiskIs w bd S
 gb : GB S 1000
 a : absD S = A
 vars : Vars w
 fr : Below w0.heap.size w0 w
 off : ∀ b, b < w0.heap.size → S.role b = .none
 v0 : 5 ≤ w0.heap.size
theorem ad_new {w0 : World} (hV : Vars w0) : Calls Tryz.prog 8 #[.int .i64 1000] w0 fun e w' => ∃ bd S, e = .returned (.tuple #[.pointer (some ⟨bd, 0, none⟩), .int .i64 0]) ∧ Ad w0 w' bd S A0 := by
 have hv := hV.lt; refine (new_any 1000 (by omega) (by omega) w0).mono ?_; rintro e w' ⟨bd, S, rfl, hD, hb, hS, hr⟩; refine ⟨bd, S, rfl, hD, ⟨?_, ?_, by omega, ?_⟩, ?_, hV.below hb, hb, hr, hv⟩
 · rw [hS]; unfold Cnt; simp
 · rw [hS]
 · rw [hS]; exact ⟨by simp [absP], by simp [absP, sumT], fun p hp => by simp [absP] at hp⟩
 · rw [hS]; rfl
theorem ad_open {w0 w : World} {bd : Nat} {S : DS} (h : Ad w0 w bd S A0) : Calls Tryz.prog 40 #[.pointer (some ⟨bd, 0, none⟩), .string logB, .int .i64 100] w fun e w' => ∃ bl L, e = .returned (.tuple #[.pointer (some ⟨bl, 0, none⟩), .int .i64 0]) ∧ Al w0 w' bd bl S L A0 P0 := by
 have v0 := h.v0; have hl : absP S = [] := congrArg DA.l h.a; have hd : S.down = false := congrArg DA.down h.a; have hs : S.steps = 0 := congrArg DA.steps h.a; refine (open_zero h.disk h.gb h.vars (fun b hb => h.off b (by omega)) hd (by omega) (by rw [hl]; intro s hs; cases hs) 100 (by omega) (by rw [hl]; rfl)).mono ?_; rintro e w' (⟨_, bl, L, rfl, hdl, hof, hp, hn⟩ | ⟨n, c, bl, S', L', hne, _⟩)
 · exact ⟨bl, L, rfl, hdl, h.a, hp, hn, ⟨hof.os.trans h.fr.os, hof.tape.trans h.fr.tape, hof.output.trans h.fr.output, Nat.le_trans h.fr.size hof.size, fun b hb => (hof.block b (Nat.lt_of_lt_of_le hb h.fr.size) (h.off b hb)).trans (h.fr.block b hb)⟩, fun b hb => hof.off b (Nat.lt_of_lt_of_le hb h.fr.size) (h.off b hb)⟩
 · rw [hl] at hne
   cases hne
theorem al_boot {w0 w : World} {bd bl : Nat} {S : DS} {L : LS} {A : DA} {P : PL} (h : Al w0 w bd bl S L A P) (hv0 : 5 ≤ w0.heap.size) : Calls Tryz.prog 18 #[.pointer (some ⟨bd, 0, none⟩), .slice none 0 0] w fun e w' => e = .returned (.tuple #[]) ∧ ∃ S', Ad w0 w' bd S' ⟨bootT A.l [], false, A.steps, A.armed, fun _ => 0, A.room⟩ := by
 have hD := h.dl.disk; have hG := h.dl.gb; have hlen : S.fs.length ≤ 1000 := by have := hG.wf.len; unfold absP at this; rw [List.length_map] at this; omega
 refine (boot_any hD hlen (fun p hp => hG.wf.safe (p.1, (S.fl p.1).bs, (S.fl p.1).safe) (List.mem_map.2 ⟨p, hp, rfl⟩)) (.slice none 0 0) [] ⟨none, 0, rfl, fun j x hx => by simp at hx⟩ (by simp) (fun b hb => by simp [dBlock] at hb)).mono ?_; rintro e w' ⟨rfl, S', ss, hp, hc, hD', hF⟩; have ha := cut_abs hD hp hc; have hst : S'.steps = S.steps := hc.steps; have har : S'.armed = S.armed := hc.armed; have hvl := h.dl.vars.lt; refine ⟨rfl, S', hD', ⟨by have := hG.cnt; unfold Cnt at this ⊢; rw [hst, har]; exact this, hc.room.trans hG.rm, hG.r0, by rw [ha]; exact boot_wf hG.wf _⟩, ?_, h.dl.vars.kept (fun b hb => hF.block b (by omega) (h.dl.voff b hb).1), ?_, fun b hb => hF.role b (Nat.lt_of_lt_of_le hb h.fr.size) (h.off b hb).1, hv0⟩
 · rw [← h.a]
   unfold absD; rw [ha, hst, har, hc.plan, hc.down, hc.room]; rfl
 · exact ⟨hF.os.trans h.fr.os, hF.tape.trans h.fr.tape, hF.output.trans h.fr.output, Nat.le_trans h.fr.size hF.size, fun b hb => (hF.block b (Nat.lt_of_lt_of_le hb h.fr.size) (h.off b hb).1).trans (h.fr.block b hb)⟩
theorem c1 : (pApp A0 P0 [97]).1 = 0 := by decide +kernel
theorem c2 : (pSync r1.2.1 r1.2.2).1 = 0 := by decide +kernel
theorem c3 : (pApp r2.2.1 r2.2.2 [98]).1 = 0 := by decide +kernel
structure Dk (w0 w : World) (bd : Nat) (S : DS) (ro : Int) (A : DA) : Prop where
 disk : DiskIs w bd S
 gb : GB S ro
 a : absD S = A
 vars : Vars w
 fr : Below w0.heap.size w0 w
 off : ∀ b, b < w0.heap.size → S.role b = .none
 v0 : 5 ≤ w0.heap.size
def newA (r : Int) : DA := ⟨[], false, 0, 0, fun _ => 0, r⟩
theorem dk_new {w0 : World} (hV : Vars w0) (r : Int) (h0 : 0 ≤ r) (h1 : r ≤ 1073741824) : Calls Tryz.prog 8 #[.int .i64 r] w0 fun e w' => ∃ bd S, e = .returned (.tuple #[.pointer (some ⟨bd, 0, none⟩), .int .i64 0]) ∧ Dk w0 w' bd S r (newA r) := by
 have hv := hV.lt; refine (new_any r h0 h1 w0).mono ?_; rintro e w' ⟨bd, S, rfl, hD, hb, hS, hr⟩; refine ⟨bd, S, rfl, hD, ⟨?_, ?_, by omega, ?_⟩, ?_, hV.below hb, hb, hr, hv⟩
 · rw [hS]; unfold Cnt; simp
 · rw [hS]
 · rw [hS]; exact ⟨by simp [absP], by simp [absP, sumT]; exact h0, fun p hp => by simp [absP] at hp⟩
 · rw [hS]; rfl
def RowsV (W : World) (a : Option Addr) (rs : List (Value × List Int)) : Prop := ∀ (j : Nat) (p : Value × List Int), rs[j]? = some p → ∃ b o va vc, a = some ⟨b, o, none⟩ ∧ W.cell? ⟨b, o + j, none⟩ = some p.1 ∧ p.1 = .slice va p.2.length vc ∧ BytesV W p.1 p.2 ∧ Byts p.2
theorem ldx_one {A A1 A2 : DA} {P P1 P2 : PL} {n c1 c2 : Int} {last : Bool} (h1 : LdX A P n last c1 A1 P1) (h2 : LdX A P n last c2 A2 P2) : c1 = c2 ∧ A1 = A2 ∧ (c1 = 0 → P1 = P2) := by
 rcases h1 with ⟨a1, a2, a3⟩ | ⟨a0, a1⟩
 · rcases h2 with ⟨b1, b2, b3⟩ | ⟨b0, _⟩
   · exact ⟨a2.trans b2.symm, a3.trans b3.symm, fun h => absurd (a2.symm.trans h) a1⟩
   · exact absurd b0 a1
 · rcases h2 with ⟨b1, _⟩ | ⟨b0, b1⟩
   · exact absurd a0 b1
   · rcases a1 with ⟨a1, a2, a3, a4⟩ | ⟨a1, a2⟩
     · rcases b1 with ⟨b1, b2, b3, b4⟩ | ⟨b1, _⟩
       · exact ⟨a3.trans b3.symm, a4.trans b4.symm, fun h => by rw [a3] at h; exact absurd h (by decide)⟩
       · rcases b1 with b1 | b1
         · exact absurd b1 a1
         · exact absurd b1 a2
     · rcases b1 with ⟨b1, b2, _⟩ | ⟨b1, b2⟩
       · rcases a1 with a1 | a1
         · exact absurd a1 b1
         · exact absurd a1 b2
       · have hs : ∀ {k : Nat} {rs : List (List Int)}, ((k = (dBytes A (fileB logB n)).length ∧ c1 = 0 ∧ A1 = (dRead A (fileB logB n)).2) ∨ (k < (dBytes A (fileB logB n)).length ∧ (nx ((dBytes A (fileB logB n)).drop k)).1 = 10 ∧ last = true ∧ c1 = (dTru (dRead A (fileB logB n)).2 (fileB logB n) k).1 ∧ A1 = (dTru (dRead A (fileB logB n)).2 (fileB logB n) k).2)) → k = (dBytes A (fileB logB n)).length ∨ (nx ((dBytes A (fileB logB n)).drop k)).1 ≠ 0 := fun h => h.elim (fun h => Or.inl h.1) (fun h => Or.inr (by rw [h.2.1]; decide))
         have ht : ∀ {k : Nat} {rs : List (List Int)}, ((k = (dBytes A (fileB logB n)).length ∧ c2 = 0 ∧ A2 = (dRead A (fileB logB n)).2) ∨ (k < (dBytes A (fileB logB n)).length ∧ (nx ((dBytes A (fileB logB n)).drop k)).1 = 10 ∧ last = true ∧ c2 = (dTru (dRead A (fileB logB n)).2 (fileB logB n) k).1 ∧ A2 = (dTru (dRead A (fileB logB n)).2 (fileB logB n) k).2)) → k = (dBytes A (fileB logB n)).length ∨ (nx ((dBytes A (fileB logB n)).drop k)).1 ≠ 0 := fun h => h.elim (fun h => Or.inl h.1) (fun h => Or.inr (by rw [h.2.1]; decide))
         rcases a2 with ⟨a3, a4, k, rs, a5, a6, a7, a8⟩ | ⟨k, rs, a5, a6, a7⟩
         · rcases b2 with ⟨b3, b4, k', rs', b5, b6, b7, b8⟩ | ⟨k', rs', b5, b6, b7⟩
           · exact ⟨a3.trans b3.symm, a4.trans b4.symm, fun h => by rw [a3] at h; exact absurd h (by decide)⟩
           · exfalso
             obtain ⟨rfl, rfl⟩ := a5.unique b5 (Or.inr a7) (ht (rs := rs') b7); rcases b7 with ⟨b7, _⟩ | ⟨_, b7, b9, _⟩
             · omega
             · exact a8 ⟨b7, b9⟩
         · rcases b2 with ⟨b3, b4, k', rs', b5, b6, b7, b8⟩ | ⟨k', rs', b5, b6, b7⟩
           · exfalso
             obtain ⟨rfl, rfl⟩ := a5.unique b5 (hs (rs := rs) a7) (Or.inr b7); rcases a7 with ⟨a7, _⟩ | ⟨_, a7, a9, _⟩
             · omega
             · exact b8 ⟨a7, a9⟩
           · obtain ⟨rfl, rfl⟩ := a5.unique b5 (hs (rs := rs) a7) (ht (rs := rs') b7)
             refine ⟨?_, ?_, fun _ => a6.trans b6.symm⟩
             · rcases a7 with ⟨a7, a8, _⟩ | ⟨a7, _, _, a8, _⟩
               · rcases b7 with ⟨_, b8, _⟩ | ⟨b7, _⟩
                 · exact a8.trans b8.symm
                 · omega
               · rcases b7 with ⟨b7, _⟩ | ⟨_, _, _, b8, _⟩
                 · omega
                 · exact a8.trans b8.symm
             · rcases a7 with ⟨a7, _, a8⟩ | ⟨a7, _, _, _, a8⟩
               · rcases b7 with ⟨_, _, b8⟩ | ⟨b7, _⟩
                 · exact a8.trans b8.symm
                 · omega
               · rcases b7 with ⟨b7, _⟩ | ⟨_, _, _, _, b8⟩
                 · omega
                 · exact a8.trans b8.symm
theorem opx_one : ∀ (ns : List Int) {A A1 A2 : DA} {P P1 P2 : PL} {c1 c2 : Int}, OpX A P ns c1 A1 P1 → OpX A P ns c2 A2 P2 → c1 = c2 ∧ A1 = A2 ∧ (c1 = 0 → P1 = P2)
 | [], A, A1, A2, P, P1, P2, c1, c2, ⟨h1, h2, h3⟩, ⟨g1, g2, g3⟩ => ⟨h1.trans g1.symm, h2.trans g2.symm, fun _ => h3.trans g3.symm⟩
 | n :: r, A, A1, A2, P, P1, P2, c1, c2, ⟨d1, B1, M1, h1, h2⟩, ⟨d2, B2, M2, g1, g2⟩ => by
   obtain ⟨e1, e2, e3⟩ := ldx_one h1 g1; subst e1; subst e2; rcases h2 with ⟨h2, h3, h4⟩ | ⟨h2, h3⟩
   · rcases g2 with ⟨_, g3, g4⟩ | ⟨g2, _⟩
     · exact ⟨h3.trans g3.symm, h4.trans g4.symm, fun h => absurd (h3.symm.trans h) h2⟩
     · exact absurd g2 h2
   · rcases g2 with ⟨g2, _⟩ | ⟨_, g3⟩
     · exact absurd h2 g2
     · obtain rfl := e3 h2
       exact opx_one r h3 g3
theorem Took.small {bs : List Int} {k : Nat} {rs : List (List Int)} (h : Took bs k rs) : ∀ r ∈ rs, r.length ≤ 65536 := by
 induction h with
 | nil => intro r hr; cases hr
 | step h1 h2 h3 ih =>
   intro r hr; rcases List.mem_append.1 hr with hr | hr
   · exact ih r hr
   · rw [List.mem_singleton.1 hr]
     exact (nx_ok h3).2.2.2
theorem ldx_small {A A' : DA} {P P' : PL} {n c : Int} {last : Bool} (h : LdX A P n last c A' P') (hc : c = 0) (hp : ∀ r ∈ P.rs, r.length ≤ 65536) : ∀ r ∈ P'.rs, r.length ≤ 65536 := by
 rcases h with ⟨h1, h2, _⟩ | ⟨_, ⟨_, _, h2, _⟩ | ⟨_, ⟨h2, _⟩ | ⟨k, rs, ht, rfl, _⟩⟩⟩
 · exact absurd (h2.symm.trans hc) h1
 · rw [hc] at h2; exact absurd h2 (by decide)
 · rw [hc] at h2; exact absurd h2 (by decide)
 · intro r hr
   rcases List.mem_append.1 hr with hr | hr
   · exact hp r hr
   · exact ht.small r hr
theorem opx_small : ∀ (ns : List Int) {A A' : DA} {P P' : PL} {c : Int}, OpX A P ns c A' P' → c = 0 → (∀ r ∈ P.rs, r.length ≤ 65536) → ∀ r ∈ P'.rs, r.length ≤ 65536
 | [], A, A', P, P', c, ⟨_, _, h3⟩, _, hp => by rw [h3]; exact hp
 | n :: r, A, A', P, P', c, ⟨d, B, M, h1, h2⟩, hc, hp => by
   rcases h2 with ⟨h2, h3, _⟩ | ⟨h2, h3⟩
   · exact absurd (h3.symm.trans hc) h2
   · exact opx_small r h3 hc (ldx_small h1 h2 hp)
end Go.Proofs.YtconkienlcegaaaGreatDoor
