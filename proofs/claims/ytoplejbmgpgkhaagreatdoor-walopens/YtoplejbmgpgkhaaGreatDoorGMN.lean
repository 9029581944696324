/- WQ, WV5, WV7, WV8, OV, MN -/
import Derived.Test.YtoplejbmgpgkhaaGreatDoorGWP
import Derived.Test.YtoplejbmgpgkhaaGreatDoorGWV4
import Derived.Test.YtoplejbmgpgkhaaGreatDoorGPC
import Derived.Deep.Matrix
import Derived.SizedLaws
import Derived.ChangeSlices
import Derived.ChangeMaps5
import Derived.Carry
import Derived.Test.YtoplejbmgpgkhaaGreatDoorChecked
import Derived.WalkKit
import Derived.WalkSpells
import Derived.StillTactics
import Derived.Deep.RegionHeld3
import Derived.RowKit3
import Derived.Test.YtoplejbmgpgkhaaGreatDoorGDC
namespace Go.Proofs.YtoplejbmgpgkhaaGreatDoor
open Go.RowKit Go.Maps Go.Joins Go.Sort
set_option linter.unusedSimpArgs false
set_option linter.unusedVariables false
def P5 : PL := ⟨[0], [[97]], 13, false, 100⟩
theorem ok0 : okP A0 P0 := by unfold okP; decide +kernel
theorem ok1 : okP r1.2.1 r1.2.2 := by unfold okP; decide +kernel
theorem ok2 : okP r2.2.1 r2.2.2 := by unfold okP; decide +kernel
theorem c1 : (pApp A0 P0 [97]).1 = 0 := by decide +kernel
theorem c2 : (pSync r1.2.1 r1.2.2).1 = 0 := by decide +kernel
theorem c3 : (pApp r2.2.1 r2.2.2 [98]).1 = 0 := by decide +kernel
theorem al_a {w0 w : World} {bd bl : Nat} {S : DS} {L : LS} (h : Al w0 w bd bl S L A0 P0) (ty : Nat) (mk : Nat × Nat) :
    Calls Tryz.prog 14 #[.pointer (some ⟨bl, 0, none⟩), .slice (some ⟨w.heap.size, 0, none⟩) 1 1] (w.alloc (.cells #[.int .u8 97] ty mk)) fun e w' => ∃ S' L', e = .returned (.int .i64 0) ∧ Al w0 w' bd bl S' L' r1.2.1 r1.2.2 := by
  refine (al_append h ok0 97 ty mk).mono ?_
  rintro e w' ⟨S', L', rfl, h'⟩
  rw [c1]
  exact ⟨S', L', rfl, h'⟩
theorem al_s {w0 w : World} {bd bl : Nat} {S : DS} {L : LS} (h : Al w0 w bd bl S L r1.2.1 r1.2.2) :
    Calls Tryz.prog 16 #[.pointer (some ⟨bl, 0, none⟩)] w fun e w' => ∃ S' L', e = .returned (.int .i64 0) ∧ Al w0 w' bd bl S' L' r2.2.1 r2.2.2 := by
  refine (al_sync h ok1).mono ?_
  rintro e w' ⟨S', L', rfl, h'⟩
  rw [c2]
  exact ⟨S', L', rfl, h'⟩
theorem al_b {w0 w : World} {bd bl : Nat} {S : DS} {L : LS} (h : Al w0 w bd bl S L r2.2.1 r2.2.2) (ty : Nat) (mk : Nat × Nat) :
    Calls Tryz.prog 14 #[.pointer (some ⟨bl, 0, none⟩), .slice (some ⟨w.heap.size, 0, none⟩) 1 1] (w.alloc (.cells #[.int .u8 98] ty mk)) fun e w' => ∃ S' L', e = .returned (.int .i64 0) ∧ Al w0 w' bd bl S' L' r3.2.1 r3.2.2 := by
  refine (al_append h ok2 98 ty mk).mono ?_
  rintro e w' ⟨S', L', rfl, h'⟩
  rw [c3]
  exact ⟨S', L', rfl, h'⟩
theorem al_get {w0 w : World} {bd bl : Nat} {S : DS} {L : LS} {A : DA} (h : Al w0 w bd bl S L A P5) :
    Calls Tryz.prog 20 #[.pointer (some ⟨bl, 0, none⟩), .int .i64 0] w fun e w' => ∃ v, e = .returned (.tuple #[v, .int .i64 0]) ∧ w'.ownsRow w.heap.size 5 1 v 1 [.int .u8 97] ∧ Al w0 w' bd bl S L A P5 := by
  have hp := h.p
  have e2 : L.fs = [0] := congrArg PL.fs hp
  have e3 : L.rs.map (·.2) = [[97]] := congrArg PL.rs hp
  obtain ⟨q, hq⟩ : ∃ q, L.rs = [q] := by
    cases hr : L.rs with
    | nil => rw [hr] at e3; cases e3
    | cons x r =>
      rw [hr] at e3
      cases r with
      | nil => exact ⟨x, rfl⟩
      | cons y r => simp at e3
  have hq2 : q.2 = [97] := by rw [hq] at e3; simpa using e3
  have hln : LN L := ⟨by rw [e2]; simp, by rw [hq]; simp⟩
  refine (get_here h.dl.log hln 0 0 (by unfold Proofs.YtoplejbmgpgkhaaGreatDoor.fst; rw [e2]; rfl) (p := q) (by rw [hq]; rfl) (by rw [hq2]; simp)).mono ?_
  rintro e w' ⟨v, rfl, ho, hb⟩
  rw [hq2] at ho
  exact ⟨v, rfl, ho, h.below hb⟩
theorem al_end {w0 w : World} {bd bl : Nat} {S : DS} {L : LS} {A : DA} (h : Al w0 w bd bl S L A P5) :
    Calls Tryz.prog 48 #[.pointer (some ⟨bl, 0, none⟩)] w fun e w' => e = .returned (.int .i64 1) ∧ Al w0 w' bd bl S L A P5 := by
  have hp := h.p
  have e2 : L.fs = [0] := congrArg PL.fs hp
  have e3 : L.rs.map (·.2) = [[97]] := congrArg PL.rs hp
  have e4 : L.rs.length = 1 := by have := congrArg List.length e3; simpa using this
  have hln : LN L := ⟨by rw [e2]; simp, by rw [e4]; omega⟩
  refine (end_any h.dl.log hln).mono ?_
  rintro e w' ⟨rfl, m, rfl⟩
  refine ⟨?_, h.below (below_drewN' _ _)⟩
  unfold endL Proofs.YtoplejbmgpgkhaaGreatDoor.fst
  rw [e2, e4]
  rfl
theorem al_file {w0 w : World} {bd bl : Nat} {S : DS} {L : LS} {A : DA} (h : Al w0 w bd bl S L A P5) :
    Calls Tryz.prog 44 #[.string logB, .int .i64 0] w fun e w' => e = .returned (.string ⟨#[108, 111, 103, 46, 48]⟩) ∧ Al w0 w' bd bl S L A P5 := by
  refine (file_any h.dl.vars logB (by rw [logB_size]; omega) 0).mono ?_
  rintro e w' ⟨rfl, hb⟩
  have : fileB logB 0 = ⟨#[108, 111, 103, 46, 48]⟩ := by decide +kernel
  exact ⟨by rw [this], h.below hb⟩
theorem al_sum {w0 w : World} {bd bl : Nat} {S : DS} {L : LS} {A : DA} (h : Al w0 w bd bl S L A P5) (ty : Nat) (mk : Nat × Nat) :
    Calls Tryz.prog 40 #[.slice (some ⟨w.heap.size, 0, none⟩) 1 1] (w.alloc (.cells #[.int .u8 97] ty mk)) fun e w' => e = .returned (.int .u32 3904355907) ∧ Below w0.heap.size w0 w' := by
  have hb : Below w.heap.size w (w.alloc (.cells #[.int .u8 97] ty mk)) := by go_grown
  refine (sum_any (h.below hb).dl.vars.half (some ⟨w.heap.size, 0, none⟩) 1 [97] (Or.inr ⟨_, _, rfl, fun j u hu => ?_⟩) (by simp)).mono ?_
  · cases j with
    | zero => rw [Addr.add_lit, ← hu]; simp [World.cell?_alloc_mark, vB]
    | succ j => simp [vB] at hu
  · rintro e w' ⟨rfl, rfl⟩
    have : J (sumB [97]) = 3904355907 := by decide +kernel
    exact ⟨by rw [this], (h.below hb).fr⟩
set_option maxRecDepth 100000 in
set_option maxHeartbeats 8000000 in
theorem alive_any {w : World} (hV : Vars w) : Calls Tryz.prog 11 #[] w fun e w' => e = .returned (.bool true) ∧ Below w.heap.size w w' := by
  have HV : Hid _ := hV
  have hv0 : 4 ≤ w.heap.size := hV.lt
  clear hV
  have hcv := fun (w : World) (C : Array Value) (n c : Nat) => Lib.run_convert_bytes_const (P := Tryz.prog) w 36 5 C n c Tryz.underlying36 Tryz.underlying5
  go_enter Tryz.func11, Tryz.ntmps11
  go_wp2_with (first
    | (go_at_call 9
       refine Calls.mono (ad_new HV.out) ?_
       rintro e w1 ⟨bd, S1, rfl, h1⟩
       have H1 : Hid _ := h1
       clear h1)
    | (go_at_call 12
       refine Calls.mono (ad_open4 H6.out) ?_
       rintro e w7 ⟨bl7, S7, L7, A7, rfl, h7⟩
       have H7 : Hid (Al w w7 bd bl7 S7 L7 A7 P5) := h7
       clear h7)
    | (go_at_call 12
       refine Calls.mono (ad_open H1.out) ?_
       rintro e w2 ⟨bl, L2, rfl, h2⟩
       have H2 : Hid _ := h2
       clear h2)
    | (go_at_call 14
       refine Calls.mono (al_b H4.out _ _) ?_
       rintro e w5 ⟨S5, L5, rfl, h5⟩
       have H5 : Hid _ := h5
       clear h5)
    | (go_at_call 14
       refine Calls.mono (al_a H2.out _ _) ?_
       rintro e w3 ⟨S3, L3, rfl, h3⟩
       have H3 : Hid _ := h3
       clear h3)
    | (go_at_call 16
       refine Calls.mono (al_s H3.out) ?_
       rintro e w4 ⟨S4, L4, rfl, h4⟩
       have H4 : Hid _ := h4
       clear h4)
    | (go_at_call 23
       refine Calls.mono (al_boot H5.out hv0) ?_
       rintro e w6 ⟨rfl, S6, h6⟩
       have H6 : Hid (Ad w w6 bd S6 A4) := h6
       clear h6)
    | (go_at_call 20
       refine Calls.mono (al_get H7.out) ?_
       rintro e w8 ⟨v8, rfl, ho8, h8⟩
       have H8 : Hid (w8.ownsRow w7.heap.size 5 1 v8 1 [.int .u8 97] ∧ Al w w8 bd bl7 S7 L7 A7 P5) := ⟨ho8, h8⟩
       obtain ⟨g8, k8, hv8⟩ := ownsRow_form ho8 (by simp)
       subst hv8
       have hconv := run_convert_bytes_arg (P := Tryz.prog) w8 36 5 Tryz.underlying36 Tryz.underlying5 g8 0 1 k8 [97] rfl (fun i hi => by
         have h0 := ho8.cells (g := g8) rfl i
         cases i with
         | zero => simpa [Addr.add_lit] using h0 (.int .u8 97) rfl
         | succ i => simp at hi) 9 Tryz.underlying9
       rw [show strOfNums [97] = (⟨#[97]⟩ : ByteArray) from by kernel_rfl] at hconv
       clear h8 ho8)
    | (go_at_call 48
       refine Calls.mono (al_end H8.out.2) ?_
       rintro e w9 ⟨rfl, h9⟩
       have H9 : Hid _ := h9
       clear h9)
    | (go_at_call 44
       refine Calls.mono (al_file H9.out) ?_
       rintro e w10 ⟨rfl, h10⟩
       have H10 : Hid _ := h10
       clear h10)
    | (go_at_call 40
       refine Calls.mono (al_sum H10.out _ _) ?_
       rintro e w11 ⟨rfl, h11⟩
       have H11 : Hid _ := h11
       clear h11))
  go_returns
  exact ⟨rfl, H11.out⟩
end Go.Proofs.YtoplejbmgpgkhaaGreatDoor
namespace Go.Proofs.YtoplejbmgpgkhaaGreatDoor
open Go.RowKit Go.Maps Go.Joins Go.Sort
set_option linter.unusedVariables false
set_option linter.unusedSimpArgs false
/-- A disk; nothing of what lay in w0 is its. -/
structure Dk (w0 w : World) (bd : Nat) (S : DS) (ro : Int) (A : DA) : Prop where
  disk : DiskIs w bd S
  gb : GB S ro
  a : absD S = A
  vars : Vars w
  fr : Below w0.heap.size w0 w
  off : ∀ b, b < w0.heap.size → S.role b = .none
  v0 : 4 ≤ w0.heap.size
/-- A disk and a log. -/
structure Lg (w0 w : World) (bd bl : Nat) (S : DS) (L : LS) (ro : Int) (A : DA) (P : PL) : Prop where
  dl : DL w bd bl S L ro
  a : absD S = A
  p : absL L = P
  nm : L.nm = logB
  fr : Below w0.heap.size w0 w
  off : ∀ b, b < w0.heap.size → S.role b = .none ∧ L.own b = 0
  v0 : 4 ≤ w0.heap.size
theorem Dk.below {w0 w w' : World} {bd : Nat} {S : DS} {ro : Int} {A : DA} (h : Dk w0 w bd S ro A) (hb : Below w.heap.size w w') : Dk w0 w' bd S ro A :=
  ⟨h.disk.below hb, h.gb, h.a, h.vars.below hb, h.fr.trans (hb.mono h.fr.size), h.off, h.v0⟩
theorem Lg.below {w0 w w' : World} {bd bl : Nat} {S : DS} {L : LS} {ro : Int} {A : DA} {P : PL} (h : Lg w0 w bd bl S L ro A P) (hb : Below w.heap.size w w') : Lg w0 w' bd bl S L ro A P :=
  ⟨h.dl.below hb, h.a, h.p, h.nm, h.fr.trans (hb.mono h.fr.size), h.off, h.v0⟩
theorem Lg.dk {w0 w : World} {bd bl : Nat} {S : DS} {L : LS} {ro : Int} {A : DA} {P : PL} (h : Lg w0 w bd bl S L ro A P) : Dk w0 w bd S ro A :=
  ⟨h.dl.disk, h.dl.gb, h.a, h.dl.vars, h.fr, fun b hb => (h.off b hb).1, h.v0⟩
theorem Lg.f3 {w0 w w' : World} {bd bl : Nat} {S S' : DS} {L L' : LS} {ro : Int} {A A' : DA} {P P' : PL} (h : Lg w0 w bd bl S L ro A P) (hd : DL w' bd bl S' L' ro) (hf : F3 w w' S L S' L') (ha : absD S' = A') (hp : absL L' = P') (hn : L'.nm = logB) : Lg w0 w' bd bl S' L' ro A' P' :=
  ⟨hd, ha, hp, hn, ⟨hf.os.trans h.fr.os, hf.tape.trans h.fr.tape, hf.output.trans h.fr.output, Nat.le_trans h.fr.size hf.size, fun b hb => (hf.block b (Nat.lt_of_lt_of_le hb h.fr.size) (h.off b hb).1 (h.off b hb).2).trans (h.fr.block b hb)⟩, fun b hb => hf.off b (Nat.lt_of_lt_of_le hb h.fr.size) (h.off b hb).1 (h.off b hb).2, h.v0⟩
/-- What the calls ask of a log's numbers. -/
structure LgOk (A : DA) (P : PL) : Prop where
  uns : P.uns = true → P.fs ≠ []
  num : ∀ x ∈ P.fs, 0 ≤ x ∧ x < 1000000000
  rs : P.rs.length ≤ 100000000
  fs : P.fs.length ≤ 100000000
  sz : 0 ≤ P.size ∧ P.size ≤ 1073741824
  st : A.steps < 4611686018427387800
def newA (r : Int) : DA := ⟨[], false, 0, 0, fun _ => 0, r⟩
theorem dk_new {w0 : World} (hV : Vars w0) (r : Int) (h0 : 0 ≤ r) (h1 : r ≤ 1073741824) : Calls Tryz.prog 9 #[.int .i64 r] w0 fun e w' => ∃ bd S, e = .returned (.tuple #[.pointer (some ⟨bd, 0, none⟩), .int .i64 0]) ∧ Dk w0 w' bd S r (newA r) := by
  have hv := hV.lt
  refine (new_any r h0 h1 w0).mono ?_
  rintro e w' ⟨bd, S, rfl, hD, hb, hS, hr⟩
  refine ⟨bd, S, rfl, hD, ⟨?_, ?_, by omega, ?_⟩, ?_, hV.below hb, hb, hr, hv⟩
  · rw [hS]; unfold Cnt; simp
  · rw [hS]
  · rw [hS]; exact ⟨by simp [absP], by simp [absP, sumT]; exact h0, fun p hp => by simp [absP] at hp⟩
  · rw [hS]; rfl
theorem dk_list {w0 w : World} {bd : Nat} {S : DS} {ro : Int} {A : DA} (h : Dk w0 w bd S ro A) (hdn : A.down = false) : Calls Tryz.prog 33 #[.pointer (some ⟨bd, 0, none⟩)] w fun e w' => ∃ v, e = .returned v ∧ StrV w' v (nmS A.l) ∧ Below w.heap.size w w' := by
  have el : absP S = A.l := congrArg DA.l h.a
  have ed : S.down = A.down := congrArg DA.down h.a
  have := wlist_v h.disk h.gb (ed.trans hdn)
  rw [el] at this
  exact this
end Go.Proofs.YtoplejbmgpgkhaaGreatDoor
namespace Go.Proofs.YtoplejbmgpgkhaaGreatDoor
open Go.RowKit Go.Maps Go.Joins Go.Sort
set_option linter.unusedVariables false
set_option linter.unusedSimpArgs false
theorem LV.ok0 {A : DA} {P : PL} {ini : List Seg} {la : Option Seg} {sc : Nat} (h : LV A.l P ini la sc) {ro : Int} (hw : Wf A.l ro) (hr : ro ≤ 1073741824) (hst : A.steps < 4611686018427387800) : LgOk A P := by
  obtain ⟨h1, h2, h3, h4, h5⟩ := h.small hw hr
  refine ⟨fun hu => ?_, h3, h1, h2, ⟨h4, h5⟩, hst⟩
  cases hla : la with
  | none =>
    have := (h.nil0 hla).2.2.1
    rw [hu] at this
    cases this
  | some s =>
    rw [h.fs, hla]
    simp
/-- The loop's worlds. -/
def RI (W wr : World) (bd bl : Nat) (k : Nat) : Prop := ∃ S L A P ini la, Lg W wr bd bl S L 1073741824 A P ∧ LV A.l P ini la 0 ∧ Up A ∧ NmB A.l ∧ (∀ r ∈ P.rs, Byts r) ∧ A.steps ≤ 2 * (k : Int)
theorem RI.bel {W wr : World} {bd bl k : Nat} (h : RI W wr bd bl k) : Below W.heap.size W wr := by
  obtain ⟨_, _, _, _, _, _, h, _⟩ := h
  exact h.fr
/-- Behind Sync and List. -/
def RN (W wr : World) (bd : Nat) (ns : List ByteArray) : Prop := ∃ S A P ini la sc, Dk W wr bd S 1073741824 A ∧ LV A.l P ini la sc ∧ Up A ∧ NmB A.l ∧ (∀ r ∈ P.rs, Byts r) ∧ A.steps ≤ 4000000000000000000 ∧ ns = nmS A.l
theorem RN.bel {W wr : World} {bd : Nat} {ns : List ByteArray} (h : RN W wr bd ns) : Below W.heap.size W wr := by
  obtain ⟨_, _, _, _, _, _, h, _⟩ := h
  exact h.fr
theorem RN.len {W wr : World} {bd : Nat} {ns : List ByteArray} (h : RN W wr bd ns) : ns.length ≤ 16 := by
  obtain ⟨S, A, P, ini, la, sc, h1, _, _, _, _, _, rfl⟩ := h
  have el : absP S = A.l := congrArg DA.l h1.a
  have := h1.gb.wf.len
  rw [el] at this
  unfold nmS
  rw [List.length_map]
  exact this
end Go.Proofs.YtoplejbmgpgkhaaGreatDoor
namespace Go.Proofs.YtoplejbmgpgkhaaGreatDoor
open Go.RowKit Go.Maps Go.Joins Go.Sort
set_option linter.unusedVariables false
set_option linter.unusedSimpArgs false
/-- Records as they lie in memory. -/
def RowsV (W : World) (a : Option Addr) (rs : List (Value × List Int)) : Prop := ∀ (j : Nat) (p : Value × List Int), rs[j]? = some p → ∃ b o va vc, a = some ⟨b, o, none⟩ ∧ W.cell? ⟨b, o + j, none⟩ = some p.1 ∧ p.1 = .slice va p.2.length vc ∧ BytesV W p.1 p.2 ∧ Byts p.2
theorem RI.below {W wr w' : World} {bd bl k : Nat} (h : RI W wr bd bl k) (hb : Below wr.heap.size wr w') : RI W w' bd bl k := by
  obtain ⟨S, L, A, P, ini, la, h1, h2⟩ := h
  exact ⟨S, L, A, P, ini, la, h1.below hb, h2⟩
theorem RI.vars {W wr : World} {bd bl k : Nat} (h : RI W wr bd bl k) : Vars wr := by
  obtain ⟨S, L, A, P, ini, la, h1, h2⟩ := h
  exact h1.dl.vars
end Go.Proofs.YtoplejbmgpgkhaaGreatDoor
namespace Go.Proofs.YtoplejbmgpgkhaaGreatDoor
open Go.ChangeShapes Go.WideShapes Go.ChangeAt Go.WideElems Go.RowKit Go.ChangeMaps
theorem cells36 : Tryz.prog.cellsOf 36 = 1 := by kernel_rfl
theorem bytes36 : Tryz.prog.bytesOf 36 = 24 := by kernel_rfl
theorem wf_u8 {x : Int} (h : (Lit.int .u8 x).wf = true) : 0 ≤ x ∧ x < 256 := by
  simp [Lit.wf, IntKind.min, IntKind.max, IntKind.signed, IntKind.bits] at h
  exact ⟨by omega, by omega⟩
end Go.Proofs.YtoplejbmgpgkhaaGreatDoor
namespace Go.Proofs.YtoplejbmgpgkhaaGreatDoor
open Go.RowKit
theorem sm : (∀ (xs : List Oper) (i : Nat) (h : i < xs.toArray.size), xs.toArray[i] = xs[i]'(by simpa using h)) ∧ (∀ (a : Oper) (ls : List Oper) (i : Nat) (h : i + 1 < (a :: ls).length), (a :: ls)[i + 1] = ls[i]'(by simpa using h)) ∧ (∀ (a : Oper) (ls : List Oper) (h : 0 < (a :: ls).length), (a :: ls)[0] = a) ∧
    (∀ (a : Act) (v : Value), a.put none v = a) ∧ (∀ (a : Act) (d : Tmp) (v : Value), a.put (some d) v = { tmps := a.tmps.setIfInBounds d v, defers := a.defers }) ∧ (∀ (xs : List Value) (i : Nat) (v : Value), xs.toArray.setIfInBounds i v = (xs.set i v).toArray) ∧ (∀ (a v : Value) (ls : List Value), (a :: ls).set 0 v = v :: ls) ∧ (∀ (a v : Value) (ls : List Value) (i : Nat), (a :: ls).set (i + 1) v = a :: ls.set i v) :=
  ⟨fun xs i h => by simp, fun a ls i h => by simp, fun a ls h => rfl, fun a v => rfl, fun a d v => rfl, fun xs i v => by simp, fun a v ls => rfl, fun a v ls i => rfl⟩
theorem tk {P : Program} {ops : Array Oper} {Q : Exit → Act → World → Prop} {md : Region.Mode} {S : World → Prop} {oi : Oper} {fuel : Nat} {listed : Array Bool} {a : Act} {w : World} (i : Nat) (v : Value)
    (hy : ∀ w, S w → (execOp a.eval oi).run P w = .ok (.value v) w) (hS : S w) (h : wpAnyH P md ops Q S fuel (listed.setIfInBounds i true) (a.put oi.dst v) w)
    (h1 : ops[i]? = some oi := by rfl) (h2 : Region.noSelect ops = true := by kernel_rfl) (h3 : Region.free md ops listed i = true := by kernel_rfl) (h4 : (Region.ready md ops listed).contains i = true := by kernel_rfl)
    (hq : ∀ (c : List PanicEntry) (a : Act) (w : World), Q (Exit.panic c) (a.put oi.dst v) w → Q (Exit.panic c) a w := by exact fun _ _ _ h => h) (hw : Region.wanted oi (yielded ops a.tmps) = true := by rfl) : wpAnyH P md ops Q S (fuel + 1) listed a w :=
  wpAnyH_take h1 h2 h3 h4 hq (Or.inl ⟨hw, hy⟩) hS h
theorem rd {P : Program} {ops : Array Oper} {Q : Exit → Act → World → Prop} {md : Region.Mode} {S : World → Prop} {o : Oper} {fuel : Nat} {listed : Array Bool} {a : Act} {w : World} (i : Nat)
    (h : ∀ (K' : Act → World → Prop), Shut (∀ (a : Act) (w : World), S w → (S w → wpAnyH P md ops Q S fuel (listed.setIfInBounds i true) a w) → K' a w) → if Region.wanted o (yielded ops a.tmps) = true then Oper.wp P o a w K' Q else K' (a.put o.dst undef) w)
    (ho : ops[i]? = some o := by rfl) (hr : Region.ready md ops listed = [i] := by kernel_rfl) : wpAnyH P md ops Q S (fuel + 1) listed a w :=
  wpAnyH_ready hr (by simp) (AllReadyH.cons ho h AllReadyH.nil)
end Go.Proofs.YtoplejbmgpgkhaaGreatDoor
