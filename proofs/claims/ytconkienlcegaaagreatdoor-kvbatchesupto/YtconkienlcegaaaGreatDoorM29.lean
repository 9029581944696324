/- WP, KQ, laid into one text. -/
import Derived.Test.YtconkienlcegaaaGreatDoorM25
import Derived.Test.YtconkienlcegaaaGreatDoorM28
import Derived.Test.YtconkienlcegaaaGreatDoorM24
/- wal: alive. -/
namespace Go.Proofs.YtconkienlcegaaaGreatDoor
open Go.RowKit Go.Maps Go.Joins Go.Sort
set_option linter.unusedSimpArgs false
set_option linter.unusedVariables false
def A0 : DA := ⟨[], false, 0, 0, fun _ => 0, 1000⟩
def P0 : PL := ⟨[], [], 0, false, 100⟩
def r1 := pApp A0 P0 [97]
def r2 := pSync r1.2.1 r1.2.2
def r3 := pApp r2.2.1 r2.2.2 [98]
def A4 : DA := ⟨bootT r3.2.1.l [], false, r3.2.1.steps, r3.2.1.armed, fun _ => 0, r3.2.1.room⟩
/-- Nothing of what lay in w0 is the disk's or the log's. -/
structure Al (w0 w : World) (bd bl : Nat) (S : DS) (L : LS) (A : DA) (P : PL) : Prop where
  dl : DL w bd bl S L 1000
  a : absD S = A
  p : absL L = P
  nm : L.nm = logB
  fr : Below w0.heap.size w0 w
  off : ∀ b, b < w0.heap.size → S.role b = .none ∧ L.own b = 0
theorem Al.below {w0 w w' : World} {bd bl : Nat} {S : DS} {L : LS} {A : DA} {P : PL} (h : Al w0 w bd bl S L A P) (hb : Below w.heap.size w w') : Al w0 w' bd bl S L A P :=
  ⟨h.dl.below hb, h.a, h.p, h.nm, h.fr.trans (hb.mono h.fr.size), h.off⟩
theorem Al.f3 {w0 w w' : World} {bd bl : Nat} {S S' : DS} {L L' : LS} {A A' : DA} {P P' : PL} (h : Al w0 w bd bl S L A P) (hd : DL w' bd bl S' L' 1000) (hf : F3 w w' S L S' L') (ha : absD S' = A') (hp : absL L' = P') (hn : L'.nm = logB) : Al w0 w' bd bl S' L' A' P' :=
  ⟨hd, ha, hp, hn, ⟨hf.os.trans h.fr.os, hf.tape.trans h.fr.tape, hf.output.trans h.fr.output, Nat.le_trans h.fr.size hf.size, fun b hb => (hf.block b (Nat.lt_of_lt_of_le hb h.fr.size) (h.off b hb).1 (h.off b hb).2).trans (h.fr.block b hb)⟩, fun b hb => hf.off b (Nat.lt_of_lt_of_le hb h.fr.size) (h.off b hb).1 (h.off b hb).2⟩
/-- What Append asks of a log's numbers. -/
def okP (A : DA) (P : PL) : Prop := (P.uns = true → P.fs ≠ []) ∧ (∀ x ∈ P.fs, 0 ≤ x ∧ x < 1000000000) ∧ P.rs.length ≤ 1000 ∧ P.fs.length ≤ 1000 ∧ 0 ≤ P.size ∧ P.size ≤ 1000 ∧ A.steps < 1000
theorem al_append {w0 w : World} {bd bl : Nat} {S : DS} {L : LS} {A : DA} {P : PL} (h : Al w0 w bd bl S L A P) (ho : okP A P) (x : Int) (ty : Nat) (mk : Nat × Nat) :
    Calls Tryz.prog 83 #[.pointer (some ⟨bl, 0, none⟩), .slice (some ⟨w.heap.size, 0, none⟩) 1 1] (w.alloc (.cells #[.int .u8 x] ty mk)) fun e w' => ∃ S' L', e = .returned (.int .i64 (pApp A P [x]).1) ∧ Al w0 w' bd bl S' L' (pApp A P [x]).2.1 (pApp A P [x]).2.2 := by
  obtain ⟨o1, o2, o3, o4, o5, o6, o7⟩ := ho
  have hb : Below w.heap.size w (w.alloc (.cells #[.int .u8 x] ty mk)) := by go_grown
  have h2 := h.below hb
  have e1 : S.steps = A.steps := by rw [← h.a]; rfl
  have e2 : L.fs = P.fs := by rw [← h.p]; rfl
  have e3 : L.rs.length = P.rs.length := by rw [← h.p]; simp [absL]
  have e4 : L.size = P.size := by rw [← h.p]; rfl
  have e5 : L.uns = P.uns := by rw [← h.p]; rfl
  have hI : AppIn (w.alloc (.cells #[.int .u8 x] ty mk)) bd bl S L 1000 (some ⟨w.heap.size, 0, none⟩) 1 [x] := by
    refine ⟨h2.dl, Or.inr ⟨_, _, rfl, fun j u hu => ?_⟩, fun b hb' => ?_, h.nm, by rw [e5, e2]; exact o1, ⟨by rw [e2]; exact o2, by omega⟩, by rw [e2]; omega, by rw [e4]; omega, by rw [e1]; omega, by simp⟩
    · cases j with
      | zero => rw [Addr.add_lit, ← hu]; simp [World.cell?_alloc_mark, vB]
      | succ j => simp [vB] at hu
    · have : b = w.heap.size := by
        have h9 : some w.heap.size = some b := hb'
        injection h9 with h9; exact h9.symm
      rw [this]
      exact ⟨by simp, h.dl.disk.fresh _ (Nat.le_refl _), h.dl.log.fresh _ (Nat.le_refl _)⟩
  refine (lappend_any hI).mono ?_
  rintro e w' ⟨c, S', L', rfl, hp⟩
  rw [h.a, h.p] at hp
  exact ⟨S', L', by rw [hp.code], h2.f3 hp.dl hp.f3 hp.disk hp.log (hp.nm.trans h.nm)⟩
theorem al_sync {w0 w : World} {bd bl : Nat} {S : DS} {L : LS} {A : DA} {P : PL} (h : Al w0 w bd bl S L A P) (ho : okP A P) :
    Calls Tryz.prog 84 #[.pointer (some ⟨bl, 0, none⟩)] w fun e w' => ∃ S' L', e = .returned (.int .i64 (pSync A P).1) ∧ Al w0 w' bd bl S' L' (pSync A P).2.1 (pSync A P).2.2 := by
  obtain ⟨o1, o2, o3, o4, o5, o6, o7⟩ := ho
  have e1 : S.steps = A.steps := by rw [← h.a]; rfl
  have e2 : L.fs = P.fs := by rw [← h.p]; rfl
  have e5 : L.uns = P.uns := by rw [← h.p]; rfl
  refine (lsync_any h.dl (by rw [e5, e2]; exact o1) h.nm (by rw [e1]; omega)).mono ?_
  rintro e w' ⟨c, S', L', rfl, hp, _⟩
  rw [h.a, h.p] at hp
  exact ⟨S', L', by rw [hp.code], h.f3 hp.dl hp.f3 hp.disk hp.log (hp.nm.trans h.nm)⟩
/-- A disk with no log of ours in hand. -/
structure Ad (w0 w : World) (bd : Nat) (S : DS) (A : DA) : Prop where
  disk : DiskIs w bd S
  gb : GB S 1000
  a : absD S = A
  vars : Vars w
  fr : Below w0.heap.size w0 w
  off : ∀ b, b < w0.heap.size → S.role b = .none
  v0 : 5 ≤ w0.heap.size
theorem ad_new {w0 : World} (hV : Vars w0) : Calls Tryz.prog 8 #[.int .i64 1000] w0 fun e w' => ∃ bd S, e = .returned (.tuple #[.pointer (some ⟨bd, 0, none⟩), .int .i64 0]) ∧ Ad w0 w' bd S A0 := by
  have hv := hV.lt
  refine (new_any 1000 (by omega) (by omega) w0).mono ?_
  rintro e w' ⟨bd, S, rfl, hD, hb, hS, hr⟩
  refine ⟨bd, S, rfl, hD, ⟨?_, ?_, by omega, ?_⟩, ?_, hV.below hb, hb, hr, hv⟩
  · rw [hS]; unfold Cnt; simp
  · rw [hS]
  · rw [hS]; exact ⟨by simp [absP], by simp [absP, sumT], fun p hp => by simp [absP] at hp⟩
  · rw [hS]; rfl
theorem ad_open {w0 w : World} {bd : Nat} {S : DS} (h : Ad w0 w bd S A0) : Calls Tryz.prog 40 #[.pointer (some ⟨bd, 0, none⟩), .string logB, .int .i64 100] w fun e w' => ∃ bl L, e = .returned (.tuple #[.pointer (some ⟨bl, 0, none⟩), .int .i64 0]) ∧ Al w0 w' bd bl S L A0 P0 := by
  have v0 := h.v0
  have hl : absP S = [] := congrArg DA.l h.a
  have hd : S.down = false := congrArg DA.down h.a
  have hs : S.steps = 0 := congrArg DA.steps h.a
  refine (open_zero h.disk h.gb h.vars (fun b hb => h.off b (by omega)) hd (by omega) (by rw [hl]; intro s hs; cases hs) 100 (by omega) (by rw [hl]; rfl)).mono ?_
  rintro e w' (⟨_, bl, L, rfl, hdl, hof, hp, hn⟩ | ⟨n, c, bl, S', L', hne, _⟩)
  · exact ⟨bl, L, rfl, hdl, h.a, hp, hn, ⟨hof.os.trans h.fr.os, hof.tape.trans h.fr.tape, hof.output.trans h.fr.output, Nat.le_trans h.fr.size hof.size, fun b hb => (hof.block b (Nat.lt_of_lt_of_le hb h.fr.size) (h.off b hb)).trans (h.fr.block b hb)⟩, fun b hb => hof.off b (Nat.lt_of_lt_of_le hb h.fr.size) (h.off b hb)⟩
  · rw [hl] at hne
    cases hne
theorem al_boot {w0 w : World} {bd bl : Nat} {S : DS} {L : LS} {A : DA} {P : PL} (h : Al w0 w bd bl S L A P) (hv0 : 5 ≤ w0.heap.size) : Calls Tryz.prog 18 #[.pointer (some ⟨bd, 0, none⟩), .slice none 0 0] w fun e w' => e = .returned (.tuple #[]) ∧ ∃ S', Ad w0 w' bd S' ⟨bootT A.l [], false, A.steps, A.armed, fun _ => 0, A.room⟩ := by
  have hD := h.dl.disk
  have hG := h.dl.gb
  have hlen : S.fs.length ≤ 1000 := by have := hG.wf.len; unfold absP at this; rw [List.length_map] at this; omega
  refine (boot_any hD hlen (fun p hp => hG.wf.safe (p.1, (S.fl p.1).bs, (S.fl p.1).safe) (List.mem_map.2 ⟨p, hp, rfl⟩)) (.slice none 0 0) [] ⟨none, 0, rfl, fun j x hx => by simp at hx⟩ (by simp) (fun b hb => by simp [dBlock] at hb)).mono ?_
  rintro e w' ⟨rfl, S', ss, hp, hc, hD', hF⟩
  have ha := cut_abs hD hp hc
  have hst : S'.steps = S.steps := hc.steps
  have har : S'.armed = S.armed := hc.armed
  have hvl := h.dl.vars.lt
  refine ⟨rfl, S', hD', ⟨by have := hG.cnt; unfold Cnt at this ⊢; rw [hst, har]; exact this, hc.room.trans hG.rm, hG.r0, by rw [ha]; exact boot_wf hG.wf _⟩, ?_, h.dl.vars.kept (fun b hb => hF.block b (by omega) (h.dl.voff b hb).1), ?_, fun b hb => hF.role b (Nat.lt_of_lt_of_le hb h.fr.size) (h.off b hb).1, hv0⟩
  · rw [← h.a]
    unfold absD
    rw [ha, hst, har, hc.plan, hc.down, hc.room]
    rfl
  · exact ⟨hF.os.trans h.fr.os, hF.tape.trans h.fr.tape, hF.output.trans h.fr.output, Nat.le_trans h.fr.size hF.size, fun b hb => (hF.block b (Nat.lt_of_lt_of_le hb h.fr.size) (h.off b hb).1).trans (h.fr.block b hb)⟩
theorem took_one {k : Nat} {rs : List (List Int)} (h : Took (frameB [97]) k rs) (hk : k = (frameB [97]).length ∨ (nx ((frameB [97]).drop k)).1 ≠ 0) : rs = [[97]] ∧ k = 13 := by
  have n1 : nx ((frameB [97]).drop 0) = (0, 13, [97]) := by decide +kernel
  have n2 : (frameB [97]).length = 13 := by decide +kernel
  cases h with
  | nil => rcases hk with hk | hk
           · rw [n2] at hk; cases hk
           · rw [n1] at hk; exact absurd rfl hk
  | step h1 h2 h3 =>
    cases h1 with
    | nil => rw [n1]; exact ⟨rfl, rfl⟩
    | step h4 h5 h6 =>
      cases h4 with
      | nil => rw [n1, n2] at h2; simp at h2
      | step h7 h8 h9 =>
        have h0 := (Took.step (Took.step h7 h8 h9) h5 h6).le
        rw [n2] at h0
        have h1 := h0.1
        have h2 := h0.2
        simp only [List.length_append, List.length_cons, List.length_nil] at h2
        omega
theorem ad_open4 {w0 w : World} {bd : Nat} {S : DS} (h : Ad w0 w bd S A4) : Calls Tryz.prog 40 #[.pointer (some ⟨bd, 0, none⟩), .string logB, .int .i64 100] w fun e w' => ∃ bl S' L A', e = .returned (.tuple #[.pointer (some ⟨bl, 0, none⟩), .int .i64 0]) ∧ Al w0 w' bd bl S' L A' ⟨[0], [[97]], 13, false, 100⟩ := by
  have v0 := h.v0
  have hl : absP S = A4.l := congrArg DA.l h.a
  have hd : S.down = false := congrArg DA.down h.a
  have hs : S.steps = A4.steps := congrArg DA.steps h.a
  have hs4 : A4.steps = 3 := by decide +kernel
  have hn4 : numsOf (nmS A4.l) = [0] := by decide +kernel
  have hd4 : (dRead A4 (fileB logB 0)).1 = 0 := by decide +kernel
  have hb4 : dBytes A4 (fileB logB 0) = frameB [97] := by decide +kernel
  have hz4 : ∀ s ∈ nmS A4.l, s.size ≤ 1000 := by decide +kernel
  refine (open_one h.disk h.gb h.vars (fun b hb => h.off b (by omega)) hd (by omega) (by rw [hl]; exact hz4) 100 (by omega) (n := 0) (by rw [hl]; exact hn4)).mono ?_
  rintro e w' (⟨hne, _⟩ | ⟨n, c, bl, S', L', hne, he, hdl, hof, hr⟩)
  · rw [hl, hn4] at hne
    cases hne
  · rw [hl, hn4] at hne
    obtain rfl : (0 : Int) = n := by injection hne
    unfold LdR at hr
    rw [h.a, hb4] at hr
    have hfr : Below w0.heap.size w0 w' := ⟨hof.os.trans h.fr.os, hof.tape.trans h.fr.tape, hof.output.trans h.fr.output, Nat.le_trans h.fr.size hof.size, fun b hb => (hof.block b (Nat.lt_of_lt_of_le hb h.fr.size) (h.off b hb)).trans (h.fr.block b hb)⟩
    have hoff : ∀ b, b < w0.heap.size → S'.role b = .none ∧ L'.own b = 0 := fun b hb => hof.off b (Nat.lt_of_lt_of_le hb h.fr.size) (h.off b hb)
    rcases hr with ⟨q, _⟩ | ⟨_, ⟨rfl, _, k, rs, ht, hk, hx, _⟩ | ⟨k, rs, ht, ⟨hL, hN⟩, hk⟩⟩
    · exact absurd hd4 q
    · obtain ⟨_, rfl⟩ := took_one ht (Or.inr hx)
      exact absurd hk (by decide +kernel)
    · rcases hk with ⟨hk, rfl, _⟩ | ⟨hk, hx, _⟩
      · obtain ⟨rfl, rfl⟩ := took_one ht (Or.inl hk)
        rw [if_pos rfl] at he
        exact ⟨bl, S', L', _, he, hdl, rfl, hL, hN, hfr, hoff⟩
      · obtain ⟨_, rfl⟩ := took_one ht (Or.inr (by rw [hx]; decide))
        exact absurd hk (by decide +kernel)
end Go.Proofs.YtconkienlcegaaaGreatDoor
/- kv: a store beside its log and disk; save, Put where all goes well. -/
namespace Go.Proofs.YtconkienlcegaaaGreatDoor
open Go.RowKit Go.Maps Go.Joins Go.Shelf
set_option linter.unusedSimpArgs false
set_option linter.unusedVariables false
/-- Blocks that are neither the disk's nor the log's. -/
def FreeD (w0 w : World) (S : DS) (L : LS) (x : Nat) : Prop := x < w.heap.size ∧ w0.heap.size ≤ x ∧ S.role x = .none ∧ L.own x = 0
theorem DL.turn {W W' : World} {bd bl x : Nat} {S : DS} {L : LS} {ro : Int} (h : DL W bd bl S L ro) (hg : W.grownBy W' (some x)) (hx : S.role x = .none ∧ L.own x = 0) (h5 : 5 ≤ x) : DL W' bd bl S L ro :=
  ⟨h.disk.kept (fun b hb => hg.block b (h.disk.role_lt hb) (fun e => hb (by injection e with e; rw [e]; exact hx.1))) hg.size, h.gb, h.log.kept (fun b hb => hg.block b (h.log.own_lt hb) (fun e => hb (by injection e with e; rw [e]; exact hx.2))) hg.size, h.bdq, h.apart, h.vars.kept (fun b hb => hg.block b (by have := h.vars.lt; omega) (fun e => by injection e with e; omega)), h.voff⟩
/-- A store, its log, its disk; nothing of what lay in w0 is theirs. -/
structure AK (w0 w : World) (bd bl b bm : Nat) (S : DS) (L : LS) (A : DA) (P : PL) (br : Bool) (m : List (List UInt8 × Value × List Int)) : Prop where
  al : Al w0 w bd bl S L A P
  ks : KS w (FreeD w0 w S L) b bl br bm m
  v0 : 5 ≤ w0.heap.size
theorem KS.free {w w' w0 : World} {S S' : DS} {L L' : LS} {b bl bm : Nat} {br : Bool} {m : List (List UInt8 × Value × List Int)} (h : KS w (FreeD w0 w S L) b bl br bm m) (hf : F3 w w' S L S' L') : KS w' (FreeD w0 w' S' L') b bl br bm m :=
  h.mono (fun x hx => hf.block x hx.1 hx.2.2.1 hx.2.2.2) (fun x hx => ⟨Nat.lt_of_lt_of_le hx.1 hf.size, hx.2.1, (hf.off x hx.1 hx.2.2.1 hx.2.2.2).1, (hf.off x hx.1 hx.2.2.1 hx.2.2.2).2⟩)
theorem AK.f3 {w0 w w' : World} {bd bl b bm : Nat} {S S' : DS} {L L' : LS} {A A' : DA} {P P' : PL} {br : Bool} {m : List (List UInt8 × Value × List Int)} (h : AK w0 w bd bl b bm S L A P br m) (hd : DL w' bd bl S' L' 1000) (hf : F3 w w' S L S' L') (ha : absD S' = A') (hp : absL L' = P') (hn : L'.nm = logB) : AK w0 w' bd bl b bm S' L' A' P' br m :=
  ⟨h.al.f3 hd hf ha hp hn, h.ks.free hf, h.v0⟩
theorem AK.below {w0 w w' : World} {bd bl b bm : Nat} {S : DS} {L : LS} {A : DA} {P : PL} {br : Bool} {m : List (List UInt8 × Value × List Int)} (h : AK w0 w bd bl b bm S L A P br m) (hb : Below w.heap.size w w') : AK w0 w' bd bl b bm S L A P br m :=
  ⟨h.al.below hb, h.ks.free (F3.below hb), h.v0⟩
theorem Al.turn {w0 w w' : World} {bd bl x : Nat} {S : DS} {L : LS} {A : DA} {P : PL} (h : Al w0 w bd bl S L A P) (hg : w.grownBy w' (some x)) (hx : FreeD w0 w S L x) (h5 : 5 ≤ w0.heap.size) : Al w0 w' bd bl S L A P :=
  ⟨h.dl.turn hg ⟨hx.2.2.1, hx.2.2.2⟩ (by have := hx.2.1; omega), h.a, h.p, h.nm, h.fr.grown hg h.fr.size (fun k hk => by injection hk with hk; rw [← hk]; exact hx.2.1), h.off⟩
theorem bytes_store {w : World} {v : Value} {bs : List Int} (h : BytesV w v bs) {x b : Nat} (hx : dBlock v bs = some x) {r : Bool} {pp : Option Addr} {qq : Option Nat} (hb : w.heap[b]? = some (.cells #[.pointer pp, .map qq, .bool r] 96)) : x ≠ b := fun e => by
  rcases h with ⟨rfl, rfl⟩ | ⟨ad, c, rfl, hc⟩
  · simp [dBlock] at hx
  · cases bs with
    | nil => simp [dBlock] at hx
    | cons y r =>
      have h1 := hc 0 (.int .u8 y) rfl
      have h2 := dBlock_own hx
      injection h2 with h2
      have e3 : (ad.add 0) = ad := by unfold Addr.add; simp
      rw [e3] at h1
      obtain ⟨g, o, sp⟩ := ad
      have h4 := World.cell?_spot h1
      dsimp only at h4 h2
      subst h4 h2 e
      rw [cell_of_block hb] at h1
      rcases (by omega : o = 0 ∨ o = 1 ∨ o = 2 ∨ 3 ≤ o) with rfl | rfl | rfl | h5
      · simp at h1
      · simp at h1
      · simp at h1
      · rw [Array.getElem?_eq_none (by simpa using h5)] at h1; cases h1
/-- The store's own bool is set. -/
theorem AK.broke {w0 w : World} {bd bl b bm : Nat} {S : DS} {L : LS} {A : DA} {P : PL} {br : Bool} {m : List (List UInt8 × Value × List Int)} (h : AK w0 w bd bl b bm S L A P br m) (br' : Bool) : AK w0 (w.setCell ⟨b, 2, none⟩ (.bool br')) bd bl b bm S L A P br' m := by
  have ho : ∀ x, x ≠ b → (w.setCell ⟨b, 2, none⟩ (.bool br')).heap[x]? = w.heap[x]? := fun x hx => Below.heap_setCell _ _ _ _ hx
  have hs : (w.setCell ⟨b, 2, none⟩ (.bool br')).heap.size = w.heap.size := by simp
  have hg : w.grownBy (w.setCell ⟨b, 2, none⟩ (.bool br')) (some b) := ⟨rfl, rfl, rfl, by rw [hs]; exact Nat.le_refl _, fun k hk hn => ho k (fun e => hn (by rw [e]))⟩
  refine ⟨h.al.turn hg h.ks.db h.v0, ⟨?_, ownsMap_heap h.ks.mp (ho _ (fun e => h.ks.ne e.symm)), fun p hp => ⟨(h.ks.vals p hp).1, ?_⟩, ?_, ?_⟩, h.v0⟩
  · exact (heap_setCell_same _ _ 2 _ 96 (.bool br') h.ks.st)
  · have hk := (h.ks.vals p hp).2
    refine ⟨hk.is.keep fun x hx => ho x (fun e => ?_), fun x hx => ?_, hk.len⟩
    · exact bytes_store hk.is hx h.ks.st e
    · have := hk.d x hx
      unfold FreeD at this ⊢
      rw [hs]; exact this
  · have := h.ks.db
    unfold FreeD at this ⊢
    rw [hs]; exact this
  · have := h.ks.dm
    unfold FreeD at this ⊢
    rw [hs]; exact this
/-- What a log's call asks of numbers. -/
theorem AK.app {w0 w : World} {bd bl b bm : Nat} {S : DS} {L : LS} {A : DA} {P : PL} {br : Bool} {m : List (List UInt8 × Value × List Int)} (h : AK w0 w bd bl b bm S L A P br m) (ho : okP A P) {va : Option Addr} {vc : Nat} {bs : List Int} (hv : BytesV w (.slice va bs.length vc) bs) (hf : ∀ x, dBlock (.slice va bs.length vc) bs = some x → S.role x = .none ∧ L.own x = 0) (hl : bs.length ≤ 65536) :
    Calls Tryz.prog 83 #[.pointer (some ⟨bl, 0, none⟩), .slice va bs.length vc] w fun e w' => ∃ S' L', e = .returned (.int .i64 (pApp A P bs).1) ∧ AK w0 w' bd bl b bm S' L' (pApp A P bs).2.1 (pApp A P bs).2.2 br m ∧ F3 w w' S L S' L' := by
  obtain ⟨o1, o2, o3, o4, o5, o6, o7⟩ := ho
  have e1 : S.steps = A.steps := by rw [← h.al.a]; rfl
  have e2 : L.fs = P.fs := by rw [← h.al.p]; rfl
  have e3 : L.rs.length = P.rs.length := by rw [← h.al.p]; simp [absL]
  have e4 : L.size = P.size := by rw [← h.al.p]; rfl
  have e5 : L.uns = P.uns := by rw [← h.al.p]; rfl
  have hI : AppIn w bd bl S L 1000 va vc bs := ⟨h.al.dl, hv, fun x hx => ⟨hv.lt x hx, hf x hx⟩, h.al.nm, by rw [e5, e2]; exact o1, ⟨by rw [e2]; exact o2, by omega⟩, by rw [e2]; omega, by rw [e4]; omega, by rw [e1]; omega, hl⟩
  refine (lappend_any hI).mono ?_
  rintro e w' ⟨c, S', L', rfl, hp⟩
  rw [h.al.a, h.al.p] at hp
  exact ⟨S', L', by rw [hp.code], h.f3 hp.dl hp.f3 hp.disk hp.log (hp.nm.trans h.al.nm), hp.f3⟩
theorem AK.sync {w0 w : World} {bd bl b bm : Nat} {S : DS} {L : LS} {A : DA} {P : PL} {br : Bool} {m : List (List UInt8 × Value × List Int)} (h : AK w0 w bd bl b bm S L A P br m) (ho : okP A P) :
    Calls Tryz.prog 84 #[.pointer (some ⟨bl, 0, none⟩)] w fun e w' => ∃ S' L', e = .returned (.int .i64 (pSync A P).1) ∧ AK w0 w' bd bl b bm S' L' (pSync A P).2.1 (pSync A P).2.2 br m ∧ F3 w w' S L S' L' := by
  obtain ⟨o1, o2, o3, o4, o5, o6, o7⟩ := ho
  have e1 : S.steps = A.steps := by rw [← h.al.a]; rfl
  have e2 : L.fs = P.fs := by rw [← h.al.p]; rfl
  have e5 : L.uns = P.uns := by rw [← h.al.p]; rfl
  refine (lsync_any h.al.dl (by rw [e5, e2]; exact o1) h.al.nm (by rw [e1]; omega)).mono ?_
  rintro e w' ⟨c, S', L', rfl, hp, _⟩
  rw [h.al.a, h.al.p] at hp
  exact ⟨S', L', by rw [hp.code], h.f3 hp.dl hp.f3 hp.disk hp.log (hp.nm.trans h.al.nm), hp.f3⟩
set_option maxHeartbeats 4000000 in
/-- save, where all goes well. -/
theorem save_ok {w0 w : World} {bd bl b bm : Nat} {S : DS} {L : LS} {A : DA} {P : PL} {br : Bool} {m : List (List UInt8 × Value × List Int)} (h : AK w0 w bd bl b bm S L A P br m) (ho : okP A P) {va : Option Addr} {vc : Nat} {bs : List Int} (hv : BytesV w (.slice va bs.length vc) bs) (hf : ∀ x, dBlock (.slice va bs.length vc) bs = some x → S.role x = .none ∧ L.own x = 0) (hl : bs.length ≤ 65536) (h1 : (pApp A P bs).1 = 0) (ho2 : okP (pApp A P bs).2.1 (pApp A P bs).2.2) (h2 : (pSync (pApp A P bs).2.1 (pApp A P bs).2.2).1 = 0) :
    Calls Tryz.prog 49 #[.pointer (some ⟨b, 0, none⟩), .slice va bs.length vc] w fun e w' => e = .returned (.int .i64 0) ∧ ∃ S' L', AK w0 w' bd bl b bm S' L' (pSync (pApp A P bs).2.1 (pApp A P bs).2.2).2.1 (pSync (pApp A P bs).2.1 (pApp A P bs).2.2).2.2 false m ∧ ∀ x, x < w.heap.size → S.role x = .none → L.own x = 0 → x ≠ b → w'.heap[x]? = w.heap[x]? := by
  have HA : Hid (∀ (_ : Unit), _) := fun _ => h.app ho hv hf hl
  obtain ⟨q1, hq1⟩ : ∃ q1, q1 = pApp A P bs := ⟨_, rfl⟩
  rw [← hq1] at h1 ho2 h2 ⊢
  rw [← hq1, h1] at HA
  obtain ⟨q2, hq2⟩ : ∃ q2, q2 = pSync q1.2.1 q1.2.2 := ⟨_, rfl⟩
  rw [← hq2] at h2 ⊢
  have HQ : Hid (q2 = pSync q1.2.1 q1.2.2 ∧ okP q1.2.1 q1.2.2 ∧ q2.1 = 0) := ⟨hq2, ho2, h2⟩
  have HK : Hid (AK w0 w bd bl b bm S L A P br m) := h
  have c0 : w.cell? ⟨b, 0, none⟩ = some (.pointer (some ⟨bl, 0, none⟩)) := (cell_of_block h.ks.st 0).trans rfl
  obtain ⟨nb, hnb⟩ : ∃ nb, nb = bs.length := ⟨_, rfl⟩
  rw [← hnb] at HA ⊢
  clear h ho hv hf hl h1 ho2 h2 hq1 hq2 hnb
  have T1 : Hid True := trivial
  go_enter Tryz.func49, Tryz.ntmps49
  go_wp2_with (first
    | (have _ := T1
       go_at_call 83
       clear T1
       refine Calls.mono (HA.out ()) ?_
       rintro e w1 ⟨S1, L1, rfl, hk1, hf1⟩
       have HS : Hid (∀ (_ : Unit), _) := fun _ => hk1.sync HQ.out.2.1
       rw [← HQ.out.1, HQ.out.2.2] at HS
       have HK1 : Hid (AK w0 w1 bd bl b bm S1 L1 q1.2.1 q1.2.2 br m ∧ F3 w w1 S L S1 L1) := ⟨hk1, hf1⟩
       have c1 : w1.cell? ⟨b, 0, none⟩ = some (.pointer (some ⟨bl, 0, none⟩)) := (cell_of_block hk1.ks.st 0).trans rfl
       clear hk1 hf1 HA
       have T2 : Hid True := trivial)
    | (have _ := T2
       go_at_call 84
       clear T2
       refine Calls.mono (HS.out ()) ?_
       rintro e w2 ⟨S2, L2, rfl, hk2, hf2⟩
       have HK2 : Hid (AK w0 w2 bd bl b bm S2 L2 q2.2.1 q2.2.2 br m ∧ F3 w w2 S L S2 L2) := ⟨hk2, HK1.out.2.trans hf2⟩
       have c2 : w2.cell? ⟨b, 2, none⟩ = some (.bool br) := (cell_of_block hk2.ks.st 2).trans rfl
       have f2 : w2.frozen? ⟨b, 2, none⟩ = false := unfrozen_of_block hk2.ks.st 2
       clear hk2 hf2 HS))
  go_returns
  exact ⟨rfl, S2, L2, HK2.out.1.broke false, fun x hx h1 h2 hne => (Below.heap_setCell _ _ _ _ hne).trans (HK2.out.2.block x hx h1 h2)⟩
end Go.Proofs.YtconkienlcegaaaGreatDoor
