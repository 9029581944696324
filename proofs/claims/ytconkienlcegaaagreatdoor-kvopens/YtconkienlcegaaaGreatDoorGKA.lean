/- XB, KM, KA -/
import Derived.Test.YtconkienlcegaaaGreatDoorGXA
import Derived.Test.YtconkienlcegaaaGreatDoorX8
import Derived.Test.YtconkienlcegaaaGreatDoorGWC
import Derived.Laws.Bits64b
namespace Go.Proofs.YtconkienlcegaaaGreatDoor
open Go.RowKit Go.Maps Go.Joins Go.Sort
set_option linter.unusedVariables false
set_option linter.unusedSimpArgs false
structure D2 (w0 w : World) (bd br : Nat) (S : DS) (R : RS) (ro : Int) (A B : DA) : Prop where
 disk : DiskIs w bd S
 gb : GB S ro
 a : absD S = A
 ref : RefIs w br R
 hb : HB R ro
 b : absQ R = B
 apart : ∀ b, R.own b ≠ 0 → S.role b = .none
 vars : Vars w
 fr : Below w0.heap.size w0 w
 off : ∀ b, b < w0.heap.size → S.role b = .none ∧ R.own b = 0
 v0 : 5 ≤ w0.heap.size
theorem D2.below {w0 w w' : World} {bd br : Nat} {S : DS} {R : RS} {ro : Int} {A B : DA} (h : D2 w0 w bd br S R ro A B) (hb : Below w.heap.size w w') : D2 w0 w' bd br S R ro A B :=
 ⟨h.disk.below hb, h.gb, h.a, h.ref.below hb, h.hb, h.b, h.apart, h.vars.below hb, h.fr.trans (hb.mono h.fr.size), h.off, h.v0⟩
theorem D2.rnone {w0 w : World} {bd br : Nat} {S : DS} {R : RS} {ro : Int} {A B : DA} (h : D2 w0 w bd br S R ro A B) {b : Nat} (hb : S.role b ≠ .none) : R.own b = 0 := by
 cases h1 : R.own b with
 | zero => rfl
 | succ n => exact absurd (h.apart b (by rw [h1]; simp)) hb
theorem D2.mine {w0 w w' : World} {bd br : Nat} {S S' : DS} {R : RS} {ro : Int} {A A' B : DA} (h : D2 w0 w bd br S R ro A B) (hD : DiskIs w' bd S') (hG : GB S' ro) (hF : Fr w w' S S') (ha : absD S' = A') : D2 w0 w' bd br S' R ro A' B := by
 have hv := h.v0; have hs := h.fr.size; exact ⟨hD, hG, ha, h.ref.kept (fun b hb => hF.block b (h.ref.own_lt hb) (h.apart b hb)) hF.size, h.hb, h.b, fun b hb => hF.role b (h.ref.own_lt hb) (h.apart b hb), h.vars.kept (fun b hb => hF.block b (by omega) (h.off b (by omega)).1), ⟨hF.os.trans h.fr.os, hF.tape.trans h.fr.tape, hF.output.trans h.fr.output, Nat.le_trans h.fr.size hF.size, fun b hb => (hF.block b (Nat.lt_of_lt_of_le hb h.fr.size) (h.off b hb).1).trans (h.fr.block b hb)⟩, fun b hb => ⟨hF.role b (Nat.lt_of_lt_of_le hb h.fr.size) (h.off b hb).1, (h.off b hb).2⟩, h.v0⟩
theorem D2.theirs {w0 w w' : World} {bd br : Nat} {S : DS} {R R' : RS} {ro : Int} {A B B' : DA} (h : D2 w0 w bd br S R ro A B) (hD : RefIs w' br R') (hG : HB R' ro) (hF : RFr w w' R R') (ha : absQ R' = B') : D2 w0 w' bd br S R' ro A B' := by
 have hv := h.v0; have hs := h.fr.size; refine ⟨h.disk.kept (fun b hb => hF.block b (h.disk.role_lt hb) (h.rnone hb)) hF.size, h.gb, h.a, hD, hG, ha, fun b hb => ?_, h.vars.kept (fun b hb => hF.block b (by omega) (h.off b (by omega)).2), ⟨hF.os.trans h.fr.os, hF.tape.trans h.fr.tape, hF.output.trans h.fr.output, Nat.le_trans h.fr.size hF.size, fun b hb => (hF.block b (Nat.lt_of_lt_of_le hb h.fr.size) (h.off b hb).2).trans (h.fr.block b hb)⟩, fun b hb => ⟨(h.off b hb).1, hF.own b (Nat.lt_of_lt_of_le hb h.fr.size) (h.off b hb).2⟩, h.v0⟩; rcases Nat.lt_or_ge b w.heap.size with h1 | h1
 · by_cases h2 : R.own b = 0
   · exact absurd (hF.own b h1 h2) hb
   · exact h.apart b h2
 · exact h.disk.fresh b h1
theorem d2_new {w0 : World} (hV : Vars w0) (r : Int) (h0 : 0 ≤ r) (h1 : r ≤ 1073741824) {w1 : World} {bd : Nat} {S : DS} (h : Dk w0 w1 bd S r (newA r)) : Calls Tryz.prog 9 #[.int .i64 r] w1 fun e w' => ∃ br R, e = .returned (.pointer (some ⟨br, 0, none⟩)) ∧ D2 w0 w' bd br S R r (newA r) (newA r) := by
 refine (rnew_any r h0 h1 w1).mono ?_; rintro e w' ⟨rfl, hR, hb⟩; have hz := h.fr.size; refine ⟨w1.heap.size, _, rfl, h.disk.below hb, h.gb, h.a, hR, ⟨PlanR.nil rfl, (by unfold Rn; show (0 : Int) ≤ 0 ∧ (0 : Int) < 4611686018427387904; omega), rfl, ⟨h0, h1⟩, wf_nil h0, List.Pairwise.nil⟩, rfl, fun b hb' => ?_, h.vars.below hb, h.fr.trans (hb.mono h.fr.size), fun b hb' => ⟨h.off b hb', if_neg (by omega)⟩, h.v0⟩; have : b = w1.heap.size := Classical.byContradiction fun e => hb' (if_neg e)
 rw [this]; exact h.disk.fresh _ (Nat.le_refl _)
theorem d2_app1 {w0 w : World} {bd br : Nat} {S : DS} {R : RS} {ro : Int} {A B : DA} (h : D2 w0 w bd br S R ro A B) (s : ByteArray) (hs : s.size ≤ 1000) (va : Option Addr) (vc : Nat) (bs : List Int) (hv : BytesV w (.slice va bs.length vc) bs) (hvr : ∀ b, dBlock (.slice va bs.length vc) bs = some b → S.role b = .none) (hl : bs.length ≤ 4611686018427387904) (hst : A.steps < 4611686018427387903) :
 Calls Tryz.prog 35 #[.pointer (some ⟨bd, 0, none⟩), .string s, .slice va bs.length vc] w fun e w' => ∃ S', e = .returned (.int .i64 (dApp A s bs).1) ∧ D2 w0 w' bd br S' R ro (dApp A s bs).2 B ∧ Fr w w' S S' := by
 have el : absP S = A.l := congrArg DA.l h.a; have er : S.room = A.room := congrArg DA.room h.a; have es : S.steps = A.steps := congrArg DA.steps h.a; refine (g_append h.disk h.gb s (by omega) va vc bs hv hvr hl).mono ?_; rintro e w' ⟨rfl, S', hD, hF, hG⟩; have hrm := h.gb.rm; have ha : absD S' = (dApp A s bs).2 := by
  have := gs_abs (e := eApp (absP S) ro s bs) hG; rw [this, h.a, el]; unfold dApp; rw [← er, hrm]
 refine ⟨S', ?_, h.mine hD (h.gb.next (e := eApp (absP S) ro s bs) hG (app_wf h.disk.srt h.gb.wf s bs) (by omega)) hF ha, hF⟩; rw [gI_abs S s (eApp (absP S) ro s bs) (lApp (absP S) ro s bs), h.a, el]; unfold dApp; rw [← er, hrm]
theorem d2_app2 {w0 w : World} {bd br : Nat} {S : DS} {R : RS} {ro : Int} {A B : DA} (h : D2 w0 w bd br S R ro A B) (s : ByteArray) (hs : s.size ≤ 1000) (va : Option Addr) (vc : Nat) (bs : List Int) (hv : BytesV w (.slice va bs.length vc) bs) (hvr : ∀ b, dBlock (.slice va bs.length vc) bs = some b → R.own b = 0) (hl : bs.length ≤ 4611686018427387904) (hst : B.steps < 4611686018427387903) (hA : A = (dApp B s bs).2) :
 Calls Tryz.prog 37 #[.pointer (some ⟨br, 0, none⟩), .string s, .slice va bs.length vc] w fun e w' => ∃ R', e = .returned (.int .i64 (dApp B s bs).1) ∧ D2 w0 w' bd br S R' ro A (dApp B s bs).2 ∧ RFr w w' R R' := by
 have el : absR R.A = B.l := congrArg DA.l h.b; have er : R.room = B.room := congrArg DA.room h.b; have es : R.n = B.steps := congrArg DA.steps h.b; refine (h_append h.ref h.hb s (by omega) va vc bs hv hvr hl).mono ?_; rintro e w' ⟨rfl, R', hD, hF, hG⟩; have hrm := h.hb.rm; have ha : absQ R' = (dApp B s bs).2 := by
  have := hs_abs (e := eApp (absR R.A) ro s bs) hG; rw [this, h.b, el]; unfold dApp; rw [← er, hrm]
 have hsr : Srt (absR R'.A) := by
  have e1 : absR R'.A = (dApp B s bs).2.l := congrArg DA.l ha; have e2 : absP S = A.l := congrArg DA.l h.a; rw [e1, ← hA, ← e2]; exact h.disk.srt
 have hB : HB R' ro := by
  have h2 := (dDo_steps (absQ R) s (eApp (absR R.A) ro s bs) (lApp (absR R.A) ro s bs))
  have h1 := hs_abs (e := eApp (absR R.A) ro s bs) hG; have h3 : R'.n = (dDo (absQ R) s (eApp (absR R.A) ro s bs) (lApp (absR R.A) ro s bs)).2.steps := congrArg DA.steps h1; have h4 : (absQ R).steps = R.n := rfl; have hc := h.hb.cnt; unfold Rn at hc; refine ⟨⟨by rw [hG.plan]; exact h.hb.planR.len, by rw [hG.plan]; exact h.hb.planR.kind, fun hne => ?_⟩, ?_, hG.room.trans h.hb.rm, h.hb.r0, ?_, hsr⟩
  · have := h.hb.planR.frm (by rw [← hG.plan]; exact hne)
    rw [hG.frm]; omega
  · unfold Rn
    omega
  · rw [hG.abs]
    unfold gL; split
    · exact app_wf h.hb.srt h.hb.wf s bs
    · exact h.hb.wf
 refine ⟨R', ?_, h.theirs hD hB hF ha, hF⟩; rw [hI_abs R s (eApp (absR R.A) ro s bs) (lApp (absR R.A) ro s bs), h.b, el]; unfold dApp; rw [← er, hrm]
theorem d2_open1 {w0 w : World} {bd br : Nat} {S : DS} {R : RS} {ro : Int} {A B : DA} (h : D2 w0 w bd br S R ro A B) (hdn : A.down = false) (hst : A.steps < 4611686018427387800) (hnm : NmB A.l) (most : Int) (hm : 1 ≤ most) :
 Calls Tryz.prog 40 #[.pointer (some ⟨bd, 0, none⟩), .string logB, .int .i64 most] w fun e w' => ∃ c bl S' L A', e = .returned (.tuple #[if c = 0 then .pointer (some ⟨bl, 0, none⟩) else .pointer none, .int .i64 c]) ∧ D2 w0 w' bd br S' R ro A' B ∧ LogIs w' bl L ∧ (c = 0 → LN L) ∧ (∀ b, R.own b ≠ 0 → L.own b = 0) ∧ OpX A ⟨[], [], 0, false, most⟩ (srtI (numsOf (nmS A.l))) c A' (absL L) := by
 have hv := h.v0; have hs := h.fr.size; have el : absP S = A.l := congrArg DA.l h.a; have ed : S.down = A.down := congrArg DA.down h.a; have es : S.steps = A.steps := congrArg DA.steps h.a; refine (open_any h.disk h.gb h.vars (fun b hb => (h.off b (by omega)).1) (ed.trans hdn) (by rw [es]; exact hst) (by rw [el]; exact hnm.nmS) most hm).mono ?_; rintro e w' ⟨c, bl, S', L', rfl, hdl, hof, hop, hc⟩; rw [h.a, el] at hop; refine ⟨c, bl, S', L', absD S', rfl, ⟨hdl.disk, hdl.gb, rfl, h.ref.kept (fun b hb => hof.block b (h.ref.own_lt hb) (h.apart b hb)) hof.size, h.hb, h.b, fun b hb => (hof.off b (h.ref.own_lt hb) (h.apart b hb)).1, hdl.vars, ⟨hof.os.trans h.fr.os, hof.tape.trans h.fr.tape, hof.output.trans h.fr.output, Nat.le_trans h.fr.size hof.size, fun b hb => (hof.block b (Nat.lt_of_lt_of_le hb h.fr.size) (h.off b hb).1).trans (h.fr.block b hb)⟩, fun b hb => ⟨(hof.off b (Nat.lt_of_lt_of_le hb h.fr.size) (h.off b hb).1).1, (h.off b hb).2⟩, h.v0⟩, hdl.log, fun h0 => (hc h0).2, fun b hb => (hof.off b (h.ref.own_lt hb) (h.apart b hb)).2, hop⟩
end Go.Proofs.YtconkienlcegaaaGreatDoor
namespace Go.Proofs.YtconkienlcegaaaGreatDoor
set_option linter.unusedSimpArgs false
set_option linter.unusedVariables false
structure Ch where
 key : List Int
 val : List Int
 gone : Bool
def KByt (bs : List Int) : Prop := ∀ c ∈ bs, 0 ≤ c ∧ c < 256
def k2 (n : Nat) : List Int := [((n / 256 % 256 : Nat) : Int), ((n % 256 : Nat) : Int)]
def k4 (n : Nat) : List Int := [((n / 16777216 % 256 : Nat) : Int), ((n / 65536 % 256 : Nat) : Int), ((n / 256 % 256 : Nat) : Int), ((n % 256 : Nat) : Int)]
theorem k2_length (n : Nat) : (k2 n).length = 2 := rfl
theorem k4_length (n : Nat) : (k4 n).length = 4 := rfl
def kNum (bs : List Int) : Nat := bs.foldl (fun n c => n * 256 + c.toNat) 0
theorem kNum_k2 {n : Nat} (h : n < 65536) : kNum (k2 n) = n := by
 simp only [kNum, k2, List.foldl_cons, List.foldl_nil, Int.toNat_natCast]; omega
theorem kNum_k4 {n : Nat} (h : n < 4294967296) : kNum (k4 n) = n := by
 simp only [kNum, k4, List.foldl_cons, List.foldl_nil, Int.toNat_natCast]; omega
theorem k2_kNum {bs : List Int} (hl : bs.length = 2) (hb : KByt bs) : k2 (kNum bs) = bs ∧ kNum bs < 65536 := by
 match bs, hl with
 | [a, b], _ =>
   have ha := hb a (by simp); have hb' := hb b (by simp); simp only [kNum, k2, List.foldl_cons, List.foldl_nil]; refine ⟨?_, by omega⟩; congr 1
   · omega
   · congr 1
     omega
theorem k4_kNum {bs : List Int} (hl : bs.length = 4) (hb : KByt bs) : k4 (kNum bs) = bs ∧ kNum bs < 4294967296 := by
 match bs, hl with
 | [a, b, c, d], _ =>
   have h1 := hb a (by simp); have h2 := hb b (by simp); have h3 := hb c (by simp); have h4 := hb d (by simp); simp only [kNum, k4, List.foldl_cons, List.foldl_nil]; refine ⟨?_, by omega⟩; congr 1
   · omega
   · congr 1
     · omega
     · congr 1
       · omega
       · congr 1
         omega
def encC (c : Ch) : List Int := k2 c.key.length ++ (c.key ++ (if c.gone then k4 4294967295 else k4 c.val.length ++ c.val))
def encK (l : List Ch) : List Int := l.flatMap encC
def okK (c : Ch) : Prop := 1 ≤ c.key.length ∧ c.key.length ≤ 64
theorem encC_length (c : Ch) : (encC c).length = 6 + c.key.length + (if c.gone then 0 else c.val.length) := by
 unfold encC; cases c.gone <;> simp [k2_length, k4_length] <;> omega
def nxC (b : List Int) : Option (Ch × Nat) :=
 if b.length < 2 then none else
 if kNum (b.take 2) < 1 ∨ 64 < kNum (b.take 2) then none else
 if b.length < 6 + kNum (b.take 2) then none else
 if kNum ((b.drop (2 + kNum (b.take 2))).take 4) = 4294967295 then some (⟨(b.drop 2).take (kNum (b.take 2)), [], true⟩, 6 + kNum (b.take 2)) else
 if b.length - (6 + kNum (b.take 2)) < kNum ((b.drop (2 + kNum (b.take 2))).take 4) then none else
 some (⟨(b.drop 2).take (kNum (b.take 2)), (b.drop (6 + kNum (b.take 2))).take (kNum ((b.drop (2 + kNum (b.take 2))).take 4)), false⟩, 6 + kNum (b.take 2) + kNum ((b.drop (2 + kNum (b.take 2))).take 4))
theorem nxC_enc (c : Ch) (hk : okK c) (hv : c.val.length < 4294967295) (hg : c.gone = true → c.val = []) (rest : List Int) : nxC (encC c ++ rest) = some (c, (encC c).length) := by
 obtain ⟨key, val, gone⟩ := c; have hk1 : 1 ≤ key.length := hk.1; have hk2 : key.length ≤ 64 := hk.2; have hv : val.length < 4294967295 := hv; have hl := encC_length ⟨key, val, gone⟩; have e2 : (encC ⟨key, val, gone⟩ ++ rest).take 2 = k2 key.length := by simp [encC, k2]
 have n2 : kNum ((encC ⟨key, val, gone⟩ ++ rest).take 2) = key.length := by rw [e2, kNum_k2 (by omega)]
 have ed : (encC ⟨key, val, gone⟩ ++ rest).drop 2 = key ++ ((if gone then k4 4294967295 else k4 val.length ++ val) ++ rest) := by simp [encC, k2]
 have ed2 : (encC ⟨key, val, gone⟩ ++ rest).drop (2 + key.length) = (if gone then k4 4294967295 else k4 val.length ++ val) ++ rest := by
  rw [← List.drop_drop, ed]; simp
 have ekey : ((encC ⟨key, val, gone⟩ ++ rest).drop 2).take key.length = key := by rw [ed]; simp
 simp only [] at hl; unfold nxC; rw [n2, ekey]; cases gone with
 | true =>
   have hv0 : val = [] := hg rfl; subst hv0; have e4 : ((encC ⟨key, [], true⟩ ++ rest).drop (2 + key.length)).take 4 = k4 4294967295 := by rw [ed2]; simp [k4]
   rw [e4, kNum_k4 (by decide)]; simp only [if_true] at hl; rw [if_neg (by rw [List.length_append]; omega), if_neg (by omega), if_neg (by rw [List.length_append]; omega), if_pos rfl, hl]; rfl
 | false =>
   have e4 : ((encC ⟨key, val, false⟩ ++ rest).drop (2 + key.length)).take 4 = k4 val.length := by rw [ed2]; simp [k4]
   have e6 : (encC ⟨key, val, false⟩ ++ rest).drop (6 + key.length) = val ++ rest := by
    rw [show 6 + key.length = (2 + key.length) + 4 from by omega, ← List.drop_drop, ed2]; simp [k4]
   rw [e4, kNum_k4 (by omega), e6]; simp only [Bool.false_eq_true, if_false] at hl; rw [if_neg (by rw [List.length_append]; omega), if_neg (by omega), if_neg (by rw [List.length_append]; omega), if_neg (by omega), if_neg (by rw [List.length_append]; omega), hl]; congr 3; simp
theorem KByt.take {bs : List Int} (h : KByt bs) (n : Nat) : KByt (bs.take n) := fun c hc => h c (List.mem_of_mem_take hc)
theorem KByt.drop {bs : List Int} (h : KByt bs) (n : Nat) : KByt (bs.drop n) := fun c hc => h c (List.mem_of_mem_drop hc)
theorem nxC_ok {b : List Int} (hb : KByt b) {c : Ch} {n : Nat} (h : nxC b = some (c, n)) : b.take n = encC c ∧ n ≤ b.length ∧ 7 ≤ n ∧ okK c ∧ (c.gone = true → c.val = []) ∧ KByt c.key ∧ KByt c.val ∧ c.val.length < 4294967295 := by
 unfold nxC at h; by_cases g1 : b.length < 2
 · rw [if_pos g1] at h; cases h
 rw [if_neg g1] at h; obtain ⟨s, hs⟩ : ∃ s, s = kNum (b.take 2) := ⟨_, rfl⟩
 have q2 := k2_kNum (bs := b.take 2) (by rw [List.length_take]; omega) (hb.take 2); rw [← hs] at h q2; by_cases g2 : s < 1 ∨ 64 < s
 · rw [if_pos g2] at h; cases h
 rw [if_neg g2] at h; by_cases g3 : b.length < 6 + s
 · rw [if_pos g3] at h; cases h
 rw [if_neg g3] at h; obtain ⟨t, ht⟩ : ∃ t, t = kNum ((b.drop (2 + s)).take 4) := ⟨_, rfl⟩
 have q4 := k4_kNum (bs := (b.drop (2 + s)).take 4) (by rw [List.length_take, List.length_drop]; omega) ((hb.drop _).take 4); rw [← ht] at h q4; have hkl : ((b.drop 2).take s).length = s := by rw [List.length_take, List.length_drop]; omega
 have hsplit : b.take (6 + s) = k2 s ++ ((b.drop 2).take s ++ k4 t) := by
  rw [q2.1, q4.1, show 6 + s = 2 + (s + 4) from by omega, List.take_add, List.take_add, List.drop_drop]
 by_cases g4 : t = 4294967295
 · rw [if_pos g4] at h
   injection h with h
   simp only [Prod.mk.injEq] at h; obtain ⟨rfl, rfl⟩ := h; refine ⟨?_, by omega, by omega, ⟨by show 1 ≤ ((b.drop 2).take s).length; omega, by show ((b.drop 2).take s).length ≤ 64; omega⟩, fun _ => rfl, (hb.drop 2).take s, (fun c hc => by cases hc), (by show (0 : Nat) < _; omega)⟩; rw [hsplit, g4]; simp [encC, hkl]
 · rw [if_neg g4] at h
   by_cases g5 : b.length - (6 + s) < t
   · rw [if_pos g5] at h; cases h
   rw [if_neg g5] at h; injection h with h
   simp only [Prod.mk.injEq] at h; obtain ⟨rfl, rfl⟩ := h; have hvl : ((b.drop (6 + s)).take t).length = t := by rw [List.length_take, List.length_drop]; omega
   refine ⟨?_, by omega, by omega, ⟨by show 1 ≤ ((b.drop 2).take s).length; omega, by show ((b.drop 2).take s).length ≤ 64; omega⟩, fun h => by simp at h, (hb.drop 2).take s, (hb.drop _).take t, by show ((b.drop (6 + s)).take t).length < _; have := q4.2; omega⟩; rw [List.take_add, hsplit]; simp [encC, hkl, hvl]
def unK : Nat → List Int → Option (List Ch)
 | 0, b => if b = [] then some [] else none
 | k + 1, b => if b = [] then some [] else
   match nxC b with
   | none => none
   | some (c, n) => (unK k (b.drop n)).map (c :: ·)
theorem encK_cons (c : Ch) (l : List Ch) : encK (c :: l) = encC c ++ encK l := rfl
theorem unK_enc : ∀ (l : List Ch), (∀ c ∈ l, okK c ∧ c.val.length < 4294967295 ∧ (c.gone = true → c.val = [])) → ∀ k, (encK l).length ≤ k → unK k (encK l) = some l := by
 intro l; induction l with
 | nil => intro _ k _; cases k <;> simp [unK, encK]
 | cons c l ih =>
   intro h k hk; have hc := h c (by simp); have hl := encC_length c; have hlen : (encK (c :: l)).length = (encC c).length + (encK l).length := by rw [encK_cons, List.length_append]
   cases k with
   | zero => omega
   | succ k =>
     have hne : encK (c :: l) ≠ [] := fun e => by rw [e] at hlen; simp at hlen; omega
     unfold unK; rw [if_neg hne, encK_cons, nxC_enc c hc.1 hc.2.1 hc.2.2]; simp only []; rw [show (encC c ++ encK l).drop (encC c).length = encK l from by simp, ih (fun x hx => h x (by simp [hx])) k (by omega)]; rfl
theorem unK_ok : ∀ (k : Nat) (b : List Int) (l : List Ch), KByt b → unK k b = some l → encK l = b ∧ ∀ c ∈ l, okK c ∧ (c.gone = true → c.val = []) ∧ KByt c.key ∧ KByt c.val ∧ c.val.length < 4294967295 := by
 intro k; induction k with
 | zero =>
   intro b l hb h; unfold unK at h; by_cases e : b = []
   · rw [if_pos e] at h
     injection h with h
     subst h; exact ⟨by rw [e]; rfl, fun c hc => by cases hc⟩
   · rw [if_neg e] at h; cases h
 | succ k ih =>
   intro b l hb h; unfold unK at h; by_cases e : b = []
   · rw [if_pos e] at h
     injection h with h
     subst h; exact ⟨by rw [e]; rfl, fun c hc => by cases hc⟩
   · rw [if_neg e] at h
     cases hn : nxC b with
     | none => rw [hn] at h; cases h
     | some q =>
       obtain ⟨c, n⟩ := q; rw [hn] at h; simp only [] at h; cases hr : unK k (b.drop n) with
       | none => rw [hr] at h; cases h
       | some r =>
         rw [hr] at h; injection h with h
         subst h; have q := nxC_ok hb hn; have i := ih (b.drop n) r (hb.drop n) hr; refine ⟨?_, fun x hx => ?_⟩
         · rw [encK_cons, i.1, ← q.1, List.take_append_drop]
         · rcases List.mem_cons.1 hx with rfl | hx
           · exact ⟨q.2.2.2.1, q.2.2.2.2.1, q.2.2.2.2.2.1, q.2.2.2.2.2.2.1, q.2.2.2.2.2.2.2⟩
           · exact i.2 x hx
end Go.Proofs.YtconkienlcegaaaGreatDoor
namespace Go.Proofs.YtconkienlcegaaaGreatDoor
open Go.RowKit Go.Maps Go.Joins
set_option linter.unusedSimpArgs false
set_option linter.unusedVariables false
theorem kNum_snoc (bs : List Int) (c : Int) : kNum (bs ++ [c]) = kNum bs * 256 + c.toNat := by unfold kNum; rw [List.foldl_append]; rfl
theorem kNum_take {l : List Int} {j : Nat} {c : Int} (h : l[j]? = some c) : kNum (l.take (j + 1)) = kNum (l.take j) * 256 + c.toNat := by
 rw [List.take_add_one, h]; exact kNum_snoc _ _
theorem kNum_lt : ∀ (bs : List Int), KByt bs → kNum bs < 256 ^ bs.length := by
 intro bs; generalize hk : bs.length = k; induction k generalizing bs with
 | zero =>
   intro _; have : bs = [] := List.eq_nil_of_length_eq_zero hk; subst this; decide
 | succ k ih =>
   intro hby
   obtain ⟨r, c, rfl⟩ : ∃ r c, bs = r ++ [c] := by
    have hne : bs ≠ [] := by intro e; subst e; simp at hk
    exact ⟨bs.dropLast, bs.getLast hne, (List.dropLast_concat_getLast hne).symm⟩
   have hc := hby c (by simp); have := ih r (by simpa using hk) (fun x hx => hby x (by simp [hx])); rw [kNum_snoc, Nat.pow_succ]; omega
theorem kor256 (y : Nat) (x : Int) (hy : y < 72057594037927936) (h0 : 0 ≤ x) (h1 : x < 256) : bits .or .u64 ((y : Int) * 256) x = ((y * 256 + x.toNat : Nat) : Int) := by
 obtain ⟨x, rfl⟩ := Int.eq_ofNat_of_zero_le h0; have hx : x < 256 := by omega
 have e0 : ((y : Int) * 256) = ((y * 256 : Nat) : Int) := by simp
 have hsh : y * 2 ^ 8 ||| x = y * 2 ^ 8 + x := by rw [← Nat.shiftLeft_eq, ← Nat.shiftLeft_add_eq_or_of_lt (by omega)]
 rw [e0, bits_or_u64_nat _ _ (by omega) (by omega), show y * 256 = y * 2 ^ 8 from by omega, hsh]; simp
set_option maxRecDepth 100000 in
set_option maxHeartbeats 8000000 in
theorem knum_any {w : World} {a : Option Addr} {cap : Nat} {bs : List Int} (h : BytesV w (.slice a bs.length cap) bs) (hb : KByt bs) (hl : bs.length ≤ 7) :
 Calls Tryz.prog 125 #[.slice a bs.length cap] w fun e w' => e = .returned (.int .u64 ((kNum bs : Nat) : Int)) ∧ w' = w := by
 have HS : Hid (BytesV w (.slice a bs.length cap) bs) := h; have HB : Hid (KByt bs) := hb; obtain ⟨N, hN⟩ : ∃ N, N = bs.length := ⟨_, rfl⟩
 rw [← hN] at hl HS ⊢; have HN : Hid (N = bs.length) := hN; clear h hb hN; go_enter Tryz.func125, Tryz.ntmps125; go_wp2_with fail; go_loopw [3, 8] (fun i1 i2 wr => ∃ (j : Nat), j ≤ N ∧ i1 = .int .u64 (kNum (bs.take j) : Nat) ∧ i2 = .int .i64 j ∧ wr = w) (fun _ i2 _ => N - (intOf i2).toNat)
 case atStart => exact ⟨0, Nat.zero_le _, by simp [kNum], rfl, rfl⟩
 case round =>
  obtain ⟨j, hj, rfl, rfl, hwr⟩ := hrel; subst hwr; by_cases hjk : j < N
  · have hki : (j : Int) < N := by omega
    obtain ⟨y, hy⟩ : ∃ y, bs[j]? = some y := ⟨_, List.getElem?_eq_getElem (by have := HN.out; omega)⟩
    have hyb := HB.out y (List.mem_of_getElem? hy); obtain ⟨g, o, rfl, kc⟩ := HS.out.at hy; have hst := kNum_take hy; have hlt := kNum_lt (bs.take j) (HB.out.take j); have hlj : (bs.take j).length = j := by rw [List.length_take]; have := HN.out; omega
    rw [hlj] at hlt; have hp : (256 : Nat) ^ j ≤ 256 ^ 6 := Nat.pow_le_pow_right (by decide) (by omega); have hp6 : (256 : Nat) ^ 6 = 281474976710656 := by decide
    obtain ⟨s, hs⟩ : ∃ s, s = kNum (bs.take j) := ⟨_, rfl⟩
    rw [← hs] at hst hlt ⊢; have hsb : s < 281474976710656 := by omega
    have hor := kor256 s y (by omega) hyb.1 hyb.2; have hw1 : IntKind.u64.wrap ((s : Int) * 256) = (s : Int) * 256 := by rw [IntKind.wrap_u64]; omega
    have hw2 : IntKind.u64.wrap y = y := by rw [IntKind.wrap_u64]; omega
    have HST : Hid (kNum (bs.take (j + 1)) = s * 256 + y.toNat) := hst; clear hst hs hy hlt hp hp6 hlj; go_wp2; go_roundw
    case rel => exact ⟨j + 1, by omega, by rw [HST.out]; congr 1; have := hyb.1; omega, by go_num, by trivial⟩
    case measure => simp [intOf]; omega
  · have hki : ¬ (j : Int) < N := by omega
    have hE : kNum (bs.take j) = kNum bs := by rw [List.take_of_length_le (by have := HN.out; omega)]
    rw [hE]; go_wp2; go_ret; exact ⟨rfl, rfl⟩
end Go.Proofs.YtconkienlcegaaaGreatDoor
