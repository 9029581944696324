/- X6, X7, X7b, X7c, WJ1 -/
import Derived.Test.YtconkienlcegaaaGreatDoorGX5
import Derived.Test.YtconkienlcegaaaGreatDoorGDD
import Derived.Test.YtconkienlcegaaaGreatDoorGWN0
namespace Go.Proofs.YtconkienlcegaaaGreatDoor
open Go.RowKit Go.Maps Go.Joins Go.Sort
set_option linter.unusedVariables false
set_option linter.unusedSimpArgs false
def absG (Q : QS) : PL := ⟨Q.gs.map (·.1), Q.rs.map (·.2), (Q.gs.getLastD (0, 0, 0)).2.2, false, Q.most⟩
structure S3 (w : World) (R0 : RS) (wr : World) (br bq : Nat) (R : RS) (Q : QS) (ro : Int) (v8 : Value) (l : List Int) : Prop where
 ref : RefIs wr br R
 hb : HB R ro
 log : QIs wr bq Q
 brq : Q.br = br
 apart : ∀ b, Q.own b ≠ 0 → R.own b = 0
 row : wr.ownsRow 0 3 1 v8 l.length (vI l)
 ro8 : ∀ b, v8.ownBlock = some b → R.own b = 0 ∧ Q.own b = 0
 os : wr.os = w.os
 tape : wr.tape = w.tape
 output : wr.output = w.output
 size : w.heap.size ≤ wr.heap.size
 blk : ∀ b, b < w.heap.size → R0.own b = 0 → wr.heap[b]? = w.heap[b]? ∧ R.own b = 0 ∧ Q.own b = 0
theorem S3.qoff {w : World} {R0 : RS} {wr : World} {br bq : Nat} {R : RS} {Q : QS} {ro : Int} {v8 : Value} {l : List Int} (h : S3 w R0 wr br bq R Q ro v8 l) {b : Nat} (hb : R.own b ≠ 0) : Q.own b = 0 := by
 cases h1 : Q.own b with
 | zero => rfl
 | succ n => exact absurd (h.apart b (by rw [h1]; simp)) hb
theorem S3.kept {w : World} {R0 : RS} {wr w' : World} {br bq : Nat} {R : RS} {Q : QS} {ro : Int} {v8 : Value} {l : List Int} (h : S3 w R0 wr br bq R Q ro v8 l) (hk : ∀ b, b < wr.heap.size → (R.own b ≠ 0 ∨ Q.own b ≠ 0 ∨ v8.ownBlock = some b ∨ b < w.heap.size) → w'.heap[b]? = wr.heap[b]?) (hs : wr.heap.size ≤ w'.heap.size) (ho : w'.os = wr.os ∧ w'.tape = wr.tape ∧ w'.output = wr.output) : S3 w R0 w' br bq R Q ro v8 l := by
 have hz := h.size; exact ⟨h.ref.kept (fun b hb => hk b (h.ref.own_lt hb) (Or.inl hb)) hs, h.hb, h.log.kept (fun b hb => hk b (h.log.own_lt hb) (Or.inr (Or.inl hb))) hs, h.brq, h.apart, ownsRow_heap h.row (fun b hb => hk b (h.row.lt b hb).2 (Or.inr (Or.inr (Or.inl hb)))), h.ro8, ho.1.trans h.os, ho.2.1.trans h.tape, ho.2.2.trans h.output, by omega, fun b hb h0 => ⟨(hk b (by omega) (Or.inr (Or.inr (Or.inr hb)))).trans (h.blk b hb h0).1, (h.blk b hb h0).2⟩⟩
theorem S3.below {w : World} {R0 : RS} {wr w' : World} {br bq : Nat} {R : RS} {Q : QS} {ro : Int} {v8 : Value} {l : List Int} (h : S3 w R0 wr br bq R Q ro v8 l) (hb : Below wr.heap.size wr w') : S3 w R0 w' br bq R Q ro v8 l :=
 h.kept (fun b h1 _ => hb.block b h1) hb.size ⟨hb.os, hb.tape, hb.output⟩
theorem S3.disk {w : World} {R0 : RS} {wr w' : World} {br bq : Nat} {R R' : RS} {Q : QS} {ro : Int} {v8 : Value} {l : List Int} (h : S3 w R0 wr br bq R Q ro v8 l) (hD : RefIs w' br R') (hF : RFr wr w' R R') (hB : HB R' ro) : S3 w R0 w' br bq R' Q ro v8 l := by
 have hz := h.size; have hz2 := hF.size; exact ⟨hD, hB, h.log.kept (fun b hb => hF.block b (h.log.own_lt hb) (h.apart b hb)) hF.size, h.brq, fun b hb => hF.own b (h.log.own_lt hb) (h.apart b hb), ownsRow_heap h.row (fun b hb => hF.block b (h.row.lt b hb).2 (h.ro8 b hb).1), fun b hb => ⟨hF.own b (h.row.lt b hb).2 (h.ro8 b hb).1, (h.ro8 b hb).2⟩, hF.os.trans h.os, hF.tape.trans h.tape, hF.output.trans h.output, by omega, fun b hb h0 => ⟨(hF.block b (by omega) (h.blk b hb h0).2.1).trans (h.blk b hb h0).1, hF.own b (by omega) (h.blk b hb h0).2.1, (h.blk b hb h0).2.2⟩⟩
theorem S3.logged {w : World} {R0 : RS} {wr w' : World} {br bq : Nat} {R : RS} {Q Q' : QS} {ro : Int} {v8 : Value} {l : List Int} {p : Option Nat} (h : S3 w R0 wr br bq R Q ro v8 l) (hL : QIs w' bq Q') (hF : QFr wr w' Q Q' p) (hq : Q'.br = Q.br) (hp : ∀ b, p = some b → w.heap.size ≤ b ∧ R.own b = 0 ∧ v8.ownBlock ≠ some b) : S3 w R0 w' br bq R Q' ro v8 l := by
 have hz := h.size; have hz2 := hF.size; refine ⟨h.ref.kept (fun b hb => hF.block b (h.ref.own_lt hb) (h.qoff hb)) hF.size, h.hb, hL, hq.trans h.brq, fun b hb => ?_, ownsRow_heap h.row (fun b hb => hF.block b (h.row.lt b hb).2 (h.ro8 b hb).2), fun b hb => ⟨(h.ro8 b hb).1, hF.own b (h.row.lt b hb).2 (h.ro8 b hb).2 (fun e => (hp b e).2.2 hb)⟩, hF.os.trans h.os, hF.tape.trans h.tape, hF.output.trans h.output, by omega, fun b hb h0 => ⟨(hF.block b (by omega) (h.blk b hb h0).2.2).trans (h.blk b hb h0).1, (h.blk b hb h0).2.1, hF.own b (by omega) (h.blk b hb h0).2.2 (fun e => by have := (hp b e).1; omega)⟩⟩; rcases Nat.lt_or_ge b wr.heap.size with h1 | h1
 · by_cases h2 : Q.own b = 0
   · by_cases h3 : p = some b
     · exact (hp b h3).2.1
     · exact absurd (hF.own b h1 h2 h3) hb
   · exact h.apart b h2
 · exact h.ref.fresh b h1
structure S4 (w : World) (R0 : RS) (wr : World) (br bq : Nat) (R : RS) (Q : QS) (ro : Int) (v8 : Value) (l : List Int) (b18 : Nat) (v16 : Value) (bs : List Int) (s : Int × Int × Int) : Prop where
 s3 : S3 w R0 wr br bq R Q ro v8 l
 seg : wr.heap[b18]? = some (.cells #[.int .i64 s.1, .int .i64 s.2.1, .int .i64 s.2.2] 149)
 o18 : R.own b18 = 0 ∧ Q.own b18 = 0 ∧ w.heap.size ≤ b18 ∧ v8.ownBlock ≠ some b18
 bv : BytesV wr v16 bs
 o16 : ∀ b, dBlock v16 bs = some b → R.own b = 0 ∧ Q.own b = 0 ∧ b ≠ b18 ∧ b < wr.heap.size
theorem S4.below {w : World} {R0 : RS} {wr w' : World} {br bq : Nat} {R : RS} {Q : QS} {ro : Int} {v8 : Value} {l : List Int} {b18 : Nat} {v16 : Value} {bs : List Int} {s : Int × Int × Int} (h : S4 w R0 wr br bq R Q ro v8 l b18 v16 bs s) (hb : Below wr.heap.size wr w') : S4 w R0 w' br bq R Q ro v8 l b18 v16 bs s :=
 ⟨h.s3.below hb, (hb.block b18 (heap_lt h.seg)).trans h.seg, h.o18, h.bv.keep (fun b hb' => hb.block b (h.o16 b hb').2.2.2), fun b hb' => ⟨(h.o16 b hb').1, (h.o16 b hb').2.1, (h.o16 b hb').2.2.1, Nat.lt_of_lt_of_le (h.o16 b hb').2.2.2 hb.size⟩⟩
theorem S4.store {w : World} {R0 : RS} {wr w' : World} {br bq : Nat} {R : RS} {Q : QS} {ro : Int} {v8 : Value} {l : List Int} {b18 : Nat} {v16 : Value} {bs : List Int} {s s' : Int × Int × Int} (h : S4 w R0 wr br bq R Q ro v8 l b18 v16 bs s) (hk : ∀ b, b ≠ b18 → w'.heap[b]? = wr.heap[b]?) (hseg : w'.heap[b18]? = some (.cells #[.int .i64 s'.1, .int .i64 s'.2.1, .int .i64 s'.2.2] 149)) (hs : w'.heap.size = wr.heap.size) (ho : w'.os = wr.os ∧ w'.tape = wr.tape ∧ w'.output = wr.output) : S4 w R0 w' br bq R Q ro v8 l b18 v16 bs s' := by
 have h18 := h.o18; refine ⟨h.s3.kept (fun b hb hc => hk b (fun e => ?_)) (by omega) ho, hseg, h.o18, h.bv.keep (fun b hb => hk b (h.o16 b hb).2.2.1), fun b hb => ⟨(h.o16 b hb).1, (h.o16 b hb).2.1, (h.o16 b hb).2.2.1, by rw [hs]; exact (h.o16 b hb).2.2.2⟩⟩; subst e; rcases hc with hc | hc | hc | hc
 · exact hc h18.1
 · exact hc h18.2.1
 · exact h18.2.2.2 hc
 · omega
theorem S4.add {w : World} {R0 : RS} {wr w5 w7 : World} {br bq : Nat} {R : RS} {Q : QS} {ro : Int} {v8 : Value} {l : List Int} {b18 : Nat} {v16 : Value} {bs : List Int} {s : Int × Int × Int} (h : S4 w R0 wr br bq R Q ro v8 l b18 v16 bs s) (hb : Below wr.heap.size wr w5) {xv : Value} {x : List Int} (hx : w5.ownsRow wr.heap.size 5 1 xv x.length (vB x)) {v : Value} (hg : w5.grownBy w7 Q.bv.ownBlock) (ho : w7.ownsRow 0 23 1 v (Q.rs ++ [(xv, x)]).length ((Q.rs ++ [(xv, x)]).map (·.1))) (ha : v.ownBlock = Q.bv.ownBlock ∨ ∀ b, v.ownBlock = some b → w5.heap.size ≤ b) :
 S4 w R0 (w7.setCell ⟨bq, 4, none⟩ v) br bq R (addB Q v (xv, x)) ro v8 l b18 v16 bs s := by
 have h5 := h.below hb; have hbv : BytesV w5 xv x := BytesV.of_own hx; have hxb : ∀ b, dBlock xv x = some b → wr.heap.size ≤ b ∧ b < w5.heap.size := fun b hb' => hx.lt b (dBlock_own hb')
 have hw := h.s3.size; have hfr : ∀ b, dBlock xv x = some b → R.own b = 0 ∧ Q.own b = 0 := fun b hb' => ⟨h.s3.ref.fresh b (hxb b hb').1, h.s3.log.fresh b (hxb b hb').1⟩
 obtain ⟨q1, q2⟩ := h5.s3.log.putB (p := (xv, x)) hbv (cap_own hx) (fun b hb' => ⟨(hfr b hb').2, (hxb b hb').2⟩) hg ho ha; have q3 := h5.s3.logged q1 q2 rfl (fun b hb' => ⟨by have := (hxb b hb').1; omega, (hfr b hb').1, fun e => by have := (h.s3.row.lt b e).2; have := (hxb b hb').1; omega⟩); have hz := q2.size; refine ⟨q3, (q2.block b18 (heap_lt h5.seg) h5.o18.2.1).trans h5.seg, ⟨h.o18.1, q2.own b18 (heap_lt h5.seg) h.o18.2.1 (fun e => by have := (hxb b18 e).1; have := heap_lt h.seg; omega), h.o18.2.2⟩, h5.bv.keep (fun b hb' => q2.block b (h5.o16 b hb').2.2.2 (h5.o16 b hb').2.1), fun b hb' => ⟨(h.o16 b hb').1, q2.own b (h5.o16 b hb').2.2.2 (h.o16 b hb').2.1 (fun e => by have := (hxb b e).1; have := (h.o16 b hb').2.2.2; omega), (h.o16 b hb').2.2.1, by have := (h5.o16 b hb').2.2.2; omega⟩⟩
theorem info92b : (Tryz.prog.info? 149).map (fun i => (i.zero, i.size, i.bytes)) = some (some (.agg #[.int .i64 0, .int .i64 0, .int .i64 0]), 3, 24) := by kernel_rfl
theorem info92c : ∃ i, Tryz.prog.info? 149 = some i ∧ i.zero = some (.agg #[.int .i64 0, .int .i64 0, .int .i64 0]) ∧ i.size = 3 ∧ i.bytes = 24 := by
 have h := info92b; cases hi : Tryz.prog.info? 149 with
 | none => rw [hi] at h; cases h
 | some i =>
   rw [hi] at h; injection h with h
   injection h with h1 h2
   injection h2 with h2 h3
   exact ⟨i, rfl, h1, h2, h3⟩
def newQ (br : Nat) (most : Int) (bq : Nat) : QS := ⟨br, logB, most, .slice none 0 0, [], .slice none 0 0, [], 0, false, fun b => if b = bq then 1 else 0⟩
theorem s3_start {w w2 wr : World} {br : Nat} {R : RS} {ro : Int} {v8 : Value} {l : List Int} (h : RefIs w br R) (hb : HB R ro) (hw : Below w.heap.size w w2) (hn : Ni w2 wr v8 l) (most : Int) :
 S3 w R (wr.alloc (.cells (qC (newQ br most wr.heap.size)) 104)) br wr.heap.size R (newQ br most wr.heap.size) ro v8 l := by
 have hz1 := hw.size; have hz2 := hn.bel.size; have hbl : Below w.heap.size w wr := hw.trans (hn.bel.mono hw.size); have hal : Below wr.heap.size wr (wr.alloc (.cells (qC (newQ br most wr.heap.size)) 104)) := by go_grown
 have hbb : Below w.heap.size w (wr.alloc (.cells (qC (newQ br most wr.heap.size)) 104)) := hbl.trans (hal.mono hbl.size); have ho : ∀ b, b ≠ wr.heap.size → (newQ br most wr.heap.size).own b = 0 := fun b hb => if_neg hb
 refine ⟨(h.below hbl).below hal, hb, ⟨heap_alloc_new _ _, if_pos rfl, World.ownsRow_nil _ _ _ _, fun b hb => (by cases hb), World.ownsRow_nil _ _ _ _, fun b hb => (by cases hb), fun p hp => (by cases hp), fun p hp => (by cases hp), fun b hb => ?_, fun p hp => (by cases hp)⟩, rfl, fun b hb => ?_, ownsRow_le (hn.own.alloc _) (Nat.zero_le _), fun b hb => ?_, hbb.os, hbb.tape, hbb.output, hbb.size, fun b hb h0 => ⟨hbb.block b hb, h0, ho b (by omega)⟩⟩
 · have : wr.heap.size < b := by simp at hb; omega
   exact ho b (by omega)
 · have e : b = wr.heap.size := Classical.byContradiction fun hne => hb (ho b hne)
   rw [e]; exact h.fresh _ (by omega)
 · have h1 := hn.own.lt b hb
   exact ⟨h.fresh b (by omega), ho b (by omega)⟩
structure R3 (w : World) (R : RS) (wr : World) (br bq : Nat) (ro : Int) (v8 : Value) (l : List Int) (most : Int) (k : Nat) (R1 : RS) (Q1 : QS) : Prop where
 s3 : S3 w R wr br bq R1 Q1 ro v8 l
 nm : Q1.nm = logB
 mo : Q1.most = most
 fs : Q1.gs.map (·.1) = l.take k
 frm : 0 < k → Q1.frm = l.headD 0
 frm0 : k = 0 → Q1.frm = 0
 n : R1.n ≤ R.n + 2 * k
 rs : Q1.rs.length ≤ k * 1073741824
 go : ∀ c A' P', OpX (absQ R1) (absG Q1) (l.drop k) c A' P' → OpX (absQ R) ⟨[], [], 0, false, most⟩ l c A' P'
theorem r3_start {w w2 wr : World} {br : Nat} {R : RS} {ro : Int} {v8 : Value} {l : List Int} (h : RefIs w br R) (hb : HB R ro) (hw : Below w.heap.size w w2) (hn : Ni w2 wr v8 l) (most : Int) : R3 w R (wr.alloc (.cells (qC (newQ br most wr.heap.size)) 104)) br wr.heap.size ro v8 l most 0 R (newQ br most wr.heap.size) :=
 ⟨s3_start h hb hw hn most, rfl, rfl, rfl, fun h => absurd h (by omega), fun _ => rfl, by omega, Nat.zero_le _, fun c A' P' h => h⟩
def RpZ (w : World) (br : Nat) (R : RS) (ro most : Int) (e : Ending) (w' : World) : Prop := ∃ c bq R' Q' v8 l, e = .returned (.tuple #[if c = 0 then .pointer (some ⟨bq, 0, none⟩) else .pointer none, .int .i64 c]) ∧ S3 w R w' br bq R' Q' ro v8 l ∧ OpX (absQ R) ⟨[], [], 0, false, most⟩ (srtI (numsOf (nmS (absR R.A)))) c (absQ R') (absG Q') ∧ (c = 0 → Q'.nm = logB ∧ Q'.frm = (absG Q').fst)
theorem r3_read {w : World} {R : RS} {wr : World} {br bq : Nat} {ro : Int} {v8 : Value} {l : List Int} {most : Int} {k : Nat} {R1 : RS} {Q1 : QS} (h : R3 w R wr br bq ro v8 l most k R1 Q1) (hst : R.n + 2 * k < 4611686018427387900) (n : Int) :
 Calls Tryz.prog 79 #[.pointer (some ⟨br, 0, none⟩), .string (fileB logB n)] wr fun e w' => ∃ v bs R2, e = .returned (.tuple #[v, .int .i64 (dRead (absQ R1) (fileB logB n)).1]) ∧ w'.ownsRow wr.heap.size 5 1 v bs.length (vB bs) ∧ bs = dBytes (absQ R1) (fileB logB n) ∧ S3 w R w' br bq R2 Q1 ro v8 l ∧ absQ R2 = (dRead (absQ R1) (fileB logB n)).2 ∧ R2.n ≤ R1.n + 1 ∧ wr.heap.size ≤ w'.heap.size ∧ (∀ b, v.ownBlock = some b → R2.own b = 0) := by
 have hn := h.n; have hsz := fileB_size n; refine (h_read2 h.s3.ref h.s3.hb (fileB logB n) (by omega)).mono ?_; rintro e w' ⟨v, bs, rfl, ho, hbs, R2, hD, hF, hS, hown⟩; have hS' : HS R1 R2 (rstS R1 (fileB logB n) (fileB logB n)).down (rstS R1 (fileB logB n) (fileB logB n)).n (gL (rstE R1 (fileB logB n) (fileB logB n)) (absR R1.A) (absR R1.A)) := by
  have e : gL (rstE R1 (fileB logB n) (fileB logB n)) (absR R1.A) (absR R1.A) = absR R1.A := by unfold gL; split <;> rfl
  rw [e]; exact hS
 have ha := hs_abs (e := eFind (absR R1.A) (fileB logB n)) hS'; have hB := h.s3.hb.next (e := eFind (absR R1.A) (fileB logB n)) hS' h.s3.hb.wf h.s3.hb.srt (by omega); have hst2 := (dDo_steps (absQ R1) (fileB logB n) (eFind (absR R1.A) (fileB logB n)) (absR R1.A)).2; refine ⟨v, bs, R2, by rw [hI_abs R1 (fileB logB n) (eFind (absR R1.A) (fileB logB n)) (absR R1.A)]; rfl, ho, ?_, h.s3.disk hD hF hB, ha, ?_, hF.size, hown⟩
 · rw [hbs, rstE_abs]
   rfl
 · have : R2.n = (dDo (absQ R1) (fileB logB n) (eFind (absR R1.A) (fileB logB n)) (absR R1.A)).2.steps := congrArg DA.steps ha
   have e2 : (absQ R1).steps = R1.n := rfl; omega
structure R4 (w : World) (R : RS) (wr : World) (br bq : Nat) (ro : Int) (v8 : Value) (l : List Int) (most : Int) (k : Nat) (R2 : RS) (Q1 : QS) (x : Int) (b18 : Nat) (v16 : Value) (bs : List Int) (n : Int) (m : Nat) (rs : List (List Int)) (Q2 : QS) : Prop where
 s4 : S4 w R wr br bq R2 Q2 ro v8 l b18 v16 bs (n, (rs.length : Int), (m : Int))
 took : Took bs m rs
 gs : Q2.gs = Q1.gs
 frm : Q2.frm = x
 nm : Q2.nm = Q1.nm
 mo : Q2.most = Q1.most
 rs : Q2.rs.map (·.2) = Q1.rs.map (·.2) ++ rs
theorem trunc_q {w : World} {R : RS} {wr : World} {br bq : Nat} {ro : Int} {v8 : Value} {l : List Int} {R2 : RS} {Q2 : QS} (h : S3 w R wr br bq R2 Q2 ro v8 l) (hst : R2.n < 4611686018427387902) (n x : Int) :
 Calls Tryz.prog 82 #[.pointer (some ⟨br, 0, none⟩), .string (fileB logB n), .int .i64 x] wr fun e w' => ∃ R3, e = .returned (.int .i64 (dTru (absQ R2) (fileB logB n) x).1) ∧ S3 w R w' br bq R3 Q2 ro v8 l ∧ absQ R3 = (dTru (absQ R2) (fileB logB n) x).2 ∧ R3.n ≤ R2.n + 1 ∧ RFr wr w' R2 R3 := by
 have hsz := fileB_size n; refine (h_trunc h.ref h.hb (fileB logB n) (by omega) x).mono ?_; rintro e w' ⟨rfl, R3, hD, hF, hS⟩; have ha := hs_abs (e := eTru (absR R2.A) (fileB logB n) x) hS; have hB := h.hb.next (e := eTru (absR R2.A) (fileB logB n) x) hS (tru_wf h.hb.srt h.hb.wf _ _) (srt_tru h.hb.srt _ _) (by omega); have hst2 := (dDo_steps (absQ R2) (fileB logB n) (eTru (absR R2.A) (fileB logB n) x) (lTru (absR R2.A) (fileB logB n) x)).2; refine ⟨R3, by rw [hI_abs R2 (fileB logB n) (eTru (absR R2.A) (fileB logB n) x) (lTru (absR R2.A) (fileB logB n) x)]; rfl, h.disk hD hF hB, ha, ?_, hF⟩; have : R3.n = (dDo (absQ R2) (fileB logB n) (eTru (absR R2.A) (fileB logB n) x) (lTru (absR R2.A) (fileB logB n) x)).2.steps := congrArg DA.steps ha; have e2 : (absQ R2).steps = R2.n := rfl; omega
theorem row_cell_i {w : World} {base : Nat} {xa : Option Addr} {n xc : Nat} {l : List Int} (h : w.ownsRow base 3 1 (.slice xa n xc) l.length (vI l)) {j : Nat} {x : Int} (hj : l[j]? = some x) : ∃ g, xa = some ⟨g, 0, none⟩ ∧ w.cell? ⟨g, j, none⟩ = some (.int .i64 x) := by
 rcases id h.2 with ⟨_, h0⟩ | ⟨g, cap, cur, e, _⟩
 · have : l = [] := List.eq_nil_of_length_eq_zero (by simpa [vI] using h0)
   rw [this] at hj; simp at hj
 · injection e with e1 e2 e3
   subst e1; have := h.cells (g := g) rfl j (.int .i64 x) (by unfold vI; rw [List.getElem?_map, hj]; rfl); rw [Addr.add_lit] at this; exact ⟨g, rfl, by simpa using this⟩
theorem R3.below {w : World} {R : RS} {wr w' : World} {br bq : Nat} {ro : Int} {v8 : Value} {l : List Int} {most : Int} {k : Nat} {R1 : RS} {Q1 : QS} (h : R3 w R wr br bq ro v8 l most k R1 Q1) (hb : Below wr.heap.size wr w') : R3 w R w' br bq ro v8 l most k R1 Q1 :=
 ⟨h.s3.below hb, h.nm, h.mo, h.fs, h.frm, h.frm0, h.n, h.rs, h.go⟩
theorem drop_cons {l : List Int} {j : Nat} {n : Int} (hn : l[j]? = some n) : l.drop j = n :: l.drop (j + 1) := by
 have h1 := List.getElem?_eq_some_iff.1 hn; rw [List.drop_eq_getElem_cons h1.1, h1.2]
theorem R3.err {w : World} {R : RS} {wr w' : World} {br bq : Nat} {ro : Int} {v8 : Value} {l : List Int} {most : Int} {k : Nat} {R1 R2 : RS} {Q1 Q2 : QS} {A' : DA} {P' : PL} (h : R3 w R wr br bq ro v8 l most k R1 Q1) (hl : l = srtI (numsOf (nmS (absR R.A)))) {n c : Int} (hn : l[k]? = some n) (hc : ¬ c = 0) (hx : LdX (absQ R1) (absG Q1) n (l.drop (k + 1)).isEmpty c (absQ R2) P') (hs : S3 w R w' br bq R2 Q2 ro v8 l) : RpZ w br R ro most (.returned (.tuple #[.pointer none, .int .i64 c])) w' := by
 refine ⟨c, bq, R2, Q2, v8, l, by rw [if_neg hc], hs, ?_, fun h0 => absurd h0 hc⟩; rw [← hl]; refine h.go c _ _ ?_; rw [drop_cons hn]; exact ⟨c, absQ R2, P', hx, Or.inl ⟨hc, rfl, rfl⟩⟩
theorem R3.fst {w : World} {R : RS} {wr : World} {br bq : Nat} {ro : Int} {v8 : Value} {l : List Int} {most : Int} {k : Nat} {R1 : RS} {Q1 : QS} (h : R3 w R wr br bq ro v8 l most k R1 Q1) (hk : 0 < k) : (absG Q1).fst = l.headD 0 := by
 show (Q1.gs.map (·.1)).headD 0 = _; rw [h.fs]; cases l with
 | nil => simp
 | cons a r =>
   cases k with
   | zero => omega
   | succ k => rfl
theorem R3.en {w : World} {R : RS} {wr : World} {br bq : Nat} {ro : Int} {v8 : Value} {l : List Int} {most : Int} {k : Nat} {R1 : RS} {Q1 : QS} (h : R3 w R wr br bq ro v8 l most k R1 Q1) (hk : 0 < k) : (absG Q1).en = l.headD 0 + Q1.rs.length := by
 unfold PL.en; rw [h.fst hk]; show l.headD 0 + ((Q1.rs.map (·.2)).length : Int) = _; rw [List.length_map]
def sgSz (w : World) (b : Nat) : Nat := match w.cell? ⟨b, 2, none⟩ with
 | some v => (intOf v).toNat
 | none => 0
theorem R4.size {w : World} {R : RS} {wr : World} {br bq : Nat} {ro : Int} {v8 : Value} {l : List Int} {most : Int} {k : Nat} {R2 : RS} {Q1 : QS} {x : Int} {b18 : Nat} {v16 : Value} {bs : List Int} {n : Int} {m : Nat} {rs : List (List Int)} {Q2 : QS} (h : R4 w R wr br bq ro v8 l most k R2 Q1 x b18 v16 bs n m rs Q2) : sgSz wr b18 = m := by
 unfold sgSz; rw [cell_of_block h.s4.seg]; simp [intOf]
theorem R3.next {w : World} {R : RS} {wr w' : World} {br bq : Nat} {ro : Int} {v8 : Value} {l : List Int} {most : Int} {k : Nat} {R1 R3' : RS} {Q1 Q2 : QS} {n : Int} {m : Nat} {rs : List (List Int)} {v : Value} (h : R3 w R wr br bq ro v8 l most k R1 Q1) (hn : l[k]? = some n) (hs : S3 w R w' br bq R3' (addL Q2 v (Q1.gs ++ [(n, (rs.length : Int), (m : Int))])) ro v8 l) (hfrm : Q2.frm = l.headD 0) (hnm : Q2.nm = Q1.nm) (hmo : Q2.most = Q1.most) (hrs : Q2.rs.map (·.2) = Q1.rs.map (·.2) ++ rs) (hrl : rs.length ≤ 1073741824) (hst : R3'.n ≤ R1.n + 2)
 (hx : LdX (absQ R1) (absG Q1) n (l.drop (k + 1)).isEmpty 0 (absQ R3') { absG Q1 with fs := (absG Q1).fs ++ [n], rs := (absG Q1).rs ++ rs, size := m }) : R3 w R w' br bq ro v8 l most (k + 1) R3' (addL Q2 v (Q1.gs ++ [(n, (rs.length : Int), (m : Int))])) := by
 have h1 := h.n; have h2 := h.rs; have e2 : Q2.rs.length = Q1.rs.length + rs.length := by
  have := congrArg List.length hrs; rw [List.length_append, List.length_map, List.length_map] at this; exact this
 have hG : absG (addL Q2 v (Q1.gs ++ [(n, (rs.length : Int), (m : Int))])) = { absG Q1 with fs := (absG Q1).fs ++ [n], rs := (absG Q1).rs ++ rs, size := m } := by
  unfold absG addL; dsimp only; rw [hrs, hmo, List.map_append, List.getLastD_eq_getLast?]; simp
 refine ⟨hs, hnm.trans h.nm, hmo.trans h.mo, ?_, fun _ => hfrm, fun h => (by omega), by omega, ?_, fun c A' P' ho => ?_⟩
 · show (Q1.gs ++ [(n, (rs.length : Int), (m : Int))]).map (·.1) = _
   rw [List.map_append, h.fs, List.take_add_one, hn]; rfl
 · show Q2.rs.length ≤ _
   omega
 · refine h.go c A' P' ?_
   rw [drop_cons hn]; rw [hG] at ho; exact ⟨0, _, _, hx, Or.inr ⟨rfl, ho⟩⟩
theorem nx_size (bs : List Int) : (nx bs).2.1 ≤ 65548 := by
 unfold nx; split
 · simp
 · split
   · simp
   · split
     · simp
     · split
       · simp
       · rename_i h1 _ _
         simp
         simp at h1; omega
theorem dBytes_q {R : RS} {ro : Int} (h : HB R ro) (s : ByteArray) : (dBytes (absQ R) s).length ≤ 1073741824 := by
 unfold dBytes; split
 · cases hf : fT (absQ R).l (nb s) with
   | none => simp
   | some p =>
     have h3 := (del_here (p := p) rfl (fT_mem hf).1).2; have h4 := h.wf.sum; have h5 := h.r0; have h6 : (absQ R).l = absR R.A := rfl; rw [h6] at h3; show p.2.1.length ≤ _; omega
 · simp
theorem r4_start {w : World} {R : RS} {w4 w7 : World} {br bq : Nat} {ro : Int} {v8 : Value} {l : List Int} {most : Int} {k : Nat} {R2 : RS} {Q1 Qb : QS} {x : Int} {v16 : Value} {bs : List Int} {n : Int} (h : S3 w R w7 br bq R2 Qb ro v8 l) (ho : w7.ownsRow w4.heap.size 5 1 v16 bs.length (vB bs)) (h4 : ∀ b, w4.heap.size ≤ b → Q1.own b = 0) (hown : ∀ b, v16.ownBlock = some b → R2.own b = 0) (hq : Qb.gs = Q1.gs ∧ Qb.rs = Q1.rs ∧ Qb.nm = Q1.nm ∧ Qb.most = Q1.most ∧ Qb.own = Q1.own) (hx : Qb.frm = x) :
 R4 w R (w7.alloc (.cells #[.int .i64 n, .int .i64 0, .int .i64 0] 149)) br bq ro v8 l most k R2 Q1 x w7.heap.size v16 bs n 0 [] Qb := by
 have hal : Below w7.heap.size w7 (w7.alloc (.cells #[.int .i64 n, .int .i64 0, .int .i64 0] 149)) := by go_grown
 have hz := h.size; refine ⟨⟨h.below hal, heap_alloc_new _ _, ⟨h.ref.fresh _ (Nat.le_refl _), h.log.fresh _ (Nat.le_refl _), hz, fun e => ?_⟩, (BytesV.of_own ho).keep (fun b hb => hal.block b (ho.lt b (dBlock_own hb)).2), fun b hb => ?_⟩, Took.nil, hq.1, hx, hq.2.2.1, hq.2.2.2.1, by rw [hq.2.1]; simp⟩
 · have := (h.row.lt _ e).2
   omega
 · have h1 := ho.lt b (dBlock_own hb)
   refine ⟨hown b (dBlock_own hb), by rw [hq.2.2.2.2]; exact h4 b h1.1, by omega, by simp; omega⟩
theorem R4.next {w : World} {R : RS} {wr w5 w7 : World} {br bq : Nat} {ro : Int} {v8 : Value} {l : List Int} {most : Int} {k : Nat} {R2 : RS} {Q1 : QS} {x : Int} {b18 : Nat} {v16 : Value} {bs : List Int} {n : Int} {m : Nat} {rs : List (List Int)} {Q2 : QS} (h : R4 w R wr br bq ro v8 l most k R2 Q1 x b18 v16 bs n m rs Q2) (hm : m < bs.length) (hx : (nx (bs.drop m)).1 = 0) (hb : Below wr.heap.size wr w5) {xv : Value} (ho5 : w5.ownsRow wr.heap.size 5 1 xv (nx (bs.drop m)).2.2.length (vB (nx (bs.drop m)).2.2)) {v : Value} (hg : w5.grownBy w7 Q2.bv.ownBlock) (ho : w7.ownsRow 0 23 1 v (Q2.rs ++ [(xv, (nx (bs.drop m)).2.2)]).length ((Q2.rs ++ [(xv, (nx (bs.drop m)).2.2)]).map (·.1))) (ha : v.ownBlock = Q2.bv.ownBlock ∨ ∀ b, v.ownBlock = some b → w5.heap.size ≤ b) (r z : Int) (hr : r = (rs.length : Int) + 1) (hz : z = (m : Int) + (nx (bs.drop m)).2.1) :
 R4 w R (((w7.setCell ⟨bq, 4, none⟩ v).setCell ⟨b18, 1, none⟩ (.int .i64 r)).setCell ⟨b18, 2, none⟩ (.int .i64 z)) br bq ro v8 l most k R2 Q1 x b18 v16 bs n (m + (nx (bs.drop m)).2.1) (rs ++ [(nx (bs.drop m)).2.2]) (addB Q2 v (xv, (nx (bs.drop m)).2.2)) := by
 have h1 := h.s4.add hb ho5 hg ho ha; have h2 : S4 w R (((w7.setCell ⟨bq, 4, none⟩ v).setCell ⟨b18, 1, none⟩ (.int .i64 r)).setCell ⟨b18, 2, none⟩ (.int .i64 z)) br bq R2 (addB Q2 v (xv, (nx (bs.drop m)).2.2)) ro v8 l b18 v16 bs (n, r, z) := by
  refine h1.store (s' := (n, r, z)) (fun b hb' => (Below.heap_setCell _ _ _ _ hb').trans (Below.heap_setCell _ _ _ _ hb')) ?_ (by simp) ⟨rfl, rfl, rfl⟩; rw [block_setCell (block_setCell h1.seg _) _]; simp
 refine ⟨?_, h.took.step hm hx, h.gs, h.frm, h.nm, h.mo, ?_⟩
 · have e1 : ((rs ++ [(nx (bs.drop m)).2.2]).length : Int) = r := by rw [hr, List.length_append]; simp
   have e2 : ((m + (nx (bs.drop m)).2.1 : Nat) : Int) = z := by rw [hz]; simp
   rw [e1, e2]; exact h2
 · show (Q2.rs ++ [(xv, (nx (bs.drop m)).2.2)]).map (·.2) = _
   rw [List.map_append, h.rs, List.append_assoc]; rfl
end Go.Proofs.YtconkienlcegaaaGreatDoor
namespace Go.Proofs.YtconkienlcegaaaGreatDoor
open Go.RowKit Go.Maps Go.Joins
set_option linter.unusedSimpArgs false
set_option linter.unusedVariables false
set_option maxRecDepth 100000 in
set_option maxHeartbeats 8000000 in
theorem lappend_nil_f {w : World} {bd bl : Nat} {S : DS} {L : LS} {ro : Int} {va : Option Addr} {vc : Nat} {bs : List Int} (hI : AppIn w bd bl S L ro va vc bs) (hfs : L.fs = []) (hs : (pSync (absD S) (absL L)).1 = 0) (hok : ¬ (dApp (pSync (absD S) (absL L)).2.1 (fileB logB (endL L)) (frameB bs)).1 = 0) :
 Calls Tryz.prog 83 #[.pointer (some ⟨bl, 0, none⟩), .slice va bs.length vc] w fun e w' => ∃ c S' L', e = .returned (.int .i64 c) ∧ PR w w' bd bl S L ro (pApp (absD S) (absL L) bs) c S' L' := by
 have HI : Hid (AppIn w bd bl S L ro va vc bs) := hI; have hlen0 := hI.len; have hbig : ¬ 65536 < bs.length := by omega
 have hbg : (absL L).bg = true := by rw [absL_bg]; rw [hfs]; rfl
 obtain ⟨z1, z2, z3, z4⟩ := pSync_rest (absD S) (absL L); have hbg2 : (pSync (absD S) (absL L)).2.2.bg = true := by
  unfold PL.bg at hbg ⊢; rw [z1, z3, z4]; exact hbg
 have hnum : pNum (pSync (absD S) (absL L)).2.2 = endL L := by
  unfold pNum; rw [if_pos hbg2]; unfold PL.en PL.fst; rw [z1, z2]; exact absL_en L
 have hr : pApp (absD S) (absL L) bs = ((dApp (pSync (absD S) (absL L)).2.1 (fileB logB (endL L)) (frameB bs)).1, (dApp (pSync (absD S) (absL L)).2.1 (fileB logB (endL L)) (frameB bs)).2, (pSync (absD S) (absL L)).2.2) := by
  unfold pApp; rw [if_neg hbig, if_pos hbg, if_pos hs]; unfold pPut; rw [hnum, if_neg hok]
 have HR : Hid _ := hr; have HB2 : Hid ((pSync (absD S) (absL L)).2.2.bg = true ∧ pNum (pSync (absD S) (absL L)).2.2 = endL L) := ⟨hbg2, hnum⟩
 clear hr hbg hI hlen0 hbig z1 z2 z3 z4 hbg2 hnum; obtain ⟨fa, fc, c3, c5, c2⟩ := HI.out.cells; rw [hfs] at c3; clear hfs; have hblen := HI.out.len; have hb2 : decide ((65536 : Int) < bs.length) = false := by simp; omega
 clear hblen; go_enter Tryz.func83, Tryz.ntmps83; go_wp2_with fail; go_quiet (fail); go_wp2_with (first
  | (go_at_call 42
     refine Calls.mono (end_any (HI.out.dl.log.below (below_drewN' _ _)) HI.out.ln) ?_; rintro e w1 ⟨rfl, hm1⟩; have H1 : Hid (DL w1 bd bl S L ro ∧ F3 w w1 S L S L) := (by
      obtain ⟨m, rfl⟩ := hm1; exact ⟨HI.out.dl.below ⟨rfl, rfl, rfl, Nat.le_refl _, fun _ _ => rfl⟩, F3.below ⟨rfl, rfl, rfl, Nat.le_refl _, fun _ _ => rfl⟩⟩)
     clear hm1)
  | (go_at_call 84
     refine Calls.mono (lsync_any H1.out.1 HI.out.uns HI.out.nm (by have := HI.out.st; omega)) ?_; rintro e w2 ⟨c, S2, L2, rfl, hPR, e1, e2, e3, e4⟩; have H2 : Hid (DL w2 bd bl S2 L2 ro ∧ F3 w w2 S L S2 L2 ∧ absD S2 = (pSync (absD S) (absL L)).2.1 ∧ absL L2 = (pSync (absD S) (absL L)).2.2 ∧ L2.nm = logB ∧ L2.fs = L.fs ∧ L2.rs = L.rs ∧ L2.size = L.size ∧ c = (pSync (absD S) (absL L)).1 ∧ L2.most = L.most) := ⟨hPR.dl, H1.out.2.trans hPR.f3, hPR.disk, hPR.log, hPR.nm.trans HI.out.nm, e1, e2, e3, hPR.code, e4⟩
     have hc1 : (c == 0) = true := by rw [H2.out.2.2.2.2.2.2.2.2.1]; simpa using hs
     clear hPR e1 e2 e3 e4 H1))
 have HAS : Hid (absD S2 = (pSync (absD S) (absL L)).2.1) := H2.out.2.2.1; have HL2 : Hid (BytesV w2 (.slice va bs.length vc) bs) := HI.out.bv.f3 H2.out.2.1 HI.out.off; refine wp_region_held_drew (S := fun w' => w'.heap[bl]? = some (.cells (lC L2) 141)) (by kernel_rfl) H2.out.1.log.log (fun hHeld => ?_); refine tk 0 (.pointer (some ⟨bl, 0, none⟩)) (fun w9 hSw => ?_) hHeld ?_
 · go_simp
 simp only [sm]; refine tk 1 (.pointer (some ⟨bl, 0, none⟩)) (fun w9 hSw => ?_) hHeld ?_
 · go_simp
 simp only [sm]; refine tk 2 (.pointer (some ⟨bl, 0, none⟩)) (fun w9 hSw => ?_) hHeld ?_
 · go_simp
 simp only [sm]; refine tk 3 (.pointer (some ⟨bd, 0, none⟩)) (fun w9 hSw => ?_) hHeld ?_
 · have hc : w9.cell? ⟨bl, 0, none⟩ = some (.pointer (some ⟨bd, 0, none⟩)) := (cell_of_block hSw 0).trans (by show some (Value.pointer (some ⟨L2.bd, 0, none⟩)) = _; rw [H2.out.1.bdq])
   go_simp
 simp only [sm]; refine tk 4 (.pointer (some ⟨bl, 0, none⟩)) (fun w9 hSw => ?_) hHeld ?_
 · go_simp
 simp only [sm]; refine tk 5 (.pointer (some ⟨bl, 0, none⟩)) (fun w9 hSw => ?_) hHeld ?_
 · go_simp
 simp only [sm]; refine tk 6 (.pointer (some ⟨bl, 1, none⟩)) (fun w9 hSw => ?_) hHeld ?_
 · go_simp
 simp only [sm]; refine tk 7 (.string logB) (fun w9 hSw => ?_) hHeld ?_
 · have hc : w9.cell? ⟨bl, 1, none⟩ = some (.string logB) := (cell_of_block hSw 1).trans (by show some (Value.string L2.nm) = _; rw [H2.out.2.2.2.2.1])
   go_simp
 simp only [sm]; refine tk 8 (.int .i64 (endL L)) (fun w9 hSw => ?_) hHeld ?_
 · go_simp
 simp only [sm]; refine tk 10 (.slice va bs.length vc) (fun w9 hSw => ?_) hHeld ?_
 · go_simp
 simp only [sm]; refine rd 9 (fun K hK => ?_); have H3 : DL w2.drew bd bl S2 L2 ro ∧ F3 w w2.drew S L S2 L2 ∧ BytesV w2.drew (.slice va bs.length vc) bs := ⟨H2.out.1.below ⟨rfl, rfl, rfl, Nat.le_refl _, fun _ _ => rfl⟩, H2.out.2.1.trans (F3.below ⟨rfl, rfl, rfl, Nat.le_refl _, fun _ _ => rfl⟩), HL2.out.keep (fun _ _ => rfl)⟩
 generalize w2.drew = w3 at hHeld H3 ⊢; go_simp; refine Calls.mono (file_any H3.1.vars logB (by decide) (endL L)) ?_; rintro e w4 ⟨rfl, hb4⟩; have H4 : DL w4 bd bl S2 L2 ro ∧ F3 w w4 S L S2 L2 ∧ BytesV w4 (.slice va bs.length vc) bs := ⟨H3.1.below hb4, H3.2.1.trans (F3.below hb4), H3.2.2.below hb4⟩
 have hH4 : w4.heap[bl]? = some (.cells (lC L2) 141) := H4.1.log.log; clear H3 hHeld hb4; go_wp2_with fail; refine hK.out _ _ hH4 (fun hHeld => ?_); clear hK K; try simp only [sm]
 refine rd 11 (fun K hK => ?_); have hblen := HI.out.len; go_simp; refine Calls.mono (frame_any H4.1.vars.half va vc bs H4.2.2 (by omega)) ?_; rintro e w5 ⟨v5, rfl, ho5, hb5⟩; obtain ⟨a5, k5, rfl⟩ := row_form ho5; have H5 : DL w5 bd bl S2 L2 ro ∧ F3 w w5 S L S2 L2 ∧ BytesV w5 (.slice va bs.length vc) bs ∧ BytesV w5 (.slice a5 (frameB bs).length k5) (frameB bs) ∧ (∀ b, dBlock (.slice a5 (frameB bs).length k5) (frameB bs) = some b → S2.role b = .none) := ⟨H4.1.below hb5, H4.2.1.trans (F3.below hb5), H4.2.2.below hb5, BytesV.of_own ho5, fun b hb => H4.1.disk.fresh b (ho5.lt b (dBlock_own hb)).1⟩
 have hH5 : w5.heap[bl]? = some (.cells (lC L2) 141) := H5.1.log.log; clear H4 hHeld hH4 ho5 hb5; go_wp2_with fail; refine hK.out _ _ hH5 (fun hHeld => ?_); clear hK K; try simp only [sm]
 refine rd 12 (fun K hK => ?_); have HW := app_wf H5.1.disk.srt H5.1.gb.wf (fileB logB (endL L)) (frameB bs); have HFL : Hid ((frameB bs).length = 12 + bs.length) := frameB_length bs; have hst2 : S2.steps < 4611686018427387903 := by have h1 := dDo_steps (absD S) (fileB logB (absL L).last) (eFind (absP S) (fileB logB (absL L).last)) (lSync (absP S) (fileB logB (absL L).last)); have h2 := HI.out.st; have h3 := pSync_steps (absD S) (absL L); have h4 : S2.steps = (pSync (absD S) (absL L)).2.1.steps := congrArg DA.steps H2.out.2.2.1; have h5 : (absD S).steps = S.steps := rfl; omega
 go_simp; refine Calls.mono (g_append H5.1.disk H5.1.gb (fileB logB (endL L)) (by have := fileB_size ((endL L)); omega) a5 k5 (frameB bs) H5.2.2.2.1 H5.2.2.2.2 (by have := HFL.out; omega)) ?_
 rintro e w6 ⟨rfl, S6, hD, hF, hG⟩; obtain ⟨K1, K2⟩ := H5.1.disked hD hF (H5.1.gb.next (e := eApp (absP S2) ro (fileB logB (endL L)) (frameB bs)) hG HW hst2); have hro : (absD S2).room = ro := H5.1.gb.rm; have hrr : ∀ X, (dDo (absD S2) (fileB logB (endL L)) (eApp (absP S2) ro (fileB logB (endL L)) (frameB bs)) (lApp (absP S2) ro (fileB logB (endL L)) (frameB bs))) = X → dApp (absD S2) (fileB logB (endL L)) (frameB bs) = X := fun X hX => by rw [← hX]; unfold dApp; rw [hro]; rfl
 have H6 : Hid (DL w6 bd bl S6 L2 ro ∧ F3 w w6 S L S6 L2 ∧ BytesV w6 (.slice va bs.length vc) bs ∧ absD S6 = (dApp (absD S2) (fileB logB (endL L)) (frameB bs)).2) := ⟨K1, H5.2.1.trans K2, HI.out.bv.f3 (H5.2.1.trans K2) HI.out.off, by rw [hrr _ rfl]; exact gs_abs hG⟩
 have hE := gI_abs S2 (fileB logB (endL L)) (eApp (absP S2) ro (fileB logB (endL L)) (frameB bs)) (lApp (absP S2) ro (fileB logB (endL L)) (frameB bs)); rw [hE, ← hrr _ rfl]; have hH6 : w6.heap[bl]? = some (.cells (lC L2) 141) := K1.log.log; obtain ⟨d, hd⟩ : ∃ d, d = (dApp (absD S2) (fileB logB (endL L)) (frameB bs)).1 := ⟨_, rfl⟩
 have HDD : Hid (d = (dApp (absD S2) (fileB logB (endL L)) (frameB bs)).1) := hd; rw [← hd]; have hd1 : (d == 0) = false := by rw [hd]; rw [HAS.out]; simpa using hok
 clear H5 hHeld hH5 hD hF hG K1 K2 hE hd HW hrr hro; go_wp2_with fail; refine hK.out _ _ hH6 (fun hHeld => ?_); clear hK K; try simp only [sm]
 refine tk 13 (.int .i64 d) (fun w9 hSw => ?_) hHeld ?_
 · go_simp
 simp only [sm]; refine wpAnyH_done (by kernel_rfl) ?_ _; go_wp2; go_ret; rw [HR.out]; exact ⟨d, S6, L2, rfl, ⟨by rw [HDD.out, HAS.out], by rw [H6.out.2.2.2, HAS.out], H2.out.2.2.2.1, H6.out.1, H6.out.2.1, H2.out.2.2.2.2.1.trans HI.out.nm.symm⟩⟩
end Go.Proofs.YtconkienlcegaaaGreatDoor
