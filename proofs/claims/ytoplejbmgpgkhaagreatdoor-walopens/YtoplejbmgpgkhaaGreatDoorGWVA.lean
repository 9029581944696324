/- X7, X7b, X7c, WV9, WVA -/
import Derived.Test.YtoplejbmgpgkhaaGreatDoorGX6
import Derived.Test.YtoplejbmgpgkhaaGreatDoorGMN
namespace Go.Proofs.YtoplejbmgpgkhaaGreatDoor
open Go.RowKit Go.Maps Go.Joins Go.Sort
set_option linter.unusedVariables false
set_option linter.unusedSimpArgs false
theorem info92b : (Tryz.prog.info? 92).map (fun i => (i.zero, i.size, i.bytes)) = some (some (.agg #[.int .i64 0, .int .i64 0, .int .i64 0]), 3, 24) := by kernel_rfl
theorem info92c : ∃ i, Tryz.prog.info? 92 = some i ∧ i.zero = some (.agg #[.int .i64 0, .int .i64 0, .int .i64 0]) ∧ i.size = 3 ∧ i.bytes = 24 := by
  have h := info92b
  cases hi : Tryz.prog.info? 92 with
  | none => rw [hi] at h; cases h
  | some i =>
    rw [hi] at h
    injection h with h
    injection h with h1 h2
    injection h2 with h2 h3
    exact ⟨i, rfl, h1, h2, h3⟩
def newQ (br : Nat) (most : Int) (bq : Nat) : QS := ⟨br, logB, most, .slice none 0 0, [], .slice none 0 0, [], 0, false, fun b => if b = bq then 1 else 0⟩
theorem s3_start {w w2 wr : World} {br : Nat} {R : RS} {ro : Int} {v8 : Value} {l : List Int} (h : RefIs w br R) (hb : HB R ro) (hw : Below w.heap.size w w2) (hn : Ni w2 wr v8 l) (most : Int) :
    S3 w R (wr.alloc (.cells (qC (newQ br most wr.heap.size)) 89)) br wr.heap.size R (newQ br most wr.heap.size) ro v8 l := by
  have hz1 := hw.size
  have hz2 := hn.bel.size
  have hbl : Below w.heap.size w wr := hw.trans (hn.bel.mono hw.size)
  have hal : Below wr.heap.size wr (wr.alloc (.cells (qC (newQ br most wr.heap.size)) 89)) := by go_grown
  have hbb : Below w.heap.size w (wr.alloc (.cells (qC (newQ br most wr.heap.size)) 89)) := hbl.trans (hal.mono hbl.size)
  have ho : ∀ b, b ≠ wr.heap.size → (newQ br most wr.heap.size).own b = 0 := fun b hb => if_neg hb
  refine ⟨(h.below hbl).below hal, hb, ⟨heap_alloc_new _ _, if_pos rfl, World.ownsRow_nil _ _ _ _, fun b hb => (by cases hb), World.ownsRow_nil _ _ _ _, fun b hb => (by cases hb), fun p hp => (by cases hp), fun p hp => (by cases hp), fun b hb => ?_⟩, rfl, fun b hb => ?_, ownsRow_le (hn.own.alloc _) (Nat.zero_le _), fun b hb => ?_, hbb.os, hbb.tape, hbb.output, hbb.size, fun b hb h0 => ⟨hbb.block b hb, h0, ho b (by omega)⟩⟩
  · have : wr.heap.size < b := by simp at hb; omega
    exact ho b (by omega)
  · have e : b = wr.heap.size := Classical.byContradiction fun hne => hb (ho b hne)
    rw [e]
    exact h.fresh _ (by omega)
  · have h1 := hn.own.lt b hb
    exact ⟨h.fresh b (by omega), ho b (by omega)⟩
/-- Between files. -/
structure R3 (w : World) (R : RS) (wr : World) (br bq : Nat) (ro : Int) (v8 : Value) (l : List Int) (most : Int) (k : Nat) (R1 : RS) (Q1 : QS) : Prop where
  s3 : S3 w R wr br bq R1 Q1 ro v8 l
  nm : Q1.nm = logB
  mo : Q1.most = most
  fs : Q1.gs.map (·.1) = l.take k
  frm : 0 < k → Q1.frm = l.headD 0
  frm0 : k = 0 → Q1.frm = 0
  n : R1.n ≤ R.n + 2 * k
  rs : Q1.rs.length ≤ k * 1073741824
  go : ∀ c A' P', OpX (absQ R1) (absG Q1) (l.drop k) c A' P' → OpX (absQ R) ⟨[], [], 0, false, most⟩ l c A' P'
theorem r3_start {w w2 wr : World} {br : Nat} {R : RS} {ro : Int} {v8 : Value} {l : List Int} (h : RefIs w br R) (hb : HB R ro) (hw : Below w.heap.size w w2) (hn : Ni w2 wr v8 l) (most : Int) : R3 w R (wr.alloc (.cells (qC (newQ br most wr.heap.size)) 89)) br wr.heap.size ro v8 l most 0 R (newQ br most wr.heap.size) :=
  ⟨s3_start h hb hw hn most, rfl, rfl, rfl, fun h => absurd h (by omega), fun _ => rfl, by omega, Nat.zero_le _, fun c A' P' h => h⟩
/-- What Open gives. -/
def RpZ (w : World) (br : Nat) (R : RS) (ro most : Int) (e : Ending) (w' : World) : Prop := ∃ c bq R' Q' v8 l, e = .returned (.tuple #[if c = 0 then .pointer (some ⟨bq, 0, none⟩) else .pointer none, .int .i64 c]) ∧ S3 w R w' br bq R' Q' ro v8 l ∧ OpX (absQ R) ⟨[], [], 0, false, most⟩ (srtI (numsOf (nmS (absR R.A)))) c (absQ R') (absG Q') ∧ (c = 0 → Q'.nm = logB ∧ Q'.frm = (absG Q').fst)
/-- The file is read. -/
theorem r3_read {w : World} {R : RS} {wr : World} {br bq : Nat} {ro : Int} {v8 : Value} {l : List Int} {most : Int} {k : Nat} {R1 : RS} {Q1 : QS} (h : R3 w R wr br bq ro v8 l most k R1 Q1) (hst : R.n + 2 * k < 4611686018427387900) (n : Int) :
    Calls Tryz.prog 53 #[.pointer (some ⟨br, 0, none⟩), .string (fileB logB n)] wr fun e w' => ∃ v bs R2, e = .returned (.tuple #[v, .int .i64 (dRead (absQ R1) (fileB logB n)).1]) ∧ w'.ownsRow wr.heap.size 5 1 v bs.length (vB bs) ∧ bs = dBytes (absQ R1) (fileB logB n) ∧ S3 w R w' br bq R2 Q1 ro v8 l ∧ absQ R2 = (dRead (absQ R1) (fileB logB n)).2 ∧ R2.n ≤ R1.n + 1 ∧ wr.heap.size ≤ w'.heap.size ∧ (∀ b, v.ownBlock = some b → R2.own b = 0) := by
  have hn := h.n
  have hsz := fileB_size n
  refine (h_read2 h.s3.ref h.s3.hb (fileB logB n) (by omega)).mono ?_
  rintro e w' ⟨v, bs, rfl, ho, hbs, R2, hD, hF, hS, hown⟩
  have hS' : HS R1 R2 (rstS R1 (fileB logB n) (fileB logB n)).down (rstS R1 (fileB logB n) (fileB logB n)).n (gL (rstE R1 (fileB logB n) (fileB logB n)) (absR R1.A) (absR R1.A)) := by
    have e : gL (rstE R1 (fileB logB n) (fileB logB n)) (absR R1.A) (absR R1.A) = absR R1.A := by unfold gL; split <;> rfl
    rw [e]
    exact hS
  have ha := hs_abs (e := eFind (absR R1.A) (fileB logB n)) hS'
  have hB := h.s3.hb.next (e := eFind (absR R1.A) (fileB logB n)) hS' h.s3.hb.wf h.s3.hb.srt (by omega)
  have hst2 := (dDo_steps (absQ R1) (fileB logB n) (eFind (absR R1.A) (fileB logB n)) (absR R1.A)).2
  refine ⟨v, bs, R2, by rw [hI_abs R1 (fileB logB n) (eFind (absR R1.A) (fileB logB n)) (absR R1.A)]; rfl, ho, ?_, h.s3.disk hD hF hB, ha, ?_, hF.size, hown⟩
  · rw [hbs, rstE_abs]
    rfl
  · have : R2.n = (dDo (absQ R1) (fileB logB n) (eFind (absR R1.A) (fileB logB n)) (absR R1.A)).2.steps := congrArg DA.steps ha
    have e2 : (absQ R1).steps = R1.n := rfl
    omega
/-- Within a file. -/
structure R4 (w : World) (R : RS) (wr : World) (br bq : Nat) (ro : Int) (v8 : Value) (l : List Int) (most : Int) (k : Nat) (R2 : RS) (Q1 : QS) (x : Int) (b18 : Nat) (v16 : Value) (bs : List Int) (n : Int) (m : Nat) (rs : List (List Int)) (Q2 : QS) : Prop where
  s4 : S4 w R wr br bq R2 Q2 ro v8 l b18 v16 bs (n, (rs.length : Int), (m : Int))
  took : Took bs m rs
  gs : Q2.gs = Q1.gs
  frm : Q2.frm = x
  nm : Q2.nm = Q1.nm
  mo : Q2.most = Q1.most
  rs : Q2.rs.map (·.2) = Q1.rs.map (·.2) ++ rs
theorem trunc_q {w : World} {R : RS} {wr : World} {br bq : Nat} {ro : Int} {v8 : Value} {l : List Int} {R2 : RS} {Q2 : QS} (h : S3 w R wr br bq R2 Q2 ro v8 l) (hst : R2.n < 4611686018427387902) (n x : Int) :
    Calls Tryz.prog 54 #[.pointer (some ⟨br, 0, none⟩), .string (fileB logB n), .int .i64 x] wr fun e w' => ∃ R3, e = .returned (.int .i64 (dTru (absQ R2) (fileB logB n) x).1) ∧ S3 w R w' br bq R3 Q2 ro v8 l ∧ absQ R3 = (dTru (absQ R2) (fileB logB n) x).2 ∧ R3.n ≤ R2.n + 1 ∧ RFr wr w' R2 R3 := by
  have hsz := fileB_size n
  refine (h_trunc h.ref h.hb (fileB logB n) (by omega) x).mono ?_
  rintro e w' ⟨rfl, R3, hD, hF, hS⟩
  have ha := hs_abs (e := eTru (absR R2.A) (fileB logB n) x) hS
  have hB := h.hb.next (e := eTru (absR R2.A) (fileB logB n) x) hS (tru_wf h.hb.srt h.hb.wf _ _) (srt_tru h.hb.srt _ _) (by omega)
  have hst2 := (dDo_steps (absQ R2) (fileB logB n) (eTru (absR R2.A) (fileB logB n) x) (lTru (absR R2.A) (fileB logB n) x)).2
  refine ⟨R3, by rw [hI_abs R2 (fileB logB n) (eTru (absR R2.A) (fileB logB n) x) (lTru (absR R2.A) (fileB logB n) x)]; rfl, h.disk hD hF hB, ha, ?_, hF⟩
  have : R3.n = (dDo (absQ R2) (fileB logB n) (eTru (absR R2.A) (fileB logB n) x) (lTru (absR R2.A) (fileB logB n) x)).2.steps := congrArg DA.steps ha
  have e2 : (absQ R2).steps = R2.n := rfl
  omega
end Go.Proofs.YtoplejbmgpgkhaaGreatDoor
namespace Go.Proofs.YtoplejbmgpgkhaaGreatDoor
open Go.RowKit Go.Maps Go.Joins Go.Sort
set_option linter.unusedVariables false
set_option linter.unusedSimpArgs false
theorem row_cell_i {w : World} {base : Nat} {xa : Option Addr} {n xc : Nat} {l : List Int} (h : w.ownsRow base 3 1 (.slice xa n xc) l.length (vI l)) {j : Nat} {x : Int} (hj : l[j]? = some x) : ∃ g, xa = some ⟨g, 0, none⟩ ∧ w.cell? ⟨g, j, none⟩ = some (.int .i64 x) := by
  rcases id h.2 with ⟨_, h0⟩ | ⟨g, cap, cur, e, _⟩
  · have : l = [] := List.eq_nil_of_length_eq_zero (by simpa [vI] using h0)
    rw [this] at hj
    simp at hj
  · injection e with e1 e2 e3
    subst e1
    have := h.cells (g := g) rfl j (.int .i64 x) (by unfold vI; rw [List.getElem?_map, hj]; rfl)
    rw [Addr.add_lit] at this
    exact ⟨g, rfl, by simpa using this⟩
theorem R3.below {w : World} {R : RS} {wr w' : World} {br bq : Nat} {ro : Int} {v8 : Value} {l : List Int} {most : Int} {k : Nat} {R1 : RS} {Q1 : QS} (h : R3 w R wr br bq ro v8 l most k R1 Q1) (hb : Below wr.heap.size wr w') : R3 w R w' br bq ro v8 l most k R1 Q1 :=
  ⟨h.s3.below hb, h.nm, h.mo, h.fs, h.frm, h.frm0, h.n, h.rs, h.go⟩
theorem drop_cons {l : List Int} {j : Nat} {n : Int} (hn : l[j]? = some n) : l.drop j = n :: l.drop (j + 1) := by
  have h1 := List.getElem?_eq_some_iff.1 hn
  rw [List.drop_eq_getElem_cons h1.1, h1.2]
/-- A file ends Open. -/
theorem R3.err {w : World} {R : RS} {wr w' : World} {br bq : Nat} {ro : Int} {v8 : Value} {l : List Int} {most : Int} {k : Nat} {R1 R2 : RS} {Q1 Q2 : QS} {A' : DA} {P' : PL} (h : R3 w R wr br bq ro v8 l most k R1 Q1) (hl : l = srtI (numsOf (nmS (absR R.A)))) {n c : Int} (hn : l[k]? = some n) (hc : ¬ c = 0) (hx : LdX (absQ R1) (absG Q1) n (l.drop (k + 1)).isEmpty c (absQ R2) P') (hs : S3 w R w' br bq R2 Q2 ro v8 l) : RpZ w br R ro most (.returned (.tuple #[.pointer none, .int .i64 c])) w' := by
  refine ⟨c, bq, R2, Q2, v8, l, by rw [if_neg hc], hs, ?_, fun h0 => absurd h0 hc⟩
  rw [← hl]
  refine h.go c _ _ ?_
  rw [drop_cons hn]
  exact ⟨c, absQ R2, P', hx, Or.inl ⟨hc, rfl, rfl⟩⟩
theorem R3.fst {w : World} {R : RS} {wr : World} {br bq : Nat} {ro : Int} {v8 : Value} {l : List Int} {most : Int} {k : Nat} {R1 : RS} {Q1 : QS} (h : R3 w R wr br bq ro v8 l most k R1 Q1) (hk : 0 < k) : (absG Q1).fst = l.headD 0 := by
  show (Q1.gs.map (·.1)).headD 0 = _
  rw [h.fs]
  cases l with
  | nil => simp
  | cons a r =>
    cases k with
    | zero => omega
    | succ k => rfl
theorem R3.en {w : World} {R : RS} {wr : World} {br bq : Nat} {ro : Int} {v8 : Value} {l : List Int} {most : Int} {k : Nat} {R1 : RS} {Q1 : QS} (h : R3 w R wr br bq ro v8 l most k R1 Q1) (hk : 0 < k) : (absG Q1).en = l.headD 0 + Q1.rs.length := by
  unfold PL.en
  rw [h.fst hk]
  show l.headD 0 + ((Q1.rs.map (·.2)).length : Int) = _
  rw [List.length_map]
/-- The bytes of a file's own record. -/
def sgSz (w : World) (b : Nat) : Nat := match w.cell? ⟨b, 2, none⟩ with
  | some v => (intOf v).toNat
  | none => 0
theorem R4.size {w : World} {R : RS} {wr : World} {br bq : Nat} {ro : Int} {v8 : Value} {l : List Int} {most : Int} {k : Nat} {R2 : RS} {Q1 : QS} {x : Int} {b18 : Nat} {v16 : Value} {bs : List Int} {n : Int} {m : Nat} {rs : List (List Int)} {Q2 : QS} (h : R4 w R wr br bq ro v8 l most k R2 Q1 x b18 v16 bs n m rs Q2) : sgSz wr b18 = m := by
  unfold sgSz
  rw [cell_of_block h.s4.seg]
  simp [intOf]
/-- The next file. -/
theorem R3.next {w : World} {R : RS} {wr w' : World} {br bq : Nat} {ro : Int} {v8 : Value} {l : List Int} {most : Int} {k : Nat} {R1 R3' : RS} {Q1 Q2 : QS} {n : Int} {m : Nat} {rs : List (List Int)} {v : Value} (h : R3 w R wr br bq ro v8 l most k R1 Q1) (hn : l[k]? = some n) (hs : S3 w R w' br bq R3' (addL Q2 v (Q1.gs ++ [(n, (rs.length : Int), (m : Int))])) ro v8 l) (hfrm : Q2.frm = l.headD 0) (hnm : Q2.nm = Q1.nm) (hmo : Q2.most = Q1.most) (hrs : Q2.rs.map (·.2) = Q1.rs.map (·.2) ++ rs) (hrl : rs.length ≤ 1073741824) (hst : R3'.n ≤ R1.n + 2)
    (hx : LdX (absQ R1) (absG Q1) n (l.drop (k + 1)).isEmpty 0 (absQ R3') { absG Q1 with fs := (absG Q1).fs ++ [n], rs := (absG Q1).rs ++ rs, size := m }) : R3 w R w' br bq ro v8 l most (k + 1) R3' (addL Q2 v (Q1.gs ++ [(n, (rs.length : Int), (m : Int))])) := by
  have h1 := h.n
  have h2 := h.rs
  have e2 : Q2.rs.length = Q1.rs.length + rs.length := by
    have := congrArg List.length hrs
    rw [List.length_append, List.length_map, List.length_map] at this
    exact this
  have hG : absG (addL Q2 v (Q1.gs ++ [(n, (rs.length : Int), (m : Int))])) = { absG Q1 with fs := (absG Q1).fs ++ [n], rs := (absG Q1).rs ++ rs, size := m } := by
    unfold absG addL
    dsimp only
    rw [hrs, hmo, List.map_append, List.getLastD_eq_getLast?]
    simp
  refine ⟨hs, hnm.trans h.nm, hmo.trans h.mo, ?_, fun _ => hfrm, fun h => (by omega), by omega, ?_, fun c A' P' ho => ?_⟩
  · show (Q1.gs ++ [(n, (rs.length : Int), (m : Int))]).map (·.1) = _
    rw [List.map_append, h.fs, List.take_add_one, hn]
    rfl
  · show Q2.rs.length ≤ _
    omega
  · refine h.go c A' P' ?_
    rw [drop_cons hn]
    rw [hG] at ho
    exact ⟨0, _, _, hx, Or.inr ⟨rfl, ho⟩⟩
end Go.Proofs.YtoplejbmgpgkhaaGreatDoor
namespace Go.Proofs.YtoplejbmgpgkhaaGreatDoor
open Go.RowKit Go.Maps Go.Joins Go.Sort
set_option linter.unusedVariables false
set_option linter.unusedSimpArgs false
theorem nx_size (bs : List Int) : (nx bs).2.1 ≤ 65548 := by
  unfold nx
  split
  · simp
  · split
    · simp
    · split
      · simp
      · split
        · simp
        · rename_i h1 _ _
          simp
          simp at h1
          omega
theorem dBytes_q {R : RS} {ro : Int} (h : HB R ro) (s : ByteArray) : (dBytes (absQ R) s).length ≤ 1073741824 := by
  unfold dBytes
  split
  · cases hf : fT (absQ R).l (nb s) with
    | none => simp
    | some p =>
      have h3 := (del_here (p := p) rfl (fT_mem hf).1).2
      have h4 := h.wf.sum
      have h5 := h.r0
      have h6 : (absQ R).l = absR R.A := rfl
      rw [h6] at h3
      show p.2.1.length ≤ _
      omega
  · simp
theorem r4_start {w : World} {R : RS} {w4 w7 : World} {br bq : Nat} {ro : Int} {v8 : Value} {l : List Int} {most : Int} {k : Nat} {R2 : RS} {Q1 Qb : QS} {x : Int} {v16 : Value} {bs : List Int} {n : Int} (h : S3 w R w7 br bq R2 Qb ro v8 l) (ho : w7.ownsRow w4.heap.size 5 1 v16 bs.length (vB bs)) (h4 : ∀ b, w4.heap.size ≤ b → Q1.own b = 0) (hown : ∀ b, v16.ownBlock = some b → R2.own b = 0) (hq : Qb.gs = Q1.gs ∧ Qb.rs = Q1.rs ∧ Qb.nm = Q1.nm ∧ Qb.most = Q1.most ∧ Qb.own = Q1.own) (hx : Qb.frm = x) :
    R4 w R (w7.alloc (.cells #[.int .i64 n, .int .i64 0, .int .i64 0] 92)) br bq ro v8 l most k R2 Q1 x w7.heap.size v16 bs n 0 [] Qb := by
  have hal : Below w7.heap.size w7 (w7.alloc (.cells #[.int .i64 n, .int .i64 0, .int .i64 0] 92)) := by go_grown
  have hz := h.size
  refine ⟨⟨h.below hal, heap_alloc_new _ _, ⟨h.ref.fresh _ (Nat.le_refl _), h.log.fresh _ (Nat.le_refl _), hz, fun e => ?_⟩, (BytesV.of_own ho).keep (fun b hb => hal.block b (ho.lt b (dBlock_own hb)).2), fun b hb => ?_⟩, Took.nil, hq.1, hx, hq.2.2.1, hq.2.2.2.1, by rw [hq.2.1]; simp⟩
  · have := (h.row.lt _ e).2
    omega
  · have h1 := ho.lt b (dBlock_own hb)
    refine ⟨hown b (dBlock_own hb), by rw [hq.2.2.2.2]; exact h4 b h1.1, by omega, by simp; omega⟩
theorem R4.next {w : World} {R : RS} {wr w5 w7 : World} {br bq : Nat} {ro : Int} {v8 : Value} {l : List Int} {most : Int} {k : Nat} {R2 : RS} {Q1 : QS} {x : Int} {b18 : Nat} {v16 : Value} {bs : List Int} {n : Int} {m : Nat} {rs : List (List Int)} {Q2 : QS} (h : R4 w R wr br bq ro v8 l most k R2 Q1 x b18 v16 bs n m rs Q2) (hm : m < bs.length) (hx : (nx (bs.drop m)).1 = 0) (hb : Below wr.heap.size wr w5) {xv : Value} (ho5 : w5.ownsRow wr.heap.size 5 1 xv (nx (bs.drop m)).2.2.length (vB (nx (bs.drop m)).2.2)) {v : Value} (hg : w5.grownBy w7 Q2.bv.ownBlock) (ho : w7.ownsRow 0 36 1 v (Q2.rs ++ [(xv, (nx (bs.drop m)).2.2)]).length ((Q2.rs ++ [(xv, (nx (bs.drop m)).2.2)]).map (·.1))) (ha : v.ownBlock = Q2.bv.ownBlock ∨ ∀ b, v.ownBlock = some b → w5.heap.size ≤ b) (r z : Int) (hr : r = (rs.length : Int) + 1) (hz : z = (m : Int) + (nx (bs.drop m)).2.1) :
    R4 w R (((w7.setCell ⟨bq, 4, none⟩ v).setCell ⟨b18, 1, none⟩ (.int .i64 r)).setCell ⟨b18, 2, none⟩ (.int .i64 z)) br bq ro v8 l most k R2 Q1 x b18 v16 bs n (m + (nx (bs.drop m)).2.1) (rs ++ [(nx (bs.drop m)).2.2]) (addB Q2 v (xv, (nx (bs.drop m)).2.2)) := by
  have h1 := h.s4.add hb ho5 hg ho ha
  have h2 : S4 w R (((w7.setCell ⟨bq, 4, none⟩ v).setCell ⟨b18, 1, none⟩ (.int .i64 r)).setCell ⟨b18, 2, none⟩ (.int .i64 z)) br bq R2 (addB Q2 v (xv, (nx (bs.drop m)).2.2)) ro v8 l b18 v16 bs (n, r, z) := by
    refine h1.store (s' := (n, r, z)) (fun b hb' => (Below.heap_setCell _ _ _ _ hb').trans (Below.heap_setCell _ _ _ _ hb')) ?_ (by simp) ⟨rfl, rfl, rfl⟩
    rw [block_setCell (block_setCell h1.seg _) _]
    simp
  refine ⟨?_, h.took.step hm hx, h.gs, h.frm, h.nm, h.mo, ?_⟩
  · have e1 : ((rs ++ [(nx (bs.drop m)).2.2]).length : Int) = r := by rw [hr, List.length_append]; simp
    have e2 : ((m + (nx (bs.drop m)).2.1 : Nat) : Int) = z := by rw [hz]; simp
    rw [e1, e2]
    exact h2
  · show (Q2.rs ++ [(xv, (nx (bs.drop m)).2.2)]).map (·.2) = _
    rw [List.map_append, h.rs, List.append_assoc]
    rfl
end Go.Proofs.YtoplejbmgpgkhaaGreatDoor
namespace Go.Proofs.YtoplejbmgpgkhaaGreatDoor
open Go.RowKit Go.Maps Go.Joins Go.Sort
set_option linter.unusedVariables false
set_option linter.unusedSimpArgs false
/-- Where the next file begins. -/
def At (P : PL) (n : Int) : Prop := (P.fs = [] ∧ P.rs = []) ∨ (P.fs ≠ [] ∧ P.en = n)
theorem At.ok {P : PL} {n : Int} (h : At P n) : ¬ (P.fs ≠ [] ∧ n ≠ P.en) := by
  rcases h with ⟨h1, _⟩ | ⟨_, h2⟩
  · exact fun h => h.1 h1
  · exact fun h => h.2 h2.symm
theorem At.next {P : PL} {n : Int} (h : At P n) (rs : List (List Int)) (z : Int) : At { P with fs := P.fs ++ [n], rs := P.rs ++ rs, size := z } (n + rs.length) := by
  refine Or.inr ⟨by simp, ?_⟩
  rcases h with ⟨h1, h2⟩ | ⟨h1, h2⟩
  · show (P.fs ++ [n]).headD 0 + ((P.rs ++ rs).length : Int) = _
    rw [h1, h2]
    rfl
  · show (P.fs ++ [n]).headD 0 + ((P.rs ++ rs).length : Int) = _
    have h3 : (P.fs ++ [n]).headD 0 = P.fs.headD 0 := by
      cases hf : P.fs with
      | nil => exact absurd hf h1
      | cons a r => rfl
    have h4 : P.fs.headD 0 + (P.rs.length : Int) = n := h2
    rw [h3, List.length_append]
    omega
end Go.Proofs.YtoplejbmgpgkhaaGreatDoor
namespace Go.Proofs.YtoplejbmgpgkhaaGreatDoor
open Go.RowKit Go.Maps Go.Joins Go.Sort
set_option linter.unusedVariables false
set_option linter.unusedSimpArgs false
/-- A world that grew beside a disk and a log. -/
theorem Lg.grown {w0 w w' : World} {bd bl : Nat} {S : DS} {L : LS} {ro : Int} {A : DA} {P : PL} {r : Option Nat} (h : Lg w0 w bd bl S L ro A P) (hg : w.grownBy w' r) (hr : ∀ b, r = some b → w0.heap.size ≤ b ∧ S.role b = .none ∧ L.own b = 0) : Lg w0 w' bd bl S L ro A P := by
  have hv := h.v0
  have hk : ∀ b, b < w.heap.size → (b < w0.heap.size ∨ S.role b ≠ .none ∨ L.own b ≠ 0) → w'.heap[b]? = w.heap[b]? := fun b hb ho => by
    refine hg.block b hb fun e => ?_
    obtain ⟨h1, h2, h3⟩ := hr b e.symm
    rcases ho with h4 | h4 | h4
    · omega
    · exact h4 h2
    · exact h4 h3
  refine ⟨⟨h.dl.disk.kept (fun b hb => hk b (h.dl.disk.role_lt hb) (Or.inr (Or.inl hb))) hg.size, h.dl.gb, h.dl.log.kept (fun b hb => hk b (h.dl.log.own_lt hb) (Or.inr (Or.inr hb))) hg.size, h.dl.bdq, h.dl.apart, h.dl.vars.kept (fun b hb => hk b (by have := h.dl.vars.lt; omega) (Or.inl (by omega))), h.dl.voff⟩, h.a, h.p, h.nm, ?_, h.off, h.v0⟩
  exact ⟨hg.os.trans h.fr.os, hg.tape.trans h.fr.tape, hg.output.trans h.fr.output, Nat.le_trans h.fr.size hg.size, fun b hb => (hk b (Nat.lt_of_lt_of_le hb h.fr.size) (Or.inl hb)).trans (h.fr.block b hb)⟩
/-- The loop's worlds: the log (rs its records), the caller's list v of its records (the first n). -/
structure LI (W wr : World) (bd bl : Nat) (v : Value) (vs : List Value) (rs : List (List Int)) (sc st : Nat) : Prop where
  own : wr.ownsRow W.heap.size 36 1 v vs.length vs
  log : ∃ (S : DS) (L : LS) (A : DA) (P : PL) (ini : List Seg) (la : Option Seg), Lg W wr bd bl S L 1073741824 A P ∧ LV A.l P ini la sc ∧ NmB A.l ∧ A.steps ≤ (st : Int) ∧ P.rs = rs ∧ ∀ b, v.ownBlock = some b → S.role b = .none ∧ L.own b = 0
theorem LI.bel {W wr : World} {bd bl : Nat} {v : Value} {vs : List Value} {rs : List (List Int)} {sc st : Nat} (h : LI W wr bd bl v vs rs sc st) : Below W.heap.size W wr := by
  obtain ⟨_, _, _, _, _, _, h, _⟩ := h.log
  exact h.fr
theorem LI.len {W wr : World} {bd bl : Nat} {v : Value} {vs : List Value} {rs : List (List Int)} {sc st : Nat} (h : LI W wr bd bl v vs rs sc st) : rs.length ≤ 100000000 ∧ sc ≤ rs.length := by
  obtain ⟨S, L, A, P, ini, la, h1, h2, h3, h4, rfl, h6⟩ := h.log
  have el : absP S = A.l := congrArg DA.l h1.a
  have hw : Wf A.l 1073741824 := el ▸ h1.dl.gb.wf
  exact ⟨(h2.small hw (by omega)).1, h2.sc_le⟩
/-- The caller's list grows. -/
theorem LI.add {W wr w' : World} {bd bl : Nat} {v v' : Value} {vs vs' : List Value} {rs : List (List Int)} {sc st : Nat} (h : LI W wr bd bl v vs rs sc st) (hg : wr.grownBy w' v.ownBlock) (ho : w'.ownsRow W.heap.size 36 1 v' vs'.length vs') (hv : v'.ownBlock = v.ownBlock ∨ ∀ b, v'.ownBlock = some b → wr.heap.size ≤ b) : LI W w' bd bl v' vs' rs sc st := by
  obtain ⟨S, L, A, P, ini, la, h1, h2, h3, h4, rfl, h6⟩ := h.log
  refine ⟨ho, S, L, A, P, ini, la, h1.grown hg (fun b hb => ⟨(h.own.lt b hb).1, h6 b hb⟩), h2, h3, h4, rfl, fun b hb => ?_⟩
  rcases hv with hv | hv
  · exact h6 b (hv ▸ hb)
  · exact ⟨h1.dl.disk.fresh b (hv b hb), h1.dl.log.fresh b (hv b hb)⟩
/-- Behind Open. -/
structure LO (W wr : World) (bl : Nat) (v : Value) (vs : List Value) (L : LS) : Prop where
  own : wr.ownsRow W.heap.size 36 1 v vs.length vs
  log : LogIs wr bl L
  ln : LN L
  fr : Below W.heap.size W wr
  fst : Proofs.YtoplejbmgpgkhaaGreatDoor.fst L = 0
theorem LO.below {W wr w' : World} {bl : Nat} {v : Value} {vs : List Value} {L : LS} (h : LO W wr bl v vs L) (hb : Below wr.heap.size wr w') : LO W w' bl v vs L :=
  ⟨ownsRow_below h.own hb, h.log.below hb, h.ln, h.fr.trans (hb.mono h.fr.size), h.fst⟩
end Go.Proofs.YtoplejbmgpgkhaaGreatDoor
