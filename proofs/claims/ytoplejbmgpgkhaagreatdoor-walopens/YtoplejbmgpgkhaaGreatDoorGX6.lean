/- X5, X6 -/
import Derived.Test.YtoplejbmgpgkhaaGreatDoorGX3
import Derived.Test.YtoplejbmgpgkhaaGreatDoorGWT3
namespace Go.Proofs.YtoplejbmgpgkhaaGreatDoor
open Go.RowKit Go.Maps Go.Joins Go.Sort
set_option linter.unusedVariables false
set_option linter.unusedSimpArgs false
/-- A log of the document's: where its files' numbers, records and sizes and its records lie. -/
structure QS where
  br : Nat
  nm : ByteArray
  most : Int
  lv : Value
  gs : List (Int × Int × Int)
  bv : Value
  rs : List (Value × List Int)
  frm : Int
  dirty : Bool
  own : Nat → Nat
def sgL (l : List (Int × Int × Int)) : List Value := l.flatMap fun s => [.int .i64 s.1, .int .i64 s.2.1, .int .i64 s.2.2]
theorem sgL_append (a b : List (Int × Int × Int)) : sgL (a ++ b) = sgL a ++ sgL b := List.flatMap_append
def qC (Q : QS) : Array Value := #[.pointer (some ⟨Q.br, 0, none⟩), .string Q.nm, .int .i64 Q.most, Q.lv, Q.bv, .int .i64 Q.frm, .bool Q.dirty]
structure QIs (w : World) (bq : Nat) (Q : QS) : Prop where
  log : w.heap[bq]? = some (.cells (qC Q) 89)
  rl : Q.own bq = 1
  segs : w.ownsRow 0 92 3 Q.lv Q.gs.length (sgL Q.gs)
  rf : ∀ b, Q.lv.ownBlock = some b → Q.own b = 2
  recs : w.ownsRow 0 36 1 Q.bv Q.rs.length (Q.rs.map (·.1))
  rr : ∀ b, Q.bv.ownBlock = some b → Q.own b = 3
  each : ∀ p ∈ Q.rs, BytesV w p.1 p.2
  re : ∀ p ∈ Q.rs, ∀ b, dBlock p.1 p.2 = some b → Q.own b = 4
  fresh : ∀ b, w.heap.size ≤ b → Q.own b = 0
theorem QIs.kept {w w' : World} {bq : Nat} {Q : QS} (h : QIs w bq Q) (hk : ∀ b, Q.own b ≠ 0 → w'.heap[b]? = w.heap[b]?) (hs : w.heap.size ≤ w'.heap.size) : QIs w' bq Q where
  log := (hk bq (by rw [h.rl]; simp)).trans h.log
  rl := h.rl
  segs := ownsRow_heap h.segs (fun b hb => hk b (by rw [h.rf b hb]; simp))
  rf := h.rf
  recs := ownsRow_heap h.recs (fun b hb => hk b (by rw [h.rr b hb]; simp))
  rr := h.rr
  each := fun p hp => (h.each p hp).keep (fun b hb => hk b (by rw [h.re p hp b hb]; simp))
  re := h.re
  fresh := fun b hb => h.fresh b (by omega)
theorem QIs.lt {w : World} {bq : Nat} {Q : QS} (h : QIs w bq Q) : bq < w.heap.size := heap_lt h.log
theorem QIs.own_lt {w : World} {bq b : Nat} {Q : QS} (h : QIs w bq Q) (hb : Q.own b ≠ 0) : b < w.heap.size := by
  rcases Nat.lt_or_ge b w.heap.size with h1 | h1
  · exact h1
  · exact absurd (h.fresh b h1) hb
theorem QIs.below {w w' : World} {bq : Nat} {Q : QS} (h : QIs w bq Q) (hb : Below w.heap.size w w') : QIs w' bq Q := h.kept (fun b hr => hb.block b (h.own_lt hr)) hb.size
/-- What lies beside it stays. -/
structure QFr (w w' : World) (Q Q' : QS) (p : Option Nat) : Prop where
  os : w'.os = w.os
  tape : w'.tape = w.tape
  output : w'.output = w.output
  size : w.heap.size ≤ w'.heap.size
  block : ∀ b, b < w.heap.size → Q.own b = 0 → w'.heap[b]? = w.heap[b]?
  own : ∀ b, b < w.heap.size → Q.own b = 0 → p ≠ some b → Q'.own b = 0
def setFrm (Q : QS) (x : Int) : QS := { Q with frm := x }
theorem QIs.setFrm {w : World} {bq : Nat} {Q : QS} (h : QIs w bq Q) (x : Int) : QIs (w.setCell ⟨bq, 5, none⟩ (.int .i64 x)) bq (setFrm Q x) ∧ QFr w (w.setCell ⟨bq, 5, none⟩ (.int .i64 x)) Q (Proofs.YtoplejbmgpgkhaaGreatDoor.setFrm Q x) none := by
  have hk : ∀ b, b ≠ bq → (w.setCell ⟨bq, 5, none⟩ (.int .i64 x)).heap[b]? = w.heap[b]? := fun b hb => Below.heap_setCell _ _ _ _ hb
  have hne : ∀ b, Q.own b ≠ 1 → b ≠ bq := fun b h1 e => h1 (by rw [e]; exact h.rl)
  refine ⟨⟨?_, h.rl, ownsRow_heap h.segs (fun b hb => hk b (hne b (by rw [h.rf b hb]; simp))), h.rf, ownsRow_heap h.recs (fun b hb => hk b (hne b (by rw [h.rr b hb]; simp))), h.rr, fun p hp => (h.each p hp).keep (fun b hb => hk b (hne b (by rw [h.re p hp b hb]; simp))), h.re, fun b hb => h.fresh b (by simpa using hb)⟩, rfl, rfl, rfl, by simp, fun b h0 h1 => hk b (hne b (by rw [h1]; simp)), fun b h0 h1 _ => h1⟩
  rw [block_setCell h.log]
  simp [qC, Proofs.YtoplejbmgpgkhaaGreatDoor.setFrm]
def addB (Q : QS) (v : Value) (p : Value × List Int) : QS := { Q with bv := v, rs := Q.rs ++ [p], own := fun b => if v.ownBlock = some b then 3 else if dBlock p.1 p.2 = some b then 4 else Q.own b }
theorem QIs.putB {w w2 : World} {bq : Nat} {Q : QS} {v : Value} {p : Value × List Int} (h : QIs w bq Q) (hp : BytesV w p.1 p.2) (hpo : ∀ b, dBlock p.1 p.2 = some b → Q.own b = 0 ∧ b < w.heap.size) (hg : w.grownBy w2 Q.bv.ownBlock) (ho : w2.ownsRow 0 36 1 v (Q.rs ++ [p]).length ((Q.rs ++ [p]).map (·.1))) (ha : v.ownBlock = Q.bv.ownBlock ∨ ∀ b, v.ownBlock = some b → w.heap.size ≤ b) :
    QIs (w2.setCell ⟨bq, 4, none⟩ v) bq (addB Q v p) ∧ QFr w (w2.setCell ⟨bq, 4, none⟩ v) Q (addB Q v p) (dBlock p.1 p.2) := by
  have hlt := h.lt
  have hfne : ∀ b, Q.bv.ownBlock = some b → b ≠ bq := fun b hb e => by have := h.rr b hb; rw [e, h.rl] at this; cases this
  have hvne : ∀ b, v.ownBlock = some b → b ≠ bq := fun b hb => by
    rcases ha with ha | ha
    · exact hfne b (ha ▸ hb)
    · have := ha b hb; omega
  have hk : ∀ b, b ≠ bq → (w2.setCell ⟨bq, 4, none⟩ v).heap[b]? = w2.heap[b]? := fun b hb => Below.heap_setCell _ _ _ _ hb
  have hv3 : ∀ b, Q.own b ≠ 0 → Q.own b ≠ 3 → ¬ v.ownBlock = some b := fun b h0 h2 hc => by
    rcases ha with ha | ha
    · exact h2 (h.rr b (ha ▸ hc))
    · have := ha b hc; have := h.own_lt h0; omega
  have hold : ∀ b, Q.own b ≠ 0 → Q.own b ≠ 3 → (addB Q v p).own b = Q.own b := fun b h0 h2 => by
    show (if v.ownBlock = some b then 3 else if dBlock p.1 p.2 = some b then 4 else Q.own b) = _
    rw [if_neg (hv3 b h0 h2), if_neg (fun hc => h0 (hpo b hc).1)]
  have hsame : ∀ b, b < w.heap.size → Q.own b ≠ 1 → Q.own b ≠ 3 → (w2.setCell ⟨bq, 4, none⟩ v).heap[b]? = w.heap[b]? := fun b h0 h1 h2 => (hk b (fun e => h1 (by rw [e]; exact h.rl))).trans (hg.block b h0 (fun e => h2 (h.rr b e.symm)))
  have hb2 : w2.heap[bq]? = some (.cells (qC Q) 89) := (hg.block bq hlt (fun e => hfne bq e.symm rfl)).trans h.log
  refine ⟨⟨?_, ?_, ?_, fun b hb => ?_, ?_, fun b hb => if_pos hb, fun q hq => ?_, fun q hq b hb => ?_, fun b hb => ?_⟩, hg.os, hg.tape, hg.output, by simpa using hg.size, fun b hb h0 => ?_, fun b hb h0 hN => ?_⟩
  · rw [block_setCell hb2 _]
    simp [qC, addB]
  · rw [hold bq (by rw [h.rl]; simp) (by rw [h.rl]; simp)]
    exact h.rl
  · exact ownsRow_heap h.segs (fun b hb => hsame b (h.own_lt (by rw [h.rf b hb]; simp)) (by rw [h.rf b hb]; simp) (by rw [h.rf b hb]; simp))
  · rw [hold b (by rw [h.rf b hb]; simp) (by rw [h.rf b hb]; simp)]
    exact h.rf b hb
  · exact ownsRow_heap ho (fun b hb => hk b (hvne b hb))
  · rcases List.mem_append.1 hq with hq | hq
    · exact (h.each q hq).keep (fun b hb => hsame b (h.own_lt (by rw [h.re q hq b hb]; simp)) (by rw [h.re q hq b hb]; simp) (by rw [h.re q hq b hb]; simp))
    · simp at hq
      subst hq
      exact hp.keep (fun b hb => hsame b (hpo b hb).2 (by rw [(hpo b hb).1]; simp) (by rw [(hpo b hb).1]; simp))
  · rcases List.mem_append.1 hq with hq | hq
    · rw [hold b (by rw [h.re q hq b hb]; simp) (by rw [h.re q hq b hb]; simp)]
      exact h.re q hq b hb
    · simp at hq
      subst hq
      show (if v.ownBlock = some b then 3 else if dBlock q.1 q.2 = some b then 4 else Q.own b) = 4
      rw [if_neg (fun hc => ?_), if_pos hb]
      rcases ha with ha | ha
      · have := h.rr b (ha ▸ hc); rw [(hpo b hb).1] at this; cases this
      · have := ha b hc; have := (hpo b hb).2; omega
  · have hb' : w2.heap.size ≤ b := by simpa using hb
    show (if v.ownBlock = some b then 3 else if dBlock p.1 p.2 = some b then 4 else Q.own b) = 0
    rw [if_neg (fun hc => by have := (ho.lt b hc).2; omega), if_neg (fun hc => by have := (hpo b hc).2; have := hg.size; omega)]
    exact h.fresh b (by have := hg.size; omega)
  · exact hsame b hb (by rw [h0]; simp) (by rw [h0]; simp)
  · show (if v.ownBlock = some b then 3 else if dBlock p.1 p.2 = some b then 4 else Q.own b) = 0
    rw [if_neg (fun hc => ?_), if_neg hN]
    · exact h0
    · rcases ha with ha | ha
      · have := h.rr b (ha ▸ hc); rw [h0] at this; cases this
      · have := ha b hc; omega
def addL (Q : QS) (v : Value) (l : List (Int × Int × Int)) : QS := { Q with lv := v, gs := l, own := fun b => if v.ownBlock = some b then 2 else Q.own b }
theorem QIs.putL {w w2 : World} {bq : Nat} {Q : QS} {v : Value} {l : List (Int × Int × Int)} (h : QIs w bq Q) (hg : w.grownBy w2 Q.lv.ownBlock) (ho : w2.ownsRow 0 92 3 v l.length (sgL l)) (ha : v.ownBlock = Q.lv.ownBlock ∨ ∀ b, v.ownBlock = some b → w.heap.size ≤ b) :
    QIs (w2.setCell ⟨bq, 3, none⟩ v) bq (addL Q v l) ∧ QFr w (w2.setCell ⟨bq, 3, none⟩ v) Q (addL Q v l) none := by
  have hlt := h.lt
  have hfne : ∀ b, Q.lv.ownBlock = some b → b ≠ bq := fun b hb e => by have := h.rf b hb; rw [e, h.rl] at this; cases this
  have hvne : ∀ b, v.ownBlock = some b → b ≠ bq := fun b hb => by
    rcases ha with ha | ha
    · exact hfne b (ha ▸ hb)
    · have := ha b hb; omega
  have hk : ∀ b, b ≠ bq → (w2.setCell ⟨bq, 3, none⟩ v).heap[b]? = w2.heap[b]? := fun b hb => Below.heap_setCell _ _ _ _ hb
  have hold : ∀ b, Q.own b ≠ 0 → Q.own b ≠ 2 → (addL Q v l).own b = Q.own b := fun b h0 h2 => if_neg (fun hc => by
    rcases ha with ha | ha
    · exact h2 (h.rf b (ha ▸ hc))
    · have := ha b hc; have := h.own_lt h0; omega)
  have hsame : ∀ b, Q.own b ≠ 0 → Q.own b ≠ 1 → Q.own b ≠ 2 → (w2.setCell ⟨bq, 3, none⟩ v).heap[b]? = w.heap[b]? := fun b h0 h1 h2 => (hk b (fun e => h1 (by rw [e]; exact h.rl))).trans (hg.block b (h.own_lt h0) (fun e => h2 (h.rf b e.symm)))
  have hb2 : w2.heap[bq]? = some (.cells (qC Q) 89) := (hg.block bq hlt (fun e => hfne bq e.symm rfl)).trans h.log
  refine ⟨⟨?_, ?_, ?_, fun b hb => if_pos hb, ?_, fun b hb => ?_, fun p hp => ?_, fun p hp b hb => ?_, fun b hb => ?_⟩, ?_⟩
  · rw [block_setCell hb2 _]
    simp [qC, addL]
  · rw [hold bq (by rw [h.rl]; simp) (by rw [h.rl]; simp)]
    exact h.rl
  · exact ownsRow_heap ho (fun b hb => hk b (hvne b hb))
  · exact ownsRow_heap h.recs (fun b hb => hsame b (by rw [h.rr b hb]; simp) (by rw [h.rr b hb]; simp) (by rw [h.rr b hb]; simp))
  · rw [hold b (by rw [h.rr b hb]; simp) (by rw [h.rr b hb]; simp)]
    exact h.rr b hb
  · exact (h.each p hp).keep (fun b hb => hsame b (by rw [h.re p hp b hb]; simp) (by rw [h.re p hp b hb]; simp) (by rw [h.re p hp b hb]; simp))
  · rw [hold b (by rw [h.re p hp b hb]; simp) (by rw [h.re p hp b hb]; simp)]
    exact h.re p hp b hb
  · have hb' : w2.heap.size ≤ b := by simpa using hb
    show (if v.ownBlock = some b then 2 else Q.own b) = 0
    rw [if_neg (fun hc => by have := (ho.lt b hc).2; omega)]
    exact h.fresh b (by have := hg.size; omega)
  · refine ⟨hg.os, hg.tape, hg.output, by simpa using hg.size, fun b h0 h1 => ?_, fun b h0 h1 _ => ?_⟩
    · exact (hk b (fun e => by rw [e, h.rl] at h1; cases h1)).trans (hg.block b h0 (fun e => by rw [h.rf b e.symm] at h1; cases h1))
    · show (if v.ownBlock = some b then 2 else Q.own b) = 0
      rw [if_neg (fun hc => by
        rcases ha with ha | ha
        · rw [h.rf b (ha ▸ hc)] at h1; cases h1
        · have := ha b hc; omega)]
      exact h1
end Go.Proofs.YtoplejbmgpgkhaaGreatDoor
namespace Go.Proofs.YtoplejbmgpgkhaaGreatDoor
open Go.RowKit Go.Maps Go.Joins Go.Sort
set_option linter.unusedVariables false
set_option linter.unusedSimpArgs false
/-- A log as the program's is told. -/
def absG (Q : QS) : PL := ⟨Q.gs.map (·.1), Q.rs.map (·.2), (Q.gs.getLastD (0, 0, 0)).2.2, false, Q.most⟩
/-- Between files: w, R0 are those ahead of the call. -/
structure S3 (w : World) (R0 : RS) (wr : World) (br bq : Nat) (R : RS) (Q : QS) (ro : Int) (v8 : Value) (l : List Int) : Prop where
  ref : RefIs wr br R
  hb : HB R ro
  log : QIs wr bq Q
  brq : Q.br = br
  apart : ∀ b, Q.own b ≠ 0 → R.own b = 0
  row : wr.ownsRow 0 3 1 v8 l.length (vI l)
  ro8 : ∀ b, v8.ownBlock = some b → R.own b = 0 ∧ Q.own b = 0
  os : wr.os = w.os
  tape : wr.tape = w.tape
  output : wr.output = w.output
  size : w.heap.size ≤ wr.heap.size
  blk : ∀ b, b < w.heap.size → R0.own b = 0 → wr.heap[b]? = w.heap[b]? ∧ R.own b = 0 ∧ Q.own b = 0
theorem S3.qoff {w : World} {R0 : RS} {wr : World} {br bq : Nat} {R : RS} {Q : QS} {ro : Int} {v8 : Value} {l : List Int} (h : S3 w R0 wr br bq R Q ro v8 l) {b : Nat} (hb : R.own b ≠ 0) : Q.own b = 0 := by
  cases h1 : Q.own b with
  | zero => rfl
  | succ n => exact absurd (h.apart b (by rw [h1]; simp)) hb
/-- All but blocks that are nobody's stays, or is new. -/
theorem S3.kept {w : World} {R0 : RS} {wr w' : World} {br bq : Nat} {R : RS} {Q : QS} {ro : Int} {v8 : Value} {l : List Int} (h : S3 w R0 wr br bq R Q ro v8 l) (hk : ∀ b, b < wr.heap.size → (R.own b ≠ 0 ∨ Q.own b ≠ 0 ∨ v8.ownBlock = some b ∨ b < w.heap.size) → w'.heap[b]? = wr.heap[b]?) (hs : wr.heap.size ≤ w'.heap.size) (ho : w'.os = wr.os ∧ w'.tape = wr.tape ∧ w'.output = wr.output) : S3 w R0 w' br bq R Q ro v8 l := by
  have hz := h.size
  exact ⟨h.ref.kept (fun b hb => hk b (h.ref.own_lt hb) (Or.inl hb)) hs, h.hb, h.log.kept (fun b hb => hk b (h.log.own_lt hb) (Or.inr (Or.inl hb))) hs, h.brq, h.apart, ownsRow_heap h.row (fun b hb => hk b (h.row.lt b hb).2 (Or.inr (Or.inr (Or.inl hb)))), h.ro8, ho.1.trans h.os, ho.2.1.trans h.tape, ho.2.2.trans h.output, by omega, fun b hb h0 => ⟨(hk b (by omega) (Or.inr (Or.inr (Or.inr hb)))).trans (h.blk b hb h0).1, (h.blk b hb h0).2⟩⟩
theorem S3.below {w : World} {R0 : RS} {wr w' : World} {br bq : Nat} {R : RS} {Q : QS} {ro : Int} {v8 : Value} {l : List Int} (h : S3 w R0 wr br bq R Q ro v8 l) (hb : Below wr.heap.size wr w') : S3 w R0 w' br bq R Q ro v8 l :=
  h.kept (fun b h1 _ => hb.block b h1) hb.size ⟨hb.os, hb.tape, hb.output⟩
/-- The disk goes on. -/
theorem S3.disk {w : World} {R0 : RS} {wr w' : World} {br bq : Nat} {R R' : RS} {Q : QS} {ro : Int} {v8 : Value} {l : List Int} (h : S3 w R0 wr br bq R Q ro v8 l) (hD : RefIs w' br R') (hF : RFr wr w' R R') (hB : HB R' ro) : S3 w R0 w' br bq R' Q ro v8 l := by
  have hz := h.size
  have hz2 := hF.size
  exact ⟨hD, hB, h.log.kept (fun b hb => hF.block b (h.log.own_lt hb) (h.apart b hb)) hF.size, h.brq, fun b hb => hF.own b (h.log.own_lt hb) (h.apart b hb), ownsRow_heap h.row (fun b hb => hF.block b (h.row.lt b hb).2 (h.ro8 b hb).1), fun b hb => ⟨hF.own b (h.row.lt b hb).2 (h.ro8 b hb).1, (h.ro8 b hb).2⟩, hF.os.trans h.os, hF.tape.trans h.tape, hF.output.trans h.output, by omega, fun b hb h0 => ⟨(hF.block b (by omega) (h.blk b hb h0).2.1).trans (h.blk b hb h0).1, hF.own b (by omega) (h.blk b hb h0).2.1, (h.blk b hb h0).2.2⟩⟩
/-- The log goes on; p: a block beside that becomes its. -/
theorem S3.logged {w : World} {R0 : RS} {wr w' : World} {br bq : Nat} {R : RS} {Q Q' : QS} {ro : Int} {v8 : Value} {l : List Int} {p : Option Nat} (h : S3 w R0 wr br bq R Q ro v8 l) (hL : QIs w' bq Q') (hF : QFr wr w' Q Q' p) (hq : Q'.br = Q.br) (hp : ∀ b, p = some b → w.heap.size ≤ b ∧ R.own b = 0 ∧ v8.ownBlock ≠ some b) : S3 w R0 w' br bq R Q' ro v8 l := by
  have hz := h.size
  have hz2 := hF.size
  refine ⟨h.ref.kept (fun b hb => hF.block b (h.ref.own_lt hb) (h.qoff hb)) hF.size, h.hb, hL, hq.trans h.brq, fun b hb => ?_, ownsRow_heap h.row (fun b hb => hF.block b (h.row.lt b hb).2 (h.ro8 b hb).2), fun b hb => ⟨(h.ro8 b hb).1, hF.own b (h.row.lt b hb).2 (h.ro8 b hb).2 (fun e => (hp b e).2.2 hb)⟩, hF.os.trans h.os, hF.tape.trans h.tape, hF.output.trans h.output, by omega, fun b hb h0 => ⟨(hF.block b (by omega) (h.blk b hb h0).2.2).trans (h.blk b hb h0).1, (h.blk b hb h0).2.1, hF.own b (by omega) (h.blk b hb h0).2.2 (fun e => by have := (hp b e).1; omega)⟩⟩
  rcases Nat.lt_or_ge b wr.heap.size with h1 | h1
  · by_cases h2 : Q.own b = 0
    · by_cases h3 : p = some b
      · exact (hp b h3).2.1
      · exact absurd (hF.own b h1 h2 h3) hb
    · exact h.apart b h2
  · exact h.ref.fresh b h1
/-- Within a file: s its number, records and bytes so far. -/
structure S4 (w : World) (R0 : RS) (wr : World) (br bq : Nat) (R : RS) (Q : QS) (ro : Int) (v8 : Value) (l : List Int) (b18 : Nat) (v16 : Value) (bs : List Int) (s : Int × Int × Int) : Prop where
  s3 : S3 w R0 wr br bq R Q ro v8 l
  seg : wr.heap[b18]? = some (.cells #[.int .i64 s.1, .int .i64 s.2.1, .int .i64 s.2.2] 92)
  o18 : R.own b18 = 0 ∧ Q.own b18 = 0 ∧ w.heap.size ≤ b18 ∧ v8.ownBlock ≠ some b18
  bv : BytesV wr v16 bs
  o16 : ∀ b, dBlock v16 bs = some b → R.own b = 0 ∧ Q.own b = 0 ∧ b ≠ b18 ∧ b < wr.heap.size
theorem S4.below {w : World} {R0 : RS} {wr w' : World} {br bq : Nat} {R : RS} {Q : QS} {ro : Int} {v8 : Value} {l : List Int} {b18 : Nat} {v16 : Value} {bs : List Int} {s : Int × Int × Int} (h : S4 w R0 wr br bq R Q ro v8 l b18 v16 bs s) (hb : Below wr.heap.size wr w') : S4 w R0 w' br bq R Q ro v8 l b18 v16 bs s :=
  ⟨h.s3.below hb, (hb.block b18 (heap_lt h.seg)).trans h.seg, h.o18, h.bv.keep (fun b hb' => hb.block b (h.o16 b hb').2.2.2), fun b hb' => ⟨(h.o16 b hb').1, (h.o16 b hb').2.1, (h.o16 b hb').2.2.1, Nat.lt_of_lt_of_le (h.o16 b hb').2.2.2 hb.size⟩⟩
/-- The file's own record turns. -/
theorem S4.store {w : World} {R0 : RS} {wr w' : World} {br bq : Nat} {R : RS} {Q : QS} {ro : Int} {v8 : Value} {l : List Int} {b18 : Nat} {v16 : Value} {bs : List Int} {s s' : Int × Int × Int} (h : S4 w R0 wr br bq R Q ro v8 l b18 v16 bs s) (hk : ∀ b, b ≠ b18 → w'.heap[b]? = wr.heap[b]?) (hseg : w'.heap[b18]? = some (.cells #[.int .i64 s'.1, .int .i64 s'.2.1, .int .i64 s'.2.2] 92)) (hs : w'.heap.size = wr.heap.size) (ho : w'.os = wr.os ∧ w'.tape = wr.tape ∧ w'.output = wr.output) : S4 w R0 w' br bq R Q ro v8 l b18 v16 bs s' := by
  have h18 := h.o18
  refine ⟨h.s3.kept (fun b hb hc => hk b (fun e => ?_)) (by omega) ho, hseg, h.o18, h.bv.keep (fun b hb => hk b (h.o16 b hb).2.2.1), fun b hb => ⟨(h.o16 b hb).1, (h.o16 b hb).2.1, (h.o16 b hb).2.2.1, by rw [hs]; exact (h.o16 b hb).2.2.2⟩⟩
  subst e
  rcases hc with hc | hc | hc | hc
  · exact hc h18.1
  · exact hc h18.2.1
  · exact h18.2.2.2 hc
  · omega
/-- A record is laid behind the others. -/
theorem S4.add {w : World} {R0 : RS} {wr w5 w7 : World} {br bq : Nat} {R : RS} {Q : QS} {ro : Int} {v8 : Value} {l : List Int} {b18 : Nat} {v16 : Value} {bs : List Int} {s : Int × Int × Int} (h : S4 w R0 wr br bq R Q ro v8 l b18 v16 bs s) (hb : Below wr.heap.size wr w5) {xv : Value} {x : List Int} (hx : w5.ownsRow wr.heap.size 5 1 xv x.length (vB x)) {v : Value} (hg : w5.grownBy w7 Q.bv.ownBlock) (ho : w7.ownsRow 0 36 1 v (Q.rs ++ [(xv, x)]).length ((Q.rs ++ [(xv, x)]).map (·.1))) (ha : v.ownBlock = Q.bv.ownBlock ∨ ∀ b, v.ownBlock = some b → w5.heap.size ≤ b) :
    S4 w R0 (w7.setCell ⟨bq, 4, none⟩ v) br bq R (addB Q v (xv, x)) ro v8 l b18 v16 bs s := by
  have h5 := h.below hb
  have hbv : BytesV w5 xv x := BytesV.of_own hx
  have hxb : ∀ b, dBlock xv x = some b → wr.heap.size ≤ b ∧ b < w5.heap.size := fun b hb' => hx.lt b (dBlock_own hb')
  have hw := h.s3.size
  have hfr : ∀ b, dBlock xv x = some b → R.own b = 0 ∧ Q.own b = 0 := fun b hb' => ⟨h.s3.ref.fresh b (hxb b hb').1, h.s3.log.fresh b (hxb b hb').1⟩
  obtain ⟨q1, q2⟩ := h5.s3.log.putB (p := (xv, x)) hbv (fun b hb' => ⟨(hfr b hb').2, (hxb b hb').2⟩) hg ho ha
  have q3 := h5.s3.logged q1 q2 rfl (fun b hb' => ⟨by have := (hxb b hb').1; omega, (hfr b hb').1, fun e => by have := (h.s3.row.lt b e).2; have := (hxb b hb').1; omega⟩)
  have hz := q2.size
  refine ⟨q3, (q2.block b18 (heap_lt h5.seg) h5.o18.2.1).trans h5.seg, ⟨h.o18.1, q2.own b18 (heap_lt h5.seg) h.o18.2.1 (fun e => by have := (hxb b18 e).1; have := heap_lt h.seg; omega), h.o18.2.2⟩, h5.bv.keep (fun b hb' => q2.block b (h5.o16 b hb').2.2.2 (h5.o16 b hb').2.1), fun b hb' => ⟨(h.o16 b hb').1, q2.own b (h5.o16 b hb').2.2.2 (h.o16 b hb').2.1 (fun e => by have := (hxb b e).1; have := (h.o16 b hb').2.2.2; omega), (h.o16 b hb').2.2.1, by have := (h5.o16 b hb').2.2.2; omega⟩⟩
end Go.Proofs.YtoplejbmgpgkhaaGreatDoor
