/- CJ, CK, WE, laid into one text. -/
import Derived.Test.YtconkienlcegaaaGreatDoorM11
import Derived.Test.YtconkienlcegaaaGreatDoorM6
/- disk: DiskSafe, what holds on its way. -/
namespace Go.Proofs.YtconkienlcegaaaGreatDoor
open Go.RowKit Go.Maps Go.Joins
set_option linter.unusedSimpArgs false
set_option linter.unusedVariables false
def safeB : ByteArray := { data := #[115, 97, 102, 101] }
/-- The program's disk, on the way. -/
structure Dv (w w' : World) (bd : Nat) (S : DS) (ro : Int) : Prop where
  disk : DiskIs w' bd S
  pb : PB S ro
  bel : Below w.heap.size w w'
  off : ∀ b, b < w.heap.size → S.role b = .none
theorem below_of {w w1 w2 : World} {ok : Nat → Prop} (h : Below w.heap.size w w1) (hos : w2.os = w1.os) (ht : w2.tape = w1.tape) (ho : w2.output = w1.output) (hs : w1.heap.size ≤ w2.heap.size) (hb : ∀ b, b < w1.heap.size → ok b → w2.heap[b]? = w1.heap[b]?) (hk : ∀ b, b < w.heap.size → ok b) : Below w.heap.size w w2 :=
  ⟨hos.trans h.os, ht.trans h.tape, ho.trans h.output, Nat.le_trans h.size hs, fun b hlt => (hb b (Nat.lt_of_lt_of_le hlt h.size) (hk b hlt)).trans (h.block b hlt)⟩
theorem Dv.next {w w1 w2 : World} {bd : Nat} {S S' : DS} {ro : Int} {ok : Bool} {l : List Tf} (h : Dv w w1 bd S ro) (hD : DiskIs w2 bd S') (hF : Fr w1 w2 S S') (hp : PS S S' ok l) (hw : Wf l ro) (hst : S.steps < 4611686018427387903) : Dv w w2 bd S' ro := by
  have hc := h.pb.cnt
  unfold Cnt at hc
  refine ⟨hD, ⟨hp.down, hp.plan, ?_, hp.room.trans h.pb.rm, h.pb.r0, by rw [hp.abs]; exact hw⟩, below_of h.bel hF.os hF.tape hF.output hF.size hF.block h.off, fun b hb => hF.role b (Nat.lt_of_lt_of_le hb h.bel.size) (h.off b hb)⟩
  unfold Cnt
  rw [hp.armed, hp.steps]
  split <;> omega
theorem wf_nil {ro : Int} (h : 0 ≤ ro) : Wf [] ro := ⟨by simp, by simpa [sumT] using h, by simp⟩
theorem Dv.new {w w1 : World} {bd : Nat} {S : DS} (hD : DiskIs w1 bd S) (hb : Below w.heap.size w w1) (hS : S = { room := 1073741824, bm := w.heap.size, down := false, steps := 0, armed := 0, pl := none, plan := fun _ => 0, fs := [], fl := S.fl, role := S.role }) (ho : ∀ b, b < w.heap.size → S.role b = .none) : Dv w w1 bd S 1073741824 ∧ absP S = [] ∧ S.steps = 0 := by
  have ha : absP S = [] := by rw [hS]; rfl
  refine ⟨⟨hD, ⟨by rw [hS], by rw [hS]; intro; rfl, ?_, by rw [hS], by omega, by rw [ha]; exact wf_nil (by omega)⟩, hb, ho⟩, ha, by rw [hS]⟩
  rw [hS]
  unfold Cnt
  show (0 : Int) ≤ 0 ∧ (0 : Int) ≤ 0 ∧ (0 : Int) < 4611686018427387904
  omega
/-- The document's disk, beside it. -/
theorem RB.next {R R' : RS} {ro : Int} {ok : Bool} {l : List Tf} (h : RB R ro) (hr : RPS R R' ok l) (hw : Wf l ro) (hsrt : Srt l) (hn : R.n < 4611686018427387903) : RB R' ro := by
  have hc2 := h.cnt
  unfold Rn at hc2
  refine ⟨hr.down, hr.plan, ?_, hr.room.trans h.rm, h.r0, by rw [hr.abs]; exact hw, by rw [hr.abs]; exact hsrt⟩
  unfold Rn
  rw [hr.n]
  split <;> omega
theorem fT_one (n : List UInt8) (a : List Int) (b : Int) : fT [(n, a, b)] n = some (n, a, b) := by simp [fT]
/-- Both disks, on the way. -/
structure Sv (w wr : World) (bd br : Nat) (S : DS) (R : RS) (data : List Int) (k : Nat) : Prop where
  two : Two wr bd br S R 1073741824
  bel : Below w.heap.size w wr
  off : ∀ b, b < w.heap.size → S.role b = .none ∧ R.own b = 0
  has : fT (absP S) (nb safeB) = some (nb safeB, data, (data.length : Int))
  st : S.steps ≤ 2 + k
  rn : R.n ≤ 2 + k
theorem Sv.more {w wr : World} {bd br : Nat} {S : DS} {R : RS} {data : List Int} {k : Nat} (h : Sv w wr bd br S R data k) : Sv w wr bd br S R data (k + 1) :=
  ⟨h.two, h.bel, h.off, h.has, by have := h.st; omega, by have := h.rn; omega⟩
theorem Sv.next {w wr w2 : World} {bd br : Nat} {S S' : DS} {R R' : RS} {data : List Int} {k : Nat} {kd x : Int} {s t : ByteArray} {bs : List Int} (h : Sv w wr bd br S R data k) (hT : Two w2 bd br S' R' 1073741824) (hF : F2 wr w2 S R S' R') (ha : absP S' = lOp (absP S) 1073741824 kd x s t bs) (hs : s ≠ safeB) (ht : t ≠ safeB) (h1 : S'.steps ≤ S.steps + 1) (h2 : R'.n ≤ R.n + 1) : Sv w w2 bd br S' R' data (k + 1) := by
  have e1 : nb safeB ≠ nb s := fun e => hs (nm_eq.2 e.symm)
  have e2 : nb safeB ≠ nb t := fun e => ht (nm_eq.2 e.symm)
  refine ⟨hT, below_of (ok := fun b => S.role b = .none ∧ R.own b = 0) h.bel hF.os hF.tape hF.output hF.size (fun b hb hk => hF.block b hb hk.1 hk.2) h.off, fun b hb => hF.off b (Nat.lt_of_lt_of_le hb h.bel.size) (h.off b hb).1 (h.off b hb).2, ?_, by have := h.st; omega, by have := h.rn; omega⟩
  rw [ha, lOp_f e1 e2]
  exact h.has
/-- The start of the loop. -/
theorem Sv.start {w w4 w6 : World} {bd br : Nat} {S : DS} {R0 R : RS} {data : List Int} (hl : data.length ≤ 1000) (hd : Dv w w4 bd S 1073741824) (hD : DiskIs w6 bd S) (hR : RefIs w6 br R) (hap : ∀ b, R.own b ≠ 0 → S.role b = .none) (hF : F2 w4 w6 S R0 S R) (h0 : ∀ b, b < w.heap.size → R0.own b = 0) (hb : RB R 1073741824) (ha : absP S = [(nb safeB, data, (data.length : Int))]) (hr : absR R.A = [(nb safeB, data, (data.length : Int))]) (h1 : S.steps ≤ 2) (h2 : R.n ≤ 2) : Sv w w6 bd br S R data 0 :=
  ⟨⟨hD, hd.pb, hR, hb, ha.trans hr.symm, hap⟩, below_of (ok := fun b => S.role b = .none ∧ R0.own b = 0) hd.bel hF.os hF.tape hF.output hF.size (fun b hb hk => hF.block b hb hk.1 hk.2) (fun b hb => ⟨hd.off b hb, h0 b hb⟩),
   fun b hb => hF.off b (Nat.lt_of_lt_of_le hb hd.bel.size) (hd.off b hb) (h0 b hb), by rw [ha]; exact fT_one _ _ _, by omega, by omega⟩
/-- Bytes as the walk meets them. -/
def Cs (w : World) (v : Value) (xs : List Int) : Prop := (v = .slice none 0 0 ∧ xs = []) ∨ ∃ g o cap, v = .slice (some ⟨g, o, none⟩) xs.length cap ∧ ∀ i, i < xs.length → w.cell? ⟨g, o + i, none⟩ = some (.int .u8 (xs.getD i 0))
theorem Cs.of {w : World} {v : Value} {xs : List Int} (hv : w.ownsRow 0 5 1 v xs.length (vB xs)) : Cs w v xs := by
  rcases hv.2 with ⟨rfl, h0⟩ | ⟨g, cap, cur, rfl, _⟩
  · exact Or.inl ⟨rfl, List.eq_nil_of_length_eq_zero h0⟩
  · refine Or.inr ⟨g, 0, cap, rfl, fun i hi => ?_⟩
    have := hv.cells (g := g) rfl i (.int .u8 (xs.getD i 0)) (by simp [vB, List.getElem?_eq_getElem hi])
    rw [Addr.add_lit] at this
    exact this
end Go.Proofs.YtconkienlcegaaaGreatDoor
/- disk: DiskSafe, the walk. -/
namespace Go.Proofs.YtconkienlcegaaaGreatDoor
open Go.RowKit Go.Maps Go.Joins
set_option linter.unusedSimpArgs false
set_option linter.unusedVariables false
theorem BytesV.lt {w : World} {v : Value} {bs : List Int} (h : BytesV w v bs) : ∀ b, dBlock v bs = some b → b < w.heap.size := by
  intro b hb
  cases bs with
  | nil => simp [dBlock] at hb
  | cons x bs =>
    rcases h with ⟨_, h0⟩ | ⟨ad, cap, rfl, hc⟩
    · cases h0
    · have h1 := hc 0 (.int .u8 x) rfl
      have h2 := cell_lt h1
      have h3 : (ad.add 0).block = ad.block := by unfold Addr.add; split <;> rfl
      have h4 : ad.block = b := by simpa [dBlock, Value.ownBlock] using hb
      omega
theorem IntsV.lt {w : World} {v : Value} {ks : List Int} (h : IntsV w v ks) : ∀ b, dBlock v ks = some b → b < w.heap.size := by
  intro b hb
  cases ks with
  | nil => simp [dBlock] at hb
  | cons x ks =>
    obtain ⟨a, cap, rfl, hc⟩ := h
    obtain ⟨b', o, rfl, h1⟩ := hc 0 x rfl
    have h2 := cell_lt h1
    have h4 : b' = b := by simpa [dBlock, Value.ownBlock] using hb
    have h5 : b' < w.heap.size := h2
    omega
theorem IntsV.below {w w' : World} {v : Value} {ks : List Int} (h : IntsV w v ks) (hb : Below w.heap.size w w') : IntsV w' v ks := by
  obtain ⟨a, cap, rfl, hc⟩ := h
  refine ⟨a, cap, rfl, fun j x hj => ?_⟩
  obtain ⟨b, o, rfl, h1⟩ := hc j x hj
  exact ⟨b, o, rfl, (hb.cell (p := ⟨b, o + j, none⟩) (cell_lt h1)).trans h1⟩
theorem Cs.below {w w' : World} {v : Value} {xs : List Int} (h : Cs w v xs) (hb : Below w.heap.size w w') : Cs w' v xs := by
  rcases h with h | ⟨g, o, cap, rfl, hc⟩
  · exact Or.inl h
  · exact Or.inr ⟨g, o, cap, rfl, fun i hi => (hb.cell (p := ⟨g, o + i, none⟩) (cell_lt (hc i hi))).trans (hc i hi)⟩
theorem Cs.cut {w : World} {base g cap : Nat} {ys xs : List Int} (h : w.ownsRow base 5 1 (.slice (some ⟨g, 0, none⟩) ys.length cap) ys.length (vB ys)) (hx : xs = ys.take xs.length) (hl : xs.length ≤ ys.length) : Cs w (.slice (some ⟨g, 0, none⟩) xs.length cap) xs := by
  refine Or.inr ⟨g, 0, cap, rfl, fun i hi => ?_⟩
  have e : xs.getD i 0 = ys.getD i 0 := by
    have h1 : xs[i]? = ys[i]? := by
      rw [hx, List.getElem?_take, if_pos hi]
    simp [List.getD, h1]
  have := h.cells (g := g) rfl i (.int .u8 (ys.getD i 0)) (by simp [vB, List.getElem?_eq_getElem (show i < ys.length by omega)])
  rw [Addr.add_lit] at this
  rw [e]
  exact this
end Go.Proofs.YtconkienlcegaaaGreatDoor
/- wal: how a log lies in memory; First, End, last. -/
namespace Go.Proofs.YtconkienlcegaaaGreatDoor
open Go.RowKit Go.Maps Go.Joins
set_option linter.unusedSimpArgs false
set_option linter.unusedVariables false
structure LS where
  bd : Nat
  nm : ByteArray
  most : Int
  fv : Value
  fs : List Int
  rv : Value
  rs : List (Value × List Int)
  size : Int
  uns : Bool
  own : Nat → Nat
def vI (l : List Int) : List Value := l.map (Value.int .i64)
def lC (L : LS) : Array Value := #[.pointer (some ⟨L.bd, 0, none⟩), .string L.nm, .int .i64 L.most, L.fv, L.rv, .int .i64 L.size, .bool L.uns]
/-- Block bl is a log. -/
structure LogIs (w : World) (bl : Nat) (L : LS) : Prop where
  log : w.heap[bl]? = some (.cells (lC L) 141)
  rl : L.own bl = 1
  files : w.ownsRow 0 3 1 L.fv L.fs.length (vI L.fs)
  rf : ∀ b, L.fv.ownBlock = some b → L.own b = 2
  recs : w.ownsRow 0 23 1 L.rv L.rs.length (L.rs.map (·.1))
  rr : ∀ b, L.rv.ownBlock = some b → L.own b = 3
  each : ∀ p ∈ L.rs, BytesV w p.1 p.2
  re : ∀ p ∈ L.rs, ∀ b, dBlock p.1 p.2 = some b → L.own b = 4
  fresh : ∀ b, w.heap.size ≤ b → L.own b = 0
theorem BytesV.keep {w w' : World} {v : Value} {bs : List Int} (h : BytesV w v bs) (hk : ∀ b, dBlock v bs = some b → w'.heap[b]? = w.heap[b]?) : BytesV w' v bs := by
  rcases h with h | ⟨ad, cap, rfl, hc⟩
  · exact Or.inl h
  · refine Or.inr ⟨ad, cap, rfl, fun j u hu => ?_⟩
    have hb : (ad.add j).block = ad.block := by unfold Addr.add; split <;> rfl
    refine (World.cell?_of_block (a := ad.add j) ?_).trans (hc j u hu)
    rw [hb]
    exact hk _ (by rw [dBlock_vB hu]; rfl)
theorem LogIs.kept {w w' : World} {bl : Nat} {L : LS} (h : LogIs w bl L) (hk : ∀ b, L.own b ≠ 0 → w'.heap[b]? = w.heap[b]?) (hs : w.heap.size ≤ w'.heap.size) : LogIs w' bl L where
  log := (hk bl (by rw [h.rl]; simp)).trans h.log
  rl := h.rl
  files := ownsRow_heap h.files (fun b hb => hk b (by rw [h.rf b hb]; simp))
  rf := h.rf
  recs := ownsRow_heap h.recs (fun b hb => hk b (by rw [h.rr b hb]; simp))
  rr := h.rr
  each := fun p hp => (h.each p hp).keep (fun b hb => hk b (by rw [h.re p hp b hb]; simp))
  re := h.re
  fresh := fun b hb => h.fresh b (by omega)
theorem LogIs.lt {w : World} {bl : Nat} {L : LS} (h : LogIs w bl L) : bl < w.heap.size := heap_lt h.log
theorem LogIs.own_lt {w : World} {bl b : Nat} {L : LS} (h : LogIs w bl L) (hb : L.own b ≠ 0) : b < w.heap.size := by
  rcases Nat.lt_or_ge b w.heap.size with h1 | h1
  · exact h1
  · exact absurd (h.fresh b h1) hb
theorem LogIs.below {w w' : World} {bl : Nat} {L : LS} (h : LogIs w bl L) (hb : Below w.heap.size w w') : LogIs w' bl L := h.kept (fun b hr => hb.block b (h.own_lt hr)) hb.size
/-- What lies beside a log stays. -/
structure LFr (w w' : World) (L L' : LS) : Prop where
  os : w'.os = w.os
  tape : w'.tape = w.tape
  output : w'.output = w.output
  size : w.heap.size ≤ w'.heap.size
  block : ∀ b, b < w.heap.size → L.own b = 0 → w'.heap[b]? = w.heap[b]?
  own : ∀ b, b < w.heap.size → L.own b = 0 → L'.own b = 0
theorem LFr.refl (w : World) (L : LS) : LFr w w L L := ⟨rfl, rfl, rfl, Nat.le_refl _, fun _ _ _ => rfl, fun _ _ h => h⟩
theorem LFr.trans {w w' w'' : World} {L L' L'' : LS} (h : LFr w w' L L') (k : LFr w' w'' L' L'') : LFr w w'' L L'' :=
  ⟨k.os.trans h.os, k.tape.trans h.tape, k.output.trans h.output, Nat.le_trans h.size k.size,
   fun b hb hr => (k.block b (Nat.lt_of_lt_of_le hb h.size) (h.own b hb hr)).trans (h.block b hb hr),
   fun b hb hr => k.own b (Nat.lt_of_lt_of_le hb h.size) (h.own b hb hr)⟩
theorem LFr.below {w w' : World} {L : LS} (h : Below w.heap.size w w') : LFr w w' L L :=
  ⟨h.os, h.tape, h.output, h.size, fun b hb _ => h.block b hb, fun _ _ hr => hr⟩
def fst (L : LS) : Int := L.fs.headD 0
def endL (L : LS) : Int := fst L + L.rs.length
/-- Numbers as they may be. -/
def LN (L : LS) : Prop := (∀ x ∈ L.fs, 0 ≤ x ∧ x < 1000000000) ∧ L.rs.length ≤ 1099511627776
theorem LN.fst {L : LS} (h : LN L) : 0 ≤ fst L ∧ fst L < 1000000000 := by
  unfold Proofs.YtconkienlcegaaaGreatDoor.fst
  cases hf : L.fs with
  | nil => simp
  | cons x r => exact h.1 x (by rw [hf]; simp)
theorem vI_length (l : List Int) : (vI l).length = l.length := by simp [vI]
theorem LogIs.file {w : World} {bl : Nat} {L : LS} (h : LogIs w bl L) : ∃ a c, L.fv = .slice a L.fs.length c ∧ ∀ j x, L.fs[j]? = some x → ∃ g, a = some ⟨g, 0, none⟩ ∧ w.cell? ⟨g, j, none⟩ = some (.int .i64 x) := by
  obtain ⟨a, c, e⟩ := row_form h.files
  refine ⟨a, c, e, fun j x hj => ?_⟩
  have hl := (List.getElem?_eq_some_iff.1 hj).1
  rcases h.files.2 with ⟨_, h0⟩ | ⟨g, cap', cur, e', _⟩
  · omega
  · rw [e] at e'
    injection e' with e1 e2 e3
    subst e1
    have h0 := h.files.cells (g := g) (by rw [e]; rfl) j (.int .i64 x) (by unfold vI; rw [List.getElem?_map, hj]; rfl)
    rw [Addr.add_lit, Nat.zero_add] at h0
    exact ⟨g, rfl, h0⟩
set_option maxHeartbeats 1000000 in
/-- First -/
theorem first_any {w : World} {bl : Nat} {L : LS} (h : LogIs w bl L) : Calls Tryz.prog 41 #[.pointer (some ⟨bl, 0, none⟩)] w fun e w' => e = .returned (.int .i64 (fst L)) ∧ w' = w := by
  have c3 : w.cell? ⟨bl, 3, none⟩ = some L.fv := by rw [cell_of_block h.log]; rfl
  obtain ⟨a, c, e, hc⟩ := h.file
  rw [e] at c3
  cases hf : L.fs with
  | nil =>
    rw [hf] at c3
    have HF : Hid (fst L = 0) := by show fst L = 0; unfold fst; rw [hf]; rfl
    clear h hc hf e
    go_enter Tryz.func41, Tryz.ntmps41
    go_wp2
    go_ret
    rw [HF.out]
    exact ⟨rfl, rfl⟩
  | cons x r =>
    obtain ⟨g, rfl, c0⟩ := hc 0 x (by rw [hf]; rfl)
    rw [hf] at c3
    have HF : Hid (fst L = x) := by show fst L = x; unfold fst; rw [hf]; rfl
    have hl : ((x :: r).length : Int) ≠ 0 := by rw [List.length_cons]; omega
    have hl2 : (0 : Int) < (x :: r).length := by rw [List.length_cons]; omega
    have hl3 : (((x :: r).length : Int) == 0) = false := by simpa using hl
    generalize (x :: r).length = n at c3 hl hl2 hl3
    clear h hc hf e
    go_enter Tryz.func41, Tryz.ntmps41
    go_wp2
    go_ret
    rw [HF.out]
    exact ⟨rfl, rfl⟩
theorem LogIs.drewN {w : World} {bl : Nat} {L : LS} (h : LogIs w bl L) (n : Nat) : LogIs (w.drewN n) bl L := h.kept (fun _ _ => rfl) (Nat.le_refl _)
set_option maxHeartbeats 1000000 in
/-- End -/
theorem end_any {w : World} {bl : Nat} {L : LS} (h : LogIs w bl L) (hn : LN L) : Calls Tryz.prog 42 #[.pointer (some ⟨bl, 0, none⟩)] w fun e w' => e = .returned (.int .i64 (endL L)) ∧ ∃ m, w' = w.drewN m := by
  have c4 : w.cell? ⟨bl, 4, none⟩ = some L.rv := by rw [cell_of_block h.log]; rfl
  obtain ⟨a, c, e⟩ := row_form h.recs
  rw [e] at c4
  have hf := fun n => first_any (h.drewN n)
  have HF : Hid _ := hf
  have hb := hn.fst
  have hb2 := hn.2
  have HE : Hid (endL L = fst L + L.rs.length) := rfl
  clear h hf e hn
  generalize fst L = F at *
  go_enter Tryz.func42, Tryz.ntmps42
  go_wp2_with fail
  go_quiet (first | (go_at_call 41; refine Calls.quiet_of_same (HF.out _)))
  go_wp2
  go_ret
  rw [HE.out]
  exact ⟨rfl, _, rfl⟩
set_option maxHeartbeats 1000000 in
/-- last -/
theorem last_any {w : World} {bl : Nat} {L : LS} (h : LogIs w bl L) {x : Int} (hx : L.fs.getLast? = some x) : Calls Tryz.prog 115 #[.pointer (some ⟨bl, 0, none⟩)] w fun e w' => e = .returned (.int .i64 x) ∧ ∃ m, w' = w.drewN m := by
  have c3 : w.cell? ⟨bl, 3, none⟩ = some L.fv := by rw [cell_of_block h.log]; rfl
  obtain ⟨a, c, e, hc⟩ := h.file
  rw [e] at c3
  rw [List.getLast?_eq_getElem?] at hx
  obtain ⟨g, rfl, c0⟩ := hc _ x hx
  have hl := (List.getElem?_eq_some_iff.1 hx).1
  have hm : L.fs.length ≤ 9223372036854775807 := by
    rcases h.files.2 with ⟨_, h0⟩ | ⟨g', cap', cur, _, _, _, h1, h2, _⟩
    · omega
    · unfold maxLen at h2
      omega
  generalize L.fs.length = n at *
  have h1 : 0 < n := by omega
  obtain ⟨k, rfl⟩ : ∃ k, n = k + 1 := ⟨n - 1, by omega⟩
  rw [Nat.add_sub_cancel] at c0
  have q1 : (k : Int) < ((k + 1 : Nat) : Int) := by omega
  clear h hc hx e hl h1
  go_enter Tryz.func115, Tryz.ntmps115
  go_wp2_with fail
  go_quiet (fail)
  go_wp2
  go_ret
  exact ⟨rfl, _, rfl⟩
end Go.Proofs.YtconkienlcegaaaGreatDoor
