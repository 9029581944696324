/- CB, CC, CE, CF, CI -/
import Derived.Test.YtoplejbmgpgkhaaGreatDoorCA
namespace Go.Proofs.YtoplejbmgpgkhaaGreatDoor
open Go.RowKit Go.Maps Go.Joins
set_option linter.unusedSimpArgs false
set_option linter.unusedVariables false
def fT (l : List Tf) (n : List UInt8) : Option Tf := l.find? fun p => p.1 == n
theorem fT_absP (S : DS) (n : List UInt8) : fT (absP S) n = (look S.fs n).map fun _ => ((n, (S.fl n).bs, (S.fl n).safe) : Tf) := by
  unfold fT absP look
  rw [List.find?_map, Option.map_map]
  cases h : S.fs.find? ((fun p : Tf => p.1 == n) ∘ fun p => (p.1, (S.fl p.1).bs, (S.fl p.1).safe)) with
  | none =>
    have : S.fs.find? (fun p => p.1 == n) = none := h
    rw [this]; rfl
  | some p =>
    have h1 : S.fs.find? (fun p => p.1 == n) = some p := h
    have h2 : p.1 = n := by simpa using List.find?_some h1
    rw [h1]
    simp [h2]
theorem fT_absR_none {s : ByteArray} {A : List RF} (h : idxR s A = -1) : fT (absR A) s.data.toList = none := by
  unfold fT
  rw [List.find?_eq_none]
  intro p hp
  obtain ⟨f, hf, rfl⟩ := List.mem_map.1 hp
  have := idxR_none h f hf
  simp only [tR, beq_iff_eq]
  exact fun e => this (nm_eq.2 e)
theorem fT_absR_some {s : ByteArray} : ∀ {A : List RF} {k : Nat} {f : RF}, idxR s A = (k : Nat) → A[k]? = some f → fT (absR A) s.data.toList = some (tR f) ∧ f.nm = s
  | [], k, f, h, _ => by simp [idxR] at h
  | a :: r, k, f, h, hf => by
    unfold idxR at h
    by_cases e : a.nm = s
    · rw [if_pos e] at h
      obtain rfl : k = 0 := by omega
      simp at hf
      subst hf
      refine ⟨?_, e⟩
      show List.find? _ (tR a :: absR r) = _
      rw [List.find?_cons_of_pos (by simp [tR, e])]
    · rw [if_neg e] at h
      by_cases e2 : idxR s r = -1
      · rw [if_pos e2] at h; omega
      · rw [if_neg e2] at h
        cases k with
        | zero => have := idxR_ge s r; omega
        | succ k =>
          have ih := fT_absR_some (s := s) (A := r) (k := k) (f := f) (by omega) (by simpa using hf)
          refine ⟨?_, ih.2⟩
          show List.find? _ (tR a :: absR r) = _
          rw [List.find?_cons_of_neg (by simp only [tR, beq_iff_eq]; exact fun e3 => e (nm_eq.2 e3))]
          exact ih.1
theorem fT_mem {l : List Tf} {n : List UInt8} {p : Tf} (h : fT l n = some p) : p ∈ l ∧ p.1 = n := ⟨List.mem_of_find?_eq_some h, by simpa using List.find?_some h⟩
theorem fT_set {l : List Tf} {n m : List UInt8} (hne : m ≠ n) (b : List Int) (s : Int) : fT (setT l n b s) m = fT l m := by
  unfold fT setT
  induction l with
  | nil => rfl
  | cons a r ih =>
    rw [List.map_cons]
    by_cases e : a.1 = n
    · rw [if_pos e, List.find?_cons_of_neg (by simpa using fun h => hne h.symm), List.find?_cons_of_neg (by simpa [e] using fun h => hne h.symm)]
      exact ih
    · rw [if_neg e]
      by_cases e2 : a.1 = m
      · rw [List.find?_cons_of_pos (by simpa using e2), List.find?_cons_of_pos (by simpa using e2)]
      · rw [List.find?_cons_of_neg (by simpa using e2), List.find?_cons_of_neg (by simpa using e2)]
        exact ih
theorem fT_del {l : List Tf} {n m : List UInt8} (hne : m ≠ n) : fT (delT l n) m = fT l m := by
  unfold fT delT
  induction l with
  | nil => rfl
  | cons a r ih =>
    by_cases e : a.1 = n
    · rw [List.filter_cons_of_neg (by simpa using e), List.find?_cons_of_neg (by simpa [e] using fun h => hne h.symm)]
      exact ih
    · rw [List.filter_cons_of_pos (by simpa using e)]
      by_cases e2 : a.1 = m
      · rw [List.find?_cons_of_pos (by simpa using e2), List.find?_cons_of_pos (by simpa using e2)]
      · rw [List.find?_cons_of_neg (by simpa using e2), List.find?_cons_of_neg (by simpa using e2)]
        exact ih
theorem fT_ins {x : Tf} {m : List UInt8} (hne : m ≠ x.1) : ∀ l : List Tf, fT (insT x l) m = fT l m
  | [] => by unfold fT insT; rw [List.find?_cons_of_neg (by simpa using fun h => hne h.symm)]
  | y :: r => by
    have ih := fT_ins hne r
    unfold fT at ih ⊢
    unfold insT
    split
    · rw [List.find?_cons_of_neg (by simpa using fun h => hne h.symm)]
    · by_cases e2 : y.1 = m
      · rw [List.find?_cons_of_pos (by simpa using e2), List.find?_cons_of_pos (by simpa using e2)]
      · rw [List.find?_cons_of_neg (by simpa using e2), List.find?_cons_of_neg (by simpa using e2)]
        exact ih
theorem fT_put {l : List Tf} {x : Tf} {m : List UInt8} (hne : m ≠ x.1) : fT (putT l x) m = fT l m := by
  unfold putT
  rw [fT_ins hne, fT_del hne]
/-- What a list of files keeps to. -/
structure Wf (l : List Tf) (room : Int) : Prop where
  len : l.length ≤ 16
  sum : (sumT l : Int) ≤ room
  safe : ∀ p ∈ l, 0 ≤ p.2.2 ∧ p.2.2 ≤ p.2.1.length
theorem len_ins (x : Tf) : ∀ l : List Tf, (insT x l).length = l.length + 1
  | [] => rfl
  | y :: r => by
    unfold insT
    split
    · rfl
    · simp [len_ins x r]
theorem sum_ins (x : Tf) : ∀ l : List Tf, sumT (insT x l) = sumT l + x.2.1.length
  | [] => by simp [insT, sumT]
  | y :: r => by
    unfold insT
    split
    · simp only [sumT]; omega
    · simp only [sumT, sum_ins x r]; omega
theorem mem_ins {x p : Tf} : ∀ {l : List Tf}, p ∈ insT x l → p = x ∨ p ∈ l
  | [], h => by simp [insT] at h; exact Or.inl h
  | y :: r, h => by
    unfold insT at h
    split at h
    · exact List.mem_cons.1 h
    · rcases List.mem_cons.1 h with h | h
      · exact Or.inr (by rw [h]; exact List.mem_cons_self ..)
      · rcases mem_ins h with h | h
        · exact Or.inl h
        · exact Or.inr (List.mem_cons_of_mem _ h)
theorem len_del (l : List Tf) (n : List UInt8) : (delT l n).length ≤ l.length := List.length_filter_le _ _
theorem sum_del (n : List UInt8) : ∀ l : List Tf, sumT (delT l n) ≤ sumT l
  | [] => Nat.le_refl _
  | a :: r => by
    have ih := sum_del n r
    unfold delT at ih ⊢
    by_cases e : a.1 = n
    · rw [List.filter_cons_of_neg (by simpa using e)]
      simp only [sumT]; omega
    · rw [List.filter_cons_of_pos (by simpa using e)]
      simp only [sumT]; omega
theorem del_here {n : List UInt8} {p : Tf} (hn : p.1 = n) : ∀ {l : List Tf}, p ∈ l → (delT l n).length + 1 ≤ l.length ∧ sumT (delT l n) + p.2.1.length ≤ sumT l
  | [], h => by cases h
  | a :: r, h => by
    by_cases e : a.1 = n
    · have e1 : delT (a :: r) n = delT r n := by unfold delT; rw [List.filter_cons_of_neg (by simpa using e)]
      rw [e1]
      have h1 := len_del r n
      have h2 := sum_del n r
      rcases List.mem_cons.1 h with rfl | h
      · simp only [List.length_cons, sumT]; omega
      · have := del_here hn h
        simp only [List.length_cons, sumT]; omega
    · have e1 : delT (a :: r) n = a :: delT r n := by unfold delT; rw [List.filter_cons_of_pos (by simpa using e)]
      rw [e1]
      rcases List.mem_cons.1 h with rfl | h
      · exact absurd hn e
      · have := del_here hn h
        simp only [List.length_cons, sumT]; omega
theorem Wf.del {l : List Tf} {room : Int} (h : Wf l room) (n : List UInt8) : Wf (delT l n) room :=
  ⟨Nat.le_trans (len_del l n) h.len, by have := sum_del n l; have := h.sum; omega, fun p hp => h.safe p (List.mem_filter.1 hp).1⟩
theorem Wf.put {l : List Tf} {room : Int} (h : Wf l room) (x : Tf) (hl : (delT l x.1).length ≤ 15) (hs : (sumT (delT l x.1) : Int) + x.2.1.length ≤ room) (hx : 0 ≤ x.2.2 ∧ x.2.2 ≤ x.2.1.length) : Wf (putT l x) room := by
  unfold putT
  refine ⟨by rw [len_ins]; omega, by rw [sum_ins]; simp; omega, fun p hp => ?_⟩
  rcases mem_ins hp with rfl | hp
  · exact hx
  · exact h.safe p (List.mem_filter.1 hp).1
theorem Wf.set {l : List Tf} {room : Int} (hsrt : Srt l) (h : Wf l room) {n : List UInt8} {p : Tf} (hp : p ∈ l) (hn : p.1 = n) (b : List Int) (s : Int) (hsum : (sumT l : Int) + b.length ≤ room + p.2.1.length) (hx : 0 ≤ s ∧ s ≤ b.length) : Wf (setT l n b s) room := by
  rw [← putT_here (b := b) (s := s) hsrt ⟨p, hp, hn⟩]
  have h1 := del_here hn hp
  have h2 := h.len
  exact h.put (n, b, s) (by show (delT l n).length ≤ 15; omega) (by show (sumT (delT l n) : Int) + b.length ≤ room; omega) hx
end Go.Proofs.YtoplejbmgpgkhaaGreatDoor
namespace Go.Proofs.YtoplejbmgpgkhaaGreatDoor
open Go.RowKit Go.Maps Go.Joins
set_option linter.unusedSimpArgs false
set_option linter.unusedVariables false
abbrev nb (s : ByteArray) : List UInt8 := s.data.toList
def eFind (l : List Tf) (s : ByteArray) : Int := if nameB s then (if (fT l (nb s)).isSome then 0 else 33) else 1
def lSync (l : List Tf) (s : ByteArray) : List Tf := if nameB s then (match fT l (nb s) with | some p => setT l (nb s) p.2.1 p.2.1.length | none => l) else l
def lRem (l : List Tf) (s : ByteArray) : List Tf := if nameB s then (if (fT l (nb s)).isSome then delT l (nb s) else l) else l
def eTru (l : List Tf) (s : ByteArray) (x : Int) : Int := if nameB s then (match fT l (nb s) with | some p => if x < 0 ∨ (p.2.1.length : Int) < x then 1 else 0 | none => 33) else 1
def lTru (l : List Tf) (s : ByteArray) (x : Int) : List Tf := if nameB s then (match fT l (nb s) with | some p => if x < 0 ∨ (p.2.1.length : Int) < x then l else setT l (nb s) (p.2.1.take x.toNat) x | none => l) else l
def lRen (l : List Tf) (s t : ByteArray) : List Tf := if nameB s && nameB t then (match fT l (nb s) with | some p => if p.2.2 = p.2.1.length then putT (delT l (nb s)) (nb t, p.2.1, p.2.2) else l | none => l) else l
def eApp (l : List Tf) (room : Int) (s : ByteArray) (bs : List Int) : Int := if nameB s then (if fT l (nb s) = none ∧ 16 ≤ l.length then 3 else if room < (sumT l : Int) + bs.length then 30 else 0) else 1
def lApp (l : List Tf) (room : Int) (s : ByteArray) (bs : List Int) : List Tf := if nameB s then (if fT l (nb s) = none ∧ 16 ≤ l.length then l else if room < (sumT l : Int) + bs.length then l else (match fT l (nb s) with | some p => setT l (nb s) (p.2.1 ++ bs) p.2.2 | none => putT l (nb s, bs, 0))) else l
/-- A disk without faults. -/
structure PB (S : DS) (ro : Int) : Prop where
  down : S.down = false
  plan : ∀ x, S.plan x = 0
  cnt : Cnt S
  rm : S.room = ro
  r0 : 0 ≤ ro ∧ ro ≤ 1073741824
  wf : Wf (absP S) ro
/-- What a call leaves. -/
structure PS (S S' : DS) (ok : Bool) (l : List Tf) : Prop where
  room : S'.room = S.room
  down : S'.down = false
  armed : S'.armed = S.armed
  plan : ∀ x, S'.plan x = 0
  steps : S'.steps = S.steps + (if ok then 1 else 0)
  abs : absP S' = l
theorem okN1 (s : ByteArray) : okN [s] = nameB s := by simp [okN]
theorem PS.no {S : DS} {room : Int} (h : PB S room) : PS S S false (absP S) := ⟨rfl, h.down, rfl, h.plan, by simp, rfl⟩
theorem PS.up {S : DS} {room : Int} (h : PB S room) : PS S { S with down := false, steps := S.steps + 1 } true (absP S) := ⟨rfl, rfl, rfl, h.plan, by simp, rfl⟩
theorem fT_none {S : DS} {n : List UInt8} (h : look S.fs n = none) : fT (absP S) n = none := by rw [fT_absP, h]; rfl
theorem fT_some {S : DS} {n : List UInt8} {g : Nat} (h : look S.fs n = some g) : fT (absP S) n = some (n, (S.fl n).bs, (S.fl n).safe) := by rw [fT_absP, h]; rfl
theorem findV1 {S : DS} {ns : List ByteArray} (h : stepE S ns = 0) : findV S ns = look S.fs (ns.headD ByteArray.empty).data.toList := by simp [findV, h]
end Go.Proofs.YtoplejbmgpgkhaaGreatDoor
namespace Go.Proofs.YtoplejbmgpgkhaaGreatDoor
open Go.RowKit Go.Maps Go.Joins
set_option linter.unusedSimpArgs false
set_option linter.unusedVariables false
structure RB (R : RS) (ro : Int) : Prop where
  down : R.down = false
  plan : R.plan = []
  cnt : Rn R
  rm : R.room = ro
  r0 : 0 ≤ ro ∧ ro ≤ 1073741824
  wf : Wf (absR R.A) ro
  srt : Srt (absR R.A)
structure RPS (R R' : RS) (ok : Bool) (l : List Tf) : Prop where
  room : R'.room = R.room
  down : R'.down = false
  plan : R'.plan = []
  n : R'.n = R.n + (if ok then 1 else 0)
  abs : absR R'.A = l
theorem RB.planR {R : RS} {ro : Int} (h : RB R ro) : PlanR R := PlanR.nil h.plan
theorem RPS.no {R : RS} {ro : Int} (h : RB R ro) : RPS R R false (absR R.A) := ⟨rfl, h.down, h.plan, by simp, rfl⟩
theorem RPS.up {R : RS} {ro : Int} (h : RB R ro) : RPS R { R with n := R.n + 1 } true (absR R.A) := ⟨rfl, h.down, h.plan, by simp, rfl⟩
theorem RB.len {R : RS} {ro : Int} (h : RB R ro) : R.A.length ≤ 16 := by
  have := h.wf.len
  unfold absR at this
  rw [List.length_map] at this
  exact this
theorem idx_cases (s : ByteArray) (A : List RF) : idxR s A = -1 ∨ ∃ k f, idxR s A = (k : Nat) ∧ A[k]? = some f := by
  rcases Int.lt_or_le (idxR s A) 0 with h | h
  · have := idxR_ge s A
    exact Or.inl (by omega)
  · obtain ⟨k, f, h1, h2, _⟩ := idxR_some h
    exact Or.inr ⟨k, f, h1, h2⟩
theorem nn (s : ByteArray) : (nameB s && nameB s) = nameB s := by cases nameB s <;> rfl
end Go.Proofs.YtoplejbmgpgkhaaGreatDoor
namespace Go.Proofs.YtoplejbmgpgkhaaGreatDoor
open Go.RowKit Go.Maps Go.Joins
set_option linter.unusedSimpArgs false
set_option linter.unusedVariables false
/-- Both disks, side by side. -/
structure Two (w : World) (bd br : Nat) (S : DS) (R : RS) (ro : Int) : Prop where
  disk : DiskIs w bd S
  pb : PB S ro
  ref : RefIs w br R
  rb : RB R ro
  same : absP S = absR R.A
  apart : ∀ b, R.own b ≠ 0 → S.role b = .none
/-- What lies beside both stays. -/
structure F2 (w w' : World) (S : DS) (R : RS) (S' : DS) (R' : RS) : Prop where
  os : w'.os = w.os
  tape : w'.tape = w.tape
  output : w'.output = w.output
  size : w.heap.size ≤ w'.heap.size
  block : ∀ b, b < w.heap.size → S.role b = .none → R.own b = 0 → w'.heap[b]? = w.heap[b]?
  off : ∀ b, b < w.heap.size → S.role b = .none → R.own b = 0 → S'.role b = .none ∧ R'.own b = 0
theorem F2.refl (w : World) (S : DS) (R : RS) : F2 w w S R S R := ⟨rfl, rfl, rfl, Nat.le_refl _, fun _ _ _ _ => rfl, fun _ _ h h' => ⟨h, h'⟩⟩
theorem F2.trans {w w' w'' : World} {S S' S'' : DS} {R R' R'' : RS} (h : F2 w w' S R S' R') (k : F2 w' w'' S' R' S'' R'') : F2 w w'' S R S'' R'' :=
  ⟨k.os.trans h.os, k.tape.trans h.tape, k.output.trans h.output, Nat.le_trans h.size k.size,
   fun b hb h1 h2 => (k.block b (Nat.lt_of_lt_of_le hb h.size) (h.off b hb h1 h2).1 (h.off b hb h1 h2).2).trans (h.block b hb h1 h2),
   fun b hb h1 h2 => k.off b (Nat.lt_of_lt_of_le hb h.size) (h.off b hb h1 h2).1 (h.off b hb h1 h2).2⟩
theorem F2.below {w w' : World} {S : DS} {R : RS} (h : Below w.heap.size w w') : F2 w w' S R S R := ⟨h.os, h.tape, h.output, h.size, fun b hb _ _ => h.block b hb, fun _ _ h1 h2 => ⟨h1, h2⟩⟩
/-- The program's disk is called. -/
structure Mid (w w1 : World) (bd br : Nat) (S S' : DS) (R : RS) : Prop where
  disk : DiskIs w1 bd S'
  ref : RefIs w1 br R
  apart : ∀ b, R.own b ≠ 0 → S'.role b = .none
  f2 : F2 w w1 S R S' R
theorem Two.first {w w1 : World} {bd br : Nat} {S S' : DS} {R : RS} {ro : Int} (h : Two w bd br S R ro) (hD : DiskIs w1 bd S') (hF : Fr w w1 S S') : Mid w w1 bd br S S' R :=
  ⟨hD, h.ref.kept (fun b hb => hF.block b (h.ref.own_lt hb) (h.apart b hb)) hF.size, fun b hb => hF.role b (h.ref.own_lt hb) (h.apart b hb),
   ⟨hF.os, hF.tape, hF.output, hF.size, fun b hb h1 _ => hF.block b hb h1, fun b hb h1 h2 => ⟨hF.role b hb h1, h2⟩⟩⟩
theorem Two.next {w w2 : World} {bd br : Nat} {S S' : DS} {R R' : RS} {ro : Int} {ok : Bool} {l : List Tf} (h : Two w bd br S R ro) (hD : DiskIs w2 bd S') (hR : RefIs w2 br R') (hap : ∀ b, R'.own b ≠ 0 → S'.role b = .none) (hp : PS S S' ok l) (hr : RPS R R' ok l) (hw : Wf l ro) (hst : S.steps < 4611686018427387903) (hn : R.n < 4611686018427387903) : Two w2 bd br S' R' ro := by
  have hc := h.pb.cnt
  have hc2 := h.rb.cnt
  unfold Cnt at hc
  unfold Rn at hc2
  refine ⟨hD, ⟨hp.down, hp.plan, ?_, hp.room.trans h.pb.rm, h.pb.r0, by rw [hp.abs]; exact hw⟩, hR, ⟨hr.down, hr.plan, ?_, hr.room.trans h.rb.rm, h.pb.r0, by rw [hr.abs]; exact hw, ?_⟩, by rw [hp.abs, hr.abs], hap⟩
  · unfold Cnt
    rw [hp.armed, hp.steps]
    split <;> omega
  · unfold Rn
    rw [hr.n]
    split <;> omega
  · rw [hr.abs, ← hp.abs]
    exact hD.srt
end Go.Proofs.YtoplejbmgpgkhaaGreatDoor
namespace Go.Proofs.YtoplejbmgpgkhaaGreatDoor
open Go.RowKit Go.Maps Go.Joins
set_option linter.unusedSimpArgs false
set_option linter.unusedVariables false
theorem sync_wf {l : List Tf} {ro : Int} (hs : Srt l) (h : Wf l ro) (s : ByteArray) : Wf (lSync l s) ro := by
  unfold lSync
  split
  · split
    · rename_i p hp
      have := fT_mem hp
      exact Wf.set hs h this.1 this.2 _ _ (by have := h.sum; omega) ⟨by omega, by omega⟩
    · exact h
  · exact h
theorem sync_f {l : List Tf} {m : List UInt8} {s : ByteArray} (hne : m ≠ nb s) : fT (lSync l s) m = fT l m := by
  unfold lSync
  split
  · split
    · exact fT_set hne _ _
    · rfl
  · rfl
theorem rem_f {l : List Tf} {m : List UInt8} {s : ByteArray} (hne : m ≠ nb s) : fT (lRem l s) m = fT l m := by
  unfold lRem
  split
  · split
    · exact fT_del hne
    · rfl
  · rfl
theorem tru_wf {l : List Tf} {ro : Int} (hs : Srt l) (h : Wf l ro) (s : ByteArray) (x : Int) : Wf (lTru l s x) ro := by
  unfold lTru
  split
  · split
    · rename_i p hp
      split
      · exact h
      · rename_i hx
        have h1 := fT_mem hp
        have h2 := List.length_take (l := p.2.1) (i := x.toNat)
        refine Wf.set hs h h1.1 h1.2 _ _ (by have := h.sum; omega) ⟨by omega, by omega⟩
    · exact h
  · exact h
theorem tru_f {l : List Tf} {m : List UInt8} {s : ByteArray} {x : Int} (hne : m ≠ nb s) : fT (lTru l s x) m = fT l m := by
  unfold lTru
  split
  · split
    · split
      · rfl
      · exact fT_set hne _ _
    · rfl
  · rfl
theorem ren_f {l : List Tf} {m : List UInt8} {s t : ByteArray} (hne : m ≠ nb s) (hnt : m ≠ nb t) : fT (lRen l s t) m = fT l m := by
  unfold lRen
  split
  · split
    · split
      · exact (fT_put hnt).trans (fT_del hne)
      · rfl
    · rfl
  · rfl
theorem app_wf {l : List Tf} {ro : Int} (hs : Srt l) (h : Wf l ro) (s : ByteArray) (bs : List Int) : Wf (lApp l ro s bs) ro := by
  unfold lApp
  split
  · split
    · exact h
    · rename_i hn
      split
      · exact h
      · rename_i hr
        split
        · rename_i p hp
          have h1 := fT_mem hp
          have h7 := h.safe p h1.1
          refine Wf.set hs h h1.1 h1.2 _ _ ?_ ?_
          · rw [List.length_append]; omega
          · rw [List.length_append]; omega
        · rename_i hp
          have h3 := len_del l (nb s)
          have h4 := sum_del (nb s) l
          have h6 : l.length < 16 := by
            rcases Nat.lt_or_ge l.length 16 with h8 | h8
            · exact h8
            · exact absurd ⟨hp, h8⟩ hn
          refine Wf.put h _ ?_ ?_ ?_
          · show (delT l (nb s)).length ≤ 15
            omega
          · show (sumT (delT l (nb s)) : Int) + bs.length ≤ ro
            omega
          · show (0 : Int) ≤ 0 ∧ (0 : Int) ≤ bs.length
            omega
  · exact h
theorem app_f {l : List Tf} {ro : Int} {m : List UInt8} {s : ByteArray} {bs : List Int} (hne : m ≠ nb s) : fT (lApp l ro s bs) m = fT l m := by
  unfold lApp
  split
  · split
    · rfl
    · split
      · rfl
      · split
        · exact fT_set hne _ _
        · exact fT_put hne
  · rfl
/-- What does makes of the files. -/
def lOp (l : List Tf) (ro : Int) (k x : Int) (s t : ByteArray) (bs : List Int) : List Tf :=
  if k = 1 then lApp l ro s bs else if k = 2 then lSync l s else if k = 3 then lTru l s x else if k = 4 then lRen l s t else if k = 5 then lRem l s else l
theorem lOp_f {l : List Tf} {ro : Int} {m : List UInt8} {k x : Int} {s t : ByteArray} {bs : List Int} (hne : m ≠ nb s) (hnt : m ≠ nb t) : fT (lOp l ro k x s t bs) m = fT l m := by
  unfold lOp
  repeat' split
  · exact app_f hne
  · exact sync_f hne
  · exact tru_f hne
  · exact ren_f hne hnt
  · exact rem_f hne
  · rfl
end Go.Proofs.YtoplejbmgpgkhaaGreatDoor
