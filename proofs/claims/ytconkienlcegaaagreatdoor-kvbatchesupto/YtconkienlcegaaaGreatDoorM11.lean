/- RG, RI, CA, CB, CC, CE, CF, CI, laid into one text. -/
import Derived.Test.YtconkienlcegaaaGreatDoorM10
/- disk: the document's Sync, Truncate. -/
namespace Go.Proofs.YtconkienlcegaaaGreatDoor
open Go.RowKit Go.Maps Go.Joins
set_option linter.unusedSimpArgs false
set_option linter.unusedVariables false
/-- One file of the list is another. -/
theorem RefIs.setF {w w' : World} {br : Nat} {R : RS} (h : RefIs w br R) {k g : Nat} (hg : R.lv.ownBlock = some g) (f' : RF) (hk : ∀ b, b ≠ g → w'.heap[b]? = w.heap[b]?) (hs : w.heap.size ≤ w'.heap.size)
    (hl : w'.ownsRow 0 119 3 R.lv (R.A.set k f').length (rfL (R.A.set k f'))) (hr : w.ownsRow 0 5 1 f'.bv f'.bs.length (vB f'.bs)) (ho : ∀ b, f'.bv.ownBlock = some b → R.own b = 3) (hn : f'.nm.size ≤ 9223372036854775807) : RefIs w' br { R with A := R.A.set k f' } := by
  have h2 := h.rl g hg
  have hk' : ∀ b, R.own b ≠ 2 → w'.heap[b]? = w.heap[b]? := fun b hb => hk b (fun e => hb (by rw [e]; exact h2))
  have hmem : ∀ x ∈ R.A.set k f', x = f' ∨ x ∈ R.A := fun x hx => (List.mem_or_eq_of_mem_set hx).symm
  refine ⟨?_, h.rd, hl, h.rl, fun x hx => ?_, fun x hx b hb => ?_, fun x hx => ?_, ?_, h.rp, fun b hb => h.fresh b (by omega)⟩
  · exact (hk' br (by rw [h.rd]; simp)).trans h.disk
  · rcases hmem x hx with rfl | hx
    · exact ownsRow_heap hr (fun b hb => hk' b (by rw [ho b hb]; simp))
    · exact ownsRow_heap (h.row x hx) (fun b hb => hk' b (by rw [h.rr x hx b hb]; simp))
  · rcases hmem x hx with rfl | hx
    · exact ho b hb
    · exact h.rr x hx b hb
  · rcases hmem x hx with rfl | hx
    · exact hn
    · exact h.nm x hx
  · exact ownsRow_heap h.plan (fun b hb => hk' b (by rw [h.rp b hb]; simp))
theorem RefIs.frF {w w' : World} {br : Nat} {R : RS} (h : RefIs w br R) {k g : Nat} (hg : R.lv.ownBlock = some g) (f' : RF) (hk : ∀ b, b ≠ g → w'.heap[b]? = w.heap[b]?) (hs : w.heap.size ≤ w'.heap.size) (ho : w'.os = w.os ∧ w'.tape = w.tape ∧ w'.output = w.output) : RFr w w' R { R with A := R.A.set k f' } :=
  ⟨ho.1, ho.2.1, ho.2.2, hs, fun b _ hr => hk b (fun e => by rw [e, h.rl g hg] at hr; cases hr), fun _ _ h => h⟩
end Go.Proofs.YtconkienlcegaaaGreatDoor
/- disk: the document's Rename. -/
namespace Go.Proofs.YtconkienlcegaaaGreatDoor
open Go.RowKit Go.Maps Go.Joins
set_option linter.unusedSimpArgs false
set_option linter.unusedVariables false
/-- What put leaves. -/
theorem RefIs.putL {w w' : World} {br : Nat} {R : RS} (h : RefIs w br R) (f : RF) (ov : Value) (hl : w'.ownsRow (w.heap.size + 1) 119 3 ov (putR f R.A).length (rfL (putR f R.A))) (hd : w'.heap[br]? = some (.cells (rC { R with lv := ov }) 55)) (hG : w.grownBy w' (some br))
    (hr : w.ownsRow 0 5 1 f.bv f.bs.length (vB f.bs)) (hown : ∀ b, f.bv.ownBlock = some b → R.own b = 0 ∨ R.own b = 3) (hn : f.nm.size ≤ 9223372036854775807) : RefIs w' br (setA R ov (putR f R.A) f.bv.ownBlock) := by
  refine h.setL ov (putR f R.A) f.bv.ownBlock (fun b h1 h2 => hG.block b h1 (fun e => by injection e with e; exact h2 e)) hG.size hd (ownsRow_le hl (by omega)) (fun b hb => ⟨(hr.lt b hb).2, hown b hb⟩) (fun x hx => ?_)
  rcases putR_mem hx with hx | rfl
  · exact Or.inl hx
  · refine Or.inr ⟨ownsRow_heap hr (fun b hb => hG.block b (hr.lt b hb).2 (fun e => ?_)), rfl, hn⟩
    injection e with e
    have := hown b hb
    rw [e, h.rd] at this
    rcases this with h1 | h1 <;> cases h1
end Go.Proofs.YtconkienlcegaaaGreatDoor
/- disk: the two disks held against each other. -/
namespace Go.Proofs.YtconkienlcegaaaGreatDoor
open Go.RowKit Go.Maps Go.Joins
set_option linter.unusedSimpArgs false
set_option linter.unusedVariables false
/-- A file, told: its name, its bytes, how many are safe. -/
abbrev Tf := List UInt8 × List Int × Int
def absP (S : DS) : List Tf := S.fs.map fun p => (p.1, (S.fl p.1).bs, (S.fl p.1).safe)
def tR (f : RF) : Tf := (f.nm.data.toList, f.bs, f.sf)
def absR (A : List RF) : List Tf := A.map tR
def insT (x : Tf) : List Tf → List Tf
  | [] => [x]
  | y :: r => if bytesBefore x.1 y.1 then x :: y :: r else y :: insT x r
def delT (l : List Tf) (n : List UInt8) : List Tf := l.filter fun p => !(p.1 == n)
def putT (l : List Tf) (x : Tf) : List Tf := insT x (delT l x.1)
def setT (l : List Tf) (n : List UInt8) (b : List Int) (s : Int) : List Tf := l.map fun p => if p.1 = n then (n, b, s) else p
def Srt (l : List Tf) : Prop := l.Pairwise fun p q => bytesBefore p.1 q.1 = true
def sumT : List Tf → Nat
  | [] => 0
  | p :: r => p.2.1.length + sumT r
theorem nm_eq {a b : ByteArray} : a = b ↔ a.data.toList = b.data.toList := by
  constructor
  · intro h; rw [h]
  · intro h
    cases a; cases b
    simp at h
    rw [h]
/-! the program's -/
theorem map_insL {S' : DS} (x : List UInt8 × Nat) : ∀ l : List (List UInt8 × Nat), (insL x l).map (fun p => ((p.1, (S'.fl p.1).bs, (S'.fl p.1).safe) : Tf)) = insT (x.1, (S'.fl x.1).bs, (S'.fl x.1).safe) (l.map fun p => (p.1, (S'.fl p.1).bs, (S'.fl p.1).safe))
  | [] => rfl
  | y :: r => by
    simp only [insL, List.map_cons, insT]
    split
    · rfl
    · rw [List.map_cons, map_insL x r]
theorem absP_put (S S' : DS) (n : List UInt8) (g : Nat) (l : List (List UInt8 × Nat)) (hfs : S'.fs = putL l n g) (hfl : ∀ m, m ≠ n → S'.fl m = S.fl m) : absP S' = putT (l.map fun p => (p.1, (S.fl p.1).bs, (S.fl p.1).safe)) (n, (S'.fl n).bs, (S'.fl n).safe) := by
  unfold absP putT
  rw [hfs]
  unfold putL
  rw [map_insL]
  congr 1
  unfold delT delL
  rw [List.filter_map]
  apply List.map_congr_left
  intro p hp
  have h1 : p.1 ≠ n := by simpa using (List.mem_filter.1 hp).2
  rw [hfl _ h1]
theorem absP_set (S : DS) (n : List UInt8) (f : FileC) (z : Nat) : absP (setFl S n f z) = setT (absP S) n f.bs f.safe := by
  unfold absP setT
  rw [List.map_map]
  apply List.map_congr_left
  intro p _
  show (p.1, (if p.1 = n then f else S.fl p.1).bs, (if p.1 = n then f else S.fl p.1).safe) = if p.1 = n then (n, f.bs, f.safe) else _
  by_cases e : p.1 = n
  · rw [if_pos e, if_pos e, e]
  · rw [if_neg e, if_neg e]
theorem DiskIs.srt {w : World} {bd : Nat} {S : DS} (h : DiskIs w bd S) : Srt (absP S) := by
  obtain ⟨es, he, hp, _⟩ := h.files.canon law9
  have : S.fs.map toE = es := by
    unfold toD at he
    injection he
  rw [← this, List.pairwise_map] at hp
  unfold Srt absP
  rw [List.pairwise_map]
  exact hp
theorem total_sumT (S : DS) : total S = sumT (absP S) := by
  unfold total absP
  generalize S.fs = l
  induction l with
  | nil => rfl
  | cons p r ih =>
    have : sumL (fun n => (S.fl n).bs.length) (fun _ => false) (p :: r) = (S.fl p.1).bs.length + sumL (fun n => (S.fl n).bs.length) (fun _ => false) r := by simp [sumL]
    rw [this, ih]
    rfl
/-! the document's -/
theorem insT_front {x : Tf} : ∀ {l : List Tf}, (∀ p ∈ l, bytesBefore x.1 p.1 = true) → insT x l = x :: l
  | [], _ => rfl
  | y :: r, h => by simp only [insT, h y (List.mem_cons_self ..), if_true]
theorem map_same {l : List Tf} {f : Tf → Tf} (h : ∀ p ∈ l, f p = p) : l.map f = l := by
  have := List.map_congr_left (g := id) h
  rw [this, List.map_id]
theorem putT_here {n : List UInt8} {b : List Int} {s : Int} : ∀ {l : List Tf}, Srt l → (∃ p ∈ l, p.1 = n) → putT l (n, b, s) = setT l n b s
  | [], _, h => by obtain ⟨p, hp, _⟩ := h; cases hp
  | a :: r, hs, h => by
    have hs' := hs
    unfold Srt at hs'
    rw [List.pairwise_cons] at hs'
    unfold putT
    by_cases e : a.1 = n
    · have hno : ∀ p ∈ r, p.1 ≠ n := fun p hp e2 => by
        have := hs'.1 p hp
        rw [e, e2, WideAt.bytes_irrefl] at this
        cases this
      have e1 : delT (a :: r) n = r := by
        unfold delT
        rw [List.filter_cons_of_neg (by simpa using e), List.filter_eq_self.2 (fun p hp => by simpa using hno p hp)]
      have e2 : setT (a :: r) n b s = (n, b, s) :: r := by
        unfold setT
        rw [List.map_cons, if_pos e]
        congr 1
        exact map_same (fun p hp => if_neg (hno p hp))
      show insT _ (delT (a :: r) n) = _
      rw [e1, e2]
      exact insT_front (fun p hp => by rw [← e]; exact hs'.1 p hp)
    · have h' : ∃ p ∈ r, p.1 = n := by
        obtain ⟨p, hp, hpn⟩ := h
        rcases List.mem_cons.1 hp with rfl | hp
        · exact absurd hpn e
        · exact ⟨p, hp, hpn⟩
      have ih := putT_here (b := b) (s := s) hs'.2 h'
      unfold putT at ih
      have hb : bytesBefore n a.1 = false := by
        obtain ⟨p, hp, hpn⟩ := h'
        have h1 := hs'.1 p hp
        rw [hpn] at h1
        cases h2 : bytesBefore n a.1 with
        | false => rfl
        | true => exact absurd (WideShapes.bytes_trans _ _ _ h1 h2) (by rw [WideAt.bytes_irrefl]; simp)
      have e1 : delT (a :: r) n = a :: delT r n := by
        unfold delT
        rw [List.filter_cons_of_pos (by simpa using e)]
      show insT _ (delT (a :: r) n) = _
      rw [e1]
      simp only [insT, hb]
      unfold setT
      rw [List.map_cons, if_neg e]
      show a :: insT (n, b, s) (delT r n) = _
      rw [ih]
      rfl
end Go.Proofs.YtconkienlcegaaaGreatDoor
/- disk: the calls, told over lists of files. -/
namespace Go.Proofs.YtconkienlcegaaaGreatDoor
open Go.RowKit Go.Maps Go.Joins
set_option linter.unusedSimpArgs false
set_option linter.unusedVariables false
def fT (l : List Tf) (n : List UInt8) : Option Tf := l.find? fun p => p.1 == n
theorem fT_absP (S : DS) (n : List UInt8) : fT (absP S) n = (look S.fs n).map fun _ => ((n, (S.fl n).bs, (S.fl n).safe) : Tf) := by
  unfold fT absP look
  rw [List.find?_map, Option.map_map]
  cases h : S.fs.find? ((fun p : Tf => p.1 == n) ∘ fun p => (p.1, (S.fl p.1).bs, (S.fl p.1).safe)) with
  | none =>
    have : S.fs.find? (fun p => p.1 == n) = none := h
    rw [this]; rfl
  | some p =>
    have h1 : S.fs.find? (fun p => p.1 == n) = some p := h
    have h2 : p.1 = n := by simpa using List.find?_some h1
    rw [h1]
    simp [h2]
theorem fT_mem {l : List Tf} {n : List UInt8} {p : Tf} (h : fT l n = some p) : p ∈ l ∧ p.1 = n := ⟨List.mem_of_find?_eq_some h, by simpa using List.find?_some h⟩
theorem fT_set {l : List Tf} {n m : List UInt8} (hne : m ≠ n) (b : List Int) (s : Int) : fT (setT l n b s) m = fT l m := by
  unfold fT setT
  induction l with
  | nil => rfl
  | cons a r ih =>
    rw [List.map_cons]
    by_cases e : a.1 = n
    · rw [if_pos e, List.find?_cons_of_neg (by simpa using fun h => hne h.symm), List.find?_cons_of_neg (by simpa [e] using fun h => hne h.symm)]
      exact ih
    · rw [if_neg e]
      by_cases e2 : a.1 = m
      · rw [List.find?_cons_of_pos (by simpa using e2), List.find?_cons_of_pos (by simpa using e2)]
      · rw [List.find?_cons_of_neg (by simpa using e2), List.find?_cons_of_neg (by simpa using e2)]
        exact ih
theorem fT_del {l : List Tf} {n m : List UInt8} (hne : m ≠ n) : fT (delT l n) m = fT l m := by
  unfold fT delT
  induction l with
  | nil => rfl
  | cons a r ih =>
    by_cases e : a.1 = n
    · rw [List.filter_cons_of_neg (by simpa using e), List.find?_cons_of_neg (by simpa [e] using fun h => hne h.symm)]
      exact ih
    · rw [List.filter_cons_of_pos (by simpa using e)]
      by_cases e2 : a.1 = m
      · rw [List.find?_cons_of_pos (by simpa using e2), List.find?_cons_of_pos (by simpa using e2)]
      · rw [List.find?_cons_of_neg (by simpa using e2), List.find?_cons_of_neg (by simpa using e2)]
        exact ih
theorem fT_ins {x : Tf} {m : List UInt8} (hne : m ≠ x.1) : ∀ l : List Tf, fT (insT x l) m = fT l m
  | [] => by unfold fT insT; rw [List.find?_cons_of_neg (by simpa using fun h => hne h.symm)]
  | y :: r => by
    have ih := fT_ins hne r
    unfold fT at ih ⊢
    unfold insT
    split
    · rw [List.find?_cons_of_neg (by simpa using fun h => hne h.symm)]
    · by_cases e2 : y.1 = m
      · rw [List.find?_cons_of_pos (by simpa using e2), List.find?_cons_of_pos (by simpa using e2)]
      · rw [List.find?_cons_of_neg (by simpa using e2), List.find?_cons_of_neg (by simpa using e2)]
        exact ih
theorem fT_put {l : List Tf} {x : Tf} {m : List UInt8} (hne : m ≠ x.1) : fT (putT l x) m = fT l m := by
  unfold putT
  rw [fT_ins hne, fT_del hne]
/-- What a list of files keeps to. -/
structure Wf (l : List Tf) (room : Int) : Prop where
  len : l.length ≤ 16
  sum : (sumT l : Int) ≤ room
  safe : ∀ p ∈ l, 0 ≤ p.2.2 ∧ p.2.2 ≤ p.2.1.length
theorem len_ins (x : Tf) : ∀ l : List Tf, (insT x l).length = l.length + 1
  | [] => rfl
  | y :: r => by
    unfold insT
    split
    · rfl
    · simp [len_ins x r]
theorem sum_ins (x : Tf) : ∀ l : List Tf, sumT (insT x l) = sumT l + x.2.1.length
  | [] => by simp [insT, sumT]
  | y :: r => by
    unfold insT
    split
    · simp only [sumT]; omega
    · simp only [sumT, sum_ins x r]; omega
theorem mem_ins {x p : Tf} : ∀ {l : List Tf}, p ∈ insT x l → p = x ∨ p ∈ l
  | [], h => by simp [insT] at h; exact Or.inl h
  | y :: r, h => by
    unfold insT at h
    split at h
    · exact List.mem_cons.1 h
    · rcases List.mem_cons.1 h with h | h
      · exact Or.inr (by rw [h]; exact List.mem_cons_self ..)
      · rcases mem_ins h with h | h
        · exact Or.inl h
        · exact Or.inr (List.mem_cons_of_mem _ h)
theorem len_del (l : List Tf) (n : List UInt8) : (delT l n).length ≤ l.length := List.length_filter_le _ _
theorem sum_del (n : List UInt8) : ∀ l : List Tf, sumT (delT l n) ≤ sumT l
  | [] => Nat.le_refl _
  | a :: r => by
    have ih := sum_del n r
    unfold delT at ih ⊢
    by_cases e : a.1 = n
    · rw [List.filter_cons_of_neg (by simpa using e)]
      simp only [sumT]; omega
    · rw [List.filter_cons_of_pos (by simpa using e)]
      simp only [sumT]; omega
theorem del_here {n : List UInt8} {p : Tf} (hn : p.1 = n) : ∀ {l : List Tf}, p ∈ l → (delT l n).length + 1 ≤ l.length ∧ sumT (delT l n) + p.2.1.length ≤ sumT l
  | [], h => by cases h
  | a :: r, h => by
    by_cases e : a.1 = n
    · have e1 : delT (a :: r) n = delT r n := by unfold delT; rw [List.filter_cons_of_neg (by simpa using e)]
      rw [e1]
      have h1 := len_del r n
      have h2 := sum_del n r
      rcases List.mem_cons.1 h with rfl | h
      · simp only [List.length_cons, sumT]; omega
      · have := del_here hn h
        simp only [List.length_cons, sumT]; omega
    · have e1 : delT (a :: r) n = a :: delT r n := by unfold delT; rw [List.filter_cons_of_pos (by simpa using e)]
      rw [e1]
      rcases List.mem_cons.1 h with rfl | h
      · exact absurd hn e
      · have := del_here hn h
        simp only [List.length_cons, sumT]; omega
theorem Wf.del {l : List Tf} {room : Int} (h : Wf l room) (n : List UInt8) : Wf (delT l n) room :=
  ⟨Nat.le_trans (len_del l n) h.len, by have := sum_del n l; have := h.sum; omega, fun p hp => h.safe p (List.mem_filter.1 hp).1⟩
theorem Wf.put {l : List Tf} {room : Int} (h : Wf l room) (x : Tf) (hl : (delT l x.1).length ≤ 15) (hs : (sumT (delT l x.1) : Int) + x.2.1.length ≤ room) (hx : 0 ≤ x.2.2 ∧ x.2.2 ≤ x.2.1.length) : Wf (putT l x) room := by
  unfold putT
  refine ⟨by rw [len_ins]; omega, by rw [sum_ins]; simp; omega, fun p hp => ?_⟩
  rcases mem_ins hp with rfl | hp
  · exact hx
  · exact h.safe p (List.mem_filter.1 hp).1
theorem Wf.set {l : List Tf} {room : Int} (hsrt : Srt l) (h : Wf l room) {n : List UInt8} {p : Tf} (hp : p ∈ l) (hn : p.1 = n) (b : List Int) (s : Int) (hsum : (sumT l : Int) + b.length ≤ room + p.2.1.length) (hx : 0 ≤ s ∧ s ≤ b.length) : Wf (setT l n b s) room := by
  rw [← putT_here (b := b) (s := s) hsrt ⟨p, hp, hn⟩]
  have h1 := del_here hn hp
  have h2 := h.len
  exact h.put (n, b, s) (by show (delT l n).length ≤ 15; omega) (by show (sumT (delT l n) : Int) + b.length ≤ room; omega) hx
end Go.Proofs.YtconkienlcegaaaGreatDoor
/- disk: the program's calls by what they tell. -/
namespace Go.Proofs.YtconkienlcegaaaGreatDoor
open Go.RowKit Go.Maps Go.Joins
set_option linter.unusedSimpArgs false
set_option linter.unusedVariables false
abbrev nb (s : ByteArray) : List UInt8 := s.data.toList
def eFind (l : List Tf) (s : ByteArray) : Int := if nameB s then (if (fT l (nb s)).isSome then 0 else 33) else 1
def lSync (l : List Tf) (s : ByteArray) : List Tf := if nameB s then (match fT l (nb s) with | some p => setT l (nb s) p.2.1 p.2.1.length | none => l) else l
def lRem (l : List Tf) (s : ByteArray) : List Tf := if nameB s then (if (fT l (nb s)).isSome then delT l (nb s) else l) else l
def eTru (l : List Tf) (s : ByteArray) (x : Int) : Int := if nameB s then (match fT l (nb s) with | some p => if x < 0 ∨ (p.2.1.length : Int) < x then 1 else 0 | none => 33) else 1
def lTru (l : List Tf) (s : ByteArray) (x : Int) : List Tf := if nameB s then (match fT l (nb s) with | some p => if x < 0 ∨ (p.2.1.length : Int) < x then l else setT l (nb s) (p.2.1.take x.toNat) x | none => l) else l
def lRen (l : List Tf) (s t : ByteArray) : List Tf := if nameB s && nameB t then (match fT l (nb s) with | some p => if p.2.2 = p.2.1.length then putT (delT l (nb s)) (nb t, p.2.1, p.2.2) else l | none => l) else l
def eApp (l : List Tf) (room : Int) (s : ByteArray) (bs : List Int) : Int := if nameB s then (if fT l (nb s) = none ∧ 16 ≤ l.length then 3 else if room < (sumT l : Int) + bs.length then 30 else 0) else 1
def lApp (l : List Tf) (room : Int) (s : ByteArray) (bs : List Int) : List Tf := if nameB s then (if fT l (nb s) = none ∧ 16 ≤ l.length then l else if room < (sumT l : Int) + bs.length then l else (match fT l (nb s) with | some p => setT l (nb s) (p.2.1 ++ bs) p.2.2 | none => putT l (nb s, bs, 0))) else l
/-- A disk without faults. -/
structure PB (S : DS) (ro : Int) : Prop where
  down : S.down = false
  plan : ∀ x, S.plan x = 0
  cnt : Cnt S
  rm : S.room = ro
  r0 : 0 ≤ ro ∧ ro ≤ 1073741824
  wf : Wf (absP S) ro
/-- What a call leaves. -/
structure PS (S S' : DS) (ok : Bool) (l : List Tf) : Prop where
  room : S'.room = S.room
  down : S'.down = false
  armed : S'.armed = S.armed
  plan : ∀ x, S'.plan x = 0
  steps : S'.steps = S.steps + (if ok then 1 else 0)
  abs : absP S' = l
theorem okN1 (s : ByteArray) : okN [s] = nameB s := by simp [okN]
theorem PS.no {S : DS} {room : Int} (h : PB S room) : PS S S false (absP S) := ⟨rfl, h.down, rfl, h.plan, by simp, rfl⟩
theorem PS.up {S : DS} {room : Int} (h : PB S room) : PS S { S with down := false, steps := S.steps + 1 } true (absP S) := ⟨rfl, rfl, rfl, h.plan, by simp, rfl⟩
theorem fT_none {S : DS} {n : List UInt8} (h : look S.fs n = none) : fT (absP S) n = none := by rw [fT_absP, h]; rfl
theorem fT_some {S : DS} {n : List UInt8} {g : Nat} (h : look S.fs n = some g) : fT (absP S) n = some (n, (S.fl n).bs, (S.fl n).safe) := by rw [fT_absP, h]; rfl
theorem findV1 {S : DS} {ns : List ByteArray} (h : stepE S ns = 0) : findV S ns = look S.fs (ns.headD ByteArray.empty).data.toList := by simp [findV, h]
end Go.Proofs.YtconkienlcegaaaGreatDoor
/- disk: the document's calls by what they tell. -/
namespace Go.Proofs.YtconkienlcegaaaGreatDoor
open Go.RowKit Go.Maps Go.Joins
set_option linter.unusedSimpArgs false
set_option linter.unusedVariables false
structure RB (R : RS) (ro : Int) : Prop where
  down : R.down = false
  plan : R.plan = []
  cnt : Rn R
  rm : R.room = ro
  r0 : 0 ≤ ro ∧ ro ≤ 1073741824
  wf : Wf (absR R.A) ro
  srt : Srt (absR R.A)
structure RPS (R R' : RS) (ok : Bool) (l : List Tf) : Prop where
  room : R'.room = R.room
  down : R'.down = false
  plan : R'.plan = []
  n : R'.n = R.n + (if ok then 1 else 0)
  abs : absR R'.A = l
theorem RB.planR {R : RS} {ro : Int} (h : RB R ro) : PlanR R := PlanR.nil h.plan
theorem RPS.no {R : RS} {ro : Int} (h : RB R ro) : RPS R R false (absR R.A) := ⟨rfl, h.down, h.plan, by simp, rfl⟩
theorem RPS.up {R : RS} {ro : Int} (h : RB R ro) : RPS R { R with n := R.n + 1 } true (absR R.A) := ⟨rfl, h.down, h.plan, by simp, rfl⟩
theorem RB.len {R : RS} {ro : Int} (h : RB R ro) : R.A.length ≤ 16 := by
  have := h.wf.len
  unfold absR at this
  rw [List.length_map] at this
  exact this
theorem nn (s : ByteArray) : (nameB s && nameB s) = nameB s := by cases nameB s <;> rfl
end Go.Proofs.YtconkienlcegaaaGreatDoor
/- disk: does, for the calls on files. -/
namespace Go.Proofs.YtconkienlcegaaaGreatDoor
open Go.RowKit Go.Maps Go.Joins
set_option linter.unusedSimpArgs false
set_option linter.unusedVariables false
/-- Both disks, side by side. -/
structure Two (w : World) (bd br : Nat) (S : DS) (R : RS) (ro : Int) : Prop where
  disk : DiskIs w bd S
  pb : PB S ro
  ref : RefIs w br R
  rb : RB R ro
  same : absP S = absR R.A
  apart : ∀ b, R.own b ≠ 0 → S.role b = .none
/-- What lies beside both stays. -/
structure F2 (w w' : World) (S : DS) (R : RS) (S' : DS) (R' : RS) : Prop where
  os : w'.os = w.os
  tape : w'.tape = w.tape
  output : w'.output = w.output
  size : w.heap.size ≤ w'.heap.size
  block : ∀ b, b < w.heap.size → S.role b = .none → R.own b = 0 → w'.heap[b]? = w.heap[b]?
  off : ∀ b, b < w.heap.size → S.role b = .none → R.own b = 0 → S'.role b = .none ∧ R'.own b = 0
theorem F2.refl (w : World) (S : DS) (R : RS) : F2 w w S R S R := ⟨rfl, rfl, rfl, Nat.le_refl _, fun _ _ _ _ => rfl, fun _ _ h h' => ⟨h, h'⟩⟩
theorem F2.trans {w w' w'' : World} {S S' S'' : DS} {R R' R'' : RS} (h : F2 w w' S R S' R') (k : F2 w' w'' S' R' S'' R'') : F2 w w'' S R S'' R'' :=
  ⟨k.os.trans h.os, k.tape.trans h.tape, k.output.trans h.output, Nat.le_trans h.size k.size,
   fun b hb h1 h2 => (k.block b (Nat.lt_of_lt_of_le hb h.size) (h.off b hb h1 h2).1 (h.off b hb h1 h2).2).trans (h.block b hb h1 h2),
   fun b hb h1 h2 => k.off b (Nat.lt_of_lt_of_le hb h.size) (h.off b hb h1 h2).1 (h.off b hb h1 h2).2⟩
theorem F2.below {w w' : World} {S : DS} {R : RS} (h : Below w.heap.size w w') : F2 w w' S R S R := ⟨h.os, h.tape, h.output, h.size, fun b hb _ _ => h.block b hb, fun _ _ h1 h2 => ⟨h1, h2⟩⟩
/-- The program's disk is called. -/
structure Mid (w w1 : World) (bd br : Nat) (S S' : DS) (R : RS) : Prop where
  disk : DiskIs w1 bd S'
  ref : RefIs w1 br R
  apart : ∀ b, R.own b ≠ 0 → S'.role b = .none
  f2 : F2 w w1 S R S' R
theorem Two.first {w w1 : World} {bd br : Nat} {S S' : DS} {R : RS} {ro : Int} (h : Two w bd br S R ro) (hD : DiskIs w1 bd S') (hF : Fr w w1 S S') : Mid w w1 bd br S S' R :=
  ⟨hD, h.ref.kept (fun b hb => hF.block b (h.ref.own_lt hb) (h.apart b hb)) hF.size, fun b hb => hF.role b (h.ref.own_lt hb) (h.apart b hb),
   ⟨hF.os, hF.tape, hF.output, hF.size, fun b hb h1 _ => hF.block b hb h1, fun b hb h1 h2 => ⟨hF.role b hb h1, h2⟩⟩⟩
theorem Two.next {w w2 : World} {bd br : Nat} {S S' : DS} {R R' : RS} {ro : Int} {ok : Bool} {l : List Tf} (h : Two w bd br S R ro) (hD : DiskIs w2 bd S') (hR : RefIs w2 br R') (hap : ∀ b, R'.own b ≠ 0 → S'.role b = .none) (hp : PS S S' ok l) (hr : RPS R R' ok l) (hw : Wf l ro) (hst : S.steps < 4611686018427387903) (hn : R.n < 4611686018427387903) : Two w2 bd br S' R' ro := by
  have hc := h.pb.cnt
  have hc2 := h.rb.cnt
  unfold Cnt at hc
  unfold Rn at hc2
  refine ⟨hD, ⟨hp.down, hp.plan, ?_, hp.room.trans h.pb.rm, h.pb.r0, by rw [hp.abs]; exact hw⟩, hR, ⟨hr.down, hr.plan, ?_, hr.room.trans h.rb.rm, h.pb.r0, by rw [hr.abs]; exact hw, ?_⟩, by rw [hp.abs, hr.abs], hap⟩
  · unfold Cnt
    rw [hp.armed, hp.steps]
    split <;> omega
  · unfold Rn
    rw [hr.n]
    split <;> omega
  · rw [hr.abs, ← hp.abs]
    exact hD.srt
end Go.Proofs.YtconkienlcegaaaGreatDoor
/- disk: what the calls leave of the names and the room. -/
namespace Go.Proofs.YtconkienlcegaaaGreatDoor
open Go.RowKit Go.Maps Go.Joins
set_option linter.unusedSimpArgs false
set_option linter.unusedVariables false
theorem sync_wf {l : List Tf} {ro : Int} (hs : Srt l) (h : Wf l ro) (s : ByteArray) : Wf (lSync l s) ro := by
  unfold lSync
  split
  · split
    · rename_i p hp
      have := fT_mem hp
      exact Wf.set hs h this.1 this.2 _ _ (by have := h.sum; omega) ⟨by omega, by omega⟩
    · exact h
  · exact h
theorem sync_f {l : List Tf} {m : List UInt8} {s : ByteArray} (hne : m ≠ nb s) : fT (lSync l s) m = fT l m := by
  unfold lSync
  split
  · split
    · exact fT_set hne _ _
    · rfl
  · rfl
theorem rem_f {l : List Tf} {m : List UInt8} {s : ByteArray} (hne : m ≠ nb s) : fT (lRem l s) m = fT l m := by
  unfold lRem
  split
  · split
    · exact fT_del hne
    · rfl
  · rfl
theorem tru_wf {l : List Tf} {ro : Int} (hs : Srt l) (h : Wf l ro) (s : ByteArray) (x : Int) : Wf (lTru l s x) ro := by
  unfold lTru
  split
  · split
    · rename_i p hp
      split
      · exact h
      · rename_i hx
        have h1 := fT_mem hp
        have h2 := List.length_take (l := p.2.1) (i := x.toNat)
        refine Wf.set hs h h1.1 h1.2 _ _ (by have := h.sum; omega) ⟨by omega, by omega⟩
    · exact h
  · exact h
theorem tru_f {l : List Tf} {m : List UInt8} {s : ByteArray} {x : Int} (hne : m ≠ nb s) : fT (lTru l s x) m = fT l m := by
  unfold lTru
  split
  · split
    · split
      · rfl
      · exact fT_set hne _ _
    · rfl
  · rfl
theorem ren_f {l : List Tf} {m : List UInt8} {s t : ByteArray} (hne : m ≠ nb s) (hnt : m ≠ nb t) : fT (lRen l s t) m = fT l m := by
  unfold lRen
  split
  · split
    · split
      · exact (fT_put hnt).trans (fT_del hne)
      · rfl
    · rfl
  · rfl
theorem app_wf {l : List Tf} {ro : Int} (hs : Srt l) (h : Wf l ro) (s : ByteArray) (bs : List Int) : Wf (lApp l ro s bs) ro := by
  unfold lApp
  split
  · split
    · exact h
    · rename_i hn
      split
      · exact h
      · rename_i hr
        split
        · rename_i p hp
          have h1 := fT_mem hp
          have h7 := h.safe p h1.1
          refine Wf.set hs h h1.1 h1.2 _ _ ?_ ?_
          · rw [List.length_append]; omega
          · rw [List.length_append]; omega
        · rename_i hp
          have h3 := len_del l (nb s)
          have h4 := sum_del (nb s) l
          have h6 : l.length < 16 := by
            rcases Nat.lt_or_ge l.length 16 with h8 | h8
            · exact h8
            · exact absurd ⟨hp, h8⟩ hn
          refine Wf.put h _ ?_ ?_ ?_
          · show (delT l (nb s)).length ≤ 15
            omega
          · show (sumT (delT l (nb s)) : Int) + bs.length ≤ ro
            omega
          · show (0 : Int) ≤ 0 ∧ (0 : Int) ≤ bs.length
            omega
  · exact h
theorem app_f {l : List Tf} {ro : Int} {m : List UInt8} {s : ByteArray} {bs : List Int} (hne : m ≠ nb s) : fT (lApp l ro s bs) m = fT l m := by
  unfold lApp
  split
  · split
    · rfl
    · split
      · rfl
      · split
        · exact fT_set hne _ _
        · exact fT_put hne
  · rfl
/-- What does makes of the files. -/
def lOp (l : List Tf) (ro : Int) (k x : Int) (s t : ByteArray) (bs : List Int) : List Tf :=
  if k = 1 then lApp l ro s bs else if k = 2 then lSync l s else if k = 3 then lTru l s x else if k = 4 then lRen l s t else if k = 5 then lRem l s else l
theorem lOp_f {l : List Tf} {ro : Int} {m : List UInt8} {k x : Int} {s t : ByteArray} {bs : List Int} (hne : m ≠ nb s) (hnt : m ≠ nb t) : fT (lOp l ro k x s t bs) m = fT l m := by
  unfold lOp
  repeat' split
  · exact app_f hne
  · exact sync_f hne
  · exact tru_f hne
  · exact ren_f hne hnt
  · exact rem_f hne
  · rfl
end Go.Proofs.YtconkienlcegaaaGreatDoor
