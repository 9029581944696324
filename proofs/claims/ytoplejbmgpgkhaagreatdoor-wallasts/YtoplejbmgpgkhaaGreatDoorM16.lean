/- CA, CB, CC, CE, CF, laid into one text. -/
import Derived.Test.YtoplejbmgpgkhaaGreatDoorRK
/- disk: the two disks held against each other. -/
namespace Go.Proofs.YtoplejbmgpgkhaaGreatDoor
open Go.RowKit Go.Maps Go.Joins
set_option linter.unusedSimpArgs false
set_option linter.unusedVariables false
/-- A file, told: its name, its bytes, how many are safe. -/
abbrev Tf := List UInt8 × List Int × Int
def absP (S : DS) : List Tf := S.fs.map fun p => (p.1, (S.fl p.1).bs, (S.fl p.1).safe)
def tR (f : RF) : Tf := (f.nm.data.toList, f.bs, f.sf)
def absR (A : List RF) : List Tf := A.map tR
def insT (x : Tf) : List Tf → List Tf
  | [] => [x]
  | y :: r => if bytesBefore x.1 y.1 then x :: y :: r else y :: insT x r
def delT (l : List Tf) (n : List UInt8) : List Tf := l.filter fun p => !(p.1 == n)
def putT (l : List Tf) (x : Tf) : List Tf := insT x (delT l x.1)
def setT (l : List Tf) (n : List UInt8) (b : List Int) (s : Int) : List Tf := l.map fun p => if p.1 = n then (n, b, s) else p
def Srt (l : List Tf) : Prop := l.Pairwise fun p q => bytesBefore p.1 q.1 = true
def sumT : List Tf → Nat
  | [] => 0
  | p :: r => p.2.1.length + sumT r
theorem less_before : ∀ (x y : List UInt8), Op.bytesLess x y = bytesBefore x y
  | [], [] => rfl
  | [], _ :: _ => rfl
  | _ :: _, [] => rfl
  | a :: x, b :: y => by simp only [Op.bytesLess, bytesBefore, less_before x y]
theorem ltR_eq (a f : RF) : ltR a f = bytesBefore (tR a).1 (tR f).1 := by
  unfold ltR tR
  rw [Lib.toList_data, Lib.toList_data, less_before]
theorem nm_eq {a b : ByteArray} : a = b ↔ a.data.toList = b.data.toList := by
  constructor
  · intro h; rw [h]
  · intro h
    cases a; cases b
    simp at h
    rw [h]
/-! the program's -/
theorem absP_del (S : DS) (n : List UInt8) : absP (delFs S n) = delT (absP S) n := by
  unfold absP delFs delT delL
  simp only [List.filter_map]
  rfl
theorem map_insL {S' : DS} (x : List UInt8 × Nat) : ∀ l : List (List UInt8 × Nat), (insL x l).map (fun p => ((p.1, (S'.fl p.1).bs, (S'.fl p.1).safe) : Tf)) = insT (x.1, (S'.fl x.1).bs, (S'.fl x.1).safe) (l.map fun p => (p.1, (S'.fl p.1).bs, (S'.fl p.1).safe))
  | [] => rfl
  | y :: r => by
    simp only [insL, List.map_cons, insT]
    split
    · rfl
    · rw [List.map_cons, map_insL x r]
theorem absP_put (S S' : DS) (n : List UInt8) (g : Nat) (l : List (List UInt8 × Nat)) (hfs : S'.fs = putL l n g) (hfl : ∀ m, m ≠ n → S'.fl m = S.fl m) : absP S' = putT (l.map fun p => (p.1, (S.fl p.1).bs, (S.fl p.1).safe)) (n, (S'.fl n).bs, (S'.fl n).safe) := by
  unfold absP putT
  rw [hfs]
  unfold putL
  rw [map_insL]
  congr 1
  unfold delT delL
  rw [List.filter_map]
  apply List.map_congr_left
  intro p hp
  have h1 : p.1 ≠ n := by simpa using (List.mem_filter.1 hp).2
  rw [hfl _ h1]
theorem absP_set (S : DS) (n : List UInt8) (f : FileC) (z : Nat) : absP (setFl S n f z) = setT (absP S) n f.bs f.safe := by
  unfold absP setT
  rw [List.map_map]
  apply List.map_congr_left
  intro p _
  show (p.1, (if p.1 = n then f else S.fl p.1).bs, (if p.1 = n then f else S.fl p.1).safe) = if p.1 = n then (n, f.bs, f.safe) else _
  by_cases e : p.1 = n
  · rw [if_pos e, if_pos e, e]
  · rw [if_neg e, if_neg e]
theorem DiskIs.srt {w : World} {bd : Nat} {S : DS} (h : DiskIs w bd S) : Srt (absP S) := by
  obtain ⟨es, he, hp, _⟩ := h.files.canon law9
  have : S.fs.map toE = es := by
    unfold toD at he
    injection he
  rw [← this, List.pairwise_map] at hp
  unfold Srt absP
  rw [List.pairwise_map]
  exact hp
theorem total_sumT (S : DS) : total S = sumT (absP S) := by
  unfold total absP
  generalize S.fs = l
  induction l with
  | nil => rfl
  | cons p r ih =>
    have : sumL (fun n => (S.fl n).bs.length) (fun _ => false) (p :: r) = (S.fl p.1).bs.length + sumL (fun n => (S.fl n).bs.length) (fun _ => false) r := by simp [sumL]
    rw [this, ih]
    rfl
/-! the document's -/
theorem absR_drop (s : ByteArray) (A : List RF) : absR (dropR s A) = delT (absR A) s.data.toList := by
  unfold absR dropR delT
  rw [List.filter_map]
  congr 1
  apply List.filter_congr
  intro f _
  show (!decide (f.nm = s)) = !(f.nm.data.toList == s.data.toList)
  congr 1
  rw [Bool.eq_iff_iff]
  simp only [decide_eq_true_eq, beq_iff_eq]
  exact nm_eq
theorem sumA_sumT : ∀ A : List RF, sumA A = sumT (absR A)
  | [] => rfl
  | a :: r => by
    show a.bs.length + sumA r = _
    rw [sumA_sumT r]
    rfl
def putRec (f : RF) : List RF → List RF
  | [] => [f]
  | a :: r => if ltR a f then a :: putRec f r else f :: ((a :: r).filter fun x => !decide (x.nm = f.nm))
theorem put_done (f : RF) : ∀ (l acc : List RF), l.foldl (putSt f) (acc, true) = (acc ++ l.filter (fun x => !decide (x.nm = f.nm)), true)
  | [], acc => by simp
  | a :: r, acc => by
    rw [List.foldl_cons]
    have e : putSt f (acc, true) a = (acc ++ (if a.nm = f.nm then [] else [a]), true) := by simp [putSt]
    rw [e, put_done f r]
    by_cases h : a.nm = f.nm <;> simp [h]
theorem put_not (f : RF) : ∀ (l acc : List RF), (if (l.foldl (putSt f) (acc, false)).2 then (l.foldl (putSt f) (acc, false)).1 else (l.foldl (putSt f) (acc, false)).1 ++ [f]) = acc ++ putRec f l
  | [], acc => by simp [putRec]
  | a :: r, acc => by
    rw [List.foldl_cons]
    cases hlt : ltR a f with
    | true =>
      have hne : a.nm ≠ f.nm := fun e => by
        rw [ltR_eq] at hlt
        unfold tR at hlt
        rw [e] at hlt
        rw [WideAt.bytes_irrefl] at hlt
        cases hlt
      have e : putSt f (acc, false) a = (acc ++ [a], false) := by simp [putSt, hlt, hne]
      rw [e, put_not f r]
      simp [putRec, hlt]
    | false =>
      have e : putSt f (acc, false) a = (acc ++ [f] ++ (if a.nm = f.nm then [] else [a]), true) := by simp [putSt, hlt]
      rw [e, put_done]
      simp only [if_true]
      by_cases h : a.nm = f.nm <;> simp [putRec, hlt, h]
theorem putR_rec (f : RF) (A : List RF) : putR f A = putRec f A := by
  have := put_not f A []
  rw [List.nil_append] at this
  exact this
theorem before_trans_ne {x y : List UInt8} (h : bytesBefore x y = false) (hne : x ≠ y) : bytesBefore y x = true := by
  rcases WideAt.bytes_total x y hne with h1 | h1
  · rw [h] at h1; cases h1
  · exact h1
theorem insT_front {x : Tf} : ∀ {l : List Tf}, (∀ p ∈ l, bytesBefore x.1 p.1 = true) → insT x l = x :: l
  | [], _ => rfl
  | y :: r, h => by simp only [insT, h y (List.mem_cons_self ..), if_true]
theorem absR_filter (n : ByteArray) (l : List RF) : absR (l.filter fun x => !decide (x.nm = n)) = delT (absR l) n.data.toList := absR_drop n l
theorem absR_put (f : RF) : ∀ (A : List RF), Srt (absR A) → absR (putRec f A) = putT (absR A) (tR f)
  | [], _ => rfl
  | a :: r, hs => by
    have hs' : Srt (tR a :: absR r) := hs
    unfold Srt at hs'
    rw [List.pairwise_cons] at hs'
    have ih := absR_put f r hs'.2
    unfold putRec
    cases hlt : ltR a f with
    | true =>
      have hb : bytesBefore (tR a).1 (tR f).1 = true := by rw [← ltR_eq]; exact hlt
      have hne : (tR a).1 ≠ (tR f).1 := fun e => by rw [e, WideAt.bytes_irrefl] at hb; cases hb
      have hnb : bytesBefore (tR f).1 (tR a).1 = false := by
        cases h : bytesBefore (tR f).1 (tR a).1 with
        | false => rfl
        | true => exact absurd (WideShapes.bytes_trans _ _ _ hb h) (by rw [WideAt.bytes_irrefl]; simp)
      show tR a :: absR (putRec f r) = _
      rw [ih]
      unfold putT
      have e : delT (absR (a :: r)) (tR f).1 = tR a :: delT (absR r) (tR f).1 := by
        show List.filter _ (tR a :: absR r) = _
        rw [List.filter_cons_of_pos (by simpa using hne)]
        rfl
      rw [e]
      simp only [insT, hnb]
      rfl
    | false =>
      have hb : bytesBefore (tR a).1 (tR f).1 = false := by rw [← ltR_eq]; exact hlt
      show tR f :: absR ((a :: r).filter fun x => !decide (x.nm = f.nm)) = _
      rw [absR_filter]
      unfold putT
      rw [insT_front]
      · rfl
      · intro p hp
        have hm := List.mem_filter.1 hp
        have hpn : p.1 ≠ (tR f).1 := by simpa using hm.2
        have hp' : p = tR a ∨ p ∈ absR r := by
          have : p ∈ tR a :: absR r := hm.1
          exact List.mem_cons.1 this
        by_cases e : (tR a).1 = (tR f).1
        · rcases hp' with rfl | hp'
          · exact absurd e hpn
          · rw [← e]; exact hs'.1 p hp'
        · have h1 := before_trans_ne hb e
          rcases hp' with rfl | hp'
          · exact h1
          · exact WideShapes.bytes_trans _ _ _ h1 (hs'.1 p hp')
theorem map_same {l : List Tf} {f : Tf → Tf} (h : ∀ p ∈ l, f p = p) : l.map f = l := by
  have := List.map_congr_left (g := id) h
  rw [this, List.map_id]
theorem putT_here {n : List UInt8} {b : List Int} {s : Int} : ∀ {l : List Tf}, Srt l → (∃ p ∈ l, p.1 = n) → putT l (n, b, s) = setT l n b s
  | [], _, h => by obtain ⟨p, hp, _⟩ := h; cases hp
  | a :: r, hs, h => by
    have hs' := hs
    unfold Srt at hs'
    rw [List.pairwise_cons] at hs'
    unfold putT
    by_cases e : a.1 = n
    · have hno : ∀ p ∈ r, p.1 ≠ n := fun p hp e2 => by
        have := hs'.1 p hp
        rw [e, e2, WideAt.bytes_irrefl] at this
        cases this
      have e1 : delT (a :: r) n = r := by
        unfold delT
        rw [List.filter_cons_of_neg (by simpa using e), List.filter_eq_self.2 (fun p hp => by simpa using hno p hp)]
      have e2 : setT (a :: r) n b s = (n, b, s) :: r := by
        unfold setT
        rw [List.map_cons, if_pos e]
        congr 1
        exact map_same (fun p hp => if_neg (hno p hp))
      show insT _ (delT (a :: r) n) = _
      rw [e1, e2]
      exact insT_front (fun p hp => by rw [← e]; exact hs'.1 p hp)
    · have h' : ∃ p ∈ r, p.1 = n := by
        obtain ⟨p, hp, hpn⟩ := h
        rcases List.mem_cons.1 hp with rfl | hp
        · exact absurd hpn e
        · exact ⟨p, hp, hpn⟩
      have ih := putT_here (b := b) (s := s) hs'.2 h'
      unfold putT at ih
      have hb : bytesBefore n a.1 = false := by
        obtain ⟨p, hp, hpn⟩ := h'
        have h1 := hs'.1 p hp
        rw [hpn] at h1
        cases h2 : bytesBefore n a.1 with
        | false => rfl
        | true => exact absurd (WideShapes.bytes_trans _ _ _ h1 h2) (by rw [WideAt.bytes_irrefl]; simp)
      have e1 : delT (a :: r) n = a :: delT r n := by
        unfold delT
        rw [List.filter_cons_of_pos (by simpa using e)]
      show insT _ (delT (a :: r) n) = _
      rw [e1]
      simp only [insT, hb]
      unfold setT
      rw [List.map_cons, if_neg e]
      show a :: insT (n, b, s) (delT r n) = _
      rw [ih]
      rfl
theorem absR_set {n : ByteArray} : ∀ {A : List RF} {k : Nat} {f f' : RF}, Srt (absR A) → A[k]? = some f → f.nm = n → f'.nm = n → absR (A.set k f') = setT (absR A) n.data.toList f'.bs f'.sf
  | [], k, f, f', _, h, _, _ => by simp at h
  | a :: r, 0, f, f', hs, h, e, e' => by
    simp at h
    subst h
    have hs' : Srt (tR a :: absR r) := hs
    unfold Srt at hs'
    rw [List.pairwise_cons] at hs'
    have hn : (tR a).1 = n.data.toList := by unfold tR; rw [e]
    show tR f' :: absR r = setT (tR a :: absR r) _ _ _
    unfold setT
    rw [List.map_cons, if_pos hn]
    congr 1
    · unfold tR; rw [e']
    · refine (map_same (fun p hp => if_neg (fun e2 => ?_))).symm
      have h9 := hs'.1 p hp
      rw [hn, e2, WideAt.bytes_irrefl] at h9
      cases h9
  | a :: r, k + 1, f, f', hs, h, e, e' => by
    simp at h
    have hs' : Srt (tR a :: absR r) := hs
    unfold Srt at hs'
    rw [List.pairwise_cons] at hs'
    have ih := absR_set (f' := f') hs'.2 h e e'
    have hfm : tR f ∈ absR r := List.mem_map_of_mem (List.mem_of_getElem? h)
    have hne : (tR a).1 ≠ n.data.toList := fun e2 => by
      have := hs'.1 _ hfm
      rw [e2] at this
      unfold tR at this
      rw [e, WideAt.bytes_irrefl] at this
      cases this
    show tR a :: absR (r.set k f') = setT (tR a :: absR r) _ _ _
    rw [ih]
    unfold setT
    rw [List.map_cons, if_neg hne]
theorem idxR_none {nm : ByteArray} : ∀ {A : List RF}, idxR nm A = -1 → ∀ f ∈ A, f.nm ≠ nm
  | [], _, f, hf => by cases hf
  | a :: r, h, f, hf => by
    unfold idxR at h
    by_cases e : a.nm = nm
    · rw [if_pos e] at h; cases h
    · rw [if_neg e] at h
      by_cases e2 : idxR nm r = -1
      · rcases List.mem_cons.1 hf with rfl | hf
        · exact e
        · exact idxR_none e2 f hf
      · rw [if_neg e2] at h
        have := idxR_ge nm r
        omega
end Go.Proofs.YtoplejbmgpgkhaaGreatDoor
/- disk: the calls, told over lists of files. -/
namespace Go.Proofs.YtoplejbmgpgkhaaGreatDoor
open Go.RowKit Go.Maps Go.Joins
set_option linter.unusedSimpArgs false
set_option linter.unusedVariables false
def fT (l : List Tf) (n : List UInt8) : Option Tf := l.find? fun p => p.1 == n
theorem fT_absP (S : DS) (n : List UInt8) : fT (absP S) n = (look S.fs n).map fun _ => ((n, (S.fl n).bs, (S.fl n).safe) : Tf) := by
  unfold fT absP look
  rw [List.find?_map, Option.map_map]
  cases h : S.fs.find? ((fun p : Tf => p.1 == n) ∘ fun p => (p.1, (S.fl p.1).bs, (S.fl p.1).safe)) with
  | none =>
    have : S.fs.find? (fun p => p.1 == n) = none := h
    rw [this]; rfl
  | some p =>
    have h1 : S.fs.find? (fun p => p.1 == n) = some p := h
    have h2 : p.1 = n := by simpa using List.find?_some h1
    rw [h1]
    simp [h2]
theorem fT_absR_none {s : ByteArray} {A : List RF} (h : idxR s A = -1) : fT (absR A) s.data.toList = none := by
  unfold fT
  rw [List.find?_eq_none]
  intro p hp
  obtain ⟨f, hf, rfl⟩ := List.mem_map.1 hp
  have := idxR_none h f hf
  simp only [tR, beq_iff_eq]
  exact fun e => this (nm_eq.2 e)
theorem fT_absR_some {s : ByteArray} : ∀ {A : List RF} {k : Nat} {f : RF}, idxR s A = (k : Nat) → A[k]? = some f → fT (absR A) s.data.toList = some (tR f) ∧ f.nm = s
  | [], k, f, h, _ => by simp [idxR] at h
  | a :: r, k, f, h, hf => by
    unfold idxR at h
    by_cases e : a.nm = s
    · rw [if_pos e] at h
      obtain rfl : k = 0 := by omega
      simp at hf
      subst hf
      refine ⟨?_, e⟩
      show List.find? _ (tR a :: absR r) = _
      rw [List.find?_cons_of_pos (by simp [tR, e])]
    · rw [if_neg e] at h
      by_cases e2 : idxR s r = -1
      · rw [if_pos e2] at h; omega
      · rw [if_neg e2] at h
        cases k with
        | zero => have := idxR_ge s r; omega
        | succ k =>
          have ih := fT_absR_some (s := s) (A := r) (k := k) (f := f) (by omega) (by simpa using hf)
          refine ⟨?_, ih.2⟩
          show List.find? _ (tR a :: absR r) = _
          rw [List.find?_cons_of_neg (by simp only [tR, beq_iff_eq]; exact fun e3 => e (nm_eq.2 e3))]
          exact ih.1
theorem fT_mem {l : List Tf} {n : List UInt8} {p : Tf} (h : fT l n = some p) : p ∈ l ∧ p.1 = n := ⟨List.mem_of_find?_eq_some h, by simpa using List.find?_some h⟩
theorem fT_set {l : List Tf} {n m : List UInt8} (hne : m ≠ n) (b : List Int) (s : Int) : fT (setT l n b s) m = fT l m := by
  unfold fT setT
  induction l with
  | nil => rfl
  | cons a r ih =>
    rw [List.map_cons]
    by_cases e : a.1 = n
    · rw [if_pos e, List.find?_cons_of_neg (by simpa using fun h => hne h.symm), List.find?_cons_of_neg (by simpa [e] using fun h => hne h.symm)]
      exact ih
    · rw [if_neg e]
      by_cases e2 : a.1 = m
      · rw [List.find?_cons_of_pos (by simpa using e2), List.find?_cons_of_pos (by simpa using e2)]
      · rw [List.find?_cons_of_neg (by simpa using e2), List.find?_cons_of_neg (by simpa using e2)]
        exact ih
theorem fT_del {l : List Tf} {n m : List UInt8} (hne : m ≠ n) : fT (delT l n) m = fT l m := by
  unfold fT delT
  induction l with
  | nil => rfl
  | cons a r ih =>
    by_cases e : a.1 = n
    · rw [List.filter_cons_of_neg (by simpa using e), List.find?_cons_of_neg (by simpa [e] using fun h => hne h.symm)]
      exact ih
    · rw [List.filter_cons_of_pos (by simpa using e)]
      by_cases e2 : a.1 = m
      · rw [List.find?_cons_of_pos (by simpa using e2), List.find?_cons_of_pos (by simpa using e2)]
      · rw [List.find?_cons_of_neg (by simpa using e2), List.find?_cons_of_neg (by simpa using e2)]
        exact ih
theorem fT_ins {x : Tf} {m : List UInt8} (hne : m ≠ x.1) : ∀ l : List Tf, fT (insT x l) m = fT l m
  | [] => by unfold fT insT; rw [List.find?_cons_of_neg (by simpa using fun h => hne h.symm)]
  | y :: r => by
    have ih := fT_ins hne r
    unfold fT at ih ⊢
    unfold insT
    split
    · rw [List.find?_cons_of_neg (by simpa using fun h => hne h.symm)]
    · by_cases e2 : y.1 = m
      · rw [List.find?_cons_of_pos (by simpa using e2), List.find?_cons_of_pos (by simpa using e2)]
      · rw [List.find?_cons_of_neg (by simpa using e2), List.find?_cons_of_neg (by simpa using e2)]
        exact ih
theorem fT_put {l : List Tf} {x : Tf} {m : List UInt8} (hne : m ≠ x.1) : fT (putT l x) m = fT l m := by
  unfold putT
  rw [fT_ins hne, fT_del hne]
/-- What a list of files keeps to. -/
structure Wf (l : List Tf) (room : Int) : Prop where
  len : l.length ≤ 16
  sum : (sumT l : Int) ≤ room
  safe : ∀ p ∈ l, 0 ≤ p.2.2 ∧ p.2.2 ≤ p.2.1.length
theorem len_ins (x : Tf) : ∀ l : List Tf, (insT x l).length = l.length + 1
  | [] => rfl
  | y :: r => by
    unfold insT
    split
    · rfl
    · simp [len_ins x r]
theorem sum_ins (x : Tf) : ∀ l : List Tf, sumT (insT x l) = sumT l + x.2.1.length
  | [] => by simp [insT, sumT]
  | y :: r => by
    unfold insT
    split
    · simp only [sumT]; omega
    · simp only [sumT, sum_ins x r]; omega
theorem mem_ins {x p : Tf} : ∀ {l : List Tf}, p ∈ insT x l → p = x ∨ p ∈ l
  | [], h => by simp [insT] at h; exact Or.inl h
  | y :: r, h => by
    unfold insT at h
    split at h
    · exact List.mem_cons.1 h
    · rcases List.mem_cons.1 h with h | h
      · exact Or.inr (by rw [h]; exact List.mem_cons_self ..)
      · rcases mem_ins h with h | h
        · exact Or.inl h
        · exact Or.inr (List.mem_cons_of_mem _ h)
theorem len_del (l : List Tf) (n : List UInt8) : (delT l n).length ≤ l.length := List.length_filter_le _ _
theorem sum_del (n : List UInt8) : ∀ l : List Tf, sumT (delT l n) ≤ sumT l
  | [] => Nat.le_refl _
  | a :: r => by
    have ih := sum_del n r
    unfold delT at ih ⊢
    by_cases e : a.1 = n
    · rw [List.filter_cons_of_neg (by simpa using e)]
      simp only [sumT]; omega
    · rw [List.filter_cons_of_pos (by simpa using e)]
      simp only [sumT]; omega
theorem del_here {n : List UInt8} {p : Tf} (hn : p.1 = n) : ∀ {l : List Tf}, p ∈ l → (delT l n).length + 1 ≤ l.length ∧ sumT (delT l n) + p.2.1.length ≤ sumT l
  | [], h => by cases h
  | a :: r, h => by
    by_cases e : a.1 = n
    · have e1 : delT (a :: r) n = delT r n := by unfold delT; rw [List.filter_cons_of_neg (by simpa using e)]
      rw [e1]
      have h1 := len_del r n
      have h2 := sum_del n r
      rcases List.mem_cons.1 h with rfl | h
      · simp only [List.length_cons, sumT]; omega
      · have := del_here hn h
        simp only [List.length_cons, sumT]; omega
    · have e1 : delT (a :: r) n = a :: delT r n := by unfold delT; rw [List.filter_cons_of_pos (by simpa using e)]
      rw [e1]
      rcases List.mem_cons.1 h with rfl | h
      · exact absurd hn e
      · have := del_here hn h
        simp only [List.length_cons, sumT]; omega
theorem Wf.del {l : List Tf} {room : Int} (h : Wf l room) (n : List UInt8) : Wf (delT l n) room :=
  ⟨Nat.le_trans (len_del l n) h.len, by have := sum_del n l; have := h.sum; omega, fun p hp => h.safe p (List.mem_filter.1 hp).1⟩
theorem Wf.put {l : List Tf} {room : Int} (h : Wf l room) (x : Tf) (hl : (delT l x.1).length ≤ 15) (hs : (sumT (delT l x.1) : Int) + x.2.1.length ≤ room) (hx : 0 ≤ x.2.2 ∧ x.2.2 ≤ x.2.1.length) : Wf (putT l x) room := by
  unfold putT
  refine ⟨by rw [len_ins]; omega, by rw [sum_ins]; simp; omega, fun p hp => ?_⟩
  rcases mem_ins hp with rfl | hp
  · exact hx
  · exact h.safe p (List.mem_filter.1 hp).1
theorem Wf.set {l : List Tf} {room : Int} (hsrt : Srt l) (h : Wf l room) {n : List UInt8} {p : Tf} (hp : p ∈ l) (hn : p.1 = n) (b : List Int) (s : Int) (hsum : (sumT l : Int) + b.length ≤ room + p.2.1.length) (hx : 0 ≤ s ∧ s ≤ b.length) : Wf (setT l n b s) room := by
  rw [← putT_here (b := b) (s := s) hsrt ⟨p, hp, hn⟩]
  have h1 := del_here hn hp
  have h2 := h.len
  exact h.put (n, b, s) (by show (delT l n).length ≤ 15; omega) (by show (sumT (delT l n) : Int) + b.length ≤ room; omega) hx
end Go.Proofs.YtoplejbmgpgkhaaGreatDoor
/- disk: the program's calls by what they tell. -/
namespace Go.Proofs.YtoplejbmgpgkhaaGreatDoor
open Go.RowKit Go.Maps Go.Joins
set_option linter.unusedSimpArgs false
set_option linter.unusedVariables false
abbrev nb (s : ByteArray) : List UInt8 := s.data.toList
def eFind (l : List Tf) (s : ByteArray) : Int := if nameB s then (if (fT l (nb s)).isSome then 0 else 33) else 1
def lSync (l : List Tf) (s : ByteArray) : List Tf := if nameB s then (match fT l (nb s) with | some p => setT l (nb s) p.2.1 p.2.1.length | none => l) else l
def lRem (l : List Tf) (s : ByteArray) : List Tf := if nameB s then (if (fT l (nb s)).isSome then delT l (nb s) else l) else l
def eTru (l : List Tf) (s : ByteArray) (x : Int) : Int := if nameB s then (match fT l (nb s) with | some p => if x < 0 ∨ (p.2.1.length : Int) < x then 1 else 0 | none => 33) else 1
def lTru (l : List Tf) (s : ByteArray) (x : Int) : List Tf := if nameB s then (match fT l (nb s) with | some p => if x < 0 ∨ (p.2.1.length : Int) < x then l else setT l (nb s) (p.2.1.take x.toNat) x | none => l) else l
def lRen (l : List Tf) (s t : ByteArray) : List Tf := if nameB s && nameB t then (match fT l (nb s) with | some p => if p.2.2 = p.2.1.length then putT (delT l (nb s)) (nb t, p.2.1, p.2.2) else l | none => l) else l
def eApp (l : List Tf) (room : Int) (s : ByteArray) (bs : List Int) : Int := if nameB s then (if fT l (nb s) = none ∧ 16 ≤ l.length then 3 else if room < (sumT l : Int) + bs.length then 30 else 0) else 1
def lApp (l : List Tf) (room : Int) (s : ByteArray) (bs : List Int) : List Tf := if nameB s then (if fT l (nb s) = none ∧ 16 ≤ l.length then l else if room < (sumT l : Int) + bs.length then l else (match fT l (nb s) with | some p => setT l (nb s) (p.2.1 ++ bs) p.2.2 | none => putT l (nb s, bs, 0))) else l
/-- A disk without faults. -/
structure PB (S : DS) (ro : Int) : Prop where
  down : S.down = false
  plan : ∀ x, S.plan x = 0
  cnt : Cnt S
  rm : S.room = ro
  r0 : 0 ≤ ro ∧ ro ≤ 1073741824
  wf : Wf (absP S) ro
/-- What a call leaves. -/
structure PS (S S' : DS) (ok : Bool) (l : List Tf) : Prop where
  room : S'.room = S.room
  down : S'.down = false
  armed : S'.armed = S.armed
  plan : ∀ x, S'.plan x = 0
  steps : S'.steps = S.steps + (if ok then 1 else 0)
  abs : absP S' = l
theorem okN1 (s : ByteArray) : okN [s] = nameB s := by simp [okN]
theorem PS.no {S : DS} {room : Int} (h : PB S room) : PS S S false (absP S) := ⟨rfl, h.down, rfl, h.plan, by simp, rfl⟩
theorem PS.up {S : DS} {room : Int} (h : PB S room) : PS S { S with down := false, steps := S.steps + 1 } true (absP S) := ⟨rfl, rfl, rfl, h.plan, by simp, rfl⟩
theorem fT_none {S : DS} {n : List UInt8} (h : look S.fs n = none) : fT (absP S) n = none := by rw [fT_absP, h]; rfl
theorem fT_some {S : DS} {n : List UInt8} {g : Nat} (h : look S.fs n = some g) : fT (absP S) n = some (n, (S.fl n).bs, (S.fl n).safe) := by rw [fT_absP, h]; rfl
theorem findV1 {S : DS} {ns : List ByteArray} (h : stepE S ns = 0) : findV S ns = look S.fs (ns.headD ByteArray.empty).data.toList := by simp [findV, h]
end Go.Proofs.YtoplejbmgpgkhaaGreatDoor
/- disk: the document's calls by what they tell. -/
namespace Go.Proofs.YtoplejbmgpgkhaaGreatDoor
open Go.RowKit Go.Maps Go.Joins
set_option linter.unusedSimpArgs false
set_option linter.unusedVariables false
structure RB (R : RS) (ro : Int) : Prop where
  down : R.down = false
  plan : R.plan = []
  cnt : Rn R
  rm : R.room = ro
  r0 : 0 ≤ ro ∧ ro ≤ 1073741824
  wf : Wf (absR R.A) ro
  srt : Srt (absR R.A)
structure RPS (R R' : RS) (ok : Bool) (l : List Tf) : Prop where
  room : R'.room = R.room
  down : R'.down = false
  plan : R'.plan = []
  n : R'.n = R.n + (if ok then 1 else 0)
  abs : absR R'.A = l
theorem RB.planR {R : RS} {ro : Int} (h : RB R ro) : PlanR R := PlanR.nil h.plan
theorem RPS.no {R : RS} {ro : Int} (h : RB R ro) : RPS R R false (absR R.A) := ⟨rfl, h.down, h.plan, by simp, rfl⟩
theorem RPS.up {R : RS} {ro : Int} (h : RB R ro) : RPS R { R with n := R.n + 1 } true (absR R.A) := ⟨rfl, h.down, h.plan, by simp, rfl⟩
theorem RB.len {R : RS} {ro : Int} (h : RB R ro) : R.A.length ≤ 16 := by
  have := h.wf.len
  unfold absR at this
  rw [List.length_map] at this
  exact this
theorem idx_cases (s : ByteArray) (A : List RF) : idxR s A = -1 ∨ ∃ k f, idxR s A = (k : Nat) ∧ A[k]? = some f := by
  rcases Int.lt_or_le (idxR s A) 0 with h | h
  · have := idxR_ge s A
    exact Or.inl (by omega)
  · obtain ⟨k, f, h1, h2, _⟩ := idxR_some h
    exact Or.inr ⟨k, f, h1, h2⟩
theorem nn (s : ByteArray) : (nameB s && nameB s) = nameB s := by cases nameB s <;> rfl
end Go.Proofs.YtoplejbmgpgkhaaGreatDoor
/- disk: does, for the calls on files. -/
namespace Go.Proofs.YtoplejbmgpgkhaaGreatDoor
open Go.RowKit Go.Maps Go.Joins
set_option linter.unusedSimpArgs false
set_option linter.unusedVariables false
/-- Both disks, side by side. -/
structure Two (w : World) (bd br : Nat) (S : DS) (R : RS) (ro : Int) : Prop where
  disk : DiskIs w bd S
  pb : PB S ro
  ref : RefIs w br R
  rb : RB R ro
  same : absP S = absR R.A
  apart : ∀ b, R.own b ≠ 0 → S.role b = .none
/-- What lies beside both stays. -/
structure F2 (w w' : World) (S : DS) (R : RS) (S' : DS) (R' : RS) : Prop where
  os : w'.os = w.os
  tape : w'.tape = w.tape
  output : w'.output = w.output
  size : w.heap.size ≤ w'.heap.size
  block : ∀ b, b < w.heap.size → S.role b = .none → R.own b = 0 → w'.heap[b]? = w.heap[b]?
  off : ∀ b, b < w.heap.size → S.role b = .none → R.own b = 0 → S'.role b = .none ∧ R'.own b = 0
theorem F2.refl (w : World) (S : DS) (R : RS) : F2 w w S R S R := ⟨rfl, rfl, rfl, Nat.le_refl _, fun _ _ _ _ => rfl, fun _ _ h h' => ⟨h, h'⟩⟩
theorem F2.trans {w w' w'' : World} {S S' S'' : DS} {R R' R'' : RS} (h : F2 w w' S R S' R') (k : F2 w' w'' S' R' S'' R'') : F2 w w'' S R S'' R'' :=
  ⟨k.os.trans h.os, k.tape.trans h.tape, k.output.trans h.output, Nat.le_trans h.size k.size,
   fun b hb h1 h2 => (k.block b (Nat.lt_of_lt_of_le hb h.size) (h.off b hb h1 h2).1 (h.off b hb h1 h2).2).trans (h.block b hb h1 h2),
   fun b hb h1 h2 => k.off b (Nat.lt_of_lt_of_le hb h.size) (h.off b hb h1 h2).1 (h.off b hb h1 h2).2⟩
theorem F2.below {w w' : World} {S : DS} {R : RS} (h : Below w.heap.size w w') : F2 w w' S R S R := ⟨h.os, h.tape, h.output, h.size, fun b hb _ _ => h.block b hb, fun _ _ h1 h2 => ⟨h1, h2⟩⟩
/-- The program's disk is called. -/
structure Mid (w w1 : World) (bd br : Nat) (S S' : DS) (R : RS) : Prop where
  disk : DiskIs w1 bd S'
  ref : RefIs w1 br R
  apart : ∀ b, R.own b ≠ 0 → S'.role b = .none
  f2 : F2 w w1 S R S' R
theorem Two.first {w w1 : World} {bd br : Nat} {S S' : DS} {R : RS} {ro : Int} (h : Two w bd br S R ro) (hD : DiskIs w1 bd S') (hF : Fr w w1 S S') : Mid w w1 bd br S S' R :=
  ⟨hD, h.ref.kept (fun b hb => hF.block b (h.ref.own_lt hb) (h.apart b hb)) hF.size, fun b hb => hF.role b (h.ref.own_lt hb) (h.apart b hb),
   ⟨hF.os, hF.tape, hF.output, hF.size, fun b hb h1 _ => hF.block b hb h1, fun b hb h1 h2 => ⟨hF.role b hb h1, h2⟩⟩⟩
theorem Two.next {w w2 : World} {bd br : Nat} {S S' : DS} {R R' : RS} {ro : Int} {ok : Bool} {l : List Tf} (h : Two w bd br S R ro) (hD : DiskIs w2 bd S') (hR : RefIs w2 br R') (hap : ∀ b, R'.own b ≠ 0 → S'.role b = .none) (hp : PS S S' ok l) (hr : RPS R R' ok l) (hw : Wf l ro) (hst : S.steps < 4611686018427387903) (hn : R.n < 4611686018427387903) : Two w2 bd br S' R' ro := by
  have hc := h.pb.cnt
  have hc2 := h.rb.cnt
  unfold Cnt at hc
  unfold Rn at hc2
  refine ⟨hD, ⟨hp.down, hp.plan, ?_, hp.room.trans h.pb.rm, h.pb.r0, by rw [hp.abs]; exact hw⟩, hR, ⟨hr.down, hr.plan, ?_, hr.room.trans h.rb.rm, h.pb.r0, by rw [hr.abs]; exact hw, ?_⟩, by rw [hp.abs, hr.abs], hap⟩
  · unfold Cnt
    rw [hp.armed, hp.steps]
    split <;> omega
  · unfold Rn
    rw [hr.n]
    split <;> omega
  · rw [hr.abs, ← hp.abs]
    exact hD.srt
theorem same_any {w : World} {a b : Value} {xs : List Int} (ha : w.ownsRow 0 5 1 a xs.length (vB xs)) (hb : w.ownsRow 0 5 1 b xs.length (vB xs)) : Calls Tryz.prog 22 #[a, b] w fun e w' => e = .returned (.bool true) ∧ w' = w := by
  have key : ∀ v, w.ownsRow 0 5 1 v xs.length (vB xs) → (∃ a l c, v = .slice a l c) ∧ (convert 36 9 v).run Tryz.prog w = .ok (.string (strOfNums xs)) w := fun v hv => by
    rcases hv.2 with ⟨rfl, h0⟩ | ⟨g, cap, cur, rfl, _⟩
    · have hx : xs = [] := List.eq_nil_of_length_eq_zero h0
      subst hx
      exact ⟨⟨_, _, _, rfl⟩, run_convert_bytes_nil w 36 5 Tryz.underlying36 Tryz.underlying5 0 0 9 Tryz.underlying9⟩
    · refine ⟨⟨_, _, _, rfl⟩, run_convert_bytes_arg w 36 5 Tryz.underlying36 Tryz.underlying5 g 0 xs.length cap xs rfl (fun i hi => ?_) 9 Tryz.underlying9⟩
      have := hv.cells (g := g) rfl i (.int .u8 (xs.getD i 0)) (by simp [vB, List.getElem?_eq_getElem hi])
      rw [Addr.add_lit] at this
      exact this
  obtain ⟨⟨_, _, _, rfl⟩, h1⟩ := key a ha
  obtain ⟨⟨_, _, _, rfl⟩, h2⟩ := key b hb
  clear ha hb key
  go_enter Tryz.func22, Tryz.ntmps22
  go_wp2
  go_ret
  exact ⟨by simp, rfl⟩
end Go.Proofs.YtoplejbmgpgkhaaGreatDoor
