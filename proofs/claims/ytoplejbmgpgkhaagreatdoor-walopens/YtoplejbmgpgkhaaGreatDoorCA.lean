/- disk: the two disks held against each other. -/
import Derived.Test.YtoplejbmgpgkhaaGreatDoorRK
namespace Go.Proofs.YtoplejbmgpgkhaaGreatDoor
open Go.RowKit Go.Maps Go.Joins
set_option linter.unusedSimpArgs false
set_option linter.unusedVariables false
/-- A file, told: its name, its bytes, how many are safe. -/
abbrev Tf := List UInt8 × List Int × Int
def absP (S : DS) : List Tf := S.fs.map fun p => (p.1, (S.fl p.1).bs, (S.fl p.1).safe)
def tR (f : RF) : Tf := (f.nm.data.toList, f.bs, f.sf)
def absR (A : List RF) : List Tf := A.map tR
def insT (x : Tf) : List Tf → List Tf
  | [] => [x]
  | y :: r => if bytesBefore x.1 y.1 then x :: y :: r else y :: insT x r
def delT (l : List Tf) (n : List UInt8) : List Tf := l.filter fun p => !(p.1 == n)
def putT (l : List Tf) (x : Tf) : List Tf := insT x (delT l x.1)
def setT (l : List Tf) (n : List UInt8) (b : List Int) (s : Int) : List Tf := l.map fun p => if p.1 = n then (n, b, s) else p
def Srt (l : List Tf) : Prop := l.Pairwise fun p q => bytesBefore p.1 q.1 = true
def sumT : List Tf → Nat
  | [] => 0
  | p :: r => p.2.1.length + sumT r
theorem less_before : ∀ (x y : List UInt8), Op.bytesLess x y = bytesBefore x y
  | [], [] => rfl
  | [], _ :: _ => rfl
  | _ :: _, [] => rfl
  | a :: x, b :: y => by simp only [Op.bytesLess, bytesBefore, less_before x y]
theorem ltR_eq (a f : RF) : ltR a f = bytesBefore (tR a).1 (tR f).1 := by
  unfold ltR tR
  rw [Lib.toList_data, Lib.toList_data, less_before]
theorem nm_eq {a b : ByteArray} : a = b ↔ a.data.toList = b.data.toList := by
  constructor
  · intro h; rw [h]
  · intro h
    cases a; cases b
    simp at h
    rw [h]
/-! the program's -/
theorem map_insL {S' : DS} (x : List UInt8 × Nat) : ∀ l : List (List UInt8 × Nat), (insL x l).map (fun p => ((p.1, (S'.fl p.1).bs, (S'.fl p.1).safe) : Tf)) = insT (x.1, (S'.fl x.1).bs, (S'.fl x.1).safe) (l.map fun p => (p.1, (S'.fl p.1).bs, (S'.fl p.1).safe))
  | [] => rfl
  | y :: r => by
    simp only [insL, List.map_cons, insT]
    split
    · rfl
    · rw [List.map_cons, map_insL x r]
theorem absP_put (S S' : DS) (n : List UInt8) (g : Nat) (l : List (List UInt8 × Nat)) (hfs : S'.fs = putL l n g) (hfl : ∀ m, m ≠ n → S'.fl m = S.fl m) : absP S' = putT (l.map fun p => (p.1, (S.fl p.1).bs, (S.fl p.1).safe)) (n, (S'.fl n).bs, (S'.fl n).safe) := by
  unfold absP putT
  rw [hfs]
  unfold putL
  rw [map_insL]
  congr 1
  unfold delT delL
  rw [List.filter_map]
  apply List.map_congr_left
  intro p hp
  have h1 : p.1 ≠ n := by simpa using (List.mem_filter.1 hp).2
  rw [hfl _ h1]
theorem absP_set (S : DS) (n : List UInt8) (f : FileC) (z : Nat) : absP (setFl S n f z) = setT (absP S) n f.bs f.safe := by
  unfold absP setT
  rw [List.map_map]
  apply List.map_congr_left
  intro p _
  show (p.1, (if p.1 = n then f else S.fl p.1).bs, (if p.1 = n then f else S.fl p.1).safe) = if p.1 = n then (n, f.bs, f.safe) else _
  by_cases e : p.1 = n
  · rw [if_pos e, if_pos e, e]
  · rw [if_neg e, if_neg e]
theorem DiskIs.srt {w : World} {bd : Nat} {S : DS} (h : DiskIs w bd S) : Srt (absP S) := by
  obtain ⟨es, he, hp, _⟩ := h.files.canon law9
  have : S.fs.map toE = es := by
    unfold toD at he
    injection he
  rw [← this, List.pairwise_map] at hp
  unfold Srt absP
  rw [List.pairwise_map]
  exact hp
theorem total_sumT (S : DS) : total S = sumT (absP S) := by
  unfold total absP
  generalize S.fs = l
  induction l with
  | nil => rfl
  | cons p r ih =>
    have : sumL (fun n => (S.fl n).bs.length) (fun _ => false) (p :: r) = (S.fl p.1).bs.length + sumL (fun n => (S.fl n).bs.length) (fun _ => false) r := by simp [sumL]
    rw [this, ih]
    rfl
/-! the document's -/
theorem absR_drop (s : ByteArray) (A : List RF) : absR (dropR s A) = delT (absR A) s.data.toList := by
  unfold absR dropR delT
  rw [List.filter_map]
  congr 1
  apply List.filter_congr
  intro f _
  show (!decide (f.nm = s)) = !(f.nm.data.toList == s.data.toList)
  congr 1
  rw [Bool.eq_iff_iff]
  simp only [decide_eq_true_eq, beq_iff_eq]
  exact nm_eq
theorem sumA_sumT : ∀ A : List RF, sumA A = sumT (absR A)
  | [] => rfl
  | a :: r => by
    show a.bs.length + sumA r = _
    rw [sumA_sumT r]
    rfl
def putRec (f : RF) : List RF → List RF
  | [] => [f]
  | a :: r => if ltR a f then a :: putRec f r else f :: ((a :: r).filter fun x => !decide (x.nm = f.nm))
theorem put_done (f : RF) : ∀ (l acc : List RF), l.foldl (putSt f) (acc, true) = (acc ++ l.filter (fun x => !decide (x.nm = f.nm)), true)
  | [], acc => by simp
  | a :: r, acc => by
    rw [List.foldl_cons]
    have e : putSt f (acc, true) a = (acc ++ (if a.nm = f.nm then [] else [a]), true) := by simp [putSt]
    rw [e, put_done f r]
    by_cases h : a.nm = f.nm <;> simp [h]
theorem put_not (f : RF) : ∀ (l acc : List RF), (if (l.foldl (putSt f) (acc, false)).2 then (l.foldl (putSt f) (acc, false)).1 else (l.foldl (putSt f) (acc, false)).1 ++ [f]) = acc ++ putRec f l
  | [], acc => by simp [putRec]
  | a :: r, acc => by
    rw [List.foldl_cons]
    cases hlt : ltR a f with
    | true =>
      have hne : a.nm ≠ f.nm := fun e => by
        rw [ltR_eq] at hlt
        unfold tR at hlt
        rw [e] at hlt
        rw [WideAt.bytes_irrefl] at hlt
        cases hlt
      have e : putSt f (acc, false) a = (acc ++ [a], false) := by simp [putSt, hlt, hne]
      rw [e, put_not f r]
      simp [putRec, hlt]
    | false =>
      have e : putSt f (acc, false) a = (acc ++ [f] ++ (if a.nm = f.nm then [] else [a]), true) := by simp [putSt, hlt]
      rw [e, put_done]
      simp only [if_true]
      by_cases h : a.nm = f.nm <;> simp [putRec, hlt, h]
theorem putR_rec (f : RF) (A : List RF) : putR f A = putRec f A := by
  have := put_not f A []
  rw [List.nil_append] at this
  exact this
theorem before_trans_ne {x y : List UInt8} (h : bytesBefore x y = false) (hne : x ≠ y) : bytesBefore y x = true := by
  rcases WideAt.bytes_total x y hne with h1 | h1
  · rw [h] at h1; cases h1
  · exact h1
theorem insT_front {x : Tf} : ∀ {l : List Tf}, (∀ p ∈ l, bytesBefore x.1 p.1 = true) → insT x l = x :: l
  | [], _ => rfl
  | y :: r, h => by simp only [insT, h y (List.mem_cons_self ..), if_true]
theorem absR_filter (n : ByteArray) (l : List RF) : absR (l.filter fun x => !decide (x.nm = n)) = delT (absR l) n.data.toList := absR_drop n l
theorem absR_put (f : RF) : ∀ (A : List RF), Srt (absR A) → absR (putRec f A) = putT (absR A) (tR f)
  | [], _ => rfl
  | a :: r, hs => by
    have hs' : Srt (tR a :: absR r) := hs
    unfold Srt at hs'
    rw [List.pairwise_cons] at hs'
    have ih := absR_put f r hs'.2
    unfold putRec
    cases hlt : ltR a f with
    | true =>
      have hb : bytesBefore (tR a).1 (tR f).1 = true := by rw [← ltR_eq]; exact hlt
      have hne : (tR a).1 ≠ (tR f).1 := fun e => by rw [e, WideAt.bytes_irrefl] at hb; cases hb
      have hnb : bytesBefore (tR f).1 (tR a).1 = false := by
        cases h : bytesBefore (tR f).1 (tR a).1 with
        | false => rfl
        | true => exact absurd (WideShapes.bytes_trans _ _ _ hb h) (by rw [WideAt.bytes_irrefl]; simp)
      show tR a :: absR (putRec f r) = _
      rw [ih]
      unfold putT
      have e : delT (absR (a :: r)) (tR f).1 = tR a :: delT (absR r) (tR f).1 := by
        show List.filter _ (tR a :: absR r) = _
        rw [List.filter_cons_of_pos (by simpa using hne)]
        rfl
      rw [e]
      simp only [insT, hnb]
      rfl
    | false =>
      have hb : bytesBefore (tR a).1 (tR f).1 = false := by rw [← ltR_eq]; exact hlt
      show tR f :: absR ((a :: r).filter fun x => !decide (x.nm = f.nm)) = _
      rw [absR_filter]
      unfold putT
      rw [insT_front]
      · rfl
      · intro p hp
        have hm := List.mem_filter.1 hp
        have hpn : p.1 ≠ (tR f).1 := by simpa using hm.2
        have hp' : p = tR a ∨ p ∈ absR r := by
          have : p ∈ tR a :: absR r := hm.1
          exact List.mem_cons.1 this
        by_cases e : (tR a).1 = (tR f).1
        · rcases hp' with rfl | hp'
          · exact absurd e hpn
          · rw [← e]; exact hs'.1 p hp'
        · have h1 := before_trans_ne hb e
          rcases hp' with rfl | hp'
          · exact h1
          · exact WideShapes.bytes_trans _ _ _ h1 (hs'.1 p hp')
theorem map_same {l : List Tf} {f : Tf → Tf} (h : ∀ p ∈ l, f p = p) : l.map f = l := by
  have := List.map_congr_left (g := id) h
  rw [this, List.map_id]
theorem putT_here {n : List UInt8} {b : List Int} {s : Int} : ∀ {l : List Tf}, Srt l → (∃ p ∈ l, p.1 = n) → putT l (n, b, s) = setT l n b s
  | [], _, h => by obtain ⟨p, hp, _⟩ := h; cases hp
  | a :: r, hs, h => by
    have hs' := hs
    unfold Srt at hs'
    rw [List.pairwise_cons] at hs'
    unfold putT
    by_cases e : a.1 = n
    · have hno : ∀ p ∈ r, p.1 ≠ n := fun p hp e2 => by
        have := hs'.1 p hp
        rw [e, e2, WideAt.bytes_irrefl] at this
        cases this
      have e1 : delT (a :: r) n = r := by
        unfold delT
        rw [List.filter_cons_of_neg (by simpa using e), List.filter_eq_self.2 (fun p hp => by simpa using hno p hp)]
      have e2 : setT (a :: r) n b s = (n, b, s) :: r := by
        unfold setT
        rw [List.map_cons, if_pos e]
        congr 1
        exact map_same (fun p hp => if_neg (hno p hp))
      show insT _ (delT (a :: r) n) = _
      rw [e1, e2]
      exact insT_front (fun p hp => by rw [← e]; exact hs'.1 p hp)
    · have h' : ∃ p ∈ r, p.1 = n := by
        obtain ⟨p, hp, hpn⟩ := h
        rcases List.mem_cons.1 hp with rfl | hp
        · exact absurd hpn e
        · exact ⟨p, hp, hpn⟩
      have ih := putT_here (b := b) (s := s) hs'.2 h'
      unfold putT at ih
      have hb : bytesBefore n a.1 = false := by
        obtain ⟨p, hp, hpn⟩ := h'
        have h1 := hs'.1 p hp
        rw [hpn] at h1
        cases h2 : bytesBefore n a.1 with
        | false => rfl
        | true => exact absurd (WideShapes.bytes_trans _ _ _ h1 h2) (by rw [WideAt.bytes_irrefl]; simp)
      have e1 : delT (a :: r) n = a :: delT r n := by
        unfold delT
        rw [List.filter_cons_of_pos (by simpa using e)]
      show insT _ (delT (a :: r) n) = _
      rw [e1]
      simp only [insT, hb]
      unfold setT
      rw [List.map_cons, if_neg e]
      show a :: insT (n, b, s) (delT r n) = _
      rw [ih]
      rfl
theorem absR_set {n : ByteArray} : ∀ {A : List RF} {k : Nat} {f f' : RF}, Srt (absR A) → A[k]? = some f → f.nm = n → f'.nm = n → absR (A.set k f') = setT (absR A) n.data.toList f'.bs f'.sf
  | [], k, f, f', _, h, _, _ => by simp at h
  | a :: r, 0, f, f', hs, h, e, e' => by
    simp at h
    subst h
    have hs' : Srt (tR a :: absR r) := hs
    unfold Srt at hs'
    rw [List.pairwise_cons] at hs'
    have hn : (tR a).1 = n.data.toList := by unfold tR; rw [e]
    show tR f' :: absR r = setT (tR a :: absR r) _ _ _
    unfold setT
    rw [List.map_cons, if_pos hn]
    congr 1
    · unfold tR; rw [e']
    · refine (map_same (fun p hp => if_neg (fun e2 => ?_))).symm
      have h9 := hs'.1 p hp
      rw [hn, e2, WideAt.bytes_irrefl] at h9
      cases h9
  | a :: r, k + 1, f, f', hs, h, e, e' => by
    simp at h
    have hs' : Srt (tR a :: absR r) := hs
    unfold Srt at hs'
    rw [List.pairwise_cons] at hs'
    have ih := absR_set (f' := f') hs'.2 h e e'
    have hfm : tR f ∈ absR r := List.mem_map_of_mem (List.mem_of_getElem? h)
    have hne : (tR a).1 ≠ n.data.toList := fun e2 => by
      have := hs'.1 _ hfm
      rw [e2] at this
      unfold tR at this
      rw [e, WideAt.bytes_irrefl] at this
      cases this
    show tR a :: absR (r.set k f') = setT (tR a :: absR r) _ _ _
    rw [ih]
    unfold setT
    rw [List.map_cons, if_neg hne]
theorem idxR_none {nm : ByteArray} : ∀ {A : List RF}, idxR nm A = -1 → ∀ f ∈ A, f.nm ≠ nm
  | [], _, f, hf => by cases hf
  | a :: r, h, f, hf => by
    unfold idxR at h
    by_cases e : a.nm = nm
    · rw [if_pos e] at h; cases h
    · rw [if_neg e] at h
      by_cases e2 : idxR nm r = -1
      · rcases List.mem_cons.1 hf with rfl | hf
        · exact e
        · exact idxR_none e2 f hf
      · rw [if_neg e2] at h
        have := idxR_ge nm r
        omega
end Go.Proofs.YtoplejbmgpgkhaaGreatDoor
