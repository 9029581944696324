/- CA, CB, CC, CE, CI, CJ, CK, WE -/
import Derived.Test.YtconkienlcegaaaGreatDoorGRK
import Derived.Test.YtconkienlcegaaaGreatDoorGDI
namespace Go.Proofs.YtconkienlcegaaaGreatDoor
open Go.RowKit Go.Maps Go.Joins
set_option linter.unusedSimpArgs false
set_option linter.unusedVariables false
abbrev Tf := List UInt8 × List Int × Int
def absP (S : DS) : List Tf := S.fs.map fun p => (p.1, (S.fl p.1).bs, (S.fl p.1).safe)
def tR (f : RF) : Tf := (f.nm.data.toList, f.bs, f.sf)
def absR (A : List RF) : List Tf := A.map tR
def insT (x : Tf) : List Tf → List Tf
 | [] => [x]
 | y :: r => if bytesBefore x.1 y.1 then x :: y :: r else y :: insT x r
def delT (l : List Tf) (n : List UInt8) : List Tf := l.filter fun p => !(p.1 == n)
def putT (l : List Tf) (x : Tf) : List Tf := insT x (delT l x.1)
def setT (l : List Tf) (n : List UInt8) (b : List Int) (s : Int) : List Tf := l.map fun p => if p.1 = n then (n, b, s) else p
def Srt (l : List Tf) : Prop := l.Pairwise fun p q => bytesBefore p.1 q.1 = true
def sumT : List Tf → Nat
 | [] => 0
 | p :: r => p.2.1.length + sumT r
theorem less_before : ∀ (x y : List UInt8), Op.bytesLess x y = bytesBefore x y
 | [], [] => rfl
 | [], _ :: _ => rfl
 | _ :: _, [] => rfl
 | a :: x, b :: y => by simp only [Op.bytesLess, bytesBefore, less_before x y]
theorem ltR_eq (a f : RF) : ltR a f = bytesBefore (tR a).1 (tR f).1 := by
 unfold ltR tR; rw [Lib.toList_data, Lib.toList_data, less_before]
theorem nm_eq {a b : ByteArray} : a = b ↔ a.data.toList = b.data.toList := by
 constructor
 · intro h; rw [h]
 · intro h
   cases a; cases b
   simp at h; rw [h]
/-! the program's -/
theorem map_insL {S' : DS} (x : List UInt8 × Nat) : ∀ l : List (List UInt8 × Nat), (insL x l).map (fun p => ((p.1, (S'.fl p.1).bs, (S'.fl p.1).safe) : Tf)) = insT (x.1, (S'.fl x.1).bs, (S'.fl x.1).safe) (l.map fun p => (p.1, (S'.fl p.1).bs, (S'.fl p.1).safe))
 | [] => rfl
 | y :: r => by
   simp only [insL, List.map_cons, insT]; split
   · rfl
   · rw [List.map_cons, map_insL x r]
theorem absP_put (S S' : DS) (n : List UInt8) (g : Nat) (l : List (List UInt8 × Nat)) (hfs : S'.fs = putL l n g) (hfl : ∀ m, m ≠ n → S'.fl m = S.fl m) : absP S' = putT (l.map fun p => (p.1, (S.fl p.1).bs, (S.fl p.1).safe)) (n, (S'.fl n).bs, (S'.fl n).safe) := by
 unfold absP putT; rw [hfs]; unfold putL; rw [map_insL]; congr 1; unfold delT delL; rw [List.filter_map]; apply List.map_congr_left; intro p hp; have h1 : p.1 ≠ n := by simpa using (List.mem_filter.1 hp).2
 rw [hfl _ h1]
theorem absP_set (S : DS) (n : List UInt8) (f : FileC) (z : Nat) : absP (setFl S n f z) = setT (absP S) n f.bs f.safe := by
 unfold absP setT; rw [List.map_map]; apply List.map_congr_left; intro p _; show (p.1, (if p.1 = n then f else S.fl p.1).bs, (if p.1 = n then f else S.fl p.1).safe) = if p.1 = n then (n, f.bs, f.safe) else _
 by_cases e : p.1 = n
 · rw [if_pos e, if_pos e, e]
 · rw [if_neg e, if_neg e]
theorem DiskIs.srt {w : World} {bd : Nat} {S : DS} (h : DiskIs w bd S) : Srt (absP S) := by
 obtain ⟨es, he, hp, _⟩ := h.files.canon law9; have : S.fs.map toE = es := by
  unfold toD at he; injection he
 rw [← this, List.pairwise_map] at hp; unfold Srt absP; rw [List.pairwise_map]; exact hp
theorem total_sumT (S : DS) : total S = sumT (absP S) := by
 unfold total absP; generalize S.fs = l; induction l with
 | nil => rfl
 | cons p r ih =>
   have : sumL (fun n => (S.fl n).bs.length) (fun _ => false) (p :: r) = (S.fl p.1).bs.length + sumL (fun n => (S.fl n).bs.length) (fun _ => false) r := by simp [sumL]
   rw [this, ih]; rfl
/-! the document's -/
theorem absR_drop (s : ByteArray) (A : List RF) : absR (dropR s A) = delT (absR A) s.data.toList := by
 unfold absR dropR delT; rw [List.filter_map]; congr 1; apply List.filter_congr; intro f _; show (!decide (f.nm = s)) = !(f.nm.data.toList == s.data.toList); congr 1; rw [Bool.eq_iff_iff]; simp only [decide_eq_true_eq, beq_iff_eq]; exact nm_eq
theorem sumA_sumT : ∀ A : List RF, sumA A = sumT (absR A)
 | [] => rfl
 | a :: r => by
   show a.bs.length + sumA r = _; rw [sumA_sumT r]; rfl
def putRec (f : RF) : List RF → List RF
 | [] => [f]
 | a :: r => if ltR a f then a :: putRec f r else f :: ((a :: r).filter fun x => !decide (x.nm = f.nm))
theorem put_done (f : RF) : ∀ (l acc : List RF), l.foldl (putSt f) (acc, true) = (acc ++ l.filter (fun x => !decide (x.nm = f.nm)), true)
 | [], acc => by simp
 | a :: r, acc => by
   rw [List.foldl_cons]; have e : putSt f (acc, true) a = (acc ++ (if a.nm = f.nm then [] else [a]), true) := by simp [putSt]
   rw [e, put_done f r]; by_cases h : a.nm = f.nm <;> simp [h]
theorem put_not (f : RF) : ∀ (l acc : List RF), (if (l.foldl (putSt f) (acc, false)).2 then (l.foldl (putSt f) (acc, false)).1 else (l.foldl (putSt f) (acc, false)).1 ++ [f]) = acc ++ putRec f l
 | [], acc => by simp [putRec]
 | a :: r, acc => by
   rw [List.foldl_cons]; cases hlt : ltR a f with
   | true =>
     have hne : a.nm ≠ f.nm := fun e => by
      rw [ltR_eq] at hlt; unfold tR at hlt; rw [e] at hlt; rw [WideAt.bytes_irrefl] at hlt; cases hlt
     have e : putSt f (acc, false) a = (acc ++ [a], false) := by simp [putSt, hlt, hne]
     rw [e, put_not f r]; simp [putRec, hlt]
   | false =>
     have e : putSt f (acc, false) a = (acc ++ [f] ++ (if a.nm = f.nm then [] else [a]), true) := by simp [putSt, hlt]
     rw [e, put_done]; simp only [if_true]; by_cases h : a.nm = f.nm <;> simp [putRec, hlt, h]
theorem putR_rec (f : RF) (A : List RF) : putR f A = putRec f A := by
 have := put_not f A []; rw [List.nil_append] at this; exact this
theorem before_trans_ne {x y : List UInt8} (h : bytesBefore x y = false) (hne : x ≠ y) : bytesBefore y x = true := by
 rcases WideAt.bytes_total x y hne with h1 | h1
 · rw [h] at h1; cases h1
 · exact h1
theorem insT_front {x : Tf} : ∀ {l : List Tf}, (∀ p ∈ l, bytesBefore x.1 p.1 = true) → insT x l = x :: l
 | [], _ => rfl
 | y :: r, h => by simp only [insT, h y (List.mem_cons_self ..), if_true]
theorem absR_filter (n : ByteArray) (l : List RF) : absR (l.filter fun x => !decide (x.nm = n)) = delT (absR l) n.data.toList := absR_drop n l
theorem absR_put (f : RF) : ∀ (A : List RF), Srt (absR A) → absR (putRec f A) = putT (absR A) (tR f)
 | [], _ => rfl
 | a :: r, hs => by
   have hs' : Srt (tR a :: absR r) := hs; unfold Srt at hs'; rw [List.pairwise_cons] at hs'; have ih := absR_put f r hs'.2; unfold putRec; cases hlt : ltR a f with
   | true =>
     have hb : bytesBefore (tR a).1 (tR f).1 = true := by rw [← ltR_eq]; exact hlt
     have hne : (tR a).1 ≠ (tR f).1 := fun e => by rw [e, WideAt.bytes_irrefl] at hb; cases hb
     have hnb : bytesBefore (tR f).1 (tR a).1 = false := by
      cases h : bytesBefore (tR f).1 (tR a).1 with
      | false => rfl
      | true => exact absurd (WideShapes.bytes_trans _ _ _ hb h) (by rw [WideAt.bytes_irrefl]; simp)
     show tR a :: absR (putRec f r) = _; rw [ih]; unfold putT; have e : delT (absR (a :: r)) (tR f).1 = tR a :: delT (absR r) (tR f).1 := by
      show List.filter _ (tR a :: absR r) = _; rw [List.filter_cons_of_pos (by simpa using hne)]; rfl
     rw [e]; simp only [insT, hnb]; rfl
   | false =>
     have hb : bytesBefore (tR a).1 (tR f).1 = false := by rw [← ltR_eq]; exact hlt
     show tR f :: absR ((a :: r).filter fun x => !decide (x.nm = f.nm)) = _; rw [absR_filter]; unfold putT; rw [insT_front]
     · rfl
     · intro p hp
       have hm := List.mem_filter.1 hp; have hpn : p.1 ≠ (tR f).1 := by simpa using hm.2
       have hp' : p = tR a ∨ p ∈ absR r := by
        have : p ∈ tR a :: absR r := hm.1; exact List.mem_cons.1 this
       by_cases e : (tR a).1 = (tR f).1
       · rcases hp' with rfl | hp'
         · exact absurd e hpn
         · rw [← e]; exact hs'.1 p hp'
       · have h1 := before_trans_ne hb e
         rcases hp' with rfl | hp'
         · exact h1
         · exact WideShapes.bytes_trans _ _ _ h1 (hs'.1 p hp')
theorem map_same {l : List Tf} {f : Tf → Tf} (h : ∀ p ∈ l, f p = p) : l.map f = l := by
 have := List.map_congr_left (g := id) h; rw [this, List.map_id]
theorem putT_here {n : List UInt8} {b : List Int} {s : Int} : ∀ {l : List Tf}, Srt l → (∃ p ∈ l, p.1 = n) → putT l (n, b, s) = setT l n b s
 | [], _, h => by obtain ⟨p, hp, _⟩ := h; cases hp
 | a :: r, hs, h => by
   have hs' := hs; unfold Srt at hs'; rw [List.pairwise_cons] at hs'; unfold putT; by_cases e : a.1 = n
   · have hno : ∀ p ∈ r, p.1 ≠ n := fun p hp e2 => by
      have := hs'.1 p hp; rw [e, e2, WideAt.bytes_irrefl] at this; cases this
     have e1 : delT (a :: r) n = r := by
      unfold delT; rw [List.filter_cons_of_neg (by simpa using e), List.filter_eq_self.2 (fun p hp => by simpa using hno p hp)]
     have e2 : setT (a :: r) n b s = (n, b, s) :: r := by
      unfold setT; rw [List.map_cons, if_pos e]; congr 1; exact map_same (fun p hp => if_neg (hno p hp))
     show insT _ (delT (a :: r) n) = _; rw [e1, e2]; exact insT_front (fun p hp => by rw [← e]; exact hs'.1 p hp)
   · have h' : ∃ p ∈ r, p.1 = n := by
      obtain ⟨p, hp, hpn⟩ := h; rcases List.mem_cons.1 hp with rfl | hp
      · exact absurd hpn e
      · exact ⟨p, hp, hpn⟩
     have ih := putT_here (b := b) (s := s) hs'.2 h'; unfold putT at ih; have hb : bytesBefore n a.1 = false := by
      obtain ⟨p, hp, hpn⟩ := h'; have h1 := hs'.1 p hp; rw [hpn] at h1; cases h2 : bytesBefore n a.1 with
      | false => rfl
      | true => exact absurd (WideShapes.bytes_trans _ _ _ h1 h2) (by rw [WideAt.bytes_irrefl]; simp)
     have e1 : delT (a :: r) n = a :: delT r n := by
      unfold delT; rw [List.filter_cons_of_pos (by simpa using e)]
     show insT _ (delT (a :: r) n) = _; rw [e1]; simp only [insT, hb]; unfold setT; rw [List.map_cons, if_neg e]; show a :: insT (n, b, s) (delT r n) = _; rw [ih]; rfl
theorem absR_set {n : ByteArray} : ∀ {A : List RF} {k : Nat} {f f' : RF}, Srt (absR A) → A[k]? = some f → f.nm = n → f'.nm = n → absR (A.set k f') = setT (absR A) n.data.toList f'.bs f'.sf
 | [], k, f, f', _, h, _, _ => by simp at h
 | a :: r, 0, f, f', hs, h, e, e' => by
   simp at h; subst h; have hs' : Srt (tR a :: absR r) := hs; unfold Srt at hs'; rw [List.pairwise_cons] at hs'; have hn : (tR a).1 = n.data.toList := by unfold tR; rw [e]
   show tR f' :: absR r = setT (tR a :: absR r) _ _ _; unfold setT; rw [List.map_cons, if_pos hn]; congr 1
   · unfold tR; rw [e']
   · refine (map_same (fun p hp => if_neg (fun e2 => ?_))).symm
     have h9 := hs'.1 p hp; rw [hn, e2, WideAt.bytes_irrefl] at h9; cases h9
 | a :: r, k + 1, f, f', hs, h, e, e' => by
   simp at h; have hs' : Srt (tR a :: absR r) := hs; unfold Srt at hs'; rw [List.pairwise_cons] at hs'; have ih := absR_set (f' := f') hs'.2 h e e'; have hfm : tR f ∈ absR r := List.mem_map_of_mem (List.mem_of_getElem? h); have hne : (tR a).1 ≠ n.data.toList := fun e2 => by
    have := hs'.1 _ hfm; rw [e2] at this; unfold tR at this; rw [e, WideAt.bytes_irrefl] at this; cases this
   show tR a :: absR (r.set k f') = setT (tR a :: absR r) _ _ _; rw [ih]; unfold setT; rw [List.map_cons, if_neg hne]
theorem idxR_none {nm : ByteArray} : ∀ {A : List RF}, idxR nm A = -1 → ∀ f ∈ A, f.nm ≠ nm
 | [], _, f, hf => by cases hf
 | a :: r, h, f, hf => by
   unfold idxR at h; by_cases e : a.nm = nm
   · rw [if_pos e] at h; cases h
   · rw [if_neg e] at h
     by_cases e2 : idxR nm r = -1
     · rcases List.mem_cons.1 hf with rfl | hf
       · exact e
       · exact idxR_none e2 f hf
     · rw [if_neg e2] at h
       have := idxR_ge nm r; omega
def fT (l : List Tf) (n : List UInt8) : Option Tf := l.find? fun p => p.1 == n
theorem fT_absP (S : DS) (n : List UInt8) : fT (absP S) n = (look S.fs n).map fun _ => ((n, (S.fl n).bs, (S.fl n).safe) : Tf) := by
 unfold fT absP look; rw [List.find?_map, Option.map_map]; cases h : S.fs.find? ((fun p : Tf => p.1 == n) ∘ fun p => (p.1, (S.fl p.1).bs, (S.fl p.1).safe)) with
 | none =>
   have : S.fs.find? (fun p => p.1 == n) = none := h; rw [this]; rfl
 | some p =>
   have h1 : S.fs.find? (fun p => p.1 == n) = some p := h; have h2 : p.1 = n := by simpa using List.find?_some h1
   rw [h1]; simp [h2]
theorem fT_absR_none {s : ByteArray} {A : List RF} (h : idxR s A = -1) : fT (absR A) s.data.toList = none := by
 unfold fT; rw [List.find?_eq_none]; intro p hp; obtain ⟨f, hf, rfl⟩ := List.mem_map.1 hp; have := idxR_none h f hf; simp only [tR, beq_iff_eq]; exact fun e => this (nm_eq.2 e)
theorem fT_absR_some {s : ByteArray} : ∀ {A : List RF} {k : Nat} {f : RF}, idxR s A = (k : Nat) → A[k]? = some f → fT (absR A) s.data.toList = some (tR f) ∧ f.nm = s
 | [], k, f, h, _ => by simp [idxR] at h
 | a :: r, k, f, h, hf => by
   unfold idxR at h; by_cases e : a.nm = s
   · rw [if_pos e] at h
     obtain rfl : k = 0 := by omega
     simp at hf; subst hf; refine ⟨?_, e⟩; show List.find? _ (tR a :: absR r) = _; rw [List.find?_cons_of_pos (by simp [tR, e])]
   · rw [if_neg e] at h
     by_cases e2 : idxR s r = -1
     · rw [if_pos e2] at h; omega
     · rw [if_neg e2] at h
       cases k with
       | zero => have := idxR_ge s r; omega
       | succ k =>
         have ih := fT_absR_some (s := s) (A := r) (k := k) (f := f) (by omega) (by simpa using hf); refine ⟨?_, ih.2⟩; show List.find? _ (tR a :: absR r) = _; rw [List.find?_cons_of_neg (by simp only [tR, beq_iff_eq]; exact fun e3 => e (nm_eq.2 e3))]; exact ih.1
theorem fT_mem {l : List Tf} {n : List UInt8} {p : Tf} (h : fT l n = some p) : p ∈ l ∧ p.1 = n := ⟨List.mem_of_find?_eq_some h, by simpa using List.find?_some h⟩
theorem fT_ins {x : Tf} {m : List UInt8} (hne : m ≠ x.1) : ∀ l : List Tf, fT (insT x l) m = fT l m
 | [] => by unfold fT insT; rw [List.find?_cons_of_neg (by simpa using fun h => hne h.symm)]
 | y :: r => by
   have ih := fT_ins hne r; unfold fT at ih ⊢; unfold insT; split
   · rw [List.find?_cons_of_neg (by simpa using fun h => hne h.symm)]
   · by_cases e2 : y.1 = m
     · rw [List.find?_cons_of_pos (by simpa using e2), List.find?_cons_of_pos (by simpa using e2)]
     · rw [List.find?_cons_of_neg (by simpa using e2), List.find?_cons_of_neg (by simpa using e2)]
       exact ih
structure Wf (l : List Tf) (room : Int) : Prop where
 len : l.length ≤ 16
 sum : (sumT l : Int) ≤ room
 safe : ∀ p ∈ l, 0 ≤ p.2.2 ∧ p.2.2 ≤ p.2.1.length
theorem len_ins (x : Tf) : ∀ l : List Tf, (insT x l).length = l.length + 1
 | [] => rfl
 | y :: r => by
   unfold insT; split
   · rfl
   · simp [len_ins x r]
theorem sum_ins (x : Tf) : ∀ l : List Tf, sumT (insT x l) = sumT l + x.2.1.length
 | [] => by simp [insT, sumT]
 | y :: r => by
   unfold insT; split
   · simp only [sumT]; omega
   · simp only [sumT, sum_ins x r]; omega
theorem mem_ins {x p : Tf} : ∀ {l : List Tf}, p ∈ insT x l → p = x ∨ p ∈ l
 | [], h => by simp [insT] at h; exact Or.inl h
 | y :: r, h => by
   unfold insT at h; split at h
   · exact List.mem_cons.1 h
   · rcases List.mem_cons.1 h with h | h
     · exact Or.inr (by rw [h]; exact List.mem_cons_self ..)
     · rcases mem_ins h with h | h
       · exact Or.inl h
       · exact Or.inr (List.mem_cons_of_mem _ h)
theorem len_del (l : List Tf) (n : List UInt8) : (delT l n).length ≤ l.length := List.length_filter_le _ _
theorem sum_del (n : List UInt8) : ∀ l : List Tf, sumT (delT l n) ≤ sumT l
 | [] => Nat.le_refl _
 | a :: r => by
   have ih := sum_del n r; unfold delT at ih ⊢; by_cases e : a.1 = n
   · rw [List.filter_cons_of_neg (by simpa using e)]
     simp only [sumT]; omega
   · rw [List.filter_cons_of_pos (by simpa using e)]
     simp only [sumT]; omega
theorem del_here {n : List UInt8} {p : Tf} (hn : p.1 = n) : ∀ {l : List Tf}, p ∈ l → (delT l n).length + 1 ≤ l.length ∧ sumT (delT l n) + p.2.1.length ≤ sumT l
 | [], h => by cases h
 | a :: r, h => by
   by_cases e : a.1 = n
   · have e1 : delT (a :: r) n = delT r n := by unfold delT; rw [List.filter_cons_of_neg (by simpa using e)]
     rw [e1]; have h1 := len_del r n; have h2 := sum_del n r; rcases List.mem_cons.1 h with rfl | h
     · simp only [List.length_cons, sumT]; omega
     · have := del_here hn h
       simp only [List.length_cons, sumT]; omega
   · have e1 : delT (a :: r) n = a :: delT r n := by unfold delT; rw [List.filter_cons_of_pos (by simpa using e)]
     rw [e1]; rcases List.mem_cons.1 h with rfl | h
     · exact absurd hn e
     · have := del_here hn h
       simp only [List.length_cons, sumT]; omega
theorem Wf.put {l : List Tf} {room : Int} (h : Wf l room) (x : Tf) (hl : (delT l x.1).length ≤ 15) (hs : (sumT (delT l x.1) : Int) + x.2.1.length ≤ room) (hx : 0 ≤ x.2.2 ∧ x.2.2 ≤ x.2.1.length) : Wf (putT l x) room := by
 unfold putT; refine ⟨by rw [len_ins]; omega, by rw [sum_ins]; simp; omega, fun p hp => ?_⟩; rcases mem_ins hp with rfl | hp
 · exact hx
 · exact h.safe p (List.mem_filter.1 hp).1
theorem Wf.set {l : List Tf} {room : Int} (hsrt : Srt l) (h : Wf l room) {n : List UInt8} {p : Tf} (hp : p ∈ l) (hn : p.1 = n) (b : List Int) (s : Int) (hsum : (sumT l : Int) + b.length ≤ room + p.2.1.length) (hx : 0 ≤ s ∧ s ≤ b.length) : Wf (setT l n b s) room := by
 rw [← putT_here (b := b) (s := s) hsrt ⟨p, hp, hn⟩]; have h1 := del_here hn hp; have h2 := h.len; exact h.put (n, b, s) (by show (delT l n).length ≤ 15; omega) (by show (sumT (delT l n) : Int) + b.length ≤ room; omega) hx
abbrev nb (s : ByteArray) : List UInt8 := s.data.toList
def eFind (l : List Tf) (s : ByteArray) : Int := if nameB s then (if (fT l (nb s)).isSome then 0 else 33) else 1
def lSync (l : List Tf) (s : ByteArray) : List Tf := if nameB s then (match fT l (nb s) with | some p => setT l (nb s) p.2.1 p.2.1.length | none => l) else l
def eTru (l : List Tf) (s : ByteArray) (x : Int) : Int := if nameB s then (match fT l (nb s) with | some p => if x < 0 ∨ (p.2.1.length : Int) < x then 1 else 0 | none => 33) else 1
def lTru (l : List Tf) (s : ByteArray) (x : Int) : List Tf := if nameB s then (match fT l (nb s) with | some p => if x < 0 ∨ (p.2.1.length : Int) < x then l else setT l (nb s) (p.2.1.take x.toNat) x | none => l) else l
def eApp (l : List Tf) (room : Int) (s : ByteArray) (bs : List Int) : Int := if nameB s then (if fT l (nb s) = none ∧ 16 ≤ l.length then 3 else if room < (sumT l : Int) + bs.length then 30 else 0) else 1
def lApp (l : List Tf) (room : Int) (s : ByteArray) (bs : List Int) : List Tf := if nameB s then (if fT l (nb s) = none ∧ 16 ≤ l.length then l else if room < (sumT l : Int) + bs.length then l else (match fT l (nb s) with | some p => setT l (nb s) (p.2.1 ++ bs) p.2.2 | none => putT l (nb s, bs, 0))) else l
theorem okN1 (s : ByteArray) : okN [s] = nameB s := by simp [okN]
theorem fT_none {S : DS} {n : List UInt8} (h : look S.fs n = none) : fT (absP S) n = none := by rw [fT_absP, h]; rfl
theorem fT_some {S : DS} {n : List UInt8} {g : Nat} (h : look S.fs n = some g) : fT (absP S) n = some (n, (S.fl n).bs, (S.fl n).safe) := by rw [fT_absP, h]; rfl
theorem findV1 {S : DS} {ns : List ByteArray} (h : stepE S ns = 0) : findV S ns = look S.fs (ns.headD ByteArray.empty).data.toList := by simp [findV, h]
theorem idx_cases (s : ByteArray) (A : List RF) : idxR s A = -1 ∨ ∃ k f, idxR s A = (k : Nat) ∧ A[k]? = some f := by
 rcases Int.lt_or_le (idxR s A) 0 with h | h
 · have := idxR_ge s A
   exact Or.inl (by omega)
 · obtain ⟨k, f, h1, h2, _⟩ := idxR_some h
   exact Or.inr ⟨k, f, h1, h2⟩
theorem nn (s : ByteArray) : (nameB s && nameB s) = nameB s := by cases nameB s <;> rfl
theorem sync_wf {l : List Tf} {ro : Int} (hs : Srt l) (h : Wf l ro) (s : ByteArray) : Wf (lSync l s) ro := by
 unfold lSync; split
 · split
   · rename_i p hp
     have := fT_mem hp; exact Wf.set hs h this.1 this.2 _ _ (by have := h.sum; omega) ⟨by omega, by omega⟩
   · exact h
 · exact h
theorem tru_wf {l : List Tf} {ro : Int} (hs : Srt l) (h : Wf l ro) (s : ByteArray) (x : Int) : Wf (lTru l s x) ro := by
 unfold lTru; split
 · split
   · rename_i p hp
     split
     · exact h
     · rename_i hx
       have h1 := fT_mem hp; have h2 := List.length_take (l := p.2.1) (i := x.toNat); refine Wf.set hs h h1.1 h1.2 _ _ (by have := h.sum; omega) ⟨by omega, by omega⟩
   · exact h
 · exact h
theorem app_wf {l : List Tf} {ro : Int} (hs : Srt l) (h : Wf l ro) (s : ByteArray) (bs : List Int) : Wf (lApp l ro s bs) ro := by
 unfold lApp; split
 · split
   · exact h
   · rename_i hn
     split
     · exact h
     · rename_i hr
       split
       · rename_i p hp
         have h1 := fT_mem hp; have h7 := h.safe p h1.1; refine Wf.set hs h h1.1 h1.2 _ _ ?_ ?_
         · rw [List.length_append]; omega
         · rw [List.length_append]; omega
       · rename_i hp
         have h3 := len_del l (nb s); have h4 := sum_del (nb s) l; have h6 : l.length < 16 := by
          rcases Nat.lt_or_ge l.length 16 with h8 | h8
          · exact h8
          · exact absurd ⟨hp, h8⟩ hn
         refine Wf.put h _ ?_ ?_ ?_
         · show (delT l (nb s)).length ≤ 15
           omega
         · show (sumT (delT l (nb s)) : Int) + bs.length ≤ ro
           omega
         · show (0 : Int) ≤ 0 ∧ (0 : Int) ≤ bs.length
           omega
 · exact h
theorem wf_nil {ro : Int} (h : 0 ≤ ro) : Wf [] ro := ⟨by simp, by simpa [sumT] using h, by simp⟩
theorem BytesV.lt {w : World} {v : Value} {bs : List Int} (h : BytesV w v bs) : ∀ b, dBlock v bs = some b → b < w.heap.size := by
 intro b hb; cases bs with
 | nil => simp [dBlock] at hb
 | cons x bs =>
   rcases h with ⟨_, h0⟩ | ⟨ad, cap, rfl, hc⟩
   · cases h0
   · have h1 := hc 0 (.int .u8 x) rfl
     have h2 := cell_lt h1; have h3 : (ad.add 0).block = ad.block := by unfold Addr.add; split <;> rfl
     have h4 : ad.block = b := by simpa [dBlock, Value.ownBlock] using hb
     omega
structure LS where
 bd : Nat
 nm : ByteArray
 most : Int
 fv : Value
 fs : List Int
 rv : Value
 rs : List (Value × List Int)
 size : Int
 uns : Bool
 own : Nat → Nat
def vI (l : List Int) : List Value := l.map (Value.int .i64)
def lC (L : LS) : Array Value := #[.pointer (some ⟨L.bd, 0, none⟩), .string L.nm, .int .i64 L.most, L.fv, L.rv, .int .i64 L.size, .bool L.uns]
structure LogIs (w : World) (bl : Nat) (L : LS) : Prop where
 log : w.heap[bl]? = some (.cells (lC L) 141)
 rl : L.own bl = 1
 files : w.ownsRow 0 3 1 L.fv L.fs.length (vI L.fs)
 rf : ∀ b, L.fv.ownBlock = some b → L.own b = 2
 recs : w.ownsRow 0 23 1 L.rv L.rs.length (L.rs.map (·.1))
 rr : ∀ b, L.rv.ownBlock = some b → L.own b = 3
 each : ∀ p ∈ L.rs, BytesV w p.1 p.2
 re : ∀ p ∈ L.rs, ∀ b, dBlock p.1 p.2 = some b → L.own b = 4
 fresh : ∀ b, w.heap.size ≤ b → L.own b = 0
theorem BytesV.keep {w w' : World} {v : Value} {bs : List Int} (h : BytesV w v bs) (hk : ∀ b, dBlock v bs = some b → w'.heap[b]? = w.heap[b]?) : BytesV w' v bs := by
 rcases h with h | ⟨ad, cap, rfl, hc⟩
 · exact Or.inl h
 · refine Or.inr ⟨ad, cap, rfl, fun j u hu => ?_⟩
   have hb : (ad.add j).block = ad.block := by unfold Addr.add; split <;> rfl
   refine (World.cell?_of_block (a := ad.add j) ?_).trans (hc j u hu); rw [hb]; exact hk _ (by rw [dBlock_vB hu]; rfl)
theorem LogIs.kept {w w' : World} {bl : Nat} {L : LS} (h : LogIs w bl L) (hk : ∀ b, L.own b ≠ 0 → w'.heap[b]? = w.heap[b]?) (hs : w.heap.size ≤ w'.heap.size) : LogIs w' bl L where
 log := (hk bl (by rw [h.rl]; simp)).trans h.log
 rl := h.rl
 files := ownsRow_heap h.files (fun b hb => hk b (by rw [h.rf b hb]; simp))
 rf := h.rf
 recs := ownsRow_heap h.recs (fun b hb => hk b (by rw [h.rr b hb]; simp))
 rr := h.rr
 each := fun p hp => (h.each p hp).keep (fun b hb => hk b (by rw [h.re p hp b hb]; simp))
 re := h.re
 fresh := fun b hb => h.fresh b (by omega)
theorem LogIs.lt {w : World} {bl : Nat} {L : LS} (h : LogIs w bl L) : bl < w.heap.size := heap_lt h.log
theorem LogIs.own_lt {w : World} {bl b : Nat} {L : LS} (h : LogIs w bl L) (hb : L.own b ≠ 0) : b < w.heap.size := by
 rcases Nat.lt_or_ge b w.heap.size with h1 | h1
 · exact h1
 · exact absurd (h.fresh b h1) hb
theorem LogIs.below {w w' : World} {bl : Nat} {L : LS} (h : LogIs w bl L) (hb : Below w.heap.size w w') : LogIs w' bl L := h.kept (fun b hr => hb.block b (h.own_lt hr)) hb.size
structure LFr (w w' : World) (L L' : LS) : Prop where
 os : w'.os = w.os
 tape : w'.tape = w.tape
 output : w'.output = w.output
 size : w.heap.size ≤ w'.heap.size
 block : ∀ b, b < w.heap.size → L.own b = 0 → w'.heap[b]? = w.heap[b]?
 own : ∀ b, b < w.heap.size → L.own b = 0 → L'.own b = 0
def fst (L : LS) : Int := L.fs.headD 0
def endL (L : LS) : Int := fst L + L.rs.length
def LN (L : LS) : Prop := (∀ x ∈ L.fs, 0 ≤ x ∧ x < 1000000000) ∧ L.rs.length ≤ 1099511627776
theorem LN.fst {L : LS} (h : LN L) : 0 ≤ fst L ∧ fst L < 1000000000 := by
 unfold Proofs.YtconkienlcegaaaGreatDoor.fst; cases hf : L.fs with
 | nil => simp
 | cons x r => exact h.1 x (by rw [hf]; simp)
theorem vI_length (l : List Int) : (vI l).length = l.length := by simp [vI]
theorem LogIs.file {w : World} {bl : Nat} {L : LS} (h : LogIs w bl L) : ∃ a c, L.fv = .slice a L.fs.length c ∧ ∀ j x, L.fs[j]? = some x → ∃ g, a = some ⟨g, 0, none⟩ ∧ w.cell? ⟨g, j, none⟩ = some (.int .i64 x) := by
 obtain ⟨a, c, e⟩ := row_form h.files; refine ⟨a, c, e, fun j x hj => ?_⟩; have hl := (List.getElem?_eq_some_iff.1 hj).1; rcases h.files.2 with ⟨_, h0⟩ | ⟨g, cap', cur, e', _⟩
 · omega
 · rw [e] at e'
   injection e' with e1 e2 e3
   subst e1; have h0 := h.files.cells (g := g) (by rw [e]; rfl) j (.int .i64 x) (by unfold vI; rw [List.getElem?_map, hj]; rfl); rw [Addr.add_lit, Nat.zero_add] at h0; exact ⟨g, rfl, h0⟩
set_option maxHeartbeats 1000000 in
theorem first_any {w : World} {bl : Nat} {L : LS} (h : LogIs w bl L) : Calls Tryz.prog 41 #[.pointer (some ⟨bl, 0, none⟩)] w fun e w' => e = .returned (.int .i64 (fst L)) ∧ w' = w := by
 have c3 : w.cell? ⟨bl, 3, none⟩ = some L.fv := by rw [cell_of_block h.log]; rfl
 obtain ⟨a, c, e, hc⟩ := h.file; rw [e] at c3; cases hf : L.fs with
 | nil =>
   rw [hf] at c3; have HF : Hid (fst L = 0) := by show fst L = 0; unfold fst; rw [hf]; rfl
   clear h hc hf e; go_enter Tryz.func41, Tryz.ntmps41; go_wp2; go_ret; rw [HF.out]; exact ⟨rfl, rfl⟩
 | cons x r =>
   obtain ⟨g, rfl, c0⟩ := hc 0 x (by rw [hf]; rfl); rw [hf] at c3; have HF : Hid (fst L = x) := by show fst L = x; unfold fst; rw [hf]; rfl
   have hl : ((x :: r).length : Int) ≠ 0 := by rw [List.length_cons]; omega
   have hl2 : (0 : Int) < (x :: r).length := by rw [List.length_cons]; omega
   have hl3 : (((x :: r).length : Int) == 0) = false := by simpa using hl
   generalize (x :: r).length = n at c3 hl hl2 hl3; clear h hc hf e; go_enter Tryz.func41, Tryz.ntmps41; go_wp2; go_ret; rw [HF.out]; exact ⟨rfl, rfl⟩
theorem LogIs.drewN {w : World} {bl : Nat} {L : LS} (h : LogIs w bl L) (n : Nat) : LogIs (w.drewN n) bl L := h.kept (fun _ _ => rfl) (Nat.le_refl _)
set_option maxHeartbeats 1000000 in
theorem end_any {w : World} {bl : Nat} {L : LS} (h : LogIs w bl L) (hn : LN L) : Calls Tryz.prog 42 #[.pointer (some ⟨bl, 0, none⟩)] w fun e w' => e = .returned (.int .i64 (endL L)) ∧ ∃ m, w' = w.drewN m := by
 have c4 : w.cell? ⟨bl, 4, none⟩ = some L.rv := by rw [cell_of_block h.log]; rfl
 obtain ⟨a, c, e⟩ := row_form h.recs; rw [e] at c4; have hf := fun n => first_any (h.drewN n)
 have HF : Hid _ := hf; have hb := hn.fst; have hb2 := hn.2; have HE : Hid (endL L = fst L + L.rs.length) := rfl; clear h hf e hn; generalize fst L = F at *; go_enter Tryz.func42, Tryz.ntmps42; go_wp2_with fail; go_quiet (first | (go_at_call 41; refine Calls.quiet_of_same (HF.out _))); go_wp2; go_ret; rw [HE.out]; exact ⟨rfl, _, rfl⟩
set_option maxHeartbeats 1000000 in
theorem last_any {w : World} {bl : Nat} {L : LS} (h : LogIs w bl L) {x : Int} (hx : L.fs.getLast? = some x) : Calls Tryz.prog 115 #[.pointer (some ⟨bl, 0, none⟩)] w fun e w' => e = .returned (.int .i64 x) ∧ ∃ m, w' = w.drewN m := by
 have c3 : w.cell? ⟨bl, 3, none⟩ = some L.fv := by rw [cell_of_block h.log]; rfl
 obtain ⟨a, c, e, hc⟩ := h.file; rw [e] at c3; rw [List.getLast?_eq_getElem?] at hx; obtain ⟨g, rfl, c0⟩ := hc _ x hx; have hl := (List.getElem?_eq_some_iff.1 hx).1; have hm : L.fs.length ≤ 9223372036854775807 := by
  rcases h.files.2 with ⟨_, h0⟩ | ⟨g', cap', cur, _, _, _, h1, h2, _⟩
  · omega
  · unfold maxLen at h2
    omega
 generalize L.fs.length = n at *; have h1 : 0 < n := by omega
 obtain ⟨k, rfl⟩ : ∃ k, n = k + 1 := ⟨n - 1, by omega⟩
 rw [Nat.add_sub_cancel] at c0; have q1 : (k : Int) < ((k + 1 : Nat) : Int) := by omega
 clear h hc hx e hl h1; go_enter Tryz.func115, Tryz.ntmps115; go_wp2_with fail; go_quiet (fail); go_wp2; go_ret; exact ⟨rfl, _, rfl⟩
end Go.Proofs.YtconkienlcegaaaGreatDoor
