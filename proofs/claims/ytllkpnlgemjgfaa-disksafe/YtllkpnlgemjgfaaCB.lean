/- disk: the calls, told over lists of files. -/
import Derived.Test.YtllkpnlgemjgfaaCA
namespace Go.Proofs.Ytllkpnlgemjgfaa
open Go.RowKit Go.Maps Go.Joins
set_option linter.unusedSimpArgs false
set_option linter.unusedVariables false
def fT (l : List Tf) (n : List UInt8) : Option Tf := l.find? fun p => p.1 == n
theorem fT_absP (S : DS) (n : List UInt8) : fT (absP S) n = (look S.fs n).map fun _ => ((n, (S.fl n).bs, (S.fl n).safe) : Tf) := by
  unfold fT absP look
  rw [List.find?_map, Option.map_map]
  cases h : S.fs.find? ((fun p : Tf => p.1 == n) ∘ fun p => (p.1, (S.fl p.1).bs, (S.fl p.1).safe)) with
  | none =>
    have : S.fs.find? (fun p => p.1 == n) = none := h
    rw [this]; rfl
  | some p =>
    have h1 : S.fs.find? (fun p => p.1 == n) = some p := h
    have h2 : p.1 = n := by simpa using List.find?_some h1
    rw [h1]
    simp [h2]
theorem fT_absR_none {s : ByteArray} {A : List RF} (h : idxR s A = -1) : fT (absR A) s.data.toList = none := by
  unfold fT
  rw [List.find?_eq_none]
  intro p hp
  obtain ⟨f, hf, rfl⟩ := List.mem_map.1 hp
  have := idxR_none h f hf
  simp only [tR, beq_iff_eq]
  exact fun e => this (nm_eq.2 e)
theorem fT_absR_some {s : ByteArray} : ∀ {A : List RF} {k : Nat} {f : RF}, idxR s A = (k : Nat) → A[k]? = some f → fT (absR A) s.data.toList = some (tR f) ∧ f.nm = s
  | [], k, f, h, _ => by simp [idxR] at h
  | a :: r, k, f, h, hf => by
    unfold idxR at h
    by_cases e : a.nm = s
    · rw [if_pos e] at h
      obtain rfl : k = 0 := by omega
      simp at hf
      subst hf
      refine ⟨?_, e⟩
      show List.find? _ (tR a :: absR r) = _
      rw [List.find?_cons_of_pos (by simp [tR, e])]
    · rw [if_neg e] at h
      by_cases e2 : idxR s r = -1
      · rw [if_pos e2] at h; omega
      · rw [if_neg e2] at h
        cases k with
        | zero => have := idxR_ge s r; omega
        | succ k =>
          have ih := fT_absR_some (s := s) (A := r) (k := k) (f := f) (by omega) (by simpa using hf)
          refine ⟨?_, ih.2⟩
          show List.find? _ (tR a :: absR r) = _
          rw [List.find?_cons_of_neg (by simp only [tR, beq_iff_eq]; exact fun e3 => e (nm_eq.2 e3))]
          exact ih.1
theorem fT_mem {l : List Tf} {n : List UInt8} {p : Tf} (h : fT l n = some p) : p ∈ l ∧ p.1 = n := ⟨List.mem_of_find?_eq_some h, by simpa using List.find?_some h⟩
theorem fT_set {l : List Tf} {n m : List UInt8} (hne : m ≠ n) (b : List Int) (s : Int) : fT (setT l n b s) m = fT l m := by
  unfold fT setT
  induction l with
  | nil => rfl
  | cons a r ih =>
    rw [List.map_cons]
    by_cases e : a.1 = n
    · rw [if_pos e, List.find?_cons_of_neg (by simpa using fun h => hne h.symm), List.find?_cons_of_neg (by simpa [e] using fun h => hne h.symm)]
      exact ih
    · rw [if_neg e]
      by_cases e2 : a.1 = m
      · rw [List.find?_cons_of_pos (by simpa using e2), List.find?_cons_of_pos (by simpa using e2)]
      · rw [List.find?_cons_of_neg (by simpa using e2), List.find?_cons_of_neg (by simpa using e2)]
        exact ih
theorem fT_del {l : List Tf} {n m : List UInt8} (hne : m ≠ n) : fT (delT l n) m = fT l m := by
  unfold fT delT
  induction l with
  | nil => rfl
  | cons a r ih =>
    by_cases e : a.1 = n
    · rw [List.filter_cons_of_neg (by simpa using e), List.find?_cons_of_neg (by simpa [e] using fun h => hne h.symm)]
      exact ih
    · rw [List.filter_cons_of_pos (by simpa using e)]
      by_cases e2 : a.1 = m
      · rw [List.find?_cons_of_pos (by simpa using e2), List.find?_cons_of_pos (by simpa using e2)]
      · rw [List.find?_cons_of_neg (by simpa using e2), List.find?_cons_of_neg (by simpa using e2)]
        exact ih
theorem fT_ins {x : Tf} {m : List UInt8} (hne : m ≠ x.1) : ∀ l : List Tf, fT (insT x l) m = fT l m
  | [] => by unfold fT insT; rw [List.find?_cons_of_neg (by simpa using fun h => hne h.symm)]
  | y :: r => by
    have ih := fT_ins hne r
    unfold fT at ih ⊢
    unfold insT
    split
    · rw [List.find?_cons_of_neg (by simpa using fun h => hne h.symm)]
    · by_cases e2 : y.1 = m
      · rw [List.find?_cons_of_pos (by simpa using e2), List.find?_cons_of_pos (by simpa using e2)]
      · rw [List.find?_cons_of_neg (by simpa using e2), List.find?_cons_of_neg (by simpa using e2)]
        exact ih
theorem fT_put {l : List Tf} {x : Tf} {m : List UInt8} (hne : m ≠ x.1) : fT (putT l x) m = fT l m := by
  unfold putT
  rw [fT_ins hne, fT_del hne]
/-- What a list of files keeps to. -/
structure Wf (l : List Tf) (room : Int) : Prop where
  len : l.length ≤ 16
  sum : (sumT l : Int) ≤ room
  safe : ∀ p ∈ l, 0 ≤ p.2.2 ∧ p.2.2 ≤ p.2.1.length
theorem len_ins (x : Tf) : ∀ l : List Tf, (insT x l).length = l.length + 1
  | [] => rfl
  | y :: r => by
    unfold insT
    split
    · rfl
    · simp [len_ins x r]
theorem sum_ins (x : Tf) : ∀ l : List Tf, sumT (insT x l) = sumT l + x.2.1.length
  | [] => by simp [insT, sumT]
  | y :: r => by
    unfold insT
    split
    · simp only [sumT]; omega
    · simp only [sumT, sum_ins x r]; omega
theorem mem_ins {x p : Tf} : ∀ {l : List Tf}, p ∈ insT x l → p = x ∨ p ∈ l
  | [], h => by simp [insT] at h; exact Or.inl h
  | y :: r, h => by
    unfold insT at h
    split at h
    · exact List.mem_cons.1 h
    · rcases List.mem_cons.1 h with h | h
      · exact Or.inr (by rw [h]; exact List.mem_cons_self ..)
      · rcases mem_ins h with h | h
        · exact Or.inl h
        · exact Or.inr (List.mem_cons_of_mem _ h)
theorem len_del (l : List Tf) (n : List UInt8) : (delT l n).length ≤ l.length := List.length_filter_le _ _
theorem sum_del (n : List UInt8) : ∀ l : List Tf, sumT (delT l n) ≤ sumT l
  | [] => Nat.le_refl _
  | a :: r => by
    have ih := sum_del n r
    unfold delT at ih ⊢
    by_cases e : a.1 = n
    · rw [List.filter_cons_of_neg (by simpa using e)]
      simp only [sumT]; omega
    · rw [List.filter_cons_of_pos (by simpa using e)]
      simp only [sumT]; omega
theorem del_here {n : List UInt8} {p : Tf} (hn : p.1 = n) : ∀ {l : List Tf}, p ∈ l → (delT l n).length + 1 ≤ l.length ∧ sumT (delT l n) + p.2.1.length ≤ sumT l
  | [], h => by cases h
  | a :: r, h => by
    by_cases e : a.1 = n
    · have e1 : delT (a :: r) n = delT r n := by unfold delT; rw [List.filter_cons_of_neg (by simpa using e)]
      rw [e1]
      have h1 := len_del r n
      have h2 := sum_del n r
      rcases List.mem_cons.1 h with rfl | h
      · simp only [List.length_cons, sumT]; omega
      · have := del_here hn h
        simp only [List.length_cons, sumT]; omega
    · have e1 : delT (a :: r) n = a :: delT r n := by unfold delT; rw [List.filter_cons_of_pos (by simpa using e)]
      rw [e1]
      rcases List.mem_cons.1 h with rfl | h
      · exact absurd hn e
      · have := del_here hn h
        simp only [List.length_cons, sumT]; omega
theorem Wf.del {l : List Tf} {room : Int} (h : Wf l room) (n : List UInt8) : Wf (delT l n) room :=
  ⟨Nat.le_trans (len_del l n) h.len, by have := sum_del n l; have := h.sum; omega, fun p hp => h.safe p (List.mem_filter.1 hp).1⟩
theorem Wf.put {l : List Tf} {room : Int} (h : Wf l room) (x : Tf) (hl : (delT l x.1).length ≤ 15) (hs : (sumT (delT l x.1) : Int) + x.2.1.length ≤ room) (hx : 0 ≤ x.2.2 ∧ x.2.2 ≤ x.2.1.length) : Wf (putT l x) room := by
  unfold putT
  refine ⟨by rw [len_ins]; omega, by rw [sum_ins]; simp; omega, fun p hp => ?_⟩
  rcases mem_ins hp with rfl | hp
  · exact hx
  · exact h.safe p (List.mem_filter.1 hp).1
theorem Wf.set {l : List Tf} {room : Int} (hsrt : Srt l) (h : Wf l room) {n : List UInt8} {p : Tf} (hp : p ∈ l) (hn : p.1 = n) (b : List Int) (s : Int) (hsum : (sumT l : Int) + b.length ≤ room + p.2.1.length) (hx : 0 ≤ s ∧ s ≤ b.length) : Wf (setT l n b s) room := by
  rw [← putT_here (b := b) (s := s) hsrt ⟨p, hp, hn⟩]
  have h1 := del_here hn hp
  have h2 := h.len
  exact h.put (n, b, s) (by show (delT l n).length ≤ 15; omega) (by show (sumT (delT l n) : Int) + b.length ≤ room; omega) hx
end Go.Proofs.Ytllkpnlgemjgfaa
