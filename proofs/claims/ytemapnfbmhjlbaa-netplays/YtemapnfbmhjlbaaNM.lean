/- net: what turns in a net; the net told plainly. -/
import Derived.Test.YtemapnfbmhjlbaaNL
namespace Go.Proofs.Ytemapnfbmhjlbaa
open Go.RowKit Go.Maps Go.Joins
set_option linter.unusedSimpArgs false
set_option linter.unusedVariables false
/-- A net told plainly. -/
structure NA where
  nodes : Int
  next : Int
  clk : Int
  fl : List (Int × Int × Int × List Int)
  tm : List TM
def pkA (p : PK) : Int × Int × Int × List Int := (p.id, p.fr, p.to, p.bs)
def absN (N : NS) : NA := ⟨N.nodes, N.next, N.clk, N.fl.map pkA, N.tm⟩
def setF (N : NS) (v : Value) (l : List PK) : NS := { N with fv := v, fl := l, own := fun x => if v.ownBlock = some x then 3 else N.own x }
def setT (N : NS) (v : Value) (l : List TM) : NS := { N with tv := v, tm := l, own := fun x => if v.ownBlock = some x then 4 else N.own x }
def setNx (N : NS) (z : Int) : NS := { N with next := z }
theorem setF_end {w w2 : World} {b : Nat} {N : NS} {v : Value} {l : List PK} (h : NetIs w b N) (hg : w.grownBy w2 N.fv.ownBlock) (ho : w2.ownsRow 0 35 4 v l.length (pkL l)) (ha : v.ownBlock = N.fv.ownBlock ∨ ∀ x, v.ownBlock = some x → w.heap.size ≤ x)
    (hd : ∀ p ∈ l, BytesV w p.dv p.bs) (hr : ∀ p ∈ l, ∀ x, dBlock p.dv p.bs.length = some x → N.own x = 0) :
    NetIs (w2.setCell ⟨b, 6, none⟩ v) b (setF N v l) ∧ NFq w (w2.setCell ⟨b, 6, none⟩ v) N (setF N v l) := by
  have hlt := h.lt
  have hfne : ∀ x, N.fv.ownBlock = some x → x ≠ b := fun x hx e => by have := h.rf x hx; rw [e, h.rn] at this; cases this
  have hvne : ∀ x, v.ownBlock = some x → x ≠ b := fun x hx => by
    rcases ha with ha | ha
    · exact hfne x (ha ▸ hx)
    · have := ha x hx; omega
  have hk : ∀ x, x ≠ b → (w2.setCell ⟨b, 6, none⟩ v).heap[x]? = w2.heap[x]? := fun x hx => Below.heap_setCell _ _ _ _ hx
  have hold : ∀ x, x < w.heap.size → N.own x ≠ 3 → (setF N v l).own x = N.own x := fun x h0 h2 => if_neg (fun hc => by
    rcases ha with ha | ha
    · exact h2 (h.rf x (ha ▸ hc))
    · have := ha x hc; omega)
  have hsame : ∀ x, x < w.heap.size → N.own x ≠ 1 → N.own x ≠ 3 → (w2.setCell ⟨b, 6, none⟩ v).heap[x]? = w.heap[x]? := fun x h0 h1 h2 => (hk x (fun e => h1 (by rw [e]; exact h.rn))).trans (hg.block x h0 (fun e => h2 (h.rf x e.symm)))
  have hb2 : w2.heap[b]? = some (.cells (nC N) 82) := (hg.block b hlt (fun e => hfne b e.symm rfl)).trans h.net
  refine ⟨⟨?_, ?_, fun g hg' => ?_, fun g hg' => ?_, h.c0, ownsRow_heap ho (fun x hx => hk x (hvne x hx)), fun x hx => if_pos hx, ?_, fun x hx => ?_, fun p hp => ?_, fun p hp x hx => ?_, fun x hx => ?_⟩, ⟨hg.os, hg.tape, hg.output, by simpa using hg.size, fun x hx h0 => ?_, fun x hx h0 => ?_⟩⟩
  · rw [block_setCell hb2 _]
    simp [nC, setF]
  · rw [hold b hlt (by rw [h.rn]; decide)]
    exact h.rn
  · exact (hsame g (heap_lt (h.ck g hg')) (by rw [h.rc g hg']; decide) (by rw [h.rc g hg']; decide)).trans (h.ck g hg')
  · exact (hold g (heap_lt (h.ck g hg')) (by rw [h.rc g hg']; decide)).trans (h.rc g hg')
  · exact ownsRow_heap h.tm (fun x hx => hsame x (h.tm.lt x hx).2 (by rw [h.rt x hx]; decide) (by rw [h.rt x hx]; decide))
  · exact (hold x (h.tm.lt x hx).2 (by rw [h.rt x hx]; decide)).trans (h.rt x hx)
  · exact (hd p hp).kept (fun x hx => hsame x (dBlock_lt (hd p hp) hx) (by rw [hr p hp x hx]; decide) (by rw [hr p hp x hx]; decide))
  · exact (hold x (dBlock_lt (hd p hp) hx) (by rw [hr p hp x hx]; decide)).trans (hr p hp x hx)
  · have hx' : w2.heap.size ≤ x := by simpa using hx
    show (if v.ownBlock = some x then 3 else N.own x) = 0
    rw [if_neg (fun hc => by have := (ho.lt x hc).2; omega)]
    exact h.fresh x (by have := hg.size; omega)
  · exact hsame x hx (by rw [h0]; decide) (by rw [h0]; decide)
  · exact (hold x hx (by rw [h0]; decide)).trans h0
theorem setT_end {w w2 : World} {b : Nat} {N : NS} {v : Value} {l : List TM} (h : NetIs w b N) (hg : w.grownBy w2 N.tv.ownBlock) (ho : w2.ownsRow 0 63 3 v l.length (tmL l)) (ha : v.ownBlock = N.tv.ownBlock ∨ ∀ x, v.ownBlock = some x → w.heap.size ≤ x) :
    NetIs (w2.setCell ⟨b, 7, none⟩ v) b (setT N v l) ∧ NFr w (w2.setCell ⟨b, 7, none⟩ v) N (setT N v l) := by
  have hlt := h.lt
  have hfne : ∀ x, N.tv.ownBlock = some x → x ≠ b := fun x hx e => by have := h.rt x hx; rw [e, h.rn] at this; cases this
  have hvne : ∀ x, v.ownBlock = some x → x ≠ b := fun x hx => by
    rcases ha with ha | ha
    · exact hfne x (ha ▸ hx)
    · have := ha x hx; omega
  have hk : ∀ x, x ≠ b → (w2.setCell ⟨b, 7, none⟩ v).heap[x]? = w2.heap[x]? := fun x hx => Below.heap_setCell _ _ _ _ hx
  have hold : ∀ x, x < w.heap.size → N.own x ≠ 4 → (setT N v l).own x = N.own x := fun x h0 h2 => if_neg (fun hc => by
    rcases ha with ha | ha
    · exact h2 (h.rt x (ha ▸ hc))
    · have := ha x hc; omega)
  have hsame : ∀ x, x < w.heap.size → N.own x ≠ 1 → N.own x ≠ 4 → (w2.setCell ⟨b, 7, none⟩ v).heap[x]? = w.heap[x]? := fun x h0 h1 h2 => (hk x (fun e => h1 (by rw [e]; exact h.rn))).trans (hg.block x h0 (fun e => h2 (h.rt x e.symm)))
  have hb2 : w2.heap[b]? = some (.cells (nC N) 82) := (hg.block b hlt (fun e => hfne b e.symm rfl)).trans h.net
  refine ⟨⟨?_, ?_, fun g hg' => ?_, fun g hg' => ?_, h.c0, ?_, fun x hx => ?_, ownsRow_heap ho (fun x hx => hk x (hvne x hx)), fun x hx => if_pos hx, fun p hp => ?_, fun p hp x hx => ?_, fun x hx => ?_⟩, NFq.fr ⟨hg.os, hg.tape, hg.output, by simpa using hg.size, fun x hx h0 => ?_, fun x hx h0 => ?_⟩ rfl⟩
  · rw [block_setCell hb2 _]
    simp [nC, setT]
  · rw [hold b hlt (by rw [h.rn]; decide)]
    exact h.rn
  · exact (hsame g (heap_lt (h.ck g hg')) (by rw [h.rc g hg']; decide) (by rw [h.rc g hg']; decide)).trans (h.ck g hg')
  · exact (hold g (heap_lt (h.ck g hg')) (by rw [h.rc g hg']; decide)).trans (h.rc g hg')
  · exact ownsRow_heap h.fl (fun x hx => hsame x (h.fl.lt x hx).2 (by rw [h.rf x hx]; decide) (by rw [h.rf x hx]; decide))
  · exact (hold x (h.fl.lt x hx).2 (by rw [h.rf x hx]; decide)).trans (h.rf x hx)
  · exact (h.data p hp).kept (fun x hx => hsame x (dBlock_lt (h.data p hp) hx) (by rw [h.rd p hp x hx]; decide) (by rw [h.rd p hp x hx]; decide))
  · exact (hold x (dBlock_lt (h.data p hp) hx) (by rw [h.rd p hp x hx]; decide)).trans (h.rd p hp x hx)
  · have hx' : w2.heap.size ≤ x := by simpa using hx
    show (if v.ownBlock = some x then 4 else N.own x) = 0
    rw [if_neg (fun hc => by have := (ho.lt x hc).2; omega)]
    exact h.fresh x (by have := hg.size; omega)
  · exact hsame x hx (by rw [h0]; decide) (by rw [h0]; decide)
  · exact (hold x hx (by rw [h0]; decide)).trans h0
theorem setNx_end {w : World} {b : Nat} {N : NS} (h : NetIs w b N) (z : Int) : NetIs (w.setCell ⟨b, 5, none⟩ (.int .i64 z)) b (setNx N z) ∧ NFr w (w.setCell ⟨b, 5, none⟩ (.int .i64 z)) N (setNx N z) := by
  have hr : ∀ y, N.own y ≠ 1 → (w.setCell ⟨b, 5, none⟩ (.int .i64 z)).heap[y]? = w.heap[y]? := fun y hy => Below.heap_setCell _ _ _ _ (fun e => hy (by rw [show y = b from e]; exact h.rn))
  refine ⟨⟨?_, h.rn, fun g hg => (hr g (by rw [h.rc g hg]; decide)).trans (h.ck g hg), h.rc, h.c0, ownsRow_heap h.fl (fun y hy => hr y (by rw [h.rf y hy]; decide)), h.rf, ownsRow_heap h.tm (fun y hy => hr y (by rw [h.rt y hy]; decide)), h.rt, fun p hp => (h.data p hp).kept (fun y hy => hr y (by rw [h.rd p hp y hy]; decide)), h.rd, fun y hy => h.fresh y (by simpa using hy)⟩, NFq.fr ⟨rfl, rfl, rfl, by simp, fun y hy h0 => hr y (by rw [h0]; decide), fun y hy h0 => h0⟩ rfl⟩
  rw [block_setCell h.net _]
  simp [nC, setNx]
theorem pkL_append (a c : List PK) : pkL (a ++ c) = pkL a ++ pkL c := by simp [pkL]
theorem tmL_append (a c : List TM) : tmL (a ++ c) = tmL a ++ tmL c := by simp [tmL]
theorem pkL_length (A : List PK) : (pkL A).length = A.length * 4 := by
  induction A with
  | nil => rfl
  | cons f A ih => show (pkC f ++ pkL A).length = _; rw [List.length_append, ih]; simp [pkC]; omega
theorem tmL_length (A : List TM) : (tmL A).length = A.length * 3 := by
  induction A with
  | nil => rfl
  | cons f A ih => show (tmC f ++ tmL A).length = _; rw [List.length_append, ih]; simp [tmC]; omega
theorem pkL_take : ∀ (A : List PK) (i : Nat), pkL (A.take i) = (pkL A).take (i * 4)
  | [], i => by simp [pkL]
  | f :: A, 0 => by simp [pkL]
  | f :: A, i + 1 => by
    show pkC f ++ pkL (A.take i) = (pkC f ++ pkL A).take ((i + 1) * 4)
    have hl : (pkC f).length = 4 := rfl
    rw [List.take_append, hl, pkL_take A i, List.take_of_length_le (l := pkC f) (by rw [hl]; omega), show (i + 1) * 4 - 4 = i * 4 from by omega]
theorem pkL_drop : ∀ (A : List PK) (i : Nat), pkL (A.drop i) = (pkL A).drop (i * 4)
  | [], i => by simp [pkL]
  | f :: A, 0 => by simp [pkL]
  | f :: A, i + 1 => by
    show pkL (A.drop i) = (pkC f ++ pkL A).drop ((i + 1) * 4)
    have hl : (pkC f).length = 4 := rfl
    rw [List.drop_append, hl, pkL_drop A i, show (pkC f).drop ((i + 1) * 4) = [] from List.drop_eq_nil_of_le (by rw [hl]; omega), show (i + 1) * 4 - 4 = i * 4 from by omega, List.nil_append]
theorem tmL_take : ∀ (A : List TM) (i : Nat), tmL (A.take i) = (tmL A).take (i * 3)
  | [], i => by simp [tmL]
  | f :: A, 0 => by simp [tmL]
  | f :: A, i + 1 => by
    show tmC f ++ tmL (A.take i) = (tmC f ++ tmL A).take ((i + 1) * 3)
    have hl : (tmC f).length = 3 := rfl
    rw [List.take_append, hl, tmL_take A i, List.take_of_length_le (l := tmC f) (by rw [hl]; omega), show (i + 1) * 3 - 3 = i * 3 from by omega]
theorem tmL_drop : ∀ (A : List TM) (i : Nat), tmL (A.drop i) = (tmL A).drop (i * 3)
  | [], i => by simp [tmL]
  | f :: A, 0 => by simp [tmL]
  | f :: A, i + 1 => by
    show tmL (A.drop i) = (tmC f ++ tmL A).drop ((i + 1) * 3)
    have hl : (tmC f).length = 3 := rfl
    rw [List.drop_append, hl, tmL_drop A i, show (tmC f).drop ((i + 1) * 3) = [] from List.drop_eq_nil_of_le (by rw [hl]; omega), show (i + 1) * 3 - 3 = i * 3 from by omega, List.nil_append]
theorem pkL_at : ∀ (A : List PK) (i : Nat) (f : PK), A[i]? = some f → ∀ j, j < 4 → (pkL A)[i * 4 + j]? = (pkC f)[j]?
  | [], i, f, h, j, hj => by simp at h
  | g :: A, 0, f, h, j, hj => by
    simp at h
    subst h
    show (pkC g ++ pkL A)[0 * 4 + j]? = _
    rw [List.getElem?_append_left (by simp [pkC]; omega)]
    simp
  | g :: A, i + 1, f, h, j, hj => by
    simp at h
    show (pkC g ++ pkL A)[(i + 1) * 4 + j]? = _
    rw [List.getElem?_append_right (by simp [pkC]; omega)]
    have := pkL_at A i f h j hj
    simp only [pkC, List.length_cons, List.length_nil] at *
    rw [show (i + 1) * 4 + j - (0 + 1 + 1 + 1 + 1) = i * 4 + j from by omega]
    exact this
theorem tmL_at : ∀ (A : List TM) (i : Nat) (f : TM), A[i]? = some f → ∀ j, j < 3 → (tmL A)[i * 3 + j]? = (tmC f)[j]?
  | [], i, f, h, j, hj => by simp at h
  | g :: A, 0, f, h, j, hj => by
    simp at h
    subst h
    show (tmC g ++ tmL A)[0 * 3 + j]? = _
    rw [List.getElem?_append_left (by simp [tmC]; omega)]
    simp
  | g :: A, i + 1, f, h, j, hj => by
    simp at h
    show (tmC g ++ tmL A)[(i + 1) * 3 + j]? = _
    rw [List.getElem?_append_right (by simp [tmC]; omega)]
    have := tmL_at A i f h j hj
    simp only [tmC, List.length_cons, List.length_nil] at *
    rw [show (i + 1) * 3 + j - (0 + 1 + 1 + 1) = i * 3 + j from by omega]
    exact this
theorem tmL_one (A : List TM) : ∀ u ∈ tmL A, u.oneCell' = true := fun u hu => by
  obtain ⟨t, _, hu⟩ := List.mem_flatMap.1 hu
  simp only [tmC, List.mem_cons, List.not_mem_nil, or_false] at hu
  rcases hu with rfl | rfl | rfl <;> rfl
theorem BytesV.one {w : World} {v : Value} {bs : List Int} (h : BytesV w v bs) : v.oneCell' = true := by
  obtain ⟨a, c, rfl⟩ := h.form
  rfl
theorem pkL_one {w : World} (A : List PK) (h : ∀ p ∈ A, BytesV w p.dv p.bs) : ∀ u ∈ pkL A, u.oneCell' = true := fun u hu => by
  obtain ⟨t, ht, hu⟩ := List.mem_flatMap.1 hu
  simp only [pkC, List.mem_cons, List.not_mem_nil, or_false] at hu
  rcases hu with rfl | rfl | rfl | rfl
  · rfl
  · rfl
  · rfl
  · exact (h t ht).one
end Go.Proofs.Ytemapnfbmhjlbaa
