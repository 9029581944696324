/- net: the program's net and the document's, side by side. -/
import Derived.Test.YtemapnfbmhjlbaaQC
import Derived.Test.YtemapnfbmhjlbaaRN
namespace Go.Proofs.Ytemapnfbmhjlbaa
open Go.RowKit Go.Maps Go.Joins
set_option linter.unusedVariables false
theorem NetIs.kept {w w' : World} {b : Nat} {N : NS} (h : NetIs w b N) (hs : w.heap.size ≤ w'.heap.size) (hk : ∀ x, N.own x ≠ 0 → w'.heap[x]? = w.heap[x]?) (hd : ∀ p ∈ N.fl, ∀ x, dBlock p.dv p.bs.length = some x → w'.heap[x]? = w.heap[x]?) : NetIs w' b N where
  net := (hk b (by rw [h.rn]; decide)).trans h.net
  rn := h.rn
  ck := fun g hg => (hk g (by rw [h.rc g hg]; decide)).trans (h.ck g hg)
  rc := h.rc
  c0 := h.c0
  fl := ownsRow_heap h.fl (fun g hg => hk g (by rw [h.rf g hg]; decide))
  rf := h.rf
  tm := ownsRow_heap h.tm (fun g hg => hk g (by rw [h.rt g hg]; decide))
  rt := h.rt
  data := fun p hp => (h.data p hp).kept (fun x hx => hd p hp x hx)
  rd := h.rd
  fresh := fun g hg => h.fresh g (Nat.le_trans hs hg)
theorem RIs.kept {w w' : World} {b : Nat} {N : RS} (h : RIs w b N) (hs : w.heap.size ≤ w'.heap.size) (hk : ∀ x, N.own x ≠ 0 → w'.heap[x]? = w.heap[x]?) (hd : ∀ p ∈ N.fl, ∀ x, dBlock p.dv p.bs.length = some x → w'.heap[x]? = w.heap[x]?) : RIs w' b N where
  net := (hk b (by rw [h.rn]; decide)).trans h.net
  rn := h.rn
  fl := ownsRow_heap h.fl (fun g hg => hk g (by rw [h.rf g hg]; decide))
  rf := h.rf
  tm := ownsRow_heap h.tm (fun g hg => hk g (by rw [h.rt g hg]; decide))
  rt := h.rt
  data := fun p hp => (h.data p hp).kept (fun x hx => hd p hp x hx)
  rd := h.rd
  fresh := fun g hg => h.fresh g (Nat.le_trans hs hg)
theorem NetIs.lt_of {w : World} {b : Nat} {N : NS} (h : NetIs w b N) {x : Nat} (hx : N.own x ≠ 0) : x < w.heap.size := h.own_lt hx
theorem RIs.lt_of {w : World} {b : Nat} {N : RS} (h : RIs w b N) {x : Nat} (hx : N.own x ≠ 0) : x < w.heap.size := by
  rcases Nat.lt_or_ge x w.heap.size with h1 | h1
  · exact h1
  · exact absurd (h.fresh x h1) hx
/-- Side by side: none lies in the other's memory. -/
structure Sd (w : World) (b c : Nat) (N : NS) (R : RS) : Prop where
  net : NetIs w b N
  ref : RIs w c R
  d1 : ∀ x, R.own x ≠ 0 → N.own x = 0
  d2 : ∀ p ∈ N.fl, ∀ x, dBlock p.dv p.bs.length = some x → R.own x = 0
  d3 : ∀ p ∈ R.fl, ∀ x, dBlock p.dv p.bs.length = some x → N.own x = 0
theorem Sd.below {w w' : World} {b c : Nat} {N : NS} {R : RS} (h : Sd w b c N R) (hb : Below w.heap.size w w') : Sd w' b c N R := ⟨h.net.below hb, h.ref.below hb, h.d1, h.d2, h.d3⟩
theorem Sd.prog {w w' : World} {b c : Nat} {N N' : NS} {R : RS} (h : Sd w b c N R) (h1 : NetIs w' b N') (f : NFr w w' N N') : Sd w' b c N' R where
  net := h1
  ref := h.ref.kept f.size (fun x hx => f.block x (h.ref.lt_of hx) (h.d1 x hx)) (fun p hp x hx => f.block x (dBlock_lt (h.ref.data p hp) hx) (h.d3 p hp x hx))
  d1 := fun x hx => f.own x (h.ref.lt_of hx) (h.d1 x hx)
  d2 := fun p hp x hx => by
    rcases f.dat p hp x hx with ⟨q, hq, hy⟩ | hy
    · exact h.d2 q hq x hy
    · exact h.ref.fresh x hy
  d3 := fun p hp x hx => f.own x (dBlock_lt (h.ref.data p hp) hx) (h.d3 p hp x hx)
theorem Sd.doc {w w' : World} {b c : Nat} {N : NS} {R R' : RS} (h : Sd w b c N R) (h1 : RIs w' c R') (f : RFr w w' R R') : Sd w' b c N R' := by
  have h0 : ∀ x, N.own x ≠ 0 → R.own x = 0 := fun x hx => Classical.byContradiction fun hr => hx (h.d1 x hr)
  exact {
    net := h.net.kept f.size (fun x hx => f.block x (h.net.lt_of hx) (h0 x hx)) (fun p hp x hx => f.block x (dBlock_lt (h.net.data p hp) hx) (h.d2 p hp x hx))
    ref := h1
    d1 := fun x hx => Classical.byContradiction fun hn => hx (f.own x (h.net.lt_of hn) (h0 x hn))
    d2 := fun p hp x hx => f.own x (dBlock_lt (h.net.data p hp) hx) (h.d2 p hp x hx)
    d3 := fun p hp x hx => by
      rcases f.dat p hp x hx with ⟨q, hq, hy⟩ | hy
      · exact h.d3 q hq x hy
      · exact h.net.fresh x hy }
theorem AOk.rok {R : RS} {M : Int} (h : AOk (absR R) M) (hM : M ≤ 4611686018427387904) : ROk R where
  nx := ⟨h.nx.1, Int.le_trans h.nx.2 hM⟩
  ck := h.ck
  fl := by have := h.fl; simpa [absR] using this
  tm := h.tm
  at_ := h.at_
  bs := fun p hp => h.bs (pkA p) (List.mem_map_of_mem hp)
theorem AOk.clear {A : NA} {M : Int} (h : AOk A M) (x : Int) : AOk (nClear A x) M :=
  { h with
    tm := Nat.le_trans (List.length_filter_le _ _) h.tm
    at_ := fun t ht => h.at_ t (List.mem_filter.1 ht).1
    asc := asc_pw.2 ((asc_pw.1 h.asc).filter _) }
end Go.Proofs.Ytemapnfbmhjlbaa
