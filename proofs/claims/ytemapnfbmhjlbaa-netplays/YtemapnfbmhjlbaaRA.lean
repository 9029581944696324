/- net: the reference in memory. -/
import Derived.Test.YtemapnfbmhjlbaaNR
namespace Go.Proofs.Ytemapnfbmhjlbaa
open Go.RowKit Go.Maps Go.Joins
set_option linter.unusedSimpArgs false
set_option linter.unusedVariables false
structure RS where
  nodes : Int
  next : Int
  clk : Int
  fv : Value
  fl : List PK
  tv : Value
  tm : List TM
  own : Nat → Nat
def rC (N : RS) : Array Value := #[.int .i64 N.nodes, .int .i64 N.next, .int .i64 N.clk, N.fv, N.tv]
/-- Block b is a net as the reference has it. -/
structure RIs (w : World) (b : Nat) (N : RS) : Prop where
  net : w.heap[b]? = some (.cells (rC N) 54)
  rn : N.own b = 1
  fl : w.ownsRow 0 38 4 N.fv N.fl.length (pkL N.fl)
  rf : ∀ g, N.fv.ownBlock = some g → N.own g = 3
  tm : w.ownsRow 0 92 3 N.tv N.tm.length (tmL N.tm)
  rt : ∀ g, N.tv.ownBlock = some g → N.own g = 4
  data : ∀ p ∈ N.fl, BytesV w p.dv p.bs
  rd : ∀ p ∈ N.fl, ∀ g, dBlock p.dv p.bs.length = some g → N.own g = 0
  fresh : ∀ g, w.heap.size ≤ g → N.own g = 0
structure RFq (w w' : World) (N N' : RS) : Prop where
  os : w'.os = w.os
  tape : w'.tape = w.tape
  output : w'.output = w.output
  size : w.heap.size ≤ w'.heap.size
  block : ∀ g, g < w.heap.size → N.own g = 0 → w'.heap[g]? = w.heap[g]?
  own : ∀ g, g < w.heap.size → N.own g = 0 → N'.own g = 0
structure RFr (w w' : World) (N N' : RS) : Prop extends RFq w w' N N' where
  dat : ∀ p ∈ N'.fl, ∀ x, dBlock p.dv p.bs.length = some x → (∃ q ∈ N.fl, dBlock q.dv q.bs.length = some x) ∨ w.heap.size ≤ x
theorem RFq.fr {w w' : World} {N N' : RS} (h : RFq w w' N N') (e : N'.fl = N.fl) : RFr w w' N N' := ⟨h, fun p hp x hx => Or.inl ⟨p, by rw [← e]; exact hp, hx⟩⟩
theorem RFq.trans {w w' w'' : World} {L L' L'' : RS} (h : RFq w w' L L') (k : RFq w' w'' L' L'') : RFq w w'' L L'' :=
  ⟨k.os.trans h.os, k.tape.trans h.tape, k.output.trans h.output, Nat.le_trans h.size k.size,
   fun b hb hr => (k.block b (Nat.lt_of_lt_of_le hb h.size) (h.own b hb hr)).trans (h.block b hb hr),
   fun b hb hr => k.own b (Nat.lt_of_lt_of_le hb h.size) (h.own b hb hr)⟩
theorem RFr.refl (w : World) (N : RS) : RFr w w N N := RFq.fr ⟨rfl, rfl, rfl, Nat.le_refl _, fun _ _ _ => rfl, fun _ _ h => h⟩ rfl
theorem RFr.trans {w w' w'' : World} {L L' L'' : RS} (h : RFr w w' L L') (k : RFr w' w'' L' L'') : RFr w w'' L L'' :=
  ⟨h.toRFq.trans k.toRFq, fun p hp x hx => by
    rcases k.dat p hp x hx with ⟨q, hq, hy⟩ | hy
    · exact h.dat q hq x hy
    · exact Or.inr (Nat.le_trans h.size hy)⟩
theorem RFr.below {w w' : World} {L : RS} (h : Below w.heap.size w w') : RFr w w' L L :=
  RFq.fr ⟨h.os, h.tape, h.output, h.size, fun b hb _ => h.block b hb, fun _ _ hr => hr⟩ rfl
theorem RIs.lt {w : World} {b : Nat} {N : RS} (h : RIs w b N) : b < w.heap.size := heap_lt h.net
theorem RIs.below {w w' : World} {b : Nat} {N : RS} (h : RIs w b N) (hb : Below w.heap.size w w') : RIs w' b N where
  net := (hb.block b h.lt).trans h.net
  rn := h.rn
  fl := ownsRow_heap h.fl (fun g hg => hb.block g (h.fl.lt g hg).2)
  rf := h.rf
  tm := ownsRow_heap h.tm (fun g hg => hb.block g (h.tm.lt g hg).2)
  rt := h.rt
  data := fun p hp => (h.data p hp).below hb
  rd := h.rd
  fresh := fun g hg => h.fresh g (Nat.le_trans hb.size hg)
theorem RIs.cells {w : World} {b : Nat} {N : RS} (h : RIs w b N) : w.cell? ⟨b, 0, none⟩ = some (.int .i64 N.nodes) ∧ w.cell? ⟨b, 1, none⟩ = some (.int .i64 N.next) ∧ w.cell? ⟨b, 2, none⟩ = some (.int .i64 N.clk) ∧ w.cell? ⟨b, 3, none⟩ = some N.fv ∧ w.cell? ⟨b, 4, none⟩ = some N.tv := by
  refine ⟨?_, ?_, ?_, ?_, ?_⟩ <;> rw [cell_of_block h.net] <;> rfl
theorem RIs.unfrozen {w : World} {b : Nat} {N : RS} (h : RIs w b N) (i : Nat) : w.frozen? ⟨b, i, none⟩ = false := unfrozen_of_block h.net i
theorem rowz {w : World} {base n size : Nat} {e : TypeId} {v : Value} {xs : List Value} (h : w.ownsRow base e size v n xs) : w.ownsRow 0 e size v n xs := by
  refine ⟨h.1, ?_⟩
  rcases h.2 with h | ⟨g, cap, cur, e, _, r⟩
  · exact Or.inl h
  · exact Or.inr ⟨g, cap, cur, e, Nat.zero_le _, r⟩
def absR (N : RS) : NA := ⟨N.nodes, N.next, N.clk, N.fl.map pkA, N.tm⟩
def rsetF (N : RS) (v : Value) (l : List PK) : RS := { N with fv := v, fl := l, own := fun x => if v.ownBlock = some x then 3 else N.own x }
def rsetT (N : RS) (v : Value) (l : List TM) : RS := { N with tv := v, tm := l, own := fun x => if v.ownBlock = some x then 4 else N.own x }
def rsetNx (N : RS) (z : Int) : RS := { N with next := z }
def rsetCk (N : RS) (z : Int) : RS := { N with clk := z }
theorem rsetF_end {w w2 : World} {b : Nat} {N : RS} {v : Value} {l : List PK} (h : RIs w b N) (hg : w.grownBy w2 N.fv.ownBlock) (ho : w2.ownsRow 0 38 4 v l.length (pkL l)) (ha : v.ownBlock = N.fv.ownBlock ∨ ∀ x, v.ownBlock = some x → w.heap.size ≤ x)
    (hd : ∀ p ∈ l, BytesV w p.dv p.bs) (hr : ∀ p ∈ l, ∀ x, dBlock p.dv p.bs.length = some x → N.own x = 0) :
    RIs (w2.setCell ⟨b, 3, none⟩ v) b (rsetF N v l) ∧ RFq w (w2.setCell ⟨b, 3, none⟩ v) N (rsetF N v l) := by
  have hlt := h.lt
  have hfne : ∀ x, N.fv.ownBlock = some x → x ≠ b := fun x hx e => by have := h.rf x hx; rw [e, h.rn] at this; cases this
  have hvne : ∀ x, v.ownBlock = some x → x ≠ b := fun x hx => by
    rcases ha with ha | ha
    · exact hfne x (ha ▸ hx)
    · have := ha x hx; omega
  have hk : ∀ x, x ≠ b → (w2.setCell ⟨b, 3, none⟩ v).heap[x]? = w2.heap[x]? := fun x hx => Below.heap_setCell _ _ _ _ hx
  have hold : ∀ x, x < w.heap.size → N.own x ≠ 3 → (rsetF N v l).own x = N.own x := fun x h0 h2 => if_neg (fun hc => by
    rcases ha with ha | ha
    · exact h2 (h.rf x (ha ▸ hc))
    · have := ha x hc; omega)
  have hsame : ∀ x, x < w.heap.size → N.own x ≠ 1 → N.own x ≠ 3 → (w2.setCell ⟨b, 3, none⟩ v).heap[x]? = w.heap[x]? := fun x h0 h1 h2 => (hk x (fun e => h1 (by rw [e]; exact h.rn))).trans (hg.block x h0 (fun e => h2 (h.rf x e.symm)))
  have hb2 : w2.heap[b]? = some (.cells (rC N) 54) := (hg.block b hlt (fun e => hfne b e.symm rfl)).trans h.net
  refine ⟨⟨?_, ?_, ownsRow_heap ho (fun x hx => hk x (hvne x hx)), fun x hx => if_pos hx, ?_, fun x hx => ?_, fun p hp => ?_, fun p hp x hx => ?_, fun x hx => ?_⟩, ⟨hg.os, hg.tape, hg.output, by simpa using hg.size, fun x hx h0 => ?_, fun x hx h0 => ?_⟩⟩
  · rw [block_setCell hb2 _]
    simp [rC, rsetF]
  · rw [hold b hlt (by rw [h.rn]; decide)]
    exact h.rn
  · exact ownsRow_heap h.tm (fun x hx => hsame x (h.tm.lt x hx).2 (by rw [h.rt x hx]; decide) (by rw [h.rt x hx]; decide))
  · exact (hold x (h.tm.lt x hx).2 (by rw [h.rt x hx]; decide)).trans (h.rt x hx)
  · exact (hd p hp).kept (fun x hx => hsame x (dBlock_lt (hd p hp) hx) (by rw [hr p hp x hx]; decide) (by rw [hr p hp x hx]; decide))
  · exact (hold x (dBlock_lt (hd p hp) hx) (by rw [hr p hp x hx]; decide)).trans (hr p hp x hx)
  · have hx' : w2.heap.size ≤ x := by simpa using hx
    show (if v.ownBlock = some x then 3 else N.own x) = 0
    rw [if_neg (fun hc => by have := (ho.lt x hc).2; omega)]
    exact h.fresh x (by have := hg.size; omega)
  · exact hsame x hx (by rw [h0]; decide) (by rw [h0]; decide)
  · exact (hold x hx (by rw [h0]; decide)).trans h0
theorem rsetT_end {w w2 : World} {b : Nat} {N : RS} {v : Value} {l : List TM} (h : RIs w b N) (hg : w.grownBy w2 N.tv.ownBlock) (ho : w2.ownsRow 0 92 3 v l.length (tmL l)) (ha : v.ownBlock = N.tv.ownBlock ∨ ∀ x, v.ownBlock = some x → w.heap.size ≤ x) :
    RIs (w2.setCell ⟨b, 4, none⟩ v) b (rsetT N v l) ∧ RFr w (w2.setCell ⟨b, 4, none⟩ v) N (rsetT N v l) := by
  have hlt := h.lt
  have hfne : ∀ x, N.tv.ownBlock = some x → x ≠ b := fun x hx e => by have := h.rt x hx; rw [e, h.rn] at this; cases this
  have hvne : ∀ x, v.ownBlock = some x → x ≠ b := fun x hx => by
    rcases ha with ha | ha
    · exact hfne x (ha ▸ hx)
    · have := ha x hx; omega
  have hk : ∀ x, x ≠ b → (w2.setCell ⟨b, 4, none⟩ v).heap[x]? = w2.heap[x]? := fun x hx => Below.heap_setCell _ _ _ _ hx
  have hold : ∀ x, x < w.heap.size → N.own x ≠ 4 → (rsetT N v l).own x = N.own x := fun x h0 h2 => if_neg (fun hc => by
    rcases ha with ha | ha
    · exact h2 (h.rt x (ha ▸ hc))
    · have := ha x hc; omega)
  have hsame : ∀ x, x < w.heap.size → N.own x ≠ 1 → N.own x ≠ 4 → (w2.setCell ⟨b, 4, none⟩ v).heap[x]? = w.heap[x]? := fun x h0 h1 h2 => (hk x (fun e => h1 (by rw [e]; exact h.rn))).trans (hg.block x h0 (fun e => h2 (h.rt x e.symm)))
  have hb2 : w2.heap[b]? = some (.cells (rC N) 54) := (hg.block b hlt (fun e => hfne b e.symm rfl)).trans h.net
  refine ⟨⟨?_, ?_, ?_, fun x hx => ?_, ownsRow_heap ho (fun x hx => hk x (hvne x hx)), fun x hx => if_pos hx, fun p hp => ?_, fun p hp x hx => ?_, fun x hx => ?_⟩, RFq.fr ⟨hg.os, hg.tape, hg.output, by simpa using hg.size, fun x hx h0 => ?_, fun x hx h0 => ?_⟩ rfl⟩
  · rw [block_setCell hb2 _]
    simp [rC, rsetT]
  · rw [hold b hlt (by rw [h.rn]; decide)]
    exact h.rn
  · exact ownsRow_heap h.fl (fun x hx => hsame x (h.fl.lt x hx).2 (by rw [h.rf x hx]; decide) (by rw [h.rf x hx]; decide))
  · exact (hold x (h.fl.lt x hx).2 (by rw [h.rf x hx]; decide)).trans (h.rf x hx)
  · exact (h.data p hp).kept (fun x hx => hsame x (dBlock_lt (h.data p hp) hx) (by rw [h.rd p hp x hx]; decide) (by rw [h.rd p hp x hx]; decide))
  · exact (hold x (dBlock_lt (h.data p hp) hx) (by rw [h.rd p hp x hx]; decide)).trans (h.rd p hp x hx)
  · have hx' : w2.heap.size ≤ x := by simpa using hx
    show (if v.ownBlock = some x then 4 else N.own x) = 0
    rw [if_neg (fun hc => by have := (ho.lt x hc).2; omega)]
    exact h.fresh x (by have := hg.size; omega)
  · exact hsame x hx (by rw [h0]; decide) (by rw [h0]; decide)
  · exact (hold x hx (by rw [h0]; decide)).trans h0
theorem rset_end {w : World} {b : Nat} {N N' : RS} (h : RIs w b N) (i : Nat) (z : Int) (e1 : N'.fv = N.fv) (e2 : N'.fl = N.fl) (e3 : N'.tv = N.tv) (e4 : N'.tm = N.tm) (e5 : N'.own = N.own) (hc : (rC N).setIfInBounds i (.int .i64 z) = rC N') :
    RIs (w.setCell ⟨b, i, none⟩ (.int .i64 z)) b N' ∧ RFr w (w.setCell ⟨b, i, none⟩ (.int .i64 z)) N N' := by
  have hr : ∀ y, N.own y ≠ 1 → (w.setCell ⟨b, i, none⟩ (.int .i64 z)).heap[y]? = w.heap[y]? := fun y hy => Below.heap_setCell _ _ _ _ (fun e => hy (by rw [show y = b from e]; exact h.rn))
  refine ⟨⟨?_, by rw [e5]; exact h.rn, ?_, by rw [e1, e5]; exact h.rf, ?_, by rw [e3, e5]; exact h.rt, ?_, by rw [e2, e5]; exact h.rd, fun y hy => by rw [e5]; exact h.fresh y (by simpa using hy)⟩, RFq.fr ⟨rfl, rfl, rfl, by simp, fun y hy h0 => hr y (by rw [h0]; decide), fun y hy h0 => by rw [e5]; exact h0⟩ e2⟩
  · rw [block_setCell h.net _, ← hc]
  · rw [e1, e2]
    exact ownsRow_heap h.fl (fun y hy => hr y (by rw [h.rf y hy]; decide))
  · rw [e3, e4]
    exact ownsRow_heap h.tm (fun y hy => hr y (by rw [h.rt y hy]; decide))
  · rw [e2]
    exact fun p hp => (h.data p hp).kept (fun y hy => hr y (by rw [h.rd p hp y hy]; decide))
theorem rsetNx_end {w : World} {b : Nat} {N : RS} (h : RIs w b N) (z : Int) : RIs (w.setCell ⟨b, 1, none⟩ (.int .i64 z)) b (rsetNx N z) ∧ RFr w (w.setCell ⟨b, 1, none⟩ (.int .i64 z)) N (rsetNx N z) := rset_end h 1 z rfl rfl rfl rfl rfl rfl
theorem rsetCk_end {w : World} {b : Nat} {N : RS} (h : RIs w b N) (z : Int) : RIs (w.setCell ⟨b, 2, none⟩ (.int .i64 z)) b (rsetCk N z) ∧ RFr w (w.setCell ⟨b, 2, none⟩ (.int .i64 z)) N (rsetCk N z) := rset_end h 2 z rfl rfl rfl rfl rfl rfl
/-- What a call of the reference that answers with a code makes of it. -/
def RtR (w : World) (b : Nat) (N : RS) (R : Int × NA) (e : Ending) (w' : World) : Prop := e = .returned (.int .i64 R.1) ∧ ∃ N', RIs w' b N' ∧ RFr w w' N N' ∧ absR N' = R.2
/-- Room in memory. -/
structure ROk (N : RS) : Prop where
  nx : 0 ≤ N.next ∧ N.next ≤ 4611686018427387904
  ck : 0 ≤ N.clk ∧ N.clk ≤ 1099511627776
  fl : N.fl.length ≤ 4096
  tm : N.tm.length ≤ 4096
  at_ : ∀ t ∈ N.tm, 0 ≤ t.at_ ∧ t.at_ ≤ 1099511627776
  bs : ∀ p ∈ N.fl, p.bs.length ≤ 65536
theorem info38b : (Try.prog.info? 38).map (fun i => (i.zero, i.size, i.bytes)) = some (some (.agg #[.int .i64 0, .int .i64 0, .int .i64 0, .slice none 0 0]), 4, 48) := by kernel_rfl
theorem info92b : (Try.prog.info? 92).map (fun i => (i.zero, i.size, i.bytes)) = some (some (.agg #[.int .i64 0, .int .i64 0, .int .i64 0]), 3, 24) := by kernel_rfl
theorem elQ : El 52 38 4 48 (.agg #[.int .i64 0, .int .i64 0, .int .i64 0, .slice none 0 0]) :=
  ⟨Try.underlying52, by kernel_rfl, info_of info38b, rfl, by decide, by decide, by decide, fun w => by kernel_rfl, fun w => by kernel_rfl⟩
theorem elU : El 48 92 3 24 (.agg #[.int .i64 0, .int .i64 0, .int .i64 0]) :=
  ⟨Try.underlying48, by kernel_rfl, info_of info92b, rfl, by decide, by decide, by decide, fun w => by kernel_rfl, fun w => by kernel_rfl⟩
/-- New, of the reference. -/
def newR (b : Nat) (n : Int) : RS := ⟨n, 0, 0, .slice none 0 0, [], .slice none 0 0, [], fun x => if x = b then 1 else 0⟩
end Go.Proofs.Ytemapnfbmhjlbaa
