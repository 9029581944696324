/- net: how a net lies in memory; its clock. -/
import Derived.Test.YtemapnfbmhjlbaaNC2
namespace Go.Proofs.Ytemapnfbmhjlbaa
open Go.RowKit Go.Maps Go.Joins
set_option linter.unusedSimpArgs false
set_option linter.unusedVariables false
structure PK where
  id : Int
  fr : Int
  to : Int
  dv : Value
  bs : List Int
structure TM where
  nd : Int
  tg : Int
  at_ : Int
def pkC (p : PK) : List Value := [.int .i64 p.id, .int .i64 p.fr, .int .i64 p.to, p.dv]
def pkL (l : List PK) : List Value := l.flatMap pkC
def tmC (t : TM) : List Value := [.int .i64 t.nd, .int .i64 t.tg, .int .i64 t.at_]
def tmL (l : List TM) : List Value := l.flatMap tmC
structure NS where
  ck : Option Nat
  clk : Int
  nodes : Int
  next : Int
  fv : Value
  fl : List PK
  tv : Value
  tm : List TM
  own : Nat → Nat
def b1 (o : Option Nat) : Int := if o.isSome then 1 else 0
def pv (o : Option Nat) : Value := .pointer (o.map fun g => ⟨g, 0, none⟩)
def nC (N : NS) : Array Value := #[.int .u32 (b1 N.ck), .int .i32 0, .int .u32 0, pv N.ck, .int .i64 N.nodes, .int .i64 N.next, N.fv, N.tv]
/-- Block b is a net. -/
structure NetIs (w : World) (b : Nat) (N : NS) : Prop where
  net : w.heap[b]? = some (.cells (nC N) 82)
  rn : N.own b = 1
  ck : ∀ g, N.ck = some g → w.heap[g]? = some (.cells #[.int .i64 N.clk] 116)
  rc : ∀ g, N.ck = some g → N.own g = 2
  c0 : N.ck = none → N.clk = 0
  fl : w.ownsRow 0 35 4 N.fv N.fl.length (pkL N.fl)
  rf : ∀ g, N.fv.ownBlock = some g → N.own g = 3
  tm : w.ownsRow 0 63 3 N.tv N.tm.length (tmL N.tm)
  rt : ∀ g, N.tv.ownBlock = some g → N.own g = 4
  data : ∀ p ∈ N.fl, BytesV w p.dv p.bs
  rd : ∀ p ∈ N.fl, ∀ g, dBlock p.dv p.bs.length = some g → N.own g = 0
  fresh : ∀ g, w.heap.size ≤ g → N.own g = 0
/-- What lies beside a net stays. -/
structure NFq (w w' : World) (N N' : NS) : Prop where
  os : w'.os = w.os
  tape : w'.tape = w.tape
  output : w'.output = w.output
  size : w.heap.size ≤ w'.heap.size
  block : ∀ g, g < w.heap.size → N.own g = 0 → w'.heap[g]? = w.heap[g]?
  own : ∀ g, g < w.heap.size → N.own g = 0 → N'.own g = 0
/-- .. and every byte of a packet lies where one lay, or in new memory. -/
structure NFr (w w' : World) (N N' : NS) : Prop extends NFq w w' N N' where
  dat : ∀ p ∈ N'.fl, ∀ x, dBlock p.dv p.bs.length = some x → (∃ q ∈ N.fl, dBlock q.dv q.bs.length = some x) ∨ w.heap.size ≤ x
theorem NFq.fr {w w' : World} {N N' : NS} (h : NFq w w' N N') (e : N'.fl = N.fl) : NFr w w' N N' := ⟨h, fun p hp x hx => Or.inl ⟨p, by rw [← e]; exact hp, hx⟩⟩
theorem NFq.trans {w w' w'' : World} {L L' L'' : NS} (h : NFq w w' L L') (k : NFq w' w'' L' L'') : NFq w w'' L L'' :=
  ⟨k.os.trans h.os, k.tape.trans h.tape, k.output.trans h.output, Nat.le_trans h.size k.size,
   fun b hb hr => (k.block b (Nat.lt_of_lt_of_le hb h.size) (h.own b hb hr)).trans (h.block b hb hr),
   fun b hb hr => k.own b (Nat.lt_of_lt_of_le hb h.size) (h.own b hb hr)⟩
theorem NFr.refl (w : World) (N : NS) : NFr w w N N := NFq.fr ⟨rfl, rfl, rfl, Nat.le_refl _, fun _ _ _ => rfl, fun _ _ h => h⟩ rfl
theorem NFr.trans {w w' w'' : World} {L L' L'' : NS} (h : NFr w w' L L') (k : NFr w' w'' L' L'') : NFr w w'' L L'' :=
  ⟨h.toNFq.trans k.toNFq, fun p hp x hx => by
    rcases k.dat p hp x hx with ⟨q, hq, hy⟩ | hy
    · exact h.dat q hq x hy
    · exact Or.inr (Nat.le_trans h.size hy)⟩
theorem NFr.below {w w' : World} {L : NS} (h : Below w.heap.size w w') : NFr w w' L L :=
  NFq.fr ⟨h.os, h.tape, h.output, h.size, fun b hb _ => h.block b hb, fun _ _ hr => hr⟩ rfl
theorem dBlock_lt {w : World} {v : Value} {bs : List Int} (h : BytesV w v bs) {g : Nat} (hg : dBlock v bs.length = some g) : g < w.heap.size := by
  rcases h with ⟨rfl, rfl⟩ | ⟨ad, cap, rfl, hc⟩
  · cases hg
  · have h0 : bs.length ≠ 0 := fun h0 => by unfold dBlock at hg; rw [if_pos h0] at hg; cases hg
    obtain ⟨x, hx⟩ : ∃ x, bs[0]? = some x := ⟨_, List.getElem?_eq_getElem (by omega)⟩
    have := cell_lt (hc 0 (.int .u8 x) (by unfold vB; rw [List.getElem?_map, hx]; rfl))
    have e : (ad.add 0).block = ad.block := by unfold Addr.add; split <;> rfl
    rw [e] at this
    have h2 := dBlock_own hg
    injection h2 with h2
    omega
theorem NetIs.lt {w : World} {b : Nat} {N : NS} (h : NetIs w b N) : b < w.heap.size := heap_lt h.net
theorem NetIs.own_lt {w : World} {b g : Nat} {N : NS} (h : NetIs w b N) (hb : N.own g ≠ 0) : g < w.heap.size := by
  rcases Nat.lt_or_ge g w.heap.size with h1 | h1
  · exact h1
  · exact absurd (h.fresh g h1) hb
theorem NetIs.below {w w' : World} {b : Nat} {N : NS} (h : NetIs w b N) (hb : Below w.heap.size w w') : NetIs w' b N where
  net := (hb.block b h.lt).trans h.net
  rn := h.rn
  ck := fun g hg => (hb.block g (heap_lt (h.ck g hg))).trans (h.ck g hg)
  rc := h.rc
  c0 := h.c0
  fl := ownsRow_heap h.fl (fun g hg => hb.block g (h.fl.lt g hg).2)
  rf := h.rf
  tm := ownsRow_heap h.tm (fun g hg => hb.block g (h.tm.lt g hg).2)
  rt := h.rt
  data := fun p hp => (h.data p hp).below hb
  rd := h.rd
  fresh := fun g hg => h.fresh g (Nat.le_trans hb.size hg)
theorem NetIs.drewN {w : World} {b : Nat} {N : NS} (h : NetIs w b N) (n : Nat) : NetIs (w.drewN n) b N := h.below ⟨rfl, rfl, rfl, Nat.le_refl _, fun _ _ => rfl⟩
/-- The net whose clock lies in block g. -/
def setCk (N : NS) (g : Nat) : NS := { N with ck := some g, own := fun x => if x = g then 2 else N.own x }
theorem setCk_same {w : World} {b g : Nat} {N : NS} (h : NetIs w b N) (hg : N.ck = some g) : setCk N g = N := by
  have h1 : (fun x => if x = g then 2 else N.own x) = N.own := funext fun x => by
    by_cases hx : x = g
    · rw [if_pos hx, hx, h.rc g hg]
    · rw [if_neg hx]
  unfold setCk
  rw [h1, ← hg]
theorem setCk_setCk (N : NS) (g g' : Nat) (h : (setCk N g).ck = some g') : setCk (setCk N g) g' = setCk N g := by
  injection h with h
  subst h
  unfold setCk
  congr 1
  funext x
  show (if x = g then 2 else if x = g then 2 else N.own x) = if x = g then 2 else N.own x
  split <;> rfl
/-- Where the clock begins. -/
theorem begin_end {w w' : World} {b g : Nat} {N : NS} (h : NetIs w b N) (hn : N.ck = none) (hg : w.heap.size ≤ g) (hos : w'.os = w.os) (hta : w'.tape = w.tape) (hou : w'.output = w.output) (hs : g < w'.heap.size)
    (hk : ∀ x, x < w.heap.size → x ≠ b → w'.heap[x]? = w.heap[x]?) (hb : w'.heap[b]? = some (.cells (nC (setCk N g)) 82)) (hc : w'.heap[g]? = some (.cells #[.int .i64 0] 116)) :
    NetIs w' b (setCk N g) ∧ NFr w w' N (setCk N g) := by
  have hne : ∀ x, x < w.heap.size → x ≠ g := fun x hx e => by omega
  have ho : ∀ x, x < w.heap.size → (setCk N g).own x = N.own x := fun x hx => if_neg (hne x hx)
  refine ⟨⟨hb, (ho b h.lt).trans h.rn, fun g' hg' => ?_, fun g' hg' => ?_, (fun e => by cases e), ?_, fun x hx => ?_, ?_, fun x hx => ?_, fun p hp => ?_, fun p hp x hx => ?_, fun x hx => ?_⟩, NFq.fr ⟨hos, hta, hou, by omega, fun x hx hr => ?_, fun x hx hr => ?_⟩ rfl⟩
  · injection hg' with e
    subst e
    rw [hc]
    show _ = some (Obj.cells #[.int .i64 N.clk] 116)
    rw [h.c0 hn]
  · injection hg' with e
    subst e
    exact if_pos rfl
  · exact ownsRow_heap h.fl (fun x hx => hk x (h.fl.lt x hx).2 (fun e => by have := h.rf x hx; rw [e, h.rn] at this; cases this))
  · exact (ho x (h.fl.lt x hx).2).trans (h.rf x hx)
  · exact ownsRow_heap h.tm (fun x hx => hk x (h.tm.lt x hx).2 (fun e => by have := h.rt x hx; rw [e, h.rn] at this; cases this))
  · exact (ho x (h.tm.lt x hx).2).trans (h.rt x hx)
  · exact (h.data p hp).kept (fun x hx => hk x (dBlock_lt (h.data p hp) hx) (fun e => by have := h.rd p hp x hx; rw [e, h.rn] at this; cases this))
  · exact (ho x (dBlock_lt (h.data p hp) hx)).trans (h.rd p hp x hx)
  · show (if x = g then 2 else N.own x) = 0
    rw [if_neg (by omega)]
    exact h.fresh x (by omega)
  · exact hk x hx (fun e => by rw [e, h.rn] at hr; cases hr)
  · exact (ho x hx).trans hr
theorem NetIs.cells {w : World} {b : Nat} {N : NS} (h : NetIs w b N) : w.cell? ⟨b, 0, none⟩ = some (.int .u32 (b1 N.ck)) ∧ w.cell? ⟨b, 1, none⟩ = some (.int .i32 0) ∧ w.cell? ⟨b, 2, none⟩ = some (.int .u32 0) ∧ w.cell? ⟨b, 3, none⟩ = some (pv N.ck) ∧ w.cell? ⟨b, 4, none⟩ = some (.int .i64 N.nodes) ∧ w.cell? ⟨b, 5, none⟩ = some (.int .i64 N.next) ∧ w.cell? ⟨b, 6, none⟩ = some N.fv ∧ w.cell? ⟨b, 7, none⟩ = some N.tv := by
  refine ⟨?_, ?_, ?_, ?_, ?_, ?_, ?_, ?_⟩ <;> (rw [cell_of_block h.net]; rfl)
theorem NetIs.unfrozen {w : World} {b : Nat} {N : NS} (h : NetIs w b N) (i : Nat) : w.frozen? ⟨b, i, none⟩ = false := unfrozen_of_block h.net i
/-- A parameter that is boxed. -/
def boxed (w : World) (b : Nat) : World := w.alloc (.cells #[.pointer (some ⟨b, 0, none⟩)] 105)
theorem boxed_below (w : World) (b : Nat) : Below w.heap.size w (boxed w b) := (Below.refl _ w).alloc (Nat.le_refl _) _
set_option maxRecDepth 100000 in
set_option maxHeartbeats 1600000 in
/-- (*clock).number, begun. -/
theorem number_ck {w : World} {b g : Nat} {N : NS} (h : NetIs w b N) (hg : N.ck = some g) :
    Calls Try.prog 52 #[.pointer (some ⟨b, 0, none⟩)] w fun e w' => e = .returned (.pointer (some ⟨g, 0, none⟩)) ∧ w' = boxed w b := by
  have hmf : ∀ (fn : Fn) (first cap : Array Value) (w : World), (Instr.makeFunc fn first cap).run Try.prog w = .ok (.func fn first cap) w := fun _ _ _ _ => rfl
  obtain ⟨c0, _, _, c3, _⟩ := (h.below (boxed_below w b)).cells
  rw [hg] at c0 c3
  have hb := h.lt
  unfold boxed at c0 c3
  have e0 : b1 (some g) = 1 := rfl
  have e3 : pv (some g) = .pointer (some ⟨g, 0, none⟩) := rfl
  rw [e0] at c0
  rw [e3] at c3
  clear h hg
  go_enter Try.func52, Try.ntmps52
  go_wp2_with (go_at_call 60; refine (do_done ⟨b, 0, none⟩ 1 (by decide) _ _ c0).mono ?_; rintro e w' ⟨rfl, rfl⟩)
  go_ret
  exact ⟨rfl, rfl⟩
set_option maxRecDepth 100000 in
set_option maxHeartbeats 1600000 in
/-- (*clock).number, not begun yet. -/
theorem number_new {w : World} {b : Nat} {N : NS} (h : NetIs w b N) (hg : N.ck = none) :
    Calls Try.prog 52 #[.pointer (some ⟨b, 0, none⟩)] w fun e w' => e = .returned (.pointer (some ⟨w.heap.size + 1, 0, none⟩)) ∧ NetIs w' b (setCk N (w.heap.size + 1)) ∧ NFr w w' N (setCk N (w.heap.size + 1)) := by
  have hmf : ∀ (fn : Fn) (first cap : Array Value) (w : World), (Instr.makeFunc fn first cap).run Try.prog w = .ok (.func fn first cap) w := fun _ _ _ _ => rfl
  have h1 := h.below (boxed_below w b)
  have hb := h.lt
  obtain ⟨c0, c1, c2, c3, _⟩ := h1.cells
  rw [hg] at c0 c3
  have f0 := h1.unfrozen 0
  have f1 := h1.unfrozen 1
  have f3 := h1.unfrozen 3
  have p0 : (boxed w b).cell? ⟨w.heap.size, 0, none⟩ = some (.pointer (some ⟨b, 0, none⟩)) := by unfold boxed; simp
  have hsz : (boxed w b).heap.size = w.heap.size + 1 := by unfold boxed; simp
  -- the world behind Do
  obtain ⟨W, hW⟩ : ∃ W, W = ((begun (boxed w b) b).drew.setCell ⟨b, 0, none⟩ (.int .u32 1)).setCell ⟨b, 1, none⟩ (.int .i32 0) := ⟨_, rfl⟩
  have hd := do_first b ⟨w.heap.size, 0, none⟩ (by simp; omega) _ (boxed w b) (by omega) p0 c0 c1 c3 f0 f1 f3
  rw [← hW] at hd
  have hk : ∀ x, x < w.heap.size + 1 → x ≠ b → W.heap[x]? = (boxed w b).heap[x]? := fun x hx hxb => by
    rw [hW, Below.heap_setCell _ _ _ _ hxb, Below.heap_setCell _ _ _ _ hxb]
    show (begun (boxed w b) b).heap[x]? = _
    unfold begun
    rw [heap_alloc_old _ _ (by simp [hsz]; omega), Below.heap_setCell _ _ _ _ hxb, Below.heap_setCell _ _ _ _ hxb]
  have hB1 : (((boxed w b).setCell ⟨b, 1, none⟩ (.int .i32 1)).setCell ⟨b, 3, none⟩ (.pointer (some ⟨(boxed w b).heap.size, 0, none⟩))).heap[b]? = some (.cells (((nC N).setIfInBounds 1 (.int .i32 1)).setIfInBounds 3 (.pointer (some ⟨(boxed w b).heap.size, 0, none⟩))) 82) := block_setCell (block_setCell h1.net _) _
  have hB : W.heap[b]? = some (.cells (nC (setCk N (w.heap.size + 1))) 82) := by
    have h2 : (begun (boxed w b) b).drew.heap[b]? = some (.cells (((nC N).setIfInBounds 1 (.int .i32 1)).setIfInBounds 3 (.pointer (some ⟨(boxed w b).heap.size, 0, none⟩))) 82) := by
      show (begun (boxed w b) b).heap[b]? = _
      unfold begun
      rw [heap_alloc_old _ _ (by simp [hsz]; omega)]
      exact hB1
    rw [hW, block_setCell (block_setCell h2 _) _, hsz]
    simp [nC, setCk, b1, pv]
  have hC : W.heap[w.heap.size + 1]? = some (.cells #[.int .i64 0] 116) := by
    rw [hW, Below.heap_setCell _ _ _ _ (by show w.heap.size + 1 ≠ b; omega), Below.heap_setCell _ _ _ _ (by show w.heap.size + 1 ≠ b; omega)]
    show (begun (boxed w b) b).heap[w.heap.size + 1]? = _
    unfold begun
    have := heap_alloc_new (((boxed w b).setCell ⟨b, 1, none⟩ (.int .i32 1)).setCell ⟨b, 3, none⟩ (.pointer (some ⟨(boxed w b).heap.size, 0, none⟩))) (.cells #[.int .i64 0] 116)
    simpa [hsz] using this
  have hfin := begin_end (w' := W) h hg (Nat.le_succ _) (by rw [hW]; rfl) (by rw [hW]; rfl) (by rw [hW]; rfl) (heap_lt hC) (fun x hx hxb => (hk x (by omega) hxb).trans ((boxed_below w b).block x hx)) hB hC
  have HF : Hid _ := hfin
  have pE : W.cell? ⟨w.heap.size, 0, none⟩ = some (.pointer (some ⟨b, 0, none⟩)) := by
    rw [World.cell?_of_block (w := boxed w b) (hk w.heap.size (by omega) (by omega))]
    exact p0
  have vE : W.cell? ⟨b, 3, none⟩ = some (.pointer (some ⟨w.heap.size + 1, 0, none⟩)) := by rw [cell_of_block hB]; rfl
  clear hk hB1 hB hC hfin hW h h1 c0 c1 c2 c3 f0 f1 f3 p0
  unfold boxed at hd
  go_enter Try.func52, Try.ntmps52
  go_wp2_with (go_at_call 60; refine hd.mono ?_; rintro e w' ⟨rfl, rfl⟩)
  go_ret
  exact ⟨rfl, HF.out⟩
theorem number_any {w : World} {b : Nat} {N : NS} (h : NetIs w b N) :
    Calls Try.prog 52 #[.pointer (some ⟨b, 0, none⟩)] w fun e w' => ∃ g, e = .returned (.pointer (some ⟨g, 0, none⟩)) ∧ NetIs w' b (setCk N g) ∧ NFr w w' N (setCk N g) := by
  cases hc : N.ck with
  | none =>
    refine (number_new h hc).mono ?_
    rintro e w' ⟨h1, h2, h3⟩
    exact ⟨_, h1, h2, h3⟩
  | some g =>
    refine (number_ck h hc).mono ?_
    rintro e w' ⟨h1, rfl⟩
    rw [show (∃ g', e = Ending.returned (.pointer (some ⟨g', 0, none⟩)) ∧ NetIs (boxed w b) b (setCk N g') ∧ NFr w (boxed w b) N (setCk N g')) ↔ _ from Iff.rfl]
    exact ⟨g, h1, by rw [setCk_same h hc]; exact h.below (boxed_below w b), by rw [setCk_same h hc]; exact NFr.below (boxed_below w b)⟩
end Go.Proofs.Ytemapnfbmhjlbaa
