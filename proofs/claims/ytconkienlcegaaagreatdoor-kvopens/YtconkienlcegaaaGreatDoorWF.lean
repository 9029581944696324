/- wal: begin, keep, Get. -/
import Derived.Test.YtconkienlcegaaaGreatDoorGWE
namespace Go.Proofs.YtconkienlcegaaaGreatDoor
open Go.RowKit Go.Maps Go.Joins
set_option linter.unusedSimpArgs false
set_option linter.unusedVariables false
theorem info3b : (Tryz.prog.info? 3).map (fun i => (i.zero, i.size, i.bytes)) = some (some (.int .i64 0), 1, 8) := by kernel_rfl
theorem info3c : ∃ i, Tryz.prog.info? 3 = some i ∧ i.zero = some (.int .i64 0) ∧ i.size = 1 ∧ i.bytes = 8 := by
 have := info3b; cases h : Tryz.prog.info? 3 with
 | none => rw [h] at this; cases this
 | some i =>
   rw [h] at this; simp at this; exact ⟨i, rfl, this.1, this.2.1, this.2.2⟩
theorem info36b : (Tryz.prog.info? 23).map (fun i => (i.zero, i.size, i.bytes)) = some (some (.slice none 0 0), 1, 24) := by kernel_rfl
theorem info36c : ∃ i, Tryz.prog.info? 23 = some i ∧ i.zero = some (.slice none 0 0) ∧ i.size = 1 ∧ i.bytes = 24 := by
 have := info36b; cases h : Tryz.prog.info? 23 with
 | none => rw [h] at this; cases this
 | some i =>
   rw [h] at this; simp at this; exact ⟨i, rfl, this.1, this.2.1, this.2.2⟩
theorem vI_append (a b : List Int) : vI (a ++ b) = vI a ++ vI b := by simp [vI]
theorem wpList_append_i {w : World} {ops : Array Oper} {rest : List Oper} {o : Oper} {a : Act} {Q : Exit → Act → World → Prop} (hgd : o.guard = none) (s x : Operand)
 (ho : o.op = .call { callee := .builtin .append, args := #[s, x], argTypes := #[38, 38] }) (base : Nat)
 (v : Value) (l : List Int) (n : Int) (hs : a.eval s = v) (hown : w.ownsRow base 3 1 v l.length (vI l)) (g : Nat) (hg : w.heap[g]? = some (.cells #[.int .i64 n] 3)) (hx : a.eval x = .slice (some ⟨g, 0, none⟩) 1 1)
 (hl : l.length ≤ 1000000000000) (hbase : base ≤ w.heap.size)
 (h : ∀ v' w', w'.ownsRow base 3 1 v' (l ++ [n]).length (vI (l ++ [n])) → w.grownBy w' v.ownBlock → (v'.ownBlock = v.ownBlock ∨ v'.ownBlock = some w.heap.size) → wpList Tryz.prog ops Q rest (a.put o.dst v') w') : wpList Tryz.prog ops Q (o :: rest) a w := by
 obtain ⟨i0, hi, hz0, hz1, hz2⟩ := info3c; refine wpList_append_own_at w hgd s x 38 ho base 3 i0 _ 1 8 Tryz.underlying38 hi hz0 hz1 hz2 rfl (by decide) v l.length (vI l) hs hown ⟨g, 0, none⟩ 1 1 (vI [n]) hx rfl (fun j u hu => ?_) (fun u hu => by simp [vI] at hu; subst hu; rfl) (by unfold maxLen; omega) (by omega) hbase (fun v' w' a b _ d => h v' w' ?_ b d)
 · rw [Addr.add_lit, Nat.zero_add, cell_of_block hg]
   simpa [vI] using hu
 · rw [List.length_append, vI_append]
   exact a
theorem wpList_append_v {w : World} {ops : Array Oper} {rest : List Oper} {o : Oper} {a : Act} {Q : Exit → Act → World → Prop} (hgd : o.guard = none) (s x : Operand)
 (ho : o.op = .call { callee := .builtin .append, args := #[s, x], argTypes := #[74, 74] }) (base : Nat)
 (v : Value) (l : List Value) (n : Value) (hn : ∃ a l c, n = .slice a l c) (hs : a.eval s = v) (hown : w.ownsRow base 23 1 v l.length l) (g : Nat) (hg : w.heap[g]? = some (.cells #[n] 23)) (hx : a.eval x = .slice (some ⟨g, 0, none⟩) 1 1)
 (hl : l.length ≤ 1099511627776) (hbase : base ≤ w.heap.size)
 (h : ∀ v' w', w'.ownsRow base 23 1 v' (l ++ [n]).length (l ++ [n]) → w.grownBy w' v.ownBlock → (v'.ownBlock = v.ownBlock ∨ v'.ownBlock = some w.heap.size) → wpList Tryz.prog ops Q rest (a.put o.dst v') w') : wpList Tryz.prog ops Q (o :: rest) a w := by
 obtain ⟨i0, hi, hz0, hz1, hz2⟩ := info36c; refine wpList_append_own_at w hgd s x 74 ho base 23 i0 _ 1 24 Tryz.underlying74 hi hz0 hz1 hz2 rfl (by decide) v l.length l hs hown ⟨g, 0, none⟩ 1 1 [n] hx rfl (fun j u hu => ?_) (fun u hu => by simp at hu; subst hu; obtain ⟨_, _, _, rfl⟩ := hn; rfl) (by unfold maxLen; omega) (by omega) hbase (fun v' w' a b _ d => h v' w' ?_ b d)
 · rw [Addr.add_lit, Nat.zero_add, cell_of_block hg]
   simpa using hu
 · rw [List.length_append]
   exact a
def setF (L : LS) (v : Value) (l : List Int) (z : Int) : LS := { L with fv := v, fs := l, size := z, own := fun b => if v.ownBlock = some b then 2 else L.own b }
theorem begin_end {w w2 : World} {bl : Nat} {L : LS} {v : Value} {l : List Int} {z : Int} (h : LogIs w bl L) (hg : w.grownBy w2 L.fv.ownBlock) (ho : w2.ownsRow 0 3 1 v l.length (vI l)) (ha : v.ownBlock = L.fv.ownBlock ∨ ∀ b, v.ownBlock = some b → w.heap.size ≤ b) :
 LogIs ((w2.setCell ⟨bl, 3, none⟩ v).setCell ⟨bl, 5, none⟩ (.int .i64 z)) bl (setF L v l z) ∧ LFr w ((w2.setCell ⟨bl, 3, none⟩ v).setCell ⟨bl, 5, none⟩ (.int .i64 z)) L (setF L v l z) := by
 have hlt := h.lt; have hfne : ∀ b, L.fv.ownBlock = some b → b ≠ bl := fun b hb e => by have := h.rf b hb; rw [e, h.rl] at this; cases this
 have hvne : ∀ b, v.ownBlock = some b → b ≠ bl := fun b hb => by
  rcases ha with ha | ha
  · exact hfne b (ha ▸ hb)
  · have := ha b hb; omega
 have hk : ∀ b, b ≠ bl → ((w2.setCell ⟨bl, 3, none⟩ v).setCell ⟨bl, 5, none⟩ (.int .i64 z)).heap[b]? = w2.heap[b]? := fun b hb => (Below.heap_setCell _ _ _ _ hb).trans (Below.heap_setCell _ _ _ _ hb)
 have hold : ∀ b, L.own b ≠ 0 → L.own b ≠ 2 → (setF L v l z).own b = L.own b := fun b h0 h2 => if_neg (fun hc => by
  rcases ha with ha | ha
  · exact h2 (h.rf b (ha ▸ hc))
  · have := ha b hc; have := h.own_lt h0; omega)
 have hsame : ∀ b, L.own b ≠ 0 → L.own b ≠ 1 → L.own b ≠ 2 → ((w2.setCell ⟨bl, 3, none⟩ v).setCell ⟨bl, 5, none⟩ (.int .i64 z)).heap[b]? = w.heap[b]? := fun b h0 h1 h2 => (hk b (fun e => h1 (by rw [e]; exact h.rl))).trans (hg.block b (h.own_lt h0) (fun e => h2 (h.rf b e.symm)))
 have hb2 : w2.heap[bl]? = some (.cells (lC L) 141) := (hg.block bl hlt (fun e => hfne bl e.symm rfl)).trans h.log; refine ⟨⟨?_, ?_, ?_, fun b hb => if_pos hb, ?_, fun b hb => ?_, fun p hp => ?_, fun p hp b hb => ?_, fun b hb => ?_⟩, ?_⟩
 · rw [block_setCell (block_setCell hb2 _) _]
   simp [lC, setF]
 · rw [hold bl (by rw [h.rl]; simp) (by rw [h.rl]; simp)]
   exact h.rl
 · exact ownsRow_heap ho (fun b hb => hk b (hvne b hb))
 · exact ownsRow_heap h.recs (fun b hb => hsame b (by rw [h.rr b hb]; simp) (by rw [h.rr b hb]; simp) (by rw [h.rr b hb]; simp))
 · rw [hold b (by rw [h.rr b hb]; simp) (by rw [h.rr b hb]; simp)]
   exact h.rr b hb
 · exact (h.each p hp).keep (fun b hb => hsame b (by rw [h.re p hp b hb]; simp) (by rw [h.re p hp b hb]; simp) (by rw [h.re p hp b hb]; simp))
 · rw [hold b (by rw [h.re p hp b hb]; simp) (by rw [h.re p hp b hb]; simp)]
   exact h.re p hp b hb
 · have hb' : w2.heap.size ≤ b := by simpa using hb
   show (if v.ownBlock = some b then 2 else L.own b) = 0; rw [if_neg (fun hc => by have := (ho.lt b hc).2; omega)]; exact h.fresh b (by have := hg.size; omega)
 · refine ⟨hg.os, hg.tape, hg.output, by simpa using hg.size, fun b h0 h1 => ?_, fun b h0 h1 => ?_⟩
   · exact (hk b (fun e => by rw [e, h.rl] at h1; cases h1)).trans (hg.block b h0 (fun e => by rw [h.rf b e.symm] at h1; cases h1))
   · show (if v.ownBlock = some b then 2 else L.own b) = 0
     rw [if_neg (fun hc => by
      rcases ha with ha | ha
      · rw [h.rf b (ha ▸ hc)] at h1; cases h1
      · have := ha b hc; omega)]
     exact h1
set_option maxRecDepth 100000 in
set_option maxHeartbeats 4000000 in
theorem begin_any {w : World} {bl : Nat} {L : LS} (h : LogIs w bl L) (hl : L.fs.length ≤ 1000000000000) (n : Int) :
 Calls Tryz.prog 107 #[.pointer (some ⟨bl, 0, none⟩), .int .i64 n] w fun e w' => e = .returned (.tuple #[]) ∧ ∃ v, LogIs w' bl (setF L v (L.fs ++ [n]) 0) ∧ LFr w w' L (setF L v (L.fs ++ [n]) 0) := by
 have c3 : w.cell? ⟨bl, 3, none⟩ = some L.fv := by rw [cell_of_block h.log]; rfl
 obtain ⟨fa, fc, hfv⟩ := row_form h.files; rw [hfv] at c3; have HH : Hid (LogIs w bl L ∧ L.fv = .slice fa L.fs.length fc) := ⟨h, hfv⟩
 have hlt := h.lt; clear h hfv; go_enter Tryz.func107, Tryz.ntmps107; go_wp2_with (first
  | (at_builtin
     have hB := heap_alloc_new w (.cells #[.int .i64 n] 3); have ho0 := HH.out.1.files.alloc (.cells #[.int .i64 n] 3); rw [HH.out.2] at ho0; refine wpList_append_i rfl _ _ rfl 0 (.slice fa L.fs.length fc) L.fs n rfl ho0 w.heap.size hB rfl hl (Nat.zero_le _) ?_; intro v2 w2 ho hg ha; have hg' : w.grownBy w2 L.fv.ownBlock := by rw [HH.out.2]; exact (World.grownBy_alloc w _ _).trans hg
     have ha' : v2.ownBlock = L.fv.ownBlock ∨ ∀ b, v2.ownBlock = some b → w.heap.size ≤ b := by
      rcases ha with ha | ha
      · exact Or.inl (by rw [HH.out.2]; exact ha)
      · exact Or.inr (fun b hb => by rw [ha] at hb; injection hb with hb; simp at hb; omega)
     obtain ⟨va, vc, hv2⟩ := row_form ho; rw [show (L.fs ++ [n]).length = L.fs.length + 1 from by simp] at hv2; have hlb : w2.heap[bl]? = some (.cells (lC L) 141) := (hg'.block bl hlt (fun e => by have := HH.out.1.rf bl e.symm; rw [HH.out.1.rl] at this; cases this)).trans HH.out.1.log; have d3 : w2.cell? ⟨bl, 3, none⟩ = some (.slice fa L.fs.length fc) := by rw [cell_of_block hlb]; show some L.fv = _; rw [HH.out.2]
     have d5 : w2.cell? ⟨bl, 5, none⟩ = some (.int .i64 L.size) := by rw [cell_of_block hlb]; rfl
     have f3 : w2.frozen? ⟨bl, 3, none⟩ = false := unfrozen_of_block hlb 3; have f5 : w2.frozen? ⟨bl, 5, none⟩ = false := unfrozen_of_block hlb 5; have H2 : Hid (w.grownBy w2 L.fv.ownBlock ∧ w2.ownsRow 0 3 1 v2 (L.fs ++ [n]).length (vI (L.fs ++ [n])) ∧ (v2.ownBlock = L.fv.ownBlock ∨ ∀ b, v2.ownBlock = some b → w.heap.size ≤ b)) := ⟨hg', ho, ha'⟩
     subst hv2; clear ho hg ha hg' ha' hB ho0 hlb))
 go_end0
 exact ⟨rfl, _, begin_end HH.out.1 H2.out.1 H2.out.2.1 H2.out.2.2⟩
def addR (L : LS) (v : Value) (p : Value × List Int) : LS := { L with rv := v, rs := L.rs ++ [p], size := L.size + (12 + p.2.length), own := fun b => if v.ownBlock = some b then 3 else if dBlock p.1 p.2 = some b then 4 else L.own b }
structure KFr (w w' : World) (L L' : LS) (p : Value × List Int) : Prop where
 os : w'.os = w.os
 tape : w'.tape = w.tape
 output : w'.output = w.output
 size : w.heap.size ≤ w'.heap.size
 block : ∀ b, b < w.heap.size → L.own b = 0 → w'.heap[b]? = w.heap[b]?
 own : ∀ b, b < w.heap.size → L.own b = 0 → ¬ dBlock p.1 p.2 = some b → L'.own b = 0
theorem keep_end {w w2 : World} {bl : Nat} {L : LS} {v : Value} {p : Value × List Int} (h : LogIs w bl L) (hp : BytesV w p.1 p.2) (hpo : ∀ b, dBlock p.1 p.2 = some b → L.own b = 0 ∧ b < w.heap.size) (hg : w.grownBy w2 L.rv.ownBlock) (ho : w2.ownsRow 0 23 1 v (L.rs ++ [p]).length ((L.rs ++ [p]).map (·.1))) (ha : v.ownBlock = L.rv.ownBlock ∨ ∀ b, v.ownBlock = some b → w.heap.size ≤ b) :
 LogIs ((w2.setCell ⟨bl, 4, none⟩ v).setCell ⟨bl, 5, none⟩ (.int .i64 (L.size + (12 + p.2.length)))) bl (addR L v p) ∧ KFr w ((w2.setCell ⟨bl, 4, none⟩ v).setCell ⟨bl, 5, none⟩ (.int .i64 (L.size + (12 + p.2.length)))) L (addR L v p) p := by
 have hlt := h.lt; have hfne : ∀ b, L.rv.ownBlock = some b → b ≠ bl := fun b hb e => by have := h.rr b hb; rw [e, h.rl] at this; cases this
 have hvne : ∀ b, v.ownBlock = some b → b ≠ bl := fun b hb => by
  rcases ha with ha | ha
  · exact hfne b (ha ▸ hb)
  · have := ha b hb; omega
 have hk : ∀ b, b ≠ bl → ((w2.setCell ⟨bl, 4, none⟩ v).setCell ⟨bl, 5, none⟩ (.int .i64 (L.size + (12 + p.2.length)))).heap[b]? = w2.heap[b]? := fun b hb => (Below.heap_setCell _ _ _ _ hb).trans (Below.heap_setCell _ _ _ _ hb)
 have hv3 : ∀ b, L.own b ≠ 0 → L.own b ≠ 3 → ¬ v.ownBlock = some b := fun b h0 h2 hc => by
  rcases ha with ha | ha
  · exact h2 (h.rr b (ha ▸ hc))
  · have := ha b hc; have := h.own_lt h0; omega
 have hold : ∀ b, L.own b ≠ 0 → L.own b ≠ 3 → (addR L v p).own b = L.own b := fun b h0 h2 => by
  show (if v.ownBlock = some b then 3 else if dBlock p.1 p.2 = some b then 4 else L.own b) = _; rw [if_neg (hv3 b h0 h2), if_neg (fun hc => h0 (hpo b hc).1)]
 have hsame : ∀ b, b < w.heap.size → L.own b ≠ 1 → L.own b ≠ 3 → ((w2.setCell ⟨bl, 4, none⟩ v).setCell ⟨bl, 5, none⟩ (.int .i64 (L.size + (12 + p.2.length)))).heap[b]? = w.heap[b]? := fun b h0 h1 h2 => (hk b (fun e => h1 (by rw [e]; exact h.rl))).trans (hg.block b h0 (fun e => h2 (h.rr b e.symm)))
 have hb2 : w2.heap[bl]? = some (.cells (lC L) 141) := (hg.block bl hlt (fun e => hfne bl e.symm rfl)).trans h.log; refine ⟨⟨?_, ?_, ?_, fun b hb => ?_, ?_, fun b hb => if_pos hb, fun q hq => ?_, fun q hq b hb => ?_, fun b hb => ?_⟩, hg.os, hg.tape, hg.output, by simpa using hg.size, fun b hb h0 => ?_, fun b hb h0 hN => ?_⟩
 · rw [block_setCell (block_setCell hb2 _) _]
   simp [lC, addR]
 · rw [hold bl (by rw [h.rl]; simp) (by rw [h.rl]; simp)]
   exact h.rl
 · exact ownsRow_heap h.files (fun b hb => hsame b (h.own_lt (by rw [h.rf b hb]; simp)) (by rw [h.rf b hb]; simp) (by rw [h.rf b hb]; simp))
 · rw [hold b (by rw [h.rf b hb]; simp) (by rw [h.rf b hb]; simp)]
   exact h.rf b hb
 · exact ownsRow_heap ho (fun b hb => hk b (hvne b hb))
 · rcases List.mem_append.1 hq with hq | hq
   · exact (h.each q hq).keep (fun b hb => hsame b (h.own_lt (by rw [h.re q hq b hb]; simp)) (by rw [h.re q hq b hb]; simp) (by rw [h.re q hq b hb]; simp))
   · simp at hq
     subst hq; exact hp.keep (fun b hb => hsame b (hpo b hb).2 (by rw [(hpo b hb).1]; simp) (by rw [(hpo b hb).1]; simp))
 · rcases List.mem_append.1 hq with hq | hq
   · rw [hold b (by rw [h.re q hq b hb]; simp) (by rw [h.re q hq b hb]; simp)]
     exact h.re q hq b hb
   · simp at hq
     subst hq; show (if v.ownBlock = some b then 3 else if dBlock q.1 q.2 = some b then 4 else L.own b) = 4; rw [if_neg (fun hc => ?_), if_pos hb]; rcases ha with ha | ha
     · have := h.rr b (ha ▸ hc); rw [(hpo b hb).1] at this; cases this
     · have := ha b hc; have := (hpo b hb).2; omega
 · have hb' : w2.heap.size ≤ b := by simpa using hb
   show (if v.ownBlock = some b then 3 else if dBlock p.1 p.2 = some b then 4 else L.own b) = 0; rw [if_neg (fun hc => by have := (ho.lt b hc).2; omega), if_neg (fun hc => by have := (hpo b hc).2; have := hg.size; omega)]; exact h.fresh b (by have := hg.size; omega)
 · exact hsame b hb (by rw [h0]; simp) (by rw [h0]; simp)
 · show (if v.ownBlock = some b then 3 else if dBlock p.1 p.2 = some b then 4 else L.own b) = 0
   rw [if_neg (fun hc => ?_), if_neg hN]
   · exact h0
   · rcases ha with ha | ha
     · have := h.rr b (ha ▸ hc); rw [h0] at this; cases this
     · have := ha b hc; omega
theorem vmap_append (a : List (Value × List Int)) (p : Value × List Int) : (a ++ [p]).map (·.1) = a.map (·.1) ++ [p.1] := by simp
set_option maxRecDepth 100000 in
set_option maxHeartbeats 4000000 in
theorem keep_any {w : World} {bl : Nat} {L : LS} (h : LogIs w bl L) (hl : L.rs.length ≤ 1099511627776) (va : Option Addr) (vc : Nat) (bs : List Int) (hp : BytesV w (.slice va bs.length vc) bs) (hpo : ∀ b, dBlock (.slice va bs.length vc) bs = some b → L.own b = 0 ∧ b < w.heap.size) (hbl : bs.length ≤ 65536) (hsz : 0 ≤ L.size ∧ L.size ≤ 4611686018427387904) :
 Calls Tryz.prog 109 #[.pointer (some ⟨bl, 0, none⟩), .slice va bs.length vc] w fun e w' => e = .returned (.tuple #[]) ∧ ∃ v, LogIs w' bl (addR L v (.slice va bs.length vc, bs)) ∧ KFr w w' L (addR L v (.slice va bs.length vc, bs)) (.slice va bs.length vc, bs) := by
 have c4 : w.cell? ⟨bl, 4, none⟩ = some L.rv := by rw [cell_of_block h.log]; rfl
 obtain ⟨fa, fc, hfv⟩ := row_form h.recs; rw [hfv] at c4; have HH : Hid (LogIs w bl L ∧ L.rv = .slice fa L.rs.length fc ∧ BytesV w (.slice va bs.length vc) bs ∧ ∀ b, dBlock (.slice va bs.length vc) bs = some b → L.own b = 0 ∧ b < w.heap.size) := ⟨h, hfv, hp, hpo⟩
 have hlt := h.lt; clear h hfv hp hpo; go_enter Tryz.func109, Tryz.ntmps109; go_wp2_with (first
  | (at_builtin
     have hB := heap_alloc_new w (.cells #[.slice va bs.length vc] 23); have ho0 := HH.out.1.recs.alloc (.cells #[.slice va bs.length vc] 23); rw [HH.out.2.1] at ho0; have ho1 : (w.alloc (.cells #[.slice va bs.length vc] 23)).ownsRow 0 23 1 (.slice fa L.rs.length fc) (L.rs.map (·.1)).length (L.rs.map (·.1)) := by rw [List.length_map]; exact ho0
     refine wpList_append_v rfl _ _ rfl 0 (.slice fa L.rs.length fc) (L.rs.map (·.1)) (.slice va bs.length vc) ⟨_, _, _, rfl⟩ rfl ho1 w.heap.size hB rfl (by rw [List.length_map]; exact hl) (Nat.zero_le _) ?_; intro v2 w2 ho hg ha; have hg' : w.grownBy w2 L.rv.ownBlock := by rw [HH.out.2.1]; exact (World.grownBy_alloc w _ _).trans hg
     have ha' : v2.ownBlock = L.rv.ownBlock ∨ ∀ b, v2.ownBlock = some b → w.heap.size ≤ b := by
      rcases ha with ha | ha
      · exact Or.inl (by rw [HH.out.2.1]; exact ha)
      · exact Or.inr (fun b hb => by rw [ha] at hb; injection hb with hb; simp at hb; omega)
     rw [show ((L.rs.map (·.1)) ++ [Value.slice va bs.length vc]).length = L.rs.length + 1 from by simp] at ho; obtain ⟨va2, vc2, hv2⟩ := row_form ho; have hlb : w2.heap[bl]? = some (.cells (lC L) 141) := (hg'.block bl hlt (fun e => by have := HH.out.1.rr bl e.symm; rw [HH.out.1.rl] at this; cases this)).trans HH.out.1.log; have d4 : w2.cell? ⟨bl, 4, none⟩ = some (.slice fa L.rs.length fc) := by rw [cell_of_block hlb]; show some L.rv = _; rw [HH.out.2.1]
     have d5 : w2.cell? ⟨bl, 5, none⟩ = some (.int .i64 L.size) := by rw [cell_of_block hlb]; rfl
     have f4 : w2.frozen? ⟨bl, 4, none⟩ = false := unfrozen_of_block hlb 4; have f5 : w2.frozen? ⟨bl, 5, none⟩ = false := unfrozen_of_block hlb 5; have H2 : Hid (w.grownBy w2 L.rv.ownBlock ∧ w2.ownsRow 0 23 1 v2 (L.rs ++ [(Value.slice va bs.length vc, bs)]).length ((L.rs ++ [(Value.slice va bs.length vc, bs)]).map (·.1)) ∧ (v2.ownBlock = L.rv.ownBlock ∨ ∀ b, v2.ownBlock = some b → w.heap.size ≤ b)) := ⟨hg', by rw [vmap_append]; simpa using ho, ha'⟩
     subst hv2; clear ho hg ha hg' ha' hB ho0 hlb))
 go_end0
 exact ⟨rfl, _, keep_end HH.out.1 HH.out.2.2.1 HH.out.2.2.2 H2.out.1 H2.out.2.1 H2.out.2.2⟩
end Go.Proofs.YtconkienlcegaaaGreatDoor
