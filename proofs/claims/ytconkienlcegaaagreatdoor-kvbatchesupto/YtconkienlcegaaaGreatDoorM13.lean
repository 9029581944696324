/- WF, PC, laid into one text. -/
import Derived.Test.YtconkienlcegaaaGreatDoorM12
import Derived.Test.YtconkienlcegaaaGreatDoorM11
/- wal: begin, keep, Get. -/
namespace Go.Proofs.YtconkienlcegaaaGreatDoor
open Go.RowKit Go.Maps Go.Joins
set_option linter.unusedSimpArgs false
set_option linter.unusedVariables false
theorem info3b : (Tryz.prog.info? 3).map (fun i => (i.zero, i.size, i.bytes)) = some (some (.int .i64 0), 1, 8) := by kernel_rfl
theorem info3c : ∃ i, Tryz.prog.info? 3 = some i ∧ i.zero = some (.int .i64 0) ∧ i.size = 1 ∧ i.bytes = 8 := by
  have := info3b
  cases h : Tryz.prog.info? 3 with
  | none => rw [h] at this; cases this
  | some i =>
    rw [h] at this
    simp at this
    exact ⟨i, rfl, this.1, this.2.1, this.2.2⟩
theorem info36b : (Tryz.prog.info? 23).map (fun i => (i.zero, i.size, i.bytes)) = some (some (.slice none 0 0), 1, 24) := by kernel_rfl
theorem info36c : ∃ i, Tryz.prog.info? 23 = some i ∧ i.zero = some (.slice none 0 0) ∧ i.size = 1 ∧ i.bytes = 24 := by
  have := info36b
  cases h : Tryz.prog.info? 23 with
  | none => rw [h] at this; cases this
  | some i =>
    rw [h] at this
    simp at this
    exact ⟨i, rfl, this.1, this.2.1, this.2.2⟩
theorem vI_append (a b : List Int) : vI (a ++ b) = vI a ++ vI b := by simp [vI]
/-- append(l, n) of a number. -/
theorem wpList_append_i {w : World} {ops : Array Oper} {rest : List Oper} {o : Oper} {a : Act} {Q : Exit → Act → World → Prop} (hgd : o.guard = none) (s x : Operand)
    (ho : o.op = .call { callee := .builtin .append, args := #[s, x], argTypes := #[38, 38] }) (base : Nat)
    (v : Value) (l : List Int) (n : Int) (hs : a.eval s = v) (hown : w.ownsRow base 3 1 v l.length (vI l)) (g : Nat) (hg : w.heap[g]? = some (.cells #[.int .i64 n] 3)) (hx : a.eval x = .slice (some ⟨g, 0, none⟩) 1 1)
    (hl : l.length ≤ 1000000000000) (hbase : base ≤ w.heap.size)
    (h : ∀ v' w', w'.ownsRow base 3 1 v' (l ++ [n]).length (vI (l ++ [n])) → w.grownBy w' v.ownBlock → (v'.ownBlock = v.ownBlock ∨ v'.ownBlock = some w.heap.size) → wpList Tryz.prog ops Q rest (a.put o.dst v') w') : wpList Tryz.prog ops Q (o :: rest) a w := by
  obtain ⟨i0, hi, hz0, hz1, hz2⟩ := info3c
  refine wpList_append_own_at w hgd s x 38 ho base 3 i0 _ 1 8 Tryz.underlying38 hi hz0 hz1 hz2 rfl (by decide) v l.length (vI l) hs hown ⟨g, 0, none⟩ 1 1 (vI [n]) hx rfl (fun j u hu => ?_) (fun u hu => by simp [vI] at hu; subst hu; rfl) (by unfold maxLen; omega) (by omega) hbase (fun v' w' a b _ d => h v' w' ?_ b d)
  · rw [Addr.add_lit, Nat.zero_add, cell_of_block hg]
    simpa [vI] using hu
  · rw [List.length_append, vI_append]
    exact a
/-- append(l, b) of a slice. -/
theorem wpList_append_v {w : World} {ops : Array Oper} {rest : List Oper} {o : Oper} {a : Act} {Q : Exit → Act → World → Prop} (hgd : o.guard = none) (s x : Operand)
    (ho : o.op = .call { callee := .builtin .append, args := #[s, x], argTypes := #[74, 74] }) (base : Nat)
    (v : Value) (l : List Value) (n : Value) (hn : ∃ a l c, n = .slice a l c) (hs : a.eval s = v) (hown : w.ownsRow base 23 1 v l.length l) (g : Nat) (hg : w.heap[g]? = some (.cells #[n] 23)) (hx : a.eval x = .slice (some ⟨g, 0, none⟩) 1 1)
    (hl : l.length ≤ 1099511627776) (hbase : base ≤ w.heap.size)
    (h : ∀ v' w', w'.ownsRow base 23 1 v' (l ++ [n]).length (l ++ [n]) → w.grownBy w' v.ownBlock → (v'.ownBlock = v.ownBlock ∨ v'.ownBlock = some w.heap.size) → wpList Tryz.prog ops Q rest (a.put o.dst v') w') : wpList Tryz.prog ops Q (o :: rest) a w := by
  obtain ⟨i0, hi, hz0, hz1, hz2⟩ := info36c
  refine wpList_append_own_at w hgd s x 74 ho base 23 i0 _ 1 24 Tryz.underlying74 hi hz0 hz1 hz2 rfl (by decide) v l.length l hs hown ⟨g, 0, none⟩ 1 1 [n] hx rfl (fun j u hu => ?_) (fun u hu => by simp at hu; subst hu; obtain ⟨_, _, _, rfl⟩ := hn; rfl) (by unfold maxLen; omega) (by omega) hbase (fun v' w' a b _ d => h v' w' ?_ b d)
  · rw [Addr.add_lit, Nat.zero_add, cell_of_block hg]
    simpa using hu
  · rw [List.length_append]
    exact a
/-- A log whose files have turned. -/
def setF (L : LS) (v : Value) (l : List Int) (z : Int) : LS := { L with fv := v, fs := l, size := z, own := fun b => if v.ownBlock = some b then 2 else L.own b }
theorem begin_end {w w2 : World} {bl : Nat} {L : LS} {v : Value} {l : List Int} {z : Int} (h : LogIs w bl L) (hg : w.grownBy w2 L.fv.ownBlock) (ho : w2.ownsRow 0 3 1 v l.length (vI l)) (ha : v.ownBlock = L.fv.ownBlock ∨ ∀ b, v.ownBlock = some b → w.heap.size ≤ b) :
    LogIs ((w2.setCell ⟨bl, 3, none⟩ v).setCell ⟨bl, 5, none⟩ (.int .i64 z)) bl (setF L v l z) ∧ LFr w ((w2.setCell ⟨bl, 3, none⟩ v).setCell ⟨bl, 5, none⟩ (.int .i64 z)) L (setF L v l z) := by
  have hlt := h.lt
  have hfne : ∀ b, L.fv.ownBlock = some b → b ≠ bl := fun b hb e => by have := h.rf b hb; rw [e, h.rl] at this; cases this
  have hvne : ∀ b, v.ownBlock = some b → b ≠ bl := fun b hb => by
    rcases ha with ha | ha
    · exact hfne b (ha ▸ hb)
    · have := ha b hb; omega
  have hk : ∀ b, b ≠ bl → ((w2.setCell ⟨bl, 3, none⟩ v).setCell ⟨bl, 5, none⟩ (.int .i64 z)).heap[b]? = w2.heap[b]? := fun b hb => (Below.heap_setCell _ _ _ _ hb).trans (Below.heap_setCell _ _ _ _ hb)
  have hold : ∀ b, L.own b ≠ 0 → L.own b ≠ 2 → (setF L v l z).own b = L.own b := fun b h0 h2 => if_neg (fun hc => by
    rcases ha with ha | ha
    · exact h2 (h.rf b (ha ▸ hc))
    · have := ha b hc; have := h.own_lt h0; omega)
  have hsame : ∀ b, L.own b ≠ 0 → L.own b ≠ 1 → L.own b ≠ 2 → ((w2.setCell ⟨bl, 3, none⟩ v).setCell ⟨bl, 5, none⟩ (.int .i64 z)).heap[b]? = w.heap[b]? := fun b h0 h1 h2 => (hk b (fun e => h1 (by rw [e]; exact h.rl))).trans (hg.block b (h.own_lt h0) (fun e => h2 (h.rf b e.symm)))
  have hb2 : w2.heap[bl]? = some (.cells (lC L) 141) := (hg.block bl hlt (fun e => hfne bl e.symm rfl)).trans h.log
  refine ⟨⟨?_, ?_, ?_, fun b hb => if_pos hb, ?_, fun b hb => ?_, fun p hp => ?_, fun p hp b hb => ?_, fun b hb => ?_⟩, ?_⟩
  · rw [block_setCell (block_setCell hb2 _) _]
    simp [lC, setF]
  · rw [hold bl (by rw [h.rl]; simp) (by rw [h.rl]; simp)]
    exact h.rl
  · exact ownsRow_heap ho (fun b hb => hk b (hvne b hb))
  · exact ownsRow_heap h.recs (fun b hb => hsame b (by rw [h.rr b hb]; simp) (by rw [h.rr b hb]; simp) (by rw [h.rr b hb]; simp))
  · rw [hold b (by rw [h.rr b hb]; simp) (by rw [h.rr b hb]; simp)]
    exact h.rr b hb
  · exact (h.each p hp).keep (fun b hb => hsame b (by rw [h.re p hp b hb]; simp) (by rw [h.re p hp b hb]; simp) (by rw [h.re p hp b hb]; simp))
  · rw [hold b (by rw [h.re p hp b hb]; simp) (by rw [h.re p hp b hb]; simp)]
    exact h.re p hp b hb
  · have hb' : w2.heap.size ≤ b := by simpa using hb
    show (if v.ownBlock = some b then 2 else L.own b) = 0
    rw [if_neg (fun hc => by have := (ho.lt b hc).2; omega)]
    exact h.fresh b (by have := hg.size; omega)
  · refine ⟨hg.os, hg.tape, hg.output, by simpa using hg.size, fun b h0 h1 => ?_, fun b h0 h1 => ?_⟩
    · exact (hk b (fun e => by rw [e, h.rl] at h1; cases h1)).trans (hg.block b h0 (fun e => by rw [h.rf b e.symm] at h1; cases h1))
    · show (if v.ownBlock = some b then 2 else L.own b) = 0
      rw [if_neg (fun hc => by
        rcases ha with ha | ha
        · rw [h.rf b (ha ▸ hc)] at h1; cases h1
        · have := ha b hc; omega)]
      exact h1
set_option maxRecDepth 100000 in
set_option maxHeartbeats 4000000 in
/-- begin -/
theorem begin_any {w : World} {bl : Nat} {L : LS} (h : LogIs w bl L) (hl : L.fs.length ≤ 1000000000000) (n : Int) :
    Calls Tryz.prog 107 #[.pointer (some ⟨bl, 0, none⟩), .int .i64 n] w fun e w' => e = .returned (.tuple #[]) ∧ ∃ v, LogIs w' bl (setF L v (L.fs ++ [n]) 0) ∧ LFr w w' L (setF L v (L.fs ++ [n]) 0) := by
  have c3 : w.cell? ⟨bl, 3, none⟩ = some L.fv := by rw [cell_of_block h.log]; rfl
  obtain ⟨fa, fc, hfv⟩ := row_form h.files
  rw [hfv] at c3
  have HH : Hid (LogIs w bl L ∧ L.fv = .slice fa L.fs.length fc) := ⟨h, hfv⟩
  have hlt := h.lt
  clear h hfv
  go_enter Tryz.func107, Tryz.ntmps107
  go_wp2_with (first
    | (at_builtin
       have hB := heap_alloc_new w (.cells #[.int .i64 n] 3)
       have ho0 := HH.out.1.files.alloc (.cells #[.int .i64 n] 3)
       rw [HH.out.2] at ho0
       refine wpList_append_i rfl _ _ rfl 0 (.slice fa L.fs.length fc) L.fs n rfl ho0 w.heap.size hB rfl hl (Nat.zero_le _) ?_
       intro v2 w2 ho hg ha
       have hg' : w.grownBy w2 L.fv.ownBlock := by rw [HH.out.2]; exact (World.grownBy_alloc w _ _).trans hg
       have ha' : v2.ownBlock = L.fv.ownBlock ∨ ∀ b, v2.ownBlock = some b → w.heap.size ≤ b := by
         rcases ha with ha | ha
         · exact Or.inl (by rw [HH.out.2]; exact ha)
         · exact Or.inr (fun b hb => by rw [ha] at hb; injection hb with hb; simp at hb; omega)
       obtain ⟨va, vc, hv2⟩ := row_form ho
       rw [show (L.fs ++ [n]).length = L.fs.length + 1 from by simp] at hv2
       have hlb : w2.heap[bl]? = some (.cells (lC L) 141) := (hg'.block bl hlt (fun e => by have := HH.out.1.rf bl e.symm; rw [HH.out.1.rl] at this; cases this)).trans HH.out.1.log
       have d3 : w2.cell? ⟨bl, 3, none⟩ = some (.slice fa L.fs.length fc) := by rw [cell_of_block hlb]; show some L.fv = _; rw [HH.out.2]
       have d5 : w2.cell? ⟨bl, 5, none⟩ = some (.int .i64 L.size) := by rw [cell_of_block hlb]; rfl
       have f3 : w2.frozen? ⟨bl, 3, none⟩ = false := unfrozen_of_block hlb 3
       have f5 : w2.frozen? ⟨bl, 5, none⟩ = false := unfrozen_of_block hlb 5
       have H2 : Hid (w.grownBy w2 L.fv.ownBlock ∧ w2.ownsRow 0 3 1 v2 (L.fs ++ [n]).length (vI (L.fs ++ [n])) ∧ (v2.ownBlock = L.fv.ownBlock ∨ ∀ b, v2.ownBlock = some b → w.heap.size ≤ b)) := ⟨hg', ho, ha'⟩
       subst hv2
       clear ho hg ha hg' ha' hB ho0 hlb))
  go_end0
  exact ⟨rfl, _, begin_end HH.out.1 H2.out.1 H2.out.2.1 H2.out.2.2⟩
/-- A log with a record more. -/
def addR (L : LS) (v : Value) (p : Value × List Int) : LS := { L with rv := v, rs := L.rs ++ [p], size := L.size + (12 + p.2.length), own := fun b => if v.ownBlock = some b then 3 else if dBlock p.1 p.2 = some b then 4 else L.own b }
/-- What lies beside a log and its new record stays. -/
structure KFr (w w' : World) (L L' : LS) (p : Value × List Int) : Prop where
  os : w'.os = w.os
  tape : w'.tape = w.tape
  output : w'.output = w.output
  size : w.heap.size ≤ w'.heap.size
  block : ∀ b, b < w.heap.size → L.own b = 0 → w'.heap[b]? = w.heap[b]?
  own : ∀ b, b < w.heap.size → L.own b = 0 → ¬ dBlock p.1 p.2 = some b → L'.own b = 0
theorem keep_end {w w2 : World} {bl : Nat} {L : LS} {v : Value} {p : Value × List Int} (h : LogIs w bl L) (hp : BytesV w p.1 p.2) (hpo : ∀ b, dBlock p.1 p.2 = some b → L.own b = 0 ∧ b < w.heap.size) (hg : w.grownBy w2 L.rv.ownBlock) (ho : w2.ownsRow 0 23 1 v (L.rs ++ [p]).length ((L.rs ++ [p]).map (·.1))) (ha : v.ownBlock = L.rv.ownBlock ∨ ∀ b, v.ownBlock = some b → w.heap.size ≤ b) :
    LogIs ((w2.setCell ⟨bl, 4, none⟩ v).setCell ⟨bl, 5, none⟩ (.int .i64 (L.size + (12 + p.2.length)))) bl (addR L v p) ∧ KFr w ((w2.setCell ⟨bl, 4, none⟩ v).setCell ⟨bl, 5, none⟩ (.int .i64 (L.size + (12 + p.2.length)))) L (addR L v p) p := by
  have hlt := h.lt
  have hfne : ∀ b, L.rv.ownBlock = some b → b ≠ bl := fun b hb e => by have := h.rr b hb; rw [e, h.rl] at this; cases this
  have hvne : ∀ b, v.ownBlock = some b → b ≠ bl := fun b hb => by
    rcases ha with ha | ha
    · exact hfne b (ha ▸ hb)
    · have := ha b hb; omega
  have hk : ∀ b, b ≠ bl → ((w2.setCell ⟨bl, 4, none⟩ v).setCell ⟨bl, 5, none⟩ (.int .i64 (L.size + (12 + p.2.length)))).heap[b]? = w2.heap[b]? := fun b hb => (Below.heap_setCell _ _ _ _ hb).trans (Below.heap_setCell _ _ _ _ hb)
  have hv3 : ∀ b, L.own b ≠ 0 → L.own b ≠ 3 → ¬ v.ownBlock = some b := fun b h0 h2 hc => by
    rcases ha with ha | ha
    · exact h2 (h.rr b (ha ▸ hc))
    · have := ha b hc; have := h.own_lt h0; omega
  have hold : ∀ b, L.own b ≠ 0 → L.own b ≠ 3 → (addR L v p).own b = L.own b := fun b h0 h2 => by
    show (if v.ownBlock = some b then 3 else if dBlock p.1 p.2 = some b then 4 else L.own b) = _
    rw [if_neg (hv3 b h0 h2), if_neg (fun hc => h0 (hpo b hc).1)]
  have hsame : ∀ b, b < w.heap.size → L.own b ≠ 1 → L.own b ≠ 3 → ((w2.setCell ⟨bl, 4, none⟩ v).setCell ⟨bl, 5, none⟩ (.int .i64 (L.size + (12 + p.2.length)))).heap[b]? = w.heap[b]? := fun b h0 h1 h2 => (hk b (fun e => h1 (by rw [e]; exact h.rl))).trans (hg.block b h0 (fun e => h2 (h.rr b e.symm)))
  have hb2 : w2.heap[bl]? = some (.cells (lC L) 141) := (hg.block bl hlt (fun e => hfne bl e.symm rfl)).trans h.log
  refine ⟨⟨?_, ?_, ?_, fun b hb => ?_, ?_, fun b hb => if_pos hb, fun q hq => ?_, fun q hq b hb => ?_, fun b hb => ?_⟩, hg.os, hg.tape, hg.output, by simpa using hg.size, fun b hb h0 => ?_, fun b hb h0 hN => ?_⟩
  · rw [block_setCell (block_setCell hb2 _) _]
    simp [lC, addR]
  · rw [hold bl (by rw [h.rl]; simp) (by rw [h.rl]; simp)]
    exact h.rl
  · exact ownsRow_heap h.files (fun b hb => hsame b (h.own_lt (by rw [h.rf b hb]; simp)) (by rw [h.rf b hb]; simp) (by rw [h.rf b hb]; simp))
  · rw [hold b (by rw [h.rf b hb]; simp) (by rw [h.rf b hb]; simp)]
    exact h.rf b hb
  · exact ownsRow_heap ho (fun b hb => hk b (hvne b hb))
  · rcases List.mem_append.1 hq with hq | hq
    · exact (h.each q hq).keep (fun b hb => hsame b (h.own_lt (by rw [h.re q hq b hb]; simp)) (by rw [h.re q hq b hb]; simp) (by rw [h.re q hq b hb]; simp))
    · simp at hq
      subst hq
      exact hp.keep (fun b hb => hsame b (hpo b hb).2 (by rw [(hpo b hb).1]; simp) (by rw [(hpo b hb).1]; simp))
  · rcases List.mem_append.1 hq with hq | hq
    · rw [hold b (by rw [h.re q hq b hb]; simp) (by rw [h.re q hq b hb]; simp)]
      exact h.re q hq b hb
    · simp at hq
      subst hq
      show (if v.ownBlock = some b then 3 else if dBlock q.1 q.2 = some b then 4 else L.own b) = 4
      rw [if_neg (fun hc => ?_), if_pos hb]
      rcases ha with ha | ha
      · have := h.rr b (ha ▸ hc); rw [(hpo b hb).1] at this; cases this
      · have := ha b hc; have := (hpo b hb).2; omega
  · have hb' : w2.heap.size ≤ b := by simpa using hb
    show (if v.ownBlock = some b then 3 else if dBlock p.1 p.2 = some b then 4 else L.own b) = 0
    rw [if_neg (fun hc => by have := (ho.lt b hc).2; omega), if_neg (fun hc => by have := (hpo b hc).2; have := hg.size; omega)]
    exact h.fresh b (by have := hg.size; omega)
  · exact hsame b hb (by rw [h0]; simp) (by rw [h0]; simp)
  · show (if v.ownBlock = some b then 3 else if dBlock p.1 p.2 = some b then 4 else L.own b) = 0
    rw [if_neg (fun hc => ?_), if_neg hN]
    · exact h0
    · rcases ha with ha | ha
      · have := h.rr b (ha ▸ hc); rw [h0] at this; cases this
      · have := ha b hc; omega
theorem vmap_append (a : List (Value × List Int)) (p : Value × List Int) : (a ++ [p]).map (·.1) = a.map (·.1) ++ [p.1] := by simp
set_option maxRecDepth 100000 in
set_option maxHeartbeats 4000000 in
/-- keep -/
theorem keep_any {w : World} {bl : Nat} {L : LS} (h : LogIs w bl L) (hl : L.rs.length ≤ 1099511627776) (va : Option Addr) (vc : Nat) (bs : List Int) (hp : BytesV w (.slice va bs.length vc) bs) (hpo : ∀ b, dBlock (.slice va bs.length vc) bs = some b → L.own b = 0 ∧ b < w.heap.size) (hbl : bs.length ≤ 65536) (hsz : 0 ≤ L.size ∧ L.size ≤ 4611686018427387904) :
    Calls Tryz.prog 109 #[.pointer (some ⟨bl, 0, none⟩), .slice va bs.length vc] w fun e w' => e = .returned (.tuple #[]) ∧ ∃ v, LogIs w' bl (addR L v (.slice va bs.length vc, bs)) ∧ KFr w w' L (addR L v (.slice va bs.length vc, bs)) (.slice va bs.length vc, bs) := by
  have c4 : w.cell? ⟨bl, 4, none⟩ = some L.rv := by rw [cell_of_block h.log]; rfl
  obtain ⟨fa, fc, hfv⟩ := row_form h.recs
  rw [hfv] at c4
  have HH : Hid (LogIs w bl L ∧ L.rv = .slice fa L.rs.length fc ∧ BytesV w (.slice va bs.length vc) bs ∧ ∀ b, dBlock (.slice va bs.length vc) bs = some b → L.own b = 0 ∧ b < w.heap.size) := ⟨h, hfv, hp, hpo⟩
  have hlt := h.lt
  clear h hfv hp hpo
  go_enter Tryz.func109, Tryz.ntmps109
  go_wp2_with (first
    | (at_builtin
       have hB := heap_alloc_new w (.cells #[.slice va bs.length vc] 23)
       have ho0 := HH.out.1.recs.alloc (.cells #[.slice va bs.length vc] 23)
       rw [HH.out.2.1] at ho0
       have ho1 : (w.alloc (.cells #[.slice va bs.length vc] 23)).ownsRow 0 23 1 (.slice fa L.rs.length fc) (L.rs.map (·.1)).length (L.rs.map (·.1)) := by rw [List.length_map]; exact ho0
       refine wpList_append_v rfl _ _ rfl 0 (.slice fa L.rs.length fc) (L.rs.map (·.1)) (.slice va bs.length vc) ⟨_, _, _, rfl⟩ rfl ho1 w.heap.size hB rfl (by rw [List.length_map]; exact hl) (Nat.zero_le _) ?_
       intro v2 w2 ho hg ha
       have hg' : w.grownBy w2 L.rv.ownBlock := by rw [HH.out.2.1]; exact (World.grownBy_alloc w _ _).trans hg
       have ha' : v2.ownBlock = L.rv.ownBlock ∨ ∀ b, v2.ownBlock = some b → w.heap.size ≤ b := by
         rcases ha with ha | ha
         · exact Or.inl (by rw [HH.out.2.1]; exact ha)
         · exact Or.inr (fun b hb => by rw [ha] at hb; injection hb with hb; simp at hb; omega)
       rw [show ((L.rs.map (·.1)) ++ [Value.slice va bs.length vc]).length = L.rs.length + 1 from by simp] at ho
       obtain ⟨va2, vc2, hv2⟩ := row_form ho
       have hlb : w2.heap[bl]? = some (.cells (lC L) 141) := (hg'.block bl hlt (fun e => by have := HH.out.1.rr bl e.symm; rw [HH.out.1.rl] at this; cases this)).trans HH.out.1.log
       have d4 : w2.cell? ⟨bl, 4, none⟩ = some (.slice fa L.rs.length fc) := by rw [cell_of_block hlb]; show some L.rv = _; rw [HH.out.2.1]
       have d5 : w2.cell? ⟨bl, 5, none⟩ = some (.int .i64 L.size) := by rw [cell_of_block hlb]; rfl
       have f4 : w2.frozen? ⟨bl, 4, none⟩ = false := unfrozen_of_block hlb 4
       have f5 : w2.frozen? ⟨bl, 5, none⟩ = false := unfrozen_of_block hlb 5
       have H2 : Hid (w.grownBy w2 L.rv.ownBlock ∧ w2.ownsRow 0 23 1 v2 (L.rs ++ [(Value.slice va bs.length vc, bs)]).length ((L.rs ++ [(Value.slice va bs.length vc, bs)]).map (·.1)) ∧ (v2.ownBlock = L.rv.ownBlock ∨ ∀ b, v2.ownBlock = some b → w.heap.size ≤ b)) := ⟨hg', by rw [vmap_append]; simpa using ho, ha'⟩
       subst hv2
       clear ho hg ha hg' ha' hB ho0 hlb))
  go_end0
  exact ⟨rfl, _, keep_end HH.out.1 HH.out.2.2.1 HH.out.2.2.2 H2.out.1 H2.out.2.1 H2.out.2.2⟩
end Go.Proofs.YtconkienlcegaaaGreatDoor
/- disk: the program's calls by what they tell, on a disk that may be down or have a plan. -/
namespace Go.Proofs.YtconkienlcegaaaGreatDoor
open Go.RowKit Go.Maps Go.Joins
set_option linter.unusedSimpArgs false
set_option linter.unusedVariables false
def gI (c x : Int) : Int := if c = 0 then x else c
def gL (c : Int) (l l' : List Tf) : List Tf := if c = 0 then l' else l
theorem gI0 {c x : Int} (h : c = 0) : gI c x = x := if_pos h
theorem gI1 {c x : Int} (h : ¬ c = 0) : gI c x = c := if_neg h
theorem gL0 {c : Int} {l l' : List Tf} (h : c = 0) : gL c l l' = l' := if_pos h
theorem gL1 {c : Int} {l l' : List Tf} (h : ¬ c = 0) : gL c l l' = l := if_neg h
structure GB (S : DS) (ro : Int) : Prop where
  cnt : Cnt S
  rm : S.room = ro
  r0 : 0 ≤ ro ∧ ro ≤ 1073741824
  wf : Wf (absP S) ro
structure GS (S S' : DS) (dn : Bool) (st : Int) (l : List Tf) : Prop where
  room : S'.room = S.room
  down : S'.down = dn
  armed : S'.armed = S.armed
  plan : S'.plan = S.plan
  steps : S'.steps = st
  abs : absP S' = l
theorem st_name {S : DS} {ns : List ByteArray} (h : stepE S ns = 0) : okN ns = true := by
  unfold stepE at h
  split at h
  · omega
  · split at h
    · assumption
    · omega
theorem st_zero {S : DS} {ns : List ByteArray} (h : stepE S ns = 0) : stepS S ns = { S with down := false, steps := S.steps + 1 } := by
  have hn := st_name h
  unfold stepE at h
  unfold stepS
  split at h
  · omega
  · rename_i hd
    rw [if_neg hd, if_pos hn]
    try rw [if_pos hn] at h
    have : decide (stK S = 3) = false := by
      simp only [decide_eq_false_iff_not]
      intro e
      rw [e] at h
      simp [faultE] at h
    rw [this]
theorem GS.up (S : DS) : GS S { S with down := false, steps := S.steps + 1 } false (S.steps + 1) (absP S) := ⟨rfl, rfl, rfl, rfl, rfl, rfl⟩
theorem GS.st (S : DS) (ns : List ByteArray) : GS S (stepS S ns) (stepS S ns).down (stepS S ns).steps (absP S) := by
  obtain ⟨h1, h2, h3, h4, h5⟩ := stepS_fields S ns
  refine ⟨h1, rfl, ?_, ?_, rfl, by unfold absP; rw [h3, h4]⟩
  · unfold stepS; split <;> (try rfl); split <;> rfl
  · unfold stepS; split <;> (try rfl); split <;> rfl
/-- Sync -/
theorem g_sync {w : World} {bd : Nat} {S : DS} {room : Int} (h : DiskIs w bd S) (hb : GB S room) (s : ByteArray) (hs : s.size ≤ 9223372036854775807) :
    Calls Tryz.prog 117 #[.pointer (some ⟨bd, 0, none⟩), .string s] w fun e w' => e = .returned (.int .i64 (gI (stepE S [s]) (eFind (absP S) s))) ∧ ∃ S', DiskIs w' bd S' ∧ Fr w w' S S' ∧ GS S S' (stepS S [s]).down (stepS S [s]).steps (gL (stepE S [s]) (absP S) (lSync (absP S) s)) := by
  by_cases h1 : stepE S [s] = 0
  case neg =>
    rw [gI1 h1, gL1 h1]
    have hf : findV S [s] = none := by simp [findV, h1]
    refine (sync_no h hb.cnt s hs hf).mono ?_
    rintro e w' ⟨rfl, hD, hF⟩
    exact ⟨by simp [findE, h1, eFind], _, hD, hF, GS.st S _⟩
  case pos =>
    have hn : nameB s = true := by rw [← okN1]; exact st_name h1
    have h2 := st_zero h1
    rw [gI0 h1, gL0 h1, h2]
    have hv : findV S [s] = look S.fs (nb s) := findV1 h1
    cases hl : look S.fs (nb s) with
    | none =>
      rw [hl] at hv
      refine (sync_no h hb.cnt s hs hv).mono ?_
      rintro e w' ⟨rfl, hD, hF⟩
      rw [h2] at hD hF
      exact ⟨by simp [findE, h1, hv, eFind, hn, fT_none hl], _, hD, hF, by rw [show lSync (absP S) s = absP S from by simp [lSync, hn, fT_none hl]]; exact GS.up S⟩
    | some g =>
      rw [hl] at hv
      have hlen : ∀ p ∈ S.fs, (S.fl p.1).bs.length ≤ 1073741824 := fun p hp => by
        have h3 := (del_here (n := p.1) (p := ((p.1, (S.fl p.1).bs, (S.fl p.1).safe) : Tf)) rfl (l := absP S) (List.mem_map_of_mem (f := fun p => ((p.1, (S.fl p.1).bs, (S.fl p.1).safe) : Tf)) hp)).2
        have h4 := hb.wf.sum
        have h5 := hb.r0
        simp only at h3
        omega
      refine (sync_ok h hb.cnt s hs hv hlen).mono ?_
      rintro e w' ⟨rfl, z, hD, hF⟩
      rw [h2] at hD hF
      refine ⟨by simp [eFind, hn, fT_some hl], _, hD, hF, rfl, rfl, rfl, rfl, rfl, ?_⟩
      rw [absP_set]
      simp only [lSync, hn, fT_some hl, if_true]
      rfl
/-- Truncate -/
theorem g_trunc {w : World} {bd : Nat} {S : DS} {room : Int} (h : DiskIs w bd S) (hb : GB S room) (s : ByteArray) (hs : s.size ≤ 9223372036854775807) (x : Int) :
    Calls Tryz.prog 110 #[.pointer (some ⟨bd, 0, none⟩), .string s, .int .i64 x] w fun e w' => e = .returned (.int .i64 (gI (stepE S [s]) (eTru (absP S) s x))) ∧ ∃ S', DiskIs w' bd S' ∧ Fr w w' S S' ∧ GS S S' (stepS S [s]).down (stepS S [s]).steps (gL (stepE S [s]) (absP S) (lTru (absP S) s x)) := by
  by_cases h1 : stepE S [s] = 0
  case neg =>
    rw [gI1 h1, gL1 h1]
    have hf : findV S [s] = none := by simp [findV, h1]
    refine (trunc_no h hb.cnt s hs x hf).mono ?_
    rintro e w' ⟨rfl, hD, hF⟩
    exact ⟨by simp [findE, h1, eTru], _, hD, hF, GS.st S _⟩
  case pos =>
    have hn : nameB s = true := by rw [← okN1]; exact st_name h1
    have h2 := st_zero h1
    rw [gI0 h1, gL0 h1, h2]
    have hv : findV S [s] = look S.fs (nb s) := findV1 h1
    cases hl : look S.fs (nb s) with
    | none =>
      rw [hl] at hv
      refine (trunc_no h hb.cnt s hs x hv).mono ?_
      rintro e w' ⟨rfl, hD, hF⟩
      rw [h2] at hD hF
      exact ⟨by simp [findE, h1, hv, eTru, hn, fT_none hl], _, hD, hF, by rw [show lTru (absP S) s x = absP S from by simp [lTru, hn, fT_none hl]]; exact GS.up S⟩
    | some g =>
      rw [hl] at hv
      have hLL : ((stepS S [s]).fl s.data.toList).bs = (S.fl (nb s)).bs := by rw [h2]
      by_cases hx : x < 0 ∨ ((S.fl (nb s)).bs.length : Int) < x
      · refine (trunc_arg h hb.cnt s hs x hv (by rw [hLL]; exact hx)).mono ?_
        rintro e w' ⟨rfl, hD, hF⟩
        rw [h2] at hD hF
        refine ⟨?_, _, hD, hF, ?_⟩
        · simp only [eTru, hn, fT_some hl, if_true, if_pos hx]
        · rw [show lTru (absP S) s x = absP S from by simp only [lTru, hn, fT_some hl, if_true, if_pos hx]]
          exact GS.up S
      · refine (trunc_ok h hb.cnt s hs x hv (by omega) (by rw [hLL]; omega)).mono ?_
        rintro e w' ⟨rfl, a, cap, z, hD, hF⟩
        rw [h2] at hD hF
        refine ⟨?_, _, hD, hF, rfl, rfl, rfl, rfl, rfl, ?_⟩
        · simp only [eTru, hn, fT_some hl, if_true, if_neg hx]
        · rw [absP_set]
          simp only [lTru, hn, fT_some hl, if_true, if_neg hx]
          rfl
/-- Append -/
theorem g_append {w : World} {bd : Nat} {S : DS} {room : Int} (h : DiskIs w bd S) (hb : GB S room) (s : ByteArray) (hs : s.size ≤ 9223372036854775807) (va : Option Addr) (vc : Nat) (bs : List Int) (hv0 : BytesV w (.slice va bs.length vc) bs) (hvr : ∀ b, dBlock (.slice va bs.length vc) bs = some b → S.role b = .none) (hb63 : bs.length ≤ 4611686018427387904) :
    Calls Tryz.prog 35 #[.pointer (some ⟨bd, 0, none⟩), .string s, .slice va bs.length vc] w fun e w' => e = .returned (.int .i64 (gI (stepE S [s]) (eApp (absP S) room s bs))) ∧ ∃ S', DiskIs w' bd S' ∧ Fr w w' S S' ∧ GS S S' (stepS S [s]).down (stepS S [s]).steps (gL (stepE S [s]) (absP S) (lApp (absP S) room s bs)) := by
  have hrm := hb.rm
  have hr0 := hb.r0
  have hT := total_sumT S
  have hsum := hb.wf.sum
  have hlen : (absP S).length = S.fs.length := by unfold absP; rw [List.length_map]
  have hl16 := hb.wf.len
  by_cases h1 : stepE S [s] = 0
  case neg =>
    rw [gI1 h1, gL1 h1]
    refine (append_no h hb.cnt s hs _ h1).mono ?_
    rintro e w' ⟨rfl, hD, hF⟩
    exact ⟨by simp [h1, eApp], _, hD, hF, GS.st S _⟩
  case pos =>
    have hn : nameB s = true := by rw [← okN1]; exact st_name h1
    have h2 := st_zero h1
    rw [gI0 h1, gL0 h1, h2]
    cases hl : look S.fs (nb s) with
    | none =>
      have hfn := fT_none hl
      by_cases h16 : 16 ≤ S.fs.length
      · refine (append_big h hb.cnt s hs _ h1 hl h16 (by omega)).mono ?_
        rintro e w' ⟨rfl, hD, hF⟩
        rw [h2] at hD hF
        have hc : fT (absP S) (nb s) = none ∧ 16 ≤ (absP S).length := ⟨hfn, by omega⟩
        exact ⟨by simp only [eApp, hn, if_true, if_pos hc], _, hD, hF, by rw [show lApp (absP S) room s bs = absP S from by simp only [lApp, hn, if_true, if_pos hc]]; exact GS.up S⟩
      · have hc : ¬ (fT (absP S) (nb s) = none ∧ 16 ≤ (absP S).length) := fun hc => h16 (by omega)
        by_cases hf : room < (sumT (absP S) : Int) + bs.length
        · refine (append_full_new h hb.cnt s hs va vc bs hb63 h1 hl (by omega) (by omega) (by omega) (by omega) (by omega)).mono ?_
          rintro e w' ⟨rfl, hD, hF⟩
          rw [h2] at hD hF
          exact ⟨by simp only [eApp, hn, if_true, if_neg hc, if_pos hf], _, hD, hF, by rw [show lApp (absP S) room s bs = absP S from by simp only [lApp, hn, if_true, if_neg hc, if_pos hf]]; exact GS.up S⟩
        · refine (append_new h hb.cnt s hs _ bs hv0 hvr h1 hl (by omega) (by omega) (by omega)).mono ?_
          rintro e w' ⟨rfl, sl, gg, z, hD, hF⟩
          rw [h2] at hD hF
          refine ⟨by simp only [eApp, hn, if_true, if_neg hc, if_neg hf], _, hD, hF, rfl, rfl, rfl, rfl, rfl, ?_⟩
          rw [show lApp (absP S) room s bs = putT (absP S) (nb s, bs, 0) from by unfold lApp; rw [if_pos hn, if_neg hc, if_neg hf, hfn]]
          rw [absP_put { S with down := false, steps := S.steps + 1 } _ (nb s) gg S.fs rfl (fun m hm => if_neg hm)]
          have e1 : ((addFl { S with down := false, steps := S.steps + 1 } s.data.toList gg { sl := sl, bs := bs, safe := 0 } z).fl (nb s)) = { sl := sl, bs := bs, safe := 0 } := if_pos rfl
          rw [e1]
          rfl
    | some g =>
      have hfs := fT_some hl
      have hc : ¬ (fT (absP S) (nb s) = none ∧ 16 ≤ (absP S).length) := fun hc => by rw [hfs] at hc; cases hc.1
      have hle : (S.fl (nb s)).bs.length ≤ 1073741824 := by
        have h3 := (del_here (p := ((nb s, (S.fl (nb s)).bs, (S.fl (nb s)).safe) : Tf)) rfl (fT_mem hfs).1).2
        simp only at h3
        omega
      by_cases hf : room < (sumT (absP S) : Int) + bs.length
      · refine (append_full_old h hb.cnt s hs va vc bs hb63 h1 hl (by omega) (by omega) (by omega) (by omega)).mono ?_
        rintro e w' ⟨rfl, hD, hF⟩
        rw [h2] at hD hF
        exact ⟨by simp only [eApp, hn, if_true, if_neg hc, if_pos hf], _, hD, hF, by rw [show lApp (absP S) room s bs = absP S from by simp only [lApp, hn, if_true, if_neg hc, if_pos hf]]; exact GS.up S⟩
      · refine (append_old h hb.cnt s hs _ bs hv0 hvr h1 hl (by omega) (by omega) (by rw [h2]; exact hle)).mono ?_
        rintro e w' ⟨rfl, sl, z, hD, hF⟩
        rw [h2] at hD hF
        refine ⟨by simp only [eApp, hn, if_true, if_neg hc, if_neg hf], _, hD, hF, rfl, rfl, rfl, rfl, rfl, ?_⟩
        rw [absP_set]
        simp only [lApp, hn, if_true, if_neg hc, if_neg hf, hfs]
        rfl
end Go.Proofs.YtconkienlcegaaaGreatDoor
