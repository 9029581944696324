/- DF, DG -/
import Derived.Test.YtconkienlcegaaaGreatDoorGDE
import Derived.Maps.AppendAt
import Derived.Laws.AppendOwnNone
import Derived.OwnWalk
namespace Go.Proofs.YtconkienlcegaaaGreatDoor
open Go.RowKit Go.Maps Go.Joins
set_option linter.unusedSimpArgs false
set_option linter.unusedVariables false
theorem pw_uniq {n : List UInt8} {g g' : Nat} : ∀ {l : List (List UInt8 × Nat)}, (l.map toE).Pairwise (fun p q => p.1 ≠ q.1) → (n, g) ∈ l → (n, g') ∈ l → g = g'
 | [], _, h, _ => by cases h
 | p :: r, hp, h, h' => by
   rw [List.map_cons, List.pairwise_cons] at hp; rcases List.mem_cons.1 h with h | h <;> rcases List.mem_cons.1 h' with h' | h'
   · rw [← h] at h'; exact (Prod.mk.inj h').2.symm
   · refine absurd ?_ (hp.1 _ (List.mem_map_of_mem h'))
     rw [← h]; rfl
   · refine absurd ?_ (hp.1 _ (List.mem_map_of_mem h))
     rw [← h']; rfl
   · exact pw_uniq hp.2 h h'
theorem DiskIs.uniq {w : World} {bd : Nat} {S : DS} (h : DiskIs w bd S) {n : List UInt8} {g g' : Nat} (h1 : (n, g) ∈ S.fs) (h2 : (n, g') ∈ S.fs) : g = g' := by
 obtain ⟨es, he, hp, _⟩ := h.files.entries law9; have : S.fs.map toE = es := by
  unfold toD at he; injection he
 rw [← this] at hp; exact pw_uniq hp h1 h2
/-- The file n has other bytes, of which others are safe. -/
def setFl (S : DS) (n : List UInt8) (f : FileC) (z : Nat) : DS := { S with fl := fun m => if m = n then f else S.fl m, role := fun b => if z ≤ b ∧ f.sl.ownBlock = some b then .bytes n else S.role b }
theorem DiskIs.setF {w w' : World} {bd : Nat} {S : DS} (h : DiskIs w bd S) {n : List UInt8} {g : Nat} (hm : (n, g) ∈ S.fs) (f : FileC) (hk : ∀ b, b < w.heap.size → b ≠ g → (S.fl n).sl.ownBlock ≠ some b → w'.heap[b]? = w.heap[b]?) (hs : w.heap.size ≤ w'.heap.size)
 (hg : w'.heap[g]? = some (.cells #[f.sl, .int .i64 f.safe] 116)) (hr : w'.ownsRow 0 5 1 f.sl f.bs.length (vB f.bs)) (hb : ∀ b, f.sl.ownBlock = some b → (S.fl n).sl.ownBlock = some b ∨ w.heap.size ≤ b) : DiskIs w' bd (setFl S n f w.heap.size) := by
 have hold : ∀ b, S.role b ≠ .none → (setFl S n f w.heap.size).role b = S.role b := fun b hb => by
  have := h.role_lt hb; show (if _ then _ else _) = _; rw [if_neg (by omega)]
 have hk' : ∀ b, S.role b ≠ .none → S.role b ≠ .file n → S.role b ≠ .bytes n → w'.heap[b]? = w.heap[b]? := fun b h0 h1 h2 =>
  hk b (h.role_lt h0) (fun e => h1 (by rw [e]; exact h.rf _ hm)) (fun e => h2 (h.rr _ hm b e))
 have hfl : ∀ m, m ≠ n → (setFl S n f w.heap.size).fl m = S.fl m := fun m hm => if_neg hm
 have hfn : (setFl S n f w.heap.size).fl n = f := if_pos rfl; refine ⟨?_, ?_, ?_, ?_, ?_, ?_, ?_, ?_, ?_, ?_, ?_⟩
 · exact (hk' bd (by rw [h.rd]; simp) (by rw [h.rd]; simp) (by rw [h.rd]; simp)).trans h.disk
 · rw [hold bd (by rw [h.rd]; simp)]; exact h.rd
 · exact ownsMap_heap h.files (hk' S.bm (by rw [h.rm]; simp) (by rw [h.rm]; simp) (by rw [h.rm]; simp))
 · show (setFl S n f w.heap.size).role S.bm = _
   rw [hold _ (by rw [h.rm]; simp)]; exact h.rm
 · exact h.plan.kept (fun b hb => hk' b (by rw [h.rp b hb]; simp) (by rw [h.rp b hb]; simp) (by rw [h.rp b hb]; simp))
 · intro b hb
   have := h.rp b hb; rw [hold _ (by rw [this]; simp)]; exact this
 · intro p hp
   have hp' : p ∈ S.fs := hp; by_cases e : p.1 = n
   · have : p.2 = g := h.uniq (n := n) (by rw [← e]; exact hp') hm
     rw [this, e, hfn]; exact hg
   · rw [hfl _ e]
     have := h.rf p hp'; exact (hk' _ (by rw [this]; simp) (by rw [this]; simp; exact e) (by rw [this]; simp)).trans (h.file p hp')
 · intro p hp
   have := h.rf p hp; rw [hold _ (by rw [this]; simp)]; exact this
 · intro p hp
   have hp' : p ∈ S.fs := hp; by_cases e : p.1 = n
   · rw [e, hfn]
     exact hr
   · rw [hfl _ e]
     exact ownsRow_heap (h.row p hp') (fun b hb => by
      have := h.rr p hp' b hb; exact hk' _ (by rw [this]; simp) (by rw [this]; simp) (by rw [this]; simp; exact e))
 · intro p hp b hbb
   have hp' : p ∈ S.fs := hp; by_cases e : p.1 = n
   · rw [e, hfn] at hbb
     rw [e]; rcases hb b hbb with h1 | h1
     · have := h.rr _ hm b h1
       rw [hold _ (by rw [this]; simp)]; exact this
     · show (if _ then _ else _) = _
       rw [if_pos ⟨h1, hbb⟩]
   · rw [hfl _ e] at hbb
     have := h.rr p hp' b hbb; rw [hold _ (by rw [this]; simp)]; exact this
 · intro b hbb
   show (if _ then _ else _) = _; rw [if_neg, h.fresh b (by omega)]; rintro ⟨_, h2⟩; rcases hr.2 with ⟨h3, _⟩ | ⟨g', cap, cur, h3, _, h4, _⟩
   · rw [h3] at h2; cases h2
   · rw [h3] at h2
     have h5 : g' = b := by simpa [Value.ownBlock] using h2
     have := heap_lt h4; omega
theorem DiskIs.frF {w w' : World} {bd : Nat} {S : DS} (h : DiskIs w bd S) {n : List UInt8} {g : Nat} (hm : (n, g) ∈ S.fs) (f : FileC) (hk : ∀ b, b < w.heap.size → b ≠ g → (S.fl n).sl.ownBlock ≠ some b → w'.heap[b]? = w.heap[b]?) (hs : w.heap.size ≤ w'.heap.size)
 (ho : w'.os = w.os ∧ w'.tape = w.tape ∧ w'.output = w.output) : Fr w w' S (setFl S n f w.heap.size) :=
 ⟨ho.1, ho.2.1, ho.2.2, hs, fun b hb hr => hk b hb (fun e => by rw [e, h.rf _ hm] at hr; cases hr) (fun e => by rw [h.rr _ hm b e] at hr; cases hr), fun b hb hr => by
  show (if _ then _ else _) = _; rw [if_neg (by omega)]; exact hr⟩
theorem role_stepS (S : DS) (ns : List ByteArray) : (stepS S ns).role = S.role := by
 unfold stepS; split
 · rfl
 · split <;> rfl
theorem DiskIs.frG {w w' : World} {bd : Nat} {S : DS} (h : DiskIs w bd S) (hG : w.grownBy w' (some bd)) (ns : List ByteArray) : Fr w w' S (stepS S ns) :=
 ⟨hG.os, hG.tape, hG.output, hG.size, fun b hb hr => hG.block b hb (fun e => by injection e with e; rw [e, h.rd] at hr; cases hr), fun b hb hr => by rw [role_stepS]; exact hr⟩
theorem row_form {w : World} {base size n : Nat} {e : TypeId} {v : Value} {xs : List Value} (h : w.ownsRow base e size v n xs) : ∃ a cap, v = .slice a n cap := by
 rcases h.2 with ⟨rfl, rfl⟩ | ⟨g, cap, cur, rfl, _⟩
 · exact ⟨_, _, rfl⟩
 · exact ⟨_, _, rfl⟩
theorem names_one (w : World) (s : ByteArray) (hs : s.size ≤ 9223372036854775807) : Names (w.alloc (.cells #[.string s] 9)) w.heap.size [s] := by
 intro k t hk; cases k with
 | zero =>
   simp at hk; subst hk; exact ⟨by simp, hs⟩
 | succ k => simp at hk
theorem findV_step {S : DS} {s : ByteArray} {g : Nat} (h : findV S [s] = some g) : (s.data.toList, g) ∈ (stepS S [s]).fs := by
 unfold findV at h; split at h
 · rw [fs_stepS]; exact look_mem h
 · cases h
set_option maxHeartbeats 4000000 in
/-- (*Disk).Sync, of a file that is there -/
theorem sync_ok {w : World} {bd : Nat} {S : DS} (h : DiskIs w bd S) (hc : Cnt S) (s : ByteArray) (hs : s.size ≤ 9223372036854775807) {g : Nat} (hf : findV S [s] = some g) (hlen : ∀ p ∈ S.fs, (S.fl p.1).bs.length ≤ 1073741824) :
 Calls Tryz.prog 117 #[.pointer (some ⟨bd, 0, none⟩), .string s] w fun e w' => e = .returned (.int .i64 0) ∧ ∃ z, DiskIs w' bd (setFl (stepS S [s]) s.data.toList { (stepS S [s]).fl s.data.toList with safe := ((stepS S [s]).fl s.data.toList).bs.length } z) ∧ Fr w w' S (setFl (stepS S [s]) s.data.toList { (stepS S [s]).fl s.data.toList with safe := ((stepS S [s]).fl s.data.toList).bs.length } z) := by
 have HD : Hid (DiskIs w bd S ∧ Cnt S) := ⟨h, hc⟩
 have h1 := h.below (w' := w.alloc (.cells #[.string s] 9)) (by go_grown); have hn := names_one w s hs; have hlt := h.lt; have hE : findE S [s] = 0 := by
  unfold findE; rw [hf]; unfold findV at hf; split at hf
  · rename_i h0; simp [h0]
  · cases hf
 have HX : Hid (DiskIs (w.alloc (.cells #[.string s] 9)) bd S ∧ Names (w.alloc (.cells #[.string s] 9)) w.heap.size [s]) := ⟨h1, hn⟩
 have hm := findV_step hf; generalize hS1 : stepS S [s] = S1 at *; clear h1 hn h hc; go_enter Tryz.func117, Tryz.ntmps117; go_wp2_with (first
  | (go_at_call 120
     refine (find_any HX.out.1 HD.out.2 w.heap.size 1 s [] HX.out.2 (by simp) (by omega) (by simp)).mono ?_; rw [hf, hE, hS1, show pv (some g) = .pointer (some ⟨g, 0, none⟩) from rfl]; rintro e w1 ⟨rfl, hD1, hG1, hZ1⟩; have HDD : Hid (DiskIs w1 bd S1 ∧ (w.alloc (.cells #[.string s] 9)).grownBy w1 (some bd)) := ⟨hD1, hG1⟩
     have hfile := hD1.file _ hm; obtain ⟨a, cap, hsl⟩ := row_form (hD1.row _ hm); have c0 : w1.cell? ⟨g, 0, none⟩ = some (.slice a (S1.fl s.data.toList).bs.length cap) := by rw [cell_of_block hfile, hsl]; rfl
     have c1 : w1.cell? ⟨g, 1, none⟩ = some (.int .i64 (S1.fl s.data.toList).safe) := by rw [cell_of_block hfile]; rfl
     have f1 : w1.frozen? ⟨g, 1, none⟩ = false := unfrozen_of_block hfile 1; clear hfile hD1 hG1)
  | go_in)
 go_ret; have hfile := HDD.out.1.file _ hm
 have hF1 : Fr w w1 S S1 := by
  have e1 : Fr w (w.alloc (.cells #[.string s] 9)) S S := Fr.below (by go_grown); have e2 := HX.out.1.frG HDD.out.2 [s]; rw [hS1] at e2; exact e1.trans e2
 refine ⟨rfl, w1.heap.size, ?_, hF1.trans (HDD.out.1.frF hm _ (fun b _ hb _ => Below.heap_setCell _ _ _ _ hb) (by simp) ⟨rfl, rfl, rfl⟩)⟩; refine HDD.out.1.setF hm _ (fun b _ hb _ => Below.heap_setCell _ _ _ _ hb) (by simp) ?_ ?_ (fun b hb => Or.inl hb)
 · rw [block_setCell hfile]
   simp
 · refine ownsRow_heap (HDD.out.1.row _ hm) (fun b hb => Below.heap_setCell _ _ _ _ (fun e => ?_))
   have h1 := HDD.out.1.rr _ hm b hb; have h2 := HDD.out.1.rf _ hm; rw [e] at h1; rw [h1] at h2; cases h2
theorem info5b : (Tryz.prog.info? 5).map (fun i => (i.zero, i.size, i.bytes)) = some (some (.int .u8 0), 1, 1) := by kernel_rfl
theorem info5c : ∃ i, Tryz.prog.info? 5 = some i ∧ i.zero = some (.int .u8 0) ∧ i.size = 1 ∧ i.bytes = 1 := by
 have := info5b; cases h : Tryz.prog.info? 5 with
 | none => rw [h] at this; cases this
 | some i =>
   rw [h] at this; simp at this; exact ⟨i, rfl, this.1, this.2.1, this.2.2⟩
/-- Bytes that lie in memory. -/
def BytesV (w : World) (v : Value) (bs : List Int) : Prop := (v = .slice none 0 0 ∧ bs = []) ∨ ∃ ad cap, v = .slice (some ad) bs.length cap ∧ ∀ j u, (vB bs)[j]? = some u → w.cell? (ad.add j) = some u
theorem vB_length (bs : List Int) : (vB bs).length = bs.length := by simp [vB]
/-- Where a slice's members lie, if it has any. -/
def dBlock (v : Value) (l : List Int) : Option Nat := if l.isEmpty then none else v.ownBlock
theorem dBlock_here {v : Value} {l : List Int} {j : Nat} {x : Int} (h : l[j]? = some x) : dBlock v l = v.ownBlock := by
 cases l with
 | nil => simp at h
 | cons a l => rfl
theorem dBlock_vB {v : Value} {l : List Int} {j : Nat} {u : Value} (h : (vB l)[j]? = some u) : dBlock v l = v.ownBlock := by
 cases l with
 | nil => simp [vB] at h
 | cons a l => rfl
theorem vB_one (bs : List Int) : ∀ u ∈ vB bs, u.oneCell' = true := by
 intro u hu; obtain ⟨x, _, rfl⟩ := List.mem_map.1 hu; rfl
theorem vB_append (a b : List Int) : vB (a ++ b) = vB a ++ vB b := by simp [vB]
theorem BytesV.of_own {w : World} {base : Nat} {v : Value} {bs : List Int} (h : w.ownsRow base 5 1 v bs.length (vB bs)) : BytesV w v bs := by
 rcases h.2 with ⟨rfl, h0⟩ | ⟨g, cap, cur, rfl, _⟩
 · exact Or.inl ⟨rfl, List.eq_nil_of_length_eq_zero h0⟩
 · exact Or.inr ⟨⟨g, 0, none⟩, cap, rfl, fun j u hu => h.cells (g := g) rfl j u hu⟩
theorem cell_lt {w : World} {p : Addr} {v : Value} (h : w.cell? p = some v) : p.block < w.heap.size := by
 rcases Nat.lt_or_ge p.block w.heap.size with h1 | h1
 · exact h1
 · have : w.heap[p.block]? = none := Array.getElem?_eq_none h1
   simp [World.cell?, this] at h
theorem BytesV.below {w w' : World} {v : Value} {bs : List Int} (h : BytesV w v bs) (hb : Below w.heap.size w w') : BytesV w' v bs := by
 rcases h with h | ⟨ad, cap, rfl, hc⟩
 · exact Or.inl h
 · exact Or.inr ⟨ad, cap, rfl, fun j u hu => (hb.cell (cell_lt (hc j u hu))).trans (hc j u hu)⟩
/-- append(v, x...) of bytes. -/
theorem wpList_append_b {w : World} {ops : Array Oper} {rest : List Oper} {o : Oper} {a : Act} {Q : Exit → Act → World → Prop} (hgd : o.guard = none) (s x : Operand)
 (ho : o.op = .call { callee := .builtin .append, args := #[s, x], argTypes := #[23, 23] }) (base : Nat)
 (v u : Value) (bs news : List Int) (hs : a.eval s = v) (hown : w.ownsRow base 5 1 v bs.length (vB bs)) (hx : a.eval x = u) (hn : BytesV w u news)
 (hbytes : bs.length + news.length ≤ 140737488355328) (hbase : base ≤ w.heap.size)
 (h : ∀ v' w', w'.ownsRow base 5 1 v' (bs ++ news).length (vB (bs ++ news)) → w.grownBy w' v.ownBlock → (v'.ownBlock = v.ownBlock ∨ v'.ownBlock = some w.heap.size) → wpList Tryz.prog ops Q rest (a.put o.dst v') w') : wpList Tryz.prog ops Q (o :: rest) a w := by
 obtain ⟨i0, hi, hz0, hz1, hz2⟩ := info5c; rcases hn with ⟨rfl, rfl⟩ | ⟨ad, cap, rfl, hc⟩
 · refine wpList_append_own_none hgd s x 23 ho base 5 i0 1 Tryz.underlying23 hi v bs.length (vB bs) hs hown hx ?_
   exact h v w (by simpa using hown) (World.grownBy.refl _ _) (Or.inl rfl)
 · refine wpList_append_own_at w hgd s x 23 ho base 5 i0 (.int .u8 0) 1 1 Tryz.underlying23 hi hz0 hz1 hz2 rfl (by decide) v bs.length (vB bs) hs hown ad news.length cap (vB news) hx (by rw [vB_length, Nat.mul_one]) hc (vB_one news) (by unfold maxLen; omega) (by omega) hbase (fun v' w' a b _ d => h v' w' ?_ b d)
   rw [List.length_append, vB_append]; exact a
set_option maxHeartbeats 4000000 in
/-- (*file).cut -/
theorem cut_any {w : World} {g : Nat} {a : Option Addr} {len cap : Nat} {sf : Int} (hb : w.heap[g]? = some (.cells #[.slice a len cap, .int .i64 sf] 116)) (n : Nat) (hn : n ≤ len) (hlc : len ≤ cap) (hm : cap ≤ 9223372036854775807) (ha : a = none → cap = 0) :
 Calls Tryz.prog 56 #[.pointer (some ⟨g, 0, none⟩), .int .i64 n] w fun e w' => e = .returned (.tuple #[]) ∧ w' = (w.setCell ⟨g, 0, none⟩ (.slice a n cap)).setCell ⟨g, 1, none⟩ (.int .i64 n) := by
 have c0 : w.cell? ⟨g, 0, none⟩ = some (.slice a len cap) := by rw [cell_of_block hb]; rfl
 have c1 : w.cell? ⟨g, 1, none⟩ = some (.int .i64 sf) := by rw [cell_of_block hb]; rfl
 have f0 : w.frozen? ⟨g, 0, none⟩ = false := unfrozen_of_block hb 0; have f1 : w.frozen? ⟨g, 1, none⟩ = false := unfrozen_of_block hb 1; have hnc : (n : Int) ≤ cap := by omega
 go_enter Tryz.func56, Tryz.ntmps56
 go_wp2; go_end0
 exact ⟨rfl, rfl⟩
set_option maxHeartbeats 4000000 in
/-- slices.Clone of bytes -/
theorem clone_any {w : World} {v : Value} {bs : List Int} (h : BytesV w v bs) (hl : bs.length ≤ 140737488355328) :
 Calls Tryz.prog 131 #[v] w fun e w' => ∃ v', e = .returned v' ∧ w'.ownsRow w.heap.size 5 1 v' bs.length (vB bs) ∧ Below w.heap.size w w' := by
 have HL : Hid (bs.length ≤ 140737488355328) := hl; clear hl; rcases h with ⟨rfl, rfl⟩ | ⟨ad, cap, rfl, hc⟩
 · clear HL
   have he : ∀ w : World, (binOp .eql 23 (.slice none 0 0) (.slice none 0 0)).run Tryz.prog w = .ok (.bool true) w := fun _ => by kernel_rfl
   go_enter Tryz.func131, Tryz.ntmps131
   go_wp2; go_ret
   exact ⟨_, rfl, World.ownsRow_nil _ _ _ _, Below.refl _ _⟩
 · have HC : Hid _ := hc
   clear hc; have he : ∀ w : World, (binOp .eql 23 (.slice (some ad) bs.length cap) (.slice none 0 0)).run Tryz.prog w = .ok (.bool false) w := fun _ => by kernel_rfl
   go_enter Tryz.func131, Tryz.ntmps131
   go_wp2_with (first
    | (at_builtin; refine wpList_append_b rfl _ _ rfl w.heap.size (.slice (some ⟨w.heap.size, 0, none⟩) 0 0) (.slice (some ad) bs.length cap) [] bs rfl ?_ rfl ?_ ?_ ?_ ?_))
   · exact ⟨rfl, Or.inr ⟨w.heap.size, 0, #[], rfl, Nat.le_refl _, heap_alloc_new _ _, Nat.le_refl _, by decide, rfl, rfl⟩⟩
   · exact BytesV.below (Or.inr ⟨ad, cap, rfl, HC.out⟩) (by go_grown)
   · have := HL.out
     simpa using this
   · simp
   · intro v' w' ho hg ha
     go_wp2; go_ret
     refine ⟨v', rfl, ho, ?_⟩; exact ((Below.refl _ w).alloc (Nat.le_refl _) _).grown hg (by simp) (fun g e => by cases e; exact Nat.le_refl _)
set_option maxHeartbeats 4000000 in
/-- (*Disk).Read, of a file that is there -/
theorem read_ok {w : World} {bd : Nat} {S : DS} (h : DiskIs w bd S) (hc : Cnt S) (s : ByteArray) (hs : s.size ≤ 9223372036854775807) {g : Nat} (hf : findV S [s] = some g) (hlen : ((stepS S [s]).fl s.data.toList).bs.length ≤ 140737488355328) :
 Calls Tryz.prog 106 #[.pointer (some ⟨bd, 0, none⟩), .string s] w fun e w' => ∃ v', e = .returned (.tuple #[v', .int .i64 0]) ∧ w'.ownsRow 0 5 1 v' ((stepS S [s]).fl s.data.toList).bs.length (vB ((stepS S [s]).fl s.data.toList).bs) ∧ (∀ b, v'.ownBlock = some b → w.heap.size ≤ b ∧ S.role b = .none) ∧ DiskIs w' bd (stepS S [s]) ∧ Fr w w' S (stepS S [s]) := by
 have HD : Hid (DiskIs w bd S ∧ Cnt S) := ⟨h, hc⟩
 have h1 := h.below (w' := w.alloc (.cells #[.string s] 9)) (by go_grown); have hn := names_one w s hs; have hlt := h.lt; have hE : findE S [s] = 0 := by
  unfold findE; rw [hf]; unfold findV at hf; split at hf
  · rename_i h0; simp [h0]
  · cases hf
 have HX : Hid (DiskIs (w.alloc (.cells #[.string s] 9)) bd S ∧ Names (w.alloc (.cells #[.string s] 9)) w.heap.size [s]) := ⟨h1, hn⟩
 have hm := findV_step hf; generalize hS1 : stepS S [s] = S1 at *; have HL : Hid ((S1.fl s.data.toList).bs.length ≤ 140737488355328) := hlen; clear h1 hn h hc hlen; go_enter Tryz.func106, Tryz.ntmps106; go_wp2_with (first
  | (go_at_call 120
     refine (find_any HX.out.1 HD.out.2 w.heap.size 1 s [] HX.out.2 (by simp) (by omega) (by simp)).mono ?_; rw [hf, hE, hS1, show pv (some g) = .pointer (some ⟨g, 0, none⟩) from rfl]; rintro e w1 ⟨rfl, hD1, hG1, hZ1⟩; have HDD : Hid (DiskIs w1 bd S1 ∧ (w.alloc (.cells #[.string s] 9)).grownBy w1 (some bd)) := ⟨hD1, hG1⟩
     have hfile := hD1.file _ hm; have c0 : w1.cell? ⟨g, 0, none⟩ = some (S1.fl s.data.toList).sl := by rw [cell_of_block hfile]; rfl
     have hrow := BytesV.of_own (hD1.row _ hm); have HR : Hid (BytesV w1 (S1.fl s.data.toList).sl (S1.fl s.data.toList).bs) := hrow; clear hfile hD1 hG1 hrow)
  | (go_at_call 131
     refine (clone_any HR.out HL.out).mono ?_; rintro e w2 ⟨v', rfl, ho, hb⟩)
  | go_in)
 go_returns
 have hF1 : Fr w w1 S S1 := by
  have e1 : Fr w (w.alloc (.cells #[.string s] 9)) S S := Fr.below (by go_grown); have e2 := HX.out.1.frG HDD.out.2 [s]; rw [hS1] at e2; exact e1.trans e2
 refine ⟨v', rfl, ownsRow_le ho (Nat.zero_le _), fun b hbb => ?_, HDD.out.1.below hb, hF1.trans (Fr.below hb)⟩; have h1 := (ho.lt b hbb).1; have h2 := hF1.size; exact ⟨by omega, HD.out.1.fresh b (by omega)⟩
end Go.Proofs.YtconkienlcegaaaGreatDoor
