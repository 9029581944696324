/- disk: cut, Clone, Read. -/
import Derived.Test.YtllkpnlgemjgfaaDF
import Derived.Maps.AppendAt
import Derived.Laws.AppendOwnNone
import Derived.OwnWalk
namespace Go.Proofs.Ytllkpnlgemjgfaa
open Go.RowKit Go.Maps Go.Joins
set_option linter.unusedSimpArgs false
set_option linter.unusedVariables false
theorem info5b : (Try.prog.info? 5).map (fun i => (i.zero, i.size, i.bytes)) = some (some (.int .u8 0), 1, 1) := by kernel_rfl
theorem info5c : ∃ i, Try.prog.info? 5 = some i ∧ i.zero = some (.int .u8 0) ∧ i.size = 1 ∧ i.bytes = 1 := by
  have := info5b
  cases h : Try.prog.info? 5 with
  | none => rw [h] at this; cases this
  | some i =>
    rw [h] at this
    simp at this
    exact ⟨i, rfl, this.1, this.2.1, this.2.2⟩
/-- Bytes that lie in memory. -/
def BytesV (w : World) (v : Value) (bs : List Int) : Prop := (v = .slice none 0 0 ∧ bs = []) ∨ ∃ ad cap, v = .slice (some ad) bs.length cap ∧ ∀ j u, (vB bs)[j]? = some u → w.cell? (ad.add j) = some u
theorem vB_length (bs : List Int) : (vB bs).length = bs.length := by simp [vB]
/-- Where a slice's members lie, if it has any. -/
def dBlock (v : Value) (l : List Int) : Option Nat := if l.isEmpty then none else v.ownBlock
theorem dBlock_here {v : Value} {l : List Int} {j : Nat} {x : Int} (h : l[j]? = some x) : dBlock v l = v.ownBlock := by
  cases l with
  | nil => simp at h
  | cons a l => rfl
theorem dBlock_vB {v : Value} {l : List Int} {j : Nat} {u : Value} (h : (vB l)[j]? = some u) : dBlock v l = v.ownBlock := by
  cases l with
  | nil => simp [vB] at h
  | cons a l => rfl
theorem dBlock_own {v : Value} {l : List Int} {b : Nat} (h : dBlock v l = some b) : v.ownBlock = some b := by
  cases l with
  | nil => simp [dBlock] at h
  | cons a l => exact h
theorem vB_one (bs : List Int) : ∀ u ∈ vB bs, u.oneCell' = true := by
  intro u hu
  obtain ⟨x, _, rfl⟩ := List.mem_map.1 hu
  rfl
theorem vB_append (a b : List Int) : vB (a ++ b) = vB a ++ vB b := by simp [vB]
theorem BytesV.of_own {w : World} {base : Nat} {v : Value} {bs : List Int} (h : w.ownsRow base 5 1 v bs.length (vB bs)) : BytesV w v bs := by
  rcases h.2 with ⟨rfl, h0⟩ | ⟨g, cap, cur, rfl, _⟩
  · exact Or.inl ⟨rfl, List.eq_nil_of_length_eq_zero h0⟩
  · exact Or.inr ⟨⟨g, 0, none⟩, cap, rfl, fun j u hu => h.cells (g := g) rfl j u hu⟩
theorem cell_lt {w : World} {p : Addr} {v : Value} (h : w.cell? p = some v) : p.block < w.heap.size := by
  rcases Nat.lt_or_ge p.block w.heap.size with h1 | h1
  · exact h1
  · have : w.heap[p.block]? = none := Array.getElem?_eq_none h1
    simp [World.cell?, this] at h
theorem BytesV.below {w w' : World} {v : Value} {bs : List Int} (h : BytesV w v bs) (hb : Below w.heap.size w w') : BytesV w' v bs := by
  rcases h with h | ⟨ad, cap, rfl, hc⟩
  · exact Or.inl h
  · exact Or.inr ⟨ad, cap, rfl, fun j u hu => (hb.cell (cell_lt (hc j u hu))).trans (hc j u hu)⟩
/-- append(v, x...) of bytes. -/
theorem wpList_append_b {w : World} {ops : Array Oper} {rest : List Oper} {o : Oper} {a : Act} {Q : Exit → Act → World → Prop} (hgd : o.guard = none) (s x : Operand)
    (ho : o.op = .call { callee := .builtin .append, args := #[s, x], argTypes := #[31, 31] }) (base : Nat)
    (v u : Value) (bs news : List Int) (hs : a.eval s = v) (hown : w.ownsRow base 5 1 v bs.length (vB bs)) (hx : a.eval x = u) (hn : BytesV w u news)
    (hbytes : bs.length + news.length ≤ 140737488355328) (hbase : base ≤ w.heap.size)
    (h : ∀ v' w', w'.ownsRow base 5 1 v' (bs ++ news).length (vB (bs ++ news)) → w.grownBy w' v.ownBlock → (v'.ownBlock = v.ownBlock ∨ v'.ownBlock = some w.heap.size) → wpList Try.prog ops Q rest (a.put o.dst v') w') : wpList Try.prog ops Q (o :: rest) a w := by
  obtain ⟨i0, hi, hz0, hz1, hz2⟩ := info5c
  rcases hn with ⟨rfl, rfl⟩ | ⟨ad, cap, rfl, hc⟩
  · refine wpList_append_own_none hgd s x 31 ho base 5 i0 1 Try.underlying31 hi v bs.length (vB bs) hs hown hx ?_
    exact h v w (by simpa using hown) (World.grownBy.refl _ _) (Or.inl rfl)
  · refine wpList_append_own_at w hgd s x 31 ho base 5 i0 (.int .u8 0) 1 1 Try.underlying31 hi hz0 hz1 hz2 rfl (by decide) v bs.length (vB bs) hs hown ad news.length cap (vB news) hx (by rw [vB_length, Nat.mul_one]) hc (vB_one news) (by unfold maxLen; omega) (by omega) hbase (fun v' w' a b _ d => h v' w' ?_ b d)
    rw [List.length_append, vB_append]
    exact a
set_option maxHeartbeats 4000000 in
/-- (*file).cut -/
theorem cut_any {w : World} {g : Nat} {a : Option Addr} {len cap : Nat} {sf : Int} (hb : w.heap[g]? = some (.cells #[.slice a len cap, .int .i64 sf] 69)) (n : Nat) (hn : n ≤ len) (hlc : len ≤ cap) (hm : cap ≤ 9223372036854775807) (ha : a = none → cap = 0) :
    Calls Try.prog 44 #[.pointer (some ⟨g, 0, none⟩), .int .i64 n] w fun e w' => e = .returned (.tuple #[]) ∧ w' = (w.setCell ⟨g, 0, none⟩ (.slice a n cap)).setCell ⟨g, 1, none⟩ (.int .i64 n) := by
  have c0 : w.cell? ⟨g, 0, none⟩ = some (.slice a len cap) := by rw [cell_of_block hb]; rfl
  have c1 : w.cell? ⟨g, 1, none⟩ = some (.int .i64 sf) := by rw [cell_of_block hb]; rfl
  have f0 : w.frozen? ⟨g, 0, none⟩ = false := unfrozen_of_block hb 0
  have f1 : w.frozen? ⟨g, 1, none⟩ = false := unfrozen_of_block hb 1
  have hnc : (n : Int) ≤ cap := by omega
  go_enter Try.func44, Try.ntmps44
  go_wp2
  go_end0
  exact ⟨rfl, rfl⟩
set_option maxHeartbeats 4000000 in
/-- slices.Clone of bytes -/
theorem clone_any {w : World} {v : Value} {bs : List Int} (h : BytesV w v bs) (hl : bs.length ≤ 140737488355328) :
    Calls Try.prog 45 #[v] w fun e w' => ∃ v', e = .returned v' ∧ w'.ownsRow w.heap.size 5 1 v' bs.length (vB bs) ∧ Below w.heap.size w w' := by
  have HL : Hid (bs.length ≤ 140737488355328) := hl
  clear hl
  rcases h with ⟨rfl, rfl⟩ | ⟨ad, cap, rfl, hc⟩
  · clear HL
    have he : ∀ w : World, (binOp .eql 31 (.slice none 0 0) (.slice none 0 0)).run Try.prog w = .ok (.bool true) w := fun _ => by kernel_rfl
    go_enter Try.func45, Try.ntmps45
    go_wp2
    go_ret
    exact ⟨_, rfl, World.ownsRow_nil _ _ _ _, Below.refl _ _⟩
  · have HC : Hid _ := hc
    clear hc
    have he : ∀ w : World, (binOp .eql 31 (.slice (some ad) bs.length cap) (.slice none 0 0)).run Try.prog w = .ok (.bool false) w := fun _ => by kernel_rfl
    go_enter Try.func45, Try.ntmps45
    go_wp2_with (first
      | (at_builtin; refine wpList_append_b rfl _ _ rfl w.heap.size (.slice (some ⟨w.heap.size, 0, none⟩) 0 0) (.slice (some ad) bs.length cap) [] bs rfl ?_ rfl ?_ ?_ ?_ ?_))
    · exact ⟨rfl, Or.inr ⟨w.heap.size, 0, #[], rfl, Nat.le_refl _, heap_alloc_new _ _, Nat.le_refl _, by decide, rfl, rfl⟩⟩
    · exact BytesV.below (Or.inr ⟨ad, cap, rfl, HC.out⟩) (by go_grown)
    · have := HL.out
      simpa using this
    · simp
    · intro v' w' ho hg ha
      go_wp2
      go_ret
      refine ⟨v', rfl, ho, ?_⟩
      exact ((Below.refl _ w).alloc (Nat.le_refl _) _).grown hg (by simp) (fun g e => by cases e; exact Nat.le_refl _)
set_option maxHeartbeats 4000000 in
/-- (*Disk).Read, of a file that is there -/
theorem read_ok {w : World} {bd : Nat} {S : DS} (h : DiskIs w bd S) (hc : Cnt S) (s : ByteArray) (hs : s.size ≤ 9223372036854775807) {g : Nat} (hf : findV S [s] = some g) (hlen : ((stepS S [s]).fl s.data.toList).bs.length ≤ 140737488355328) :
    Calls Try.prog 19 #[.pointer (some ⟨bd, 0, none⟩), .string s] w fun e w' => ∃ v', e = .returned (.tuple #[v', .int .i64 0]) ∧ w'.ownsRow 0 5 1 v' ((stepS S [s]).fl s.data.toList).bs.length (vB ((stepS S [s]).fl s.data.toList).bs) ∧ (∀ b, v'.ownBlock = some b → w.heap.size ≤ b ∧ S.role b = .none) ∧ DiskIs w' bd (stepS S [s]) ∧ Fr w w' S (stepS S [s]) := by
  have HD : Hid (DiskIs w bd S ∧ Cnt S) := ⟨h, hc⟩
  have h1 := h.below (w' := w.alloc (.cells #[.string s] 9)) (by go_grown)
  have hn := names_one w s hs
  have hlt := h.lt
  have hE : findE S [s] = 0 := by
    unfold findE
    rw [hf]
    unfold findV at hf
    split at hf
    · rename_i h0; simp [h0]
    · cases hf
  have HX : Hid (DiskIs (w.alloc (.cells #[.string s] 9)) bd S ∧ Names (w.alloc (.cells #[.string s] 9)) w.heap.size [s]) := ⟨h1, hn⟩
  have hm := findV_step hf
  generalize hS1 : stepS S [s] = S1 at *
  have HL : Hid ((S1.fl s.data.toList).bs.length ≤ 140737488355328) := hlen
  clear h1 hn h hc hlen
  go_enter Try.func19, Try.ntmps19
  go_wp2_with (first
    | (go_at_call 39
       refine (find_any HX.out.1 HD.out.2 w.heap.size 1 s [] HX.out.2 (by simp) (by omega) (by simp)).mono ?_
       rw [hf, hE, hS1, show pv (some g) = .pointer (some ⟨g, 0, none⟩) from rfl]
       rintro e w1 ⟨rfl, hD1, hG1, hZ1⟩
       have HDD : Hid (DiskIs w1 bd S1 ∧ (w.alloc (.cells #[.string s] 9)).grownBy w1 (some bd)) := ⟨hD1, hG1⟩
       have hfile := hD1.file _ hm
       have c0 : w1.cell? ⟨g, 0, none⟩ = some (S1.fl s.data.toList).sl := by rw [cell_of_block hfile]; rfl
       have hrow := BytesV.of_own (hD1.row _ hm)
       have HR : Hid (BytesV w1 (S1.fl s.data.toList).sl (S1.fl s.data.toList).bs) := hrow
       clear hfile hD1 hG1 hrow)
    | (go_at_call 45
       refine (clone_any HR.out HL.out).mono ?_
       rintro e w2 ⟨v', rfl, ho, hb⟩)
    | go_in)
  go_returns
  have hF1 : Fr w w1 S S1 := by
    have e1 : Fr w (w.alloc (.cells #[.string s] 9)) S S := Fr.below (by go_grown)
    have e2 := HX.out.1.frG HDD.out.2 [s]
    rw [hS1] at e2
    exact e1.trans e2
  refine ⟨v', rfl, ownsRow_le ho (Nat.zero_le _), fun b hbb => ?_, HDD.out.1.below hb, hF1.trans (Fr.below hb)⟩
  have h1 := (ho.lt b hbb).1
  have h2 := hF1.size
  exact ⟨by omega, HD.out.1.fresh b (by omega)⟩
end Go.Proofs.Ytllkpnlgemjgfaa
