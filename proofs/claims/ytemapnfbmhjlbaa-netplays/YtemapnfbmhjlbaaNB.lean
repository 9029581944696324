/- net: bytes in memory; bytes.Clone. -/
import Derived.Test.YtemapnfbmhjlbaaNA
import Derived.WalkKit
import Derived.WalkSpells
import Derived.StillTactics
import Derived.Laws.Pointers
import Derived.Deep.RegionHeld3
import Derived.RowKit3
import Derived.Handy
import Derived.BigQuiet
import Derived.Deep.QuietTactic
import Derived.Lib.SmallJoins
import Derived.Maps.AppendAt
import Derived.Laws.AppendOwnNone
import Derived.OwnWalk
namespace Go.Proofs.Ytemapnfbmhjlbaa
open Go.RowKit Go.Maps Go.Joins
set_option linter.unusedSimpArgs false
set_option linter.unusedVariables false
theorem info5b : (Try.prog.info? 5).map (fun i => (i.zero, i.size, i.bytes)) = some (some (.int .u8 0), 1, 1) := by kernel_rfl
theorem info5c : ∃ i, Try.prog.info? 5 = some i ∧ i.zero = some (.int .u8 0) ∧ i.size = 1 ∧ i.bytes = 1 := by
  have := info5b
  cases h : Try.prog.info? 5 with
  | none => rw [h] at this; cases this
  | some i =>
    rw [h] at this
    simp at this
    exact ⟨i, rfl, this.1, this.2.1, this.2.2⟩
theorem row_form {w : World} {base size n : Nat} {e : TypeId} {v : Value} {xs : List Value} (h : w.ownsRow base e size v n xs) : ∃ a cap, v = .slice a n cap := by
  rcases h.2 with ⟨rfl, rfl⟩ | ⟨g, cap, cur, rfl, _⟩
  · exact ⟨_, _, rfl⟩
  · exact ⟨_, _, rfl⟩
theorem row_cap {w : World} {base size n : Nat} {e : TypeId} {v : Value} {xs : List Value} (h : w.ownsRow base e size v n xs) : ∃ a cap, v = .slice a n cap ∧ n ≤ cap ∧ cap ≤ 9223372036854775807 ∧ (a = none → cap = 0) ∧ ∀ ad, a = some ad → ∃ g, ad = ⟨g, 0, none⟩ := by
  rcases h.2 with ⟨rfl, rfl⟩ | ⟨g, cap, cur, rfl, _, _, h1, h2, _⟩
  · exact ⟨_, _, rfl, Nat.le_refl _, by omega, fun _ => rfl, fun ad h => (by cases h)⟩
  · exact ⟨_, _, rfl, h1, by unfold maxLen at h2; omega, fun h => (by cases h), fun ad h => (by cases h; exact ⟨g, rfl⟩)⟩
theorem ownsRow_heap {w w' : World} {base size n : Nat} {e : TypeId} {v : Value} {xs : List Value} (h : w.ownsRow base e size v n xs) (hk : ∀ b, v.ownBlock = some b → w'.heap[b]? = w.heap[b]?) : w'.ownsRow base e size v n xs := by
  obtain ⟨h1, h2⟩ := h
  refine ⟨h1, ?_⟩
  rcases h2 with h2 | ⟨g, cap, cur, rfl, hb, hg, hr⟩
  · exact Or.inl h2
  · exact Or.inr ⟨g, cap, cur, rfl, hb, (hk g rfl).trans hg, hr⟩
theorem heap_lt {w : World} {b : Nat} {o : Obj} (h : w.heap[b]? = some o) : b < w.heap.size := (Array.getElem?_eq_some_iff.1 h).1
theorem cell_lt {w : World} {p : Addr} {v : Value} (h : w.cell? p = some v) : p.block < w.heap.size := by
  rcases Nat.lt_or_ge p.block w.heap.size with h1 | h1
  · exact h1
  · have : w.heap[p.block]? = none := Array.getElem?_eq_none h1
    simp [World.cell?, this] at h
def vB (bs : List Int) : List Value := bs.map (Value.int .u8)
theorem vB_length (bs : List Int) : (vB bs).length = bs.length := by simp [vB]
theorem vB_append (a b : List Int) : vB (a ++ b) = vB a ++ vB b := by simp [vB]
theorem vB_one (bs : List Int) : ∀ u ∈ vB bs, u.oneCell' = true := by
  intro u hu
  obtain ⟨x, _, rfl⟩ := List.mem_map.1 hu
  rfl
/-- Bytes that lie in memory. -/
def BytesV (w : World) (v : Value) (bs : List Int) : Prop := (v = .slice none 0 0 ∧ bs = []) ∨ ∃ ad cap, v = .slice (some ad) bs.length cap ∧ ∀ j u, (vB bs)[j]? = some u → w.cell? (ad.add j) = some u
/-- Where a slice's members lie, if it has any. -/
def dBlock (v : Value) (n : Nat) : Option Nat := if n = 0 then none else v.ownBlock
theorem dBlock_own {v : Value} {n b : Nat} (h : dBlock v n = some b) : v.ownBlock = some b := by
  unfold dBlock at h
  split at h
  · cases h
  · exact h
theorem BytesV.of_own {w : World} {base : Nat} {v : Value} {bs : List Int} (h : w.ownsRow base 5 1 v bs.length (vB bs)) : BytesV w v bs := by
  rcases h.2 with ⟨rfl, h0⟩ | ⟨g, cap, cur, rfl, _⟩
  · exact Or.inl ⟨rfl, List.eq_nil_of_length_eq_zero h0⟩
  · exact Or.inr ⟨⟨g, 0, none⟩, cap, rfl, fun j u hu => h.cells (g := g) rfl j u hu⟩
theorem BytesV.below {w w' : World} {v : Value} {bs : List Int} (h : BytesV w v bs) (hb : Below w.heap.size w w') : BytesV w' v bs := by
  rcases h with h | ⟨ad, cap, rfl, hc⟩
  · exact Or.inl h
  · exact Or.inr ⟨ad, cap, rfl, fun j u hu => (hb.cell (cell_lt (hc j u hu))).trans (hc j u hu)⟩
theorem BytesV.kept {w w' : World} {v : Value} {bs : List Int} (h : BytesV w v bs) (hk : ∀ b, dBlock v bs.length = some b → w'.heap[b]? = w.heap[b]?) : BytesV w' v bs := by
  rcases h with h | ⟨ad, cap, rfl, hc⟩
  · exact Or.inl h
  · refine Or.inr ⟨ad, cap, rfl, fun j u hu => ?_⟩
    have hl : bs.length ≠ 0 := by
      have := (List.getElem?_eq_some_iff.1 hu).1
      rw [vB_length] at this
      omega
    have hb := hk ad.block (by unfold dBlock; rw [if_neg hl]; rfl)
    have e : (ad.add j).block = ad.block := by unfold Addr.add; split <;> rfl
    have e2 : w'.cell? (ad.add j) = w.cell? (ad.add j) := World.cell?_of_block (by rw [e]; exact hb)
    rw [e2]
    exact hc j u hu
theorem BytesV.at {w : World} {va : Option Addr} {n vc : Nat} {bs : List Int} (h : BytesV w (.slice va n vc) bs) {k : Nat} {x : Int} (hk : bs[k]? = some x) : ∃ g o, va = some ⟨g, o, none⟩ ∧ w.cell? ⟨g, o + k, none⟩ = some (.int .u8 x) := by
  rcases h with ⟨_, rfl⟩ | ⟨ad, cap, e, hc⟩
  · simp at hk
  · injection e with e _ _
    obtain ⟨g, o, spot⟩ := ad
    obtain ⟨y, hy⟩ : ∃ y, bs[0]? = some y := ⟨_, List.getElem?_eq_getElem (by have := (List.getElem?_eq_some_iff.1 hk).1; omega)⟩
    have h0 := hc 0 (.int .u8 y) (by unfold vB; rw [List.getElem?_map, hy]; rfl)
    have hs : spot = none := by simpa [Addr.add] using World.cell?_spot h0
    subst hs
    have h1 := hc k (.int .u8 x) (by unfold vB; rw [List.getElem?_map, hk]; rfl)
    rw [Addr.add_lit] at h1
    exact ⟨g, o, e, h1⟩
theorem BytesV.len {w : World} {va : Option Addr} {n vc : Nat} {bs : List Int} (h : BytesV w (.slice va n vc) bs) : n = bs.length := by
  rcases h with ⟨e, rfl⟩ | ⟨ad, cap, e, _⟩
  · injection e
  · injection e
theorem BytesV.form {w : World} {v : Value} {bs : List Int} (h : BytesV w v bs) : ∃ a cap, v = .slice a bs.length cap := by
  rcases h with ⟨e, rfl⟩ | ⟨ad, cap, e, _⟩
  · exact ⟨_, _, e⟩
  · exact ⟨_, _, e⟩
/-- append(v, x...) of bytes. -/
theorem wpList_append_b {w : World} {ops : Array Oper} {rest : List Oper} {o : Oper} {a : Act} {Q : Exit → Act → World → Prop} (hgd : o.guard = none) (s x : Operand)
    (ho : o.op = .call { callee := .builtin .append, args := #[s, x], argTypes := #[30, 30] }) (base : Nat)
    (v u : Value) (bs news : List Int) (hs : a.eval s = v) (hown : w.ownsRow base 5 1 v bs.length (vB bs)) (hx : a.eval x = u) (hn : BytesV w u news)
    (hbytes : bs.length + news.length ≤ 140737488355328) (hbase : base ≤ w.heap.size)
    (h : ∀ v' w', w'.ownsRow base 5 1 v' (bs ++ news).length (vB (bs ++ news)) → w.grownBy w' v.ownBlock → (v'.ownBlock = v.ownBlock ∨ v'.ownBlock = some w.heap.size) → wpList Try.prog ops Q rest (a.put o.dst v') w') : wpList Try.prog ops Q (o :: rest) a w := by
  obtain ⟨i0, hi, hz0, hz1, hz2⟩ := info5c
  rcases hn with ⟨rfl, rfl⟩ | ⟨ad, cap, rfl, hc⟩
  · refine wpList_append_own_none hgd s x 30 ho base 5 i0 1 Try.underlying30 hi v bs.length (vB bs) hs hown hx ?_
    exact h v w (by simpa using hown) (World.grownBy.refl _ _) (Or.inl rfl)
  · refine wpList_append_own_at w hgd s x 30 ho base 5 i0 (.int .u8 0) 1 1 Try.underlying30 hi hz0 hz1 hz2 rfl (by decide) v bs.length (vB bs) hs hown ad news.length cap (vB news) hx (by rw [vB_length, Nat.mul_one]) hc (vB_one news) (by unfold maxLen; omega) (by omega) hbase (fun v' w' a b _ d => h v' w' ?_ b d)
    rw [List.length_append, vB_append]
    exact a
set_option maxRecDepth 100000 in
set_option maxHeartbeats 4000000 in
/-- bytes.Clone -/
theorem bclone_any {w : World} (v : Value) (bs : List Int) (hv : BytesV w v bs) (hl : bs.length ≤ 140737488355328) :
    Calls Try.prog 47 #[v] w fun e w' => ∃ v', e = .returned v' ∧ w'.ownsRow w.heap.size 5 1 v' bs.length (vB bs) ∧ Below w.heap.size w w' := by
  rcases hv with ⟨rfl, rfl⟩ | ⟨ad, cap, rfl, hc⟩
  · have he : ∀ w : World, (binOp .eql 30 (.slice none 0 0) (.slice none 0 0) : Sem Value).run Try.prog w = .ok (.bool true) w := fun w => by kernel_rfl
    go_enter Try.func47, Try.ntmps47
    go_wp2
    go_ret
    exact ⟨_, rfl, World.ownsRow_nil _ _ _ _, Below.refl _ _⟩
  · have HC : Hid (∀ j u, (vB bs)[j]? = some u → w.cell? (ad.add j) = some u) := hc
    clear hc
    have he : ∀ w : World, (binOp .eql 30 (.slice (some ad) bs.length cap) (.slice none 0 0) : Sem Value).run Try.prog w = .ok (.bool false) w := fun w => by kernel_rfl
    go_enter Try.func47, Try.ntmps47
    go_wp2_with (first
      | (at_builtin
         have ho0 : (w.alloc (.cells #[] 5)).ownsRow w.heap.size 5 1 (.slice (some ⟨w.heap.size, 0, none⟩) 0 0) ([] : List Int).length (vB []) := ⟨rfl, Or.inr ⟨w.heap.size, 0, #[], by simp, Nat.le_refl _, by have := heap_alloc_new w (.cells #[] 5); simpa using this, Nat.le_refl _, by decide, rfl, rfl⟩⟩
         refine wpList_append_b rfl _ _ rfl w.heap.size (.slice (some ⟨w.heap.size, 0, none⟩) 0 0) (.slice (some ad) bs.length cap) [] bs rfl ho0 rfl (Or.inr ⟨ad, cap, rfl, fun j u hu => (Below.cell (by go_grown) (cell_lt (HC.out j u hu))).trans (HC.out j u hu)⟩) (by simpa using hl) (by simp) ?_
         intro v' w2 ho hg ha
         rw [List.nil_append] at ho
         have H2 : Hid (w2.ownsRow w.heap.size 5 1 v' bs.length (vB bs) ∧ Below w.heap.size w w2) := ⟨ho, ((Below.refl _ w).alloc (Nat.le_refl _) _).grown hg (by simp) (fun j hj => by have h9 : w.heap.size = j := (by simpa [Value.ownBlock] using hj); omega)⟩
         clear ho hg ha ho0))
    go_ret
    exact ⟨v', rfl, H2.out⟩
theorem el30 : Try.prog.underlying 30 = some (.slice (Try.prog.elem 30)) := by kernel_rfl
theorem sz30 (w : World) : (sizeOf (Try.prog.elem 30)).run Try.prog w = .ok 1 w := by kernel_rfl
theorem slL2 (w : World) (g o n vc l : Nat) (L : Int) (hL : L = l) (hl : l ≤ n) : (Instr.slice 30 (.slice (some ⟨g, o, none⟩) n vc) (some (.int .i64 L)) none none).run Try.prog w = .ok (.slice (some ⟨g, if vc = l then o else o + l, none⟩) (n - l) (vc - l)) w := by
  subst hL
  rw [run_slice_l w 30 _ n vc el30 .i64 l (by omega) (by omega), sz30]
  by_cases e : vc = l
  · simp [Result.andThen, sliced, e]
  · simp [Result.andThen, sliced, e, Addr.add_lit]
theorem slH (w : World) (g o n vc h : Nat) (H : Int) (hH : H = h) (hc : h ≤ vc) (h0 : 0 < vc) : (Instr.slice 30 (.slice (some ⟨g, o, none⟩) n vc) none (some (.int .i64 H)) none).run Try.prog w = .ok (.slice (some ⟨g, o, none⟩) h vc) w := by
  subst hH
  rw [run_slice_h w 30 _ n vc el30 .i64 h (by omega) (by omega), sz30]
  have : ¬ vc = 0 := by omega
  simp [Result.andThen, sliced, this, Addr.add]
theorem slLH (w : World) (g o n vc l h : Nat) (L H : Int) (hL : L = l) (hH : H = h) (h1 : l ≤ h) (hc : h ≤ vc) : (Instr.slice 30 (.slice (some ⟨g, o, none⟩) n vc) (some (.int .i64 L)) (some (.int .i64 H)) none).run Try.prog w = .ok (.slice (some ⟨g, if vc = l then o else o + l, none⟩) (h - l) (vc - l)) w := by
  subst hL hH
  rw [run_slice_lh w 30 _ n vc el30 .i64 .i64 l h (by omega) (by omega) (by omega), sz30]
  by_cases e : vc = l
  · simp [Result.andThen, sliced, e]
  · simp [Result.andThen, sliced, e, Addr.add_lit]
/-- A part of a slice of bytes. -/
theorem BytesV.part {w : World} {g o n vc : Nat} {bs : List Int} (h : BytesV w (.slice (some ⟨g, o, none⟩) n vc) bs) (i l c : Nat) (hl : i + l ≤ bs.length) : BytesV w (.slice (some ⟨g, o + i, none⟩) l c) ((bs.drop i).take l) := by
  have hlen : ((bs.drop i).take l).length = l := by rw [List.length_take, List.length_drop]; omega
  refine Or.inr ⟨⟨g, o + i, none⟩, c, by rw [hlen], fun j u hu => ?_⟩
  have hj : j < l := by
    have := (List.getElem?_eq_some_iff.1 hu).1
    rw [vB_length, hlen] at this
    exact this
  obtain ⟨x, hx⟩ : ∃ x, bs[i + j]? = some x := ⟨_, List.getElem?_eq_getElem (by omega)⟩
  obtain ⟨_, _, e, hc⟩ := h.at hx
  injection e with e
  injection e with e1 e2 _
  subst e1 e2
  have hu' : u = .int .u8 x := by
    unfold vB at hu
    rw [List.getElem?_map, List.getElem?_take, if_pos hj, List.getElem?_drop, hx] at hu
    injection hu with hu
    exact hu.symm
  rw [Addr.add_lit, hu', Nat.add_assoc]
  exact hc
/-- A slice without a member is nothing, wherever it lies. -/
theorem BytesV.empty (w : World) (a : Option Addr) (c : Nat) (h : a = none → c = 0) : BytesV w (.slice a 0 c) [] := by
  cases a with
  | none => rw [h rfl]; exact Or.inl ⟨rfl, rfl⟩
  | some ad => exact Or.inr ⟨ad, c, rfl, fun j u hu => by simp [vB] at hu⟩
end Go.Proofs.Ytemapnfbmhjlbaa
