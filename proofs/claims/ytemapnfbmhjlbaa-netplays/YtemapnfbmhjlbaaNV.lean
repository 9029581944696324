/- net: where a new timer goes. -/
import Derived.Test.YtemapnfbmhjlbaaNM
import Derived.Shelf.SlSorted.Search
namespace Go.Proofs
open Go.Shelf
def Try.srch_ren : Go.Shelf.Ren := ⟨fun | 16 => 38 | n => n, fun | 35 => 83 | 38 => 108 | n => n, fun | n => n⟩
theorem Try.srch : Go.Proofs.SlLaysO.n16 Try.prog Try.srch_ren := {
  mixed := by kernel_rfl
  f16 := Try.func38.trans (congrArg some (by kernel_rfl))
  t3 := Try.underlying3
  a3 := Try.isAgg3
  z3 := Try.sizeOf3
  v3 := Try.zeroValue3
  t4 := Try.underlying4
  a4 := Try.isAgg4
  z4 := Try.sizeOf4
  v4 := Try.zeroValue4
  t35 := Try.underlying83
  a35 := Try.isAgg83
  z35 := Try.sizeOf83
  v35 := Try.zeroValue83
  t38 := Try.underlying108
  a38 := Try.isAgg108
  z38 := Try.sizeOf108
  v38 := Try.zeroValue108 }
end Go.Proofs
namespace Go.Proofs.Ytemapnfbmhjlbaa
open Go.RowKit Go.Maps Go.Joins Go.Sort
set_option linter.unusedSimpArgs false
set_option linter.unusedVariables false
set_option maxRecDepth 100000 in
set_option maxHeartbeats 4000000 in
theorem set1_any {W : World} {nb b tb g n c i : Nat} {T A : Int} (hi : i < n) (c0 : W.cell? ⟨nb, 0, none⟩ = some (.pointer (some ⟨b, 0, none⟩))) (c7 : W.cell? ⟨b, 7, none⟩ = some (.slice (some ⟨g, 0, none⟩) n c)) (ci : W.cell? ⟨g, i * 3 + 2, none⟩ = some (.int .i64 A)) (ct : W.cell? ⟨tb, 2, none⟩ = some (.int .i64 T)) :
    Calls Try.prog 39 #[.int .i64 i, .pointer (some ⟨nb, 0, none⟩), .pointer (some ⟨tb, 0, none⟩)] W fun e w' => e = .returned (.bool (decide (T < A))) ∧ ∃ m, w' = W.drewN m := by
  have hi' : (i : Int) < n := by omega
  go_enter Try.func39, Try.ntmps39
  go_wp2_with fail
  go_quiet (fail)
  go_wp2
  go_ret
  exact ⟨rfl, _, rfl⟩
/-- Timers that lie in memory. -/
structure TmV (w : World) (a : Option Addr) (l : List TM) : Prop where
  at_ : ∀ i t, l[i]? = some t → ∃ g o, a = some ⟨g, o, none⟩ ∧ w.cell? ⟨g, o + i * 3, none⟩ = some (.int .i64 t.nd) ∧ w.cell? ⟨g, o + i * 3 + 1, none⟩ = some (.int .i64 t.tg) ∧ w.cell? ⟨g, o + i * 3 + 2, none⟩ = some (.int .i64 t.at_)
theorem TmV.of {w : World} {base : Nat} {a : Option Addr} {n c : Nat} {l : List TM} (h : w.ownsRow base 63 3 (.slice a n c) l.length (tmL l)) : TmV w a l where
  at_ := fun i p hp => by
    rcases h.2 with ⟨e, h0⟩ | ⟨g, cap, cur, e, _, hg, _, _, _, ht⟩
    · rw [List.eq_nil_of_length_eq_zero h0] at hp; simp at hp
    · injection e with e1 e2 e3
      have hc : ∀ j u, (tmC p)[j]? = some u → w.cell? ⟨g, 0 + i * 3 + j, none⟩ = some u := fun j u hu => by
        have hj : j < 3 := by
          have := (List.getElem?_eq_some_iff.1 hu).1
          simpa [tmC] using this
        have := h.cells (g := g) (by rw [e1]; rfl) (i * 3 + j) u (by rw [tmL_at l i p hp j hj]; exact hu)
        rw [Addr.add_lit, ← Nat.add_assoc] at this
        exact this
      exact ⟨g, 0, e1, hc 0 _ rfl, hc 1 _ rfl, hc 2 _ rfl⟩
theorem TmV.below {w w' : World} {a : Option Addr} {l : List TM} (h : TmV w a l) (hb : Below w.heap.size w w') : TmV w' a l where
  at_ := fun i p hp => by
    obtain ⟨g, o, e, h0, h1, h2⟩ := h.at_ i p hp
    exact ⟨g, o, e, (hb.cell (cell_lt h0)).trans h0, (hb.cell (cell_lt h1)).trans h1, (hb.cell (cell_lt h2)).trans h2⟩
/-- The moments do not fall. -/
def Asc (l : List TM) : Prop := ∀ (i j : Nat) (p q : TM), l[i]? = some p → l[j]? = some q → i < j → p.at_ ≤ q.at_
/-- Where a timer of that moment goes. -/
def slot (l : List TM) (T : Int) : Nat := l.countP fun t => decide (t.at_ ≤ T)
theorem slot_le (l : List TM) (T : Int) : slot l T ≤ l.length := List.countP_le_length
theorem range_slot (l : List TM) (T : Int) : ((List.range l.length).countP fun i => !decide (T < ((l[i]?).map (·.at_)).getD 0)) = slot l T := by
  unfold slot
  have h : l = (List.range l.length).map (fun i => (l[i]?).getD ⟨0, 0, 0⟩) := by
    apply List.ext_getElem
    · simp
    · intro i h1 h2
      simp [h1]
  conv => rhs; rw [h]
  rw [List.countP_map]
  refine List.countP_congr fun i hi => ?_
  have hil : i < l.length := by simpa using hi
  rw [List.getElem?_eq_getElem hil]
  simp [List.getElem?_eq_getElem hil]
set_option maxRecDepth 100000 in
set_option maxHeartbeats 4000000 in
/-- sort.Search of a moment. -/
theorem srch_any {w : World} {nb b tb n c : Nat} {a : Option Addr} {T : Int} {l : List TM} (hn : n = l.length) (hl : l.length ≤ 1000000) (c0 : w.cell? ⟨nb, 0, none⟩ = some (.pointer (some ⟨b, 0, none⟩))) (c7 : w.cell? ⟨b, 7, none⟩ = some (.slice a n c)) (hv : TmV w a l) (ct : w.cell? ⟨tb, 2, none⟩ = some (.int .i64 T)) (hs : Asc l)
    (ha : ∀ ad, a = some ad → ∃ g, ad = ⟨g, 0, none⟩) :
    Calls Try.prog 38 #[.int .i64 n, .func (.func 39) #[] #[.pointer (some ⟨nb, 0, none⟩), .pointer (some ⟨tb, 0, none⟩)]] w fun e w' => e = .returned (.int .i64 (slot l T : Nat)) ∧ Below w.heap.size w w' := by
  have eg : ∀ (args : Array Value) (w : World), (callFunc 39 args).run Try.prog w = .ok (.enter 39 args) w := enters_of Try.func39 (by kernel_rfl) rfl
  have hS := Any.sort_Search Try.srch 39 #[.pointer (some ⟨nb, 0, none⟩), .pointer (some ⟨tb, 0, none⟩)] n (fun i => decide (T < ((l[i]?).map (·.at_)).getD 0)) w eg (by omega) (fun m os i hi => ?_) (fun x y hxy hy hx => ?_)
  · refine hS.mono ?_
    rintro e w' ⟨rfl, q, os, rfl⟩
    rw [hn, range_slot]
    exact ⟨rfl, below_grown_sl _ w q os (Nat.le_refl _)⟩
  · obtain ⟨t, ht⟩ : ∃ t, l[i]? = some t := ⟨_, List.getElem?_eq_getElem (by omega)⟩
    have hb := below_grown_sl w.heap.size w m os (Nat.le_refl _)
    obtain ⟨g, o, e1, k0, k1, k2⟩ := (hv.below hb).at_ i t ht
    obtain ⟨g', e2⟩ := ha _ e1
    injection e2 with e3 e4 _
    subst e4
    rw [Nat.zero_add] at k2
    rw [ht]
    refine (set1_any (n := n) (c := c) hi ((hb.cell (cell_lt c0)).trans c0) (by rw [← e1]; exact (hb.cell (cell_lt c7)).trans c7) k2 ((hb.cell (cell_lt ct)).trans ct)).mono ?_
    rintro e w' ⟨rfl, q, rfl⟩
    exact ⟨rfl, q, #[], by rw [grow_empty]⟩
  · obtain ⟨p, hp⟩ : ∃ t, l[x]? = some t := ⟨_, List.getElem?_eq_getElem (by omega)⟩
    obtain ⟨q, hq⟩ : ∃ t, l[y]? = some t := ⟨_, List.getElem?_eq_getElem (by omega)⟩
    simp only [hp, hq, Option.map_some, Option.getD_some, decide_eq_true_eq] at hx ⊢
    rcases Nat.lt_or_ge x y with h | h
    · have := hs x y p q hp hq h; omega
    · obtain rfl : x = y := by omega
      rw [hp] at hq
      injection hq with hq
      rw [← hq]; exact hx
end Go.Proofs.Ytemapnfbmhjlbaa
