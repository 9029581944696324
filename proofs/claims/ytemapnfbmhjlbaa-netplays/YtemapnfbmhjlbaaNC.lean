/- net: rows of elements of several cells: cuts, append in place, copy, clear. -/
import Derived.Test.YtemapnfbmhjlbaaNB
import Derived.Laws.CopyOwn
import Derived.Laws.Externs
import Derived.Lib.AppendZerosOnto
import Derived.Deep.RegionLaw
namespace Go.Proofs.Ytemapnfbmhjlbaa
open Go.RowKit Go.Maps Go.Joins
set_option linter.unusedSimpArgs false
set_option linter.unusedVariables false
theorem gb_of_below {w w' : World} (h : Below w.heap.size w w') (r : Option Nat) : w.grownBy w' r := ⟨h.os, h.tape, h.output, h.size, fun k hk _ => h.block k hk⟩
theorem gb_comp {w w1 w2 : World} {r r1 : Option Nat} (h : w.grownBy w1 r) (k : w1.grownBy w2 r1) (e : r1 = r ∨ ∃ b, r1 = some b ∧ w.heap.size ≤ b) : w.grownBy w2 r :=
  ⟨k.os.trans h.os, k.tape.trans h.tape, k.output.trans h.output, Nat.le_trans h.size k.size, fun i hi hr => by
    rw [k.block i (Nat.lt_of_lt_of_le hi h.size) (by
      rcases e with e | ⟨b, e, hb⟩
      · rw [e]; exact hr
      · rw [e]; intro e2; injection e2 with e2; omega)]
    exact h.block i hi hr⟩
theorem gb_drew {w0 w : World} {r : Option Nat} (h : w0.grownBy w r) : w0.grownBy w.drew r := ⟨h.os, h.tape, h.output, h.size, h.block⟩
theorem gb_setRow (w : World) (g : Nat) (c : Array Value) : w.grownBy (w.setRow g c) (some g) := ⟨rfl, rfl, rfl, by simp [World.setRow], fun k _ hk => setRow_other w g k c (fun e => hk (by rw [e]))⟩
/-- What the walks ask of a slice's type t of elements e of k cells. -/
structure El (t e : TypeId) (k by_ : Nat) (z : Value) : Prop where
  u : Try.prog.underlying t = some (.slice e)
  el : Try.prog.elem t = e
  i : ∃ i, Try.prog.info? e = some i ∧ i.zero = some z ∧ i.size = k ∧ i.bytes = by_
  zs : z.cells.size = k
  z1 : ∀ u ∈ z.cells.toList, u.oneCell' = true
  k0 : 0 < k
  b : by_ ≤ 48
  zv : ∀ w, (zeroValue e).run Try.prog w = .ok z w
  so : ∀ w, (sizeOf e).run Try.prog w = .ok k w
theorem info63b : (Try.prog.info? 63).map (fun i => (i.zero, i.size, i.bytes)) = some (some (.agg #[.int .i64 0, .int .i64 0, .int .i64 0]), 3, 24) := by kernel_rfl
theorem info35b : (Try.prog.info? 35).map (fun i => (i.zero, i.size, i.bytes)) = some (some (.agg #[.int .i64 0, .int .i64 0, .int .i64 0, .slice none 0 0]), 4, 48) := by kernel_rfl
theorem info_of {t : TypeId} {z : Value} {s b : Nat} (h : (Try.prog.info? t).map (fun i => (i.zero, i.size, i.bytes)) = some (some z, s, b)) : ∃ i, Try.prog.info? t = some i ∧ i.zero = some z ∧ i.size = s ∧ i.bytes = b := by
  cases hi : Try.prog.info? t with
  | none => rw [hi] at h; cases h
  | some i =>
    rw [hi] at h
    simp at h
    exact ⟨i, rfl, h.1, h.2.1, h.2.2⟩
theorem elT : El 46 63 3 24 (.agg #[.int .i64 0, .int .i64 0, .int .i64 0]) :=
  ⟨Try.underlying46, by kernel_rfl, info_of info63b, rfl, by decide, by decide, by decide, fun w => by kernel_rfl, fun w => by kernel_rfl⟩
theorem elP : El 50 35 4 48 (.agg #[.int .i64 0, .int .i64 0, .int .i64 0, .slice none 0 0]) :=
  ⟨Try.underlying50, by kernel_rfl, info_of info35b, rfl, by decide, by decide, by decide, fun w => by kernel_rfl, fun w => by kernel_rfl⟩
theorem El.us {t e : TypeId} {k by_ : Nat} {z : Value} (E : El t e k by_ z) : Try.prog.underlying t = some (.slice (Try.prog.elem t)) := by rw [E.el]; exact E.u
theorem El.l {t e : TypeId} {k by_ : Nat} {z : Value} (E : El t e k by_ z) (w : World) (g o n vc l : Nat) (L : Int) (hL : L = l) (hl : l ≤ n) : (Instr.slice t (.slice (some ⟨g, o, none⟩) n vc) (some (.int .i64 L)) none none).run Try.prog w = .ok (.slice (some ⟨g, if vc = l then o else o + l * k, none⟩) (n - l) (vc - l)) w := by
  subst hL
  rw [run_slice_l w t _ n vc E.us .i64 l (by omega) (by omega), E.el, E.so]
  by_cases e : vc = l
  · simp [Result.andThen, sliced, e]
  · simp [Result.andThen, sliced, e, Addr.add_lit]
theorem El.l0 {t e : TypeId} {k by_ : Nat} {z : Value} (E : El t e k by_ z) (w : World) (g n vc l : Nat) (hl : l ≤ n) (hc : l < vc) : (Instr.slice t (.slice (some ⟨g, 0, none⟩) n vc) (some (.int .i64 l)) none none).run Try.prog w = .ok (.slice (some ⟨g, l * k, none⟩) (n - l) (vc - l)) w := by
  rw [E.l w g 0 n vc l l rfl hl, if_neg (by omega), Nat.zero_add]
theorem El.h {t e : TypeId} {k by_ : Nat} {z : Value} (E : El t e k by_ z) (w : World) (g o n vc h : Nat) (H : Int) (hH : H = h) (hc : h ≤ vc) (h0 : 0 < vc) : (Instr.slice t (.slice (some ⟨g, o, none⟩) n vc) none (some (.int .i64 H)) none).run Try.prog w = .ok (.slice (some ⟨g, o, none⟩) h vc) w := by
  subst hH
  rw [run_slice_h w t _ n vc E.us .i64 h (by omega) (by omega), E.el, E.so]
  have : ¬ vc = 0 := by omega
  simp [Result.andThen, sliced, this, Addr.add]
theorem El.lh {t e : TypeId} {k by_ : Nat} {z : Value} (E : El t e k by_ z) (w : World) (g n vc l h : Nat) (L H : Int) (hL : L = l) (hH : H = h) (h1 : l ≤ h) (hc : h ≤ vc) : (Instr.slice t (.slice (some ⟨g, 0, none⟩) n vc) (some (.int .i64 L)) (some (.int .i64 H)) none).run Try.prog w = .ok (.slice (some ⟨g, if vc = l then 0 else l * k, none⟩) (h - l) (vc - l)) w := by
  subst hL hH
  rw [run_slice_lh w t _ n vc E.us .i64 .i64 l h (by omega) (by omega) (by omega), E.el, E.so]
  by_cases e : vc = l
  · simp [Result.andThen, sliced, e]
  · simp [Result.andThen, sliced, e, Addr.add_lit]
theorem El.lhm {t e : TypeId} {k by_ : Nat} {z : Value} (E : El t e k by_ z) (w : World) (a : Option Addr) (n vc l h m : Nat) (h1 : l ≤ h) (h2 : h ≤ m) (hc : m ≤ vc) : ∃ u, (Instr.slice t (.slice a n vc) (some (.int .i64 l)) (some (.int .i64 h)) (some (.int .i64 m))).run Try.prog w = .ok u w := by
  rw [run_slice_lhm w t _ n vc E.us .i64 .i64 .i64 l h m (by omega) (by omega) (by omega) (by omega), E.el, E.so]
  exact ⟨_, rfl⟩
set_option maxRecDepth 100000 in
/-- append where there is room. -/
theorem El.run_room {t e : TypeId} {k by_ : Nat} {z : Value} (E : El t e k by_ z) {w : World} (ty : TypeId) (g i cap : Nat) (cur : List Value) (hg : w.heap[g]? = some (.cells cur.toArray e (0, 0))) (sp : Option Addr) (m c : Nat) (news : List Value) (hl : news.length = m * k)
    (hpos : 0 < m → ∃ ad, sp = some ad ∧ ∀ j u, news[j]? = some u → w.cell? (ad.add j) = some u) (hs : sp = none → c = 0) (h1 : ∀ u ∈ news, u.oneCell' = true) (hroom : i + m ≤ cap) (hfit : (i + m) * k ≤ cur.length) :
    (Builtin.append_ #[t, t] ty #[.slice (some ⟨g, 0, none⟩) i cap, .slice sp m c]).run Try.prog w = .ok (.slice (some ⟨g, 0, none⟩) (i + m) cap) (w.setRow g (splice cur (i * k) news).toArray) := by
  obtain ⟨i0, hi, hz, hsz, hb⟩ := E.i
  have hfit' : i * i0.size + news.length ≤ cur.toArray.size := by rw [hl, hsz, ← Nat.add_mul]; simpa using hfit
  have hroom' : i + m ≤ cap := hroom
  cases sp with
  | none =>
    have hm : m = 0 := by
      rcases Nat.eq_zero_or_pos m with h | h
      · exact h
      · obtain ⟨_, h, _⟩ := hpos h; cases h
    subst hm
    have hn : news = [] := List.eq_nil_of_length_eq_zero (by simpa using hl)
    subst hn
    rw [Nat.add_zero] at hroom
    simp [Builtin.append_, run_underlying E.u, sizeOf, typeInfo, hi, Builtin.lenOf, hroom, Builtin.firstCells, storeCells, Result.andThen, splice, loadCells, loadCellsFrom, setRow_self w g _ e (0, 0) hg]
  | some ad =>
    have hnews : ∀ j u, news[j]? = some u → w.cell? (ad.add j) = some u := fun j u hu => by
      rcases Nat.eq_zero_or_pos m with h | h
      · subst h
        have hn : news = [] := List.eq_nil_of_length_eq_zero (by simpa using hl)
        subst hn
        simp at hu
      · obtain ⟨ad', e1, hc⟩ := hpos h
        injection e1 with e1
        rw [e1]
        exact hc j u hu
    have hr := run_append_room (P := Try.prog) w t ty e i0 E.u hi g i cap cur.toArray hg ad m c news (by rw [hl, hsz]) hnews h1 hroom' hfit'
    rw [hr]
    simp [splice, hsz]
set_option maxRecDepth 100000 in
/-- copy onto a row. -/
theorem El.run_copy {t e : TypeId} {k by_ : Nat} {z : Value} (E : El t e k by_ z) {w : World} (ty : TypeId) (g off : Nat) (cur : List Value) (hg : w.heap[g]? = some (.cells cur.toArray e (0, 0))) (dp sp : Option Addr) (dLen dCap sLen sCap : Nat) (cs : List Value) (hn : cs.length = Nat.min sLen dLen * k)
    (hpos : 0 < cs.length → dp = some ⟨g, off, none⟩ ∧ ∃ ad, sp = some ad ∧ ∀ j v, cs[j]? = some v → w.cell? (ad.add j) = some v) (hfit : off + cs.length ≤ cur.length) (h1 : ∀ v ∈ cs, v.oneCell' = true) :
    (Builtin.copy_ #[t, t] ty #[.slice dp dLen dCap, .slice sp sLen sCap]).run Try.prog w = .ok (goInt (Nat.min sLen dLen)) (if cs.length = 0 then w else w.setRow g (splice cur off cs).toArray) := by
  obtain ⟨i0, hi, hz, hsz, hb⟩ := E.i
  by_cases h0 : cs.length = 0
  · rw [if_pos h0]
    have hm : Nat.min sLen dLen = 0 := by
      rcases Nat.eq_zero_or_pos (Nat.min sLen dLen) with h | h
      · exact h
      · have := Nat.mul_pos h E.k0; omega
    have hm' : min sLen dLen = 0 := hm
    cases dp <;> cases sp <;> simp [Builtin.copy_, run_underlying E.u, sizeOf, typeInfo, hi, Builtin.lenOf, hm, hm', Builtin.firstCells, loadCells, loadCellsFrom, storeCells, Result.andThen]
  · rw [if_neg h0]
    obtain ⟨rfl, ad, rfl, hsrc⟩ := hpos (by omega)
    have hf := run_firstCells_some (P := Try.prog) w k (Nat.min sLen dLen) ad sLen sCap cs hn hsrc
    have hst := run_storeCells_at Try.prog g off e cs 0 cur.toArray w hg (by simpa using hfit) h1
    simp only [Nat.add_zero] at hst
    have hf' : (Builtin.firstCells k (min sLen dLen) (.slice (some ad) sLen sCap)).run Try.prog w = .ok cs.toArray w := hf
    simp [Builtin.copy_, run_underlying E.u, sizeOf, typeInfo, hi, Builtin.lenOf, hsz, hf, hf', hst, Result.andThen, splice]
set_option maxRecDepth 100000 in
/-- clear of a part of a row. -/
theorem El.run_clear {t e : TypeId} {k by_ : Nat} {z : Value} (E : El t e k by_ z) {w : World} (ty : TypeId) (g off n c : Nat) (cur : List Value) (hg : w.heap[g]? = some (.cells cur.toArray e (0, 0))) (hn : 0 < n) (hfit : off + n * k ≤ cur.length) :
    ∃ zs : List Value, zs.length = n * k ∧ (Builtin.clear_ #[t] ty #[.slice (some ⟨g, off, none⟩) n c]).run Try.prog w = .ok (.tuple #[]) (w.setRow g (splice cur off zs).toArray) := by
  have hz1 : ∀ v ∈ (Builtin.zeroCells z.cells n).toList, v.oneCell' = true := fun v hv => by
    simp only [Builtin.zeroCells, Array.toList_map, List.mem_map] at hv
    obtain ⟨i, _, rfl⟩ := hv
    have hlt : i % z.cells.size < z.cells.size := Nat.mod_lt _ (by rw [E.zs]; exact E.k0)
    rw [getElem!_pos z.cells _ hlt]
    exact E.z1 _ (by simp)
  have hlen : (Builtin.zeroCells z.cells n).toList.length = n * k := by rw [Array.length_toList, size_zeroCells, E.zs]
  have hst := run_storeCells_at Try.prog g off e (Builtin.zeroCells z.cells n).toList 0 cur.toArray w hg (by rw [hlen]; simpa using hfit) hz1
  simp only [Nat.add_zero] at hst
  refine ⟨_, hlen, ?_⟩
  obtain ⟨m, rfl⟩ : ∃ m, n = m + 1 := ⟨n - 1, by omega⟩
  simp [Builtin.clear_, run_underlying E.u, E.zv, hst, Result.andThen, splice]
end Go.Proofs.Ytemapnfbmhjlbaa
