/- net: where a packet is. -/
import Derived.Test.YtemapnfbmhjlbaaNO
namespace Go.Proofs.Ytemapnfbmhjlbaa
open Go.RowKit Go.Maps Go.Joins
set_option linter.unusedSimpArgs false
set_option linter.unusedVariables false
theorem nan_any (x : Int) (w : World) : Calls Try.prog 59 #[.int .i64 x] w fun e w' => e = .returned (.bool false) ∧ w' = w := by
  go_enter Try.func59, Try.ntmps59
  go_wp2
  go_ret
  exact ⟨by simp, rfl⟩
def cmpI (x y : Int) : Int := if x < y then -1 else if y < x then 1 else 0
set_option maxRecDepth 100000 in
theorem cmp_any (x y : Int) (w : World) : Calls Try.prog 51 #[.int .i64 x, .int .i64 y] w fun e w' => e = .returned (.int .i64 (cmpI x y)) ∧ w' = w := by
  by_cases h1 : x < y
  · have e : cmpI x y = -1 := if_pos h1
    have d1 : decide (x < y) = true := by simpa using h1
    rw [e]
    go_enter Try.func51, Try.ntmps51
    go_wp2_with (go_at_call 59; refine (nan_any _ _).mono ?_; rintro e w1 ⟨rfl, rfl⟩)
    go_ret
    exact ⟨rfl, rfl⟩
  · have d1 : decide (x < y) = false := by simpa using h1
    by_cases h2 : y < x
    · have e : cmpI x y = 1 := by unfold cmpI; rw [if_neg h1, if_pos h2]
      have d2 : decide (y < x) = true := by simpa using h2
      rw [e]
      go_enter Try.func51, Try.ntmps51
      go_wp2_with (go_at_call 59; refine (nan_any _ _).mono ?_; rintro e w1 ⟨rfl, rfl⟩)
      go_ret
      exact ⟨rfl, rfl⟩
    · have e : cmpI x y = 0 := by unfold cmpI; rw [if_neg h1, if_neg h2]
      have d2 : decide (y < x) = false := by simpa using h2
      rw [e]
      go_enter Try.func51, Try.ntmps51
      go_wp2_with (go_at_call 59; refine (nan_any _ _).mono ?_; rintro e w1 ⟨rfl, rfl⟩)
      go_ret
      exact ⟨rfl, rfl⟩
set_option maxRecDepth 100000 in
theorem place1_any (x y fr to : Int) (v : Value) (w : World) : Calls Try.prog 50 #[.agg #[.int .i64 x, .int .i64 fr, .int .i64 to, v], .int .i64 y] w fun e w' => e = .returned (.int .i64 (cmpI x y)) ∧ Below w.heap.size w w' := by
  go_enter Try.func50, Try.ntmps50
  go_wp2_with (go_at_call 51; refine (cmp_any _ _ _).mono ?_; rintro e w1 ⟨rfl, rfl⟩)
  go_ret
  exact ⟨rfl, (Below.refl _ w).alloc (Nat.le_refl _) _⟩
/-- The numbers rise. -/
def Rise (l : List PK) : Prop := ∀ (i j : Nat) (p q : PK), l[i]? = some p → l[j]? = some q → i < j → p.id < q.id
/-- Packets that lie in memory. -/
structure PkV (w : World) (a : Option Addr) (l : List PK) : Prop where
  at_ : ∀ i p, l[i]? = some p → ∃ g o, a = some ⟨g, o, none⟩ ∧ w.cell? ⟨g, o + i * 4, none⟩ = some (.int .i64 p.id) ∧ w.cell? ⟨g, o + i * 4 + 1, none⟩ = some (.int .i64 p.fr) ∧ w.cell? ⟨g, o + i * 4 + 2, none⟩ = some (.int .i64 p.to) ∧ w.cell? ⟨g, o + i * 4 + 3, none⟩ = some p.dv
theorem PkV.of {w : World} {base : Nat} {a : Option Addr} {n c : Nat} {l : List PK} (h : w.ownsRow base 35 4 (.slice a n c) l.length (pkL l)) : PkV w a l where
  at_ := fun i p hp => by
    rcases h.2 with ⟨e, h0⟩ | ⟨g, cap, cur, e, _, hg, _, _, _, ht⟩
    · rw [List.eq_nil_of_length_eq_zero h0] at hp; simp at hp
    · injection e with e1 e2 e3
      have hc : ∀ j u, (pkC p)[j]? = some u → w.cell? ⟨g, 0 + i * 4 + j, none⟩ = some u := fun j u hu => by
        have hj : j < 4 := by
          have := (List.getElem?_eq_some_iff.1 hu).1
          simpa [pkC] using this
        have := h.cells (g := g) (by rw [e1]; rfl) (i * 4 + j) u (by rw [pkL_at l i p hp j hj]; exact hu)
        rw [Addr.add_lit, ← Nat.add_assoc] at this
        exact this
      exact ⟨g, 0, e1, hc 0 _ rfl, hc 1 _ rfl, hc 2 _ rfl, hc 3 _ rfl⟩
theorem PkV.below {w w' : World} {a : Option Addr} {l : List PK} (h : PkV w a l) (hb : Below w.heap.size w w') : PkV w' a l where
  at_ := fun i p hp => by
    obtain ⟨g, o, e, h0, h1, h2, h3⟩ := h.at_ i p hp
    exact ⟨g, o, e, (hb.cell (cell_lt h0)).trans h0, (hb.cell (cell_lt h1)).trans h1, (hb.cell (cell_lt h2)).trans h2, (hb.cell (cell_lt h3)).trans h3⟩
/-- What place finds. -/
def Found (l : List PK) (id : Int) (i : Nat) (f : Bool) : Prop := (f = true → ∃ p, l[i]? = some p ∧ p.id = id) ∧ (f = false → ∀ p ∈ l, p.id ≠ id)
set_option maxRecDepth 100000 in
set_option maxHeartbeats 4000000 in
/-- slices.BinarySearchFunc -/
theorem bsf_any {w : World} {a : Option Addr} {c : Nat} {l : List PK} (hv : PkV w a l) (hr : Rise l) (hn : l.length ≤ 1000000) (id : Int) :
    Calls Try.prog 49 #[.slice a l.length c, .int .i64 id, .func (.func 50) #[] #[]] w fun e w' => ∃ (i : Nat) (f : Bool), e = .returned (.tuple #[.int .i64 i, .bool f]) ∧ i ≤ l.length ∧ Found l id i f ∧ Below w.heap.size w w' := by
  have HV : Hid (PkV w a l) := hv
  have HR : Hid (Rise l) := hr
  obtain ⟨n, hnl⟩ : ∃ n, n = l.length := ⟨_, rfl⟩
  have HNL : Hid (n = l.length) := hnl
  rw [← hnl]
  rw [← hnl] at hn
  clear hv hr hnl
  go_enter Try.func49, Try.ntmps49
  go_wp2
  go_loopw [9, 10] (fun x y wr => ∃ lo hi : Nat, x = .int .i64 lo ∧ y = .int .i64 hi ∧ lo ≤ hi ∧ hi ≤ n ∧ Hid (Below w.heap.size w wr ∧ (∀ i p, l[i]? = some p → i < lo → p.id < id) ∧ ∀ i p, l[i]? = some p → hi ≤ i → id ≤ p.id)) (fun x y wr => (intOf y).toNat - (intOf x).toNat)
  case atStart => exact ⟨0, n, rfl, rfl, Nat.zero_le _, Nat.le_refl _, Below.refl _ _, fun i p _ h => absurd h (Nat.not_lt_zero _), fun i p hp h => by have := (List.getElem?_eq_some_iff.1 hp).1; have := HNL.out; omega⟩
  case round =>
    obtain ⟨lo, hi, rfl, rfl, hlh, hin, HI⟩ := hrel
    by_cases hlt : lo < hi
    · obtain ⟨m, hm⟩ : ∃ m, m = (lo + hi) / 2 := ⟨_, rfl⟩
      obtain ⟨p, hp⟩ : ∃ p, l[m]? = some p := ⟨_, List.getElem?_eq_getElem (by have := HNL.out; omega)⟩
      obtain ⟨g, o, rfl, c0, c1, c2, c3⟩ := (HV.out.below HI.out.1).at_ m p hp
      have hmz : ((lo : Int) + (hi : Int)) / 2 = (m : Int) := by omega
      have hm0 : m < n := by omega
      have HM : Hid (l[m]? = some p ∧ m = (lo + hi) / 2) := ⟨hp, hm⟩
      have T1 : Hid True := trivial
      clear hp hm
      by_cases hc : p.id < id
      · have e : cmpI p.id id = -1 := if_pos hc
        have HC : Hid (p.id < id) := hc
        clear hc
        go_wp2_with (first
          | (have _ := T1; go_at_call 50; refine (place1_any p.id id p.fr p.to p.dv _).mono ?_; rintro e9 w1 ⟨rfl, hb1⟩
             rw [e]
             have HB : Hid (Below wr.heap.size wr w1) := hb1
             clear T1 hb1))
        go_roundw
        case rel =>
          have hmm := HM.out.2
          refine ⟨m + 1, hi, by go_num, rfl, by omega, hin, HI.out.1.trans (HB.out.mono HI.out.1.size), fun i q hq hi' => ?_, HI.out.2.2⟩
          rcases Nat.lt_or_ge i m with h | h
          · have := HR.out i m q p hq HM.out.1 h; have := HC.out; omega
          · obtain rfl : i = m := by omega
            have h1 := HM.out.1
            rw [hq] at h1
            injection h1 with h1
            rw [h1]; exact HC.out
        case measure => have := HM.out.2; simp [intOf]; omega
      · have HC : Hid (id ≤ p.id) := by show _ ≤ _; omega
        have e : (0 : Int) ≤ cmpI p.id id := by unfold cmpI; rw [if_neg hc]; split <;> omega
        generalize hcm : cmpI p.id id = cm at e
        clear hc
        go_wp2_with (first
          | (have _ := T1; go_at_call 50; refine (place1_any p.id id p.fr p.to p.dv _).mono ?_; rintro e9 w1 ⟨rfl, hb1⟩
             rw [hcm]
             have HB : Hid (Below wr.heap.size wr w1) := hb1
             clear T1 hb1))
        go_roundw
        case rel =>
          have hmm := HM.out.2
          refine ⟨lo, m, rfl, by go_num, by omega, by omega, HI.out.1.trans (HB.out.mono HI.out.1.size), HI.out.2.1, fun i q hq hi' => ?_⟩
          rcases Nat.lt_or_ge m i with h | h
          · have := HR.out m i p q HM.out.1 hq h; have := HC.out; omega
          · obtain rfl : i = m := by omega
            have h1 := HM.out.1
            rw [hq] at h1
            injection h1 with h1
            rw [h1]; exact HC.out
        case measure => have := HM.out.2; simp [intOf]; omega
    · obtain rfl : hi = lo := by omega
      by_cases hln : hi < n
      · obtain ⟨p, hp⟩ : ∃ p, l[hi]? = some p := ⟨_, List.getElem?_eq_getElem (by have := HNL.out; omega)⟩
        obtain ⟨g, o, rfl, c0, c1, c2, c3⟩ := (HV.out.below HI.out.1).at_ hi p hp
        have hd : decide ((hi : Int) < (n : Int)) = true := by simp; omega
        have HM : Hid (l[hi]? = some p) := hp
        clear hp
        have T1 : Hid True := trivial
        have hle : id ≤ p.id := HI.out.2.2 hi p HM.out (Nat.le_refl _)
        have e : cmpI p.id id = if p.id = id then 0 else 1 := by unfold cmpI; rw [if_neg (by omega)]; split <;> split <;> omega
        by_cases hid : p.id = id
        · rw [if_pos hid] at e
          have HF : Hid (p.id = id) := hid
          clear hid
          go_wp2_with (first
            | (have _ := T1; go_at_call 50; refine (place1_any p.id id p.fr p.to p.dv _).mono ?_; rintro e9 w1 ⟨rfl, hb1⟩
               rw [e]
               have HB : Hid (Below wr.heap.size wr w1) := hb1
               clear T1 hb1))
          go_returns
          exact ⟨hi, true, rfl, by omega, ⟨fun _ => ⟨p, HM.out, HF.out⟩, fun h => by cases h⟩, HI.out.1.trans (HB.out.mono HI.out.1.size)⟩
        · rw [if_neg hid] at e
          have HF : Hid (p.id ≠ id) := hid
          clear hid
          go_wp2_with (first
            | (have _ := T1; go_at_call 50; refine (place1_any p.id id p.fr p.to p.dv _).mono ?_; rintro e9 w1 ⟨rfl, hb1⟩
               rw [e]
               have HB : Hid (Below wr.heap.size wr w1) := hb1
               clear T1 hb1))
          go_returns
          refine ⟨hi, false, rfl, by omega, ⟨(fun h => by cases h), fun _ q hq hqi => ?_⟩, HI.out.1.trans (HB.out.mono HI.out.1.size)⟩
          obtain ⟨k, hk, hk2⟩ := List.getElem_of_mem hq
          have hk3 : l[k]? = some q := by rw [List.getElem?_eq_getElem hk, hk2]
          rcases Nat.lt_or_ge k hi with h | h
          · have := HI.out.2.1 k q hk3 h; omega
          · rcases Nat.lt_or_ge hi k with h2 | h2
            · have := HR.out hi k p q HM.out hk3 h2
              have := HI.out.2.2 hi p HM.out (Nat.le_refl _); omega
            · obtain rfl : k = hi := by omega
              have h1 := HM.out
              rw [hk3] at h1
              injection h1 with h1
              rw [h1] at hqi
              exact HF.out hqi
      · obtain rfl : hi = n := by omega
        have hd : decide ((hi : Int) < (hi : Int)) = false := by simp
        clear hlt hln
        go_wp2
        go_returns
        refine ⟨hi, false, rfl, by omega, ⟨(fun h => by cases h), fun _ q hq hqi => ?_⟩, HI.out.1⟩
        obtain ⟨k, hk, hk2⟩ := List.getElem_of_mem hq
        have hk3 : l[k]? = some q := by rw [List.getElem?_eq_getElem hk, hk2]
        have := HI.out.2.1 k q hk3 (by have := HNL.out; omega)
        omega
set_option maxRecDepth 100000 in
set_option maxHeartbeats 4000000 in
/-- place -/
theorem place_any {w : World} {b : Nat} {N : NS} (h : NetIs w b N) (ho : NOk N) (hr : Rise N.fl) (id : Int) :
    Calls Try.prog 33 #[.pointer (some ⟨b, 0, none⟩), .int .i64 id] w fun e w' => ∃ (i : Nat) (f : Bool), e = .returned (.tuple #[.int .i64 i, .bool f]) ∧ i ≤ N.fl.length ∧ Found N.fl id i f ∧ Below w.heap.size w w' := by
  obtain ⟨_, _, _, _, _, _, c6, _⟩ := h.cells
  obtain ⟨fa, fc, hfv⟩ := row_form h.fl
  have hown := h.fl
  rw [hfv] at c6 hown
  have HB : Hid _ := bsf_any (PkV.of hown) hr (by have := ho.fl; omega) id (c := fc)
  generalize N.fl.length = n at *
  clear h hown hfv ho hr
  go_enter Try.func33, Try.ntmps33
  go_wp2_with (go_at_call 49; refine Calls.mono HB.out ?_; rintro e w1 ⟨i, f, rfl, q1, q2, q3⟩; have HQ : Hid _ := And.intro q1 (And.intro q2 q3); clear q1 q2 q3)
  go_returns
  exact ⟨i, f, rfl, HQ.out⟩
end Go.Proofs.Ytemapnfbmhjlbaa
