/- disk: used. -/
import Derived.Test.YtllkpnlgemjgfaaDG
namespace Go.Proofs.Ytllkpnlgemjgfaa
open Go.RowKit Go.Maps Go.Joins
set_option linter.unusedSimpArgs false
set_option linter.unusedVariables false
/-- What those that are no longer to come have together. -/
def sumL (f : List UInt8 → Nat) (left : Lit → Bool) : List (List UInt8 × Nat) → Nat
  | [] => 0
  | p :: r => (if left (.string p.1) then 0 else f p.1) + sumL f left r
def total (S : DS) : Nat := sumL (fun n => (S.fl n).bs.length) (fun _ => false) S.fs
theorem sumL_le (f : List UInt8 → Nat) (left : Lit → Bool) : ∀ l, sumL f left l ≤ sumL f (fun _ => false) l
  | [] => Nat.le_refl _
  | p :: r => by
    have := sumL_le f left r
    simp only [sumL]
    split <;> simp <;> omega
theorem sumL_end {f : List UInt8 → Nat} {left : Lit → Bool} (h : ∀ k, left k = false) : ∀ l, sumL f left l = sumL f (fun _ => false) l
  | [] => rfl
  | p :: r => by simp only [sumL, h, sumL_end h r]
theorem sumL_start {f : List UInt8 → Nat} {left : Lit → Bool} : ∀ l, (∀ p ∈ l, left (.string p.1) = true) → sumL f left l = 0
  | [], _ => rfl
  | p :: r, h => by simp only [sumL, h p (List.mem_cons_self ..), if_true, sumL_start r (fun q hq => h q (List.mem_cons_of_mem _ hq))]
theorem sumL_other {f : List UInt8 → Nat} {left : Lit → Bool} {n : List UInt8} : ∀ l : List (List UInt8 × Nat), (∀ p ∈ l, p.1 ≠ n) → sumL f (fun z => left z && !z.sameKey (.string n)) l = sumL f left l
  | [], _ => rfl
  | p :: r, h => by
    have e : (Lit.string p.1).sameKey (.string n) = false := by
      have := h p (List.mem_cons_self ..)
      simpa [Lit.sameKey] using this
    simp only [sumL, e, Bool.not_false, Bool.and_true, sumL_other r (fun q hq => h q (List.mem_cons_of_mem _ hq))]
theorem sumL_step {f : List UInt8 → Nat} {left : Lit → Bool} {n : List UInt8} {g : Nat} (hl : left (.string n) = true) : ∀ l : List (List UInt8 × Nat), (l.map toE).Pairwise (fun p q => p.1 ≠ q.1) → (n, g) ∈ l → sumL f (fun z => left z && !z.sameKey (.string n)) l = sumL f left l + f n
  | [], _, h => by cases h
  | p :: r, hp, h => by
    rw [List.map_cons, List.pairwise_cons] at hp
    by_cases e : p.1 = n
    · have hr : ∀ q ∈ r, q.1 ≠ n := fun q hq e' => hp.1 _ (List.mem_map_of_mem hq) (by show Lit.string p.1 = Lit.string q.1; rw [e, e'])
      have e1 : (Lit.string p.1).sameKey (.string n) = true := by simp [Lit.sameKey, e]
      simp only [sumL, sumL_other r hr, e1, Bool.not_true, Bool.and_false]
      rw [e, hl]
      simp
      omega
    · have e1 : (Lit.string p.1).sameKey (.string n) = false := by simpa [Lit.sameKey] using e
      have hm : (n, g) ∈ r := by
        rcases List.mem_cons.1 h with h | h
        · exact absurd (by rw [← h]) e
        · exact h
      have := sumL_step (f := f) hl r hp.2 hm
      simp only [sumL, e1, Bool.not_false, Bool.and_true, this]
      omega
theorem DiskIs.apart {w : World} {bd : Nat} {S : DS} (h : DiskIs w bd S) : (S.fs.map toE).Pairwise (fun p q => p.1 ≠ q.1) := by
  obtain ⟨es, he, hp, _⟩ := h.files.entries law9
  have : S.fs.map toE = es := by
    unfold toD at he
    injection he
  rw [this]
  exact hp
theorem at_some {fs : List (List UInt8 × Nat)} {n : List UInt8} {y : DataW Unit} (h : ∀ z, (toD fs).atKey (.string n) z = y) : ∃ g, look fs n = some g ∧ y = .lit (.int .i64 (g : Int)) := by
  cases hl : look fs n with
  | none =>
    have h1 := h .nil
    have h2 := h (.lit (.bool true))
    rw [at_toD, hl] at h1 h2
    rw [← h1] at h2
    cases h2
  | some g =>
    have h1 := h .nil
    rw [at_toD, hl] at h1
    exact ⟨g, rfl, h1.symm⟩
set_option maxRecDepth 100000 in
set_option maxHeartbeats 4000000 in
/-- (*Disk).used -/
theorem used_any {w : World} {bd : Nat} {S : DS} (h : DiskIs w bd S) (hT : total S ≤ 4611686018427387904) :
    Calls Try.prog 38 #[.pointer (some ⟨bd, 0, none⟩)] w fun e w' => e = .returned (.int .i64 (total S)) ∧ Below w.heap.size w w' := by
  have HD : Hid (DiskIs w bd S) := h
  have HT : Hid (total S ≤ 4611686018427387904) := hT
  have c1 : w.cell? ⟨bd, 1, none⟩ = some (.map (some S.bm)) := by rw [cell_of_block h.disk]; rfl
  clear h hT
  go_enter Try.func38, Try.ntmps38
  go_wp2_with (first
    | (at_range; refine wpList_range_own _ rfl _ 56 rfl 9 66 law9 Try.underlying56 Rp S.bm S.fs.length (toD S.fs) rfl HD.out.files ?_; intro w0 hrg0 hg0 hs0)
    | go_in)
  go_frame
  go_loopw [3] (fun n wr => ∃ (left : Lit → Bool) (cnt : Nat), n = .int .i64 (sumL (fun n => (S.fl n).bs.length) left S.fs : Nat) ∧ wr.ranges Try.prog 9 Rp S.bm w.heap.size S.fs.length (toD S.fs) left cnt ∧ Below w.heap.size w wr)
    (fun _ wr => wr.rangeLeft S.bm w.heap.size)
  case atStart =>
    refine ⟨_, _, ?_, hrg0, ⟨hg0.os, hg0.tape, hg0.output, hg0.size, fun k hk => hg0.block k hk (by simp)⟩⟩
    rw [sumL_start]
    · rfl
    · intro p hp
      rw [has_toD]
      unfold look
      rw [Option.isSome_map, List.find?_isSome]
      exact ⟨p, hp, by simp⟩
  case round =>
    obtain ⟨left, cnt, rfl, hrg, hb⟩ := hrel
    go_wp2_with (first
      | (at_next; refine wpList_next_ranges _ rfl _ rfl 9 law9 Rp encStr pv (fun key kl hk => by obtain ⟨x, hx, _⟩ := Maps.keyOf_str Try.underlying9 hk; exact ⟨x, hx⟩) Rp_inv S.bm w.heap.size S.fs.length (toD S.fs) left cnt rfl hrg ?_ ?_)
      | go_in)
    · intro _ hl0
      go_wp2
      go_ret
      refine ⟨?_, hb⟩
      rw [sumL_end hl0]
      rfl
    · intro x c kl yd yp w2 cnt2 hkey hlk hv hat hrg2 hlt hg2 hs2 hen
      obtain ⟨x', ex, rfl, _⟩ := Maps.keyOf_str Try.underlying9 hkey
      obtain rfl : x = x' := encStr_inj ex
      obtain ⟨g, hlg, hy⟩ := at_some hat
      subst hy
      have hc : pv c = .pointer (some ⟨g, 0, none⟩) := Rp_lit hv
      have hm := look_mem hlg
      have hb2 : Below w.heap.size w w2 := hb.grown hg2 hb.size (fun j hj => by cases hj; exact Nat.le_refl _)
      have hfile := (HD.out.below hb2).file _ hm
      obtain ⟨a, cap, hsl⟩ := row_form (HD.out.row _ hm)
      have c0 : w2.cell? ⟨g, 0, none⟩ = some (.slice a (S.fl x).bs.length cap) := by rw [cell_of_block hfile, hsl]; rfl
      have hsum := sumL_step (f := fun n => (S.fl n).bs.length) hlk S.fs HD.out.apart hm
      have hle := sumL_le (fun n => (S.fl n).bs.length) (fun z => left z && !z.sameKey (.string x)) S.fs
      have hTT := HT.out
      unfold total at hTT
      rw [hc] at hen ⊢
      clear hs2 hc hfile hsl hkey hv hat
      have hbd : ((sumL (fun n => (S.fl n).bs.length) left S.fs : Nat) : Int) + ((S.fl x).bs.length : Int) ≤ 4611686018427387904 := by omega
      go_wp2
      go_roundw
      case rel => exact ⟨_, cnt2, by rw [hsum]; simp, hrg2, hb2⟩
      case measure => rw [hrg2.left_eq, hrg.left_eq]; exact hlt
end Go.Proofs.Ytllkpnlgemjgfaa
