/- Walks over the document's own numbers: lists of bytes. -/
import Derived.Test.YtlpmmejdfenkiaaWdBase
namespace Go.Proofs.Ytlpmmejdfenkiaa.Wd
open Go.RowKit
set_option linter.unusedSimpArgs false
set_option linter.unusedVariables false
/-- A slice of ints that lies in memory. -/
def IsN (w : World) (v : Value) (d : List Int) : Prop :=
  ∃ a cap, v = .slice a d.length cap ∧ d.length ≤ cap ∧ (0 < d.length → ∃ b o, a = some ⟨b, o, none⟩ ∧ b < w.heap.size ∧ ∀ k, k < d.length → w.cell? ⟨b, o + k, none⟩ = some (.int .i64 (d.getD k 0)))
theorem Try.info3 : (Try.prog.info? 3).map (fun i => (i.zero, i.size, i.bytes)) = some (some (.int .i64 0), 1, 8) := by kernel_rfl
/-- The number of a list of digits, the lowest first. -/
def valB : List Int → Int
  | [] => 0
  | x :: r => x + 256 * valB r
/-- All digits are bytes. -/
def Byt (d : List Int) : Prop := ∀ k, 0 ≤ d.getD k 0 ∧ d.getD k 0 < 256
theorem getD_cons_zero' (x : Int) (r : List Int) : (x :: r).getD 0 0 = x := rfl
theorem getD_cons_succ' (x : Int) (r : List Int) (k : Nat) : (x :: r).getD (k + 1) 0 = r.getD k 0 := by simp [List.getD]
theorem valB_zero : ∀ (d : List Int), (∀ j, d.getD j 0 = 0) → valB d = 0
  | [], _ => rfl
  | x :: r, h => by
    have h0 := h 0
    rw [getD_cons_zero'] at h0
    rw [valB, valB_zero r (fun j => by have := h (j + 1); rwa [getD_cons_succ'] at this), h0]; rfl
theorem valB_take : ∀ (d : List Int) (k : Nat), (∀ j, k ≤ j → d.getD j 0 = 0) → valB (d.take k) = valB d
  | d, 0, h => by rw [List.take_zero, valB_zero d (fun j => h j (Nat.zero_le _))]; rfl
  | [], _ + 1, _ => rfl
  | x :: r, k + 1, h => by
    rw [List.take_succ_cons, valB, valB, valB_take r k (fun j hj => by have := h (j + 1) (by omega); rwa [getD_cons_succ'] at this)]
theorem Byt.take {d : List Int} (h : Byt d) (k : Nat) : Byt (d.take k) := fun j => by
  rcases Nat.lt_or_ge j k with g | g
  · have : (d.take k).getD j 0 = d.getD j 0 := by simp [List.getD, List.getElem?_take_of_lt g]
    rw [this]; exact h j
  · have : (d.take k).getD j 0 = 0 := by
      simp only [List.getD]
      rw [List.getElem?_eq_none (by simp; omega)]; rfl
    rw [this]; exact ⟨by decide, by decide⟩
/-- What a slice of the call's own reads as. -/
theorem IsN.of_owns {w : World} {base n : Nat} {v : Value} {d : List Int} (h : w.ownsRow base 3 1 v n (d.map (Value.int .i64))) : IsN w v d := by
  obtain ⟨h1, h2⟩ := h
  simp at h1
  rcases h2 with ⟨rfl, rfl⟩ | ⟨g, cap, cur, rfl, hg, hh, hn, hm, hs, ht⟩
  · have : d = [] := List.eq_nil_of_length_eq_zero h1
    subst this
    exact ⟨none, 0, rfl, Nat.le_refl _, fun h => absurd h (by simp)⟩
  · subst h1
    refine ⟨some ⟨g, 0, none⟩, cap, rfl, hn, fun _ => ⟨g, 0, rfl, ?_, fun k hk => ?_⟩⟩
    · have := (Array.getElem?_eq_some_iff.1 hh).1; exact this
    · have e : (cur.toList.take (d.length * 1))[k]? = (d.map (Value.int .i64))[k]? := by rw [ht]
      rw [List.getElem?_take_of_lt (by omega), List.getElem?_map, List.getElem?_eq_getElem hk] at e
      simp at e
      simp only [World.cell?, hh]
      simp [e, List.getD, List.getElem?_eq_getElem hk]
theorem trim_news (w : World) (b o : Nat) (d : List Int) (k : Nat) (hk : k ≤ d.length) (hc : ∀ k, k < d.length → w.cell? ⟨b, o + k, none⟩ = some (.int .i64 (d.getD k 0))) :
    ∀ j u, ((d.take k).map (Value.int .i64))[j]? = some u → w.cell? ((⟨b, o, none⟩ : Addr).add j) = some u := by
  intro j u hj
  have hlt : j < k := by
    have := (List.getElem?_eq_some_iff.1 hj).1
    simp at this; omega
  have e : (⟨b, o, none⟩ : Addr).add j = ⟨b, o + j, none⟩ := by unfold Addr.add; split <;> simp_all
  rw [e, hc j (by omega)]
  rw [List.getElem?_map, List.getElem?_take_of_lt hlt, List.getElem?_eq_getElem (by omega)] at hj
  simp at hj
  simp [← hj, List.getD, List.getElem?_eq_getElem (show j < d.length by omega)]
theorem oneCell_take (d : List Int) (k : Nat) : ∀ u ∈ List.take k (List.map (Value.int .i64) d), u.oneCell' = true := fun u hu => by
  have h := List.mem_of_mem_take hu
  simp at h
  obtain ⟨x, _, rfl⟩ := h
  rfl
set_option maxHeartbeats 1000000 in
theorem trim_some (w : World) (b o cap : Nat) (d : List Int) (hd : d.length < 4096) (hcap : d.length ≤ cap) (hb : b < w.heap.size) (hc : ∀ k, k < d.length → w.cell? ⟨b, o + k, none⟩ = some (.int .i64 (d.getD k 0))) :
    Calls Try.prog 53 #[.slice (some ⟨b, o, none⟩) d.length cap] w fun e w' => ∃ (v : Value) (k : Nat), e = .returned v ∧ IsN w' v (d.take k) ∧ Hid (k ≤ d.length ∧ (∀ j, k ≤ j → d.getD j 0 = 0)) ∧ Below w.heap.size w w' := by
  have HC : Hid _ := hc
  clear hc
  obtain ⟨i0, hi, hz0, hz1, hz2⟩ := info_parts Try.info3
  have HI : Hid _ := hi
  clear hi
  go_enter Try.func53, Try.ntmps53
  go_wp2
  go_loop [3] (fun s => ∃ k : Nat, k ≤ d.length ∧ s = .int .i64 k ∧ Hid (∀ j, k ≤ j → d.getD j 0 = 0)) (fun s => (intOf s).toNat)
  case atStart => exact ⟨d.length, Nat.le_refl _, rfl, fun j hj => by simp [List.getD, List.getElem?_eq_none hj]⟩
  case round =>
    obtain ⟨k, hk, rfl, hz⟩ := hrel
    have HN : Hid _ := trim_news (w.alloc (.cells #[] 3)) b o d k hk (fun k hk => (World.cell?_alloc_past _ _ _ hb).trans (HC.out k hk))
    by_cases h0 : k = 0
    · subst h0
      go_wp2_with (first | (at_builtin; refine wpList_append_own _ rfl _ _ 54 rfl w.heap.size 3 i0 (.int .i64 0) 1 8 Try.underlying54 HI.out hz0 hz1 hz2 rfl (by decide) _ _ _ rfl (World.ownsRow_made w #[] 0 (Nat.le_refl _) (by decide) rfl) ⟨b, o, none⟩ 0 cap [] rfl rfl ?c1 ?c2 ?c3 ?c4 ?c5 ?_))
      all_goals first
        | (intro v' w1 hown hg hnn
           clear hnn
           go_wp2
           go_ret
           exact ⟨v', 0, rfl, IsN.of_owns (by simpa using hown), ⟨hk, hz.out⟩, Below.grown (by go_grown) hg (by simp) (by simp [Value.ownBlock])⟩)
        | (intro j u hj; simp at hj; done)
        | (intro u hu; simp at hu; done)
        | decide
        | (simp; done)
    · obtain ⟨m, rfl⟩ : ∃ m, k = m + 1 := ⟨k - 1, by omega⟩
      have hcm := HC.out m (by omega)
      by_cases hx : d.getD m 0 = 0
      · have hxx : (d[m]?.getD 0 == 0) = true := by simpa [List.getD] using hx
        have hzm : Hid (∀ j, m ≤ j → d.getD j 0 = 0) := fun j hj => by
          rcases Nat.lt_or_ge m j with g | g
          · exact hz.out j (by omega)
          · have e : j = m := by omega
            rw [e]; exact hx
        go_wp2
        exact ⟨⟨m, by omega, by go_num, hzm⟩, by simp [intOf]⟩
      · have hxx : (d[m]?.getD 0 == 0) = false := by simpa [List.getD] using hx
        have hle : (m : Int) + 1 ≤ cap := by omega
        go_wp2_with (first | (at_builtin; go_must (refine wpList_append_own _ rfl _ _ 54 rfl w.heap.size 3 i0 (.int .i64 0) 1 8 Try.underlying54 HI.out hz0 hz1 hz2 rfl (by decide) _ _ _ rfl (World.ownsRow_made w #[] 0 (Nat.le_refl _) (by decide) rfl) ⟨b, o, none⟩ (m + 1) cap ((d.take (m + 1)).map (Value.int .i64)) rfl ?e0 HN.out ?e2 ?e3 ?e4 ?e5 ?_)))
        all_goals first
          | (intro v' w1 hown hg hnn
             clear hnn
             go_wp2
             go_ret
             exact ⟨v', m + 1, rfl, IsN.of_owns (by simpa using hown), ⟨hk, hz.out⟩, Below.grown (by go_grown) hg (by simp) (by simp [Value.ownBlock])⟩)
          | exact oneCell_take d _
          | (unfold maxLen; omega)
          | omega
          | (simp; done)
          | (simp; omega)
/-- conclaveref01.Trim -/
theorem trim_any (w : World) (v : Value) (d : List Int) (h : IsN w v d) (h0 : 0 < d.length) (hd : d.length < 4096) (hB : Byt d) :
    Calls Try.prog 53 #[v] w fun e w' => ∃ (v' : Value) (d' : List Int), e = .returned v' ∧ IsN w' v' d' ∧ Byt d' ∧ d'.length ≤ d.length ∧ Hid (valB d' = valB d) ∧ Below w.heap.size w w' := by
  obtain ⟨a, cap, rfl, hcap, h⟩ := h
  obtain ⟨b, o, rfl, hb, hc⟩ := h h0
  refine (trim_some w b o cap d hd hcap hb hc).mono ?_
  rintro e w' ⟨v, k, rfl, hN, hk, hw⟩
  exact ⟨v, _, rfl, hN, hB.take k, by simp; omega, valB_take d k hk.out.2, hw⟩
/-- A slice that lay there lies there behind a call. -/
theorem IsN.below {w w' : World} {v : Value} {d : List Int} (h : IsN w v d) (hb : Below w.heap.size w w') : IsN w' v d := by
  obtain ⟨a, cap, rfl, hcap, h⟩ := h
  refine ⟨a, cap, rfl, hcap, fun h0 => ?_⟩
  obtain ⟨b, o, rfl, hlt, hc⟩ := h h0
  exact ⟨b, o, rfl, Nat.lt_of_lt_of_le hlt hb.size, fun k hk => (hb.cell (p := ⟨b, o + k, none⟩) hlt).trans (hc k hk)⟩
theorem valB_append : ∀ (d : List Int) (x : Int), valB (d ++ [x]) = valB d + 256 ^ d.length * x
  | [], x => by simp [valB]
  | y :: r, x => by
    rw [List.cons_append, valB, valB, valB_append r x, List.length_cons, Int.pow_succ, Int.mul_add, Int.mul_comm (256 ^ r.length) 256, Int.mul_assoc]
    omega
theorem valB_bd : ∀ (d : List Int), Byt d → 0 ≤ valB d ∧ valB d < 256 ^ d.length
  | [], _ => ⟨Int.le_refl _, by decide⟩
  | x :: r, h => by
    have h0 := h 0
    rw [getD_cons_zero'] at h0
    obtain ⟨a, b⟩ := valB_bd r (fun k => by have := h (k + 1); rwa [getD_cons_succ'] at this)
    rw [valB, List.length_cons, Int.pow_succ]
    exact ⟨by omega, by omega⟩
theorem Byt.append {d : List Int} {x : Int} (h : Byt d) (h0 : 0 ≤ x) (h1 : x < 256) : Byt (d ++ [x]) := fun k => by
  rcases Nat.lt_or_ge k d.length with g | g
  · have e : (d ++ [x]).getD k 0 = d.getD k 0 := by simp [List.getD, List.getElem?_append_left g]
    rw [e]; exact h k
  · rcases Nat.lt_or_ge d.length k with g' | g'
    · have e : (d ++ [x]).getD k 0 = 0 := by
        simp only [List.getD]
        rw [List.getElem?_eq_none (by simp; omega)]; rfl
      rw [e]; exact ⟨by decide, by decide⟩
    · have e : k = d.length := by omega
      subst e
      have e : (d ++ [x]).getD d.length 0 = x := by simp [List.getD]
      rw [e]; exact ⟨h0, h1⟩
end Go.Proofs.Ytlpmmejdfenkiaa.Wd
