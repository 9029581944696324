/- net: what a net told plainly keeps. -/
import Derived.Test.YtemapnfbmhjlbaaOA
import Derived.Test.YtemapnfbmhjlbaaNR
import Derived.Test.YtemapnfbmhjlbaaNW
namespace Go.Proofs.Ytemapnfbmhjlbaa
open Go.RowKit Go.Maps Go.Joins
set_option linter.unusedSimpArgs false
set_option linter.unusedVariables false
structure AOk (A : NA) (M : Int) : Prop where
  nx : 0 ≤ A.next ∧ A.next ≤ M
  ck : 0 ≤ A.clk ∧ A.clk ≤ 1099511627776
  fl : A.fl.length ≤ 4096
  tm : A.tm.length ≤ 4096
  at_ : ∀ t ∈ A.tm, 0 ≤ t.at_ ∧ t.at_ ≤ 1099511627776
  bs : ∀ q ∈ A.fl, q.2.2.2.length ≤ 65536
  asc : Asc A.tm
  rise : A.fl.Pairwise (fun p q => p.1 < q.1)
  idn : ∀ q ∈ A.fl, 0 ≤ q.1 ∧ q.1 < A.next
theorem AOk.mono {A : NA} {M M' : Int} (h : AOk A M) (hM : M ≤ M') : AOk A M' := { h with nx := ⟨h.nx.1, Int.le_trans h.nx.2 hM⟩ }
theorem AOk.nok {N : NS} {M : Int} (h : AOk (absN N) M) (hM : M ≤ 4611686018427387904) : NOk N where
  nx := ⟨h.nx.1, Int.le_trans h.nx.2 hM⟩
  ck := h.ck
  fl := by have := h.fl; simpa [absN] using this
  tm := h.tm
  at_ := h.at_
  bs := fun p hp => h.bs (pkA p) (List.mem_map_of_mem hp)
theorem AOk.ris {N : NS} {M : Int} (h : AOk (absN N) M) : Rise N.fl := fun i j p q hp hq hij => by
  have h1 : (absN N).fl = N.fl.map pkA := rfl
  have h2 := h.rise
  rw [h1, List.pairwise_iff_getElem] at h2
  obtain ⟨a1, a2⟩ := List.getElem?_eq_some_iff.1 hp
  obtain ⟨b1, b2⟩ := List.getElem?_eq_some_iff.1 hq
  have h3 := h2 i j (by simpa using a1) (by simpa using b1) hij
  rw [List.getElem_map, List.getElem_map, a2, b2] at h3
  exact h3
theorem AOk.new (n : Int) : AOk ⟨n, 0, 0, [], []⟩ 0 :=
  ⟨⟨Int.le_refl _, Int.le_refl _⟩, ⟨Int.le_refl _, by show (0 : Int) ≤ 1099511627776; omega⟩, Nat.zero_le _, Nat.zero_le _, (fun t h => by cases h), (fun t h => by cases h), (fun i j p q h => by simp at h), List.Pairwise.nil, (fun t h => by cases h)⟩
theorem AOk.put {A : NA} {M : Int} (h : AOk A M) (hf : A.fl.length < 4096) (fr to : Int) (bs : List Int) (hb : bs.length ≤ 65536) : AOk (nPut A fr to bs) (M + 1) where
  nx := by have := h.nx; show 0 ≤ A.next + 1 ∧ A.next + 1 ≤ M + 1; omega
  ck := h.ck
  fl := by show (A.fl ++ [_]).length ≤ 4096; rw [List.length_append]; simp; omega
  tm := h.tm
  at_ := h.at_
  bs := fun q hq => by
    rcases List.mem_append.1 hq with hq | hq
    · exact h.bs q hq
    · rw [List.mem_singleton.1 hq]; exact hb
  asc := h.asc
  rise := by
    show (A.fl ++ [_]).Pairwise _
    rw [List.pairwise_append]
    exact ⟨h.rise, List.pairwise_singleton _ _, fun p hp q hq => by rw [List.mem_singleton.1 hq]; exact (h.idn p hp).2⟩
  idn := fun q hq => by
    show 0 ≤ q.1 ∧ q.1 < A.next + 1
    rcases List.mem_append.1 hq with hq | hq
    · have := h.idn q hq; omega
    · rw [List.mem_singleton.1 hq]; have := h.nx; show 0 ≤ A.next ∧ A.next < A.next + 1; omega
theorem AOk.send {A : NA} {M : Int} (h : AOk A M) (fr to : Int) (bs : List Int) : AOk (nSend A fr to bs).2 (M + 1) := by
  unfold nSend
  split
  · exact h.mono (by omega)
  · split
    · exact h.mono (by omega)
    · split
      · exact h.mono (by omega)
      · split
        · exact h.mono (by omega)
        · exact h.put (by omega) fr to bs (by omega)
theorem AOk.copy {A : NA} {M : Int} (h : AOk A M) (id : Int) : AOk (nCopy A id).2 (M + 1) := by
  unfold nCopy
  split
  · exact h.mono (by omega)
  · rename_i q hq
    split
    · exact h.mono (by omega)
    · exact h.put (by omega) _ _ _ (h.bs q (List.mem_of_find?_eq_some hq))
theorem AOk.take {A : NA} {M : Int} (h : AOk A M) (id : Int) : AOk (nTake A id).2.2 M := by
  unfold nTake
  split
  · exact h
  · rename_i q hq
    have hs := List.eraseP_sublist (p := fun q : PA => q.1 == id) (l := A.fl)
    exact ⟨h.nx, h.ck, Nat.le_trans hs.length_le h.fl, h.tm, h.at_, fun q hq => h.bs q (hs.subset hq), h.asc, h.rise.sublist hs, fun q hq => h.idn q (hs.subset hq)⟩
theorem slot_lt {l : List TM} (h : Asc l) {T : Int} : ∀ {i : Nat} {t : TM}, l[i]? = some t → (i < slot l T → t.at_ ≤ T) ∧ (slot l T ≤ i → T < t.at_) := by
  induction l with
  | nil => intro i t ht; simp at ht
  | cons a l ih =>
    intro i t ht
    have hl : Asc l := fun i j p q hp hq hij => h (i + 1) (j + 1) p q (by simpa using hp) (by simpa using hq) (by omega)
    have hs : slot (a :: l) T = slot l T + if a.at_ ≤ T then 1 else 0 := by
      unfold slot
      rw [List.countP_cons]
      simp
    by_cases ha : a.at_ ≤ T
    · rw [hs, if_pos ha]
      cases i with
      | zero =>
        simp at ht
        subst ht
        exact ⟨fun _ => ha, fun h => by omega⟩
      | succ i =>
        have ht' : l[i]? = some t := by simpa using ht
        have := ih hl ht'
        exact ⟨fun h => this.1 (by omega), fun h => this.2 (by omega)⟩
    · have hall : ∀ x ∈ a :: l, T < x.at_ := fun x hx => by
        obtain ⟨k, hk, hk2⟩ := List.getElem_of_mem hx
        have hk3 : (a :: l)[k]? = some x := by rw [List.getElem?_eq_getElem hk, hk2]
        cases k with
        | zero => simp at hk3; subst hk3; omega
        | succ k => have := h 0 (k + 1) a x rfl hk3 (by omega); omega
      have h0 : slot (a :: l) T = 0 := by
        unfold slot
        rw [List.countP_eq_zero]
        intro x hx
        have := hall x hx
        simp; omega
      rw [h0]
      exact ⟨fun h => by omega, fun _ => hall t (List.mem_of_getElem? ht)⟩
theorem asc_pw {l : List TM} : Asc l ↔ l.Pairwise (fun p q => p.at_ ≤ q.at_) := by
  rw [List.pairwise_iff_getElem]
  constructor
  · intro h i j hi hj hij
    exact h i j _ _ (List.getElem?_eq_getElem hi) (List.getElem?_eq_getElem hj) hij
  · intro h i j p q hp hq hij
    obtain ⟨a1, a2⟩ := List.getElem?_eq_some_iff.1 hp
    obtain ⟨b1, b2⟩ := List.getElem?_eq_some_iff.1 hq
    have := h i j a1 b1 hij
    rw [a2, b2] at this
    exact this
theorem asc_ins {l : List TM} (h : Asc l) (t : TM) : Asc (insT l t) := by
  rw [asc_pw]
  unfold insT
  have hp := asc_pw.1 h
  have ht : ∀ x ∈ l.take (slot l t.at_), x.at_ ≤ t.at_ := fun x hx => by
    obtain ⟨k, hk, hk2⟩ := List.getElem_of_mem hx
    rw [List.length_take] at hk
    have hk3 : l[k]? = some x := by rw [List.getElem_take] at hk2; rw [List.getElem?_eq_getElem (by omega), hk2]
    exact (slot_lt h hk3).1 (by omega)
  have hd : ∀ x ∈ l.drop (slot l t.at_), t.at_ < x.at_ := fun x hx => by
    obtain ⟨k, hk, hk2⟩ := List.getElem_of_mem hx
    rw [List.length_drop] at hk
    have hk3 : l[slot l t.at_ + k]? = some x := by rw [List.getElem_drop] at hk2; rw [List.getElem?_eq_getElem (by omega), hk2]
    exact (slot_lt h hk3).2 (by omega)
  rw [List.pairwise_append, List.pairwise_append]
  refine ⟨⟨hp.sublist (List.take_sublist _ _), List.pairwise_singleton _ _, fun x hx y hy => by rw [List.mem_singleton.1 hy]; exact ht x hx⟩, hp.sublist (List.drop_sublist _ _), fun x hx y hy => ?_⟩
  rcases List.mem_append.1 hx with hx | hx
  · have := ht x hx; have := hd y hy; omega
  · rw [List.mem_singleton.1 hx]; have := hd y hy; omega
theorem mem_ins {l : List TM} {t x : TM} (h : x ∈ insT l t) : x ∈ l ∨ x = t := by
  unfold insT at h
  rcases List.mem_append.1 h with h | h
  · rcases List.mem_append.1 h with h | h
    · exact Or.inl (List.mem_of_mem_take h)
    · exact Or.inr (List.mem_singleton.1 h)
  · exact Or.inl (List.mem_of_mem_drop h)
theorem ins_length (l : List TM) (t : TM) : (insT l t).length = l.length + 1 := by
  unfold insT
  have := slot_le l t.at_
  simp only [List.length_append, List.length_take, List.length_drop, List.length_cons, List.length_nil]
  omega
theorem AOk.set {A : NA} {M : Int} (h : AOk A M) (node tag delay : Int) : AOk (nSet A node tag delay).2 M := by
  unfold nSet
  split
  · exact h
  · split
    · exact h
    · split
      · exact h
      · split
        · exact h
        · refine { h with tm := ?_, at_ := fun t ht => ?_, asc := asc_ins h.asc _ }
          · show (insT _ _).length ≤ 4096
            rw [ins_length]; omega
          · rcases mem_ins ht with ht | rfl
            · exact h.at_ t ht
            · have := h.ck; show 0 ≤ A.clk + delay ∧ A.clk + delay ≤ 1099511627776; omega
theorem AOk.tick {A : NA} {M : Int} (h : AOk A M) (most : Int) : AOk (nTick A most).2 M := by
  have hw : AOk (nWait A most) M := by
    refine { h with ck := ?_ }
    have := h.ck
    show 0 ≤ A.clk + min (max most 0) (1099511627776 - A.clk) ∧ A.clk + min (max most 0) (1099511627776 - A.clk) ≤ 1099511627776
    omega
  unfold nTick
  split
  · exact hw
  · rename_i t r he
    split
    · exact hw
    · have h1 := h.at_ t (by rw [he]; simp)
      have h2 := h.ck
      have hs := List.drop_sublist (many A.tm) A.tm
      refine { h with ck := ?_, tm := Nat.le_trans hs.length_le h.tm, at_ := fun t ht => h.at_ t (hs.subset ht), asc := asc_pw.2 ((asc_pw.1 h.asc).sublist hs) }
      show 0 ≤ max t.at_ A.clk ∧ max t.at_ A.clk ≤ 1099511627776
      omega
theorem set_any {w : World} {b : Nat} {N : NS} (h : NetIs w b N) (ho : NOk N) (hs : Asc N.tm) (node tag delay : Int) :
    Calls Try.prog 18 #[.pointer (some ⟨b, 0, none⟩), .int .i64 node, .int .i64 tag, .int .i64 delay] w fun e w' => StR w b N (nSet (absN N) node tag delay) e w' := by
  have e1 : (absN N).nodes = N.nodes := rfl
  have e2 : (absN N).clk = N.clk := rfl
  have e3 : (absN N).tm = N.tm := rfl
  unfold nSet
  rw [e1, e2, e3]
  cases hc : isB N.nodes node
  · rw [if_pos rfl]
    refine (set_no1 h node tag delay (Or.inl hc)).mono ?_
    rintro e w' ⟨rfl, hb⟩
    exact ⟨rfl, N, h.below hb, NFr.below hb, rfl⟩
  · rw [if_neg (by simp)]
    by_cases hd : delay < 0
    · rw [if_pos hd]
      refine (set_no1 h node tag delay (Or.inr hd)).mono ?_
      rintro e w' ⟨rfl, hb⟩
      exact ⟨rfl, N, h.below hb, NFr.below hb, rfl⟩
    · rw [if_neg hd]
      by_cases hl : 1099511627776 - N.clk < delay
      · rw [if_pos hl]
        have := set_no2 h ho node tag delay hc (by omega) (Or.inl hl)
        rw [if_pos hl] at this
        exact this
      · rw [if_neg hl]
        by_cases hf : 4096 ≤ N.tm.length
        · rw [if_pos hf]
          have := set_no2 h ho node tag delay hc (by omega) (Or.inr hf)
          rw [if_neg hl] at this
          exact this
        · rw [if_neg hf]
          exact set_ok h ho hs node tag delay hc (by omega) hl hf
end Go.Proofs.Ytemapnfbmhjlbaa
