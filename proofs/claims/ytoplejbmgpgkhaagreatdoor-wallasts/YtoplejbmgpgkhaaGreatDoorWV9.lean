/- wal: a log behind a crash. -/
import Derived.Test.YtoplejbmgpgkhaaGreatDoorM41
namespace Go.Proofs.YtoplejbmgpgkhaaGreatDoor
open Go.RowKit Go.Maps Go.Joins Go.Sort
set_option linter.unusedVariables false
set_option linter.unusedSimpArgs false
/-- A part of a frame is no record. -/
theorem nx_cut {r : List Int} (hl : r.length ≤ 65536) (q : Nat) (hq : q < 12 + r.length) : (nx ((frameB r).take q)).1 = 10 := by
  have hlen : ((frameB r).take q).length = q := by
    rw [List.length_take, frameB_length]
    omega
  by_cases h12 : q < 12
  · unfold nx
    rw [hlen, if_pos h12]
  · have h0 := nx_frame r [] hl
    rw [List.append_nil] at h0
    have hg : ∀ j, j < 12 → ((frameB r).take q).getD j 0 = (frameB r).getD j 0 := fun j hj => by
      rw [List.getD_eq_getElem?_getD, List.getElem?_take_of_lt (by omega), ← List.getD_eq_getElem?_getD]
    have hn0 : numAt ((frameB r).take q) 0 = numAt (frameB r) 0 := by
      unfold numAt
      rw [hg 0 (by omega), hg (0 + 1) (by omega), hg (0 + 2) (by omega), hg (0 + 3) (by omega)]
    have hn4 : numAt ((frameB r).take q) 4 = numAt (frameB r) 4 := by
      unfold numAt
      rw [hg 4 (by omega), hg (4 + 1) (by omega), hg (4 + 2) (by omega), hg (4 + 3) (by omega)]
    have ht : ((frameB r).take q).take 4 = (frameB r).take 4 := by
      rw [List.take_take, Nat.min_eq_left (by omega)]
    have hfl : (frameB r).length = 12 + r.length := frameB_length r
    unfold nx at h0
    rw [hfl, if_neg (by omega)] at h0
    by_cases h1 : numAt (frameB r) 4 ≠ sumB ((frameB r).take 4) ∨ 65536 < (numAt (frameB r) 0).toNat
    · rw [if_pos h1] at h0
      exact absurd (show (_ : Int) = 0 from congrArg Prod.fst h0) (by simp)
    · rw [if_neg h1] at h0
      have hN : (numAt (frameB r) 0).toNat = r.length := by
        by_cases h2 : 12 + r.length < 12 + (numAt (frameB r) 0).toNat
        · rw [if_pos h2] at h0
          exact absurd (show (_ : Int) = 0 from congrArg Prod.fst h0) (by simp)
        · rw [if_neg h2] at h0
          split at h0
          · exact absurd (show (_ : Int) = 0 from congrArg Prod.fst h0) (by simp)
          · have := congrArg (fun x => x.2.1) h0
            dsimp only at this
            omega
      unfold nx
      rw [hlen, if_neg h12, hn4, ht, hn0, if_neg h1, hN, if_pos hq]
theorem joinF_le {a b : List (List Int)} (h : a <+: b) : (joinF a).length ≤ (joinF b).length := by
  obtain ⟨t, rfl⟩ := h
  rw [joinF_append, List.length_append]
  omega
/-- What a cut leaves of frames. -/
theorem joinF_cut {rs : List (List Int)} (hl : ∀ r ∈ rs, r.length ≤ 65536) (m : Nat) (hm : m ≤ (joinF rs).length) : ∃ i t, i ≤ rs.length ∧ (joinF rs).take m = joinF (rs.take i) ++ t ∧ (t = [] ∨ (nx t).1 = 10) ∧ ∀ j, j ≤ rs.length → (joinF (rs.take j)).length ≤ m → j ≤ i := by
  by_cases he : m = (joinF rs).length
  · exact ⟨rs.length, [], Nat.le_refl _, by rw [he, List.take_length, List.take_length, List.append_nil], Or.inl rfl, fun j hj _ => hj⟩
  · obtain ⟨pre, r, post, e, h1, h2⟩ := split_at rs m (by omega)
    have hr : r ∈ rs := by rw [e]; simp
    have hi : rs.take pre.length = pre := by rw [e, List.take_left]
    have hJ : joinF rs = joinF pre ++ (frameB r ++ joinF post) := by
      rw [e, joinF_append]
      rfl
    have hfl := frameB_length r
    refine ⟨pre.length, (frameB r).take (m - (joinF pre).length), by rw [e, List.length_append]; omega, ?_, Or.inr (nx_cut (hl r hr) _ (by omega)), fun j hj hjm => ?_⟩
    · rw [hi, hJ, List.take_append, List.take_of_length_le h1, List.take_append, show m - (joinF pre).length - (frameB r).length = 0 by omega, List.take_zero, List.append_nil]
    · rcases Nat.lt_or_ge pre.length j with h3 | h3
      · exfalso
        have h4 : pre ++ [r] <+: rs.take j := by
          have h5 : pre ++ [r] = rs.take (pre.length + 1) := by
            rw [e, List.take_append, List.take_of_length_le (by omega), show pre.length + 1 - pre.length = 1 by omega]
            rfl
          rw [h5]
          exact List.take_prefix_take_left (by omega)
        have h5 := joinF_le h4
        rw [joinF_append, joinF_one, List.length_append] at h5
        omega
      · exact h3
theorem fT_mapIdx {g : Nat → Tf → Tf} (hg : ∀ j p, (g j p).1 = p.1) {n : List UInt8} {p : Tf} : ∀ {l : List Tf}, fT l n = some p → ∀ (f : Nat → Nat), ∃ j, fT (l.mapIdx fun i q => g (f i) q) n = some (g j p)
  | [], h, f => by cases h
  | a :: r, h, f => by
    rw [List.mapIdx_cons]
    unfold fT at h ⊢
    by_cases e : a.1 = n
    · rw [List.find?_cons_of_pos (by simpa using e)] at h
      injection h with h
      subst h
      exact ⟨f 0, by rw [List.find?_cons_of_pos (by simp [hg, e])]⟩
    · rw [List.find?_cons_of_neg (by simpa using e)] at h
      rw [List.find?_cons_of_neg (by simp [hg, e])]
      exact fT_mapIdx hg (l := r) h fun i => f (i + 1)
theorem boot_f {l : List Tf} {n : List UInt8} {p : Tf} (ks : List Int) (h : fT l n = some p) (hz : 0 ≤ p.2.2 ∧ p.2.2 ≤ p.2.1.length) : ∃ m : Int, p.2.2 ≤ m ∧ m ≤ p.2.1.length ∧ fT (bootT l ks) n = some (p.1, p.2.1.take m.toNat, m) := by
  obtain ⟨j, hj⟩ := fT_mapIdx (g := fun j p => (p.1, p.2.1.take (keepT p ks j).toNat, keepT p ks j)) (fun _ _ => rfl) h id
  refine ⟨keepT p ks j, ?_, ?_, hj⟩
  · unfold keepT
    split <;> omega
  · unfold keepT
    split <;> omega
theorem boot_nm {l : List Tf} {ks : List Int} {p : Tf} (h : p ∈ bootT l ks) : ∃ q ∈ l, q.1 = p.1 := by
  unfold bootT at h
  obtain ⟨j, hj, rfl⟩ := List.mem_mapIdx.1 h
  exact ⟨l[j], List.getElem_mem hj, rfl⟩
theorem nmS_boot (l : List Tf) (ks : List Int) : nmS (bootT l ks) = nmS l := by
  unfold nmS bootT
  apply List.ext_getElem?
  intro j
  rw [List.getElem?_map, List.getElem?_mapIdx, List.getElem?_map, Option.map_map]
  rfl
/-- Where the next file begins. -/
def At (P : PL) (n : Int) : Prop := (P.fs = [] ∧ P.rs = []) ∨ (P.fs ≠ [] ∧ P.en = n)
theorem At.ok {P : PL} {n : Int} (h : At P n) : ¬ (P.fs ≠ [] ∧ n ≠ P.en) := by
  rcases h with ⟨h1, _⟩ | ⟨_, h2⟩
  · exact fun h => h.1 h1
  · exact fun h => h.2 h2.symm
theorem At.next {P : PL} {n : Int} (h : At P n) (rs : List (List Int)) (z : Int) : At { P with fs := P.fs ++ [n], rs := P.rs ++ rs, size := z } (n + rs.length) := by
  refine Or.inr ⟨by simp, ?_⟩
  rcases h with ⟨h1, h2⟩ | ⟨h1, h2⟩
  · show (P.fs ++ [n]).headD 0 + ((P.rs ++ rs).length : Int) = _
    rw [h1, h2]
    rfl
  · show (P.fs ++ [n]).headD 0 + ((P.rs ++ rs).length : Int) = _
    have h3 : (P.fs ++ [n]).headD 0 = P.fs.headD 0 := by
      cases hf : P.fs with
      | nil => exact absurd hf h1
      | cons a r => rfl
    have h4 : P.fs.headD 0 + (P.rs.length : Int) = n := h2
    rw [h3, List.length_append]
    omega
/-- Whole files are taken. -/
theorem opx_full {b : List Int} : ∀ (gs : List Seg) {A A' : DA} {P P' : PL} {c n : Int}, Up A → (∀ s ∈ gs, ∃ z, SegOk A.l s z) → SegSeq n gs → At P n → OpX A P (gs.map (·.1) ++ b) c A' P' →
    ∃ A1 z, Up A1 ∧ A1.l = A.l ∧ At { P with fs := P.fs ++ gs.map (·.1), rs := P.rs ++ gs.flatMap (·.2), size := z } (n + cntS gs) ∧ OpX A1 { P with fs := P.fs ++ gs.map (·.1), rs := P.rs ++ gs.flatMap (·.2), size := z } b c A' P'
  | [], A, A', P, P', c, n, hu, _, _, ha, h => by
    refine ⟨A, P.size, hu, rfl, ?_, ?_⟩
    · simp only [List.map_nil, List.flatMap_nil, List.append_nil]
      have : n + (cntS [] : Int) = n := by show n + (0 : Nat) = n; omega
      rw [this]
      exact ha
    · simp only [List.map_nil, List.flatMap_nil, List.append_nil]
      exact h
  | g :: r, A, A', P, P', c, n, hu, hs, hq, ha, h => by
    obtain ⟨c1, A1, P1, hx, ho⟩ := h
    obtain ⟨z, hz⟩ := hs g List.mem_cons_self
    have hf : fT A.l (nmF g.1) = some (nmF g.1, joinF g.2 ++ [], z) := by
      rw [List.append_nil]
      exact hz.here
    have hgn : g.1 = n := hq.1
    have hc : P1 = { P with fs := P.fs ++ [g.1], rs := P.rs ++ g.2, size := (joinF g.2).length } ∧ c1 = 0 ∧ A1 = (dRead A (fileB logB g.1)).2 := by
      rcases ldx_file hu hz.nm hf hz.len (Or.inl rfl) hx with ⟨h4, h5, _⟩ | ⟨_, ⟨h5, _⟩ | ⟨h4, ⟨_, h5⟩ | ⟨h5, _⟩⟩⟩
      · rw [hgn] at h5
        exact absurd ⟨h4, h5⟩ ha.ok
      · exact absurd rfl h5
      · exact ⟨h4, h5⟩
      · exact absurd rfl h5
    obtain ⟨rfl, rfl, rfl⟩ := hc
    have e : (dRead A (fileB logB g.1)).2.l = A.l := by
      show (if _ then A.l else A.l) = A.l
      split <;> rfl
    rcases ho with ⟨h5, _⟩ | ⟨_, h6⟩
    · exact absurd rfl h5
    · have ha' := ha.next g.2 (joinF g.2).length
      rw [← hgn] at ha'
      obtain ⟨A2, z2, k1, k2, k3, k4⟩ := opx_full r (hu.next _ 0 _ : Up (dRead A (fileB logB g.1)).2) (fun s hs' => by
        show ∃ z, SegOk (dRead A (fileB logB g.1)).2.l s z
        rw [e]
        exact hs s (List.mem_cons_of_mem _ hs')) (hgn ▸ hq.2.2) ha' h6
      refine ⟨A2, z2, k1, k2.trans e, ?_, ?_⟩
      · have e1 : n + (cntS (g :: r) : Int) = g.1 + g.2.length + cntS r := by
          rw [cntS_cons, hgn]
          omega
        rw [e1]
        simp only [List.map_cons, List.flatMap_cons] at k3 ⊢
        simp only [List.append_assoc, List.cons_append, List.nil_append] at k3 ⊢
        exact k3
      · simp only [List.map_cons, List.flatMap_cons] at k4 ⊢
        simp only [List.append_assoc, List.cons_append, List.nil_append] at k4 ⊢
        exact k4
/-- Behind a crash: what was safe, and some of the others. -/
theorem open_crash {A A' : DA} {P P' : PL} {ini : List Seg} {la : Option Seg} {sc : Nat} {ro most c : Int} {ks : List Int} (h : LV A.l P ini la sc) (hs : Srt A.l) (hw : Wf A.l ro) {st ar rm : Int}
    (ho : OpX ⟨bootT A.l ks, false, st, ar, fun _ => 0, rm⟩ ⟨[], [], 0, false, most⟩ (srtI (numsOf (nmS (bootT A.l ks)))) c A' P') : c = 0 ∧ P'.fst = 0 ∧ sc ≤ P'.rs.length ∧ P'.rs <+: P.rs ∧ P'.fs = P.fs := by
  rw [nmS_boot, h.nums hs, List.map_append] at ho
  have hu : Up (⟨bootT A.l ks, false, st, ar, fun _ => 0, rm⟩ : DA) := ⟨rfl, fun _ => rfl⟩
  have hfull : ∀ s ∈ ini, ∃ z, SegOk (bootT A.l ks) s z := fun s hs' => by
    have h1 := h.full s hs'
    have h2 := hw.safe _ (fT_mem h1.here).1
    obtain ⟨m, m1, m2, m3⟩ := boot_f ks h1.here h2
    refine ⟨m, h1.nm, ?_, h1.len⟩
    rw [m3]
    dsimp only at m1 m2 ⊢
    rw [List.take_of_length_le (by omega)]
  have hq : SegSeq 0 ini := by
    have := h.seq
    generalize (0 : Int) = n at this
    clear h ho hfull hs hw
    induction ini generalizing n with
    | nil => trivial
    | cons g r ih => exact ⟨this.1, this.2.1, ih _ this.2.2⟩
  obtain ⟨A1, z1, k1, k2, k3, k4⟩ := opx_full ini hu hfull hq (Or.inl ⟨rfl, rfl⟩) ho
  cases hla : la with
  | none =>
    rw [hla] at k4
    obtain ⟨rfl, _, rfl⟩ := k4
    obtain ⟨q1, q2, q3, q4⟩ := h.nil0 hla
    subst q1
    refine ⟨rfl, rfl, by rw [q4]; exact Nat.zero_le _, by simp, ?_⟩
    rw [h.fs, hla]
    rfl
  | some s =>
    rw [hla] at k4
    obtain ⟨c1, A2, P2, hx, ho2⟩ := k4
    obtain ⟨q1, j, q2, q3, q4, q5⟩ := h.las s hla
    have hz := hw.safe _ (fT_mem q3.here).1
    obtain ⟨m, m1, m2, m3⟩ := boot_f ks q3.here hz
    dsimp only at m1 m2 m3 hz
    obtain ⟨i, t, i1, i2, i3, i4⟩ := joinF_cut q3.len m.toNat (by omega)
    have hi := i4 j q2 (by omega)
    have hsn : s.1 = (cntS ini : Int) := by
      have h1 := h.seq
      rw [hla] at h1
      have h2 : SegSeq 0 (ini ++ [s]) := h1
      clear h1 ho hfull hs hw k1 k2 k3 hx ho2 q1 q2 q3 q4 q5 hz m1 m2 m3 i1 i2 i3 i4 hi h
      have : ∀ n, SegSeq n (ini ++ [s]) → s.1 = n + cntS ini := by
        clear h2 hq
        induction ini with
        | nil => intro n h; have := h.1; show s.1 = n + (0 : Nat); omega
        | cons g r ih =>
          intro n h
          have := ih _ h.2.2
          rw [cntS_cons]
          omega
      have := this 0 h2
      omega
    have hf : fT A1.l (nmF s.1) = some (nmF s.1, joinF (s.2.take i) ++ t, m) := by
      rw [k2]
      show fT (bootT A.l ks) (nmF s.1) = _
      rw [m3, i2]
    have hli : ∀ r ∈ s.2.take i, r.length ≤ 65536 := fun r hr => q3.len r (List.mem_of_mem_take hr)
    have hsn' : s.1 = 0 + (cntS ini : Int) := by omega
    have hP2 : c1 = 0 ∧ P2 = { (⟨[], [], 0, false, most⟩ : PL) with fs := [] ++ ini.map (·.1) ++ [s.1], rs := [] ++ ini.flatMap (·.2) ++ s.2.take i, size := (joinF (s.2.take i)).length } := by
      rcases ldx_file k1 q3.nm hf hli (i3.imp id fun h => by rw [h]; decide) hx with ⟨h4, h5, _⟩ | ⟨_, ⟨h4, h5, _⟩ | ⟨h4, ⟨_, h5, _⟩ | ⟨h6, _, _, h5, _⟩⟩⟩
      · exact absurd ⟨h4, hsn' ▸ h5⟩ k3.ok
      · exfalso
        rcases i3 with h6 | h6
        · exact h4 h6
        · exact h5 ⟨h6, rfl⟩
      · exact ⟨h5, h4⟩
      · refine ⟨?_, h4⟩
        rw [h5]
        have hu2 : Up (dRead A1 (fileB logB s.1)).2 := k1.next _ 0 _
        have el : (dRead A1 (fileB logB s.1)).2.l = A1.l := by
          show (if _ then A1.l else A1.l) = A1.l
          split <;> rfl
        show (if (dRead A1 (fileB logB s.1)).2.sE _ = 0 then eTru _ _ _ else _) = 0
        rw [if_pos (hu2.sE q3.nm), el]
        unfold eTru
        have hf' : fT A1.l (nb (fileB logB s.1)) = _ := hf
        rw [if_pos q3.nm, hf']
        dsimp only
        rw [if_neg (by rw [List.length_append]; omega)]
    obtain ⟨rfl, rfl⟩ := hP2
    rcases ho2 with ⟨h5, _⟩ | ⟨_, h5, _, rfl⟩
    · exact absurd rfl h5
    · have hcnt : ((ini.flatMap (·.2)).length : Nat) = cntS ini := rfl
      refine ⟨h5, ?_, ?_, ?_, ?_⟩
      · show (([] : List Int) ++ ini.map (·.1) ++ [s.1]).headD 0 = 0
        cases hini : ini with
        | nil =>
          rw [hini] at hsn
          exact hsn
        | cons g r =>
          rw [hini] at hq
          exact hq.1
      · show sc ≤ (([] : List (List Int)) ++ ini.flatMap (·.2) ++ s.2.take i).length
        rw [List.nil_append, List.length_append, List.length_take, hcnt]
        omega
      · show ([] : List (List Int)) ++ ini.flatMap (·.2) ++ s.2.take i <+: P.rs
        rw [h.rs, hla, List.flatMap_append, List.nil_append]
        show _ <+: ini.flatMap (·.2) ++ [s].flatMap (·.2)
        simp only [List.flatMap_cons, List.flatMap_nil, List.append_nil]
        exact (List.prefix_append_right_inj _).2 (List.take_prefix _ _)
      · show ([] : List Int) ++ ini.map (·.1) ++ [s.1] = P.fs
        rw [h.fs, hla, List.map_append]
        rfl
end Go.Proofs.YtoplejbmgpgkhaaGreatDoor
