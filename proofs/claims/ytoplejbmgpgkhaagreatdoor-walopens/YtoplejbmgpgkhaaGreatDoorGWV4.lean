/- WV3, WV4 -/
import Derived.Test.YtoplejbmgpgkhaaGreatDoorGWV2
namespace Go.Proofs.YtoplejbmgpgkhaaGreatDoor
open Go.RowKit
set_option linter.unusedVariables false
set_option linter.unusedSimpArgs false
/-- What was safe stays told. -/
theorem LV.less {l : List Tf} {P : PL} {ini : List Seg} {la : Option Seg} {sc sc' : Nat} (h : LV l P ini la sc) (hs : sc' ≤ sc) : LV l P ini la sc' :=
  ⟨h.fs, h.rs, h.seq, h.full, fun hn => ⟨(h.nil0 hn).1, (h.nil0 hn).2.1, (h.nil0 hn).2.2.1, by have := (h.nil0 hn).2.2.2; omega⟩, fun s hs' => by
    obtain ⟨q1, j, q2, q3, q4, q5⟩ := h.las s hs'
    exact ⟨q1, j, q2, q3, q4, by omega⟩, h.only⟩
theorem dApp_err {A : DA} {s : ByteArray} {bs : List Int} (h : ¬ (dApp A s bs).1 = 0) : (dApp A s bs).2.l = A.l := by
  have h1 : ¬ (if A.sE s = 0 then eApp A.l A.room s bs else A.sE s) = 0 := h
  show (if A.sE s = 0 then lApp A.l A.room s bs else A.l) = A.l
  split
  · rename_i h0
    rw [if_pos h0] at h1
    unfold eApp at h1
    unfold lApp
    split
    · rename_i h2
      rw [if_pos h2] at h1
      split
      · rfl
      · rename_i h3
        rw [if_neg h3] at h1
        split
        · rfl
        · rename_i h4
          rw [if_neg h4] at h1
          exact absurd rfl h1
    · rfl
  · rfl
theorem dApp_ok {A : DA} {s : ByteArray} {bs : List Int} (h : (dApp A s bs).1 = 0) : nameB s = true ∧ (dApp A s bs).2.l = (match fT A.l (nb s) with | some p => setT A.l (nb s) (p.2.1 ++ bs) p.2.2 | none => putT A.l (nb s, bs, 0)) := by
  have h1 : (if A.sE s = 0 then eApp A.l A.room s bs else A.sE s) = 0 := h
  have h0 : A.sE s = 0 := by
    by_cases h0 : A.sE s = 0
    · exact h0
    · rw [if_neg h0] at h1
      exact h1
  rw [if_pos h0] at h1
  have hl : (dApp A s bs).2.l = lApp A.l A.room s bs := if_pos h0
  rw [hl]
  unfold eApp at h1
  unfold lApp
  by_cases h2 : nameB s = true
  · rw [if_pos h2] at h1 ⊢
    refine ⟨h2, ?_⟩
    by_cases h3 : fT A.l (nb s) = none ∧ 16 ≤ A.l.length
    · rw [if_pos h3] at h1
      exact absurd h1 (by decide)
    · rw [if_neg h3] at h1 ⊢
      by_cases h4 : A.room < (sumT A.l : Int) + bs.length
      · rw [if_pos h4] at h1
        exact absurd h1 (by decide)
      · rw [if_neg h4]
        cases fT A.l (nb s) <;> rfl
  · rw [if_neg h2] at h1
    exact absurd h1 (by decide)
/-- A record into a new file. -/
theorem LV.put_new {A : DA} {P : PL} {ini : List Seg} {la : Option Seg} {sc : Nat} (h : LV A.l P ini la sc) (hb : P.bg = true) (hu : P.uns = false) (bs : List Int) (hbl : bs.length ≤ 65536) (hok : (dApp A (fileB logB (pNum P)) (frameB bs)).1 = 0) :
    LV (dApp A (fileB logB (pNum P)) (frameB bs)).2.l (pAdd P bs) (ini ++ la.toList) (Option.some (pNum P, [bs])) sc := by
  have hN : pNum P = P.rs.length := by
    unfold pNum
    rw [if_pos hb]
    exact h.en
  have hg : ((ini ++ la.toList).flatMap (·.2)).length = P.rs.length := congrArg List.length h.rs.symm
  obtain ⟨hnm, hl⟩ := dApp_ok hok
  have hlt := name_lt hnm
  have hne : ∀ s ∈ ini ++ la.toList, nmF s.1 ≠ nmF (pNum P) := fun s hs e => by
    obtain ⟨z, hz⟩ := h.ok hs
    have h1 := file_inj (name_lt hz.nm) hlt e
    have h2 := h.seq.ge hs
    have h3 : 0 < s.2.length := List.length_pos_iff.2 (h.seq.pos hs)
    have h4 : cntS (ini ++ la.toList) = P.rs.length := hg
    omega
  have hno : fT A.l (nb (fileB logB (pNum P))) = none := by
    cases hf : fT A.l (nb (fileB logB (pNum P))) with
    | none => rfl
    | some p =>
      obtain ⟨h1, h2⟩ := fT_mem hf
      obtain ⟨s, hs, he⟩ := h.only p h1
      exact absurd (he.symm.trans h2) (hne s hs)
  rw [hno] at hl
  dsimp only at hl
  rw [hl]
  have hkeep : ∀ s ∈ ini ++ la.toList, fT (putT A.l (nb (fileB logB (pNum P)), frameB bs, 0)) (nmF s.1) = fT A.l (nmF s.1) := fun s hs => fT_put (hne s hs)
  refine ⟨?_, ?_, ?_, ?_, fun hn => (by cases hn), ?_, ?_⟩
  · show (if P.bg then P.fs ++ [pNum P] else P.fs) = ((ini ++ la.toList) ++ [(pNum P, [bs])]).map (·.1)
    rw [if_pos hb, h.fs, List.map_append (l₁ := ini ++ la.toList)]
    rfl
  · show P.rs ++ [bs] = ((ini ++ la.toList) ++ [(pNum P, [bs])]).flatMap (·.2)
    rw [h.rs, List.flatMap_append (xs := ini ++ la.toList)]
    rfl
  · refine h.seq.snoc ?_ (by simp)
    show pNum P = 0 + (cntS (ini ++ la.toList) : Int)
    have h4 : cntS (ini ++ la.toList) = P.rs.length := hg
    omega
  · intro s hs
    rcases List.mem_append.1 hs with h1 | h1
    · exact (h.full s h1).kept (hkeep s hs)
    · cases hla : la with
      | none => rw [hla] at h1; cases h1
      | some x =>
        have e : s = x := by
          rw [hla] at h1
          simpa using h1
        subst e
        obtain ⟨_, j, q2, q3, q4, _⟩ := h.las s hla
        have q5 := q4 hu
        rw [q5, List.take_length] at q3
        exact q3.kept (hkeep s hs)
  · intro s hs
    injection hs with hs
    subst hs
    refine ⟨?_, 0, Nat.zero_le _, ⟨hnm, ?_, ?_⟩, ?_, ?_⟩
    · show (if P.bg then (0 : Int) else P.size) + (12 + bs.length) = ((joinF [bs]).length : Int)
      rw [if_pos hb, joinF_one, frameB_length]
      omega
    · show fT _ (nmF (pNum P)) = some (nmF (pNum P), joinF [bs], ((joinF []).length : Int))
      rw [joinF_one]
      exact fT_put_self A.l (nmF (pNum P), frameB bs, 0)
    · intro r hr
      have : r = bs := by simpa using hr
      rw [this]
      exact hbl
    · intro hx
      cases hx
    · have h1 := h.sc_le
      have h4 : cntS (ini ++ la.toList) = P.rs.length := hg
      omega
  · intro p hp
    rcases mem_put_nm hp with rfl | hp
    · exact ⟨(pNum P, [bs]), by simp, rfl⟩
    · obtain ⟨s, hs, he⟩ := h.only p hp
      exact ⟨s, List.mem_append_left _ hs, he⟩
/-- A record into the last file. -/
theorem LV.put_old {A : DA} {P : PL} {ini : List Seg} {la : Option Seg} {sc : Nat} (h : LV A.l P ini la sc) (hb : P.bg = false) (bs : List Int) (hbl : bs.length ≤ 65536) (hok : (dApp A (fileB logB (pNum P)) (frameB bs)).1 = 0) :
    ∃ la', LV (dApp A (fileB logB (pNum P)) (frameB bs)).2.l (pAdd P bs) ini la' sc := by
  have hbn : ¬ P.bg = true := by rw [hb]; simp
  obtain ⟨s, hs⟩ : ∃ s, la = Option.some s := by
    cases hla : la with
    | none =>
      exfalso
      have h1 := (h.nil0 hla).1
      have h2 := h.fs
      rw [h1, hla] at h2
      apply hbn
      unfold PL.bg
      rw [h2]
      rfl
    | some s => exact ⟨s, rfl⟩
  subst hs
  have hN : pNum P = s.1 := by
    unfold pNum
    rw [if_neg hbn]
    exact h.last rfl
  obtain ⟨q1, j, q2, q3, q4, q5⟩ := h.las s rfl
  obtain ⟨hnm, hl⟩ := dApp_ok hok
  have hh : fT A.l (nb (fileB logB s.1)) = _ := q3.here
  rw [hN] at hl hnm ⊢
  rw [hh] at hl
  dsimp only at hl
  rw [hl]
  refine ⟨Option.some (s.1, s.2 ++ [bs]), ?_, ?_, ?_, fun g hg => (h.full g hg).kept (fT_set (h.ne hg) _ _), fun hn => (by cases hn), ?_, ?_⟩
  · show (if P.bg then P.fs ++ [pNum P] else P.fs) = (ini ++ [(s.1, s.2 ++ [bs])]).map (·.1)
    rw [if_neg hbn, h.fs, List.map_append, List.map_append]
    rfl
  · show P.rs ++ [bs] = (ini ++ [(s.1, s.2 ++ [bs])]).flatMap (·.2)
    rw [h.rs, List.flatMap_append, List.flatMap_append]
    show (ini.flatMap (·.2) ++ [s].flatMap (·.2)) ++ [bs] = ini.flatMap (·.2) ++ [(s.1, s.2 ++ [bs])].flatMap (·.2)
    simp
  · have h1 : SegSeq 0 (ini ++ [s]) := h.seq
    show SegSeq 0 (ini ++ [(s.1, s.2 ++ [bs])])
    have h2 : SegSeq 0 ini ∧ s.1 = 0 + cntS ini := by
      clear q1 q2 q3 q4 q5 hl hh hnm hN hok h
      generalize (0 : Int) = n at h1 ⊢
      induction ini generalizing n with
      | nil => exact ⟨trivial, by have := h1.1; show s.1 = n + (0 : Nat); omega⟩
      | cons g r ih =>
        obtain ⟨a1, a2, a3⟩ := h1
        obtain ⟨b1, b2⟩ := ih _ a3
        exact ⟨⟨a1, a2, b1⟩, by rw [cntS_cons]; omega⟩
    exact h2.1.snoc h2.2 (by simp)
  · intro g hg
    injection hg with hg
    subst hg
    refine ⟨?_, j, by show j ≤ (s.2 ++ [bs]).length; rw [List.length_append]; omega, ⟨hnm, ?_, ?_⟩, fun hx => (by cases hx), q5⟩
    · show (if P.bg then (0 : Int) else P.size) + (12 + bs.length) = ((joinF (s.2 ++ [bs])).length : Int)
      rw [if_neg hbn, joinF_append, joinF_one, List.length_append, frameB_length, q1]
      omega
    · show fT _ (nmF s.1) = some (nmF s.1, joinF (s.2 ++ [bs]), ((joinF ((s.2 ++ [bs]).take j)).length : Int))
      rw [List.take_append_of_le_length q2, joinF_append, joinF_one]
      exact fT_set_self q3.here _ _
    · intro r hr
      rcases List.mem_append.1 hr with h1 | h1
      · exact q3.len r h1
      · have : r = bs := by simpa using h1
        rw [this]
        exact hbl
  · intro p hp
    obtain ⟨q, hq, he⟩ := mem_set_nm hp
    obtain ⟨g, hg, hge⟩ := h.only q hq
    rcases List.mem_append.1 hg with h1 | h1
    · exact ⟨g, List.mem_append_left _ h1, he ▸ hge⟩
    · have e : g = s := by simpa using h1
      subst e
      exact ⟨(g.1, g.2 ++ [bs]), List.mem_append_right _ (by simp), he ▸ hge⟩
/-- Append. -/
theorem LV.app {A : DA} {P : PL} {ini : List Seg} {la : Option Seg} {sc : Nat} (h : LV A.l P ini la sc) (bs : List Int) (hbl : bs.length ≤ 65536) :
    ∃ ini' la', LV (pApp A P bs).2.1.l (pApp A P bs).2.2 ini' la' sc ∧ (pApp A P bs).2.2.rs = (if (pApp A P bs).1 = 0 then P.rs ++ [bs] else P.rs) ∧ (pApp A P bs).2.2.most = P.most := by
  have e1 : pApp A P bs = if P.bg then (if (pSync A P).1 = 0 then pPut (pSync A P).2.1 (pSync A P).2.2 bs else pSync A P) else pPut A P bs := if_neg (by omega)
  rw [e1]
  by_cases hb : P.bg = true
  · rw [if_pos hb]
    obtain ⟨h1, h2⟩ := h.sync
    obtain ⟨r1, r2, r3, r4⟩ := pSync_rest A P
    by_cases h0 : (pSync A P).1 = 0
    · rw [if_pos h0] at h1 ⊢
      have hu := h2 h0
      have hb' : (pSync A P).2.2.bg = true := by
        unfold PL.bg at hb ⊢
        rw [r1, r3, r4]
        exact hb
      generalize (pSync A P).2.1 = A1 at h1 ⊢
      generalize (pSync A P).2.2 = P1 at h1 r1 r2 r3 r4 hu hb' ⊢
      have h3 := h1.less h.sc_le
      unfold pPut
      by_cases hok : (dApp A1 (fileB logB (pNum P1)) (frameB bs)).1 = 0
      · rw [if_pos hok]
        refine ⟨_, _, h3.put_new hb' hu bs hbl hok, ?_, ?_⟩
        · show P1.rs ++ [bs] = if (0 : Int) = 0 then P.rs ++ [bs] else P.rs
          rw [if_pos rfl, r2]
        · exact r4
      · rw [if_neg hok]
        refine ⟨ini, la, ?_, ?_, r4⟩
        · show LV (dApp A1 (fileB logB (pNum P1)) (frameB bs)).2.l P1 ini la sc
          rw [dApp_err hok]
          exact h3
        · dsimp only
          rw [if_neg hok]
          exact r2
    · rw [if_neg h0] at h1 ⊢
      exact ⟨ini, la, h1, by rw [if_neg h0]; exact r2, r4⟩
  · have hb' : P.bg = false := by simpa using hb
    rw [if_neg hb]
    unfold pPut
    by_cases hok : (dApp A (fileB logB (pNum P)) (frameB bs)).1 = 0
    · rw [if_pos hok]
      obtain ⟨la', h1⟩ := h.put_old hb' bs hbl hok
      refine ⟨ini, la', h1, ?_, rfl⟩
      show P.rs ++ [bs] = if (0 : Int) = 0 then P.rs ++ [bs] else P.rs
      rw [if_pos rfl]
    · rw [if_neg hok]
      refine ⟨ini, la, ?_, ?_, rfl⟩
      · show LV (dApp A (fileB logB (pNum P)) (frameB bs)).2.l P ini la sc
        rw [dApp_err hok]
        exact h
      · dsimp only
        rw [if_neg hok]
end Go.Proofs.YtoplejbmgpgkhaaGreatDoor
namespace Go.Proofs.YtoplejbmgpgkhaaGreatDoor
open Go.RowKit
set_option linter.unusedVariables false
set_option linter.unusedSimpArgs false
theorem joinF_len : ∀ rs : List (List Int), 12 * rs.length ≤ (joinF rs).length
  | [] => Nat.zero_le _
  | r :: t => by
    have := joinF_len t
    show 12 * (t.length + 1) ≤ (frameB r ++ joinF t).length
    rw [List.length_append, frameB_length]
    omega
theorem segs_sum : ∀ {gs : List Seg} {l : List Tf}, (gs.map (·.1)).Pairwise (· < ·) → (∀ s ∈ gs, ∃ z, SegOk l s z) → (joinF (gs.flatMap (·.2))).length ≤ sumT l
  | [], l, _, _ => Nat.zero_le _
  | g :: r, l, hp, h => by
    obtain ⟨z, hz⟩ := h g List.mem_cons_self
    have hd := (del_here (n := nmF g.1) (p := (nmF g.1, joinF g.2, z)) rfl (fT_mem hz.here).1).2
    rw [List.map_cons, List.pairwise_cons] at hp
    have ih := segs_sum (gs := r) (l := delT l (nmF g.1)) hp.2 fun s hs => by
      obtain ⟨y, hy⟩ := h s (List.mem_cons_of_mem _ hs)
      refine ⟨y, hy.kept (fT_del fun e => ?_)⟩
      have h1 := file_inj (name_lt hy.nm) (name_lt hz.nm) e
      have h2 := hp.1 s.1 (List.mem_map_of_mem hs)
      omega
    rw [List.flatMap_cons, joinF_append, List.length_append]
    dsimp only at hd
    omega
theorem LV.sum {l : List Tf} {P : PL} {ini : List Seg} {la : Option Seg} {sc : Nat} (h : LV l P ini la sc) : (joinF P.rs).length ≤ sumT l := by
  rw [h.rs]
  exact segs_sum h.seq.lt fun s hs => h.ok hs
theorem LV.small {l : List Tf} {P : PL} {ini : List Seg} {la : Option Seg} {sc : Nat} (h : LV l P ini la sc) {ro : Int} (hw : Wf l ro) (hr : ro ≤ 1073741824) : P.rs.length ≤ 100000000 ∧ P.fs.length ≤ 100000000 ∧ (∀ x ∈ P.fs, 0 ≤ x ∧ x < 1000000000) ∧ 0 ≤ P.size ∧ P.size ≤ 1073741824 := by
  have h1 := h.sum
  have h2 := joinF_len P.rs
  have h3 := hw.sum
  have h4 : P.fs.length ≤ P.rs.length := by
    rw [h.fs, h.rs, List.length_map]
    have h5 := h.seq
    generalize (0 : Int) = n at h5
    generalize ini ++ la.toList = gs at h5
    induction gs generalizing n with
    | nil => exact Nat.le_refl _
    | cons g r ih =>
      have := ih _ h5.2.2
      have h6 : 0 < g.2.length := List.length_pos_iff.2 h5.2.1
      rw [List.flatMap_cons, List.length_append, List.length_cons]
      omega
  refine ⟨by omega, by omega, fun x hx => ?_, ?_⟩
  · rw [h.fs] at hx
    obtain ⟨s, hs, rfl⟩ := List.mem_map.1 hx
    obtain ⟨z, hz⟩ := h.ok hs
    exact name_lt hz.nm
  · cases hla : la with
    | none =>
      have := (h.nil0 hla).2.1
      omega
    | some s =>
      have h5 := (h.las s hla).1
      have h6 : (joinF P.rs).length = (joinF (ini.flatMap (·.2))).length + (joinF s.2).length := by
        rw [h.rs, hla, List.flatMap_append, joinF_append, List.length_append]
        show _ + (joinF ([s].flatMap (·.2))).length = _
        simp
      omega
theorem numOf_back {s : ByteArray} {v : Int} (h : numOf s = some v) : fileB logB v = s := by
  unfold numOf at h
  split at h
  · split at h
    · split at h
      · rename_i hf
        injection h with h
        rw [← h]
        exact hf
      · cases h
    · cases h
  · cases h
/-- A disk that answers. -/
structure Up (A : DA) : Prop where
  dn : A.down = false
  pl : ∀ x, A.plan x = 0
theorem Up.sE {A : DA} (h : Up A) {s : ByteArray} (hn : nameB s = true) : A.sE s = 0 := by
  unfold DA.sE
  rw [h.dn, if_neg (by simp), if_pos hn]
  unfold DA.k
  rw [h.pl]
  rfl
theorem Up.next {A : DA} (h : Up A) (s : ByteArray) (e : Int) (l' : List Tf) : Up (dDo A s e l').2 := by
  obtain ⟨b1, b2, b3⟩ := sS_rest A s
  refine ⟨?_, fun x => ?_⟩
  · show (A.sS s).down = false
    unfold DA.sS
    rw [h.dn, if_neg (by simp)]
    split
    · show decide (A.k = 3) = false
      unfold DA.k
      rw [h.pl]
      rfl
    · exact h.dn
  · show (A.sS s).plan x = 0
    rw [b2]
    exact h.pl x
end Go.Proofs.YtoplejbmgpgkhaaGreatDoor
