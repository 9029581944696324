/- NA, ND -/
import Derived.Test.YtconkienlcegaaaGreatDoorGWV9
import Derived.Shelf.Slices.Delete
import Derived.Shelf.SlicesE.Delete
import Derived.Test.YtconkienlcegaaaGreatDoorGWO
namespace Go.Proofs.YtconkienlcegaaaGreatDoor
open Go.RowKit Go.Maps Go.Joins Go.Sort
set_option linter.unusedVariables false
set_option linter.unusedSimpArgs false
/-- A log (its files; of the last one j records are safe; sc records are safe at all) and a disk. -/
structure TV (l : List Tf) (P : PL) (n0 : Int) (ini : List Seg) (la : Option Seg) (sc : Nat) : Prop where
 fs : P.fs = (ini ++ la.toList).map (·.1)
 rs : P.rs = (ini ++ la.toList).flatMap (·.2)
 seq : SegSeq n0 (ini ++ la.toList)
 full : ∀ s ∈ ini, SegOk l s (joinF s.2).length
 nil0 : la = none → ini = [] ∧ P.size = 0 ∧ P.uns = false ∧ sc = 0
 las : ∀ s, la = some s → P.size = (joinF s.2).length ∧ ∃ j, j ≤ s.2.length ∧ SegOk l s (joinF (s.2.take j)).length ∧ (P.uns = false → j = s.2.length) ∧ sc ≤ cntS ini + j
 only : ∀ p ∈ l, ∃ s ∈ ini ++ la.toList, p.1 = nmF s.1
 z0 : la = none → n0 = 0
theorem TV.empty (most : Int) : TV [] ⟨[], [], 0, false, most⟩ 0 [] none 0 :=
 ⟨rfl, rfl, trivial, fun s hs => (by cases hs), fun _ => ⟨rfl, rfl, rfl, rfl⟩, fun s hs => (by cases hs), fun p hp => (by cases hp), fun _ => rfl⟩
theorem TV.cnt {l : List Tf} {P : PL} {n0 : Int} {ini : List Seg} {la : Option Seg} {sc : Nat} (h : TV l P n0 ini la sc) : P.rs.length = cntS ini + cntS la.toList := by
 rw [h.rs, ← cntS_append]; rfl
theorem TV.sc_le {l : List Tf} {P : PL} {n0 : Int} {ini : List Seg} {la : Option Seg} {sc : Nat} (h : TV l P n0 ini la sc) : sc ≤ P.rs.length := by
 rw [h.cnt]; cases hla : la with
 | none =>
   have := (h.nil0 hla).2.2.2; omega
 | some s =>
   obtain ⟨_, j, hj, _, _, h5⟩ := h.las s hla; show sc ≤ cntS ini + cntS [s]; rw [cntS_one]; omega
theorem TV.fst0 {l : List Tf} {P : PL} {n0 : Int} {ini : List Seg} {la : Option Seg} {sc : Nat} (h : TV l P n0 ini la sc) : P.fst = n0 := by
 unfold PL.fst; have h1 := h.fs; have h2 := h.seq; have h3 := h.z0; have h4 := h.nil0; cases la with
 | none =>
   rw [h1, (h4 rfl).1, h3 rfl]; rfl
 | some s =>
   generalize hg : ini ++ (Option.some s).toList = gs at h1 h2; rw [h1]; cases gs with
   | nil => simp at hg
   | cons g r => exact h2.1
theorem TV.en {l : List Tf} {P : PL} {n0 : Int} {ini : List Seg} {la : Option Seg} {sc : Nat} (h : TV l P n0 ini la sc) : P.en = n0 + P.rs.length := by
 unfold PL.en; rw [h.fst0]
theorem TV.last {l : List Tf} {P : PL} {n0 : Int} {ini : List Seg} {la : Option Seg} {sc : Nat} (h : TV l P n0 ini la sc) {s : Seg} (hs : la = Option.some s) : P.last = s.1 := by
 unfold PL.last; rw [h.fs, hs]; show ((ini ++ [s]).map (·.1)).getLastD 0 = s.1; rw [List.map_append, List.getLastD_eq_getLast?]; simp
theorem TV.ok {l : List Tf} {P : PL} {n0 : Int} {ini : List Seg} {la : Option Seg} {sc : Nat} (h : TV l P n0 ini la sc) {s : Seg} (hs : s ∈ ini ++ la.toList) : ∃ z, SegOk l s z := by
 rcases List.mem_append.1 hs with h1 | h1
 · exact ⟨_, h.full s h1⟩
 · cases hla : la with
   | none => rw [hla] at h1; cases h1
   | some x =>
     rw [hla] at h1; have e : s = x := by simpa using h1
     subst e; obtain ⟨_, j, _, h3, _⟩ := h.las s hla; exact ⟨_, h3⟩
theorem TV.ne {l : List Tf} {P : PL} {n0 : Int} {ini : List Seg} {sc : Nat} {s : Seg} (h : TV l P n0 ini (Option.some s) sc) {g : Seg} (hg : g ∈ ini) : nmF g.1 ≠ nmF s.1 := by
 intro e; have h1 := h.seq.lt; have h2 : ((ini ++ [s]).map (·.1)).Pairwise (· < ·) := h1; rw [List.map_append, List.pairwise_append] at h2; have h3 := h2.2.2 g.1 (List.mem_map_of_mem hg) s.1 (by simp); obtain ⟨z, hz⟩ := h.ok (s := s) (by simp); have h4 := file_inj (name_lt (h.full g hg).nm) (name_lt hz.nm) e; omega
theorem TV.sync {A : DA} {P : PL} {n0 : Int} {ini : List Seg} {la : Option Seg} {sc : Nat} (h : TV A.l P n0 ini la sc) :
 TV (pSync A P).2.1.l (pSync A P).2.2 n0 ini la (if (pSync A P).1 = 0 then P.rs.length else sc) ∧ ((pSync A P).1 = 0 → (pSync A P).2.2.uns = false) := by
 by_cases hu : P.uns = true
 rotate_left
 · have hu' : P.uns = false := by simpa using hu
   have e : pSync A P = (0, A, P) := if_neg hu; rw [e]; refine ⟨?_, fun _ => hu'⟩; show TV A.l P n0 ini la (if (0 : Int) = 0 then P.rs.length else sc); rw [if_pos rfl]; refine ⟨h.fs, h.rs, h.seq, h.full, fun hn => ?_, fun s hs => ?_, h.only, h.z0⟩
   · obtain ⟨q1, q2, q3, q4⟩ := h.nil0 hn
     refine ⟨q1, q2, q3, ?_⟩; rw [h.cnt, q1, hn]; rfl
   · obtain ⟨q1, j, q2, q3, q4, q5⟩ := h.las s hs
     refine ⟨q1, j, q2, q3, q4, ?_⟩; rw [h.cnt, hs, q4 hu']; show cntS ini + cntS [s] ≤ _; rw [cntS_one]; omega
 · obtain ⟨s, hs⟩ : ∃ s, la = Option.some s := by
    cases hla : la with
    | none =>
      have := (h.nil0 hla).2.2.1; rw [hu] at this; cases this
    | some s => exact ⟨s, rfl⟩
   subst hs; obtain ⟨q1, j, q2, q3, q4, q5⟩ := h.las s rfl; have hL := h.last (s := s) rfl; have e : pSync A P = ((dSync A (fileB logB s.1)).1, (dSync A (fileB logB s.1)).2, { P with uns := decide ((dSync A (fileB logB s.1)).1 ≠ 0) }) := by
    unfold pSync; rw [if_pos hu, hL]
   have hh : fT A.l (nb (fileB logB s.1)) = _ := q3.here; have hf : eFind A.l (fileB logB s.1) = 0 := by
    unfold eFind; rw [if_pos q3.nm, hh]; rfl
   have hls : lSync A.l (fileB logB s.1) = setT A.l (nmF s.1) (joinF s.2) (joinF s.2).length := by
    unfold lSync; rw [if_pos q3.nm, hh]; rfl
   have hc : (dSync A (fileB logB s.1)).1 = A.sE (fileB logB s.1) := by
    show (if A.sE _ = 0 then eFind _ _ else A.sE _) = _; rw [hf]; split
    · rename_i h0
      exact h0.symm
    · rfl
   have hl : (dSync A (fileB logB s.1)).2.l = if A.sE (fileB logB s.1) = 0 then setT A.l (nmF s.1) (joinF s.2) (joinF s.2).length else A.l := by
    show (if A.sE _ = 0 then lSync _ _ else A.l) = _; rw [hls]
   rw [e]; dsimp only; rw [hc, hl]; by_cases h0 : A.sE (fileB logB s.1) = 0
   · rw [if_pos h0, if_pos h0]
     refine ⟨⟨h.fs, h.rs, h.seq, fun g hg => (h.full g hg).kept (fT_set (h.ne hg) _ _), fun hn => (by cases hn), fun g hg => ?_, fun p hp => ?_, fun hn => (by cases hn)⟩, fun _ => by simp [h0]⟩
     · obtain rfl : s = g := by injection hg
       refine ⟨q1, s.2.length, Nat.le_refl _, ⟨q3.nm, ?_, q3.len⟩, fun _ => rfl, ?_⟩
       · rw [List.take_length]
         exact fT_set_self q3.here _ _
       · rw [h.cnt]
         show cntS ini + cntS [s] ≤ _; rw [cntS_one]; omega
     · obtain ⟨q, hq, he⟩ := mem_set_nm hp
       rw [← he]; exact h.only q hq
   · rw [if_neg h0, if_neg h0]
     refine ⟨⟨h.fs, h.rs, h.seq, h.full, fun hn => (by cases hn), fun g hg => ?_, h.only, fun hn => (by cases hn)⟩, fun hx => absurd hx h0⟩; obtain ⟨q1, j, q2, q3, q4, q5⟩ := h.las g hg; refine ⟨q1, j, q2, q3, fun hx => ?_, q5⟩; have : decide (A.sE (fileB logB s.1) ≠ 0) = false := hx; exact absurd h0 (by simpa using this)
theorem TV.less {l : List Tf} {P : PL} {n0 : Int} {ini : List Seg} {la : Option Seg} {sc sc' : Nat} (h : TV l P n0 ini la sc) (hs : sc' ≤ sc) : TV l P n0 ini la sc' :=
 ⟨h.fs, h.rs, h.seq, h.full, fun hn => ⟨(h.nil0 hn).1, (h.nil0 hn).2.1, (h.nil0 hn).2.2.1, by have := (h.nil0 hn).2.2.2; omega⟩, fun s hs' => by
  obtain ⟨q1, j, q2, q3, q4, q5⟩ := h.las s hs'; exact ⟨q1, j, q2, q3, q4, by omega⟩, h.only, h.z0⟩
theorem TV.put_new {A : DA} {P : PL} {n0 : Int} {ini : List Seg} {la : Option Seg} {sc : Nat} (h : TV A.l P n0 ini la sc) (hb : P.bg = true) (hu : P.uns = false) (bs : List Int) (hbl : bs.length ≤ 65536) (hok : (dApp A (fileB logB (pNum P)) (frameB bs)).1 = 0) :
 TV (dApp A (fileB logB (pNum P)) (frameB bs)).2.l (pAdd P bs) n0 (ini ++ la.toList) (Option.some (pNum P, [bs])) sc := by
 have hN : pNum P = n0 + P.rs.length := by
  unfold pNum; rw [if_pos hb]; exact h.en
 have hg : ((ini ++ la.toList).flatMap (·.2)).length = P.rs.length := congrArg List.length h.rs.symm; obtain ⟨hnm, hl⟩ := dApp_ok hok; have hlt := name_lt hnm; have hne : ∀ s ∈ ini ++ la.toList, nmF s.1 ≠ nmF (pNum P) := fun s hs e => by
  obtain ⟨z, hz⟩ := h.ok hs; have h1 := file_inj (name_lt hz.nm) hlt e; have h2 := h.seq.ge hs; have h3 : 0 < s.2.length := List.length_pos_iff.2 (h.seq.pos hs); have h4 : cntS (ini ++ la.toList) = P.rs.length := hg; omega
 have hno : fT A.l (nb (fileB logB (pNum P))) = none := by
  cases hf : fT A.l (nb (fileB logB (pNum P))) with
  | none => rfl
  | some p =>
    obtain ⟨h1, h2⟩ := fT_mem hf; obtain ⟨s, hs, he⟩ := h.only p h1; exact absurd (he.symm.trans h2) (hne s hs)
 rw [hno] at hl; dsimp only at hl; rw [hl]; have hkeep : ∀ s ∈ ini ++ la.toList, fT (putT A.l (nb (fileB logB (pNum P)), frameB bs, 0)) (nmF s.1) = fT A.l (nmF s.1) := fun s hs => fT_put (hne s hs)
 refine ⟨?_, ?_, ?_, ?_, fun hn => (by cases hn), ?_, ?_, fun hn => (by cases hn)⟩
 · show (if P.bg then P.fs ++ [pNum P] else P.fs) = ((ini ++ la.toList) ++ [(pNum P, [bs])]).map (·.1)
   rw [if_pos hb, h.fs, List.map_append (l₁ := ini ++ la.toList)]; rfl
 · show P.rs ++ [bs] = ((ini ++ la.toList) ++ [(pNum P, [bs])]).flatMap (·.2)
   rw [h.rs, List.flatMap_append (xs := ini ++ la.toList)]; rfl
 · refine h.seq.snoc ?_ (by simp)
   show pNum P = n0 + (cntS (ini ++ la.toList) : Int); have h4 : cntS (ini ++ la.toList) = P.rs.length := hg; omega
 · intro s hs
   rcases List.mem_append.1 hs with h1 | h1
   · exact (h.full s h1).kept (hkeep s hs)
   · cases hla : la with
     | none => rw [hla] at h1; cases h1
     | some x =>
       have e : s = x := by
        rw [hla] at h1
        simpa using h1
       subst e; obtain ⟨_, j, q2, q3, q4, _⟩ := h.las s hla; have q5 := q4 hu; rw [q5, List.take_length] at q3; exact q3.kept (hkeep s hs)
 · intro s hs
   injection hs with hs
   subst hs; refine ⟨?_, 0, Nat.zero_le _, ⟨hnm, ?_, ?_⟩, ?_, ?_⟩
   · show (if P.bg then (0 : Int) else P.size) + (12 + bs.length) = ((joinF [bs]).length : Int)
     rw [if_pos hb, joinF_one, frameB_length]; omega
   · show fT _ (nmF (pNum P)) = some (nmF (pNum P), joinF [bs], ((joinF []).length : Int))
     rw [joinF_one]; exact fT_put_self A.l (nmF (pNum P), frameB bs, 0)
   · intro r hr
     have : r = bs := by simpa using hr
     rw [this]; exact hbl
   · intro hx
     cases hx
   · have h1 := h.sc_le
     have h4 : cntS (ini ++ la.toList) = P.rs.length := hg; omega
 · intro p hp
   rcases mem_put_nm hp with rfl | hp
   · exact ⟨(pNum P, [bs]), by simp, rfl⟩
   · obtain ⟨s, hs, he⟩ := h.only p hp
     exact ⟨s, List.mem_append_left _ hs, he⟩
theorem TV.put_old {A : DA} {P : PL} {n0 : Int} {ini : List Seg} {la : Option Seg} {sc : Nat} (h : TV A.l P n0 ini la sc) (hb : P.bg = false) (bs : List Int) (hbl : bs.length ≤ 65536) (hok : (dApp A (fileB logB (pNum P)) (frameB bs)).1 = 0) :
 ∃ la', TV (dApp A (fileB logB (pNum P)) (frameB bs)).2.l (pAdd P bs) n0 ini la' sc := by
 have hbn : ¬ P.bg = true := by rw [hb]; simp
 obtain ⟨s, hs⟩ : ∃ s, la = Option.some s := by
  cases hla : la with
  | none =>
    exfalso
    have h1 := (h.nil0 hla).1; have h2 := h.fs; rw [h1, hla] at h2; apply hbn; unfold PL.bg; rw [h2]; rfl
  | some s => exact ⟨s, rfl⟩
 subst hs; have hN : pNum P = s.1 := by
  unfold pNum; rw [if_neg hbn]; exact h.last rfl
 obtain ⟨q1, j, q2, q3, q4, q5⟩ := h.las s rfl; obtain ⟨hnm, hl⟩ := dApp_ok hok; have hh : fT A.l (nb (fileB logB s.1)) = _ := q3.here; rw [hN] at hl hnm ⊢; rw [hh] at hl; dsimp only at hl; rw [hl]; refine ⟨Option.some (s.1, s.2 ++ [bs]), ?_, ?_, ?_, fun g hg => (h.full g hg).kept (fT_set (h.ne hg) _ _), fun hn => (by cases hn), ?_, ?_, fun hn => (by cases hn)⟩
 · show (if P.bg then P.fs ++ [pNum P] else P.fs) = (ini ++ [(s.1, s.2 ++ [bs])]).map (·.1)
   rw [if_neg hbn, h.fs, List.map_append, List.map_append]; rfl
 · show P.rs ++ [bs] = (ini ++ [(s.1, s.2 ++ [bs])]).flatMap (·.2)
   rw [h.rs, List.flatMap_append, List.flatMap_append]; show (ini.flatMap (·.2) ++ [s].flatMap (·.2)) ++ [bs] = ini.flatMap (·.2) ++ [(s.1, s.2 ++ [bs])].flatMap (·.2); simp
 · have h1 : SegSeq n0 (ini ++ [s]) := h.seq
   show SegSeq n0 (ini ++ [(s.1, s.2 ++ [bs])]); have h2 : SegSeq n0 ini ∧ s.1 = n0 + cntS ini := by
    clear q1 q2 q3 q4 q5 hl hh hnm hN hok h; generalize n0 = n at h1 ⊢; induction ini generalizing n with
    | nil => exact ⟨trivial, by have := h1.1; show s.1 = n + (0 : Nat); omega⟩
    | cons g r ih =>
      obtain ⟨a1, a2, a3⟩ := h1; obtain ⟨b1, b2⟩ := ih _ a3; exact ⟨⟨a1, a2, b1⟩, by rw [cntS_cons]; omega⟩
   exact h2.1.snoc h2.2 (by simp)
 · intro g hg
   injection hg with hg
   subst hg; refine ⟨?_, j, by show j ≤ (s.2 ++ [bs]).length; rw [List.length_append]; omega, ⟨hnm, ?_, ?_⟩, fun hx => (by cases hx), q5⟩
   · show (if P.bg then (0 : Int) else P.size) + (12 + bs.length) = ((joinF (s.2 ++ [bs])).length : Int)
     rw [if_neg hbn, joinF_append, joinF_one, List.length_append, frameB_length, q1]; omega
   · show fT _ (nmF s.1) = some (nmF s.1, joinF (s.2 ++ [bs]), ((joinF ((s.2 ++ [bs]).take j)).length : Int))
     rw [List.take_append_of_le_length q2, joinF_append, joinF_one]; exact fT_set_self q3.here _ _
   · intro r hr
     rcases List.mem_append.1 hr with h1 | h1
     · exact q3.len r h1
     · have : r = bs := by simpa using h1
       rw [this]; exact hbl
 · intro p hp
   obtain ⟨q, hq, he⟩ := mem_set_nm hp; obtain ⟨g, hg, hge⟩ := h.only q hq; rcases List.mem_append.1 hg with h1 | h1
   · exact ⟨g, List.mem_append_left _ h1, he ▸ hge⟩
   · have e : g = s := by simpa using h1
     subst e; exact ⟨(g.1, g.2 ++ [bs]), List.mem_append_right _ (by simp), he ▸ hge⟩
theorem TV.app {A : DA} {P : PL} {n0 : Int} {ini : List Seg} {la : Option Seg} {sc : Nat} (h : TV A.l P n0 ini la sc) (bs : List Int) (hbl : bs.length ≤ 65536) :
 ∃ ini' la', TV (pApp A P bs).2.1.l (pApp A P bs).2.2 n0 ini' la' sc ∧ (pApp A P bs).2.2.rs = (if (pApp A P bs).1 = 0 then P.rs ++ [bs] else P.rs) ∧ (pApp A P bs).2.2.most = P.most := by
 have e1 : pApp A P bs = if P.bg then (if (pSync A P).1 = 0 then pPut (pSync A P).2.1 (pSync A P).2.2 bs else pSync A P) else pPut A P bs := if_neg (by omega)
 rw [e1]; by_cases hb : P.bg = true
 · rw [if_pos hb]
   obtain ⟨h1, h2⟩ := h.sync; obtain ⟨r1, r2, r3, r4⟩ := pSync_rest A P; by_cases h0 : (pSync A P).1 = 0
   · rw [if_pos h0] at h1 ⊢
     have hu := h2 h0; have hb' : (pSync A P).2.2.bg = true := by
      unfold PL.bg at hb ⊢; rw [r1, r3, r4]; exact hb
     generalize (pSync A P).2.1 = A1 at h1 ⊢; generalize (pSync A P).2.2 = P1 at h1 r1 r2 r3 r4 hu hb' ⊢; have h3 := h1.less h.sc_le; unfold pPut; by_cases hok : (dApp A1 (fileB logB (pNum P1)) (frameB bs)).1 = 0
     · rw [if_pos hok]
       refine ⟨_, _, h3.put_new hb' hu bs hbl hok, ?_, ?_⟩
       · show P1.rs ++ [bs] = if (0 : Int) = 0 then P.rs ++ [bs] else P.rs
         rw [if_pos rfl, r2]
       · exact r4
     · rw [if_neg hok]
       refine ⟨ini, la, ?_, ?_, r4⟩
       · show TV (dApp A1 (fileB logB (pNum P1)) (frameB bs)).2.l P1 n0 ini la sc
         rw [dApp_err hok]; exact h3
       · dsimp only
         rw [if_neg hok]; exact r2
   · rw [if_neg h0] at h1 ⊢
     exact ⟨ini, la, h1, by rw [if_neg h0]; exact r2, r4⟩
 · have hb' : P.bg = false := by simpa using hb
   rw [if_neg hb]; unfold pPut; by_cases hok : (dApp A (fileB logB (pNum P)) (frameB bs)).1 = 0
   · rw [if_pos hok]
     obtain ⟨la', h1⟩ := h.put_old hb' bs hbl hok; refine ⟨ini, la', h1, ?_, rfl⟩; show P.rs ++ [bs] = if (0 : Int) = 0 then P.rs ++ [bs] else P.rs
     rw [if_pos rfl]
   · rw [if_neg hok]
     refine ⟨ini, la, ?_, ?_, rfl⟩
     · show TV (dApp A (fileB logB (pNum P)) (frameB bs)).2.l P n0 ini la sc
       rw [dApp_err hok]; exact h
     · dsimp only
       rw [if_neg hok]
theorem TV.sum {l : List Tf} {P : PL} {n0 : Int} {ini : List Seg} {la : Option Seg} {sc : Nat} (h : TV l P n0 ini la sc) : (joinF P.rs).length ≤ sumT l := by
 rw [h.rs]; exact segs_sum h.seq.lt fun s hs => h.ok hs
theorem TV.small {l : List Tf} {P : PL} {n0 : Int} {ini : List Seg} {la : Option Seg} {sc : Nat} (h : TV l P n0 ini la sc) {ro : Int} (hw : Wf l ro) (hr : ro ≤ 1073741824) : P.rs.length ≤ 100000000 ∧ P.fs.length ≤ 100000000 ∧ (∀ x ∈ P.fs, 0 ≤ x ∧ x < 1000000000) ∧ 0 ≤ P.size ∧ P.size ≤ 1073741824 := by
 have h1 := h.sum; have h2 := joinF_len P.rs; have h3 := hw.sum; have h4 : P.fs.length ≤ P.rs.length := by
  rw [h.fs, h.rs, List.length_map]; have h5 := h.seq; generalize n0 = n at h5; generalize ini ++ la.toList = gs at h5; induction gs generalizing n with
  | nil => exact Nat.le_refl _
  | cons g r ih =>
    have := ih _ h5.2.2; have h6 : 0 < g.2.length := List.length_pos_iff.2 h5.2.1; rw [List.flatMap_cons, List.length_append, List.length_cons]; omega
 refine ⟨by omega, by omega, fun x hx => ?_, ?_⟩
 · rw [h.fs] at hx
   obtain ⟨s, hs, rfl⟩ := List.mem_map.1 hx; obtain ⟨z, hz⟩ := h.ok hs; exact name_lt hz.nm
 · cases hla : la with
   | none =>
     have := (h.nil0 hla).2.1; omega
   | some s =>
     have h5 := (h.las s hla).1; have h6 : (joinF P.rs).length = (joinF (ini.flatMap (·.2))).length + (joinF s.2).length := by
      rw [h.rs, hla, List.flatMap_append, joinF_append, List.length_append]; show _ + (joinF ([s].flatMap (·.2))).length = _; simp
     omega
theorem TV.nums {l : List Tf} {P : PL} {n0 : Int} {ini : List Seg} {la : Option Seg} {sc : Nat} (h : TV l P n0 ini la sc) (hs : Srt l) : srtI (numsOf (nmS l)) = (ini ++ la.toList).map (·.1) := by
 refine incr_ext (srtI_incr (nums_nodup hs)) h.seq.lt fun x => ?_
 have hback : ∀ m : Int, (⟨(nmF m).toArray⟩ : ByteArray) = fileB logB m := fun m => by
  apply nm_eq.2
  simp [nmF, nb]
 constructor
 · intro hx
   obtain ⟨s, h1, h2⟩ := List.mem_filterMap.1 (srtI_mem hx); unfold nmS at h1; obtain ⟨p, hp, rfl⟩ := List.mem_map.1 h1; obtain ⟨g, hg, he⟩ := h.only p hp; rw [he, hback] at h2; obtain ⟨z, hz⟩ := h.ok hg; rw [numOf_file g.1 (name_lt hz.nm).1 (name_lt hz.nm).2] at h2; injection h2 with h2
   rw [← h2]; exact List.mem_map_of_mem hg
 · intro hx
   obtain ⟨g, hg, rfl⟩ := List.mem_map.1 hx; obtain ⟨z, hz⟩ := h.ok hg; unfold srtI; refine (List.mem_mergeSort).2 (List.mem_filterMap.2 ⟨fileB logB g.1, ?_, numOf_file g.1 (name_lt hz.nm).1 (name_lt hz.nm).2⟩); unfold nmS; exact List.mem_map.2 ⟨_, (fT_mem hz.here).1, hback g.1⟩
theorem TV.ok0 {A : DA} {P : PL} {n0 : Int} {ini : List Seg} {la : Option Seg} {sc : Nat} (h : TV A.l P n0 ini la sc) {ro : Int} (hw : Wf A.l ro) (hr : ro ≤ 1073741824) (hst : A.steps < 4611686018427387800) : LgOk A P := by
 obtain ⟨h1, h2, h3, h4, h5⟩ := h.small hw hr; refine ⟨fun hu => ?_, h3, h1, h2, ⟨h4, h5⟩, hst⟩; cases hla : la with
 | none =>
   have := (h.nil0 hla).2.2.1; rw [hu] at this; cases this
 | some s =>
   rw [h.fs, hla]; simp
theorem open_crashT {A A' : DA} {P P' : PL} {n0 : Int} {ini : List Seg} {la : Option Seg} {sc : Nat} {ro most c : Int} {ks : List Int} (h : TV A.l P n0 ini la sc) (hs : Srt A.l) (hw : Wf A.l ro) {st ar rm : Int}
 (ho : OpX ⟨bootT A.l ks, false, st, ar, fun _ => 0, rm⟩ ⟨[], [], 0, false, most⟩ (srtI (numsOf (nmS (bootT A.l ks)))) c A' P') : c = 0 ∧ sc ≤ P'.rs.length ∧ P'.rs <+: P.rs ∧ P'.fs = P.fs := by
 rw [nmS_boot, h.nums hs, List.map_append] at ho; have hu : Up (⟨bootT A.l ks, false, st, ar, fun _ => 0, rm⟩ : DA) := ⟨rfl, fun _ => rfl⟩
 have hfull : ∀ s ∈ ini, ∃ z, SegOk (bootT A.l ks) s z := fun s hs' => by
  have h1 := h.full s hs'; have h2 := hw.safe _ (fT_mem h1.here).1; obtain ⟨m, m1, m2, m3⟩ := boot_f ks h1.here h2; refine ⟨m, h1.nm, ?_, h1.len⟩; rw [m3]; dsimp only at m1 m2 ⊢; rw [List.take_of_length_le (by omega)]
 have hq : SegSeq n0 ini := by
  have := h.seq; generalize n0 = n at this; clear h ho hfull hs hw; induction ini generalizing n with
  | nil => trivial
  | cons g r ih => exact ⟨this.1, this.2.1, ih _ this.2.2⟩
 obtain ⟨A1, z1, k1, k2, k3, k4⟩ := opx_full ini hu hfull hq (Or.inl ⟨rfl, rfl⟩) ho; cases hla : la with
 | none =>
   rw [hla] at k4; obtain ⟨rfl, _, rfl⟩ := k4; obtain ⟨q1, q2, q3, q4⟩ := h.nil0 hla; subst q1; refine ⟨rfl, by rw [q4]; exact Nat.zero_le _, by simp, ?_⟩; rw [h.fs, hla]; rfl
 | some s =>
   rw [hla] at k4; obtain ⟨c1, A2, P2, hx, ho2⟩ := k4; obtain ⟨q1, j, q2, q3, q4, q5⟩ := h.las s hla; have hz := hw.safe _ (fT_mem q3.here).1; obtain ⟨m, m1, m2, m3⟩ := boot_f ks q3.here hz; dsimp only at m1 m2 m3 hz; obtain ⟨i, t, i1, i2, i3, i4⟩ := joinF_cut q3.len m.toNat (by omega); have hi := i4 j q2 (by omega); have hsn : s.1 = n0 + (cntS ini : Int) := by
    have h1 := h.seq; rw [hla] at h1; have h2 : SegSeq n0 (ini ++ [s]) := h1; clear h1 ho hfull hs hw k1 k2 k3 hx ho2 q1 q2 q3 q4 q5 hz m1 m2 m3 i1 i2 i3 i4 hi h; have : ∀ n, SegSeq n (ini ++ [s]) → s.1 = n + cntS ini := by
     clear h2 hq; induction ini with
     | nil => intro n h; have := h.1; show s.1 = n + (0 : Nat); omega
     | cons g r ih =>
       intro n h; have := ih _ h.2.2; rw [cntS_cons]; omega
    have := this n0 h2; omega
   have hf : fT A1.l (nmF s.1) = some (nmF s.1, joinF (s.2.take i) ++ t, m) := by
    rw [k2]; show fT (bootT A.l ks) (nmF s.1) = _; rw [m3, i2]
   have hli : ∀ r ∈ s.2.take i, r.length ≤ 65536 := fun r hr => q3.len r (List.mem_of_mem_take hr)
   have hsn' : s.1 = n0 + (cntS ini : Int) := hsn; have hP2 : c1 = 0 ∧ P2 = { (⟨[], [], 0, false, most⟩ : PL) with fs := [] ++ ini.map (·.1) ++ [s.1], rs := [] ++ ini.flatMap (·.2) ++ s.2.take i, size := (joinF (s.2.take i)).length } := by
    rcases ldx_file k1 q3.nm hf hli (i3.imp id fun h => by rw [h]; decide) hx with ⟨h4, h5, _⟩ | ⟨_, ⟨h4, h5, _⟩ | ⟨h4, ⟨_, h5, _⟩ | ⟨h6, _, _, h5, _⟩⟩⟩
    · exact absurd ⟨h4, hsn' ▸ h5⟩ k3.ok
    · exfalso
      rcases i3 with h6 | h6
      · exact h4 h6
      · exact h5 ⟨h6, rfl⟩
    · exact ⟨h5, h4⟩
    · refine ⟨?_, h4⟩
      rw [h5]; have hu2 : Up (dRead A1 (fileB logB s.1)).2 := k1.next _ 0 _; have el : (dRead A1 (fileB logB s.1)).2.l = A1.l := by
       show (if _ then A1.l else A1.l) = A1.l; split <;> rfl
      show (if (dRead A1 (fileB logB s.1)).2.sE _ = 0 then eTru _ _ _ else _) = 0; rw [if_pos (hu2.sE q3.nm), el]; unfold eTru; have hf' : fT A1.l (nb (fileB logB s.1)) = _ := hf; rw [if_pos q3.nm, hf']; dsimp only; rw [if_neg (by rw [List.length_append]; omega)]
   obtain ⟨rfl, rfl⟩ := hP2; rcases ho2 with ⟨h5, _⟩ | ⟨_, h5, _, rfl⟩
   · exact absurd rfl h5
   · have hcnt : ((ini.flatMap (·.2)).length : Nat) = cntS ini := rfl
     refine ⟨h5, ?_, ?_, ?_⟩
     · show sc ≤ (([] : List (List Int)) ++ ini.flatMap (·.2) ++ s.2.take i).length
       rw [List.nil_append, List.length_append, List.length_take, hcnt]; omega
     · show ([] : List (List Int)) ++ ini.flatMap (·.2) ++ s.2.take i <+: P.rs
       rw [h.rs, hla, List.flatMap_append, List.nil_append]; show _ <+: ini.flatMap (·.2) ++ [s].flatMap (·.2); simp only [List.flatMap_cons, List.flatMap_nil, List.append_nil]; exact (List.prefix_append_right_inj _).2 (List.take_prefix _ _)
     · show ([] : List Int) ++ ini.map (·.1) ++ [s.1] = P.fs
       rw [h.fs, hla, List.map_append]; rfl
end Go.Proofs.YtconkienlcegaaaGreatDoor
namespace Go.Proofs
open Go.Shelf
def Tryz.delI_ren : Go.Shelf.Ren := ⟨fun | 23 => 92 | n => n, fun | 22 => 38 | n => n, fun | n => n⟩
theorem Tryz.delI : Go.Proofs.Lays2.n23 Tryz.prog Tryz.delI_ren := {
 mixed := by kernel_rfl
 f23 := Tryz.func92.trans (congrArg some (by kernel_rfl))
 t0 := Tryz.underlying0
 a0 := Tryz.isAgg0
 z0 := Tryz.sizeOf0
 v0 := Tryz.zeroValue0
 t3 := Tryz.underlying3
 a3 := Tryz.isAgg3
 z3 := Tryz.sizeOf3
 v3 := Tryz.zeroValue3
 t4 := Tryz.underlying4
 a4 := Tryz.isAgg4
 z4 := Tryz.sizeOf4
 v4 := Tryz.zeroValue4
 t22 := Tryz.underlying38
 a22 := Tryz.isAgg38
 z22 := Tryz.sizeOf38
 v22 := Tryz.zeroValue38
 i3 := by kernel_rfl }
def Tryz.delR_ren : Go.Shelf.Ren := ⟨fun | 45 => 91 | n => n, fun | 22 => 74 | n => n, fun | n => n⟩
theorem Tryz.delR : Go.Proofs.SlLaysE.n45 Tryz.prog Tryz.delR_ren := {
 mixed := by kernel_rfl
 f45 := ⟨"slices.Delete[[][]byte,[]byte]", by decide, Tryz.func91.trans (congrArg some (by kernel_rfl))⟩
 t0 := Tryz.underlying0
 a0 := Tryz.isAgg0
 z0 := Tryz.sizeOf0
 v0 := Tryz.zeroValue0
 t3 := Tryz.underlying3
 a3 := Tryz.isAgg3
 z3 := Tryz.sizeOf3
 v3 := Tryz.zeroValue3
 t4 := Tryz.underlying4
 a4 := Tryz.isAgg4
 z4 := Tryz.sizeOf4
 v4 := Tryz.zeroValue4
 t22 := Tryz.underlying74
 a22 := Tryz.isAgg74
 z22 := Tryz.sizeOf74
 v22 := Tryz.zeroValue74
 a23 := Tryz.isAgg23
 z23 := Tryz.sizeOf23 }
end Go.Proofs
namespace Go.Proofs.YtconkienlcegaaaGreatDoor
open Go.RowKit Go.Maps Go.Joins Go.Sort Go.Shelf
set_option linter.unusedSimpArgs false
set_option linter.unusedVariables false
section
variable {α : Type} [Inhabited α] (enc : α → Value)
theorem holdsE {w : World} {g : Nat} {cur : Array Value} {e : TypeId} {zs : List α} (hb : w.heap[g]? = some (.cells cur e (0, 0))) (ht : cur.toList.take zs.length = zs.map enc) : Holds enc w g 0 zs.toArray := by
 intro j hj; have hj' : j < zs.length := by simpa using hj
 have h1 : (cur.toList.take zs.length)[j]? = (zs.map enc)[j]? := by rw [ht]
 rw [List.getElem?_take_of_lt hj'] at h1; have h2 : w.cell? ⟨g, 0 + j, none⟩ = cur[j]? := by rw [Nat.zero_add]; exact cell_of_block hb j
 refine ⟨?_, unfrozen_of_block hb _⟩; rw [h2, ← Array.getElem?_toList, h1]; simp [hj']
theorem heapE {w : World} {g n : Nat} {cur : Array Value} {e : TypeId} (d : Array α) (hb : w.heap[g]? = some (.cells cur e (0, 0))) : (putRow enc (Sort.ahead w n) g 0 d).heap[g]? = some (.cells (putCells enc 0 d cur) e (0, 0)) := by
 simp [putRow, mapBlock, Sort.ahead, Array.getElem?_modify, hb, onCells]
theorem grownE {w : World} {g n : Nat} (d : Array α) : w.grownBy (putRow enc (Sort.ahead w n) g 0 d) (some g) := by
 refine ⟨rfl, rfl, rfl, by simp [putRow, mapBlock, Sort.ahead], fun k hk hne => ?_⟩; have : g ≠ k := fun e => hne (by rw [e])
 simp [putRow, mapBlock, Sort.ahead, Array.getElem?_modify, this]
theorem takeE (cur : Array Value) (ts : List α) (h : ts.length ≤ cur.size) : (putCells enc 0 ts.toArray cur).toList.take ts.length = ts.map enc := by
 apply List.ext_getElem?
 intro j; by_cases hj : j < ts.length
 · rw [List.getElem?_take_of_lt hj, Array.getElem?_toList]
   simp [putCells, hj, show j < cur.size by omega]
 · rw [List.getElem?_take_eq_none (by omega), List.getElem?_eq_none (by simp; omega)]
/-- A slice of one's own without its first j elements. -/
theorem del_own {w : World} {base g cap j q : Nat} {e : TypeId} {ds : List α} {zr : α} (h : w.ownsRow base e 1 (.slice (some ⟨g, 0, none⟩) ds.length cap) ds.length (ds.map enc)) (hj : j ≤ ds.length) :
 (putRow enc (Sort.ahead w q) g 0 (ds.drop j ++ List.replicate j zr).toArray).ownsRow base e 1 (.slice (some ⟨g, 0, none⟩) (ds.length - j) cap) (ds.length - j) ((ds.drop j).map enc) := by
 rcases h.2 with ⟨h0, _⟩ | ⟨g', cap', cur, h0, hbase, hb, h1, h2, h3, h4⟩
 · cases h0
 · injection h0 with e1 e2 e3
   injection e1 with e1
   injection e1 with e1 _ _
   subst e1 e3; have hl : (ds.drop j ++ List.replicate j zr).length = ds.length := by rw [List.length_append, List.length_drop, List.length_replicate]; omega
   refine ⟨by rw [List.length_map, List.length_drop, Nat.mul_one], Or.inr ⟨g, cap, _, rfl, hbase, heapE enc _ hb, by omega, h2, by simp [putCells, h3], ?_⟩⟩; have ht := takeE enc cur (ds.drop j ++ List.replicate j zr) (by rw [hl]; omega); have h5 : ds.length - j = min (ds.length - j) ds.length := by omega
   rw [Nat.mul_one, h5, ← List.take_take, ← hl, ht, hl, List.map_append, List.take_append_of_le_length (by rw [List.length_map, List.length_drop]; omega), List.take_of_length_le (by rw [List.length_map, List.length_drop]; omega)]
end
/-- slices.Delete of numbers. -/
theorem delete_i {w : World} {base g cap j : Nat} {zs : List Int} (h : w.ownsRow base 3 1 (.slice (some ⟨g, 0, none⟩) zs.length cap) zs.length (vI zs)) (hj : j ≤ zs.length) :
 Calls Tryz.prog 92 #[.slice (some ⟨g, 0, none⟩) zs.length cap, .int .i64 0, .int .i64 j] w fun e w' => e = .returned (.slice (some ⟨g, 0, none⟩) (zs.length - j) cap) ∧ w'.ownsRow base 3 1 (.slice (some ⟨g, 0, none⟩) (zs.length - j) cap) (zs.length - j) (vI (zs.drop j)) ∧ w.grownBy w' (some g) := by
 have hd := fun q => del_own (w := w) (q := q) (zr := (0 : Int)) eI h hj
 rcases h.2 with ⟨h0, _⟩ | ⟨g', cap', cur, h0, hbase, hb, h1, h2, h3, h4⟩
 · cases h0
 · injection h0 with e1 e2 e3
   injection e1 with e1
   injection e1 with e1 _ _
   subst e1 e3; rw [Nat.mul_one] at h4; have hC := Any.slices_Delete_int Tryz.delI g 0 cap 0 j zs w (holdsE eI hb h4) h1 (by unfold maxLen at h2; omega) (Nat.zero_le _) hj; simp only [List.take_zero, List.nil_append, Nat.sub_zero] at hC; refine hC.mono ?_; rintro e w' ⟨rfl, q, rfl⟩; exact ⟨rfl, hd q, grownE eI _⟩
/-- A slice's head. -/
abbrev SlH := Option Addr × Nat × Nat
abbrev eH (x : SlH) : Value := .slice x.1 x.2.1 x.2.2
theorem info23b : (Tryz.prog.info? 23).map (fun i => (i.zero, i.size, i.bytes)) = some (some (.slice none 0 0), 1, 24) := by kernel_rfl
/-- slices.Delete of records. -/
theorem delete_r {w : World} {base g cap j : Nat} {ds : List SlH} (h : w.ownsRow base 23 1 (.slice (some ⟨g, 0, none⟩) ds.length cap) ds.length (ds.map eH)) (hj : j ≤ ds.length) :
 Calls Tryz.prog 91 #[.slice (some ⟨g, 0, none⟩) ds.length cap, .int .i64 0, .int .i64 j] w fun e w' => e = .returned (.slice (some ⟨g, 0, none⟩) (ds.length - j) cap) ∧ w'.ownsRow base 23 1 (.slice (some ⟨g, 0, none⟩) (ds.length - j) cap) (ds.length - j) ((ds.drop j).map eH) ∧ w.grownBy w' (some g) := by
 have hd := fun q => del_own (w := w) (q := q) (zr := ((none, 0, 0) : SlH)) eH h hj
 obtain ⟨i0, hi0, hz1⟩ : ∃ i0, Tryz.prog.info? 23 = some i0 ∧ i0.size = 1 := by
  have := info23b; cases hi : Tryz.prog.info? 23 with
  | none => rw [hi] at this; cases this
  | some i =>
    rw [hi] at this; simp at this; exact ⟨i, rfl, this.2.1⟩
 rcases h.2 with ⟨h0, _⟩ | ⟨g', cap', cur, h0, hbase, hb, h1, h2, h3, h4⟩
 · cases h0
 · injection h0 with e1 e2 e3
   injection e1 with e1
   injection e1 with e1 _ _
   subst e1 e3; rw [Nat.mul_one] at h4; have hs : ds.toArray.size = ds.length := by simp
   have hC := AnyE.slices_Delete Tryz.delR eH (fun _ => rfl) ((none, 0, 0) : SlH) (fun w => Tryz.zeroValue23 w) i0 hi0 hz1 g 0 cap 0 j ds.toArray w (holdsE eH hb h4) (by rw [hs]; exact h1) (by unfold maxLen at h2; omega) (Nat.zero_le _) (by rw [hs]; exact hj); rw [hs] at hC; simp only [List.take_zero, List.nil_append, Nat.sub_zero] at hC; refine hC.mono ?_; rintro e w' ⟨rfl, q, rfl⟩; exact ⟨rfl, hd q, grownE eH _⟩
end Go.Proofs.YtconkienlcegaaaGreatDoor
