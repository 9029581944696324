/- WV2, WV3, WV4 -/
import Derived.Test.YtconkienlcegaaaGreatDoorGWU4
namespace Go.Proofs.YtconkienlcegaaaGreatDoor
open Go.RowKit
set_option linter.unusedVariables false
set_option linter.unusedSimpArgs false
def joinF : List (List Int) → List Int
 | [] => []
 | r :: t => frameB r ++ joinF t
theorem joinF_append : ∀ (a b : List (List Int)), joinF (a ++ b) = joinF a ++ joinF b
 | [], b => rfl
 | r :: a, b => by
   show frameB r ++ joinF (a ++ b) = frameB r ++ joinF a ++ joinF b; rw [joinF_append a b, List.append_assoc]
theorem joinF_one (r : List Int) : joinF [r] = frameB r := List.append_nil _
/-- Frames are read back, one behind the other. -/
theorem joinF_took {rs : List (List Int)} (hl : ∀ r ∈ rs, r.length ≤ 65536) (t : List Int) : ∀ n, n ≤ rs.length → Took (joinF rs ++ t) (joinF (rs.take n)).length (rs.take n)
 | 0, _ => by
   rw [List.take_zero]; exact Took.nil
 | n + 1, h => by
   have ih := joinF_took hl t n (by omega); obtain ⟨r, hr⟩ : ∃ r, rs[n]? = some r := ⟨_, List.getElem?_eq_getElem (by omega)⟩
   have hrl := hl r (List.mem_of_getElem? hr); have e : rs = rs.take n ++ r :: rs.drop (n + 1) := by
    have h1 : rs[n] = r := (List.getElem?_eq_some_iff.1 hr).2; rw [← h1, ← List.drop_eq_getElem_cons (by omega), List.take_append_drop]
   have hd : (joinF rs ++ t).drop (joinF (rs.take n)).length = frameB r ++ (joinF (rs.drop (n + 1)) ++ t) := by
    have e2 : joinF rs = joinF (rs.take n) ++ (frameB r ++ joinF (rs.drop (n + 1))) := by
     have := congrArg joinF e; rw [joinF_append] at this; exact this
    rw [e2, List.append_assoc, List.drop_left, List.append_assoc]
   have hn := nx_frame r (joinF (rs.drop (n + 1)) ++ t) hrl; rw [← hd] at hn; have hlt : (joinF (rs.take n)).length < (joinF rs ++ t).length := by
    have := congrArg List.length hd; rw [List.length_drop, @List.length_append _ (frameB r), frameB_length] at this; omega
   have := Took.step ih hlt (by rw [hn]); rw [hn] at this; rw [List.take_add_one, hr]; have e3 : (joinF (rs.take n ++ (some r).toList)).length = (joinF (rs.take n)).length + (12 + r.length) := by
    show (joinF (rs.take n ++ [r])).length = _; rw [joinF_append, List.length_append, joinF_one, frameB_length]
   rw [e3]; exact this
abbrev Seg := Int × List (List Int)
def cntS (gs : List Seg) : Nat := (gs.flatMap (·.2)).length
theorem cntS_append (a b : List Seg) : cntS (a ++ b) = cntS a + cntS b := by
 unfold cntS; rw [List.flatMap_append, List.length_append]
theorem cntS_cons (s : Seg) (b : List Seg) : cntS (s :: b) = s.2.length + cntS b := by
 unfold cntS; rw [List.flatMap_cons, List.length_append]
theorem cntS_one (s : Seg) : cntS [s] = s.2.length := by
 rw [cntS_cons]; rfl
/-- The files' numbers follow from their records. -/
def SegSeq : Int → List Seg → Prop
 | _, [] => True
 | n, s :: r => s.1 = n ∧ s.2 ≠ [] ∧ SegSeq (n + s.2.length) r
theorem SegSeq.snoc {s : Seg} : ∀ {gs : List Seg} {n : Int}, SegSeq n gs → s.1 = n + cntS gs → s.2 ≠ [] → SegSeq n (gs ++ [s])
 | [], n, _, h1, h2 => ⟨by rw [h1]; show n + (0 : Nat) = n; omega, h2, trivial⟩
 | g :: r, n, h, h1, h2 => ⟨h.1, h.2.1, SegSeq.snoc h.2.2 (by rw [h1, cntS_cons]; omega) h2⟩
theorem SegSeq.ge {s : Seg} : ∀ {gs : List Seg} {n : Int}, SegSeq n gs → s ∈ gs → n ≤ s.1 ∧ s.1 + s.2.length ≤ n + cntS gs
 | g :: r, n, h, hs => by
   rw [cntS_cons]; rcases List.mem_cons.1 hs with rfl | hs
   · have := h.1
     omega
   · have := SegSeq.ge h.2.2 hs
     omega
theorem SegSeq.lt : ∀ {gs : List Seg} {n : Int}, SegSeq n gs → (gs.map (·.1)).Pairwise (· < ·)
 | [], n, _ => List.Pairwise.nil
 | g :: r, n, h => by
   rw [List.map_cons]; refine List.Pairwise.cons (fun x hx => ?_) (SegSeq.lt h.2.2); obtain ⟨s, hs, rfl⟩ := List.mem_map.1 hx; have h1 := (SegSeq.ge h.2.2 hs).1; have h2 := h.1; have h3 : 0 < g.2.length := List.length_pos_iff.2 h.2.1; omega
theorem SegSeq.pos {gs : List Seg} {n : Int} {s : Seg} (h : SegSeq n gs) (hs : s ∈ gs) : s.2 ≠ [] := by
 induction gs generalizing n with
 | nil => cases hs
 | cons g r ih =>
   rcases List.mem_cons.1 hs with rfl | hs
   · exact h.2.1
   · exact ih h.2.2 hs
def nmF (m : Int) : List UInt8 := nb (fileB logB m)
/-- A file as it should be. -/
structure SegOk (l : List Tf) (s : Seg) (z : Int) : Prop where
 nm : nameB (fileB logB s.1) = true
 here : fT l (nmF s.1) = some (nmF s.1, joinF s.2, z)
 len : ∀ r ∈ s.2, r.length ≤ 65536
theorem SegOk.kept {l l' : List Tf} {s : Seg} {z : Int} (h : SegOk l s z) (hf : fT l' (nmF s.1) = fT l (nmF s.1)) : SegOk l' s z := ⟨h.nm, hf.trans h.here, h.len⟩
theorem fT_set_self {l : List Tf} {n : List UInt8} {p : Tf} (h : fT l n = some p) (b : List Int) (s : Int) : fT (setT l n b s) n = some (n, b, s) := by
 unfold fT setT at *; induction l with
 | nil => cases h
 | cons a r ih =>
   rw [List.map_cons]; by_cases e : a.1 = n
   · rw [if_pos e, List.find?_cons_of_pos (by simp)]
   · rw [if_neg e, List.find?_cons_of_neg (by simpa using e)]
     rw [List.find?_cons_of_neg (by simpa using e)] at h; exact ih h
theorem fT_ins_self {x : Tf} : ∀ {l : List Tf}, (∀ p ∈ l, p.1 ≠ x.1) → fT (insT x l) x.1 = some x
 | [], _ => by simp [insT, fT]
 | y :: r, h => by
   unfold insT; split
   · simp [fT]
   · have ih := fT_ins_self (x := x) (l := r) fun p hp => h p (List.mem_cons_of_mem _ hp)
     unfold fT at ih ⊢; rw [List.find?_cons_of_neg (by simpa using h y List.mem_cons_self)]; exact ih
theorem fT_put_self (l : List Tf) (x : Tf) : fT (putT l x) x.1 = some x := by
 unfold putT; apply fT_ins_self; intro p hp; have := (List.mem_filter.1 hp).2
 simpa using this
theorem mem_set_nm {l : List Tf} {n : List UInt8} {b : List Int} {s : Int} {p : Tf} (h : p ∈ setT l n b s) : ∃ q ∈ l, q.1 = p.1 := by
 unfold setT at h; obtain ⟨q, hq, rfl⟩ := List.mem_map.1 h; refine ⟨q, hq, ?_⟩; split
 · rename_i e
   exact e
 · rfl
theorem mem_put_nm {l : List Tf} {x p : Tf} (h : p ∈ putT l x) : p = x ∨ p ∈ l := by
 unfold putT at h; rcases mem_ins h with h | h
 · exact Or.inl h
 · exact Or.inr (List.mem_filter.1 h).1
theorem dApp_err {A : DA} {s : ByteArray} {bs : List Int} (h : ¬ (dApp A s bs).1 = 0) : (dApp A s bs).2.l = A.l := by
 have h1 : ¬ (if A.sE s = 0 then eApp A.l A.room s bs else A.sE s) = 0 := h; show (if A.sE s = 0 then lApp A.l A.room s bs else A.l) = A.l; split
 · rename_i h0
   rw [if_pos h0] at h1; unfold eApp at h1; unfold lApp; split
   · rename_i h2
     rw [if_pos h2] at h1; split
     · rfl
     · rename_i h3
       rw [if_neg h3] at h1; split
       · rfl
       · rename_i h4
         rw [if_neg h4] at h1; exact absurd rfl h1
   · rfl
 · rfl
theorem dApp_ok {A : DA} {s : ByteArray} {bs : List Int} (h : (dApp A s bs).1 = 0) : nameB s = true ∧ (dApp A s bs).2.l = (match fT A.l (nb s) with | some p => setT A.l (nb s) (p.2.1 ++ bs) p.2.2 | none => putT A.l (nb s, bs, 0)) := by
 have h1 : (if A.sE s = 0 then eApp A.l A.room s bs else A.sE s) = 0 := h; have h0 : A.sE s = 0 := by
  by_cases h0 : A.sE s = 0
  · exact h0
  · rw [if_neg h0] at h1
    exact h1
 rw [if_pos h0] at h1; have hl : (dApp A s bs).2.l = lApp A.l A.room s bs := if_pos h0; rw [hl]; unfold eApp at h1; unfold lApp; by_cases h2 : nameB s = true
 · rw [if_pos h2] at h1 ⊢
   refine ⟨h2, ?_⟩; by_cases h3 : fT A.l (nb s) = none ∧ 16 ≤ A.l.length
   · rw [if_pos h3] at h1
     exact absurd h1 (by decide)
   · rw [if_neg h3] at h1 ⊢
     by_cases h4 : A.room < (sumT A.l : Int) + bs.length
     · rw [if_pos h4] at h1
       exact absurd h1 (by decide)
     · rw [if_neg h4]
       cases fT A.l (nb s) <;> rfl
 · rw [if_neg h2] at h1
   exact absurd h1 (by decide)
theorem joinF_len : ∀ rs : List (List Int), 12 * rs.length ≤ (joinF rs).length
 | [] => Nat.zero_le _
 | r :: t => by
   have := joinF_len t; show 12 * (t.length + 1) ≤ (frameB r ++ joinF t).length; rw [List.length_append, frameB_length]; omega
theorem segs_sum : ∀ {gs : List Seg} {l : List Tf}, (gs.map (·.1)).Pairwise (· < ·) → (∀ s ∈ gs, ∃ z, SegOk l s z) → (joinF (gs.flatMap (·.2))).length ≤ sumT l
 | [], l, _, _ => Nat.zero_le _
 | g :: r, l, hp, h => by
   obtain ⟨z, hz⟩ := h g List.mem_cons_self; have hd := (del_here (n := nmF g.1) (p := (nmF g.1, joinF g.2, z)) rfl (fT_mem hz.here).1).2; rw [List.map_cons, List.pairwise_cons] at hp; have ih := segs_sum (gs := r) (l := delT l (nmF g.1)) hp.2 fun s hs => by
    obtain ⟨y, hy⟩ := h s (List.mem_cons_of_mem _ hs); refine ⟨y, hy.kept (fT_del fun e => ?_)⟩; have h1 := file_inj (name_lt hy.nm) (name_lt hz.nm) e; have h2 := hp.1 s.1 (List.mem_map_of_mem hs); omega
   rw [List.flatMap_cons, joinF_append, List.length_append]; dsimp only at hd; omega
theorem incr_ext : ∀ {a b : List Int}, a.Pairwise (· < ·) → b.Pairwise (· < ·) → (∀ x, x ∈ a ↔ x ∈ b) → a = b
 | [], [], _, _, _ => rfl
 | [], y :: b, _, _, h => absurd ((h y).2 List.mem_cons_self) (by simp)
 | x :: a, [], _, _, h => absurd ((h x).1 List.mem_cons_self) (by simp)
 | x :: a, y :: b, ha, hb, h => by
   rw [List.pairwise_cons] at ha hb; have e : x = y := by
    rcases List.mem_cons.1 ((h x).1 List.mem_cons_self) with e | h1
    · exact e
    · rcases List.mem_cons.1 ((h y).2 List.mem_cons_self) with e | h2
      · exact e.symm
      · have := hb.1 x h1
        have := ha.1 y h2; omega
   subst e; rw [incr_ext ha.2 hb.2 fun z => ?_]; constructor
   · intro hz
     rcases List.mem_cons.1 ((h z).1 (List.mem_cons_of_mem _ hz)) with e | h1
     · have := ha.1 z hz
       omega
     · exact h1
   · intro hz
     rcases List.mem_cons.1 ((h z).2 (List.mem_cons_of_mem _ hz)) with e | h1
     · have := hb.1 z hz
       omega
     · exact h1
theorem numOf_back {s : ByteArray} {v : Int} (h : numOf s = some v) : fileB logB v = s := by
 unfold numOf at h; split at h
 · split at h
   · split at h
     · rename_i hf
       injection h with h
       rw [← h]; exact hf
     · cases h
   · cases h
 · cases h
theorem before_irr : ∀ x : List UInt8, bytesBefore x x = false
 | [] => rfl
 | a :: r => by
   have := before_irr r; simp [bytesBefore, this]
theorem nums_nodup {l : List Tf} (hs : Srt l) : (numsOf (nmS l)).Nodup := by
 unfold numsOf nmS List.Nodup; rw [List.pairwise_filterMap, List.pairwise_map]; refine hs.imp fun {p q} hpq v hv u hu e => ?_
 subst e; have h1 := (numOf_back hv).symm.trans (numOf_back hu); have h2 : p.1 = q.1 := by
  have h3 : (⟨p.1.toArray⟩ : ByteArray).data.toList = (⟨q.1.toArray⟩ : ByteArray).data.toList := by rw [h1]
  simpa using h3
 rw [h2, before_irr] at hpq; cases hpq
theorem srtI_incr {l : List Int} (h : l.Nodup) : (srtI l).Pairwise (· < ·) := by
 have h1 : (srtI l).Pairwise (fun a b => decide (a ≤ b) = true) := List.pairwise_mergeSort (fun a b c h1 h2 => by simp at *; omega) (fun a b => by simp; omega) l; have h2 : (srtI l).Nodup := (List.mergeSort_perm l _).nodup_iff.2 h; have h3 := List.Pairwise.and h1 h2; exact h3.imp fun {a b} h => by
  have h4 := h.1; have h5 := h.2; simp at h4; omega
/-- A disk that answers. -/
structure Up (A : DA) : Prop where
 dn : A.down = false
 pl : ∀ x, A.plan x = 0
theorem Up.sE {A : DA} (h : Up A) {s : ByteArray} (hn : nameB s = true) : A.sE s = 0 := by
 unfold DA.sE; rw [h.dn, if_neg (by simp), if_pos hn]; unfold DA.k; rw [h.pl]; rfl
theorem Up.next {A : DA} (h : Up A) (s : ByteArray) (e : Int) (l' : List Tf) : Up (dDo A s e l').2 := by
 obtain ⟨b1, b2, b3⟩ := sS_rest A s; refine ⟨?_, fun x => ?_⟩
 · show (A.sS s).down = false
   unfold DA.sS; rw [h.dn, if_neg (by simp)]; split
   · show decide (A.k = 3) = false
     unfold DA.k; rw [h.pl]; rfl
   · exact h.dn
 · show (A.sS s).plan x = 0
   rw [b2]; exact h.pl x
/-- What load makes of a file that has whole frames, and something behind them or not. -/
theorem ldx_file {A A' : DA} {P P' : PL} {n c z : Int} {last : Bool} {pre : List (List Int)} {t : List Int} (hu : Up A) (hn : nameB (fileB logB n) = true) (hf : fT A.l (nmF n) = some (nmF n, joinF pre ++ t, z)) (hl : ∀ r ∈ pre, r.length ≤ 65536) (ht : t = [] ∨ (nx t).1 ≠ 0) (h : LdX A P n last c A' P') :
 (P.fs ≠ [] ∧ n ≠ P.en ∧ c = 34) ∨ ((P.fs = [] ∨ n = P.en) ∧
   ((t ≠ [] ∧ ¬ ((nx t).1 = 10 ∧ last = true) ∧ c = 34) ∨ (P' = { P with fs := P.fs ++ [n], rs := P.rs ++ pre, size := (joinF pre).length } ∧
     ((t = [] ∧ c = 0 ∧ A' = (dRead A (fileB logB n)).2) ∨ (t ≠ [] ∧ (nx t).1 = 10 ∧ last = true ∧ c = (dTru (dRead A (fileB logB n)).2 (fileB logB n) (joinF pre).length).1 ∧ A' = (dTru (dRead A (fileB logB n)).2 (fileB logB n) (joinF pre).length).2))))) := by
 have hf' : fT A.l (nb (fileB logB n)) = some (nmF n, joinF pre ++ t, z) := hf; have hR : (dRead A (fileB logB n)).1 = 0 := by
  show (if A.sE _ = 0 then eFind _ _ else A.sE _) = 0; rw [if_pos (hu.sE hn)]; unfold eFind; rw [if_pos hn, hf']; rfl
 have hB : dBytes A (fileB logB n) = joinF pre ++ t := by
  unfold dBytes; rw [if_pos (hu.sE hn), hf']
 have hT := joinF_took hl t pre.length (Nat.le_refl _); rw [List.take_length] at hT; have hD : (joinF pre ++ t).drop (joinF pre).length = t := List.drop_left; have hS : (joinF pre).length = (joinF pre ++ t).length ∨ (nx ((joinF pre ++ t).drop (joinF pre).length)).1 ≠ 0 := by
  rw [hD]; exact ht.imp (fun e => by rw [e, List.append_nil]) id
 unfold LdX at h; rw [hB] at h; rcases h with ⟨h1, _⟩ | ⟨_, h2⟩
 · exact absurd hR h1
 · rcases h2 with ⟨h3, h4, h5, _⟩ | ⟨h3, h4⟩
   · exact Or.inl ⟨h3, h4, h5⟩
   · refine Or.inr ⟨h3, ?_⟩
     rcases h4 with ⟨h5, _, k, rs, h6, h7, h8, h9⟩ | ⟨k, rs, h6, h7, h8⟩
     · obtain ⟨rfl, rfl⟩ := hT.unique h6 hS (Or.inr h8)
       rw [hD] at h8 h9; refine Or.inl ⟨fun e => ?_, h9, h5⟩; rw [e, List.append_nil] at h7; omega
     · have hS' : k = (joinF pre ++ t).length ∨ (nx ((joinF pre ++ t).drop k)).1 ≠ 0 := by
        rcases h8 with ⟨h9, _⟩ | ⟨_, h9, _⟩
        · exact Or.inl h9
        · exact Or.inr (by rw [h9]; decide)
       obtain ⟨rfl, rfl⟩ := hT.unique h6 hS hS'; refine Or.inr ⟨h7, ?_⟩; rw [hD] at h8; rcases h8 with ⟨h9, h10, h11⟩ | ⟨h9, h10, h11, h12, h13⟩
       · refine Or.inl ⟨?_, h10, h11⟩
         rw [List.length_append] at h9; exact List.length_eq_zero_iff.1 (by omega)
       · refine Or.inr ⟨fun e => ?_, h10, h11, h12, h13⟩
         rw [e, List.append_nil] at h9; omega
end Go.Proofs.YtconkienlcegaaaGreatDoor
